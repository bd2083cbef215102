/- Package edge: proof. -/
import Derived.Test.YtojdocomkhihoaaHk1
set_option linter.unusedSimpArgs false
set_option linter.unusedVariables false
namespace Go.Proofs.Ytojdocomkhihoaa
open Go Go.RowKit Go.Shelf Ed

theorem pu_result {fn : Func} {p : Tmp} (h : fn.results = #[.cell p 109]) (tmps : Array Value) (w : World) (g : Nat) (m : List Int)
    (hp : tmps.getD p undef = .pointer (some ⟨g, 0, none⟩)) (hF : PuBlk w g m) (hm : m.length = 8) : (results fn tmps).run Try.prog w = .ok (.agg (chC m)) w :=
  results_cell_row h tmps w g 109 (chC m) (0, 0) _ hp hF Try.underlying109 rfl (by rw [puSize, ch_size, hm])
set_option maxRecDepth 100000 in
set_option maxHeartbeats 8000000 in
theorem proof_any (c : Cas) (hv : Valid c) (sv ev : Value) (ws : List Int) (hw : ws.length = 16) (hsb : SpBd ws) (r : List Int) (hr : proofGo c ws 700 z8 = some r) (w : World) (hC : CasAt w c sv ev) :
    Calls Try.prog 77 #[.agg (lkC c.tol sv ev ws)] w fun e w' => e = .returned (.agg (chC r)) ∧ Below w.heap.size w w' := by
  obtain ⟨sa, n, sc, rfl, hn⟩ : ∃ a n cc, sv = .slice a n cc ∧ n = c.shs.length := by obtain ⟨_, a, cap, h, _⟩ := hC.shs; exact ⟨_, _, _, h, rfl⟩
  obtain ⟨ea, m, ec, rfl, hm⟩ : ∃ a n cc, ev = .slice a n cc ∧ n = c.eds.length := by obtain ⟨_, a, cap, h, _⟩ := hC.eds; exact ⟨_, _, _, h, rfl⟩
  clear hn hm
  have HW := Lib.hid hw
  have HSB := Lib.hid hsb
  have HV := Lib.hid hv
  have HC := Lib.hid hC
  have HR := Lib.hid hr
  obtain ⟨W, hW, q1, q2, q3, hb, hs⟩ := al3 w (Obj.cells (lkC c.tol (.slice sa n sc) (.slice ea m ec) ws) 89) (Obj.cells (chC z8) 109) (Obj.cells (chC z8) 109)
  have K1 : Hid (LkBlk W w.heap.size c.tol (.slice sa n sc) (.slice ea m ec) ws) := q1
  have K2 : Hid (PuBlk W (w.heap.size + 1) z8) := q2
  have K3 : Hid (PuBlk W (w.heap.size + 1 + 1) z8) := q3
  have HB := Lib.hid hb
  have HWW := Lib.hid hW
  have hzp := (zero_of_info puZero).1
  have HZP := Lib.hid hzp
  have HZB : Hid (PuB 0 z8) := fun i => by rw [z8_get]; omega
  clear hW q1 q2 q3 hb hs hw hsb hv hC hr
  go_enter Try.func77, Try.ntmps77
  go_wp2_with fail
  rw [HWW.out]
  clear HWW hzp
  go_loopg [5] 700 (fun g u V => ∃ (p : List Int) (K : Int), Hid (proofGo c ws g p = some r) ∧ Hid (p.length = 8) ∧ Hid (PuB K p) ∧ Hid (0 ≤ K ∧ K + 6 * (g : Int) ≤ 4200) ∧ Hid (LkBlk V w.heap.size c.tol (.slice sa n sc) (.slice ea m ec) ws) ∧ Hid (PuBlk V (w.heap.size + 1) z8) ∧ Hid (PuBlk V (w.heap.size + 1 + 1) p) ∧ Hid (Below w.heap.size w V))
  case atStart => exact ⟨z8, 0, HR, rfl, HZB, ⟨by omega, by decide⟩, K1, K2, K3, HB⟩
  case round =>
    clear K1 K2 K3 HB HZB HR
    obtain ⟨p, K, HGO, HPL, HPB, HK, K1, K2, K3, HB⟩ := hrel
    cases gk with
    | zero => exact absurd HGO.out (by simp [proofGo])
    | succ gg =>
      have HGO : Hid ((if bndC c ws p ≤ dearC c then (match pushedM c ws p with | none => some p | some q => proofGo c ws gg q) else some p) = some r) := HGO.out
      have hKK := HK.out
      have HKK : Hid (0 ≤ K ∧ K + 6 + 6 * (gg : Int) ≤ 4200) := ⟨hKK.1, by have := hKK.2; push_cast at this; omega⟩
      have HBD := Lib.hid (fun (V : World) (hb : Below w.heap.size w V) => bound_any c (.slice sa n sc) (.slice ea m ec) ws HW.out HSB.out p HPL.out (fun i => by have := HPB.out i; have := HKK.out; omega) V (HC.out.below hb) HV.out)
      have HDE := Lib.hid (fun (V : World) (hb : Below w.heap.size w V) => dearest_any c (.slice sa n sc) (.slice ea m ec) ws V (HC.out.below hb) HV.out)
      have HPU := Lib.hid (fun (V : World) (hb : Below w.heap.size w V) => pushed_any c HV.out (.slice sa n sc) (.slice ea m ec) ws HW.out HSB.out p HPL.out K HKK.out.1 HPB.out (by have := HKK.out; omega) V (HC.out.below hb))
      obtain ⟨bv, hbv⟩ : ∃ v, bndC c ws p = v := ⟨_, rfl⟩
      obtain ⟨dv, hdv⟩ : ∃ v, dearC c = v := ⟨_, rfl⟩
      rw [hbv, hdv] at HGO
      rw [hbv] at HBD
      rw [hdv] at HDE
      clear hbv hdv hKK HK
      go_wp2_with fail
      refine wp_region_noPanic ?_
      refine wp_region_held_drew (S := (fun W' => LkBlk W' w.heap.size c.tol (.slice sa n sc) (.slice ea m ec) ws ∧ PuBlk W' (w.heap.size + 1) z8 ∧ PuBlk W' (w.heap.size + 1 + 1) p ∧ Below w.heap.size w W')) (by kernel_rfl) ?_ (fun hh0 => ?_)
      · try dsimp only
        exact ⟨K1.out, K2.out, K3.out, HB.out.drew⟩
      refine wpAnyH_take (i := 0) (v := .agg (lkC c.tol (.slice sa n sc) (.slice ea m ec) ws)) rfl (by as_aux_lemma => kernel_rfl) (by as_aux_lemma => kernel_rfl) (by as_aux_lemma => kernel_rfl) (fun _ _ _ h => h) (Or.inl ⟨by rfl, ?_⟩) (by assumption) ?_
      · exact fun w hSw => lk_exec (.tmp 1) rfl rfl hSw.1 HW.out
      try simp only [Act.put, List.getElem_toArray, List.getElem_cons_succ, List.getElem_cons_zero, List.setIfInBounds_toArray, List.set_cons_zero, List.set_cons_succ]
      refine wpAnyH_take (i := 1) (v := .agg (chC p)) rfl (by as_aux_lemma => kernel_rfl) (by as_aux_lemma => kernel_rfl) (by as_aux_lemma => kernel_rfl) (fun _ _ _ h => h) (Or.inl ⟨by rfl, ?_⟩) (by assumption) ?_
      · exact fun w hSw => pu_exec (.tmp 3) rfl rfl hSw.2.2.1 HPL.out
      try simp only [Act.put, List.getElem_toArray, List.getElem_cons_succ, List.getElem_cons_zero, List.setIfInBounds_toArray, List.set_cons_zero, List.set_cons_succ]
      refine wpAnyH_take (i := 3) (v := .agg (lkC c.tol (.slice sa n sc) (.slice ea m ec) ws)) rfl (by as_aux_lemma => kernel_rfl) (by as_aux_lemma => kernel_rfl) (by as_aux_lemma => kernel_rfl) (fun _ _ _ h => h) (Or.inl ⟨by rfl, ?_⟩) (by assumption) ?_
      · exact fun w hSw => lk_exec (.tmp 1) rfl rfl hSw.1 HW.out
      try simp only [Act.put, List.getElem_toArray, List.getElem_cons_succ, List.getElem_cons_zero, List.setIfInBounds_toArray, List.set_cons_zero, List.set_cons_succ]
      refine wpAnyH_ready (rs := [2]) (by as_aux_lemma => kernel_rfl) (by simp) ?_
      refine AllReadyH.cons rfl (fun K hK => ?_) AllReadyH.nil
      go_simp
      refine (HBD.out _ hh0.2.2.2).mono ?_
      rintro e wg ⟨rfl, hbg⟩
      refine hK.out _ _ ?_ (fun hh1 => ?_)
      · try dsimp only
        exact ⟨hh0.1.below hbg hh0.1.lt, hh0.2.1.below hbg hh0.2.1.lt, hh0.2.2.1.below hbg hh0.2.2.1.lt, hh0.2.2.2.trans (hbg.mono hh0.2.2.2.size)⟩
      clear hK K hh0
      try simp only [Act.put, List.getElem_toArray, List.getElem_cons_succ, List.getElem_cons_zero, List.setIfInBounds_toArray, List.set_cons_zero, List.set_cons_succ]
      refine wpAnyH_ready (rs := [4]) (by as_aux_lemma => kernel_rfl) (by simp) ?_
      refine AllReadyH.cons rfl (fun K hK => ?_) AllReadyH.nil
      go_simp
      refine (HDE.out _ hh1.2.2.2).mono ?_
      rintro e wh ⟨rfl, hbh⟩
      refine hK.out _ _ ?_ (fun hh2 => ?_)
      · try dsimp only
        exact ⟨hh1.1.below hbh hh1.1.lt, hh1.2.1.below hbh hh1.2.1.lt, hh1.2.2.1.below hbh hh1.2.2.1.lt, hh1.2.2.2.trans (hbh.mono hh1.2.2.2.size)⟩
      clear hK K hh1
      try simp only [Act.put, List.getElem_toArray, List.getElem_cons_succ, List.getElem_cons_zero, List.setIfInBounds_toArray, List.set_cons_zero, List.set_cons_succ]
      refine wpAnyH_take (i := 5) (v := ?_) rfl (by as_aux_lemma => kernel_rfl) (by as_aux_lemma => kernel_rfl) (by as_aux_lemma => kernel_rfl) (fun _ _ _ h => h) (Or.inl ⟨by rfl, ?_⟩) (by assumption) ?_
      rotate_left
      · intro w hSw
        try dsimp only at hSw
        go_simp
        try with_reducible rfl
      try simp only [Act.put, List.getElem_toArray, List.getElem_cons_succ, List.getElem_cons_zero, List.setIfInBounds_toArray, List.set_cons_zero, List.set_cons_succ]
      refine wpAnyH_done (by as_aux_lemma => kernel_rfl) ?_ _
      refine NoPanic.normal ?_
      have T1 := Lib.hid hh2
      clear hh2 hbg hbh K1 K2 K3 HB HBD HDE
      by_cases hle : bv ≤ dv
      · rw [if_pos hle] at HGO
        obtain ⟨res, hres⟩ : ∃ x, pushedM c ws p = x := ⟨_, rfl⟩
        have HRES := Lib.hid hres
        rw [hres] at HGO
        have HPV := Lib.hid (HPU.out wh T1.out.2.2.2)
        rw [hres] at HPV
        clear hres HPU
        go_wp2_with (first
          | (refine pu_loadw (by rfl) (.tmp 3) rfl (w.heap.size + 1 + 1) rfl p T1.out.2.2.1 HPL.out ?_)
          | (refine lk_loadw (by rfl) (.tmp 1) rfl w.heap.size rfl c.tol (.slice sa n sc) (.slice ea m ec) ws T1.out.1 HW.out ?_))
        refine HPV.out.mono ?_
        rintro e wi ⟨hyes, hno, hbi⟩
        have U : Hid (LkBlk wi w.heap.size c.tol (.slice sa n sc) (.slice ea m ec) ws ∧ PuBlk wi (w.heap.size + 1) z8 ∧ PuBlk wi (w.heap.size + 1 + 1) p ∧ Below w.heap.size w wi) := ⟨T1.out.1.below hbi T1.out.1.lt, T1.out.2.1.below hbi T1.out.2.1.lt, T1.out.2.2.1.below hbi T1.out.2.2.1.lt, T1.out.2.2.2.trans (hbi.mono T1.out.2.2.2.size)⟩
        clear T1 HPV hbi hle
        cases res with
        | some q =>
          have he := hyes q rfl
          subst he
          clear hyes hno
          have HGQ : Hid (proofGo c ws gg q = some r) := HGO.out
          have HQ := Lib.hid (pushedM_some c ws p q K HKK.out.1 HPB.out HRES.out)
          have HQL : Hid (q.length = 8) := by show _ = _; rw [HQ.out.2.1]; exact HPL.out
          have HK6 : Hid (0 ≤ K + 6 ∧ K + 6 + 6 * (gg : Int) ≤ 4200) := ⟨by have := HKK.out; omega, HKK.out.2⟩
          have N0 : Hid (PuBlk (wi.alloc (Obj.cells (chC z8) 109)) wi.heap.size z8) := heap_alloc_new wi _
          have b7 : Below wi.heap.size wi ((wi.alloc (Obj.cells (chC z8) 109)).setRow wi.heap.size (chC q)) := below_setRow ((Below.refl _ _).alloc (Nat.le_refl _) _) (Nat.le_refl _) _
          have UN : Hid (PuBlk ((wi.alloc (Obj.cells (chC z8) 109)).setRow wi.heap.size (chC q)) wi.heap.size q) := N0.out.put q
          have U7 : Hid (LkBlk ((wi.alloc (Obj.cells (chC z8) 109)).setRow wi.heap.size (chC q)) w.heap.size c.tol (.slice sa n sc) (.slice ea m ec) ws ∧ PuBlk ((wi.alloc (Obj.cells (chC z8) 109)).setRow wi.heap.size (chC q)) (w.heap.size + 1) z8 ∧ PuBlk ((wi.alloc (Obj.cells (chC z8) 109)).setRow wi.heap.size (chC q)) (w.heap.size + 1 + 1) p ∧ Below w.heap.size w ((wi.alloc (Obj.cells (chC z8) 109)).setRow wi.heap.size (chC q))) := ⟨U.out.1.below b7 U.out.1.lt, U.out.2.1.below b7 U.out.2.1.lt, U.out.2.2.1.below b7 U.out.2.2.1.lt, U.out.2.2.2.trans (b7.mono U.out.2.2.2.size)⟩
          have hzp := HZP.out
          clear b7 U
          clear HGO
          go_wp2_with (first
            | (refine pu_store rfl (.tmp 4) (.tmp 16) rfl wi.heap.size rfl q z8 rfl N0.out HQL.out rfl rfl ?_; generalize hWS : (wi.alloc (Obj.cells (chC z8) 109)).setRow wi.heap.size (chC q) = W7 at *; clear hWS)
            | (refine pu_loadw (by rfl) (.tmp 4) rfl wi.heap.size rfl q UN.out HQL.out ?_)
            | (refine pu_store rfl (.tmp 3) (.tmp 20) rfl (w.heap.size + 1 + 1) rfl q p rfl U7.out.2.2.1 HQL.out HPL.out rfl ?_))
          go_roundg gg
          case measure => omega
          case rel => exact ⟨q, K + 6, HGQ, HQL, HQ.out.2.2, HK6, (setRow_other _ _ _ _ (by omega)).trans U7.out.1, (setRow_other _ _ _ _ (by omega)).trans U7.out.2.1, U7.out.2.2.1.put q, below_setRow U7.out.2.2.2 (by omega) _⟩
        | none =>
          have he := hno rfl
          subst he
          clear hyes hno
          have HEQ : Hid (p = r) := by have h := HGO.out; simp at h; exact h
          have N0 : Hid (PuBlk (wi.alloc (Obj.cells (chC z8) 109)) wi.heap.size z8) := heap_alloc_new wi _
          have b7 : Below wi.heap.size wi ((wi.alloc (Obj.cells (chC z8) 109)).setRow wi.heap.size (chC z8)) := below_setRow ((Below.refl _ _).alloc (Nat.le_refl _) _) (Nat.le_refl _) _
          have UN : Hid (PuBlk ((wi.alloc (Obj.cells (chC z8) 109)).setRow wi.heap.size (chC z8)) wi.heap.size z8) := N0.out.put z8
          have U7 : Hid (LkBlk ((wi.alloc (Obj.cells (chC z8) 109)).setRow wi.heap.size (chC z8)) w.heap.size c.tol (.slice sa n sc) (.slice ea m ec) ws ∧ PuBlk ((wi.alloc (Obj.cells (chC z8) 109)).setRow wi.heap.size (chC z8)) (w.heap.size + 1) z8 ∧ PuBlk ((wi.alloc (Obj.cells (chC z8) 109)).setRow wi.heap.size (chC z8)) (w.heap.size + 1 + 1) p ∧ Below w.heap.size w ((wi.alloc (Obj.cells (chC z8) 109)).setRow wi.heap.size (chC z8))) := ⟨U.out.1.below b7 U.out.1.lt, U.out.2.1.below b7 U.out.2.1.lt, U.out.2.2.1.below b7 U.out.2.2.1.lt, U.out.2.2.2.trans (b7.mono U.out.2.2.2.size)⟩
          have hzp := HZP.out
          clear b7 U
          clear HGO
          go_wp2_with (first
            | (refine pu_store rfl (.tmp 4) (.tmp 16) rfl wi.heap.size rfl z8 z8 rfl N0.out rfl rfl rfl ?_; generalize hWS : (wi.alloc (Obj.cells (chC z8) 109)).setRow wi.heap.size (chC z8) = W7 at *; clear hWS)
            | (refine pu_loadw (by rfl) (.tmp 3) rfl (w.heap.size + 1 + 1) rfl p U7.out.2.2.1 HPL.out ?_)
            | (refine pu_store rfl (.tmp 2) (.tmp 21) rfl (w.heap.size + 1) rfl p z8 rfl U7.out.2.1 HPL.out rfl rfl ?_))
          exact bodyPost_ret (pu_result rfl _ _ (w.heap.size + 1) p rfl (U7.out.2.1.put p) HPL.out) rfl ⟨by rw [HEQ.out], below_setRow U7.out.2.2.2 (by omega) _⟩
      · rw [if_neg hle] at HGO
        have hlt : dv < bv := by omega
        have HEQ : Hid (p = r) := by have h := HGO.out; simp at h; exact h
        clear HGO HPU
        go_wp2_with (first
          | (refine pu_loadw (by rfl) (.tmp 3) rfl (w.heap.size + 1 + 1) rfl p T1.out.2.2.1 HPL.out ?_)
          | (refine pu_store rfl (.tmp 2) (.tmp 21) rfl (w.heap.size + 1) rfl p z8 rfl T1.out.2.1 HPL.out rfl rfl ?_))
        exact bodyPost_ret (pu_result rfl _ _ (w.heap.size + 1) p rfl (T1.out.2.1.put p) HPL.out) rfl ⟨by rw [HEQ.out], below_setRow T1.out.2.2.2 (by omega) _⟩
end Go.Proofs.Ytojdocomkhihoaa
