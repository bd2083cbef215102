/- Package edge: Check. -/
import Derived.Test.YtojdocomkhihoaaEt
import Derived.Shelf.RegionOpen
set_option linter.unusedSimpArgs false
set_option linter.unusedVariables false
namespace Go.Proofs.Ytojdocomkhihoaa
open Go Go.RowKit Ed

/-- A case in memory. -/
structure CasAt (w : World) (c : Cas) (sv ev : Value) : Prop where
  shs : ShtsAt w sv c.shs
  eds : EdgsAt w ev c.eds
theorem CasAt.below {w w' : World} {c : Cas} {sv ev : Value} (h : CasAt w c sv ev) (hb : Below w.heap.size w w') : CasAt w' c sv ev := ⟨h.shs.below hb, h.eds.below hb⟩
theorem checkC_tol {c : Cas} (h : inB 0 50 c.tol = false) : checkC c = (1, 0, 7) := by unfold checkC; rw [if_pos h]
theorem checkC_len {c : Cas} (h : inB 0 50 c.tol = true) (h2 : inB 1 5 (c.shs.length : Int) = false ∨ 8 < c.eds.length) : checkC c = (1, 0, 3) := by unfold checkC; rw [if_neg (by simp [h]), if_pos h2]
theorem checkC_sht {c : Cas} (h : inB 0 50 c.tol = true) (h2 : ¬ (inB 1 5 (c.shs.length : Int) = false ∨ 8 < c.eds.length)) (k : Nat) (hk : k < c.shs.length) (hz : ∀ j, j < k → shErr (c.shs.take j) (c.shs.getD j default) = 0) (hx : shErr (c.shs.take k) (c.shs.getD k default) ≠ 0) :
    checkC c = (2, (k : Int), shErr (c.shs.take k) (c.shs.getD k default)) := by
  have e : shsE c = ((k : Int), shErr (c.shs.take k) (c.shs.getD k default)) := firstW_at _ _ k hk hz hx
  unfold checkC
  rw [if_neg (by simp [h]), if_neg h2, if_pos (by rw [e]; exact hx), e]
theorem checkC_edg {c : Cas} (h : inB 0 50 c.tol = true) (h2 : ¬ (inB 1 5 (c.shs.length : Int) = false ∨ 8 < c.eds.length)) (hs : ∀ j, j < c.shs.length → shErr (c.shs.take j) (c.shs.getD j default) = 0) (k : Nat) (hk : k < c.eds.length) (hz : ∀ j, j < k → edErr c.shs.length (c.eds.getD j default) = 0) (hx : edErr c.shs.length (c.eds.getD k default) ≠ 0) :
    checkC c = (3, (k : Int), edErr c.shs.length (c.eds.getD k default)) := by
  have e : shsE c = (0, 0) := firstW_all _ _ hs
  have e2 : edsE c = ((k : Int), edErr c.shs.length (c.eds.getD k default)) := firstW_at _ _ k hk hz hx
  unfold checkC
  rw [if_neg (by simp [h]), if_neg h2, if_neg (by rw [e]; simp), if_pos (by rw [e2]; exact hx), e2]
theorem checkC_ok {c : Cas} (h : inB 0 50 c.tol = true) (h2 : ¬ (inB 1 5 (c.shs.length : Int) = false ∨ 8 < c.eds.length)) (hs : ∀ j, j < c.shs.length → shErr (c.shs.take j) (c.shs.getD j default) = 0) (hz : ∀ j, j < c.eds.length → edErr c.shs.length (c.eds.getD j default) = 0) :
    checkC c = (0, 0, 0) := by
  have e : shsE c = (0, 0) := firstW_all _ _ hs
  have e2 : edsE c = (0, 0) := firstW_all _ _ hz
  unfold checkC
  rw [if_neg (by simp [h]), if_neg h2, if_neg (by rw [e]; simp), if_neg (by rw [e2]; simp)]
set_option maxRecDepth 100000 in
theorem undShts : Try.prog.underlying 22 = some (.slice 66) := by kernel_rfl
set_option maxRecDepth 100000 in
theorem infoSht : (Try.prog.info? 66).map (fun i => i.size) = some 3 := by kernel_rfl
set_option maxRecDepth 100000 in
theorem elemShts : Try.prog.elem 22 = 66 := by kernel_rfl
theorem sizeShts (w : World) : (sizeOf (Try.prog.elem 22)).run Try.prog w = .ok 3 w := by
  rw [elemShts]
  have h := infoSht
  cases hq : Try.prog.info? 66 with
  | none => simp [hq] at h
  | some i => simp [hq] at h; simp [sizeOf, typeInfo, hq, h]
set_option maxRecDepth 100000 in
theorem exec_shts {a : Act} {o : Oper} {x h : Operand} {sa : Option Addr} {k sc n : Nat} (ho : o.op = .slice 22 x none (some h) none) (hx : a.eval x = .slice sa k sc) (hh : a.eval h = .int .i64 n) (hn : n ≤ sc) (w : World) :
    (execOp a.eval o).run Try.prog w = .ok (.value (.slice sa n sc)) w := by
  have e := run_slice_h (P := Try.prog) w 22 sa k sc undShts .i64 (n : Int) (by omega) (by omega)
  simp only [execOp, ho, hx, hh, Sem.run_bind, Option.map_some, Option.map_none, run_sliceAt_slice (P := Try.prog) w _ _ _ _ _ undShts, e, sizeShts, Result.andThen, sliced, Sem.run_pure]
  have hz : sa.map (fun x => x.add 0) = sa := by cases sa <;> simp [Addr.add]
  simp [hz]
set_option maxRecDepth 100000 in
set_option maxHeartbeats 16000000 in
theorem check_any (c : Cas) (sv ev : Value) (w : World) (hC : CasAt w c sv ev) :
    Calls Try.prog 16 #[.agg #[.int .i64 c.tol, sv, ev]] w fun e w' => e = .returned (.tuple #[.int .i64 (checkC c).1, .int .i64 (checkC c).2.1, .int .i64 (checkC c).2.2]) ∧ Below w.heap.size w w' := by
  obtain ⟨tol, shs, eds⟩ := c
  obtain ⟨hS, hE⟩ := hC
  simp only at hS hE ⊢
  obtain ⟨ls, sa, sc, rfl, lsc, hsn, _⟩ := id hS
  obtain ⟨le, ea, ec, rfl, lec, _⟩ := id hE
  obtain ⟨n, hn⟩ : ∃ n, shs.length = n := ⟨_, rfl⟩
  obtain ⟨m, hm⟩ : ∃ m, eds.length = m := ⟨_, rfl⟩
  rw [hn] at ls lsc hS ⊢
  rw [hm] at le lec hE ⊢
  have HNM := Lib.hid hsn
  have HNN := Lib.hid hn
  have HMM := Lib.hid hm
  obtain ⟨C, hC⟩ : ∃ C, (⟨tol, shs, eds⟩ : Cas) = C := ⟨_, rfl⟩
  have HC := Lib.hid hC
  rw [hC]
  obtain ⟨⟨c1, c2, c3⟩, hcc⟩ : ∃ x, checkC C = x := ⟨_, rfl⟩
  have HK := Lib.hid hcc
  rw [hcc]
  simp only
  have hB : Below w.heap.size w (w.alloc (Obj.cells #[.int .i64 tol, .slice sa n sc, .slice ea m ec] 25)) := by go_grown
  have HB := Lib.hid hB
  have HS := Lib.hid (hS.below hB)
  have HE := Lib.hid (hE.below hB)
  have HG := Lib.hid (heap_alloc_new w (Obj.cells #[.int .i64 tol, .slice sa n sc, .slice ea m ec] 25))
  have nI : (n : Int) ≤ 4611686018427387904 := by omega
  have mI : (m : Int) ≤ 4611686018427387904 := by omega
  clear hS hE hB hsn hn hm hC hcc
  go_enter Try.func16, Try.ntmps16
  go_wp2_with fail
  have hsz : w.heap.size + 1 = (w.alloc (Obj.cells #[.int .i64 tol, .slice sa n sc, .slice ea m ec] 25)).heap.size := by simp
  generalize w.alloc (Obj.cells #[.int .i64 tol, .slice sa n sc, .slice ea m ec] 25) = w0 at *
  have h1 := within_1 0 50 tol w0 (w.heap.size + 1) 3 hsz
  obtain ⟨B1, hB1⟩ : ∃ B, okIn 0 50 tol = B := ⟨_, rfl⟩
  have HB1 : Hid (inB 0 50 tol = B1) := hB1
  rw [hB1] at h1
  have HC1 := Lib.hid h1
  clear h1 hB1
  clear hsz
  refine HC1.out.mono ?_
  rintro e w1 ⟨rfl, rfl⟩
  clear HC1
  have hb1 : Below w0.heap.size w0 (w0.alloc (Obj.cells #[.int .i64 tol] 3)) := by go_grown
  have HB' := Lib.hid (HB.out.trans (hb1.mono HB.out.size))
  have HS' := Lib.hid (HS.out.below hb1)
  have HE' := Lib.hid (HE.out.below hb1)
  have HG' := Lib.hid ((hb1.block _ (lt_of_block HG.out)).trans HG.out)
  generalize w0.alloc (Obj.cells #[.int .i64 tol] 3) = w1 at *
  clear hb1 HB HS HE HG
  have HB := HB'
  clear HB'
  have HS := HS'
  clear HS'
  have HE := HE'
  clear HE'
  have HG := HG'
  clear HG'
  cases B1
  · have hr := checkC_tol (c := C) (by rw [← HC.out]; exact HB1.out)
    rw [HK.out] at hr
    simp only [Prod.mk.injEq] at hr
    obtain ⟨rfl, rfl, rfl⟩ := hr
    go_wp2_with fail
    refine bodyPost_ret (results_tmp3 rfl _ _ _) rfl ?_
    exact ⟨rfl, HB.out⟩
  · have HT : Hid (inB 0 50 C.tol = true) := by show _ = _; rw [← HC.out]; exact HB1.out
    have g0 := cellOf HG.out 0 _ rfl
    have g1 := cellOf HG.out 1 _ rfl
    have g2 := cellOf HG.out 2 _ rfl
    have gl := lt_of_block HG.out
    have h1 := within_1 1 5 (n : Int) w1 w1.heap.size 3 rfl
    obtain ⟨B2, hB2⟩ : ∃ B, okIn 1 5 (n : Int) = B := ⟨_, rfl⟩
    have HB2 : Hid (inB 1 5 (n : Int) = B2) := hB2
    rw [hB2] at h1
    have HC1 := Lib.hid h1
    clear h1 hB2
    go_wp2_with fail
    clear g0 g1 g2 gl
    refine HC1.out.mono ?_
    rintro e w2 ⟨rfl, rfl⟩
    clear HC1
    have hb1 : Below w1.heap.size w1 (w1.alloc (Obj.cells #[.int .i64 n] 3)) := by go_grown
    have HB' := Lib.hid (HB.out.trans (hb1.mono HB.out.size))
    have HS' := Lib.hid (HS.out.below hb1)
    have HE' := Lib.hid (HE.out.below hb1)
    have HG' := Lib.hid ((hb1.block _ (lt_of_block HG.out)).trans HG.out)
    generalize w1.alloc (Obj.cells #[.int .i64 n] 3) = w2 at *
    clear hb1 HB HS HE HG
    have HB := HB'
    clear HB'
    have HS := HS'
    clear HS'
    have HE := HE'
    clear HE'
    have HG := HG'
    clear HG'
    have g0 := cellOf HG.out 0 _ rfl
    have g1 := cellOf HG.out 1 _ rfl
    have g2 := cellOf HG.out 2 _ rfl
    have gl := lt_of_block HG.out
    have HCL : Hid (C.shs.length = n) := by show _ = _; rw [← HC.out]; exact HNN.out
    have HCM : Hid (C.eds.length = m) := by show _ = _; rw [← HC.out]; exact HMM.out
    cases B2
    · skip
      have hr := checkC_len (c := C) HT.out (by rw [HCL.out, HCM.out]; exact Or.inl HB2.out)
      rw [HK.out] at hr
      simp only [Prod.mk.injEq] at hr
      obtain ⟨rfl, rfl, rfl⟩ := hr
      go_wp2_with fail
      refine bodyPost_ret (results_tmp3 rfl _ _ _) rfl ?_
      exact ⟨rfl, HB.out⟩
    · by_cases hm8 : 8 < m
      · have m8I : (8 : Int) < (m : Int) := by omega
        have hr := checkC_len (c := C) HT.out (by rw [HCL.out, HCM.out]; exact Or.inr hm8)
        rw [HK.out] at hr
        simp only [Prod.mk.injEq] at hr
        obtain ⟨rfl, rfl, rfl⟩ := hr
        go_wp2_with fail
        refine bodyPost_ret (results_tmp3 rfl _ _ _) rfl ?_
        exact ⟨rfl, HB.out⟩
      · have m8I : ¬ (8 : Int) < (m : Int) := by omega
        have HLN : Hid (¬ (inB 1 5 (C.shs.length : Int) = false ∨ 8 < C.eds.length)) := by show ¬ _; rw [HCL.out, HCM.out, HB2.out]; simp; omega
        have hn5 : n ≤ 5 := by have := HB2.out; unfold inB at this; simp at this; omega
        have nI5 : (n : Int) ≤ 5 := by omega
        go_wp2_with fail
        clear g0 g1 g2 gl m8I
        go_loopg [31] n (fun g v wr => ∃ k : Nat, g + k = n ∧ v = .int .i64 k ∧ Hid (∀ j, j < k → shErr (C.shs.take j) (C.shs.getD j default) = 0) ∧ Hid (Below w2.heap.size w2 wr))
        case atStart => exact ⟨0, by omega, rfl, fun j hj => absurd hj (Nat.not_lt_zero _), Below.refl _ _⟩
        case round =>
          obtain ⟨k, hk, rfl, HZ, HL⟩ := hrel
          have HSk := Lib.hid (HS.out.below HL.out)
          have HEk := Lib.hid (HE.out.below HL.out)
          have HGk := Lib.hid ((HL.out.block _ (lt_of_block HG.out)).trans HG.out)
          have HBk := Lib.hid (HB.out.trans (HL.out.mono HB.out.size))
          have g0 := cellOf HGk.out 0 _ rfl
          have g1 := cellOf HGk.out 1 _ rfl
          have g2 := cellOf HGk.out 2 _ rfl
          have gl := lt_of_block HGk.out
          by_cases hkn : k < n
          · have kI : (k : Int) < (n : Int) := by omega
            have hk' : k < shs.length := by rw [HNN.out]; exact hkn
            obtain ⟨sb, so, rfl, d0, d1, d2⟩ := HSk.out.get hk'
            have hget : C.shs.getD k default = shs[k] := by rw [← HC.out]; simp [List.getD_eq_getElem?_getD, hk']
            have hnm := HNM.out shs[k] (List.getElem_mem hk')
            obtain ⟨er, her⟩ : ∃ er, shErr (shs.take k) shs[k] = er := ⟨_, rfl⟩
            have HER : Hid (shErr (C.shs.take k) (C.shs.getD k default) = er) := by show _ = _; rw [hget, ← her, ← HC.out]
            have hct := HSk.out.take k (by omega)
            generalize shs[k] = s at *
            obtain ⟨nm, wt, most⟩ := s
            simp only at d0 d1 d2 hnm
            have hba : Below wr.heap.size wr (wr.alloc (Obj.cells #[.string nm, .int .i64 wt, .int .i64 most] 66)) := by go_grown
            have HSF : Hid (∀ W', Below (wr.alloc (Obj.cells #[.string nm, .int .i64 wt, .int .i64 most] 66)).heap.size (wr.alloc (Obj.cells #[.string nm, .int .i64 wt, .int .i64 most] 66)) W' → Calls Try.prog 49 #[.agg #[.string nm, .int .i64 wt, .int .i64 most], .slice (some ⟨sb, so, none⟩) k sc] W' fun e w' => e = .returned (.int .i64 er) ∧ Below W'.heap.size W' w') := fun W' hb => by
              have h := sheetFault_any ⟨nm, wt, most⟩ _ (shs.take k) W' ((hct.below hba).below hb) (by rw [List.length_take]; omega) hnm
              rw [her] at h
              exact h
            have hsl := World.block_lt_of_cell? wr ⟨sb, so + k * 3, none⟩ d0
            have ksc : k ≤ sc := by omega
            clear hget hct her hk' hnm
            have HBA := Lib.hid (HL.out.trans (hba.mono HL.out.size))
            have HX0 := Lib.hid (heap_alloc_new wr (Obj.cells #[.string nm, .int .i64 wt, .int .i64 most] 66))
            have HGa := Lib.hid ((hba.block _ (lt_of_block HGk.out)).trans HGk.out)
            have HBa := Lib.hid (HBk.out.trans (hba.mono HBk.out.size))
            go_wp2_with fail
            clear d0 d1 d2 hba g0 g1 g2 gl hsl
            generalize hwa : wr.alloc (Obj.cells #[.string nm, .int .i64 wt, .int .i64 most] 66) = wa at *
            clear hwa
            have x0 := cellOf HX0.out 0 _ rfl
            have x1 := cellOf HX0.out 1 _ rfl
            have x2 := cellOf HX0.out 2 _ rfl
            have g1 := cellOf HGa.out 1 _ rfl
            refine wp_region_noPanic ?_
            refine wp_region_held_drew (S := (fun W' => W'.cell? ⟨wr.heap.size, 0, none⟩ = some (.string nm) ∧ W'.cell? ⟨wr.heap.size, 1, none⟩ = some (.int .i64 wt) ∧ W'.cell? ⟨wr.heap.size, 2, none⟩ = some (.int .i64 most) ∧ W'.cell? ⟨w.heap.size, 1, none⟩ = some (.slice (some ⟨sb, so, none⟩) n sc))) (by kernel_rfl) ?_ (fun hh0 => ?_)
            · try dsimp only
              exact ⟨x0, x1, x2, g1⟩
            refine wpAnyH_take (i := 0) (v := ?_) rfl (by as_aux_lemma => kernel_rfl) (by as_aux_lemma => kernel_rfl) (by as_aux_lemma => kernel_rfl) (fun _ _ _ h => h) (Or.inl ⟨by rfl, ?_⟩) (by assumption) ?_
            rotate_left
            · intro w hSw
              try dsimp only at hSw
              go_simp
              try with_reducible rfl
            try simp only [Act.put, List.getElem_toArray, List.getElem_cons_succ, List.getElem_cons_zero, List.setIfInBounds_toArray, List.set_cons_zero, List.set_cons_succ]
            refine wpAnyH_take (i := 1) (v := ?_) rfl (by as_aux_lemma => kernel_rfl) (by as_aux_lemma => kernel_rfl) (by as_aux_lemma => kernel_rfl) (fun _ _ _ h => h) (Or.inl ⟨by rfl, ?_⟩) (by assumption) ?_
            rotate_left
            · intro w hSw
              try dsimp only at hSw
              go_simp
              try with_reducible rfl
            try simp only [Act.put, List.getElem_toArray, List.getElem_cons_succ, List.getElem_cons_zero, List.setIfInBounds_toArray, List.set_cons_zero, List.set_cons_succ]
            refine wpAnyH_take (i := 2) (v := ?_) rfl (by as_aux_lemma => kernel_rfl) (by as_aux_lemma => kernel_rfl) (by as_aux_lemma => kernel_rfl) (fun _ _ _ h => h) (Or.inl ⟨by rfl, ?_⟩) (by assumption) ?_
            rotate_left
            · intro w hSw
              try dsimp only at hSw
              go_simp
              try with_reducible rfl
            try simp only [Act.put, List.getElem_toArray, List.getElem_cons_succ, List.getElem_cons_zero, List.setIfInBounds_toArray, List.set_cons_zero, List.set_cons_succ]
            refine wpAnyH_take (i := 3) (v := ?_) rfl (by as_aux_lemma => kernel_rfl) (by as_aux_lemma => kernel_rfl) (by as_aux_lemma => kernel_rfl) (fun _ _ _ h => h) (Or.inl ⟨by rfl, ?_⟩) (by assumption) ?_
            rotate_left
            · intro w hSw
              try dsimp only at hSw
              go_simp
              try with_reducible rfl
            try simp only [Act.put, List.getElem_toArray, List.getElem_cons_succ, List.getElem_cons_zero, List.setIfInBounds_toArray, List.set_cons_zero, List.set_cons_succ]
            refine wpAnyH_take (i := 4) (v := .slice (some ⟨sb, so, none⟩) k sc) rfl (by as_aux_lemma => kernel_rfl) (by as_aux_lemma => kernel_rfl) (by as_aux_lemma => kernel_rfl) (fun _ _ _ h => h) (Or.inl ⟨by rfl, ?_⟩) (by assumption) ?_
            · intro w hSw; exact exec_shts (by rfl) (by rfl) (by rfl) ksc w
            try simp only [Act.put, List.getElem_toArray, List.getElem_cons_succ, List.getElem_cons_zero, List.setIfInBounds_toArray, List.set_cons_zero, List.set_cons_succ]
            refine wpAnyH_ready (rs := [5]) (by as_aux_lemma => kernel_rfl) (by simp) ?_
            refine AllReadyH.cons rfl (fun K hK => ?_) AllReadyH.nil
            go_simp
            refine (HSF.out wa.drew ⟨rfl, rfl, rfl, Nat.le_refl _, fun _ _ => rfl⟩).mono ?_
            rintro e wg ⟨rfl, hbg⟩
            refine hK.out _ _ ?_ (fun hh1 => ?_)
            · try dsimp only
              exact ⟨keepK hh0.1 hbg, keepK hh0.2.1 hbg, keepK hh0.2.2.1 hbg, keepK hh0.2.2.2 hbg⟩
            clear hK K hh0
            try simp only [Act.put, List.getElem_toArray, List.getElem_cons_succ, List.getElem_cons_zero, List.setIfInBounds_toArray, List.set_cons_zero, List.set_cons_succ]
            refine wpAnyH_ready (rs := [6]) (by as_aux_lemma => kernel_rfl) (by simp) ?_
            refine AllReadyH.cons rfl (fun K hK => ?_) AllReadyH.nil
            go_simp
            refine hK.out _ _ ?_ (fun hh2 => ?_)
            · try dsimp only
              exact hh1
            clear hK K hh1
            try simp only [Act.put, List.getElem_toArray, List.getElem_cons_succ, List.getElem_cons_zero, List.setIfInBounds_toArray, List.set_cons_zero, List.set_cons_succ]
            refine wpAnyH_done (by as_aux_lemma => kernel_rfl) ?_ _
            refine NoPanic.normal ?_
            have HBg : Hid (Below wa.heap.size wa wg) := Below.trans (b := wa.drew) ⟨rfl, rfl, rfl, Nat.le_refl _, fun _ _ => rfl⟩ hbg
            have HLg := Lib.hid (HBA.out.trans (HBg.out.mono HBA.out.size))
            have HFg := Lib.hid (HBa.out.trans (HBg.out.mono HBa.out.size))
            clear hh2 hbg x0 x1 x2 g1 HX0 HGa HBa HBA HBg HSF
            by_cases her0 : er = 0
            · subst her0
              have HZ2 : Hid (∀ j, j < k + 1 → shErr (C.shs.take j) (C.shs.getD j default) = 0) := fun j hj => by
                by_cases e : j = k
                · subst e; exact HER.out
                · exact HZ.out j (by omega)
              clear HZ HER
              go_wp2
              go_roundg (gk - 1)
              case measure => omega
              case rel => exact ⟨k + 1, by omega, by go_num, HZ2, HLg⟩
            · have te : (er != 0) = true := by simp [her0]
              have hr := checkC_sht HT.out HLN.out k (by rw [HCL.out]; exact hkn) HZ.out (by rw [HER.out]; exact her0)
              rw [HK.out, HER.out] at hr
              simp only [Prod.mk.injEq] at hr
              obtain ⟨rfl, rfl, rfl⟩ := hr
              go_wp2_with fail
              refine bodyPost_ret (results_tmp3 rfl _ _ _) rfl ?_
              exact ⟨rfl, HFg.out⟩
          · obtain rfl : k = n := by omega
            have HZS : Hid (∀ j, j < C.shs.length → shErr (C.shs.take j) (C.shs.getD j default) = 0) := by show ∀ j, _; rw [HCL.out]; exact HZ.out
            have kI : ¬ (k : Int) < (k : Int) := by omega
            clear hkn hk HZ HB HS HE HG HL HSk
            go_wp2_with fail
            clear g0 g1 g2 gl kI
            obtain ⟨wo, hwo⟩ : ∃ wo, wo = wr := ⟨_, rfl⟩
            subst hwo
            go_loopg [50] m (fun g v wr => ∃ j : Nat, g + j = m ∧ v = .int .i64 j ∧ Hid (∀ i, i < j → edErr C.shs.length (C.eds.getD i default) = 0) ∧ Hid (Below wo.heap.size wo wr))
            case atStart => exact ⟨0, by omega, rfl, fun j hj => absurd hj (Nat.not_lt_zero _), Below.refl _ _⟩
            case round =>
              obtain ⟨j, hj, rfl, HZ, HL⟩ := hrel
              have HEj := Lib.hid (HEk.out.below HL.out)
              have HGj := Lib.hid ((HL.out.block _ (lt_of_block HGk.out)).trans HGk.out)
              have HBj := Lib.hid (HBk.out.trans (HL.out.mono HBk.out.size))
              have g0 := cellOf HGj.out 0 _ rfl
              have g1 := cellOf HGj.out 1 _ rfl
              have g2 := cellOf HGj.out 2 _ rfl
              have gl := lt_of_block HGj.out
              by_cases hjm : j < m
              · have jI : (j : Int) < (m : Int) := by omega
                have hj' : j < eds.length := by rw [HMM.out]; exact hjm
                obtain ⟨eb, eo, pa, pc, rfl, d0, d1, d2, hpp⟩ := HEj.out.get hj'
                have hget : C.eds.getD j default = eds[j] := by rw [← HC.out]; simp [List.getD_eq_getElem?_getD, hj']
                obtain ⟨er, her⟩ : ∃ er, edErr k eds[j] = er := ⟨_, rfl⟩
                have HER : Hid (edErr C.shs.length (C.eds.getD j default) = er) := by show _ = _; rw [hget, ← her, HCL.out]
                generalize eds[j] = d at *
                obtain ⟨da, db, ps⟩ := d
                simp only at d0 d1 d2 hpp
                obtain ⟨np, hnp⟩ : ∃ np, ps.length = np := ⟨_, rfl⟩
                rw [hnp] at d2 hpp
                have HNP := Lib.hid hnp
                have hba : Below wr.heap.size wr (wr.alloc (Obj.cells #[.int .i64 da, .int .i64 db, .slice pa np pc] 71)) := by go_grown
                have HEF : Hid (Calls Try.prog 50 #[.agg #[.int .i64 da, .int .i64 db, .slice pa np pc], .int .i64 k] (wr.alloc (Obj.cells #[.int .i64 da, .int .i64 db, .slice pa np pc] 71)) fun e w' => e = .returned (.int .i64 er) ∧ Below (wr.alloc (Obj.cells #[.int .i64 da, .int .i64 db, .slice pa np pc] 71)).heap.size (wr.alloc (Obj.cells #[.int .i64 da, .int .i64 db, .slice pa np pc] 71)) w') := by
                  have h := edgeFault_any ⟨da, db, ps⟩ _ k _ (hpp.below hba) hn5
                  rw [her] at h
                  exact h
                have hsl := World.block_lt_of_cell? wr ⟨eb, eo + j * 3, none⟩ d0
                have HBA := Lib.hid (HL.out.trans (hba.mono HL.out.size))
                have HBa := Lib.hid (HBj.out.trans (hba.mono HBj.out.size))
                clear hget her hj' hpp hnp
                go_wp2_with fail
                refine HEF.out.mono ?_
                rintro e wg ⟨rfl, hbg⟩
                have HLg := Lib.hid (HBA.out.trans (hbg.mono HBA.out.size))
                have HFg := Lib.hid (HBa.out.trans (hbg.mono HBa.out.size))
                clear hbg d0 d1 d2 hba g0 g1 g2 gl hsl HBa HBA HEF
                by_cases her0 : er = 0
                · subst her0
                  have HZ2 : Hid (∀ i, i < j + 1 → edErr C.shs.length (C.eds.getD i default) = 0) := fun i hi => by
                    by_cases e : i = j
                    · subst e; exact HER.out
                    · exact HZ.out i (by omega)
                  clear HZ HER
                  go_wp2
                  go_roundg (gk - 1)
                  case measure => omega
                  case rel => exact ⟨j + 1, by omega, by go_num, HZ2, HLg⟩
                · have te : (er != 0) = true := by simp [her0]
                  have hr := checkC_edg HT.out HLN.out HZS.out j (by rw [HCM.out]; exact hjm) HZ.out (by rw [HER.out]; exact her0)
                  rw [HK.out, HER.out] at hr
                  simp only [Prod.mk.injEq] at hr
                  obtain ⟨rfl, rfl, rfl⟩ := hr
                  go_wp2_with fail
                  refine bodyPost_ret (results_tmp3 rfl _ _ _) rfl ?_
                  exact ⟨rfl, HFg.out⟩
              · obtain rfl : j = m := by omega
                have hr := checkC_ok HT.out HLN.out HZS.out (by rw [HCM.out]; exact HZ.out)
                rw [HK.out] at hr
                simp only [Prod.mk.injEq] at hr
                obtain ⟨rfl, rfl, rfl⟩ := hr
                have jI : ¬ (j : Int) < (j : Int) := by omega
                clear hjm hj
                go_wp2_with fail
                refine bodyPost_ret (results_tmp3 rfl _ _ _) rfl ?_
                exact ⟨rfl, HBj.out⟩
end Go.Proofs.Ytojdocomkhihoaa
