/- Package edge: pushed. -/
import Derived.Test.YtojdocomkhihoaaHj1
set_option linter.unusedSimpArgs false
set_option linter.unusedVariables false
namespace Go.Proofs.Ytojdocomkhihoaa
open Go Go.RowKit Go.Shelf Ed

theorem pu_result2 {fn : Func} {p u : Tmp} (h : fn.results = #[.cell p 109, .tmp u]) (tmps : Array Value) (w : World) (g : Nat) (x : List Int)
    (hp : tmps.getD p undef = .pointer (some ⟨g, 0, none⟩)) (hF : PuBlk w g x) (hm : x.length = 8) : (results fn tmps).run Try.prog w = .ok (.tuple #[.agg (chC x), tmps.getD u undef]) w := by
  rw [results_cell_tmp h, hp]
  simp [asAddr, pu_var hF hm, Result.andThen]
theorem puBuilt0 : Try.prog.built 109 [] = some (chC z8) := by kernel_rfl
set_option maxRecDepth 100000 in
set_option maxHeartbeats 8000000 in
theorem pushed_any (c : Cas) (hv : Valid c) (sv ev : Value) (ws : List Int) (hw : ws.length = 16) (hsb : SpBd ws) (p : List Int) (hpl : p.length = 8) (K : Int) (hK0 : 0 ≤ K) (hpb : PuB K p) (hK : K ≤ 80000) (w : World) (hC : CasAt w c sv ev) :
    Calls Try.prog 99 #[.agg (lkC c.tol sv ev ws), .agg (chC p)] w fun e w' => (∀ q, pushedM c ws p = some q → e = .returned (.tuple #[.agg (chC q), .bool true])) ∧ (pushedM c ws p = none → e = .returned (.tuple #[.agg (chC z8), .bool false])) ∧ Below w.heap.size w w' := by
  obtain ⟨sa, n, sc, rfl, hn⟩ : ∃ a n cc, sv = .slice a n cc ∧ n = c.shs.length := by obtain ⟨_, a, cap, h, _⟩ := hC.shs; exact ⟨_, _, _, h, rfl⟩
  obtain ⟨ea, m, ec, rfl, hm⟩ : ∃ a n cc, ev = .slice a n cc ∧ n = c.eds.length := by obtain ⟨_, a, cap, h, _⟩ := hC.eds; exact ⟨_, _, _, h, rfl⟩
  have n5 := hv.n5
  rw [← hn] at n5
  have HNN := Lib.hid hn
  have HW := Lib.hid hw
  have HSB := Lib.hid hsb
  have HPL := Lib.hid hpl
  have HPB := Lib.hid hpb
  have HV := Lib.hid hv
  have HC := Lib.hid hC
  obtain ⟨W, hW, q1, q2, q3, hb, hs⟩ := al3 w (Obj.cells (lkC c.tol (.slice sa n sc) (.slice ea m ec) ws) 89) (Obj.cells (chC p) 109) (Obj.cells (chC z8) 109)
  have K1 : Hid (LkBlk W w.heap.size c.tol (.slice sa n sc) (.slice ea m ec) ws) := q1
  have K2 : Hid (PuBlk W (w.heap.size + 1) p) := q2
  have K3 : Hid (PuBlk W (w.heap.size + 1 + 1) z8) := q3
  have KA : Hid (LkBlk (((w.alloc (Obj.cells (lkC c.tol (.slice sa n sc) (.slice ea m ec) ws) 89)).alloc (Obj.cells (chC p) 109)).alloc (Obj.cells (chC z8) 109)) w.heap.size c.tol (.slice sa n sc) (.slice ea m ec) ws) := by show LkBlk _ _ _ _ _ _; rw [hW]; exact q1
  have KB : Hid (PuBlk (((w.alloc (Obj.cells (lkC c.tol (.slice sa n sc) (.slice ea m ec) ws) 89)).alloc (Obj.cells (chC p) 109)).alloc (Obj.cells (chC z8) 109)) (w.heap.size + 1) p) := by show PuBlk _ _ _; rw [hW]; exact q2
  have HB := Lib.hid hb
  have HWW := Lib.hid hW
  have HBD := Lib.hid (bound_any c (.slice sa n sc) (.slice ea m ec) ws hw hsb p hpl (fun i => by have := hpb i; omega) W (hC.below hb) hv)
  have HPU := Lib.hid (fun before lb pb bb nb fb hd => push1_any c hv (.slice sa n sc) (.slice ea m ec) ws hw hsb before lb pb bb nb fb w hC hd)
  have hzp := (zero_of_info puZero).1
  have HZB := Lib.hid (zero_of_info bnZero).1
  have HPM : Hid (pushedM c ws p = firstSm (fun s => pushM c ws (bndC c ws p) 6 s p no5) 0 n) := by show _ = _; rw [HNN.out]; rfl
  obtain ⟨res, hres⟩ : ∃ r, pushedM c ws p = r := ⟨_, rfl⟩
  rw [hres] at HPM ⊢
  obtain ⟨bef, hbef⟩ : ∃ v, bndC c ws p = v := ⟨_, rfl⟩
  rw [hbef] at HPM HBD
  clear hW q1 q2 q3 hb hs hw hsb hpl hpb hv hC hres hbef hn hm
  go_enter Try.func99, Try.ntmps99
  go_wp2_with (first
    | (refine lk_loadw (by rfl) (.tmp 2) rfl w.heap.size rfl c.tol (.slice sa n sc) (.slice ea m ec) ws KA.out HW.out ?_)
    | (refine pu_loadw (by rfl) (.tmp 3) rfl (w.heap.size + 1) rfl p KB.out HPL.out ?_))
  rw [HWW.out]
  refine HBD.out.mono ?_
  rintro e w2 ⟨rfl, hb2⟩
  have J1 := Lib.hid (K1.out.below hb2 K1.out.lt)
  have J2 := Lib.hid (K2.out.below hb2 K2.out.lt)
  have J3 := Lib.hid (K3.out.below hb2 K3.out.lt)
  have JB := Lib.hid (HB.out.trans (hb2.mono HB.out.size))
  have hsz2 : w.heap.size + 1 + 1 < w2.heap.size := J3.out.lt
  obtain ⟨V, hV, v1, v2, v3, hbV, hsV⟩ := al3 w2 (Obj.cells #[.int .i64 bef] 3) (Obj.cells (bnC no5) 156) (Obj.cells #[(.func (.func 110) #[] #[.pointer (some ⟨w.heap.size, 0, none⟩), .pointer (some ⟨w.heap.size + 1, 0, none⟩), .pointer (some ⟨w2.heap.size, 0, none⟩), .pointer (some ⟨w2.heap.size + 1, 0, none⟩), .pointer (some ⟨w2.heap.size + 1 + 1, 0, none⟩)])] 153)
  have HVV := Lib.hid hV
  have L1 := Lib.hid (J1.out.below hbV J1.out.lt)
  have L2 := Lib.hid (J2.out.below hbV J2.out.lt)
  have L3 := Lib.hid (J3.out.below hbV J3.out.lt)
  have LB := Lib.hid (JB.out.trans (hbV.mono JB.out.size))
  have LS : Hid (PuSt c (.slice sa n sc) (.slice ea m ec) ws bef w.heap.size (w.heap.size + 1) w2.heap.size (w2.heap.size + 1) (w2.heap.size + 1 + 1) w V) := ⟨L1.out, v1, v3, LB.out⟩
  have LN : Hid (BnBlk V (w2.heap.size + 1) no5) := v2
  have HD : Hid (PuDis w.heap.size (w.heap.size + 1) w2.heap.size (w2.heap.size + 1) (w2.heap.size + 1 + 1) w.heap.size) := ⟨by omega, by omega, by omega, by omega, by omega, by omega, by omega, by omega, by omega⟩
  have cs1 : (((w2.alloc (Obj.cells #[.int .i64 bef] 3)).alloc (Obj.cells (bnC no5) 156)).alloc (Obj.cells #[(.func (.func 110) #[] #[.pointer (some ⟨w.heap.size, 0, none⟩), .pointer (some ⟨w.heap.size + 1, 0, none⟩), .pointer (some ⟨w2.heap.size, 0, none⟩), .pointer (some ⟨w2.heap.size + 1, 0, none⟩), .pointer (some ⟨w2.heap.size + 1 + 1, 0, none⟩)])] 153)).cell? ⟨w.heap.size, 1, none⟩ = some (.slice sa n sc) := by rw [hV]; exact L1.out.c1
  have csl : w.heap.size < (((w2.alloc (Obj.cells #[.int .i64 bef] 3)).alloc (Obj.cells (bnC no5) 156)).alloc (Obj.cells #[(.func (.func 110) #[] #[.pointer (some ⟨w.heap.size, 0, none⟩), .pointer (some ⟨w.heap.size + 1, 0, none⟩), .pointer (some ⟨w2.heap.size, 0, none⟩), .pointer (some ⟨w2.heap.size + 1, 0, none⟩), .pointer (some ⟨w2.heap.size + 1 + 1, 0, none⟩)])] 153)).heap.size := by rw [hV]; exact L1.out.lt
  have hz := HZB.out
  clear KA KB K1 K2 K3 HB HWW hb2 HBD hzp hV v1 v2 v3 hbV hsV J1 J2 J3 JB
  go_wp2_with fail
  rw [HVV.out]
  clear cs1 csl HVV
  have nI : (n : Int) ≤ 5 := by omega
  go_loopg [18] n (fun g v wr => ∃ k : Nat, g + k = n ∧ v = .int .i64 k ∧ Hid (∀ j, j < k → pushM c ws bef 6 j p no5 = none) ∧ Hid (PuBlk wr (w.heap.size + 1) p) ∧ Hid (BnBlk wr (w2.heap.size + 1) no5) ∧ Hid (PuSt c (.slice sa n sc) (.slice ea m ec) ws bef w.heap.size (w.heap.size + 1) w2.heap.size (w2.heap.size + 1) (w2.heap.size + 1 + 1) w wr) ∧ Hid (PuBlk wr (w.heap.size + 1 + 1) z8))
  case atStart => exact ⟨0, by omega, rfl, fun j hj => absurd hj (Nat.not_lt_zero _), L2, LN, LS, L3⟩
  case round =>
    clear L1 L2 LN LS L3 LB
    obtain ⟨k, hk, rfl, HT, L2, LN, LS, L3⟩ := hrel
    by_cases hkn : k < n
    · have kI : (k : Int) < (n : Int) := by omega
      have hff := cellOf LS.out.cf 0 _ rfl
      have hfl := lt_of_block LS.out.cf
      have HCL := Lib.hid (HPU.out bef w.heap.size (w.heap.size + 1) w2.heap.size (w2.heap.size + 1) (w2.heap.size + 1 + 1) HD.out 6 k p no5 K wr (by decide) rfl (by rw [← HNN.out]; exact hkn) HPL.out hK0 HPB.out (by omega) LS.out L2.out LN.out)
      go_wp2_with fail
      refine HCL.out.mono ?_
      rintro e wi ⟨hb6, hyes, hno⟩
      have S6 := Lib.hid (LS.out.b2 HD.out hb6)
      have Z6 : Hid (PuBlk wi (w.heap.size + 1 + 1) z8) := (hb6.block _ L3.out.lt (by omega) (by omega)).trans L3.out
      obtain ⟨r, hr⟩ : ∃ r, pushM c ws bef 6 k p no5 = r := ⟨_, rfl⟩
      have HFK := Lib.hid hr
      rw [hr] at hyes hno
      clear hr hff hfl HCL hb6 L2 LN LS L3
      cases r with
      | some q =>
        obtain ⟨rfl, hq⟩ := hyes q rfl
        have HRS : Hid (res = some q) := by show _ = _; rw [HPM.out]; exact firstSm_at _ n k q hkn HT.out HFK.out
        have HQ := Lib.hid hq
        have HQL : Hid (q.length = 8) := by show _ = _; rw [(pushM_some c ws bef 6 k p no5 q K hK0 HPB.out HFK.out).2.1]; exact HPL.out
        clear hyes hno hq
        go_wp2_with (first
          | (refine pu_loadw (by rfl) (.tmp 3) rfl (w.heap.size + 1) rfl q HQ.out HQL.out ?_)
          | (refine pu_store rfl (.tmp 4) (.tmp 24) rfl (w.heap.size + 1 + 1) rfl q z8 rfl Z6.out HQL.out rfl rfl ?_))
        refine bodyPost_ret (pu_result2 rfl _ _ (w.heap.size + 1 + 1) q rfl (Z6.out.put q) HQL.out) rfl ⟨fun q' hq' => ?_, fun hq' => ?_, below_setRow S6.out.bw (by omega) _⟩
        · have e := HRS.out; rw [hq'] at e; obtain rfl : q' = q := by simpa using e
          rfl
        · have e := HRS.out; rw [hq'] at e; cases e
      | none =>
        obtain ⟨rfl, hp6, hn6⟩ := hno rfl
        have HP6 := Lib.hid hp6
        have HN6 := Lib.hid hn6
        have HT2 : Hid (∀ j, j < k + 1 → pushM c ws bef 6 j p no5 = none) := fun j hj => by
          by_cases e : j = k
          · subst e; exact HFK.out
          · exact HT.out j (by omega)
        clear hyes hno hp6 hn6 HT HFK
        go_wp2_with fail
        go_roundg (gk - 1)
        case measure => omega
        case rel => exact ⟨k + 1, by omega, by go_num, HT2, HP6, HN6, S6, Z6⟩
    · obtain rfl : n = k := by omega
      have kI : ¬ (n : Int) < (n : Int) := by omega
      have HRS : Hid (res = none) := by show _ = _; rw [HPM.out, firstSm_none]; exact fun j _ h2 => HT.out j (by omega)
      clear hk hkn HT
      go_wp2_with (first
        | (refine wpList_buildTo rfl 109 #[] rfl (some 26) rfl _ puBuilt0 ?_)
        | (refine pu_store rfl (.tmp 4) (.tmp 26) rfl (w.heap.size + 1 + 1) rfl z8 z8 rfl L3.out rfl rfl rfl ?_))
      refine bodyPost_ret (pu_result2 rfl _ _ (w.heap.size + 1 + 1) z8 rfl (L3.out.put z8) rfl) rfl ⟨fun q hq => ?_, fun _ => rfl, below_setRow LS.out.bw (by omega) _⟩
      have e := HRS.out
      rw [hq] at e
      cases e
end Go.Proofs.Ytojdocomkhihoaa
