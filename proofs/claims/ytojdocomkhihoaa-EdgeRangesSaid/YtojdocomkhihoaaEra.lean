/- EdgeRanges: the call returns true, whatever its arguments and the memory in which it begins; its arguments read as they did. -/
import Derived.Test.YtojdocomkhihoaaErb
import Derived.Deep.CutRange
import Derived.Laws.StructEq
import Derived.Test.YtojdocomkhihoaaRows
import Derived.Test.YtojdocomkhihoaaEar
import Derived.ProofKit
import Derived.JoinedOf
import Derived.JoinedAt
set_option linter.unusedSimpArgs false
set_option linter.unusedVariables false
namespace Go.Proofs.Ytojdocomkhihoaa
open Go Go.RowKit Go.Shelf Ed

set_option maxRecDepth 100000 in
set_option maxHeartbeats 16000000 in
theorem rall_any (c : Cas) (hv : Valid c) (sv ev : Value) (sheet : Nat) (hsh : sheet < c.shs.length) : ∀ (r : Nat) (l : List Int) (lv : Value) (w : World) (B : Nat), l.length + r = c.shs.length → (∀ i, -1000 ≤ l.getD i 0 ∧ l.getD i 0 ≤ 1000) → CasAt w c sv ev → B ≤ w.heap.size → w.ownsRow B 3 1 lv l.length (l.map (Value.int .i64)) →
    Calls Try.prog 64 #[.agg #[.int .i64 c.tol, sv, ev], lv, .int .i64 (sheet : Int)] w fun e w' => ∃ v, e = .returned v ∧ FdVal w' v B (allM c sheet r l) ∧ Below w.heap.size w w' := by
  intro r
  induction r with
  | zero =>
    intro l lv w B hr hbd hC hB hL
    exact rall_zero c sv ev sheet l lv w B (by omega) hsh hC hB hL
  | succ r ih =>
    intro l lv w B hr hbd hC hB hL
    obtain ⟨n, hn⟩ : ∃ n, c.shs.length = n := ⟨_, rfl⟩
    obtain ⟨q, hq⟩ : ∃ q, l.length = q := ⟨_, rfl⟩
    obtain ⟨tol, htol⟩ : ∃ t, c.tol = t := ⟨_, rfl⟩
    have hS := hC.shs
    obtain ⟨_, sa, sc, rfl, _⟩ := id hS
    obtain ⟨ea, em, ec, rfl⟩ : ∃ a n cc, ev = .slice a n cc := by obtain ⟨_, a, cap, h, _⟩ := hC.eds; exact ⟨_, _, _, h⟩
    obtain ⟨la, lc, rfl⟩ := own_slice hL
    have n5 := hv.n5
    have hqn : q < c.shs.length := by omega
    have hsk := hv.sh _ (List.getElem_mem hqn)
    have hmo : (c.shs.getD l.length default).most = c.shs[q].most := by subst hq; rw [getD_lt _ _ hqn]
    obtain ⟨_, _, m0, m6⟩ := hsk
    obtain ⟨most, hmost⟩ : ∃ z, c.shs[q].most = z := ⟨_, rfl⟩
    rw [hmost] at m0 m6 hmo
    obtain ⟨K, hK⟩ : ∃ K, (2 * most + 1).toNat = K := ⟨_, rfl⟩
    have hres : allM c sheet (r + 1) l = allQ c (allM c sheet r) l most K := by simp only [allM]; rw [hmo, hK]
    rw [hres]
    have hgood : ∀ k, k ≤ 13 → GoodF c.shs.length (allQ c (allM c sheet r) l most k) := allQ_good c _ _ l most (fun x h1 h2 => allM_good c hv sheet r (l ++ [x]) (by simp; omega) (snoc_bd hbd ⟨h1, h2⟩)) m0 m6
    have hgood2 : ∀ x, -1000 ≤ x → x ≤ 1000 → GoodF c.shs.length (allM c sheet r (l ++ [x])) := fun x h1 h2 => allM_good c hv sheet r (l ++ [x]) (by simp; omega) (snoc_bd hbd ⟨h1, h2⟩)
    have HQS : Hid (∀ k, allQ c (allM c sheet r) l most (k + 1) = joinF c (allQ c (allM c sheet r) l most k) (if fitsC c (l ++ [(k : Int) - most]) = true then allM c sheet r (l ++ [(k : Int) - most]) else none)) := fun k => rfl
    have hq0 : allQ c (allM c sheet r) l most 0 = none := rfl
    rw [hq] at hL ⊢
    rw [hn] at hS n5 hC ih hgood hgood2 ⊢
    obtain ⟨W, hW, q1, q2, q3, hb, hsz⟩ := al3 w (Obj.cells #[.int .i64 tol, .slice sa n sc, .slice ea em ec] 25) (Obj.cells #[.bool false, .slice none 0 0, .int .i64 0, .int .i64 0] 105) (Obj.cells #[.bool false, .slice none 0 0, .int .i64 0, .int .i64 0] 105)
    obtain ⟨sb, so, hsa, d0, d1, d2⟩ := hS.get hqn
    have sbl : sb < w.heap.size := World.block_lt_of_cell? w _ d2
    have sb0 : ¬ sb = w.heap.size := by omega
    have sb1 : ¬ sb = w.heap.size + 1 := by omega
    have sb2 : ¬ sb = w.heap.size + 1 + 1 := by omega
    subst hsa
    rw [hmost] at d2
    have HD2 := Lib.hid (keepK d2 hb)
    obtain ⟨u, hu⟩ : ∃ u, w.heap.size + 1 + 1 = u := ⟨_, rfl⟩
    have u1 : w.heap.size < u := by omega
    have u2 : w.heap.size + 1 < u := by omega
    have hul : u < W.heap.size := by omega
    rw [hu] at q3
    have HU := Lib.hid hu
    have HR := Lib.hid q1
    have HP := Lib.hid q2
    have FB0 : Hid (FdBlk W u (u + 1) (allQ c (allM c sheet r) l most 0)) := by show FdBlk _ _ _ _; rw [hq0]; exact q3
    have HC := Lib.hid hC
    have HLO := Lib.hid (intsAt_own (l := l) (by rw [hq]; exact hL) (by omega))
    have HW := Lib.hid hW
    have HB := Lib.hid hb
    have HV := Lib.hid hv
    have HBD := Lib.hid hbd
    have HIH := Lib.hid ih
    have HTOL := Lib.hid htol
    have HQ := Lib.hid hq
    have HNN := Lib.hid hn
    have HGD := Lib.hid hgood
    have HG2 := Lib.hid hgood2
    have HRN : Hid (q + 1 + r = n) := by show _ = _; omega
    have hBu : B ≤ u := by omega
    have q5 : q < 5 := by omega
    have qI : (q : Int) < (n : Int) := by omega
    have tqn : ((q : Int) == (n : Int)) = false := by rw [beq_eq_false_iff_ne]; omega
    obtain ⟨nm, hnm⟩ : ∃ z, -most = z := ⟨_, rfl⟩
    have sneg : IntKind.i64.wrap (-most) = nm := by rw [← hnm, IntKind.wrap_i64] <;> omega
    have HKM : Hid ((K : Int) = 2 * most + 1) := by show _ = _; omega
    have HNM := Lib.hid hnm
    have K13 : K ≤ 13 := by omega
    have nm6 : -6 ≤ nm := by omega
    have nm0 : nm ≤ 0 := by omega
    rw [htol]
    clear hW hb hS hC hL hv hbd ih hmo hmost hK hr hn hq htol d0 d1 hnm hres hq0 hgood hgood2 q1 q2 q3 hu hsz hB
    go_enter Try.func64, Try.ntmps64
    go_upto_region 4 with fail
    rw [HW.out, HU.out]
    have d2W := HD2.out
    have r1 := cellOf HR.out 1 _ rfl
    go_wp2_with fail
    clear sneg tqn d2 sbl sb0 sb1 sb2 d2W r1
    go_loopg [9] K (fun gh i wr => ∃ k : Nat, gh + k = K ∧ i = .int .i64 (nm + (k : Int)) ∧ Hid (FdBlk wr u (u + 1) (allQ c (allM c sheet r) l most k)) ∧ Hid (Below u W wr) ∧ u < wr.heap.size)
    case atStart => exact ⟨0, by omega, by simp, FB0, Below.refl _ _, hul⟩
    case round =>
      clear FB0
      obtain ⟨k, hk, rfl, HFB, HBB, hulr⟩ := hrel
      have hkm := HKM.out
      have hnmm := HNM.out
      obtain ⟨x, hx⟩ : ∃ x, nm + (k : Int) = x := ⟨_, rfl⟩
      rw [hx]
      have hxk : (k : Int) - most = x := by omega
      have R1 := Lib.hid ((HBB.out.block _ u1).trans HR.out)
      by_cases hlt : k < K
      · have xI : x ≤ most := by omega
        have x6 : -6 ≤ x := by omega
        have HBW := Lib.hid (HB.out.trans (HBB.out.mono (by omega : w.heap.size ≤ u)))
        have C1 := Lib.hid (HC.out.below HBW.out)
        have L1 := Lib.hid (HLO.out.below HBW.out)
        have HXK := Lib.hid hxk
        have HX := Lib.hid hx
        have hqs := HQS.out k
        rw [hxk] at hqs
        have HJ := Lib.hid hqs
        have gd1 := HGD.out k (by omega)
        have gd2 := HG2.out x (by omega) (by omega)
        have HG1 := Lib.hid gd1
        have HG3 := Lib.hid gd2
        obtain ⟨acc, hacc⟩ : ∃ a, allQ c (allM c sheet r) l most k = a := ⟨_, rfl⟩
        rw [hacc] at HFB HJ HG1
        have sx1 : IntKind.i64.wrap (x + 1) = x + 1 := by rw [IntKind.wrap_i64] <;> omega
        clear hkm hnmm hxk hx hqs gd1 gd2 hacc
        have hba : Below wr.heap.size wr (wr.alloc (Obj.cells #[] 3)) := (Below.refl _ _).alloc (Nat.le_refl _) _
        have hown := own_none wr 3 1
        have hsz : wr.heap.size ≤ (wr.alloc (Obj.cells #[] 3)).heap.size := by simp
        have L1a := Lib.hid (L1.out.below hba)
        go_wp2_with (at_builtin; refine wpl_ints rfl _ _ rfl wr.heap.size 0 _ _ [] l rfl rfl rfl hown L1a.out hsz (by have := HQ.out; simp; omega) ?_)
        intro v1 w5 hown5 hg5
        rw [HQ.out] at hown5
        have B5 := Lib.hid (hba.grown hg5 hsz (fun g hg => by have := (hown.lt g hg).1; exact this))
        obtain ⟨va, vc, rfl⟩ := own_slice hown5
        have H5 := Lib.hid hown5
        have hb6 : Below w5.heap.size w5 (w5.alloc (Obj.cells #[.int .i64 x] 3)) := (Below.refl _ _).alloc (Nat.le_refl _) _
        have hs5 : wr.heap.size ≤ w5.heap.size := B5.out.size
        have hs6 : wr.heap.size ≤ (w5.alloc (Obj.cells #[.int .i64 x] 3)).heap.size := by simp; omega
        clear hown5 hg5 hown L1a hba hsz
        go_wp2_with (at_builtin; refine wpl_app1 rfl _ _ rfl wr.heap.size q _ _ w5.heap.size x rfl rfl (H5.out.alloc _) (cellOf (heap_alloc_new w5 (Obj.cells #[.int .i64 x] 3)) 0 _ rfl) (by omega) hs6 ?_)
        intro v2 w7 hown7 hg7 _
        have B7 := Lib.hid ((B5.out.trans (hb6.mono hs5)).grown hg7 hs6 (fun g hg => by have := (H5.out.lt g hg).1; exact this))
        obtain ⟨va2, vc2, rfl⟩ := own_slice hown7
        have hl7 : (l ++ [x]).length = q + 1 := by simp [HQ.out]
        have I7 := Lib.hid (intsAt_own (l := l ++ [x]) (by rw [hl7, List.map_append]; exact hown7) (by omega))
        have O7 : Hid (w7.ownsRow wr.heap.size 3 1 (.slice va2 (q + 1) vc2) (l ++ [x]).length ((l ++ [x]).map (Value.int .i64))) := by
          show World.ownsRow _ _ _ _ _ _ _
          rw [hl7, List.map_append]
          exact hown7
        have R7 := Lib.hid ((B7.out.block _ (lt_of_block R1.out)).trans R1.out)
        have C7 := Lib.hid (C1.out.below B7.out)
        have F7 := Lib.hid (HFB.out.below B7.out)
        have BB7 := Lib.hid (HBB.out.trans (B7.out.mono (by omega)))
        have hfit := rfits_any c HV.out _ _ _ (l ++ [x]) w7 C7.out I7.out (by omega) (by omega) (snoc_bd HBD.out (by omega))
        rw [HTOL.out] at hfit
        have HF := Lib.hid hfit
        have hw7 : wr.heap.size ≤ w7.heap.size := B7.out.size
        clear hown7 hg7 H5 hb6 hs5 hs6 B5 hl7 hfit R1 C1 L1 B7 HBB HBW HFB
        have c0 := cellOf R7.out 0 _ rfl
        have c1 := cellOf R7.out 1 _ rfl
        have c2 := cellOf R7.out 2 _ rfl
        have cl := lt_of_block R7.out
        go_wp2_with fail
        refine HF.out.mono ?_
        rintro e w8 ⟨rfl, hb8⟩
        have R8 := Lib.hid ((hb8.block _ (lt_of_block R7.out)).trans R7.out)
        have C8 := Lib.hid (C7.out.below hb8)
        have O8 := Lib.hid (own_below O7.out hb8)
        have F8 := Lib.hid (F7.out.below hb8)
        have BB8 := Lib.hid (BB7.out.trans (hb8.mono (Nat.le_of_lt (Nat.lt_of_lt_of_le hul BB7.out.size))))
        have hu8 : u < w8.heap.size := by have := hb8.size; omega
        have hw8 : wr.heap.size ≤ w8.heap.size := by have := hb8.size; omega
        clear HF R7 C7 I7 O7 F7 BB7 hb8 c0 c1 c2 cl
        have c0 := cellOf R8.out 0 _ rfl
        have c1 := cellOf R8.out 1 _ rfl
        have c2 := cellOf R8.out 2 _ rfl
        have cl := lt_of_block R8.out
        cases hfb : fitsC c (l ++ [x])
        · have hj : allQ c (allM c sheet r) l most (k + 1) = acc := by
            rw [HJ.out, hfb, if_neg (by simp)]
            cases acc <;> rfl
          have F9 : Hid (FdBlk w8 u (u + 1) (allQ c (allM c sheet r) l most (k + 1))) := by show FdBlk _ _ _ _; rw [hj]; exact F8.out
          clear hfb hj
          go_wp2_with fail
          go_roundg (gk - 1)
          case measure => omega
          case rel => exact ⟨k + 1, by omega, by rw [show nm + ((k + 1 : Nat) : Int) = x + 1 by have := HX.out; omega], F9, BB8, hu8⟩
        · obtain ⟨o2, ho2⟩ : ∃ o, allM c sheet r (l ++ [x]) = o := ⟨_, rfl⟩
          have hj : allQ c (allM c sheet r) l most (k + 1) = joinF c acc o2 := by rw [HJ.out, hfb, if_pos rfl, ho2]
          have HJ2 := Lib.hid hj
          rw [ho2] at HG3
          have hall := HIH.out (l ++ [x]) (.slice va2 (q + 1) vc2) w8 wr.heap.size (by have := HRN.out; rw [List.length_append, HQ.out]; simp; omega) (snoc_bd HBD.out (by omega)) C8.out hw8 O8.out
          rw [HTOL.out, ho2] at hall
          have HA := Lib.hid hall
          clear hall hfb hj ho2 HJ
          go_wp2_with fail
          refine HA.out.mono ?_
          rintro e w9 ⟨v9, rfl, hv9, hb9⟩
          have R9 := Lib.hid ((hb9.block _ (lt_of_block R8.out)).trans R8.out)
          have C9 := Lib.hid (C8.out.below hb9)
          have F9 := Lib.hid (F8.out.below hb9)
          have BB9 := Lib.hid (BB8.out.trans (hb9.mono (Nat.le_of_lt (Nat.lt_of_lt_of_le hul BB8.out.size))))
          have hu9 : u < w9.heap.size := by have := hb9.size; omega
          clear HA R8 C8 O8 F8 BB8 hb9 c0 c1 c2 cl
          cases o2 with
          | none =>
            have hv9' : v9 = .agg #[.bool false, .slice none 0 0, .int .i64 0, .int .i64 0] := hv9
            subst hv9'
            have hjn : joinF c acc none = acc := by cases acc <;> rfl
            rw [hjn] at HJ2
            have hba : Below w9.heap.size w9 (w9.alloc (Obj.cells #[.bool false, .slice none 0 0, .int .i64 0, .int .i64 0] 105)) := (Below.refl _ _).alloc (Nat.le_refl _) _
            have F10 : Hid (FdBlk (w9.alloc (Obj.cells #[.bool false, .slice none 0 0, .int .i64 0, .int .i64 0] 105)) u (u + 1) (allQ c (allM c sheet r) l most (k + 1))) := by show FdBlk _ _ _ _; rw [HJ2.out]; exact F9.out.below hba
            have BB10 := Lib.hid (BB9.out.trans (hba.mono (Nat.le_of_lt (Nat.lt_of_lt_of_le hul BB9.out.size))))
            have hu10 : u < (w9.alloc (Obj.cells #[.bool false, .slice none 0 0, .int .i64 0, .int .i64 0] 105)).heap.size := by simp; omega
            clear hjn hba hv9
            go_wp2_with fail
            go_roundg (gk - 1)
            case measure => omega
            case rel => exact ⟨k + 1, by omega, by rw [show nm + ((k + 1 : Nat) : Int) = x + 1 by have := HX.out; omega], F10, BB10, hu10⟩
          | some y =>
            obtain ⟨b2, lo2, hi2⟩ := y
            obtain ⟨bv2, hv9', ho2⟩ := hv9
            simp only at hv9' ho2
            subst hv9'
            obtain ⟨y2, hy2⟩ : ∃ z, b2.length = z := ⟨_, rfl⟩
            rw [hy2] at ho2
            obtain ⟨ba2, bc2, rfl⟩ := own_slice ho2
            have HY2 := Lib.hid hy2
            obtain ⟨wa, hwa⟩ : ∃ V, w9.alloc (Obj.cells #[.bool true, .slice ba2 y2 bc2, .int .i64 lo2, .int .i64 hi2] 105) = V := ⟨_, rfl⟩
            have hba : Below w9.heap.size w9 wa := by rw [← hwa]; exact (Below.refl _ _).alloc (Nat.le_refl _) _
            have YB := Lib.hid (show wa.heap[w9.heap.size]? = some (Obj.cells #[.bool true, .slice ba2 y2 bc2, .int .i64 lo2, .int .i64 hi2] 105) by rw [← hwa]; exact heap_alloc_new w9 _)
            have OA := Lib.hid (own_base (own_below ho2 hba) (by omega : u + 1 ≤ wr.heap.size))
            have RA := Lib.hid ((hba.block _ (lt_of_block R9.out)).trans R9.out)
            have CA := Lib.hid (C9.out.below hba)
            have FA := Lib.hid (F9.out.below hba)
            have BBA := Lib.hid (BB9.out.trans (hba.mono (Nat.le_of_lt (Nat.lt_of_lt_of_le hul BB9.out.size))))
            have hua : u < wa.heap.size := by have := hba.size; omega
            have HWA := Lib.hid hwa
            clear ho2 hy2 hwa R9 C9 F9 BB9 hba
            have hgu : u < w9.heap.size := hu9
            go_upto_region 11 with fail
            rw [HWA.out]
            obtain ⟨gy, hgy⟩ : ∃ z, w9.heap.size = z := ⟨_, rfl⟩
            rw [hgy] at YB hgu ⊢
            clear hgy HWA hu9
            have y0 : wa.cell? ⟨gy, 0, none⟩ = some (.bool true) := cellOf YB.out 0 _ rfl
            have y1c : wa.cell? ⟨gy, 1, none⟩ = some (.slice ba2 y2 bc2) := cellOf YB.out 1 _ rfl
            have y2c : wa.cell? ⟨gy, 2, none⟩ = some (.int .i64 lo2) := cellOf YB.out 2 _ rfl
            have y3c : wa.cell? ⟨gy, 3, none⟩ = some (.int .i64 hi2) := cellOf YB.out 3 _ rfl
            have c0 := cellOf RA.out 0 _ rfl
            have c1 := cellOf RA.out 1 _ rfl
            have c2 := cellOf RA.out 2 _ rfl
            have cl := lt_of_block RA.out
            cases acc with
            | none =>
              have hfb : wa.heap[u]? = some (.cells #[.bool false, .slice none 0 0, .int .i64 0, .int .i64 0] 105 (0, 0)) := FA.out
              have u0 : wa.cell? ⟨u, 0, none⟩ = some (.bool false) := cellOf hfb 0 _ rfl
              have u1' : wa.cell? ⟨u, 1, none⟩ = some (.slice none 0 0) := cellOf hfb 1 _ rfl
              have u2' : wa.cell? ⟨u, 2, none⟩ = some (.int .i64 0) := cellOf hfb 2 _ rfl
              have u3' : wa.cell? ⟨u, 3, none⟩ = some (.int .i64 0) := cellOf hfb 3 _ rfl
              have f0 := frozen_of_row _ _ 0 _ _ hfb
              have f1 := frozen_of_row _ _ 1 _ _ hfb
              have f2 := frozen_of_row _ _ 2 _ _ hfb
              have f3 := frozen_of_row _ _ 3 _ _ hfb
              have F10 : Hid (FdBlk (put4 wa u (.bool true) (.slice ba2 y2 bc2) (.int .i64 lo2) (.int .i64 hi2)) u (u + 1) (allQ c (allM c sheet r) l most (k + 1))) := by
                show FdBlk _ _ _ _
                rw [HJ2.out]
                exact ⟨_, put4_at hfb, by rw [HY2.out]; exact put4_own OA.out (by omega)⟩
              have BB10 : Hid (Below u W (put4 wa u (.bool true) (.slice ba2 y2 bc2) (.int .i64 lo2) (.int .i64 hi2))) := put4_below BBA.out (Nat.le_refl _)
              clear hfb
              go_wp2_with fail
              go_roundg (gk - 1)
              case measure => omega
              case rel => exact ⟨k + 1, by omega, by rw [show nm + ((k + 1 : Nat) : Int) = x + 1 by have := HX.out; omega], F10, BB10, by simp; omega⟩
            | some o =>
              obtain ⟨b1, lo1, hi1⟩ := o
              obtain ⟨bv1, hfb, ho1⟩ := FA.out
              simp only at hfb ho1
              obtain ⟨yl1, hy1⟩ : ∃ z, b1.length = z := ⟨_, rfl⟩
              rw [hy1] at ho1
              obtain ⟨ba1, bc1, rfl⟩ := own_slice ho1
              have g1 := HG1.out _ rfl
              have g2 := HG3.out _ rfl
              have HI1 := Lib.hid (intsAt_own (l := b1) (by rw [hy1]; exact ho1) (by have := g1.1; simp only at this; omega))
              have HI2 := Lib.hid (intsAt_own (l := b2) (by rw [HY2.out]; exact OA.out) (by have := g2.1; simp only at this; omega))
              have HF1 : Hid (∀ W', Below wa.heap.size wa W' → Calls Try.prog 39 #[.agg #[.int .i64 tol, .slice (some ⟨sb, so, none⟩) n sc, .slice ea em ec], .slice ba1 yl1 bc1] W' fun e w' => e = .returned (.int .i64 (costL c b1)) ∧ Below W'.heap.size W' w') := fun W' hb => rcosts_any tol c.shs _ _ _ b1 W' (CA.out.shs.below hb) HV.out.sh (HI1.out.below hb) (by have := g1.1; simp only at this; rw [HNN.out]; omega) (by rw [HNN.out]; exact n5) g1.2
              have HF2 : Hid (∀ W', Below wa.heap.size wa W' → Calls Try.prog 39 #[.agg #[.int .i64 tol, .slice (some ⟨sb, so, none⟩) n sc, .slice ea em ec], .slice ba2 y2 bc2] W' fun e w' => e = .returned (.int .i64 (costL c b2)) ∧ Below W'.heap.size W' w') := fun W' hb => rcosts_any tol c.shs _ _ _ b2 W' (CA.out.shs.below hb) HV.out.sh (HI2.out.below hb) (by have := g2.1; simp only at this; rw [HNN.out]; omega) (by rw [HNN.out]; exact n5) g2.2
              have u0 : wa.cell? ⟨u, 0, none⟩ = some (.bool true) := cellOf hfb 0 _ rfl
              have u1' : wa.cell? ⟨u, 1, none⟩ = some (.slice ba1 yl1 bc1) := cellOf hfb 1 _ rfl
              have HJ3 : Hid (allQ c (allM c sheet r) l most (k + 1) = some (if costL c b2 < costL c b1 then b2 else b1, min lo1 lo2, max hi1 hi2)) := HJ2.out
              generalize costL c b1 = k1 at *
              generalize costL c b2 = k2 at *
              have HFB1 := Lib.hid hfb
              have HO1 := Lib.hid ho1
              have HY1 := Lib.hid hy1
              clear hfb ho1 hy1 g1 g2 HJ2
              go_upto_region 14 with fail
              go_cut [72] from 73 to 91 (fun v wx => v = .bool (decide (k2 < k1)) ∧ Hid (Below wa.heap.size wa wx))
              case first =>
                have KA : ∀ W' : World, Below wa.heap.size wa W' → (W'.cell? ⟨w.heap.size, 0, none⟩ = some (.int .i64 tol) ∧ W'.cell? ⟨w.heap.size, 1, none⟩ = some (.slice (some ⟨sb, so, none⟩) n sc) ∧ W'.cell? ⟨w.heap.size, 2, none⟩ = some (.slice ea em ec) ∧ W'.cell? ⟨gy, 1, none⟩ = some (.slice ba2 y2 bc2) ∧ W'.cell? ⟨u, 1, none⟩ = some (.slice ba1 yl1 bc1) ∧ Below wa.heap.size wa W') := fun W' hb => ⟨keepK c0 hb, keepK c1 hb, keepK c2 hb, keepK y1c hb, keepK u1' hb, hb⟩
                refine wp_region_noPanic ?_
                refine wp_region_held_drew (S := (fun W' => W'.cell? ⟨w.heap.size, 0, none⟩ = some (.int .i64 tol) ∧ W'.cell? ⟨w.heap.size, 1, none⟩ = some (.slice (some ⟨sb, so, none⟩) n sc) ∧ W'.cell? ⟨w.heap.size, 2, none⟩ = some (.slice ea em ec) ∧ W'.cell? ⟨gy, 1, none⟩ = some (.slice ba2 y2 bc2) ∧ W'.cell? ⟨u, 1, none⟩ = some (.slice ba1 yl1 bc1) ∧ Below wa.heap.size wa W')) (by kernel_rfl) ?_ (fun hh0 => ?_)
                · exact KA _ (Below.refl _ _).drew
                refine wpAnyH_take (i := 0) (v := ?_) rfl (by as_aux_lemma => kernel_rfl) (by as_aux_lemma => kernel_rfl) (by as_aux_lemma => kernel_rfl) (fun _ _ _ h => h) (Or.inl ⟨by rfl, ?_⟩) (by assumption) ?_
                rotate_left
                · intro w hSw
                  try dsimp only at hSw
                  go_simp
                  try with_reducible rfl
                try simp only [Act.put, List.getElem_toArray, List.getElem_cons_succ, List.getElem_cons_zero, List.setIfInBounds_toArray, List.set_cons_zero, List.set_cons_succ]
                refine wpAnyH_take (i := 1) (v := ?_) rfl (by as_aux_lemma => kernel_rfl) (by as_aux_lemma => kernel_rfl) (by as_aux_lemma => kernel_rfl) (fun _ _ _ h => h) (Or.inl ⟨by rfl, ?_⟩) (by assumption) ?_
                rotate_left
                · intro w hSw
                  try dsimp only at hSw
                  go_simp
                  try with_reducible rfl
                try simp only [Act.put, List.getElem_toArray, List.getElem_cons_succ, List.getElem_cons_zero, List.setIfInBounds_toArray, List.set_cons_zero, List.set_cons_succ]
                refine wpAnyH_take (i := 2) (v := ?_) rfl (by as_aux_lemma => kernel_rfl) (by as_aux_lemma => kernel_rfl) (by as_aux_lemma => kernel_rfl) (fun _ _ _ h => h) (Or.inl ⟨by rfl, ?_⟩) (by assumption) ?_
                rotate_left
                · intro w hSw
                  try dsimp only at hSw
                  go_simp
                  try with_reducible rfl
                try simp only [Act.put, List.getElem_toArray, List.getElem_cons_succ, List.getElem_cons_zero, List.setIfInBounds_toArray, List.set_cons_zero, List.set_cons_succ]
                refine wpAnyH_take (i := 4) (v := ?_) rfl (by as_aux_lemma => kernel_rfl) (by as_aux_lemma => kernel_rfl) (by as_aux_lemma => kernel_rfl) (fun _ _ _ h => h) (Or.inl ⟨by rfl, ?_⟩) (by assumption) ?_
                rotate_left
                · intro w hSw
                  try dsimp only at hSw
                  go_simp
                  try with_reducible rfl
                try simp only [Act.put, List.getElem_toArray, List.getElem_cons_succ, List.getElem_cons_zero, List.setIfInBounds_toArray, List.set_cons_zero, List.set_cons_succ]
                refine wpAnyH_take (i := 5) (v := ?_) rfl (by as_aux_lemma => kernel_rfl) (by as_aux_lemma => kernel_rfl) (by as_aux_lemma => kernel_rfl) (fun _ _ _ h => h) (Or.inl ⟨by rfl, ?_⟩) (by assumption) ?_
                rotate_left
                · intro w hSw
                  try dsimp only at hSw
                  go_simp
                  try with_reducible rfl
                try simp only [Act.put, List.getElem_toArray, List.getElem_cons_succ, List.getElem_cons_zero, List.setIfInBounds_toArray, List.set_cons_zero, List.set_cons_succ]
                refine wpAnyH_take (i := 6) (v := ?_) rfl (by as_aux_lemma => kernel_rfl) (by as_aux_lemma => kernel_rfl) (by as_aux_lemma => kernel_rfl) (fun _ _ _ h => h) (Or.inl ⟨by rfl, ?_⟩) (by assumption) ?_
                rotate_left
                · intro w hSw
                  try dsimp only at hSw
                  go_simp
                  try with_reducible rfl
                try simp only [Act.put, List.getElem_toArray, List.getElem_cons_succ, List.getElem_cons_zero, List.setIfInBounds_toArray, List.set_cons_zero, List.set_cons_succ]
                refine wpAnyH_ready (rs := [3]) (by as_aux_lemma => kernel_rfl) (by simp) ?_
                refine AllReadyH.cons rfl (fun K hK => ?_) AllReadyH.nil
                go_simp
                refine (HF2.out _ hh0.2.2.2.2.2).mono ?_
                rintro e wx0 ⟨rfl, hbx0⟩
                refine hK.out _ _ (KA _ (Below.trans hh0.2.2.2.2.2 (Below.mono hbx0 (hh0.2.2.2.2.2).size))) (fun hh1 => ?_)
                clear hK K
                try simp only [Act.put, List.getElem_toArray, List.getElem_cons_succ, List.getElem_cons_zero, List.setIfInBounds_toArray, List.set_cons_zero, List.set_cons_succ]
                refine wpAnyH_ready (rs := [7]) (by as_aux_lemma => kernel_rfl) (by simp) ?_
                refine AllReadyH.cons rfl (fun K hK => ?_) AllReadyH.nil
                go_simp
                refine (HF1.out _ hh1.2.2.2.2.2).mono ?_
                rintro e wx1 ⟨rfl, hbx1⟩
                refine hK.out _ _ (KA _ (Below.trans hh1.2.2.2.2.2 (Below.mono hbx1 (hh1.2.2.2.2.2).size))) (fun hh2 => ?_)
                clear hK K
                try simp only [Act.put, List.getElem_toArray, List.getElem_cons_succ, List.getElem_cons_zero, List.setIfInBounds_toArray, List.set_cons_zero, List.set_cons_succ]
                refine wpAnyH_take (i := 8) (v := ?_) rfl (by as_aux_lemma => kernel_rfl) (by as_aux_lemma => kernel_rfl) (by as_aux_lemma => kernel_rfl) (fun _ _ _ h => h) (Or.inl ⟨by rfl, ?_⟩) (by assumption) ?_
                rotate_left
                · intro w hSw
                  try dsimp only at hSw
                  go_simp
                  try with_reducible rfl
                try simp only [Act.put, List.getElem_toArray, List.getElem_cons_succ, List.getElem_cons_zero, List.setIfInBounds_toArray, List.set_cons_zero, List.set_cons_succ]
                refine wpAnyH_done (by as_aux_lemma => kernel_rfl) ?_ _
                refine NoPanic.normal ?_
                have HBZ := Lib.hid (hh2.2.2.2.2.2)
                go_wp2_with fail
                go_meet
                case rel => exact ⟨rfl, HBZ⟩
              case rest =>
                obtain ⟨rfl, hbw⟩ := hcut
                have hfb := (hbw.out.block u (lt_of_block HFB1.out)).trans HFB1.out
                have hyb := (hbw.out.block gy (lt_of_block YB.out)).trans YB.out
                have O1 := Lib.hid (own_below HO1.out hbw.out)
                have O2 := Lib.hid (own_below OA.out hbw.out)
                have BBC := Lib.hid (BBA.out.trans (hbw.out.mono (by omega)))
                have huc : u < wc.heap.size := by have := hbw.out.size; omega
                clear y0 y1c y2c y3c c0 c1 c2 cl u0 u1' HF1 HF2 HI1 HI2 hbw YB HFB1 HO1 OA RA CA FA BBA
                have y1c : wc.cell? ⟨gy, 1, none⟩ = some (.slice ba2 y2 bc2) := cellOf hyb 1 _ rfl
                have y2c : wc.cell? ⟨gy, 2, none⟩ = some (.int .i64 lo2) := cellOf hyb 2 _ rfl
                have y3c : wc.cell? ⟨gy, 3, none⟩ = some (.int .i64 hi2) := cellOf hyb 3 _ rfl
                have u1' : wc.cell? ⟨u, 1, none⟩ = some (.slice ba1 yl1 bc1) := cellOf hfb 1 _ rfl
                have u2' : wc.cell? ⟨u, 2, none⟩ = some (.int .i64 lo1) := cellOf hfb 2 _ rfl
                have u3' : wc.cell? ⟨u, 3, none⟩ = some (.int .i64 hi1) := cellOf hfb 3 _ rfl
                have f1 := frozen_of_row _ _ 1 _ _ hfb
                have f2 := frozen_of_row _ _ 2 _ _ hfb
                have f3 := frozen_of_row _ _ 3 _ _ hfb
                have gyu : ¬ gy = u := by omega
                have HFC := Lib.hid hfb
                clear hfb hyb
                by_cases hlt2 : k2 < k1
                · have td : decide (k2 < k1) = true := by simp; omega
                  rw [td]
                  clear td
                  by_cases ha : lo2 < lo1
                  · by_cases hb : hi1 < hi2
                    · skip
                      have hj : allQ c (allM c sheet r) l most (k + 1) = some (b2, lo2, hi2) := by
                        rw [HJ3.out, if_pos hlt2, show min lo1 lo2 = lo2 by omega, show max hi1 hi2 = hi2 by omega]
                      have F10 : Hid (FdBlk (((wc.setCell ⟨u, 1, none⟩ (.slice ba2 y2 bc2)).setCell ⟨u, 2, none⟩ (.int .i64 lo2)).setCell ⟨u, 3, none⟩ (.int .i64 hi2)) u (u + 1) (allQ c (allM c sheet r) l most (k + 1))) := by
                        show FdBlk _ _ _ _
                        rw [hj]
                        exact ⟨_, heap_setCell_same _ u 3 _ _ _ (heap_setCell_same _ u 2 _ _ _ (heap_setCell_same wc u 1 _ _ _ HFC.out)), by rw [HY2.out]; exact own_other (own_other (own_other O2.out ⟨u, 1, none⟩ (by simp) _) ⟨u, 2, none⟩ (by simp) _) ⟨u, 3, none⟩ (by simp) _⟩
                      have BB10 : Hid (Below u W (((wc.setCell ⟨u, 1, none⟩ (.slice ba2 y2 bc2)).setCell ⟨u, 2, none⟩ (.int .i64 lo2)).setCell ⟨u, 3, none⟩ (.int .i64 hi2))) := ((BBC.out.setCell (p := ⟨u, 1, none⟩) (Nat.le_refl _) _).setCell (p := ⟨u, 2, none⟩) (Nat.le_refl _) _).setCell (p := ⟨u, 3, none⟩) (Nat.le_refl _) _
                      clear hj
                      go_wp2_with fail
                      go_roundg (gk - 1)
                      case measure => omega
                      case rel => exact ⟨k + 1, by omega, by rw [show nm + ((k + 1 : Nat) : Int) = x + 1 by have := HX.out; omega], F10, BB10, by simp; omega⟩
                    · skip
                      have hj : allQ c (allM c sheet r) l most (k + 1) = some (b2, lo2, hi1) := by
                        rw [HJ3.out, if_pos hlt2, show min lo1 lo2 = lo2 by omega, show max hi1 hi2 = hi1 by omega]
                      have F10 : Hid (FdBlk (((wc.setCell ⟨u, 1, none⟩ (.slice ba2 y2 bc2)).setCell ⟨u, 2, none⟩ (.int .i64 lo2)).setCell ⟨u, 3, none⟩ (.int .i64 hi1)) u (u + 1) (allQ c (allM c sheet r) l most (k + 1))) := by
                        show FdBlk _ _ _ _
                        rw [hj]
                        exact ⟨_, heap_setCell_same _ u 3 _ _ _ (heap_setCell_same _ u 2 _ _ _ (heap_setCell_same wc u 1 _ _ _ HFC.out)), by rw [HY2.out]; exact own_other (own_other (own_other O2.out ⟨u, 1, none⟩ (by simp) _) ⟨u, 2, none⟩ (by simp) _) ⟨u, 3, none⟩ (by simp) _⟩
                      have BB10 : Hid (Below u W (((wc.setCell ⟨u, 1, none⟩ (.slice ba2 y2 bc2)).setCell ⟨u, 2, none⟩ (.int .i64 lo2)).setCell ⟨u, 3, none⟩ (.int .i64 hi1))) := ((BBC.out.setCell (p := ⟨u, 1, none⟩) (Nat.le_refl _) _).setCell (p := ⟨u, 2, none⟩) (Nat.le_refl _) _).setCell (p := ⟨u, 3, none⟩) (Nat.le_refl _) _
                      clear hj
                      go_wp2_with fail
                      go_roundg (gk - 1)
                      case measure => omega
                      case rel => exact ⟨k + 1, by omega, by rw [show nm + ((k + 1 : Nat) : Int) = x + 1 by have := HX.out; omega], F10, BB10, by simp; omega⟩
                  · by_cases hb : hi1 < hi2
                    · skip
                      have hj : allQ c (allM c sheet r) l most (k + 1) = some (b2, lo1, hi2) := by
                        rw [HJ3.out, if_pos hlt2, show min lo1 lo2 = lo1 by omega, show max hi1 hi2 = hi2 by omega]
                      have F10 : Hid (FdBlk (((wc.setCell ⟨u, 1, none⟩ (.slice ba2 y2 bc2)).setCell ⟨u, 2, none⟩ (.int .i64 lo1)).setCell ⟨u, 3, none⟩ (.int .i64 hi2)) u (u + 1) (allQ c (allM c sheet r) l most (k + 1))) := by
                        show FdBlk _ _ _ _
                        rw [hj]
                        exact ⟨_, heap_setCell_same _ u 3 _ _ _ (heap_setCell_same _ u 2 _ _ _ (heap_setCell_same wc u 1 _ _ _ HFC.out)), by rw [HY2.out]; exact own_other (own_other (own_other O2.out ⟨u, 1, none⟩ (by simp) _) ⟨u, 2, none⟩ (by simp) _) ⟨u, 3, none⟩ (by simp) _⟩
                      have BB10 : Hid (Below u W (((wc.setCell ⟨u, 1, none⟩ (.slice ba2 y2 bc2)).setCell ⟨u, 2, none⟩ (.int .i64 lo1)).setCell ⟨u, 3, none⟩ (.int .i64 hi2))) := ((BBC.out.setCell (p := ⟨u, 1, none⟩) (Nat.le_refl _) _).setCell (p := ⟨u, 2, none⟩) (Nat.le_refl _) _).setCell (p := ⟨u, 3, none⟩) (Nat.le_refl _) _
                      clear hj
                      go_wp2_with fail
                      go_roundg (gk - 1)
                      case measure => omega
                      case rel => exact ⟨k + 1, by omega, by rw [show nm + ((k + 1 : Nat) : Int) = x + 1 by have := HX.out; omega], F10, BB10, by simp; omega⟩
                    · skip
                      have hj : allQ c (allM c sheet r) l most (k + 1) = some (b2, lo1, hi1) := by
                        rw [HJ3.out, if_pos hlt2, show min lo1 lo2 = lo1 by omega, show max hi1 hi2 = hi1 by omega]
                      have F10 : Hid (FdBlk (((wc.setCell ⟨u, 1, none⟩ (.slice ba2 y2 bc2)).setCell ⟨u, 2, none⟩ (.int .i64 lo1)).setCell ⟨u, 3, none⟩ (.int .i64 hi1)) u (u + 1) (allQ c (allM c sheet r) l most (k + 1))) := by
                        show FdBlk _ _ _ _
                        rw [hj]
                        exact ⟨_, heap_setCell_same _ u 3 _ _ _ (heap_setCell_same _ u 2 _ _ _ (heap_setCell_same wc u 1 _ _ _ HFC.out)), by rw [HY2.out]; exact own_other (own_other (own_other O2.out ⟨u, 1, none⟩ (by simp) _) ⟨u, 2, none⟩ (by simp) _) ⟨u, 3, none⟩ (by simp) _⟩
                      have BB10 : Hid (Below u W (((wc.setCell ⟨u, 1, none⟩ (.slice ba2 y2 bc2)).setCell ⟨u, 2, none⟩ (.int .i64 lo1)).setCell ⟨u, 3, none⟩ (.int .i64 hi1))) := ((BBC.out.setCell (p := ⟨u, 1, none⟩) (Nat.le_refl _) _).setCell (p := ⟨u, 2, none⟩) (Nat.le_refl _) _).setCell (p := ⟨u, 3, none⟩) (Nat.le_refl _) _
                      clear hj
                      go_wp2_with fail
                      go_roundg (gk - 1)
                      case measure => omega
                      case rel => exact ⟨k + 1, by omega, by rw [show nm + ((k + 1 : Nat) : Int) = x + 1 by have := HX.out; omega], F10, BB10, by simp; omega⟩
                · have td : decide (k2 < k1) = false := by simp; omega
                  rw [td]
                  clear td
                  by_cases ha : lo2 < lo1
                  · by_cases hb : hi1 < hi2
                    · skip
                      have hj : allQ c (allM c sheet r) l most (k + 1) = some (b1, lo2, hi2) := by
                        rw [HJ3.out, if_neg hlt2, show min lo1 lo2 = lo2 by omega, show max hi1 hi2 = hi2 by omega]
                      have F10 : Hid (FdBlk ((wc.setCell ⟨u, 2, none⟩ (.int .i64 lo2)).setCell ⟨u, 3, none⟩ (.int .i64 hi2)) u (u + 1) (allQ c (allM c sheet r) l most (k + 1))) := by
                        show FdBlk _ _ _ _
                        rw [hj]
                        exact ⟨_, heap_setCell_same _ u 3 _ _ _ (heap_setCell_same wc u 2 _ _ _ HFC.out), by rw [HY1.out]; exact own_other (own_other O1.out ⟨u, 2, none⟩ (by simp) _) ⟨u, 3, none⟩ (by simp) _⟩
                      have BB10 : Hid (Below u W ((wc.setCell ⟨u, 2, none⟩ (.int .i64 lo2)).setCell ⟨u, 3, none⟩ (.int .i64 hi2))) := (BBC.out.setCell (p := ⟨u, 2, none⟩) (Nat.le_refl _) _).setCell (p := ⟨u, 3, none⟩) (Nat.le_refl _) _
                      clear hj
                      go_wp2_with fail
                      go_roundg (gk - 1)
                      case measure => omega
                      case rel => exact ⟨k + 1, by omega, by rw [show nm + ((k + 1 : Nat) : Int) = x + 1 by have := HX.out; omega], F10, BB10, by simp; omega⟩
                    · skip
                      have hj : allQ c (allM c sheet r) l most (k + 1) = some (b1, lo2, hi1) := by
                        rw [HJ3.out, if_neg hlt2, show min lo1 lo2 = lo2 by omega, show max hi1 hi2 = hi1 by omega]
                      have F10 : Hid (FdBlk ((wc.setCell ⟨u, 2, none⟩ (.int .i64 lo2)).setCell ⟨u, 3, none⟩ (.int .i64 hi1)) u (u + 1) (allQ c (allM c sheet r) l most (k + 1))) := by
                        show FdBlk _ _ _ _
                        rw [hj]
                        exact ⟨_, heap_setCell_same _ u 3 _ _ _ (heap_setCell_same wc u 2 _ _ _ HFC.out), by rw [HY1.out]; exact own_other (own_other O1.out ⟨u, 2, none⟩ (by simp) _) ⟨u, 3, none⟩ (by simp) _⟩
                      have BB10 : Hid (Below u W ((wc.setCell ⟨u, 2, none⟩ (.int .i64 lo2)).setCell ⟨u, 3, none⟩ (.int .i64 hi1))) := (BBC.out.setCell (p := ⟨u, 2, none⟩) (Nat.le_refl _) _).setCell (p := ⟨u, 3, none⟩) (Nat.le_refl _) _
                      clear hj
                      go_wp2_with fail
                      go_roundg (gk - 1)
                      case measure => omega
                      case rel => exact ⟨k + 1, by omega, by rw [show nm + ((k + 1 : Nat) : Int) = x + 1 by have := HX.out; omega], F10, BB10, by simp; omega⟩
                  · by_cases hb : hi1 < hi2
                    · skip
                      have hj : allQ c (allM c sheet r) l most (k + 1) = some (b1, lo1, hi2) := by
                        rw [HJ3.out, if_neg hlt2, show min lo1 lo2 = lo1 by omega, show max hi1 hi2 = hi2 by omega]
                      have F10 : Hid (FdBlk ((wc.setCell ⟨u, 2, none⟩ (.int .i64 lo1)).setCell ⟨u, 3, none⟩ (.int .i64 hi2)) u (u + 1) (allQ c (allM c sheet r) l most (k + 1))) := by
                        show FdBlk _ _ _ _
                        rw [hj]
                        exact ⟨_, heap_setCell_same _ u 3 _ _ _ (heap_setCell_same wc u 2 _ _ _ HFC.out), by rw [HY1.out]; exact own_other (own_other O1.out ⟨u, 2, none⟩ (by simp) _) ⟨u, 3, none⟩ (by simp) _⟩
                      have BB10 : Hid (Below u W ((wc.setCell ⟨u, 2, none⟩ (.int .i64 lo1)).setCell ⟨u, 3, none⟩ (.int .i64 hi2))) := (BBC.out.setCell (p := ⟨u, 2, none⟩) (Nat.le_refl _) _).setCell (p := ⟨u, 3, none⟩) (Nat.le_refl _) _
                      clear hj
                      go_wp2_with fail
                      go_roundg (gk - 1)
                      case measure => omega
                      case rel => exact ⟨k + 1, by omega, by rw [show nm + ((k + 1 : Nat) : Int) = x + 1 by have := HX.out; omega], F10, BB10, by simp; omega⟩
                    · skip
                      have hj : allQ c (allM c sheet r) l most (k + 1) = some (b1, lo1, hi1) := by
                        rw [HJ3.out, if_neg hlt2, show min lo1 lo2 = lo1 by omega, show max hi1 hi2 = hi1 by omega]
                      have F10 : Hid (FdBlk ((wc.setCell ⟨u, 2, none⟩ (.int .i64 lo1)).setCell ⟨u, 3, none⟩ (.int .i64 hi1)) u (u + 1) (allQ c (allM c sheet r) l most (k + 1))) := by
                        show FdBlk _ _ _ _
                        rw [hj]
                        exact ⟨_, heap_setCell_same _ u 3 _ _ _ (heap_setCell_same wc u 2 _ _ _ HFC.out), by rw [HY1.out]; exact own_other (own_other O1.out ⟨u, 2, none⟩ (by simp) _) ⟨u, 3, none⟩ (by simp) _⟩
                      have BB10 : Hid (Below u W ((wc.setCell ⟨u, 2, none⟩ (.int .i64 lo1)).setCell ⟨u, 3, none⟩ (.int .i64 hi1))) := (BBC.out.setCell (p := ⟨u, 2, none⟩) (Nat.le_refl _) _).setCell (p := ⟨u, 3, none⟩) (Nat.le_refl _) _
                      clear hj
                      go_wp2_with fail
                      go_roundg (gk - 1)
                      case measure => omega
                      case rel => exact ⟨k + 1, by omega, by rw [show nm + ((k + 1 : Nat) : Int) = x + 1 by have := HX.out; omega], F10, BB10, by simp; omega⟩
      · have xI : ¬ x ≤ most := by omega
        obtain rfl : k = K := by omega
        have P1 := Lib.hid ((HBB.out.block _ u2).trans HP.out)
        have p0 : wr.cell? ⟨w.heap.size + 1, 0, none⟩ = some (.bool false) := cellOf P1.out 0 _ rfl
        have p1 : wr.cell? ⟨w.heap.size + 1, 1, none⟩ = some (.slice none 0 0) := cellOf P1.out 1 _ rfl
        have p2 : wr.cell? ⟨w.heap.size + 1, 2, none⟩ = some (.int .i64 0) := cellOf P1.out 2 _ rfl
        have p3 : wr.cell? ⟨w.heap.size + 1, 3, none⟩ = some (.int .i64 0) := cellOf P1.out 3 _ rfl
        have f0 := frozen_of_row _ _ 0 _ _ P1.out
        have f1 := frozen_of_row _ _ 1 _ _ P1.out
        have f2 := frozen_of_row _ _ 2 _ _ P1.out
        have f3 := frozen_of_row _ _ 3 _ _ P1.out
        have BW := HB.out.trans (HBB.out.mono (by omega : w.heap.size ≤ u))
        have HBW := Lib.hid BW
        clear hlt hk hkm hnmm hxk hx BW
        obtain ⟨acc, hacc⟩ : ∃ a, allQ c (allM c sheet r) l most k = a := ⟨_, rfl⟩
        rw [hacc] at HFB
        have HACC := Lib.hid hacc
        clear hacc
        cases acc with
        | none =>
          have hfb : wr.heap[u]? = some (.cells #[.bool false, .slice none 0 0, .int .i64 0, .int .i64 0] 105 (0, 0)) := HFB.out
          have u0 : wr.cell? ⟨u, 0, none⟩ = some (.bool false) := cellOf hfb 0 _ rfl
          have u1' : wr.cell? ⟨u, 1, none⟩ = some (.slice none 0 0) := cellOf hfb 1 _ rfl
          have u2' : wr.cell? ⟨u, 2, none⟩ = some (.int .i64 0) := cellOf hfb 2 _ rfl
          have u3' : wr.cell? ⟨u, 3, none⟩ = some (.int .i64 0) := cellOf hfb 3 _ rfl
          have hbV : Below w.heap.size w (put4 wr (w.heap.size + 1) (.bool false) (.slice none 0 0) (.int .i64 0) (.int .i64 0)) := put4_below HBW.out (by omega)
          have hres := put4_at (a := .bool false) (b := .slice none 0 0) (c := .int .i64 0) (d := .int .i64 0) P1.out
          clear hfb
          go_wp2_with fail
          exact bodyPost_ret (fd_result rfl _ _ (w.heap.size + 1) _ _ _ _ rfl hres) rfl ⟨_, rfl, by rw [HACC.out]; rfl, hbV⟩
        | some o =>
          obtain ⟨b1, lo1, hi1⟩ := o
          obtain ⟨bv1, hfb, ho1⟩ := HFB.out
          simp only at hfb ho1
          obtain ⟨y1, hy1⟩ : ∃ z, b1.length = z := ⟨_, rfl⟩
          rw [hy1] at ho1
          obtain ⟨ba1, bc1, rfl⟩ := own_slice ho1
          have u0 : wr.cell? ⟨u, 0, none⟩ = some (.bool true) := cellOf hfb 0 _ rfl
          have u1' : wr.cell? ⟨u, 1, none⟩ = some (.slice ba1 y1 bc1) := cellOf hfb 1 _ rfl
          have u2' : wr.cell? ⟨u, 2, none⟩ = some (.int .i64 lo1) := cellOf hfb 2 _ rfl
          have u3' : wr.cell? ⟨u, 3, none⟩ = some (.int .i64 hi1) := cellOf hfb 3 _ rfl
          have hbV : Below w.heap.size w (put4 wr (w.heap.size + 1) (.bool true) (.slice ba1 y1 bc1) (.int .i64 lo1) (.int .i64 hi1)) := put4_below HBW.out (by omega)
          have hres := put4_at (a := .bool true) (b := .slice ba1 y1 bc1) (c := .int .i64 lo1) (d := .int .i64 hi1) P1.out
          have hownV := own_base (put4_own (g := w.heap.size + 1) (a := .bool true) (b := .slice ba1 y1 bc1) (c := .int .i64 lo1) (d := .int .i64 hi1) ho1 (by omega)) (by omega : B ≤ u + 1)
          have HOV := Lib.hid hownV
          have HY1 := Lib.hid hy1
          clear hfb ho1 hownV hy1
          go_wp2_with fail
          exact bodyPost_ret (fd_result rfl _ _ (w.heap.size + 1) _ _ _ _ rfl hres) rfl ⟨_, rfl, by rw [HACC.out]; exact ⟨_, rfl, by rw [HY1.out]; exact HOV.out⟩, hbV⟩
end Go.Proofs.Ytojdocomkhihoaa
namespace Go.Proofs.Ytojdocomkhihoaa
open Go Go.RowKit Go.Shelf Ed

/-- A list that is nowhere less does not stand ahead. -/
theorem cmpL_ge : ∀ a b : List Int, a.length = b.length → (∀ i, i < a.length → b.getD i 0 ≤ a.getD i 0) → 0 ≤ cmpL a b := by
  intro a
  induction a with
  | nil =>
    intro b hl _
    have := List.length_eq_zero_iff.1 hl.symm
    subst this
    exact Int.le_refl _
  | cons x s ih =>
    intro b hl h
    cases b with
    | nil => simp at hl
    | cons y t =>
      have h0 := h 0 (by simp)
      simp only [List.getD_cons_zero] at h0
      have h1 := ih t (by simpa using hl) fun i hi => by
        have := h (i + 1) (by simp; omega)
        simpa only [List.getD_cons_succ] using this
      simp only [cmpL]
      by_cases e : y < x
      · have hc : cmpS x y = 1 := by unfold cmpS; rw [if_neg (by omega), if_pos e]
        rw [hc, if_neg (by decide)]
        decide
      · have hc : cmpS x y = 0 := by unfold cmpS; rw [if_neg (by omega), if_neg e]
        rw [hc, if_pos rfl]
        exact h1
theorem odd_all (c : Cas) (t : List Int) : (∀ i, i < c.eds.length → oddB c t i = false) ↔ oddR c t < 0 := by
  unfold oddR
  constructor
  · intro hz
    have := firstB_no (oddB c t) c.eds.length hz
    omega
  · intro hz i hi
    cases hq : oddB c t i
    · rfl
    · have := (firstB_iff (oddB c t) c.eds.length).2 ⟨i, hi, hq⟩
      omega
theorem ext_iff (c : Cas) (h : errC c = 0) (t : List Int) : Ext c c.shs.length [] t ↔ t.length = c.shs.length ∧ Ag (sysA c) (fun i => t.getD i 0) := by
  rw [← agree_iff c h t]
  constructor
  · intro he
    have hel := he.len
    unfold agreeB
    rw [Bool.and_eq_true, decide_eq_true_eq, decide_eq_true_eq]
    refine ⟨chgE_in h he.len fun k hk => ?_, (odd_all c t).1 fun i hi => ?_⟩
    · have := he.bd k (by omega)
      unfold inM inB
      simp only [List.length_nil, Nat.zero_add] at this
      simp only [Bool.and_eq_true, decide_eq_true_eq]
      exact this
    · have := he.ed i hi (by simp)
      simpa using this
  · intro ha
    have hy := (agree_iff c h t).1 ha
    unfold agreeB at ha
    rw [Bool.and_eq_true, decide_eq_true_eq, decide_eq_true_eq] at ha
    refine ⟨hy.1, fun i hi => ?_, fun i hi _ => ?_⟩
    · have := hy.2.bx i hi
      simp only [List.length_nil, Nat.zero_add]
      exact this
    · rw [List.nil_append]
      exact (odd_all c t).2 ha.2 i hi
theorem allM_is (c : Cas) (h : errC c = 0) (sheet : Nat) : FndIs c sheet (fun b => b.length = c.shs.length ∧ Ag (sysA c) (fun i => b.getD i 0)) (allM c sheet c.shs.length []) := by
  refine (allM_spec c (valid_of h) sheet c.shs.length [] (by simp)).congr fun b => ?_
  constructor
  · rintro ⟨t, ht, rfl⟩
    exact (ext_iff c h _).1 ht
  · intro hb
    exact ⟨b, (ext_iff c h b).2 hb, by simp⟩
theorem list_of (c : Cas) (h : errC c = 0) {y : Nat → Int} (hy : Ag (sysA c) y) : ∃ b : List Int, b.length = c.shs.length ∧ Ag (sysA c) (fun i => b.getD i 0) ∧ ∀ i, i < c.shs.length → b.getD i 0 = y i := by
  have hg : ∀ i, i < c.shs.length → ((List.range c.shs.length).map y).getD i 0 = y i := fun i hi => by simp [List.getD_eq_getElem?_getD, hi]
  exact ⟨(List.range c.shs.length).map y, by simp, hy.congr (sys_fine c (valid_of h) _) fun i hi => (hg i hi).symm, hg⟩
theorem all_none (c : Cas) (h : errC c = 0) (sheet : Nat) (ha : allM c sheet c.shs.length [] = none) : ∀ y, ¬ Ag (sysA c) y := by
  intro y hy
  have hi := allM_is c h sheet
  rw [ha] at hi
  obtain ⟨b, h1, h2, _⟩ := list_of c h hy
  exact hi b ⟨h1, h2⟩
theorem costL_eq (c : Cas) (b : List Int) (hb : b.length = c.shs.length) : costL c b = costF (sysA c) (fun i => b.getD i 0) := by
  unfold costL
  rw [hb]
  exact costK_eq c _ b
theorem all_range (c : Cas) (h : errC c = 0) (sheet : Nat) (hs : sheet < c.shs.length) {o : List Int × Int × Int} (ha : allM c sheet c.shs.length [] = some o) : rangeE c sheet = ((o.2.1, o.2.2), 0) := by
  have hi := allM_is c h sheet
  rw [ha] at hi
  have hi : FndOk c sheet _ o := hi
  refine range_is c h sheet hs ⟨fun y hy => ?_, ?_, ?_⟩
  · obtain ⟨b, h1, h2, h3⟩ := list_of c h hy
    have := hi.bd b ⟨h1, h2⟩
    rw [h3 sheet hs] at this
    exact this
  · obtain ⟨b, ⟨_, h2⟩, h3⟩ := hi.lo
    exact ⟨_, h2, h3⟩
  · obtain ⟨b, ⟨_, h2⟩, h3⟩ := hi.hi
    exact ⟨_, h2, h3⟩
theorem all_least (c : Cas) (h : errC c = 0) (sheet : Nat) {o : List Int × Int × Int} (ha : allM c sheet c.shs.length [] = some o) : leastE c = (o.1, costL c o.1, 0) := by
  have hi := allM_is c h sheet
  rw [ha] at hi
  have hi : FndOk c sheet _ o := hi
  obtain ⟨hl, hag⟩ := hi.mem
  rcases least_spec c h with ⟨_, hno⟩ | ⟨hz, hk⟩
  · exact absurd hag (hno _)
  · have hmn : Mn (sysA c) (fun i => o.1.getD i 0) := by
      refine ⟨hag, fun y hy => ?_⟩
      obtain ⟨b, h1, h2, h3⟩ := list_of c h hy
      have := hi.least b ⟨h1, h2⟩
      rw [costL_eq c _ hl, costL_eq c _ h1] at this
      rw [← costF_congr (s := sysA c) (x := fun i => b.getD i 0) (y := y) h3]
      exact this
    have hb := hk.bot _ hmn
    have hce : costL c (leastE c).1 = costL c o.1 := by
      rw [costL_eq c _ hl, costL_eq c _ hk.len]
      have h1 := hk.mn.2 _ hag
      have h2 := hmn.2 _ hk.ag
      omega
    have e : (leastE c).1 = o.1 := by
      rcases hi.first _ ⟨hk.len, hk.ag⟩ hce with e | e
      · exact e
      · have := cmpL_ge o.1 (leastE c).1 (by rw [hl, hk.len]) fun i hi => hb i (by omega)
        omega
    refine Prod.ext e (Prod.ext ?_ hz)
    show (leastE c).2.1 = costL c o.1
    rw [hk.cost, costL_eq c _ hl, e]
end Go.Proofs.Ytojdocomkhihoaa
namespace Go.Proofs.Ytojdocomkhihoaa
open Go Go.RowKit Go.Shelf Ed

theorem least_found {c : Cas} (h : errC c = 0) : (allM c 0 c.shs.length [] = none → leastE c = ([], 0, 9)) ∧ ∀ o, allM c 0 c.shs.length [] = some o → leastE c = (o.1, costL c o.1, 0) :=
  ⟨fun e => least_no c h (all_none c h 0 e), fun _ e => all_least c h 0 e⟩
set_option maxRecDepth 100000 in
set_option maxHeartbeats 8000000 in
theorem rleast_any (c : Cas) (sv ev : Value) (w : World) (hC : CasAt w c sv ev) :
    Calls Try.prog 28 #[.agg #[.int .i64 c.tol, sv, ev]] w fun e w' => ∃ v, e = .returned (.tuple #[v, .int .i64 (leastE c).2.1, .int .i64 (leastE c).2.2]) ∧ IntsAt w' v (leastE c).1 ∧ Below w.heap.size w w' := by
  obtain ⟨sa, n, sc, rfl⟩ : ∃ a n cc, sv = .slice a n cc := by obtain ⟨_, a, cap, h, _⟩ := hC.shs; exact ⟨_, _, _, h⟩
  obtain ⟨ea, m, ec, rfl⟩ : ∃ a n cc, ev = .slice a n cc := by obtain ⟨_, a, cap, h, _⟩ := hC.eds; exact ⟨_, _, _, h⟩
  obtain ⟨res, hres⟩ : ∃ x, leastE c = x := ⟨_, rfl⟩
  have HRES := Lib.hid hres
  rw [hres]
  clear hres
  obtain ⟨tol, htol⟩ : ∃ t, c.tol = t := ⟨_, rfl⟩
  obtain ⟨W, hW⟩ : ∃ W, w.alloc (Obj.cells #[.int .i64 tol, .slice sa n sc, .slice ea m ec] 25) = W := ⟨_, rfl⟩
  have hb : Below w.heap.size w W := by rw [← hW]; exact (Below.refl _ _).alloc (Nat.le_refl _) _
  have hck := rcheck_any c _ _ W (hC.below hb)
  rw [htol] at hck ⊢
  have HCK := Lib.hid hck
  have HR : Hid (W.heap[w.heap.size]? = some (Obj.cells #[.int .i64 tol, .slice sa n sc, .slice ea m ec] 25)) := by show _ = _; rw [← hW]; exact heap_alloc_new w _
  have HC := Lib.hid (hC.below hb)
  have HW := Lib.hid hW
  have HB := Lib.hid hb
  have HTOL := Lib.hid htol
  clear hW hb hC htol hck
  go_enter Try.func28, Try.ntmps28
  go_wp2_with fail
  rw [HW.out]
  have c0 := cellOf HR.out 0 _ rfl
  have c1 := cellOf HR.out 1 _ rfl
  have c2 := cellOf HR.out 2 _ rfl
  have cl := lt_of_block HR.out
  go_wp2_with fail
  refine HCK.out.mono ?_
  rintro e w1 ⟨rfl, hb1⟩
  have R1 := Lib.hid ((hb1.block _ (lt_of_block HR.out)).trans HR.out)
  have C1 := Lib.hid (HC.out.below hb1)
  have B1 := Lib.hid (HB.out.trans (hb1.mono HB.out.size))
  clear hb1 HB HC HCK HW HR c0 c1 c2 cl
  obtain ⟨⟨k1, k2, er⟩, hk⟩ : ∃ x, checkC c = x := ⟨_, rfl⟩
  have HER : Hid (errC c = er) := by show _ = _; unfold errC; rw [hk]
  rw [hk]
  clear hk
  have hnil : ∀ V : World, IntsAt V (.slice none 0 0) [] := fun V => ⟨by simp, none, 0, rfl, Nat.le_refl _, fun h => absurd rfl h⟩
  have HNIL := Lib.hid hnil
  clear hnil
  by_cases h0 : er = 0
  · subst h0
    have HV := Lib.hid (valid_of HER.out)
    have hall := rall_any c HV.out _ _ 0 HV.out.n1 c.shs.length [] (.slice none 0 0) w1 w1.heap.size (by simp) (fun i => by simp) C1.out (Nat.le_refl _) (World.ownsRow_nil _ _ _ _)
    rw [HTOL.out, show ((0 : Nat) : Int) = 0 from rfl] at hall
    obtain ⟨o, ho⟩ : ∃ o, allM c 0 c.shs.length [] = o := ⟨_, rfl⟩
    have HLS := Lib.hid (least_found HER.out)
    have HG : Hid (GoodF c.shs.length o) := by rw [← ho]; exact allM_good c HV.out 0 c.shs.length [] (by simp) (fun i => by simp)
    rw [ho] at hall HLS
    have HA := Lib.hid hall
    clear hall ho
    have c0 := cellOf R1.out 0 _ rfl
    have c1 := cellOf R1.out 1 _ rfl
    have c2 := cellOf R1.out 2 _ rfl
    have cl := lt_of_block R1.out
    go_wp2_with fail
    refine HA.out.mono ?_
    rintro e w2 ⟨v, rfl, hv, hb2⟩
    have R2 := Lib.hid ((hb2.block _ (lt_of_block R1.out)).trans R1.out)
    have C2 := Lib.hid (C1.out.below hb2)
    have B2 := Lib.hid (B1.out.trans (hb2.mono B1.out.size))
    clear hb2 HA R1 C1 B1 c0 c1 c2 cl
    cases o with
    | none =>
      have hv' : v = .agg #[.bool false, .slice none 0 0, .int .i64 0, .int .i64 0] := hv
      subst hv'
      have hr := HLS.out.1 rfl
      rw [HRES.out] at hr
      subst hr
      have hba : Below w2.heap.size w2 (w2.alloc (Obj.cells #[.bool false, .slice none 0 0, .int .i64 0, .int .i64 0] 105)) := (Below.refl _ _).alloc (Nat.le_refl _) _
      have B3 := Lib.hid (B2.out.trans (hba.mono B2.out.size))
      clear hba hv
      go_wp2_with fail
      go_ret3
      exact ⟨_, rfl, HNIL.out _, B3.out⟩
    | some y =>
      obtain ⟨b, lo, hi⟩ := y
      obtain ⟨bv, hv', hob⟩ := hv
      simp only at hv' hob
      subst hv'
      obtain ⟨yl, hyl⟩ : ∃ z, b.length = z := ⟨_, rfl⟩
      have hr := HLS.out.2 _ rfl
      rw [HRES.out] at hr
      simp only at hr
      subst hr
      have g := HG.out _ rfl
      simp only at g
      rw [hyl] at hob
      obtain ⟨ba, bc, rfl⟩ := own_slice hob
      obtain ⟨wa, hwa⟩ : ∃ V, w2.alloc (Obj.cells #[.bool true, .slice ba yl bc, .int .i64 lo, .int .i64 hi] 105) = V := ⟨_, rfl⟩
      have hba : Below w2.heap.size w2 wa := by rw [← hwa]; exact (Below.refl _ _).alloc (Nat.le_refl _) _
      have YB := Lib.hid (show wa.heap[w2.heap.size]? = some (Obj.cells #[.bool true, .slice ba yl bc, .int .i64 lo, .int .i64 hi] 105) by rw [← hwa]; exact heap_alloc_new w2 _)
      have RA := Lib.hid ((hba.block _ (lt_of_block R2.out)).trans R2.out)
      have HI := Lib.hid (intsAt_own (l := b) (by rw [hyl]; exact own_below hob hba) (by have := g.1; have := HV.out.n5; omega))
      have BA := Lib.hid (B2.out.trans (hba.mono B2.out.size))
      skip
      have HF : Hid (∀ W', Below wa.heap.size wa W' → Calls Try.prog 39 #[.agg #[.int .i64 tol, .slice sa n sc, .slice ea m ec], .slice ba yl bc] W' fun e w' => e = .returned (.int .i64 (costL c b)) ∧ Below W'.heap.size W' w') := fun W' hb => rcosts_any tol c.shs _ _ _ b W' ((C2.out.below hba).shs.below hb) HV.out.sh (HI.out.below hb) (by have := g.1; omega) HV.out.n5 g.2
      have HWA := Lib.hid hwa
      clear hwa hob g HG R2 C2 B2 hba HLS
      go_upto_region 7 with fail
      rw [HWA.out]
      obtain ⟨gy, hgy⟩ : ∃ z, w2.heap.size = z := ⟨_, rfl⟩
      rw [hgy] at YB ⊢
      clear hgy HWA
      have c0 := cellOf RA.out 0 _ rfl
      have c1 := cellOf RA.out 1 _ rfl
      have c2 := cellOf RA.out 2 _ rfl
      have y0 : wa.cell? ⟨gy, 0, none⟩ = some (.bool true) := cellOf YB.out 0 _ rfl
      have y1c : wa.cell? ⟨gy, 1, none⟩ = some (.slice ba yl bc) := cellOf YB.out 1 _ rfl
      have cl := lt_of_block RA.out
      have KA : ∀ W' : World, Below wa.heap.size wa W' → (W'.cell? ⟨w.heap.size, 0, none⟩ = some (.int .i64 tol) ∧ W'.cell? ⟨w.heap.size, 1, none⟩ = some (.slice sa n sc) ∧ W'.cell? ⟨w.heap.size, 2, none⟩ = some (.slice ea m ec) ∧ W'.cell? ⟨gy, 1, none⟩ = some (.slice ba yl bc) ∧ Below wa.heap.size wa W') := fun W' hb => ⟨keepK c0 hb, keepK c1 hb, keepK c2 hb, keepK y1c hb, hb⟩
      refine wp_region_noPanic ?_
      refine wp_region_held_drew (S := (fun W' => W'.cell? ⟨w.heap.size, 0, none⟩ = some (.int .i64 tol) ∧ W'.cell? ⟨w.heap.size, 1, none⟩ = some (.slice sa n sc) ∧ W'.cell? ⟨w.heap.size, 2, none⟩ = some (.slice ea m ec) ∧ W'.cell? ⟨gy, 1, none⟩ = some (.slice ba yl bc) ∧ Below wa.heap.size wa W')) (by kernel_rfl) ?_ (fun hh0 => ?_)
      · exact KA _ (Below.refl _ _).drew
      refine wpAnyH_take (i := 0) (v := ?_) rfl (by as_aux_lemma => kernel_rfl) (by as_aux_lemma => kernel_rfl) (by as_aux_lemma => kernel_rfl) (fun _ _ _ h => h) (Or.inl ⟨by rfl, ?_⟩) (by assumption) ?_
      rotate_left
      · intro w hSw
        try dsimp only at hSw
        go_simp
        try with_reducible rfl
      try simp only [Act.put, List.getElem_toArray, List.getElem_cons_succ, List.getElem_cons_zero, List.setIfInBounds_toArray, List.set_cons_zero, List.set_cons_succ]
      refine wpAnyH_take (i := 1) (v := ?_) rfl (by as_aux_lemma => kernel_rfl) (by as_aux_lemma => kernel_rfl) (by as_aux_lemma => kernel_rfl) (fun _ _ _ h => h) (Or.inl ⟨by rfl, ?_⟩) (by assumption) ?_
      rotate_left
      · intro w hSw
        try dsimp only at hSw
        go_simp
        try with_reducible rfl
      try simp only [Act.put, List.getElem_toArray, List.getElem_cons_succ, List.getElem_cons_zero, List.setIfInBounds_toArray, List.set_cons_zero, List.set_cons_succ]
      refine wpAnyH_take (i := 2) (v := ?_) rfl (by as_aux_lemma => kernel_rfl) (by as_aux_lemma => kernel_rfl) (by as_aux_lemma => kernel_rfl) (fun _ _ _ h => h) (Or.inl ⟨by rfl, ?_⟩) (by assumption) ?_
      rotate_left
      · intro w hSw
        try dsimp only at hSw
        go_simp
        try with_reducible rfl
      try simp only [Act.put, List.getElem_toArray, List.getElem_cons_succ, List.getElem_cons_zero, List.setIfInBounds_toArray, List.set_cons_zero, List.set_cons_succ]
      refine wpAnyH_take (i := 3) (v := ?_) rfl (by as_aux_lemma => kernel_rfl) (by as_aux_lemma => kernel_rfl) (by as_aux_lemma => kernel_rfl) (fun _ _ _ h => h) (Or.inl ⟨by rfl, ?_⟩) (by assumption) ?_
      rotate_left
      · intro w hSw
        try dsimp only at hSw
        go_simp
        try with_reducible rfl
      try simp only [Act.put, List.getElem_toArray, List.getElem_cons_succ, List.getElem_cons_zero, List.setIfInBounds_toArray, List.set_cons_zero, List.set_cons_succ]
      refine wpAnyH_take (i := 4) (v := ?_) rfl (by as_aux_lemma => kernel_rfl) (by as_aux_lemma => kernel_rfl) (by as_aux_lemma => kernel_rfl) (fun _ _ _ h => h) (Or.inl ⟨by rfl, ?_⟩) (by assumption) ?_
      rotate_left
      · intro w hSw
        try dsimp only at hSw
        go_simp
        try with_reducible rfl
      try simp only [Act.put, List.getElem_toArray, List.getElem_cons_succ, List.getElem_cons_zero, List.setIfInBounds_toArray, List.set_cons_zero, List.set_cons_succ]
      refine wpAnyH_ready (rs := [5]) (by as_aux_lemma => kernel_rfl) (by simp) ?_
      refine AllReadyH.cons rfl (fun K hK => ?_) AllReadyH.nil
      go_simp
      refine (HF.out _ hh0.2.2.2.2).mono ?_
      rintro e wx0 ⟨rfl, hbx0⟩
      refine hK.out _ _ (KA _ (Below.trans hh0.2.2.2.2 (Below.mono hbx0 (hh0.2.2.2.2).size))) (fun hh1 => ?_)
      clear hK K
      try simp only [Act.put, List.getElem_toArray, List.getElem_cons_succ, List.getElem_cons_zero, List.setIfInBounds_toArray, List.set_cons_zero, List.set_cons_succ]
      refine wpAnyH_ready (rs := [6]) (by as_aux_lemma => kernel_rfl) (by simp) ?_
      refine AllReadyH.cons rfl (fun K hK => ?_) AllReadyH.nil
      go_simp
      refine hK.out _ _ hh1 (fun hh2 => ?_)
      clear hK K
      try simp only [Act.put, List.getElem_toArray, List.getElem_cons_succ, List.getElem_cons_zero, List.setIfInBounds_toArray, List.set_cons_zero, List.set_cons_succ]
      refine wpAnyH_ready (rs := [7]) (by as_aux_lemma => kernel_rfl) (by simp) ?_
      refine AllReadyH.cons rfl (fun K hK => ?_) AllReadyH.nil
      go_simp
      refine hK.out _ _ hh2 (fun hh3 => ?_)
      clear hK K
      try simp only [Act.put, List.getElem_toArray, List.getElem_cons_succ, List.getElem_cons_zero, List.setIfInBounds_toArray, List.set_cons_zero, List.set_cons_succ]
      refine wpAnyH_ready (rs := [8]) (by as_aux_lemma => kernel_rfl) (by simp) ?_
      refine AllReadyH.cons rfl (fun K hK => ?_) AllReadyH.nil
      go_simp
      refine hK.out _ _ hh3 (fun hh4 => ?_)
      clear hK K
      try simp only [Act.put, List.getElem_toArray, List.getElem_cons_succ, List.getElem_cons_zero, List.setIfInBounds_toArray, List.set_cons_zero, List.set_cons_succ]
      refine wpAnyH_done (by as_aux_lemma => kernel_rfl) ?_ _
      refine NoPanic.normal ?_
      have HBZ := Lib.hid (hh4.2.2.2.2)
      go_wp2_with fail
      go_ret3
      exact ⟨_, rfl, HI.out.below HBZ.out, BA.out.trans (HBZ.out.mono BA.out.size)⟩

  · have tz : (er != 0) = true := by simp [h0]
    have hr := least_err (c := c) (by rw [HER.out]; exact h0)
    rw [HRES.out, HER.out] at hr
    subst hr
    clear h0
    go_wp2_with fail
    go_ret3
    exact ⟨_, rfl, HNIL.out _, B1.out⟩
theorem range_found {c : Cas} (h : errC c = 0) (i : Nat) (hi : i < c.shs.length) : (allM c i c.shs.length [] = none → rangeE c i = ((0, 0), 9)) ∧ ∀ o, allM c i c.shs.length [] = some o → rangeE c i = ((o.2.1, o.2.2), 0) :=
  ⟨fun e => range_no c h i hi (all_none c h i e), fun _ e => all_range c h i hi e⟩
set_option maxRecDepth 100000 in
set_option maxHeartbeats 8000000 in
theorem rrange_any (c : Cas) (sv ev : Value) (i : Int) (w : World) (hC : CasAt w c sv ev) :
    Calls Try.prog 26 #[.agg #[.int .i64 c.tol, sv, ev], .int .i64 i] w fun e w' => e = .returned (.tuple #[.agg #[.int .i64 (rangeE c i).1.1, .int .i64 (rangeE c i).1.2], .int .i64 (rangeE c i).2]) ∧ Below w.heap.size w w' := by
  obtain ⟨sa, n, sc, rfl, hn⟩ : ∃ a n cc, sv = .slice a n cc ∧ n = c.shs.length := by obtain ⟨_, a, cap, h, _⟩ := hC.shs; exact ⟨_, _, _, h, rfl⟩
  obtain ⟨ea, m, ec, rfl⟩ : ∃ a n cc, ev = .slice a n cc := by obtain ⟨_, a, cap, h, _⟩ := hC.eds; exact ⟨_, _, _, h⟩
  obtain ⟨res, hres⟩ : ∃ x, rangeE c i = x := ⟨_, rfl⟩
  have HRES := Lib.hid hres
  rw [hres]
  clear hres
  obtain ⟨tol, htol⟩ : ∃ t, c.tol = t := ⟨_, rfl⟩
  obtain ⟨W, hW, q1, q2, hb, hsz⟩ := al2 w (Obj.cells #[.int .i64 tol, .slice sa n sc, .slice ea m ec] 25) (Obj.cells #[.int .i64 0, .int .i64 0] 31)
  have hck := rcheck_any c _ _ W (hC.below hb)
  rw [htol] at hck ⊢
  have HCK := Lib.hid hck
  have HR := Lib.hid q1
  have HP := Lib.hid q2
  have HC := Lib.hid (hC.below hb)
  have HW := Lib.hid hW
  have HB := Lib.hid hb
  have HTOL := Lib.hid htol
  have HN := Lib.hid hn
  clear hW hb hC htol hck q1 q2 hsz hn
  go_enter Try.func26, Try.ntmps26
  go_wp2_with fail
  rw [HW.out]
  have c0 := cellOf HR.out 0 _ rfl
  have c1 := cellOf HR.out 1 _ rfl
  have c2 := cellOf HR.out 2 _ rfl
  have cl := lt_of_block HR.out
  go_wp2_with fail
  refine HCK.out.mono ?_
  rintro e w1 ⟨rfl, hb1⟩
  have R1 := Lib.hid ((hb1.block _ (lt_of_block HR.out)).trans HR.out)
  have P1 := Lib.hid ((hb1.block _ (lt_of_block HP.out)).trans HP.out)
  have C1 := Lib.hid (HC.out.below hb1)
  have B1 := Lib.hid (HB.out.trans (hb1.mono HB.out.size))
  clear hb1 HB HC HCK HW HR HP c0 c1 c2 cl
  obtain ⟨⟨k1, k2, er⟩, hk⟩ : ∃ x, checkC c = x := ⟨_, rfl⟩
  have HER : Hid (errC c = er) := by show _ = _; unfold errC; rw [hk]
  rw [hk]
  clear hk
  by_cases h0 : er = 0
  · subst h0
    have HV := Lib.hid (valid_of HER.out)
    have n5 : n ≤ 5 := by rw [HN.out]; exact HV.out.n5
    have nI : (n : Int) ≤ 5 := by omega
    have c1 := cellOf R1.out 1 _ rfl
    have cl := lt_of_block R1.out
    go_wp2_with fail
    refine (rin_any _ _ _ _).mono ?_
    rintro e w2 ⟨rfl, rfl⟩
    clear c1 cl
    obtain ⟨B0, hB0⟩ : ∃ B, inB 0 ((n : Int) - 1) i = B := ⟨_, rfl⟩
    have HB0 := Lib.hid hB0
    rw [hB0]
    clear hB0
    cases B0
    · have hr : rangeE c i = ((0, 0), 4) := by unfold rangeE; rw [if_neg (by simp [HER.out]), if_pos (by rw [← HN.out]; exact HB0.out)]
      rw [HRES.out] at hr
      subst hr
      have s0 := cellOf P1.out 0 _ rfl; have s1 := cellOf P1.out 1 _ rfl; have f0 := frozen_of_row _ _ 0 _ _ P1.out; have f1 := frozen_of_row _ _ 1 _ _ P1.out; have sl := lt_of_block P1.out
      go_wp2_with fail
      exact bodyPost_ret (span_result2 rfl _ _ (w.heap.size + 1) _ _ rfl (two_set2 P1.out)) rfl ⟨rfl, two_below B1.out (by omega)⟩
    · obtain ⟨s, rfl, hs⟩ : ∃ s : Nat, i = s ∧ s < c.shs.length := by
        have h := HB0.out
        unfold inB at h
        simp only [Bool.and_eq_true, decide_eq_true_eq] at h
        exact ⟨i.toNat, by omega, by have := HN.out; omega⟩
      have hall := rall_any c HV.out _ _ s hs c.shs.length [] (.slice none 0 0) w1 w1.heap.size (by simp) (fun i => by simp) C1.out (Nat.le_refl _) (World.ownsRow_nil _ _ _ _)
      rw [HTOL.out] at hall
      obtain ⟨o, ho⟩ : ∃ o, allM c s c.shs.length [] = o := ⟨_, rfl⟩
      have HLS := Lib.hid (range_found HER.out s hs)
      rw [ho] at hall HLS
      have HA := Lib.hid hall
      clear hall ho
      have c0 := cellOf R1.out 0 _ rfl
      have c1 := cellOf R1.out 1 _ rfl
      have c2 := cellOf R1.out 2 _ rfl
      have cl := lt_of_block R1.out
      go_wp2_with fail
      refine HA.out.mono ?_
      rintro e w2 ⟨v, rfl, hv, hb2⟩
      have P2 := Lib.hid ((hb2.block _ (lt_of_block P1.out)).trans P1.out)
      have B2 := Lib.hid (B1.out.trans (hb2.mono B1.out.size))
      clear hb2 HA R1 C1 B1 P1 c0 c1 c2 cl
      cases o with
      | none =>
        have hv' : v = .agg #[.bool false, .slice none 0 0, .int .i64 0, .int .i64 0] := hv
        subst hv'
        have hr := HLS.out.1 rfl
        rw [HRES.out] at hr
        subst hr
        obtain ⟨wa, hwa⟩ : ∃ V, w2.alloc (Obj.cells #[.bool false, .slice none 0 0, .int .i64 0, .int .i64 0] 105) = V := ⟨_, rfl⟩
        have hba : Below w2.heap.size w2 wa := by rw [← hwa]; exact (Below.refl _ _).alloc (Nat.le_refl _) _
        have YB := Lib.hid (show wa.heap[w2.heap.size]? = some (Obj.cells #[.bool false, .slice none 0 0, .int .i64 0, .int .i64 0] 105 (0, 0)) by rw [← hwa]; exact heap_alloc_new w2 _)
        have PA := Lib.hid ((hba.block _ (lt_of_block P2.out)).trans P2.out)
        have BA := Lib.hid (B2.out.trans (hba.mono B2.out.size))
        have HWA := Lib.hid hwa
        have gne : ¬ w.heap.size + 1 = w2.heap.size := by have := lt_of_block P2.out; omega
        clear hba hv hwa P2 B2
        go_upto_region 7 with fail
        rw [HWA.out]
        obtain ⟨gy, hgy⟩ : ∃ z, w2.heap.size = z := ⟨_, rfl⟩
        rw [hgy] at YB gne ⊢
        clear hgy HWA
        have y0 : wa.cell? ⟨gy, 0, none⟩ = some (.bool false) := cellOf YB.out 0 _ rfl
        have s0 := cellOf PA.out 0 _ rfl; have s1 := cellOf PA.out 1 _ rfl; have f0 := frozen_of_row _ _ 0 _ _ PA.out; have f1 := frozen_of_row _ _ 1 _ _ PA.out; have sl := lt_of_block PA.out
        go_wp2_with fail
        exact bodyPost_ret (span_result2 rfl _ _ (w.heap.size + 1) _ _ rfl (two_set2 PA.out)) rfl ⟨rfl, two_below BA.out (by omega)⟩
      | some y =>
        obtain ⟨b, lo, hi⟩ := y
        obtain ⟨bv, hv', hob⟩ := hv
        simp only at hv' hob
        subst hv'
        obtain ⟨yl, hyl⟩ : ∃ z, b.length = z := ⟨_, rfl⟩
        rw [hyl] at hob
        obtain ⟨ba, bc, rfl⟩ := own_slice hob
        have hr := HLS.out.2 _ rfl
        rw [HRES.out] at hr
        simp only at hr
        subst hr
        obtain ⟨wa, hwa⟩ : ∃ V, w2.alloc (Obj.cells #[.bool true, .slice ba yl bc, .int .i64 lo, .int .i64 hi] 105) = V := ⟨_, rfl⟩
        have hba : Below w2.heap.size w2 wa := by rw [← hwa]; exact (Below.refl _ _).alloc (Nat.le_refl _) _
        have YB := Lib.hid (show wa.heap[w2.heap.size]? = some (Obj.cells #[.bool true, .slice ba yl bc, .int .i64 lo, .int .i64 hi] 105 (0, 0)) by rw [← hwa]; exact heap_alloc_new w2 _)
        have PA := Lib.hid ((hba.block _ (lt_of_block P2.out)).trans P2.out)
        have BA := Lib.hid (B2.out.trans (hba.mono B2.out.size))
        have HWA := Lib.hid hwa
        have gne : ¬ w.heap.size + 1 = w2.heap.size := by have := lt_of_block P2.out; omega
        clear hba hob hwa P2 B2
        go_upto_region 7 with fail
        rw [HWA.out]
        obtain ⟨gy, hgy⟩ : ∃ z, w2.heap.size = z := ⟨_, rfl⟩
        rw [hgy] at YB gne ⊢
        clear hgy HWA
        have y0 : wa.cell? ⟨gy, 0, none⟩ = some (.bool true) := cellOf YB.out 0 _ rfl
        have y2 : wa.cell? ⟨gy, 2, none⟩ = some (.int .i64 lo) := cellOf YB.out 2 _ rfl
        have y3 : wa.cell? ⟨gy, 3, none⟩ = some (.int .i64 hi) := cellOf YB.out 3 _ rfl
        have s0 := cellOf PA.out 0 _ rfl; have s1 := cellOf PA.out 1 _ rfl; have f0 := frozen_of_row _ _ 0 _ _ PA.out; have f1 := frozen_of_row _ _ 1 _ _ PA.out; have sl := lt_of_block PA.out
        go_wp2_with fail
        exact bodyPost_ret (span_result2 rfl _ _ (w.heap.size + 1) _ _ rfl (two_set2 PA.out)) rfl ⟨rfl, two_below BA.out (by omega)⟩
  · have tz : (er == 0) = false := by simp [h0]
    have tz2 : (er != 0) = true := by simp [h0]
    have hr : rangeE c i = ((0, 0), er) := by unfold rangeE; rw [if_pos (by rw [HER.out]; exact h0), HER.out]
    rw [HRES.out] at hr
    subst hr
    clear h0
    have s0 := cellOf P1.out 0 _ rfl; have s1 := cellOf P1.out 1 _ rfl; have f0 := frozen_of_row _ _ 0 _ _ P1.out; have f1 := frozen_of_row _ _ 1 _ _ P1.out; have sl := lt_of_block P1.out
    go_wp2_with fail
    exact bodyPost_ret (span_result2 rfl _ _ (w.heap.size + 1) _ _ rfl (two_set2 P1.out)) rfl ⟨rfl, two_below B1.out (by omega)⟩
end Go.Proofs.Ytojdocomkhihoaa
namespace Go.Proofs.Ytojdocomkhihoaa
open Go Go.RowKit Go.Shelf Ed

set_option maxRecDepth 100000 in
set_option maxHeartbeats 8000000 in
theorem lranges_any (c : Cas) (sv ev : Value) (i : Int) (w : World) (hC : CasAt w c sv ev) :
    Calls Try.prog 4 #[.agg #[.int .i64 c.tol, sv, ev], .int .i64 i] w fun e w' => e = .returned (.bool true) ∧ Below w.heap.size w w' := by
  obtain ⟨sa, n, sc, rfl⟩ : ∃ a n cc, sv = .slice a n cc := by obtain ⟨_, a, cap, h, _⟩ := hC.shs; exact ⟨_, _, _, h⟩
  obtain ⟨ea, m, ec, rfl⟩ : ∃ a n cc, ev = .slice a n cc := by obtain ⟨_, a, cap, h, _⟩ := hC.eds; exact ⟨_, _, _, h⟩
  obtain ⟨tol, htol⟩ : ∃ t, c.tol = t := ⟨_, rfl⟩
  have HTOL := Lib.hid htol
  obtain ⟨W, hW⟩ : ∃ W, w.alloc (Obj.cells #[.int .i64 tol, .slice sa n sc, .slice ea m ec] 25) = W := ⟨_, rfl⟩
  have hb : Below w.heap.size w W := by rw [← hW]; exact (Below.refl _ _).alloc (Nat.le_refl _) _
  have HR : Hid (W.heap[w.heap.size]? = some (Obj.cells #[.int .i64 tol, .slice sa n sc, .slice ea m ec] 25)) := by show _ = _; rw [← hW]; exact heap_alloc_new w _
  have HC := Lib.hid (hC.below hb)
  have HW := Lib.hid hW
  have HB := Lib.hid hb
  rw [htol]
  clear hW hb hC htol
  go_enter Try.func4, Try.ntmps4
  go_wp2_with fail
  rw [HW.out]
  clear HW
  obtain ⟨⟨⟨a1, a2⟩, a3⟩, ha⟩ : ∃ x, rangeE c i = x := ⟨_, rfl⟩
  have HA := Lib.hid ha
  clear ha
  obtain ⟨⟨bl, bm, be⟩, hbl⟩ : ∃ x, leastE c = x := ⟨_, rfl⟩
  have HL := Lib.hid hbl
  clear hbl
  have r0 := cellOf HR.out 0 _ rfl
  have r1 := cellOf HR.out 1 _ rfl
  have r2 := cellOf HR.out 2 _ rfl
  have rl := lt_of_block HR.out
  go_wp2_with fail
  clear r0 r1 r2 rl
  have hcall := rangeT_any c _ _ i W HC.out
  rw [HTOL.out] at hcall
  refine hcall.mono ?_
  clear hcall
  rintro e w3 ⟨rfl, hb⟩
  have HR' := Lib.hid ((hb.block _ (lt_of_block HR.out)).trans HR.out)
  have HC' := Lib.hid (HC.out.below hb)
  have HB' := Lib.hid (HB.out.trans (hb.mono HB.out.size))
  clear HR
  have HR := HR'
  clear HR'
  clear HC
  have HC := HC'
  clear HC'
  clear HB
  have HB := HB'
  clear HB'
  clear hb
  rw [HA.out]
  simp only
  have r0 := cellOf HR.out 0 _ rfl
  have r1 := cellOf HR.out 1 _ rfl
  have r2 := cellOf HR.out 2 _ rfl
  have rl := lt_of_block HR.out
  go_wp2_with fail
  clear r0 r1 r2 rl
  have hb := (Below.refl w3.heap.size w3).alloc (Nat.le_refl _) (Obj.cells #[.int .i64 a1, .int .i64 a2] 31)
  have HS1 := Lib.hid (heap_alloc_new w3 (Obj.cells #[.int .i64 a1, .int .i64 a2] 31))
  have hz : (w3.alloc (Obj.cells #[.int .i64 a1, .int .i64 a2] 31)).heap.size = w3.heap.size + 1 := by simp
  have HR' := Lib.hid ((hb.block _ (lt_of_block HR.out)).trans HR.out)
  have HC' := Lib.hid (HC.out.below hb)
  have HB' := Lib.hid (HB.out.trans (hb.mono HB.out.size))
  clear HR
  have HR := HR'
  clear HR'
  clear HC
  have HC := HC'
  clear HC'
  clear HB
  have HB := HB'
  clear HB'
  clear hb
  generalize w3.alloc (Obj.cells #[.int .i64 a1, .int .i64 a2] 31) = w4 at *
  have Z4 := Lib.hid hz
  clear hz
  have hcall := rrange_any c _ _ i w4 HC.out
  rw [HTOL.out] at hcall
  refine hcall.mono ?_
  clear hcall
  rintro e w5 ⟨rfl, hb⟩
  have HR' := Lib.hid ((hb.block _ (lt_of_block HR.out)).trans HR.out)
  have HC' := Lib.hid (HC.out.below hb)
  have HB' := Lib.hid (HB.out.trans (hb.mono HB.out.size))
  have HS1' := Lib.hid ((hb.block _ (lt_of_block HS1.out)).trans HS1.out)
  clear HR
  have HR := HR'
  clear HR'
  clear HC
  have HC := HC'
  clear HC'
  clear HB
  have HB := HB'
  clear HB'
  clear HS1
  have HS1 := HS1'
  clear HS1'
  clear hb
  rw [HA.out]
  simp only
  have ta3 : (a3 != a3) = false := by simp
  have ta1 : (a1 != a1) = false := by simp
  have ta2 : (a2 != a2) = false := by simp
  obtain ⟨u1, hu1⟩ : ∃ u, w3.heap.size = u := ⟨_, rfl⟩
  rw [hu1] at HS1 ⊢
  clear hu1
  have x0 := cellOf HS1.out 0 _ rfl
  have x1 := cellOf HS1.out 1 _ rfl
  have xl := lt_of_block HS1.out
  have r0 := cellOf HR.out 0 _ rfl
  have r1 := cellOf HR.out 1 _ rfl
  have r2 := cellOf HR.out 2 _ rfl
  have rl := lt_of_block HR.out
  go_wp2_with fail
  clear x0 x1 xl r0 r1 r2 rl
  have hb := (Below.refl w5.heap.size w5).alloc (Nat.le_refl _) (Obj.cells #[.int .i64 a1, .int .i64 a2] 31)
  have HS2 := Lib.hid (heap_alloc_new w5 (Obj.cells #[.int .i64 a1, .int .i64 a2] 31))
  have hz : (w5.alloc (Obj.cells #[.int .i64 a1, .int .i64 a2] 31)).heap.size = w5.heap.size + 1 := by simp
  have HR' := Lib.hid ((hb.block _ (lt_of_block HR.out)).trans HR.out)
  have HC' := Lib.hid (HC.out.below hb)
  have HB' := Lib.hid (HB.out.trans (hb.mono HB.out.size))
  have HS1' := Lib.hid ((hb.block _ (lt_of_block HS1.out)).trans HS1.out)
  clear HR
  have HR := HR'
  clear HR'
  clear HC
  have HC := HC'
  clear HC'
  clear HB
  have HB := HB'
  clear HB'
  clear HS1
  have HS1 := HS1'
  clear HS1'
  clear hb
  generalize w5.alloc (Obj.cells #[.int .i64 a1, .int .i64 a2] 31) = w6 at *
  clear hz
  have hcall := least1_any c _ _ w6 HC.out
  rw [HTOL.out] at hcall
  refine hcall.mono ?_
  clear hcall
  rintro e w7 ⟨lv, rfl, hI, hb⟩
  have HR' := Lib.hid ((hb.block _ (lt_of_block HR.out)).trans HR.out)
  have HC' := Lib.hid (HC.out.below hb)
  have HB' := Lib.hid (HB.out.trans (hb.mono HB.out.size))
  have HS1' := Lib.hid ((hb.block _ (lt_of_block HS1.out)).trans HS1.out)
  have HS2' := Lib.hid ((hb.block _ (lt_of_block HS2.out)).trans HS2.out)
  clear HR
  have HR := HR'
  clear HR'
  clear HC
  have HC := HC'
  clear HC'
  clear HB
  have HB := HB'
  clear HB'
  clear HS1
  have HS1 := HS1'
  clear HS1'
  clear HS2
  have HS2 := HS2'
  clear HS2'
  clear hb
  rw [HL.out] at hI ⊢
  simp only at hI ⊢
  have HI := Lib.hid hI
  clear hI
  have r0 := cellOf HR.out 0 _ rfl
  have r1 := cellOf HR.out 1 _ rfl
  have r2 := cellOf HR.out 2 _ rfl
  have rl := lt_of_block HR.out
  go_wp2_with fail
  clear r0 r1 r2 rl
  have hcall := rleast_any c _ _ w7 HC.out
  rw [HTOL.out] at hcall
  refine hcall.mono ?_
  clear hcall
  rintro e w8 ⟨kv, rfl, hI, hb⟩
  have HR' := Lib.hid ((hb.block _ (lt_of_block HR.out)).trans HR.out)
  have HC' := Lib.hid (HC.out.below hb)
  have HB' := Lib.hid (HB.out.trans (hb.mono HB.out.size))
  have HS1' := Lib.hid ((hb.block _ (lt_of_block HS1.out)).trans HS1.out)
  have HS2' := Lib.hid ((hb.block _ (lt_of_block HS2.out)).trans HS2.out)
  have HI' := Lib.hid (HI.out.below hb)
  clear HR
  have HR := HR'
  clear HR'
  clear HC
  have HC := HC'
  clear HC'
  clear HB
  have HB := HB'
  clear HB'
  clear HS1
  have HS1 := HS1'
  clear HS1'
  clear HS2
  have HS2 := HS2'
  clear HS2'
  clear HI
  have HI := HI'
  clear HI'
  clear hb
  rw [HL.out] at hI ⊢
  simp only at hI ⊢
  have HJ := Lib.hid hI
  clear hI
  have tm : (bm == bm) = true := by simp
  have te : (be == be) = true := by simp
  have r0 := cellOf HR.out 0 _ rfl
  have r1 := cellOf HR.out 1 _ rfl
  have r2 := cellOf HR.out 2 _ rfl
  have rl := lt_of_block HR.out
  go_wp2_with fail
  clear r0 r1 r2 rl
  have hcall := ints_eq _ _ bl w8 HI.out HJ.out
  refine hcall.mono ?_
  clear hcall
  rintro e w9 ⟨rfl, hb⟩
  have HR' := Lib.hid ((hb.block _ (lt_of_block HR.out)).trans HR.out)
  have HC' := Lib.hid (HC.out.below hb)
  have HB' := Lib.hid (HB.out.trans (hb.mono HB.out.size))
  have HS1' := Lib.hid ((hb.block _ (lt_of_block HS1.out)).trans HS1.out)
  have HS2' := Lib.hid ((hb.block _ (lt_of_block HS2.out)).trans HS2.out)
  have HI' := Lib.hid (HI.out.below hb)
  have HJ' := Lib.hid (HJ.out.below hb)
  clear HR
  have HR := HR'
  clear HR'
  clear HC
  have HC := HC'
  clear HC'
  clear HB
  have HB := HB'
  clear HB'
  clear HS1
  have HS1 := HS1'
  clear HS1'
  clear HS2
  have HS2 := HS2'
  clear HS2'
  clear HI
  have HI := HI'
  clear HI'
  clear HJ
  have HJ := HJ'
  clear HJ'
  clear hb
  have r0 := cellOf HR.out 0 _ rfl
  have r1 := cellOf HR.out 1 _ rfl
  have r2 := cellOf HR.out 2 _ rfl
  have rl := lt_of_block HR.out
  go_wp2_with fail
  clear r0 r1 r2 rl
  refine (awake_any w9).mono ?_
  rintro e wz ⟨rfl, hb⟩
  have HBF := Lib.hid (HB.out.trans (hb.mono HB.out.size))
  clear hb
  go_wp2_with fail
  go_ret
  exact ⟨rfl, HBF.out⟩
end Go.Proofs.Ytojdocomkhihoaa
namespace Go.Proofs.Ytojdocomkhihoaa
namespace ClaimEdgeRanges
open Go.ChangeShapes Go.WideShapes Go.ChangeAt Go.RowKit

theorem own : ownKnob Try.prog.godebug = none := by kernel_rfl
theorem laidOutP : laidOutB Try.prog = true := by kernel_rfl

set_option maxRecDepth 100000 in
theorem contract (H : Type) (enc : TypeId × Value → H) (W : World) (base : Nat) (args : Array Value) (ds gs : List (DataW H)) (before : List MemPlace)
    (hval : ∀ (j : Nat) t v, Try.f4.params[j]? = some t → args[j]? = some v → Value.okWide Try.prog W .any base t v)
    (hW : DataW.Whole enc Try.prog Try.f4.params.toList Rows.edgeRangesSpec.vars false W args.toList ds gs before)
    (hsz : (DataW.weightsEach Try.prog (Try.f4.params.toList ++ Rows.edgeRangesSpec.plain.varTypes Try.prog) (ds ++ gs)).all (· ≤ reachBytes) = true) :
    Calls Try.prog 4 args W fun e W' => ∃ v, e = .returned v ∧ Rows.edgeRangesSpec.post enc Try.prog Try.f4 false true false false W args v W' := by
  have hW' := hW
  obtain ⟨p, q, hA0, hV, rfl, hfz, hnd⟩ := hW
  have hA : DataW.TrodAll enc Try.prog W 0 (fun _ => true) true Try.f4.params.toList args.toList ds p := hA0
  rw [Try.params4] at hA hval hsz
  obtain ⟨v0, vs0, d0, ds0, p0, q0, hargs, rfl, rfl, h0, r0⟩ := trodAll_cons hA
  obtain ⟨v1, vs1, d1, ds1, p1, q1, rfl, rfl, rfl, h1, r1⟩ := trodAll_cons r0
  obtain ⟨rfl, rfl, rfl⟩ := trodAll_nil r1
  obtain rfl : args = #[v0, v1] := by cases args; simp_all
  obtain ⟨rfl, rfl⟩ := trodVars_none hV
  have w0 : ∀ x ∈ d0.weights Try.prog 25, x ≤ reachBytes := fun x hx => of_decide_eq_true (List.all_eq_true.1 hsz _ (DataW.weights_mem_each (j := 0) (t := 25) (d := d0) rfl rfl x hx))
  obtain ⟨c0, sv0, ev0, rfl, hC0⟩ := open_case (hval 0 25 v0 rfl rfl) h0 w0
  obtain ⟨n1, rfl, _, _, k1⟩ := open_int Try.underlying3 (hval 1 3 v1 rfl rfl) h1
  have b1 : -9223372036854775808 ≤ n1 ∧ n1 ≤ 9223372036854775807 := by simpa [Lit.wf, IntKind.min, IntKind.max, IntKind.signed, IntKind.bits] using k1
  clear hA0
  refine (lranges_any c0 sv0 ev0 n1 W hC0).mono fun e W' ⟨he, hb⟩ => ?_
  subst he
  exact ⟨_, rfl, post_law laidOutP (by rw [Try.params4]; intro t ht; simp at ht; rcases ht with rfl | rfl <;> exact ⟨by kernel_rfl, of_decide_eq_true (by kernel_rfl)⟩) rfl rfl Try.underlying4 rfl hW' hb⟩

set_option maxRecDepth 100000 in
theorem lifted (os : Os) (started : os.Started) (H : Type) (enc : TypeId × Value → H) :
    ReturnsInHanded {} Try.checked os 4 .any (Rows.edgeRangesSpec.pre6 enc Try.prog Try.f4 Rows.edgeRangesRow.domain false) (Rows.edgeRangesSpec.post enc Try.prog Try.f4 false true false false) := by
  refine returnsInHanded_of_change_sized (C := Try.checked) own started (by kernel_rfl) Try.func4
    (ChangeSpec.witness6 (enc := enc) (C := Try.checked) false ⟨#[], #[.agg #[.int .i64 0, .slice none 0 0, .slice none 0 0], .int .i64 0], []⟩ 8 (by kernel_rfl) (by kernel_rfl) (by kernel_rfl) (by kernel_rfl)) ?_
  intro W base args ds gs before hval hW _ hsz _
  exact contract H enc W base args ds gs before hval hW hsz

theorem over : Rows.EdgeRangesSaid :=
  OpenClaim.holds_of_wide 4 Try.f4 rfl rfl rfl rfl rfl rfl rfl ⟨rfl, rfl, rfl, rfl, rfl⟩ rfl rfl rfl rfl rfl (by kernel_rfl) Try.func4 (by kernel_rfl)
    (of_decide_eq_true (by kernel_rfl)) (by unfold Func.isWrapper; first | (rw [if_pos (by decide +kernel)]; kernel_rfl) | (rw [if_neg (by decide +kernel)]; exact ⟨rfl, rfl⟩))
    (fun os started H enc _ => lifted os started H enc)
end ClaimEdgeRanges

theorem edgeRanges_holds : Rows.EdgeRangesSaid := ClaimEdgeRanges.over
end Go.Proofs.Ytojdocomkhihoaa
