/- Any of the statements of scale: any scale by two numbers. -/
import Derived.Test.YthflbbjilebhlaaYe
import Derived.Test.YthflbbjilebhlaaXj
import Derived.Laws.StructEq
set_option linter.unusedSimpArgs false
set_option linter.unusedVariables false
namespace Go.Proofs.Ythflbbjilebhlaa
open Go Go.RowKit Go.Shelf Sc

set_option maxRecDepth 100000 in
set_option maxHeartbeats 8000000 in
theorem any_any (x y : Nat) (w : World) (hx : x ≤ 255) (hy : y ≤ 255) :
    Calls Try.prog 40 #[.agg #[.int .u8 x, .int .u8 y]] w fun e w' => e = .returned (.agg #[.int .i64 (anyS x y).1, .int .i64 (anyS x y).2]) ∧ Below w.heap.size w w' := by
  obtain ⟨R, hR⟩ : ∃ R, anyS x y = R := ⟨_, rfl⟩
  rw [hR]
  unfold anyS at hR
  obtain ⟨a, ha⟩ : ∃ a, (x : Int) % 30 = a := ⟨_, rfl⟩
  obtain ⟨b, hb0⟩ : ∃ a, (y : Int) % 30 = a := ⟨_, rfl⟩
  obtain ⟨xi, hxi⟩ : ∃ a : Int, (x : Int) = a := ⟨_, rfl⟩
  obtain ⟨yi, hyi⟩ : ∃ a : Int, (y : Int) = a := ⟨_, rfl⟩
  have x0 : 0 ≤ xi ∧ xi ≤ 255 := by omega
  have y0 : 0 ≤ yi ∧ yi ≤ 255 := by omega
  rw [hxi] at ha
  rw [hyi] at hb0
  have a9 : 0 ≤ a ∧ a ≤ 29 := by omega
  have b9 : 0 ≤ b ∧ b ≤ 29 := by omega
  have tx : xi.tmod 30 = a := by rw [Int.tmod_eq_emod_of_nonneg (by omega)]; exact ha
  have ty : yi.tmod 30 = b := by rw [Int.tmod_eq_emod_of_nonneg (by omega)]; exact hb0
  have wx : IntKind.i64.wrap xi = xi := by rw [IntKind.wrap_i64] <;> omega
  have wy : IntKind.i64.wrap yi = yi := by rw [IntKind.wrap_i64] <;> omega
  have wa : IntKind.i64.wrap (1 + a) = 1 + a := by rw [IntKind.wrap_i64] <;> omega
  have wb : IntKind.i64.wrap (1 + b) = 1 + b := by rw [IntKind.wrap_i64] <;> omega
  rw [hxi, hyi, ha, hb0] at hR
  rw [hxi, hyi]
  obtain ⟨u, hu⟩ : ∃ u, 1 + a = u := ⟨_, rfl⟩
  obtain ⟨d, hd⟩ : ∃ u, 1 + b = u := ⟨_, rfl⟩
  rw [hu] at wa hR
  rw [hd] at wb hR
  have ub : 1 ≤ u ∧ u ≤ 30 := by omega
  have db : 1 ≤ d ∧ d ≤ 30 := by omega
  obtain ⟨W, hW, q1, q2, hb, hsz⟩ := al2 w (Obj.cells #[.int .u8 xi, .int .u8 yi] 56) (Obj.cells #[.int .i64 0, .int .i64 0] 27)
  have HO := Lib.hid (of_any u d W)
  have HW := Lib.hid hW
  have HB := Lib.hid hb
  have HR := Lib.hid hR
  have HUD := Lib.hid (And.intro ub db)
  have Q2 := Lib.hid q2
  have HSZ := Lib.hid hsz
  have c0 := cellOf q1 0 (.int .u8 xi) rfl
  have c1 := cellOf q1 1 (.int .u8 yi) rfl
  have cl := lt_of_block q1
  clear hW hb q1 q2 hR hxi hyi x0 y0 a9 b9 ha hb0 hx hy ub db hsz
  go_enter Try.func40, Try.ntmps40
  go_upto_region 1 with fail
  rw [HW.out]
  clear HW
  go_wp2_with fail
  skip
  refine HO.out.mono ?_
  rintro e w1 ⟨rfl, hb⟩
  have B1 := Lib.hid (HB.out.trans (hb.mono HB.out.size))
  have R1 := Lib.hid ((hb.block _ (lt_of_block Q2.out)).trans Q2.out)
  have S1 := Lib.hid (Nat.le_trans (Nat.le_of_eq HSZ.out.symm) hb.size)
  clear hb HB HO Q2 HSZ c0 c1 cl tx ty wx wy wa wb hu hd
  obtain ⟨W2, hW2, z1, hb⟩ : ∃ V, w1.alloc (Obj.cells #[.int .i64 u, .int .i64 d] 27) = V ∧ V.heap[w1.heap.size]? = some (.cells #[.int .i64 u, .int .i64 d] 27 (0, 0)) ∧ Below w1.heap.size w1 V := ⟨_, rfl, heap_alloc_new _ _, by go_grown⟩
  have Z1 := Lib.hid z1
  have B2 := Lib.hid (B1.out.trans (hb.mono B1.out.size))
  have R2 := Lib.hid ((hb.block _ (lt_of_block R1.out)).trans R1.out)
  have HW2 := Lib.hid hW2
  clear z1 hb hW2 R1 B1
  go_upto_region 3 with fail
  rw [HW2.out]
  clear HW2
  obtain ⟨p, hp⟩ : ∃ p, w1.heap.size = p := ⟨_, rfl⟩
  rw [hp] at Z1 S1 ⊢
  clear hp
  skip
  go_loopg [4] 29 (fun gh i wr => ∃ s : Scl, gh ≤ 29 ∧ i = .int .i64 ((gh : Int) + 1) ∧ anyGo gh s = R ∧ Hid (1 ≤ s.1 ∧ s.1 ≤ 30 ∧ 1 ≤ s.2 ∧ s.2 ≤ 30) ∧ Hid (wr.heap[p]? = some (.cells #[.int .i64 s.1, .int .i64 s.2] 27 (0, 0))) ∧ Hid (wr.heap[w.heap.size + 1]? = some (.cells #[.int .i64 0, .int .i64 0] 27 (0, 0))) ∧ Hid (Below w.heap.size w wr))
  case atStart => exact ⟨(u, d), Nat.le_refl _, rfl, HR.out, (by have h := HUD.out; exact ⟨h.1.1, h.1.2, h.2.1, h.2.2⟩), Z1, R2, B2⟩
  case round =>
    obtain ⟨⟨s1, s2⟩, g29, rfl, hgo, HS, HZ, HR2, HBB⟩ := hrel
    simp only at HS HZ
    cases gk with
    | zero =>
      have hgo' : (s1, s2) = R := hgo
      subst hgo'
      have k1 : ¬ (1 : Int) < ((0 : Nat) : Int) + 1 := by omega
      have z0 := cellOf HZ.out 0 (.int .i64 s1) rfl
      have z1 := cellOf HZ.out 1 (.int .i64 s2) rfl
      have zl := lt_of_block HZ.out
      have r0 := cellOf HR2.out 0 (.int .i64 0) rfl
      have r1 := cellOf HR2.out 1 (.int .i64 0) rfl
      have f0 := frozen_of_row _ _ 0 _ _ HR2.out
      have f1 := frozen_of_row _ _ 1 _ _ HR2.out
      have rl := lt_of_block HR2.out
      go_wp2_with fail
      refine bodyPost_ret (sc_result rfl _ _ (w.heap.size + 1) (.int .i64 s1) (.int .i64 s2) rfl (two_set HR2.out)) rfl ?_
      exact ⟨rfl, two_below (g := w.heap.size + 1) HBB.out (by omega)⟩
    | succ g =>
      have hs := HS.out
      obtain ⟨q, hq⟩ : ∃ q : Int, ((g : Int) + 1) + 1 = q := ⟨_, rfl⟩
      have hq0 : (((g + 1 : Nat) : Int) + 1) = q := by omega
      have hgo2 : anyGo g (if s1 % q = 0 ∧ s2 % q = 0 then (s1 / q, s2 / q) else (s1, s2)) = R := by
        rw [← hgo]
        show _ = anyGo g (if s1 % ((g : Int) + 2) = 0 ∧ s2 % ((g : Int) + 2) = 0 then (s1 / ((g : Int) + 2), s2 / ((g : Int) + 2)) else (s1, s2))
        rw [show (g : Int) + 2 = q by omega]
      rw [hq0]
      have q2 : 2 ≤ q ∧ q ≤ 30 := by omega
      have k1 : (1 : Int) < q := by omega
      have k0 : ¬ q = 0 := by omega
      have k9 : ¬ q = -1 := by omega
      have wq : IntKind.i64.wrap (q - 1) = (g : Int) + 1 := by rw [IntKind.wrap_i64] <;> omega
      obtain ⟨m1, hm1⟩ : ∃ m, s1 % q = m := ⟨_, rfl⟩
      obtain ⟨m2, hm2⟩ : ∃ m, s2 % q = m := ⟨_, rfl⟩
      have t1 : s1.tmod q = m1 := by rw [Int.tmod_eq_emod_of_nonneg (by omega)]; exact hm1
      have t2 : s2.tmod q = m2 := by rw [Int.tmod_eq_emod_of_nonneg (by omega)]; exact hm2
      have z0 := cellOf HZ.out 0 (.int .i64 s1) rfl
      have z1 := cellOf HZ.out 1 (.int .i64 s2) rfl
      have zl := lt_of_block HZ.out
      rw [hm1, hm2] at hgo2
      by_cases b1 : m1 = 0
      · subst b1
        by_cases b2 : m2 = 0
        · subst b2
          rw [if_pos ⟨rfl, rfl⟩] at hgo2
          obtain ⟨v1, hv1⟩ : ∃ v, s1 / q = v := ⟨_, rfl⟩
          obtain ⟨v2, hv2⟩ : ∃ v, s2 / q = v := ⟨_, rfl⟩
          have d1 : s1.tdiv q = v1 := by rw [Int.tdiv_eq_ediv_of_nonneg (by omega)]; exact hv1
          have d2 : s2.tdiv q = v2 := by rw [Int.tdiv_eq_ediv_of_nonneg (by omega)]; exact hv2
          have e1 : q ≤ s1 := Int.le_of_dvd (by omega) (Int.dvd_of_emod_eq_zero hm1)
          have e2 : q ≤ s2 := Int.le_of_dvd (by omega) (Int.dvd_of_emod_eq_zero hm2)
          have n1 : 1 ≤ v1 := by rw [← hv1]; exact le_div (by omega) (by omega)
          have n2 : 1 ≤ v2 := by rw [← hv2]; exact le_div (by omega) (by omega)
          have o1 : v1 ≤ s1 := by rw [← hv1]; exact Int.ediv_le_self _ (by omega)
          have o2 : v2 ≤ s2 := by rw [← hv2]; exact Int.ediv_le_self _ (by omega)
          have HV : Hid (1 ≤ v1 ∧ v1 ≤ 30 ∧ 1 ≤ v2 ∧ v2 ≤ 30) := ⟨n1, by omega, n2, by omega⟩
          rw [hv1, hv2] at hgo2
          have HG := Lib.hid hgo2
          have wv1 : IntKind.i64.wrap v1 = v1 := by rw [IntKind.wrap_i64] <;> omega
          have wv2 : IntKind.i64.wrap v2 = v2 := by rw [IntKind.wrap_i64] <;> omega
          clear hs q2 hm1 hm2 hv1 hv2 e1 e2 n1 n2 o1 o2 hgo2 hgo
          go_wp2_with fail
          skip
          have HZD := Lib.hid (show wr.drew.heap[p]? = some (.cells #[.int .i64 s1, .int .i64 s2] 27 (0, 0)) from HZ.out)
          have HRD := Lib.hid (show wr.drew.heap[w.heap.size + 1]? = some (.cells #[.int .i64 0, .int .i64 0] 27 (0, 0)) from HR2.out)
          have HBD := Lib.hid HBB.out.drew
          have HOF : Hid (∀ X : World, Calls Try.prog 37 #[.int .i64 v1, .int .i64 v2] X fun e w' => e = .returned (.agg #[.int .i64 v1, .int .i64 v2]) ∧ Below X.heap.size X w') := fun X => of_any v1 v2 X
          go_region_law (go_simp; refine (HOF.out _).mono ?_; rintro e wc ⟨rfl, hbc⟩; have HZC := Lib.hid ((hbc.block _ (lt_of_block HZD.out)).trans HZD.out); have HRC := Lib.hid ((hbc.block _ (lt_of_block HRD.out)).trans HRD.out); have HBC := Lib.hid (HBD.out.trans (hbc.mono HBD.out.size)); have y0 := cellOf HZC.out 0 (.int .i64 s1) rfl; have y1 := cellOf HZC.out 1 (.int .i64 s2) rfl; have f0 := frozen_of_row _ _ 0 _ _ HZC.out; have f1 := frozen_of_row _ _ 1 _ _ HZC.out; have yl := lt_of_block HZC.out; clear hbc)
          all_goals
            go_wp2_with fail
            go_roundg g
            case measure => omega
            case rel => exact ⟨(v1, v2), by omega, by go_num, HG.out, HV, two_set HZC.out, (heap_setCell_other _ _ _ _ (by have h := S1.out; show w.heap.size + 1 ≠ p; omega)).trans ((heap_setCell_other _ _ _ _ (by have h := S1.out; show w.heap.size + 1 ≠ p; omega)).trans HRC.out), two_below (g := p) HBC.out (by have h := S1.out; omega)⟩
        · rw [if_neg (fun h => b2 h.2)] at hgo2
          have tb : (m2 == 0) = false := by simp [b2]
          have HG := Lib.hid hgo2
          clear hs q2 hm1 hm2 hgo2 hgo
          go_wp2_with fail
          go_roundg g
          case measure => omega
          case rel => exact ⟨(s1, s2), by omega, by go_num, HG.out, HS, HZ, HR2, HBB⟩
      · rw [if_neg (fun h => b1 h.1)] at hgo2
        have tb : (m1 == 0) = false := by simp [b1]
        have HG := Lib.hid hgo2
        clear hs q2 hm1 hm2 hgo2 hgo
        go_wp2_with fail
        go_roundg g
        case measure => omega
        case rel => exact ⟨(s1, s2), by omega, by go_num, HG.out, HS, HZ, HR2, HBB⟩
end Go.Proofs.Ythflbbjilebhlaa
