/- The reference of scale: Scale, Less, Cut. -/
import Derived.Test.YthflbbjilebhlaaWa
import Derived.BigQuiet
set_option linter.unusedSimpArgs false
set_option linter.unusedVariables false
namespace Go.Proofs.Ythflbbjilebhlaa
open Go Go.RowKit Go.Shelf Sc

set_option maxRecDepth 100000 in
set_option maxHeartbeats 4000000 in
theorem rScale_any (s : Scl) (w : World) : Calls Try.prog 48 #[.agg #[.int .i64 s.1, .int .i64 s.2]] w fun e w' => e = .returned (.int .i64 (sclE s)) ∧ Below w.heap.size w w' := by
  obtain ⟨u, d⟩ := s
  simp only
  obtain ⟨R, hR⟩ : ∃ R, sclE (u, d) = R := ⟨_, rfl⟩
  rw [hR]
  unfold sclE at hR
  simp only at hR
  obtain ⟨b1, hb1⟩ : ∃ x, inB 1 30 u = x := ⟨_, rfl⟩
  obtain ⟨b2, hb2⟩ : ∃ x, inB 1 30 d = x := ⟨_, rfl⟩
  rw [hb1, hb2] at hR
  have HR := Lib.hid hR
  have H1 : Hid (∀ W, Calls Try.prog 55 #[.int .i64 u, .int .i64 1, .int .i64 30] W fun e w' => e = .returned (.bool b1) ∧ W = w') := fun W => by
    have h := rin_any u 1 30 W
    rw [hb1] at h
    exact h
  have H2 : Hid (∀ W, Calls Try.prog 55 #[.int .i64 d, .int .i64 1, .int .i64 30] W fun e w' => e = .returned (.bool b2) ∧ W = w') := fun W => by
    have h := rin_any d 1 30 W
    rw [hb2] at h
    exact h
  have HB1 := Lib.hid hb1
  have HB2 := Lib.hid hb2
  obtain ⟨W, hW, z, hb⟩ : ∃ W, w.alloc (Obj.cells #[.int .i64 u, .int .i64 d] 27) = W ∧ W.heap[w.heap.size]? = some (.cells #[.int .i64 u, .int .i64 d] 27 (0, 0)) ∧ Below w.heap.size w W := ⟨_, rfl, heap_alloc_new _ _, by go_grown⟩
  have c0 := cellOf z 0 (.int .i64 u) rfl
  have c1 := cellOf z 1 (.int .i64 d) rfl
  have cl := lt_of_block z
  have HW := Lib.hid hW
  have HB := Lib.hid hb
  clear hR hb1 hb2 hW z hb
  go_enter Try.func48, Try.ntmps48
  go_upto_region 1 with fail
  rw [HW.out]
  go_wp2_with fail
  refine (H1.out _).mono ?_
  rintro e w1 ⟨rfl, rfl⟩
  cases b1
  · have hr := HR.out
    rw [if_pos (by simp)] at hr
    subst hr
    go_wp2_with fail
    go_ret
    exact ⟨rfl, HB.out⟩
  · go_wp2_with fail
    refine (H2.out _).mono ?_
    rintro e w1 ⟨rfl, rfl⟩
    cases b2
    · have hr := HR.out
      rw [if_pos (by simp)] at hr
      subst hr
      go_wp2_with fail
      go_ret
      exact ⟨rfl, HB.out⟩
    · have hr := HR.out
      rw [if_neg (by simp)] at hr
      have hu := HB1.out
      have hd := HB2.out
      unfold inB at hu hd
      simp only [Bool.and_eq_true, decide_eq_true_eq] at hu hd
      have hc := fun W => rcommon_any u d W hu hd
      obtain ⟨cb, hcb⟩ : ∃ x, comB u d = x := ⟨_, rfl⟩
      rw [hcb] at hr
      simp only [hcb] at hc
      have HCL := Lib.hid hc
      have HRR := Lib.hid hr
      clear hr hu hd hc hcb
      go_wp2_with fail
      refine (HCL.out _).mono ?_
      rintro e w1 ⟨rfl, rfl⟩
      cases cb
      · have hr := HRR.out
        rw [if_neg (by simp)] at hr
        subst hr
        go_wp2_with fail
        go_ret
        exact ⟨rfl, HB.out⟩
      · have hr := HRR.out
        rw [if_pos rfl] at hr
        subst hr
        go_wp2_with fail
        go_ret
        exact ⟨rfl, HB.out⟩
set_option maxRecDepth 100000 in
theorem rLess_any (s t : Scl) (w : World) (hs : 0 ≤ s.1 ∧ s.1 ≤ 30 ∧ 0 ≤ s.2 ∧ s.2 ≤ 30) (ht : 0 ≤ t.1 ∧ t.1 ≤ 30 ∧ 0 ≤ t.2 ∧ t.2 ≤ 30) :
    Calls Try.prog 43 #[.agg #[.int .i64 s.1, .int .i64 s.2], .agg #[.int .i64 t.1, .int .i64 t.2]] w fun e w' => e = .returned (.bool (lessS s t)) ∧ Below w.heap.size w w' := by
  obtain ⟨s1, s2⟩ := s
  obtain ⟨t1, t2⟩ := t
  unfold lessS
  simp only at hs ht ⊢
  obtain ⟨x, hx⟩ : ∃ x, s1 * t2 = x := ⟨_, rfl⟩
  obtain ⟨y, hy⟩ : ∃ y, t1 * s2 = y := ⟨_, rfl⟩
  have m1 : s1 * t2 ≤ 30 * 30 := Int.mul_le_mul hs.2.1 ht.2.2.2 ht.2.2.1 (by omega)
  have m2 : t1 * s2 ≤ 30 * 30 := Int.mul_le_mul ht.2.1 hs.2.2.2 hs.2.2.1 (by omega)
  have m3 : 0 ≤ s1 * t2 := Int.mul_nonneg hs.1 ht.2.2.1
  have m4 : 0 ≤ t1 * s2 := Int.mul_nonneg ht.1 hs.2.2.1
  rw [hx] at m1 m3
  rw [hy] at m2 m4
  have w1 : IntKind.i64.wrap (s1 * t2) = x := by rw [hx, IntKind.wrap_i64] <;> omega
  have w2 : IntKind.i64.wrap (t1 * s2) = y := by rw [hy, IntKind.wrap_i64] <;> omega
  rw [hx, hy]
  obtain ⟨W, hW, z1, z2, hb, hsz⟩ := al2 w (Obj.cells #[.int .i64 s1, .int .i64 s2] 27) (Obj.cells #[.int .i64 t1, .int .i64 t2] 27)
  have c0 := cellOf z1 0 (.int .i64 s1) rfl
  have c1 := cellOf z1 1 (.int .i64 s2) rfl
  have d0 := cellOf z2 0 (.int .i64 t1) rfl
  have d1 := cellOf z2 1 (.int .i64 t2) rfl
  have cl := lt_of_block z1
  have dl := lt_of_block z2
  have HW := Lib.hid hW
  have HB := Lib.hid hb
  clear hs ht hx hy m1 m2 m3 m4 hW z1 z2 hb hsz
  go_enter Try.func43, Try.ntmps43
  go_upto_region 1 with fail
  rw [HW.out]
  go_wp2_with fail
  go_ret
  exact ⟨rfl, HB.out⟩
set_option maxRecDepth 100000 in
set_option maxHeartbeats 4000000 in
theorem rCut_any (kind high : Int) (s : Scl) (w : World) (hk : 1 ≤ kind ∧ kind ≤ 3) (hh : 0 ≤ high ∧ high ≤ 9000) (hs : 1 ≤ s.1 ∧ s.1 ≤ 30 ∧ 1 ≤ s.2 ∧ s.2 ≤ 30) :
    Calls Try.prog 88 #[.int .i64 kind, .int .i64 high, .agg #[.int .i64 s.1, .int .i64 s.2]] w fun e w' => e = .returned (.int .i64 (rndK kind (high * s.1) s.2)) ∧ Below w.heap.size w w' := by
  obtain ⟨u, d⟩ := s
  simp only at hs ⊢
  obtain ⟨x, hx⟩ : ∃ x, high * u = x := ⟨_, rfl⟩
  have m1 : high * u ≤ 9000 * 30 := Int.mul_le_mul hh.2 hs.2.1 (by omega) (by omega)
  have m3 : 0 ≤ high * u := Int.mul_nonneg hh.1 (by omega)
  rw [hx] at m1 m3
  have w1 : IntKind.i64.wrap (high * u) = x := by rw [hx, IntKind.wrap_i64] <;> omega
  obtain ⟨R, hR⟩ : ∃ R, rndK kind x d = R := ⟨_, rfl⟩
  rw [hx, hR]
  rw [rndK_ref kind x d hk hs.2.2.1] at hR
  obtain ⟨q, hq⟩ : ∃ q, x / d = q := ⟨_, rfl⟩
  obtain ⟨r, hr⟩ : ∃ r, x % d = r := ⟨_, rfl⟩
  rw [hq, hr] at hR
  have t1 : x.tdiv d = q := by rw [Int.tdiv_eq_ediv_of_nonneg m3]; exact hq
  have t2 : x.tmod d = r := by rw [Int.tmod_eq_emod_of_nonneg m3]; exact hr
  have r0 : 0 ≤ r := by rw [← hr]; exact Int.emod_nonneg _ (by omega)
  have r9 : r < d := by rw [← hr]; exact Int.emod_lt_of_pos _ (by omega)
  have q0 : 0 ≤ q := by rw [← hq]; exact Int.ediv_nonneg m3 (by omega)
  have q9 : q ≤ x := by rw [← hq]; exact Int.ediv_le_self _ m3
  have d0 : ¬ d = 0 := by omega
  have d1 : ¬ d = -1 := by omega
  have w2 : IntKind.i64.wrap (2 * r) = 2 * r := by rw [IntKind.wrap_i64] <;> omega
  have w3 : IntKind.i64.wrap (q + 1) = q + 1 := by rw [IntKind.wrap_i64] <;> omega
  have w4 : IntKind.i64.wrap q = q := by rw [IntKind.wrap_i64] <;> omega
  obtain ⟨W, hW, z, hb⟩ : ∃ W, w.alloc (Obj.cells #[.int .i64 u, .int .i64 d] 27) = W ∧ W.heap[w.heap.size]? = some (.cells #[.int .i64 u, .int .i64 d] 27 (0, 0)) ∧ Below w.heap.size w W := ⟨_, rfl, heap_alloc_new _ _, by go_grown⟩
  have c0 := cellOf z 0 (.int .i64 u) rfl
  have c1 := cellOf z 1 (.int .i64 d) rfl
  have cl := lt_of_block z
  have HW := Lib.hid hW
  have HB := Lib.hid hb
  have HZ := Lib.hid z
  have HR := Lib.hid hR
  clear hx m1 m3 hR hq hr hW z hb q9 hh
  go_enter Try.func88, Try.ntmps88
  go_upto_region 1 with fail
  rw [HW.out]
  go_upto_region 2 with fail
  go_quiet (fail)
  have HB2 : Hid (Below w.heap.size w (W.drewN nq)) := below_dn HB.out _
  have Z2 : Hid ((W.drewN nq).heap[w.heap.size]? = some (.cells #[.int .i64 u, .int .i64 d] 27 (0, 0))) := HZ.out
  generalize W.drewN nq = V at *
  clear c0 c1 cl
  have c1 := cellOf Z2.out 1 (.int .i64 d) rfl
  have cl := lt_of_block Z2.out
  have hk3 : kind = 1 ∨ kind = 2 ∨ kind = 3 := by omega
  rcases hk3 with rfl | rfl | rfl
  · have hr := HR.out
    rw [if_neg (by omega)] at hr
    subst hr
    go_wp2_with fail
    go_ret
    exact ⟨rfl, HB2.out⟩
  · have hr := HR.out
    by_cases g : d ≤ 2 * r
    · rw [if_pos (.inr ⟨rfl, g⟩)] at hr
      subst hr
      go_wp2_with fail
      go_ret
      exact ⟨rfl, HB2.out⟩
    · rw [if_neg (by omega)] at hr
      subst hr
      have g' : 2 * r < d := by omega
      go_wp2_with fail
      go_ret
      exact ⟨rfl, HB2.out⟩
  · have hr := HR.out
    by_cases g : 0 < r
    · rw [if_pos (.inl ⟨rfl, g⟩)] at hr
      subst hr
      go_wp2_with fail
      go_ret
      exact ⟨rfl, HB2.out⟩
    · rw [if_neg (by omega)] at hr
      subst hr
      go_wp2_with fail
      go_ret
      exact ⟨rfl, HB2.out⟩
end Go.Proofs.Ythflbbjilebhlaa
