/- Contracts of the reference's False, Flat, Apart and Worst. No law is proved here. -/
import Derived.Test.YthflbbjilebhlaaYe
import Derived.Test.YthflbbjilebhlaaUt
import Derived.BigQuiet
import Derived.Test.YthflbbjilebhlaaYo
import Derived.Test.YthflbbjilebhlaaVa
import Derived.Test.YthflbbjilebhlaaWo
import Derived.Test.YthflbbjilebhlaaUb
import Derived.Test.YthflbbjilebhlaaVf
set_option linter.unusedSimpArgs false
set_option linter.unusedVariables false
namespace Go.Proofs.Ythflbbjilebhlaa
open Go Go.RowKit Go.Shelf Sc

theorem absZ_mul {u : Int} (x : Int) (hu : 1 ≤ u) : absZ (u * x) = u * absZ x := by
  unfold absZ
  rcases Int.le_total 0 x with h | h
  · have h1 : 0 ≤ u * x := Int.mul_nonneg (by omega) h
    rw [Int.max_eq_left (by omega), Int.max_eq_left (by omega)]
  · have h1 : 0 ≤ u * (-x) := Int.mul_nonneg (by omega) (by omega)
    rw [Int.mul_neg] at h1
    rw [Int.max_eq_right (by omega), Int.max_eq_right (by omega), Int.mul_neg]
set_option maxRecDepth 100000 in
set_option maxHeartbeats 8000000 in
theorem rOff_any (c : Cse) (hv rv : Value) (r : Int × Int) (s : Scl) (w : World) (hC : CseAt w c hv rv) (hV : Valid c) (hs : 1 ≤ s.1 ∧ s.1 ≤ 30 ∧ 1 ≤ s.2 ∧ s.2 ≤ 30) (hr : RoadIn c r) :
    Calls Try.prog 60 #[.agg #[.int .i64 c.kind, .int .i64 c.base, .int .i64 c.most, hv, rv], .agg #[.int .i64 r.1, .int .i64 r.2], .agg #[.int .i64 s.1, .int .i64 s.2]] w fun e w' => e = .returned (.int .i64 (offR c s r)) ∧ Below w.heap.size w w' := by
  obtain ⟨ha, n, hc, rfl⟩ : ∃ a n c, hv = .slice a n c := by obtain ⟨_, a, cap, h, _⟩ := hC.hs; exact ⟨_, _, _, h⟩
  obtain ⟨ra, m, rc, rfl⟩ : ∃ a n c, rv = .slice a n c := by obtain ⟨_, a, cap, h, _⟩ := hC.rd; exact ⟨_, _, _, h⟩
  obtain rfl : n = c.hs.length := by obtain ⟨_, a, cap, h, _⟩ := hC.hs; simp only [Value.slice.injEq] at h; exact h.2.1
  obtain ⟨n, hn⟩ : ∃ n, c.hs.length = n := ⟨_, rfl⟩
  obtain ⟨kind, hkind⟩ : ∃ x, c.kind = x := ⟨_, rfl⟩
  obtain ⟨base, hbase⟩ : ∃ x, c.base = x := ⟨_, rfl⟩
  obtain ⟨most, hmost⟩ : ∃ x, c.most = x := ⟨_, rfl⟩
  obtain ⟨u, d⟩ := s
  obtain ⟨u1, u9, d1, d9⟩ := id hs
  have hs3 : 1 ≤ (u, d).1 ∧ (u, d).1 ≤ 30 ∧ 1 ≤ (u, d).2 := ⟨u1, u9, d1⟩
  simp only at u1 u9 d1 d9
  have bX := rise_bd hV r hr
  have bZ := risen_bd hV (u, d) hs3 r
  rw [cut8_at hV (u, d) _ hr.1 hr.2.1, cut8_at hV (u, d) _ hr.2.2.1 hr.2.2.2] at bZ
  obtain ⟨r1, r2⟩ := r
  obtain ⟨g1, g2, g3, g4⟩ := hr
  simp only at g1 g2 g3 g4 bX bZ ⊢
  obtain ⟨i, rfl⟩ : ∃ i : Nat, r1 = (i : Int) := ⟨r1.toNat, by omega⟩
  obtain ⟨j, rfl⟩ : ∃ j : Nat, r2 = (j : Int) := ⟨r2.toNat, by omega⟩
  rw [hn] at g2 g4
  have n8 : n ≤ 8 := by rw [← hn]; exact hV.n8
  have nI : (n : Int) ≤ 8 := by omega
  obtain ⟨X, hX⟩ : ∃ X, at0 c.hs (j : Int) - at0 c.hs (i : Int) = X := ⟨_, rfl⟩
  obtain ⟨Z, hZ⟩ : ∃ Z, at0 (cutsC c (u, d)) (j : Int) - at0 (cutsC c (u, d)) (i : Int) = Z := ⟨_, rfl⟩
  rw [hX] at bX
  rw [hZ] at bZ
  obtain ⟨Y, hY⟩ : ∃ Y, u * X = Y := ⟨_, rfl⟩
  obtain ⟨V, hVV⟩ : ∃ V, d * Z = V := ⟨_, rfl⟩
  obtain ⟨O, hO⟩ : ∃ O, absZ (V - Y) = O := ⟨_, rfl⟩
  obtain ⟨A, hA⟩ : ∃ A, absZ X = A := ⟨_, rfl⟩
  obtain ⟨B, hB⟩ : ∃ B, u * A = B := ⟨_, rfl⟩
  have hAB : absZ Y = B := by rw [← hY, absZ_mul X u1, hA, hB]
  obtain ⟨R, hR⟩ : ∃ R, offR c (u, d) ((i : Int), (j : Int)) = R := ⟨_, rfl⟩
  have hRR : R = if X = 0 then 0 else (O * 1000 + B - 1) / B := by
    rw [← hR]
    unfold offR
    simp only
    rw [hX, hZ, hY, hVV, hO, hAB]
    by_cases h0 : X = 0
    · rw [if_pos h0, if_pos (by rw [← hY, h0, Int.mul_zero])]
    · rw [if_neg h0, if_neg (by rw [← hY]; intro q; rcases Int.mul_eq_zero.1 q with q | q <;> omega)]
  have bY := mul_bd u1 u9 9000 bX
  have bV := mul_bd d1 d9 270000 bZ
  rw [hY] at bY
  rw [hVV] at bV
  have bO : 0 ≤ O ∧ O ≤ 10000000 := by rw [← hO]; unfold absZ; omega
  have bA : 0 ≤ A ∧ A ≤ 9000 ∧ (X ≠ 0 → 1 ≤ A) := by rw [← hA]; unfold absZ; omega
  have bB : 0 ≤ B ∧ B ≤ 1000000 := by rw [← hAB]; unfold absZ; omega
  have bB1 : X ≠ 0 → 1 ≤ B := fun h => by
    have h1 := bA.2.2 h
    have h2 : 1 * 1 ≤ u * A := Int.mul_le_mul u1 h1 (by omega) (by omega)
    rw [hB] at h2
    omega
  have w1 : IntKind.i64.wrap (u * X) = Y := by rw [hY, IntKind.wrap_i64] <;> omega
  have w2 : IntKind.i64.wrap (d * Z) = V := by rw [hVV, IntKind.wrap_i64] <;> omega
  have w3 : IntKind.i64.wrap (V - Y) = V - Y := by rw [IntKind.wrap_i64] <;> omega
  have w4 : IntKind.i64.wrap (1000 * O) = 1000 * O := by rw [IntKind.wrap_i64] <;> omega
  have w5 : IntKind.i64.wrap (u * A) = B := by rw [hB, IntKind.wrap_i64] <;> omega
  have w6 : IntKind.i64.wrap (1000 * O + B) = 1000 * O + B := by rw [IntKind.wrap_i64] <;> omega
  have w7 : IntKind.i64.wrap (1000 * O + B - 1) = 1000 * O + B - 1 := by rw [IntKind.wrap_i64] <;> omega
  have HT : Hid (X ≠ 0 → (1000 * O + B - 1).tdiv B = R ∧ ¬ B = 0 ∧ ¬ B = -1) := fun h => by
    have h1 := bB1 h
    rw [hRR, if_neg h, Int.tdiv_eq_ediv_of_nonneg (by omega), show O * 1000 = 1000 * O by omega]
    exact ⟨rfl, by omega, by omega⟩
  have HR0 : Hid (X = 0 → R = 0) := fun h => by rw [hRR, if_pos h]
  have HRB : Hid (X ≠ 0 → IntKind.i64.wrap R = R) := fun h => by
    have h1 := bB1 h
    have h2 : R = (O * 1000 + B - 1) / B := by rw [hRR, if_neg h]
    have h3 : 0 ≤ R := by rw [h2]; exact Int.ediv_nonneg (by omega) (by omega)
    have h4 : R ≤ O * 1000 + B - 1 := by rw [h2]; exact Int.ediv_le_self _ (by omega)
    rw [IntKind.wrap_i64] <;> omega
  have H3 : Hid (∀ W1, Calls Try.prog 96 #[.int .i64 (V - Y)] W1 fun e w' => e = .returned (.int .i64 O) ∧ W1 = w') := fun W1 => by have h := rabs_any (V - Y) W1 (by omega); rw [hO] at h; exact h
  have H4 : Hid (∀ W1, Calls Try.prog 96 #[.int .i64 X] W1 fun e w' => e = .returned (.int .i64 A) ∧ W1 = w') := fun W1 => by have h := rabs_any X W1 (by omega); rw [hA] at h; exact h
  obtain ⟨W, hW, q1, q2, q3, hb, hsz⟩ := al3 w (Obj.cells #[.int .i64 kind, .int .i64 base, .int .i64 most, .slice ha n hc, .slice ra m rc] 25) (Obj.cells #[.int .i64 i, .int .i64 j] 79) (Obj.cells #[.int .i64 u, .int .i64 d] 27)
  rw [hn] at hC
  have h1 := rAll_any c _ _ (u, d) W (hC.below hb) hV hs
  have hcl : (cutsC c (u, d)).length = n := by simp [cutsC, hn]
  rw [hkind, hbase, hmost, hcl] at h1
  rw [hR, hn, hkind, hbase, hmost]
  have H1 := Lib.hid h1
  have HC := Lib.hid (hC.below hb)
  have HW := Lib.hid hW
  have Q1 := Lib.hid q1
  have Q2 := Lib.hid q2
  have Q3 := Lib.hid q3
  have HB := Lib.hid hb
  have HN := Lib.hid hn
  have HCLL := Lib.hid hcl
  have HX := Lib.hid hX
  have HZ := Lib.hid hZ
  have HBX := Lib.hid bX
  have HBZ' := Lib.hid bZ
  have c0 := cellOf q1 0 (.int .i64 kind) rfl
  have c1 := cellOf q1 1 (.int .i64 base) rfl
  have c2 := cellOf q1 2 (.int .i64 most) rfl
  have c3 := cellOf q1 3 (.slice ha n hc) rfl
  have c4 := cellOf q1 4 (.slice ra m rc) rfl
  have cl := lt_of_block q1
  have f0 := cellOf q3 0 (.int .i64 u) rfl
  have f1 := cellOf q3 1 (.int .i64 d) rfl
  have fl := lt_of_block q3
  have g4' : j < n := by omega
  have g2' : i < n := by omega
  clear hW q1 q2 q3 hb hsz hC hV hs hs3 hn hkind hbase hmost h1 hcl hX hZ hO hA hB hAB hR hRR bX bZ bY bV bO bA bB bB1 hY hVV u1 u9 d1 d9
  go_enter Try.func60, Try.ntmps60
  go_upto_region 1 with fail
  rw [HW.out]
  go_wp2_with fail
  refine H1.out.mono ?_
  rintro e v1 ⟨lv, rfl, _, hi, hb⟩
  have B1 := Lib.hid (HB.out.trans (hb.mono HB.out.size))
  have K1 := (hb.block _ (lt_of_block Q1.out)).trans Q1.out
  have K2 := (hb.block _ (lt_of_block Q2.out)).trans Q2.out
  have K3 := Lib.hid ((hb.block _ (lt_of_block Q3.out)).trans Q3.out)
  have C1 := HC.out.below hb
  obtain ⟨ll, la, lc, rfl, _, _⟩ := id hi
  obtain ⟨b, o, rfl, d0⟩ := C1.hs.get (show j < c.hs.length by rw [HN.out]; exact g4')
  obtain ⟨b', o', e', d1⟩ := C1.hs.get (show i < c.hs.length by rw [HN.out]; exact g2')
  cases e'
  obtain ⟨lb, lo, e', k0⟩ := hi.get (show j < (cutsC c (u, d)).length by rw [HCLL.out]; exact g4')
  cases e'
  obtain ⟨lb', lo', e', k1⟩ := hi.get (show i < (cutsC c (u, d)).length by rw [HCLL.out]; exact g2')
  cases e'
  have a0 : c.hs[j]'(by rw [HN.out]; exact g4') = at0 c.hs (j : Int) := by rw [at0_nat]; simp [List.getD_eq_getElem?_getD, HN.out, g4']
  have a1 : c.hs[i]'(by rw [HN.out]; exact g2') = at0 c.hs (i : Int) := by rw [at0_nat]; simp [List.getD_eq_getElem?_getD, HN.out, g2']
  have a2 : (cutsC c (u, d))[j]'(by rw [HCLL.out]; exact g4') = at0 (cutsC c (u, d)) (j : Int) := by rw [at0_nat]; simp [List.getD_eq_getElem?_getD, HCLL.out, g4']
  have a3 : (cutsC c (u, d))[i]'(by rw [HCLL.out]; exact g2') = at0 (cutsC c (u, d)) (i : Int) := by rw [at0_nat]; simp [List.getD_eq_getElem?_getD, HCLL.out, g2']
  rw [a0] at d0
  rw [a1] at d1
  rw [a2] at k0
  rw [a3] at k1
  clear a0 a1 a2 a3 hi
  clear c0 c1 c2 c3 c4 cl f0 f1 fl
  have hx := HX.out
  have hz := HZ.out
  have bX := HBX.out
  have bZ := HBZ'.out
  rw [HCLL.out]
  generalize at0 c.hs (j : Int) = x1 at *
  generalize at0 c.hs (i : Int) = x0 at *
  generalize at0 (cutsC c (u, d)) (j : Int) = z1 at *
  generalize at0 (cutsC c (u, d)) (i : Int) = z0 at *
  have wx : IntKind.i64.wrap (x1 - x0) = X := by rw [hx, IntKind.wrap_i64] <;> omega
  have wz : IntKind.i64.wrap (z1 - z0) = Z := by rw [hz, IntKind.wrap_i64] <;> omega
  have c3 := cellOf K1 3 (.slice (some ⟨b, o, none⟩) n hc) rfl
  have cl := lt_of_block K1
  have e0 := cellOf K2 0 (.int .i64 i) rfl
  have e1 := cellOf K2 1 (.int .i64 j) rfl
  have el := lt_of_block K2
  have dl := World.block_lt_of_cell? v1 ⟨b, o + j, none⟩ d0
  have kl := World.block_lt_of_cell? v1 ⟨lb, lo + j, none⟩ k0
  clear hx hz bX bZ K1 K2 C1 hb HX HZ HBX HBZ'
  go_upto_region 2 with fail
  go_quiet (fail)
  have B2 : Hid (Below w.heap.size w (v1.drewN nq)) := below_dn B1.out _
  have K4 : Hid ((v1.drewN nq).heap[w.heap.size + 1 + 1]? = some (.cells #[.int .i64 u, .int .i64 d] 27 (0, 0))) := K3.out
  generalize v1.drewN nq = v2 at *
  clear c3 cl e0 e1 el dl kl d0 d1 k0 k1
  by_cases h0 : X = 0
  · have hr := HR0.out h0
    subst h0 hr
    go_wp2_with fail
    go_ret
    exact ⟨rfl, B2.out⟩
  · obtain ⟨t1, t2, t3⟩ := HT.out h0
    have t4 := HRB.out h0
    have tb : (X == 0) = false := by simp [h0]
    have f0 := cellOf K4.out 0 (.int .i64 u) rfl
    have f1 := cellOf K4.out 1 (.int .i64 d) rfl
    have fl := lt_of_block K4.out
    go_upto_region 5 with fail
    have KA : ∀ W' : World, Below v2.heap.size v2 W' → (W'.cell? ⟨(w.heap.size + 1 + 1), 0, none⟩ = some (.int .i64 u) ∧ W'.cell? ⟨(w.heap.size + 1 + 1), 1, none⟩ = some (.int .i64 d) ∧ Below v2.heap.size v2 W') := fun W' hb => ⟨keepK f0 hb, keepK f1 hb, hb⟩
    refine wp_region_noPanic ?_
    refine wp_region_held_drew (S := (fun W' => W'.cell? ⟨(w.heap.size + 1 + 1), 0, none⟩ = some (.int .i64 u) ∧ W'.cell? ⟨(w.heap.size + 1 + 1), 1, none⟩ = some (.int .i64 d) ∧ Below v2.heap.size v2 W')) (by kernel_rfl) ?_ (fun hh0 => ?_)
    · exact KA _ (Below.refl _ _).drew
    refine wpAnyH_take (i := 0) (v := ?_) rfl (by as_aux_lemma => kernel_rfl) (by as_aux_lemma => kernel_rfl) (by as_aux_lemma => kernel_rfl) (fun _ _ _ h => h) (Or.inl ⟨by rfl, ?_⟩) (by assumption) ?_
    rotate_left
    · intro w hSw
      try dsimp only at hSw
      go_simp
      try with_reducible rfl
    try simp only [Act.put, List.getElem_toArray, List.getElem_cons_succ, List.getElem_cons_zero, List.setIfInBounds_toArray, List.set_cons_zero, List.set_cons_succ]
    refine wpAnyH_take (i := 1) (v := ?_) rfl (by as_aux_lemma => kernel_rfl) (by as_aux_lemma => kernel_rfl) (by as_aux_lemma => kernel_rfl) (fun _ _ _ h => h) (Or.inl ⟨by rfl, ?_⟩) (by assumption) ?_
    rotate_left
    · intro w hSw
      try dsimp only at hSw
      go_simp
      try with_reducible rfl
    try simp only [Act.put, List.getElem_toArray, List.getElem_cons_succ, List.getElem_cons_zero, List.setIfInBounds_toArray, List.set_cons_zero, List.set_cons_succ]
    refine wpAnyH_take (i := 2) (v := ?_) rfl (by as_aux_lemma => kernel_rfl) (by as_aux_lemma => kernel_rfl) (by as_aux_lemma => kernel_rfl) (fun _ _ _ h => h) (Or.inl ⟨by rfl, ?_⟩) (by assumption) ?_
    rotate_left
    · intro w hSw
      try dsimp only at hSw
      go_simp
      try with_reducible rfl
    try simp only [Act.put, List.getElem_toArray, List.getElem_cons_succ, List.getElem_cons_zero, List.setIfInBounds_toArray, List.set_cons_zero, List.set_cons_succ]
    refine wpAnyH_take (i := 3) (v := ?_) rfl (by as_aux_lemma => kernel_rfl) (by as_aux_lemma => kernel_rfl) (by as_aux_lemma => kernel_rfl) (fun _ _ _ h => h) (Or.inl ⟨by rfl, ?_⟩) (by assumption) ?_
    rotate_left
    · intro w hSw
      try dsimp only at hSw
      go_simp
      try with_reducible rfl
    try simp only [Act.put, List.getElem_toArray, List.getElem_cons_succ, List.getElem_cons_zero, List.setIfInBounds_toArray, List.set_cons_zero, List.set_cons_succ]
    refine wpAnyH_take (i := 4) (v := ?_) rfl (by as_aux_lemma => kernel_rfl) (by as_aux_lemma => kernel_rfl) (by as_aux_lemma => kernel_rfl) (fun _ _ _ h => h) (Or.inl ⟨by rfl, ?_⟩) (by assumption) ?_
    rotate_left
    · intro w hSw
      try dsimp only at hSw
      go_simp
      try with_reducible rfl
    try simp only [Act.put, List.getElem_toArray, List.getElem_cons_succ, List.getElem_cons_zero, List.setIfInBounds_toArray, List.set_cons_zero, List.set_cons_succ]
    refine wpAnyH_take (i := 5) (v := ?_) rfl (by as_aux_lemma => kernel_rfl) (by as_aux_lemma => kernel_rfl) (by as_aux_lemma => kernel_rfl) (fun _ _ _ h => h) (Or.inl ⟨by rfl, ?_⟩) (by assumption) ?_
    rotate_left
    · intro w hSw
      try dsimp only at hSw
      go_simp
      try with_reducible rfl
    try simp only [Act.put, List.getElem_toArray, List.getElem_cons_succ, List.getElem_cons_zero, List.setIfInBounds_toArray, List.set_cons_zero, List.set_cons_succ]
    refine wpAnyH_take (i := 6) (v := ?_) rfl (by as_aux_lemma => kernel_rfl) (by as_aux_lemma => kernel_rfl) (by as_aux_lemma => kernel_rfl) (fun _ _ _ h => h) (Or.inl ⟨by rfl, ?_⟩) (by assumption) ?_
    rotate_left
    · intro w hSw
      try dsimp only at hSw
      go_simp
      try with_reducible rfl
    try simp only [Act.put, List.getElem_toArray, List.getElem_cons_succ, List.getElem_cons_zero, List.setIfInBounds_toArray, List.set_cons_zero, List.set_cons_succ]
    refine wpAnyH_take (i := 7) (v := ?_) rfl (by as_aux_lemma => kernel_rfl) (by as_aux_lemma => kernel_rfl) (by as_aux_lemma => kernel_rfl) (fun _ _ _ h => h) (Or.inl ⟨by rfl, ?_⟩) (by assumption) ?_
    rotate_left
    · intro w hSw
      try dsimp only at hSw
      go_simp
      try with_reducible rfl
    try simp only [Act.put, List.getElem_toArray, List.getElem_cons_succ, List.getElem_cons_zero, List.setIfInBounds_toArray, List.set_cons_zero, List.set_cons_succ]
    refine wpAnyH_take (i := 8) (v := ?_) rfl (by as_aux_lemma => kernel_rfl) (by as_aux_lemma => kernel_rfl) (by as_aux_lemma => kernel_rfl) (fun _ _ _ h => h) (Or.inl ⟨by rfl, ?_⟩) (by assumption) ?_
    rotate_left
    · intro w hSw
      try dsimp only at hSw
      go_simp
      try with_reducible rfl
    try simp only [Act.put, List.getElem_toArray, List.getElem_cons_succ, List.getElem_cons_zero, List.setIfInBounds_toArray, List.set_cons_zero, List.set_cons_succ]
    refine wpAnyH_take (i := 11) (v := ?_) rfl (by as_aux_lemma => kernel_rfl) (by as_aux_lemma => kernel_rfl) (by as_aux_lemma => kernel_rfl) (fun _ _ _ h => h) (Or.inl ⟨by rfl, ?_⟩) (by assumption) ?_
    rotate_left
    · intro w hSw
      try dsimp only at hSw
      go_simp
      try with_reducible rfl
    try simp only [Act.put, List.getElem_toArray, List.getElem_cons_succ, List.getElem_cons_zero, List.setIfInBounds_toArray, List.set_cons_zero, List.set_cons_succ]
    refine wpAnyH_take (i := 12) (v := ?_) rfl (by as_aux_lemma => kernel_rfl) (by as_aux_lemma => kernel_rfl) (by as_aux_lemma => kernel_rfl) (fun _ _ _ h => h) (Or.inl ⟨by rfl, ?_⟩) (by assumption) ?_
    rotate_left
    · intro w hSw
      try dsimp only at hSw
      go_simp
      try with_reducible rfl
    try simp only [Act.put, List.getElem_toArray, List.getElem_cons_succ, List.getElem_cons_zero, List.setIfInBounds_toArray, List.set_cons_zero, List.set_cons_succ]
    refine wpAnyH_take (i := 13) (v := ?_) rfl (by as_aux_lemma => kernel_rfl) (by as_aux_lemma => kernel_rfl) (by as_aux_lemma => kernel_rfl) (fun _ _ _ h => h) (Or.inl ⟨by rfl, ?_⟩) (by assumption) ?_
    rotate_left
    · intro w hSw
      try dsimp only at hSw
      go_simp
      try with_reducible rfl
    try simp only [Act.put, List.getElem_toArray, List.getElem_cons_succ, List.getElem_cons_zero, List.setIfInBounds_toArray, List.set_cons_zero, List.set_cons_succ]
    refine wpAnyH_ready (rs := [9]) (by as_aux_lemma => kernel_rfl) (by simp) ?_
    refine AllReadyH.cons rfl (fun K hK => ?_) AllReadyH.nil
    go_simp
    refine (H3.out _).mono ?_
    rintro e v0 ⟨rfl, rfl⟩
    refine hK.out _ _ (KA _ (Below.trans hh0.2.2 (Below.mono (Below.refl _ _) (hh0.2.2).size))) (fun hh1 => ?_)
    clear hK K
    try simp only [Act.put, List.getElem_toArray, List.getElem_cons_succ, List.getElem_cons_zero, List.setIfInBounds_toArray, List.set_cons_zero, List.set_cons_succ]
    refine wpAnyH_take (i := 10) (v := ?_) rfl (by as_aux_lemma => kernel_rfl) (by as_aux_lemma => kernel_rfl) (by as_aux_lemma => kernel_rfl) (fun _ _ _ h => h) (Or.inl ⟨by rfl, ?_⟩) (by assumption) ?_
    rotate_left
    · intro w hSw
      try dsimp only at hSw
      go_simp
      try with_reducible rfl
    try simp only [Act.put, List.getElem_toArray, List.getElem_cons_succ, List.getElem_cons_zero, List.setIfInBounds_toArray, List.set_cons_zero, List.set_cons_succ]
    refine wpAnyH_ready (rs := [14]) (by as_aux_lemma => kernel_rfl) (by simp) ?_
    refine AllReadyH.cons rfl (fun K hK => ?_) AllReadyH.nil
    go_simp
    refine (H4.out _).mono ?_
    rintro e v1 ⟨rfl, rfl⟩
    refine hK.out _ _ (KA _ (Below.trans hh1.2.2 (Below.mono (Below.refl _ _) (hh1.2.2).size))) (fun hh2 => ?_)
    clear hK K
    try simp only [Act.put, List.getElem_toArray, List.getElem_cons_succ, List.getElem_cons_zero, List.setIfInBounds_toArray, List.set_cons_zero, List.set_cons_succ]
    refine wpAnyH_take (i := 15) (v := ?_) rfl (by as_aux_lemma => kernel_rfl) (by as_aux_lemma => kernel_rfl) (by as_aux_lemma => kernel_rfl) (fun _ _ _ h => h) (Or.inl ⟨by rfl, ?_⟩) (by assumption) ?_
    rotate_left
    · intro w hSw
      try dsimp only at hSw
      go_simp
      try with_reducible rfl
    try simp only [Act.put, List.getElem_toArray, List.getElem_cons_succ, List.getElem_cons_zero, List.setIfInBounds_toArray, List.set_cons_zero, List.set_cons_succ]
    refine wpAnyH_ready (rs := [16]) (by as_aux_lemma => kernel_rfl) (by simp) ?_
    refine AllReadyH.cons rfl (fun K hK => ?_) AllReadyH.nil
    go_simp
    refine hK.out _ _ hh2 (fun hh3 => ?_)
    clear hK K
    try simp only [Act.put, List.getElem_toArray, List.getElem_cons_succ, List.getElem_cons_zero, List.setIfInBounds_toArray, List.set_cons_zero, List.set_cons_succ]
    refine wpAnyH_ready (rs := [17]) (by as_aux_lemma => kernel_rfl) (by simp) ?_
    refine AllReadyH.cons rfl (fun K hK => ?_) AllReadyH.nil
    go_simp
    refine hK.out _ _ hh3 (fun hh4 => ?_)
    clear hK K
    try simp only [Act.put, List.getElem_toArray, List.getElem_cons_succ, List.getElem_cons_zero, List.setIfInBounds_toArray, List.set_cons_zero, List.set_cons_succ]
    refine wpAnyH_done (by as_aux_lemma => kernel_rfl) ?_ _
    refine NoPanic.normal ?_
    have HBZ := Lib.hid (hh4.2.2)
    have B3 := Lib.hid (B2.out.trans (HBZ.out.mono B2.out.size))
    go_wp2_with fail
    go_ret
    exact ⟨rfl, B3.out⟩
end Go.Proofs.Ythflbbjilebhlaa
namespace Go.Proofs.Ythflbbjilebhlaa
open Go Go.RowKit Go.Shelf Sc

theorem offsC_take (c : Cse) (s : Scl) (k : Nat) (h : k < c.rds.length) : (offsC c s).take (k + 1) = (offsC c s).take k ++ [offR c s c.rds[k]] := by
  have hl : k < (offsC c s).length := by simpa [offsC] using h
  rw [List.take_succ_eq_append_getElem hl]
  simp [offsC]
set_option maxRecDepth 100000 in
set_option maxHeartbeats 8000000 in
theorem rFalse_any (c : Cse) (hv rv : Value) (s : Scl) (w : World) (hC : CseAt w c hv rv) :
    Calls Try.prog 21 #[.agg #[.int .i64 c.kind, .int .i64 c.base, .int .i64 c.most, hv, rv], .agg #[.int .i64 s.1, .int .i64 s.2]] w (IntsP (offsC c s) (askE c s) w) := by
  unfold IntsP
  obtain ⟨ha, n, hc, rfl⟩ : ∃ a n c, hv = .slice a n c := by obtain ⟨_, a, cap, h, _⟩ := hC.hs; exact ⟨_, _, _, h⟩
  obtain ⟨ra, m, rc, rfl⟩ : ∃ a n c, rv = .slice a n c := by obtain ⟨_, a, cap, h, _⟩ := hC.rd; exact ⟨_, _, _, h⟩
  obtain ⟨kind, hkind⟩ : ∃ x, c.kind = x := ⟨_, rfl⟩
  obtain ⟨base, hbase⟩ : ∃ x, c.base = x := ⟨_, rfl⟩
  obtain ⟨most, hmost⟩ : ∃ x, c.most = x := ⟨_, rfl⟩
  obtain ⟨u, d⟩ := s
  simp only
  obtain ⟨W, hW, q1, q2, hb, hsz⟩ := al2 w (Obj.cells #[.int .i64 kind, .int .i64 base, .int .i64 most, .slice ha n hc, .slice ra m rc] 25) (Obj.cells #[.int .i64 u, .int .i64 d] 27)
  have HC := Lib.hid (hC.below hb)
  have HW := Lib.hid hW
  have HB := Lib.hid hb
  have Q1 := Lib.hid q1
  have Q2 := Lib.hid q2
  have c0 := cellOf q1 0 (.int .i64 kind) rfl
  have c1 := cellOf q1 1 (.int .i64 base) rfl
  have c2 := cellOf q1 2 (.int .i64 most) rfl
  have c3 := cellOf q1 3 (.slice ha n hc) rfl
  have c4 := cellOf q1 4 (.slice ra m rc) rfl
  have cl := lt_of_block q1
  have e0 := cellOf q2 0 (.int .i64 u) rfl
  have e1 := cellOf q2 1 (.int .i64 d) rfl
  have el := lt_of_block q2
  have h1 := rasked_any c _ _ (u, d) W HC.out
  obtain ⟨R, hR⟩ : ∃ R, askE c (u, d) = R := ⟨_, rfl⟩
  rw [hkind, hbase, hmost, hR] at h1
  obtain rfl : m = c.rds.length := by obtain ⟨_, a, cap, h, _⟩ := hC.rd; simp only [Value.slice.injEq] at h; exact h.2.1
  obtain ⟨m, hm⟩ : ∃ m, c.rds.length = m := ⟨_, rfl⟩
  have HM := Lib.hid hm
  have H2 : Hid (R = 0 → ∀ V r, r ∈ c.rds → CseAt V c (.slice ha n hc) (.slice ra c.rds.length rc) → Calls Try.prog 60 #[.agg #[.int .i64 kind, .int .i64 base, .int .i64 most, .slice ha n hc, .slice ra c.rds.length rc], .agg #[.int .i64 r.1, .int .i64 r.2], .agg #[.int .i64 u, .int .i64 d]] V fun e w' => e = .returned (.int .i64 (offR c (u, d) r)) ∧ Below V.heap.size V w') := fun h V r hr hV => by
    have ha := askE_zero (hR.trans h)
    have hs := sclE_zero ha.2
    have hv := valid_of ha.1
    have h2 := rOff_any c _ _ r (u, d) V hV hv ⟨hs.1, hs.2.1, hs.2.2.1, hs.2.2.2.1⟩ (by have q := hv.rd r hr; exact ⟨q.1, q.2.1, q.2.2.1, q.2.2.2.1⟩)
    rw [hkind, hbase, hmost] at h2
    exact h2
  have HM8 : Hid (R = 0 → m ≤ 8) := fun h => by rw [← hm]; exact (valid_of (askE_zero (hR.trans h)).1).r8
  have HOL : Hid ((offsC c (u, d)).length = m) := by show _ = _; rw [← hm]; simp [offsC]
  rw [hm] at HC H2 c4 Q1 HW h1
  rw [hR, hkind, hbase, hmost, hm]
  have H1 := Lib.hid h1
  clear h1 hR hkind hbase hmost hW hb hsz q1 q2 hC hm
  go_enter Try.func21, Try.ntmps21
  go_upto_region 1 with fail
  rw [HW.out]
  go_wp2_with fail
  refine H1.out.mono ?_
  rintro e w1 ⟨rfl, hb⟩
  have B1 := Lib.hid (HB.out.trans (hb.mono HB.out.size))
  have K1 := Lib.hid ((hb.block _ (lt_of_block Q1.out)).trans Q1.out)
  have K2 := Lib.hid ((hb.block _ (lt_of_block Q2.out)).trans Q2.out)
  have C1 := Lib.hid (HC.out.below hb)
  clear hb c0 c1 c2 c3 c4 cl e0 e1 el H1 HC HW Q1 Q2
  by_cases h0 : R = 0
  · have H2' := Lib.hid (H2.out h0)
    have m8 := HM8.out h0
    have mI : (m : Int) ≤ 8 := by omega
    subst h0
    have HB1 := B1
    clear H2 HM8
    go_wp2
    go_loopg [7, 8] m (fun gh v7 i wr => ∃ (k : Nat) (a7 : Option Addr) (c7 : Nat), gh + k = m ∧ i = .int .i64 (k : Int) ∧ v7 = .slice a7 k c7 ∧ Hid (wr.ownsRow w1.heap.size 3 1 (.slice a7 k c7) k (((offsC c (u, d)).take k).map (Value.int .i64))) ∧ Hid (Below w1.heap.size w1 wr))
    case atStart => exact ⟨0, none, 0, by omega, rfl, rfl, World.ownsRow_nil .., Below.refl _ _⟩
    case round =>
      obtain ⟨k, a7, c7, hk, rfl, rfl, HO, HL⟩ := hrel
      have G1 := (HL.out.block _ (lt_of_block K1.out)).trans K1.out
      have c4 := cellOf G1 4 (.slice ra m rc) rfl
      have cl := lt_of_block G1
      by_cases hlt : k < m
      · have kI : (k : Int) < (m : Int) := by omega
        have kz : (0 : Int) ≤ (k : Int) := by omega
        have hk' : k < c.rds.length := by rw [HM.out]; exact hlt
        obtain ⟨b, o, rfl, dW0, dW1⟩ := C1.out.rd.get hk'
        have HTK := Lib.hid (offsC_take c (u, d) k hk')
        have hcall := fun V hV => H2'.out V c.rds[k] (List.getElem_mem hk') hV
        obtain ⟨⟨x1, x2⟩, hx⟩ : ∃ x, c.rds[k] = x := ⟨_, rfl⟩
        rw [hx] at dW0 dW1 HTK
        simp only [hx] at hcall
        simp only at dW0 dW1
        obtain ⟨y, hy⟩ : ∃ y, offR c (u, d) (x1, x2) = y := ⟨_, rfl⟩
        rw [hy] at HTK
        simp only [hy] at hcall
        have HOF : Hid (∀ V, Below w1.heap.size w1 V → _) := fun V hV => hcall V (C1.out.below hV)
        have HALL : Hid (∀ V : World, Below w1.heap.size w1 V → V.cell? ⟨w.heap.size, 0, none⟩ = some (.int .i64 kind) ∧ V.cell? ⟨w.heap.size, 1, none⟩ = some (.int .i64 base) ∧ V.cell? ⟨w.heap.size, 2, none⟩ = some (.int .i64 most) ∧ V.cell? ⟨w.heap.size, 3, none⟩ = some (.slice ha n hc) ∧ V.cell? ⟨w.heap.size, 4, none⟩ = some (.slice (some ⟨b, o, none⟩) m rc) ∧ V.cell? ⟨(w.heap.size + 1), 0, none⟩ = some (.int .i64 u) ∧ V.cell? ⟨(w.heap.size + 1), 1, none⟩ = some (.int .i64 d) ∧ V.cell? ⟨b, o + k * 2, none⟩ = some (.int .i64 x1) ∧ V.cell? ⟨b, o + k * 2 + 1, none⟩ = some (.int .i64 x2) ∧ Below w1.heap.size w1 V) := fun V hV =>
          ⟨keepK (cellOf K1.out 0 _ rfl) hV, keepK (cellOf K1.out 1 _ rfl) hV, keepK (cellOf K1.out 2 _ rfl) hV, keepK (cellOf K1.out 3 _ rfl) hV, keepK (cellOf K1.out 4 _ rfl) hV, keepK (cellOf K2.out 0 _ rfl) hV, keepK (cellOf K2.out 1 _ rfl) hV, keepK dW0 hV, keepK dW1 hV, hV⟩
        obtain ⟨c0, c1, c2, c3, _, e0, e1, d0, d1, _⟩ := HALL.out wr HL.out
        have el := World.block_lt_of_cell? wr ⟨w.heap.size + 1, 0, none⟩ e0
        have dl := World.block_lt_of_cell? wr ⟨b, o + k * 2, none⟩ d0
        clear G1 hk' hx hy hcall dW0 dW1
        go_wp2_with fail
        refine wp_region_noPanic ?_
        refine wp_region_held_drew (S := (fun W' => W'.cell? ⟨w.heap.size, 0, none⟩ = some (.int .i64 kind) ∧ W'.cell? ⟨w.heap.size, 1, none⟩ = some (.int .i64 base) ∧ W'.cell? ⟨w.heap.size, 2, none⟩ = some (.int .i64 most) ∧ W'.cell? ⟨w.heap.size, 3, none⟩ = some (.slice ha n hc) ∧ W'.cell? ⟨w.heap.size, 4, none⟩ = some (.slice (some ⟨b, o, none⟩) m rc) ∧ W'.cell? ⟨(w.heap.size + 1), 0, none⟩ = some (.int .i64 u) ∧ W'.cell? ⟨(w.heap.size + 1), 1, none⟩ = some (.int .i64 d) ∧ W'.cell? ⟨b, o + k * 2, none⟩ = some (.int .i64 x1) ∧ W'.cell? ⟨b, o + k * 2 + 1, none⟩ = some (.int .i64 x2) ∧ Below w1.heap.size w1 W')) (by kernel_rfl) ?_ (fun hh0 => ?_)
        · try dsimp only
          exact HALL.out _ HL.out.drew
        refine wpAnyH_take (i := 0) (v := ?_) rfl (by as_aux_lemma => kernel_rfl) (by as_aux_lemma => kernel_rfl) (by as_aux_lemma => kernel_rfl) (fun _ _ _ h => h) (Or.inl ⟨by rfl, ?_⟩) (by assumption) ?_
        rotate_left
        · intro w hSw
          try dsimp only at hSw
          go_simp
          try with_reducible rfl
        try simp only [Act.put, List.getElem_toArray, List.getElem_cons_succ, List.getElem_cons_zero, List.setIfInBounds_toArray, List.set_cons_zero, List.set_cons_succ]
        refine wpAnyH_take (i := 1) (v := ?_) rfl (by as_aux_lemma => kernel_rfl) (by as_aux_lemma => kernel_rfl) (by as_aux_lemma => kernel_rfl) (fun _ _ _ h => h) (Or.inl ⟨by rfl, ?_⟩) (by assumption) ?_
        rotate_left
        · intro w hSw
          try dsimp only at hSw
          go_simp
          try with_reducible rfl
        try simp only [Act.put, List.getElem_toArray, List.getElem_cons_succ, List.getElem_cons_zero, List.setIfInBounds_toArray, List.set_cons_zero, List.set_cons_succ]
        refine wpAnyH_take (i := 2) (v := ?_) rfl (by as_aux_lemma => kernel_rfl) (by as_aux_lemma => kernel_rfl) (by as_aux_lemma => kernel_rfl) (fun _ _ _ h => h) (Or.inl ⟨by rfl, ?_⟩) (by assumption) ?_
        rotate_left
        · intro w hSw
          try dsimp only at hSw
          go_simp
          try with_reducible rfl
        try simp only [Act.put, List.getElem_toArray, List.getElem_cons_succ, List.getElem_cons_zero, List.setIfInBounds_toArray, List.set_cons_zero, List.set_cons_succ]
        refine wpAnyH_take (i := 3) (v := ?_) rfl (by as_aux_lemma => kernel_rfl) (by as_aux_lemma => kernel_rfl) (by as_aux_lemma => kernel_rfl) (fun _ _ _ h => h) (Or.inl ⟨by rfl, ?_⟩) (by assumption) ?_
        rotate_left
        · intro w hSw
          try dsimp only at hSw
          go_simp
          try with_reducible rfl
        try simp only [Act.put, List.getElem_toArray, List.getElem_cons_succ, List.getElem_cons_zero, List.setIfInBounds_toArray, List.set_cons_zero, List.set_cons_succ]
        refine wpAnyH_take (i := 4) (v := ?_) rfl (by as_aux_lemma => kernel_rfl) (by as_aux_lemma => kernel_rfl) (by as_aux_lemma => kernel_rfl) (fun _ _ _ h => h) (Or.inl ⟨by rfl, ?_⟩) (by assumption) ?_
        rotate_left
        · intro w hSw
          try dsimp only at hSw
          go_simp
          try with_reducible rfl
        try simp only [Act.put, List.getElem_toArray, List.getElem_cons_succ, List.getElem_cons_zero, List.setIfInBounds_toArray, List.set_cons_zero, List.set_cons_succ]
        refine wpAnyH_take (i := 5) (v := ?_) rfl (by as_aux_lemma => kernel_rfl) (by as_aux_lemma => kernel_rfl) (by as_aux_lemma => kernel_rfl) (fun _ _ _ h => h) (Or.inl ⟨by rfl, ?_⟩) (by assumption) ?_
        rotate_left
        · intro w hSw
          try dsimp only at hSw
          go_simp
          try with_reducible rfl
        try simp only [Act.put, List.getElem_toArray, List.getElem_cons_succ, List.getElem_cons_zero, List.setIfInBounds_toArray, List.set_cons_zero, List.set_cons_succ]
        refine wpAnyH_take (i := 6) (v := ?_) rfl (by as_aux_lemma => kernel_rfl) (by as_aux_lemma => kernel_rfl) (by as_aux_lemma => kernel_rfl) (fun _ _ _ h => h) (Or.inl ⟨by rfl, ?_⟩) (by assumption) ?_
        rotate_left
        · intro w hSw
          try dsimp only at hSw
          go_simp
          try with_reducible rfl
        try simp only [Act.put, List.getElem_toArray, List.getElem_cons_succ, List.getElem_cons_zero, List.setIfInBounds_toArray, List.set_cons_zero, List.set_cons_succ]
        refine wpAnyH_take (i := 7) (v := ?_) rfl (by as_aux_lemma => kernel_rfl) (by as_aux_lemma => kernel_rfl) (by as_aux_lemma => kernel_rfl) (fun _ _ _ h => h) (Or.inl ⟨by rfl, ?_⟩) (by assumption) ?_
        rotate_left
        · intro w hSw
          try dsimp only at hSw
          go_simp
          try with_reducible rfl
        try simp only [Act.put, List.getElem_toArray, List.getElem_cons_succ, List.getElem_cons_zero, List.setIfInBounds_toArray, List.set_cons_zero, List.set_cons_succ]
        refine wpAnyH_ready (rs := [8]) (by as_aux_lemma => kernel_rfl) (by simp) ?_
        refine AllReadyH.cons rfl (fun K hK => ?_) AllReadyH.nil
        go_simp
        refine (HOF.out _ hh0.2.2.2.2.2.2.2.2.2).mono ?_
        rintro e w7 ⟨rfl, hb7⟩
        refine hK.out _ _ ?_ (fun hh1 => ?_)
        · try dsimp only
          exact HALL.out _ (hh0.2.2.2.2.2.2.2.2.2.trans ((hb7).mono hh0.2.2.2.2.2.2.2.2.2.size))
        clear hK K hh0
        try simp only [Act.put, List.getElem_toArray, List.getElem_cons_succ, List.getElem_cons_zero, List.setIfInBounds_toArray, List.set_cons_zero, List.set_cons_succ]
        refine wpAnyH_ready (rs := [9]) (by as_aux_lemma => kernel_rfl) (by simp) ?_
        refine AllReadyH.cons rfl (fun K hK => ?_) AllReadyH.nil
        go_simp
        refine hK.out _ _ ?_ (fun hh2 => ?_)
        · try dsimp only
          exact HALL.out _ (hh1.2.2.2.2.2.2.2.2.2.trans (((by go_grown : Below w7.heap.size w7 (w7.alloc (Obj.cells #[.int .i64 y] 3)))).mono hh1.2.2.2.2.2.2.2.2.2.size))
        clear hK K hh1
        try simp only [Act.put, List.getElem_toArray, List.getElem_cons_succ, List.getElem_cons_zero, List.setIfInBounds_toArray, List.set_cons_zero, List.set_cons_succ]
        refine wpAnyH_ready (rs := [10]) (by as_aux_lemma => kernel_rfl) (by simp) ?_
        refine AllReadyH.cons rfl (fun K hK => ?_) AllReadyH.nil
        have hown7 := own_below (own_below HO.out (Below.refl wr.heap.size wr).drew) hb7
        have hba7 : Below w7.heap.size w7 (w7.alloc (Obj.cells #[.int .i64 y] 3)) := by go_grown
        have hs7 : w1.heap.size ≤ w7.heap.size := Nat.le_trans HL.out.size hb7.size
        refine step_app1 (by rfl) _ _ (by rfl) w1.heap.size k _ _ w7.heap.size y (by rfl) (by rfl) (own_below hown7 hba7) (cellOf (heap_alloc_new w7 (Obj.cells #[.int .i64 y] 3)) 0 _ rfl) (by omega) (Nat.le_trans hs7 hba7.size) ?_
        intro v' w8 hown8 hg8
        obtain ⟨va, vc, rfl⟩ := own_slice hown8
        have hown8 := Lib.hid hown8
        have hL8 : Below w1.heap.size w1 w8 := (hh2.2.2.2.2.2.2.2.2.2).grown hg8 (Nat.le_trans hs7 hba7.size) (fun g hg => (hown7.lt g hg).1)
        refine hK.out _ _ ?_ (fun hh3 => ?_)
        · try dsimp only
          exact HALL.out _ hL8
        clear hK K hh2
        try simp only [Act.put, List.getElem_toArray, List.getElem_cons_succ, List.getElem_cons_zero, List.setIfInBounds_toArray, List.set_cons_zero, List.set_cons_succ]
        refine wpAnyH_ready (rs := [11]) (by as_aux_lemma => kernel_rfl) (by simp) ?_
        refine AllReadyH.cons rfl (fun K hK => ?_) AllReadyH.nil
        go_simp
        refine hK.out _ _ ?_ (fun hh4 => ?_)
        · try dsimp only
          exact hh3
        clear hK K hh3
        try simp only [Act.put, List.getElem_toArray, List.getElem_cons_succ, List.getElem_cons_zero, List.setIfInBounds_toArray, List.set_cons_zero, List.set_cons_succ]
        refine wpAnyH_done (by as_aux_lemma => kernel_rfl) ?_ _
        refine NoPanic.normal ?_
        have HO8 : Hid (w8.ownsRow w1.heap.size 3 1 (.slice va (k + 1) vc) (k + 1) (((offsC c (u, d)).take (k + 1)).map (Value.int .i64))) := by
          show World.ownsRow ..
          rw [HTK.out, List.map_append]
          exact hown8.out
        have HL8 := Lib.hid (hh4.2.2.2.2.2.2.2.2.2)
        go_wp2_with fail
        go_roundg (gk - 1)
        case measure => omega
        case rel => exact ⟨k + 1, va, vc, by omega, by go_num, rfl, HO8, HL8⟩
      · obtain rfl : k = m := by omega
        have e : (offsC c (u, d)).take k = offsC c (u, d) := List.take_of_length_le (by rw [HOL.out]; exact Nat.le_refl _)
        rw [e] at HO
        have kI : ¬ (k : Int) < (k : Int) := by omega
        have HI2 : Hid (IntsAt wr (.slice a7 k c7) (offsC c (u, d))) := intsAt_own (base := w1.heap.size) (by rw [HOL.out]; exact HO.out) (by rw [HOL.out]; omega)
        clear hlt hk e
        go_wp2_with fail
        go_ret2
        exact ⟨_, rfl, by first | exact HI2.out | (rw [if_pos rfl]; exact HI2.out), B1.out.trans (HL.out.mono B1.out.size)⟩
  · have tz : (R != 0) = true := by simp [h0]
    go_wp2_with fail
    go_ret2
    exact ⟨_, rfl, by first | exact ints_nil _ | (rw [if_neg h0]; exact ints_nil _), B1.out⟩
end Go.Proofs.Ythflbbjilebhlaa
namespace Go.Proofs.Ythflbbjilebhlaa
open Go Go.RowKit Go.Shelf Sc

theorem get_at0 (l : List Int) (i : Nat) (h : i < l.length) : l[i] = at0 l (i : Int) := by rw [at0_nat]; simp [List.getD_eq_getElem?_getD, h]
set_option maxRecDepth 100000 in
set_option maxHeartbeats 8000000 in
theorem rLevel_any (c : Cse) (hv rv : Value) (s : Scl) (w : World) (hC : CseAt w c hv rv) (hV : Valid c) (hs : 1 ≤ s.1 ∧ s.1 ≤ 30 ∧ 1 ≤ s.2 ∧ s.2 ≤ 30) :
    Calls Try.prog 62 #[.agg #[.int .i64 c.kind, .int .i64 c.base, .int .i64 c.most, hv, rv], .agg #[.int .i64 s.1, .int .i64 s.2]] w fun e w' => ∃ v, e = .returned v ∧ IntsAt w' v (flatsC c s) ∧ Below w.heap.size w w' := by
  unfold flatsC
  obtain ⟨ha, n, hc, rfl⟩ : ∃ a n c, hv = .slice a n c := by obtain ⟨_, a, cap, h, _⟩ := hC.hs; exact ⟨_, _, _, h⟩
  obtain ⟨ra, m, rc, rfl⟩ : ∃ a n c, rv = .slice a n c := by obtain ⟨_, a, cap, h, _⟩ := hC.rd; exact ⟨_, _, _, h⟩
  obtain ⟨kind, hkind⟩ : ∃ x, c.kind = x := ⟨_, rfl⟩
  obtain ⟨base, hbase⟩ : ∃ x, c.base = x := ⟨_, rfl⟩
  obtain ⟨most, hmost⟩ : ∃ x, c.most = x := ⟨_, rfl⟩
  obtain ⟨u, d⟩ := s
  simp only
  obtain ⟨W, hW, q1, q2, hb, hsz⟩ := al2 w (Obj.cells #[.int .i64 kind, .int .i64 base, .int .i64 most, .slice ha n hc, .slice ra m rc] 25) (Obj.cells #[.int .i64 u, .int .i64 d] 27)
  have HC := Lib.hid (hC.below hb)
  have HW := Lib.hid hW
  have HB := Lib.hid hb
  have Q1 := Lib.hid q1
  have Q2 := Lib.hid q2
  have c0 := cellOf q1 0 (.int .i64 kind) rfl
  have c1 := cellOf q1 1 (.int .i64 base) rfl
  have c2 := cellOf q1 2 (.int .i64 most) rfl
  have c3 := cellOf q1 3 (.slice ha n hc) rfl
  have c4 := cellOf q1 4 (.slice ra m rc) rfl
  have cl := lt_of_block q1
  have e0 := cellOf q2 0 (.int .i64 u) rfl
  have e1 := cellOf q2 1 (.int .i64 d) rfl
  have el := lt_of_block q2
  have h1 := rAll_any c _ _ (u, d) W HC.out hV hs
  obtain rfl : n = c.hs.length := by obtain ⟨_, a, cap, h, _⟩ := hC.hs; simp only [Value.slice.injEq] at h; exact h.2.1
  obtain rfl : m = c.rds.length := by obtain ⟨_, a, cap, h, _⟩ := hC.rd; simp only [Value.slice.injEq] at h; exact h.2.1
  obtain ⟨n, hn⟩ : ∃ n, c.hs.length = n := ⟨_, rfl⟩
  obtain ⟨m, hm⟩ : ∃ m, c.rds.length = m := ⟨_, rfl⟩
  have hcl : (cutsC c (u, d)).length = n := by simp [cutsC, hn]
  have n8 : n ≤ 8 := by rw [← hn]; exact hV.n8
  have m8 : m ≤ 8 := by rw [← hm]; exact hV.r8
  have nI : (n : Int) ≤ 8 := by omega
  have mI : (m : Int) ≤ 8 := by omega
  rw [hkind, hbase, hmost, hcl, hn, hm] at h1
  rw [hn, hm] at HC HW Q1
  rw [hn] at c3
  rw [hm] at c4
  rw [hkind, hbase, hmost, hn, hm]
  have H1 := Lib.hid h1
  have HN := Lib.hid hn
  have HM := Lib.hid hm
  have HCL := Lib.hid hcl
  have HVV := Lib.hid hV
  clear h1 hkind hbase hmost hW hb hsz q1 q2 hC hV hn hm hcl
  go_enter Try.func62, Try.ntmps62
  go_upto_region 1 with fail
  rw [HW.out]
  go_wp2_with fail
  refine H1.out.mono ?_
  rintro e w1 ⟨v, rfl, _, hi, hb⟩
  have B1 := Lib.hid (HB.out.trans (hb.mono HB.out.size))
  have K1 := Lib.hid ((hb.block _ (lt_of_block Q1.out)).trans Q1.out)
  have C1 := Lib.hid (HC.out.below hb)
  obtain ⟨ll, la, lc, rfl, llc, _⟩ := id hi
  rw [HCL.out] at llc ⊢
  have HI := Lib.hid hi
  have HI := Lib.hid (show IntsAt w1 (.slice la n lc) (cutsC c (u, d)) by have h := HI.out; rw [HCL.out] at h; exact h)
  clear hb hi c0 c1 c2 c3 c4 cl e0 e1 el H1 HC HW Q1 Q2 HB
  go_wp2
  go_loopg [6, 7, 8] m (fun gh v6 i _ wr => ∃ (k q : Nat) (a6 : Option Addr) (c6 : Nat), gh + k = m ∧ i = .int .i64 (k : Int) ∧ v6 = .slice a6 q c6 ∧ Hid ((flatsTo c (u, d) k).length = q) ∧ Hid (wr.ownsRow w1.heap.size 3 1 (.slice a6 q c6) q ((flatsTo c (u, d) k).map (Value.int .i64))) ∧ Hid (Below w1.heap.size w1 wr))
  case atStart => exact ⟨0, 0, none, 0, by omega, rfl, rfl, rfl, World.ownsRow_nil .., Below.refl _ _⟩
  case round =>
    obtain ⟨k, q, a6, c6, hk, rfl, rfl, HQ, HO, HL⟩ := hrel
    have G1 := Lib.hid ((HL.out.block _ (lt_of_block K1.out)).trans K1.out)
    have c4 := cellOf G1.out 4 (.slice ra m rc) rfl
    have cl := lt_of_block G1.out
    by_cases hkm : k < m
    · have kI : (k : Int) < (m : Int) := by omega
      have kz : (0 : Int) ≤ (k : Int) := by omega
      have hk' : k < c.rds.length := by rw [HM.out]; exact hkm
      have C3 := C1.out.below HL.out
      obtain ⟨b, o, rfl, d0, d1⟩ := C3.rd.get hk'
      have hin := HVV.out.rd _ (List.getElem_mem hk')
      have hgd : c.rds.getD k default = c.rds[k] := by simp [List.getD_eq_getElem?_getD, hk']
      obtain ⟨⟨r1, r2⟩, hr⟩ : ∃ r, c.rds[k] = r := ⟨_, rfl⟩
      rw [hr] at d0 d1 hin hgd
      simp only at d0 d1 hin
      obtain ⟨i, rfl⟩ : ∃ i : Nat, r1 = (i : Int) := ⟨r1.toNat, by omega⟩
      obtain ⟨j, rfl⟩ : ∃ j : Nat, r2 = (j : Int) := ⟨r2.toNat, by omega⟩
      rw [HN.out] at hin
      have ilt : i < n := by omega
      have jlt : j < n := by omega
      have iI : (i : Int) < (n : Int) := by omega
      have jI : (j : Int) < (n : Int) := by omega
      have iz : (0 : Int) ≤ (i : Int) := by omega
      have jz : (0 : Int) ≤ (j : Int) := by omega
      obtain ⟨w6, hw6, z6, b6⟩ : ∃ X, wr.alloc (Obj.cells #[.int .i64 i, .int .i64 j] 79) = X ∧ X.heap[wr.heap.size]? = some (.cells #[.int .i64 i, .int .i64 j] 79 (0, 0)) ∧ Below wr.heap.size wr X := ⟨_, rfl, heap_alloc_new _ _, by go_grown⟩
      have L6 := Lib.hid (HL.out.trans (b6.mono HL.out.size))
      have O6 := Lib.hid (own_below HO.out b6)
      have C6 := C3.below b6
      have I6 := HI.out.below L6.out
      obtain ⟨hb', ho', e', x0⟩ := C6.hs.get (show i < c.hs.length by rw [HN.out]; exact ilt)
      cases e'
      obtain ⟨hb2, ho2, e', x1⟩ := C6.hs.get (show j < c.hs.length by rw [HN.out]; exact jlt)
      cases e'
      obtain ⟨lb, lo, e', y0⟩ := I6.get (show i < (cutsC c (u, d)).length by rw [HCL.out]; exact ilt)
      cases e'
      obtain ⟨lb2, lo2, e', y1⟩ := I6.get (show j < (cutsC c (u, d)).length by rw [HCL.out]; exact jlt)
      cases e'
      rw [get_at0] at x0 x1 y0 y1
      obtain ⟨FB, hFB⟩ : ∃ x, flatR c (u, d) ((i : Int), (j : Int)) = x := ⟨_, rfl⟩
      have HFB : Hid (flatR c (u, d) (c.rds.getD k default) = FB) := by show _ = _; rw [hgd]; exact hFB
      unfold flatR at hFB
      simp only at hFB
      generalize at0 c.hs (i : Int) = p0 at *
      generalize at0 c.hs (j : Int) = p1 at *
      generalize at0 (cutsC c (u, d)) (i : Int) = s0 at *
      generalize at0 (cutsC c (u, d)) (j : Int) = s1 at *
      have hF2 : FB = ((p0 != p1) && (s0 == s1)) := by
        rw [← hFB]
        by_cases g1 : p0 = p1
        · have e1 : p1 - p0 = 0 := by omega
          simp [g1]
        · have e1 : ¬ p1 - p0 = 0 := by omega
          by_cases g2 : s0 = s1
          · have e2 : s1 - s0 = 0 := by omega
            simp [g1, e1, g2]
          · have e2 : ¬ s1 - s0 = 0 := by omega
            simp [e1, g2, e2]
      have HF2 := Lib.hid hF2
      have HW6 := Lib.hid hw6
      have g3 := cellOf ((b6.block _ (lt_of_block G1.out)).trans G1.out) 3 (.slice (some ⟨hb', ho', none⟩) n hc) rfl
      have gl := lt_of_block ((b6.block _ (lt_of_block G1.out)).trans G1.out)
      have f0 := cellOf z6 0 (.int .i64 i) rfl
      have f1 := cellOf z6 1 (.int .i64 j) rfl
      have fl := lt_of_block z6
      have xl := World.block_lt_of_cell? w6 ⟨hb', ho' + i, none⟩ x0
      have yl := World.block_lt_of_cell? w6 ⟨lb, lo + i, none⟩ y0
      have dl := World.block_lt_of_cell? wr ⟨b, o + k * 2, none⟩ d0
      clear hk' C3 hin hgd hr hw6 z6 b6 C6 I6 hFB hF2 HO HL
      go_upto_region 7 with (rw [HW6.out])
      clear c4 cl d0 d1 dl
      cases g1 : (p0 != p1)
      · have h1 : decide (p0 = p1) = true := by simpa using g1
        have hfb : FB = false := by rw [HF2.out, g1]; rfl
        subst hfb
        go_quiet (fail)
        have hb5 : Below w6.heap.size w6 (w6.drewN nq) := below_dn (Below.refl _ _) _
        have L7 := Lib.hid (L6.out.trans (hb5.mono L6.out.size))
        have O7 := Lib.hid (own_below O6.out hb5)
        clear hb5
        generalize w6.drewN nq = w7 at *
        have hno := flatsTo_no HFB.out
        have O8 : Hid (w7.ownsRow w1.heap.size 3 1 (.slice a6 q c6) q ((flatsTo c (u, d) (k + 1)).map (Value.int .i64))) := by show World.ownsRow ..; rw [hno]; exact O7.out
        have Q8 : Hid ((flatsTo c (u, d) (k + 1)).length = q) := by show _ = _; rw [hno]; exact HQ.out
        clear hno x0 x1 y0 y1 g3 gl f0 f1 fl xl yl
        go_wp2_with fail
        go_roundg (gk - 1)
        case measure => omega
        case rel => exact ⟨k + 1, q, a6, c6, by omega, by go_num, rfl, Q8, O8, L7⟩
      · have h1 : decide (p0 = p1) = false := by simpa using g1
        cases g2 : (s0 == s1)
        · have h2 : decide (s0 = s1) = false := by simpa using g2
          have hfb : FB = false := by rw [HF2.out, g1, g2]; rfl
          subst hfb
          go_quiet (fail)
          have hb5 : Below w6.heap.size w6 (w6.drewN nq) := below_dn (Below.refl _ _) _
          have L7 := Lib.hid (L6.out.trans (hb5.mono L6.out.size))
          have O7 := Lib.hid (own_below O6.out hb5)
          clear hb5
          generalize w6.drewN nq = w7 at *
          have hno := flatsTo_no HFB.out
          have O8 : Hid (w7.ownsRow w1.heap.size 3 1 (.slice a6 q c6) q ((flatsTo c (u, d) (k + 1)).map (Value.int .i64))) := by show World.ownsRow ..; rw [hno]; exact O7.out
          have Q8 : Hid ((flatsTo c (u, d) (k + 1)).length = q) := by show _ = _; rw [hno]; exact HQ.out
          clear hno x0 x1 y0 y1 g3 gl f0 f1 fl xl yl
          go_wp2_with fail
          go_roundg (gk - 1)
          case measure => omega
          case rel => exact ⟨k + 1, q, a6, c6, by omega, by go_num, rfl, Q8, O8, L7⟩
        · have h2 : decide (s0 = s1) = true := by simpa using g2
          have hfb : FB = true := by rw [HF2.out, g1, g2]; rfl
          subst hfb
          go_quiet (fail)
          have hb5 : Below w6.heap.size w6 (w6.drewN nq) := below_dn (Below.refl _ _) _
          have L7 := Lib.hid (L6.out.trans (hb5.mono L6.out.size))
          have O7 := Lib.hid (own_below O6.out hb5)
          clear hb5
          generalize w6.drewN nq = w7 at *
          have HY := Lib.hid (flatsTo_yes HFB.out)
          have hq8 : q ≤ k := by rw [← HQ.out]; exact flatsTo_len _ _ _
          have hba7 : Below w7.heap.size w7 (w7.alloc (Obj.cells #[.int .i64 (k : Int)] 3)) := by go_grown
          have HBA7 := Lib.hid hba7
          have hs8 : w1.heap.size ≤ (w7.alloc (Obj.cells #[.int .i64 (k : Int)] 3)).heap.size := by have := L7.out.size; have := hba7.size; omega
          clear hba7 x0 x1 y0 y1 g3 gl f0 f1 fl xl yl
          go_wp2_with (at_builtin; refine wpl_app1 rfl _ _ rfl w1.heap.size q _ _ w7.heap.size (k : Int) rfl rfl (own_below O7.out HBA7.out) (cellOf (heap_alloc_new w7 (Obj.cells #[.int .i64 (k : Int)] 3)) 0 _ rfl) (by omega) hs8 ?_)
          intro v' w8 hown8 hg8 _
          have L8 : Hid (Below w1.heap.size w1 w8) := (L7.out.trans (HBA7.out.mono L7.out.size)).grown hg8 hs8 (fun g hg => (O7.out.lt g hg).1)
          obtain ⟨va, vc, rfl⟩ := own_slice hown8
          have O8 : Hid (w8.ownsRow w1.heap.size 3 1 (.slice va (q + 1) vc) (q + 1) ((flatsTo c (u, d) (k + 1)).map (Value.int .i64))) := by
            show World.ownsRow ..
            rw [HY.out, List.map_append]
            exact hown8
          have Q8 : Hid ((flatsTo c (u, d) (k + 1)).length = q + 1) := by show _ = _; rw [HY.out, List.length_append, HQ.out]; rfl
          clear hown8 hg8
          go_wp2_with fail
          go_roundg (gk - 1)
          case measure => omega
          case rel => exact ⟨k + 1, q + 1, va, vc, by omega, by go_num, rfl, Q8, O8, L8⟩
    · obtain rfl : k = m := by omega
      have kI : ¬ (k : Int) < (k : Int) := by omega
      have HI2 : Hid (IntsAt wr (.slice a6 q c6) (flatsTo c (u, d) k)) := by
        have hq8 : q ≤ k := by rw [← HQ.out]; exact flatsTo_len _ _ _
        refine intsAt_own (base := w1.heap.size) ?_ ?_
        · rw [HQ.out]; exact HO.out
        · rw [HQ.out]; omega
      clear hkm hk HO
      go_wp2_with fail
      go_ret
      exact ⟨_, rfl, HI2.out, B1.out.trans (HL.out.mono B1.out.size)⟩
end Go.Proofs.Ythflbbjilebhlaa
namespace Go.Proofs.Ythflbbjilebhlaa
open Go Go.RowKit Go.Shelf Sc

set_option maxRecDepth 100000 in
set_option maxHeartbeats 4000000 in
theorem rFlat_any (c : Cse) (hv rv : Value) (s : Scl) (w : World) (hC : CseAt w c hv rv) :
    Calls Try.prog 23 #[.agg #[.int .i64 c.kind, .int .i64 c.base, .int .i64 c.most, hv, rv], .agg #[.int .i64 s.1, .int .i64 s.2]] w (IntsP (flatsC c s) (askE c s) w) := by
  unfold IntsP
  obtain ⟨ha, n, hc, rfl⟩ : ∃ a n c, hv = .slice a n c := by obtain ⟨_, a, cap, h, _⟩ := hC.hs; exact ⟨_, _, _, h⟩
  obtain ⟨ra, m, rc, rfl⟩ : ∃ a n c, rv = .slice a n c := by obtain ⟨_, a, cap, h, _⟩ := hC.rd; exact ⟨_, _, _, h⟩
  obtain ⟨kind, hkind⟩ : ∃ x, c.kind = x := ⟨_, rfl⟩
  obtain ⟨base, hbase⟩ : ∃ x, c.base = x := ⟨_, rfl⟩
  obtain ⟨most, hmost⟩ : ∃ x, c.most = x := ⟨_, rfl⟩
  obtain ⟨u, d⟩ := s
  simp only
  obtain ⟨W, hW, q1, q2, hb, hsz⟩ := al2 w (Obj.cells #[.int .i64 kind, .int .i64 base, .int .i64 most, .slice ha n hc, .slice ra m rc] 25) (Obj.cells #[.int .i64 u, .int .i64 d] 27)
  have HC := Lib.hid (hC.below hb)
  have HW := Lib.hid hW
  have HB := Lib.hid hb
  have Q1 := Lib.hid q1
  have Q2 := Lib.hid q2
  have c0 := cellOf q1 0 (.int .i64 kind) rfl
  have c1 := cellOf q1 1 (.int .i64 base) rfl
  have c2 := cellOf q1 2 (.int .i64 most) rfl
  have c3 := cellOf q1 3 (.slice ha n hc) rfl
  have c4 := cellOf q1 4 (.slice ra m rc) rfl
  have cl := lt_of_block q1
  have e0 := cellOf q2 0 (.int .i64 u) rfl
  have e1 := cellOf q2 1 (.int .i64 d) rfl
  have el := lt_of_block q2
  have h1 := rasked_any c _ _ (u, d) W HC.out
  obtain ⟨R, hR⟩ : ∃ R, askE c (u, d) = R := ⟨_, rfl⟩
  rw [hkind, hbase, hmost, hR] at h1
  have H2 : Hid (R = 0 → ∀ V, CseAt V c (.slice ha n hc) (.slice ra m rc) → Calls Try.prog 62 #[.agg #[.int .i64 kind, .int .i64 base, .int .i64 most, .slice ha n hc, .slice ra m rc], .agg #[.int .i64 u, .int .i64 d]] V fun e w' => ∃ v, e = .returned v ∧ IntsAt w' v (flatsC c (u, d)) ∧ Below V.heap.size V w') := fun h V hV => by
    have ha := askE_zero (hR.trans h)
    have hs := sclE_zero ha.2
    have h2 := rLevel_any c _ _ (u, d) V hV (valid_of ha.1) ⟨hs.1, hs.2.1, hs.2.2.1, hs.2.2.2.1⟩
    rw [hkind, hbase, hmost] at h2
    refine h2.mono ?_
    rintro e w' ⟨v, rfl, hi, hb⟩
    exact ⟨v, rfl, hi, hb⟩
  rw [hR, hkind, hbase, hmost]
  have H1 := Lib.hid h1
  clear h1 hR hkind hbase hmost hW hb hsz q1 q2 hC
  go_enter Try.func23, Try.ntmps23
  go_upto_region 1 with fail
  rw [HW.out]
  go_wp2_with fail
  refine H1.out.mono ?_
  rintro e w1 ⟨rfl, hb⟩
  have B1 := Lib.hid (HB.out.trans (hb.mono HB.out.size))
  have K1 := Lib.hid ((hb.block _ (lt_of_block Q1.out)).trans Q1.out)
  have K2 := Lib.hid ((hb.block _ (lt_of_block Q2.out)).trans Q2.out)
  have C1 := Lib.hid (HC.out.below hb)
  clear hb c0 c1 c2 c3 c4 cl e0 e1 el H1 HC HW Q1 Q2 HB
  by_cases h0 : R = 0
  · subst h0
    have c0 := cellOf K1.out 0 (.int .i64 kind) rfl
    have c1 := cellOf K1.out 1 (.int .i64 base) rfl
    have c2 := cellOf K1.out 2 (.int .i64 most) rfl
    have c3 := cellOf K1.out 3 (.slice ha n hc) rfl
    have c4 := cellOf K1.out 4 (.slice ra m rc) rfl
    have cl := lt_of_block K1.out
    have e0 := cellOf K2.out 0 (.int .i64 u) rfl
    have e1 := cellOf K2.out 1 (.int .i64 d) rfl
    have el := lt_of_block K2.out
    go_wp2_with fail
    refine (H2.out (by first | trivial | rfl) _ C1.out).mono ?_
    rintro e w2 ⟨v, rfl, hi, hb⟩
    have HI := Lib.hid hi
    have B2 := Lib.hid (B1.out.trans (hb.mono B1.out.size))
    clear hb hi
    go_wp2_with fail
    go_ret2
    exact ⟨_, rfl, by first | exact HI.out | (rw [if_pos rfl]; exact HI.out), B2.out⟩
  · have tz : (R != 0) = true := by simp [h0]
    go_wp2_with fail
    go_ret2
    exact ⟨_, rfl, by first | exact ints_nil _ | (rw [if_neg h0]; exact ints_nil _), B1.out⟩
end Go.Proofs.Ythflbbjilebhlaa
namespace Go.Proofs.Ythflbbjilebhlaa
open Go Go.RowKit Go.Shelf Sc

theorem apTo_cut {c : Cse} (h8 : c.hs.length ≤ 8) (s t : Scl) (k : Nat) (hk : k ≤ c.hs.length) : apTo (cut8 c s) (cut8 c t) k = apTo (cutsC c s) (cutsC c t) k := by
  unfold apTo
  congr 1
  apply List.filter_congr
  intro i hi
  have hi' := List.mem_range.1 hi
  rw [cut8_get c s i (by omega) h8, cut8_get c t i (by omega) h8]
theorem apartC_eq {c : Cse} (h8 : c.hs.length ≤ 8) (s t : Scl) : apartC c s t = apTo (cutsC c s) (cutsC c t) c.hs.length := apTo_cut h8 s t _ (Nat.le_refl _)
set_option maxRecDepth 100000 in
set_option maxHeartbeats 8000000 in
theorem rDiffer_any (c : Cse) (hv rv : Value) (s t : Scl) (w : World) (hC : CseAt w c hv rv) (hV : Valid c) (hs : 1 ≤ s.1 ∧ s.1 ≤ 30 ∧ 1 ≤ s.2 ∧ s.2 ≤ 30) (ht : 1 ≤ t.1 ∧ t.1 ≤ 30 ∧ 1 ≤ t.2 ∧ t.2 ≤ 30) :
    Calls Try.prog 66 #[.agg #[.int .i64 c.kind, .int .i64 c.base, .int .i64 c.most, hv, rv], .agg #[.int .i64 s.1, .int .i64 s.2], .agg #[.int .i64 t.1, .int .i64 t.2]] w fun e w' => ∃ v, e = .returned v ∧ IntsAt w' v (apartC c s t) ∧ Below w.heap.size w w' := by
  rw [apartC_eq hV.n8]
  obtain ⟨ha, n, hc, rfl⟩ : ∃ a n c, hv = .slice a n c := by obtain ⟨_, a, cap, h, _⟩ := hC.hs; exact ⟨_, _, _, h⟩
  obtain ⟨ra, m, rc, rfl⟩ : ∃ a n c, rv = .slice a n c := by obtain ⟨_, a, cap, h, _⟩ := hC.rd; exact ⟨_, _, _, h⟩
  obtain ⟨kind, hkind⟩ : ∃ x, c.kind = x := ⟨_, rfl⟩
  obtain ⟨base, hbase⟩ : ∃ x, c.base = x := ⟨_, rfl⟩
  obtain ⟨most, hmost⟩ : ∃ x, c.most = x := ⟨_, rfl⟩
  obtain ⟨s1, s2⟩ := s
  obtain ⟨t1, t2⟩ := t
  simp only
  obtain ⟨W, hW, q1, q2, q3, hb, hsz⟩ := al3 w (Obj.cells #[.int .i64 kind, .int .i64 base, .int .i64 most, .slice ha n hc, .slice ra m rc] 25) (Obj.cells #[.int .i64 s1, .int .i64 s2] 27) (Obj.cells #[.int .i64 t1, .int .i64 t2] 27)
  have HC := Lib.hid (hC.below hb)
  have HW := Lib.hid hW
  have HB := Lib.hid hb
  have Q1 := Lib.hid q1
  have Q2 := Lib.hid q2
  have Q3 := Lib.hid q3
  have c0 := cellOf q1 0 (.int .i64 kind) rfl
  have c1 := cellOf q1 1 (.int .i64 base) rfl
  have c2 := cellOf q1 2 (.int .i64 most) rfl
  have c3 := cellOf q1 3 (.slice ha n hc) rfl
  have c4 := cellOf q1 4 (.slice ra m rc) rfl
  have cl := lt_of_block q1
  have e0 := cellOf q2 0 (.int .i64 s1) rfl
  have e1 := cellOf q2 1 (.int .i64 s2) rfl
  have el := lt_of_block q2
  have f0 := cellOf q3 0 (.int .i64 t1) rfl
  have f1 := cellOf q3 1 (.int .i64 t2) rfl
  have fl := lt_of_block q3
  have H1 : Hid (∀ V, CseAt V c (.slice ha n hc) (.slice ra m rc) → Calls Try.prog 51 #[.agg #[.int .i64 kind, .int .i64 base, .int .i64 most, .slice ha n hc, .slice ra m rc], .agg #[.int .i64 s1, .int .i64 s2]] V fun e w' => ∃ v, e = .returned v ∧ IntsAt w' v (cutsC c (s1, s2)) ∧ Below V.heap.size V w') := fun V hCV => by
    have h2 := rAll_any c _ _ (s1, s2) V hCV hV hs
    rw [hkind, hbase, hmost] at h2
    refine h2.mono ?_
    rintro e w' ⟨v, rfl, _, hi, hb⟩
    exact ⟨v, rfl, hi, hb⟩
  have H2 : Hid (∀ V, CseAt V c (.slice ha n hc) (.slice ra m rc) → Calls Try.prog 51 #[.agg #[.int .i64 kind, .int .i64 base, .int .i64 most, .slice ha n hc, .slice ra m rc], .agg #[.int .i64 t1, .int .i64 t2]] V fun e w' => ∃ v, e = .returned v ∧ IntsAt w' v (cutsC c (t1, t2)) ∧ Below V.heap.size V w') := fun V hCV => by
    have h2 := rAll_any c _ _ (t1, t2) V hCV hV ht
    rw [hkind, hbase, hmost] at h2
    refine h2.mono ?_
    rintro e w' ⟨v, rfl, _, hi, hb⟩
    exact ⟨v, rfl, hi, hb⟩
  obtain ⟨l, hl⟩ : ∃ l, c.hs.length = l := ⟨_, rfl⟩
  have hl1 : (cutsC c (s1, s2)).length = l := by simp [cutsC, hl]
  have hl2 : (cutsC c (t1, t2)).length = l := by simp [cutsC, hl]
  have l8 : l ≤ 8 := by rw [← hl]; exact hV.n8
  have lI : (l : Int) ≤ 8 := by omega
  rw [hl, hkind, hbase, hmost]
  generalize cutsC c (s1, s2) = xs at *
  generalize cutsC c (t1, t2) = ys at *
  have HL1 := Lib.hid hl1
  have HL2 := Lib.hid hl2
  clear hl hl1 hl2 hkind hbase hmost hW hb hsz q1 q2 q3 hC hV hs ht
  go_enter Try.func66, Try.ntmps66
  go_upto_region 1 with fail
  rw [HW.out]
  have KA : ∀ W' : World, Below W.heap.size W W' → (W'.cell? ⟨w.heap.size, 0, none⟩ = some (.int .i64 kind) ∧ W'.cell? ⟨w.heap.size, 1, none⟩ = some (.int .i64 base) ∧ W'.cell? ⟨w.heap.size, 2, none⟩ = some (.int .i64 most) ∧ W'.cell? ⟨w.heap.size, 3, none⟩ = some (.slice ha n hc) ∧ W'.cell? ⟨w.heap.size, 4, none⟩ = some (.slice ra m rc) ∧ W'.cell? ⟨(w.heap.size + 1), 0, none⟩ = some (.int .i64 s1) ∧ W'.cell? ⟨(w.heap.size + 1), 1, none⟩ = some (.int .i64 s2) ∧ W'.cell? ⟨(w.heap.size + 1 + 1), 0, none⟩ = some (.int .i64 t1) ∧ W'.cell? ⟨(w.heap.size + 1 + 1), 1, none⟩ = some (.int .i64 t2) ∧ Below W.heap.size W W') := fun W' hb => ⟨keepK c0 hb, keepK c1 hb, keepK c2 hb, keepK c3 hb, keepK c4 hb, keepK e0 hb, keepK e1 hb, keepK f0 hb, keepK f1 hb, hb⟩
  refine wp_region_noPanic ?_
  refine wp_region_held_drew (S := (fun W' => W'.cell? ⟨w.heap.size, 0, none⟩ = some (.int .i64 kind) ∧ W'.cell? ⟨w.heap.size, 1, none⟩ = some (.int .i64 base) ∧ W'.cell? ⟨w.heap.size, 2, none⟩ = some (.int .i64 most) ∧ W'.cell? ⟨w.heap.size, 3, none⟩ = some (.slice ha n hc) ∧ W'.cell? ⟨w.heap.size, 4, none⟩ = some (.slice ra m rc) ∧ W'.cell? ⟨(w.heap.size + 1), 0, none⟩ = some (.int .i64 s1) ∧ W'.cell? ⟨(w.heap.size + 1), 1, none⟩ = some (.int .i64 s2) ∧ W'.cell? ⟨(w.heap.size + 1 + 1), 0, none⟩ = some (.int .i64 t1) ∧ W'.cell? ⟨(w.heap.size + 1 + 1), 1, none⟩ = some (.int .i64 t2) ∧ Below W.heap.size W W')) (by kernel_rfl) ?_ (fun hh0 => ?_)
  · exact KA _ (Below.refl _ _).drew
  refine wpAnyH_take (i := 0) (v := ?_) rfl (by as_aux_lemma => kernel_rfl) (by as_aux_lemma => kernel_rfl) (by as_aux_lemma => kernel_rfl) (fun _ _ _ h => h) (Or.inl ⟨by rfl, ?_⟩) (by assumption) ?_
  rotate_left
  · intro w hSw
    try dsimp only at hSw
    go_simp
    try with_reducible rfl
  try simp only [Act.put, List.getElem_toArray, List.getElem_cons_succ, List.getElem_cons_zero, List.setIfInBounds_toArray, List.set_cons_zero, List.set_cons_succ]
  refine wpAnyH_take (i := 1) (v := ?_) rfl (by as_aux_lemma => kernel_rfl) (by as_aux_lemma => kernel_rfl) (by as_aux_lemma => kernel_rfl) (fun _ _ _ h => h) (Or.inl ⟨by rfl, ?_⟩) (by assumption) ?_
  rotate_left
  · intro w hSw
    try dsimp only at hSw
    go_simp
    try with_reducible rfl
  try simp only [Act.put, List.getElem_toArray, List.getElem_cons_succ, List.getElem_cons_zero, List.setIfInBounds_toArray, List.set_cons_zero, List.set_cons_succ]
  refine wpAnyH_take (i := 3) (v := ?_) rfl (by as_aux_lemma => kernel_rfl) (by as_aux_lemma => kernel_rfl) (by as_aux_lemma => kernel_rfl) (fun _ _ _ h => h) (Or.inl ⟨by rfl, ?_⟩) (by assumption) ?_
  rotate_left
  · intro w hSw
    try dsimp only at hSw
    go_simp
    try with_reducible rfl
  try simp only [Act.put, List.getElem_toArray, List.getElem_cons_succ, List.getElem_cons_zero, List.setIfInBounds_toArray, List.set_cons_zero, List.set_cons_succ]
  refine wpAnyH_take (i := 4) (v := ?_) rfl (by as_aux_lemma => kernel_rfl) (by as_aux_lemma => kernel_rfl) (by as_aux_lemma => kernel_rfl) (fun _ _ _ h => h) (Or.inl ⟨by rfl, ?_⟩) (by assumption) ?_
  rotate_left
  · intro w hSw
    try dsimp only at hSw
    go_simp
    try with_reducible rfl
  try simp only [Act.put, List.getElem_toArray, List.getElem_cons_succ, List.getElem_cons_zero, List.setIfInBounds_toArray, List.set_cons_zero, List.set_cons_succ]
  refine wpAnyH_ready (rs := [2]) (by as_aux_lemma => kernel_rfl) (by simp) ?_
  refine AllReadyH.cons rfl (fun K hK => ?_) AllReadyH.nil
  go_simp
  refine (H1.out _ (HC.out.below hh0.2.2.2.2.2.2.2.2.2)).mono ?_
  rintro e wX ⟨v1, rfl, hi1, hbX⟩
  have HI1 := Lib.hid hi1
  clear hi1
  refine hK.out _ _ (KA _ (Below.trans hh0.2.2.2.2.2.2.2.2.2 (Below.mono hbX (hh0.2.2.2.2.2.2.2.2.2).size))) (fun hh1 => ?_)
  clear hK K
  try simp only [Act.put, List.getElem_toArray, List.getElem_cons_succ, List.getElem_cons_zero, List.setIfInBounds_toArray, List.set_cons_zero, List.set_cons_succ]
  refine wpAnyH_ready (rs := [5]) (by as_aux_lemma => kernel_rfl) (by simp) ?_
  refine AllReadyH.cons rfl (fun K hK => ?_) AllReadyH.nil
  go_simp
  refine (H2.out _ (HC.out.below hh1.2.2.2.2.2.2.2.2.2)).mono ?_
  rintro e wY ⟨v2, rfl, hi2, hbY⟩
  have HI2 := Lib.hid hi2
  clear hi2
  refine hK.out _ _ (KA _ (Below.trans hh1.2.2.2.2.2.2.2.2.2 (Below.mono hbY (hh1.2.2.2.2.2.2.2.2.2).size))) (fun hh2 => ?_)
  clear hK K
  try simp only [Act.put, List.getElem_toArray, List.getElem_cons_succ, List.getElem_cons_zero, List.setIfInBounds_toArray, List.set_cons_zero, List.set_cons_succ]
  refine wpAnyH_ready (rs := [6]) (by as_aux_lemma => kernel_rfl) (by simp) ?_
  refine AllReadyH.cons rfl (fun K hK => ?_) AllReadyH.nil
  go_simp
  refine hK.out _ _ hh2 (fun hh3 => ?_)
  clear hK K
  try simp only [Act.put, List.getElem_toArray, List.getElem_cons_succ, List.getElem_cons_zero, List.setIfInBounds_toArray, List.set_cons_zero, List.set_cons_succ]
  refine wpAnyH_ready (rs := [7]) (by as_aux_lemma => kernel_rfl) (by simp) ?_
  refine AllReadyH.cons rfl (fun K hK => ?_) AllReadyH.nil
  go_simp
  refine hK.out _ _ hh3 (fun hh4 => ?_)
  clear hK K
  try simp only [Act.put, List.getElem_toArray, List.getElem_cons_succ, List.getElem_cons_zero, List.setIfInBounds_toArray, List.set_cons_zero, List.set_cons_succ]
  refine wpAnyH_done (by as_aux_lemma => kernel_rfl) ?_ _
  refine NoPanic.normal ?_
  have HBZ := Lib.hid (hh4.2.2.2.2.2.2.2.2.2)
  have J1 : Hid (IntsAt wY v1 xs) := HI1.out.below hbY
  have J2 : Hid (IntsAt wY v2 ys) := HI2.out
  have B1 := Lib.hid (HB.out.trans (HBZ.out.mono HB.out.size))
  clear KA
  obtain ⟨la1, a1, p1, rfl, lp1, _⟩ := id J1.out
  obtain ⟨la2, a2, p2, rfl, lp2, _⟩ := id J2.out
  have j1 := J1.out
  have j2 := J2.out
  rw [HL1.out] at j1
  rw [HL2.out] at j2
  have J3 := Lib.hid j1
  have J4 := Lib.hid j2
  clear j1 j2 HI1 HI2
  rw [HL1.out, HL2.out]
  clear c0 c1 c2 c3 c4 cl e0 e1 el f0 f1 fl
  go_wp2
  go_loopg [9, 10] l (fun g v9 i wr => ∃ (k q : Nat) (a4 : Option Addr) (c4 : Nat), g + k = l ∧ i = .int .i64 k ∧ v9 = .slice a4 q c4 ∧ Hid ((apTo xs ys k).length = q) ∧ Hid (wr.ownsRow wY.heap.size 3 1 (.slice a4 q c4) q ((apTo xs ys k).map (Value.int .i64))) ∧ Hid (Below wY.heap.size wY wr))
  case atStart => exact ⟨0, 0, none, 0, by omega, rfl, rfl, rfl, World.ownsRow_nil .., Below.refl _ _⟩
  case round =>
    obtain ⟨k, q, a4, c4, hk, rfl, rfl, HQ, HO, HL⟩ := hrel
    by_cases hkn : k < l
    · have kI : (k : Int) < (l : Int) := by omega
      have kz : (0 : Int) ≤ (k : Int) := by omega
      have I3 := J3.out.below HL.out
      have I4 := J4.out.below HL.out
      obtain ⟨b1, o1, rfl, d0⟩ := I3.get (show k < xs.length by rw [HL1.out]; exact hkn)
      obtain ⟨b2, o2, rfl, d1⟩ := I4.get (show k < ys.length by rw [HL2.out]; exact hkn)
      have g0 : xs[k]'(by rw [HL1.out]; exact hkn) = xs.getD k 0 := by simp [List.getD_eq_getElem?_getD, HL1.out, hkn]
      have g1 : ys[k]'(by rw [HL2.out]; exact hkn) = ys.getD k 0 := by simp [List.getD_eq_getElem?_getD, HL2.out, hkn]
      rw [g0] at d0
      rw [g1] at d1
      obtain ⟨B, hB⟩ : ∃ B, (xs.getD k 0 != ys.getD k 0) = B := ⟨_, rfl⟩
      have HBB := Lib.hid hB
      obtain ⟨x, hx⟩ : ∃ x, xs.getD k 0 = x := ⟨_, rfl⟩
      obtain ⟨y, hy⟩ : ∃ y, ys.getD k 0 = y := ⟨_, rfl⟩
      rw [hx] at d0 hB
      rw [hy] at d1 hB
      have dl1 := World.block_lt_of_cell? wr ⟨b1, o1 + k, none⟩ d0
      have dl2 := World.block_lt_of_cell? wr ⟨b2, o2 + k, none⟩ d1
      have hq8 : q ≤ k := by rw [← HQ.out]; exact apTo_len _ _ _
      clear I3 I4 g0 g1 hx hy
      go_upto_region 6 with fail
      go_quiet (fail)
      have hb5 : Below wr.heap.size wr (wr.drewN nq) := below_dn (Below.refl _ _) _
      have L5 := Lib.hid (HL.out.trans (hb5.mono HL.out.size))
      have O5 := Lib.hid (own_below HO.out hb5)
      clear hb5
      generalize wr.drewN nq = w5 at *
      clear d0 d1 dl1 dl2 HO HL
      cases B
      · have hno := apTo_no HBB.out
        have O6 : Hid (w5.ownsRow wY.heap.size 3 1 (.slice a4 q c4) q ((apTo xs ys (k + 1)).map (Value.int .i64))) := by show World.ownsRow ..; rw [hno]; exact O5.out
        have Q6 : Hid ((apTo xs ys (k + 1)).length = q) := by show _ = _; rw [hno]; exact HQ.out
        clear hno
        go_wp2_with fail
        go_roundg (gk - 1)
        case measure => omega
        case rel => exact ⟨k + 1, q, a4, c4, by omega, by go_num, rfl, Q6, O6, L5⟩
      · have HY := Lib.hid (apTo_yes HBB.out)
        have hba5 : Below w5.heap.size w5 (w5.alloc (Obj.cells #[.int .i64 (k : Int)] 3)) := by go_grown
        have HBA5 := Lib.hid hba5
        have hs6 : wY.heap.size ≤ (w5.alloc (Obj.cells #[.int .i64 (k : Int)] 3)).heap.size := by have := L5.out.size; have := hba5.size; omega
        clear hba5
        go_wp2_with (at_builtin; refine wpl_app1 rfl _ _ rfl wY.heap.size q _ _ w5.heap.size (k : Int) rfl rfl (own_below O5.out HBA5.out) (cellOf (heap_alloc_new w5 (Obj.cells #[.int .i64 (k : Int)] 3)) 0 _ rfl) (by omega) hs6 ?_)
        intro v' w6 hown6 hg6 _
        have L6 : Hid (Below wY.heap.size wY w6) := (L5.out.trans (HBA5.out.mono L5.out.size)).grown hg6 hs6 (fun g hg => (O5.out.lt g hg).1)
        obtain ⟨va, vc, rfl⟩ := own_slice hown6
        have O6 : Hid (w6.ownsRow wY.heap.size 3 1 (.slice va (q + 1) vc) (q + 1) ((apTo xs ys (k + 1)).map (Value.int .i64))) := by
          show World.ownsRow ..
          rw [HY.out, List.map_append]
          exact hown6
        have Q6 : Hid ((apTo xs ys (k + 1)).length = q + 1) := by show _ = _; rw [HY.out, List.length_append, HQ.out]; rfl
        clear hown6 hg6
        go_wp2_with fail
        go_roundg (gk - 1)
        case measure => omega
        case rel => exact ⟨k + 1, q + 1, va, vc, by omega, by go_num, rfl, Q6, O6, L6⟩
    · obtain rfl : k = l := by omega
      have kI : ¬ (k : Int) < (k : Int) := by omega
      have HI : Hid (IntsAt wr (.slice a4 q c4) (apTo xs ys k)) := by
        have hq8 : q ≤ k := by rw [← HQ.out]; exact apTo_len _ _ _
        refine intsAt_own (base := wY.heap.size) ?_ ?_
        · rw [HQ.out]; exact HO.out
        · rw [HQ.out]; omega
      clear hkn hk HO
      go_wp2_with fail
      go_ret
      exact ⟨_, rfl, HI.out, B1.out.trans (HL.out.mono B1.out.size)⟩
end Go.Proofs.Ythflbbjilebhlaa
namespace Go.Proofs.Ythflbbjilebhlaa
open Go Go.RowKit Go.Shelf Sc

theorem apartE_eq (c : Cse) (s t : Scl) : apartE c s t = if askE c s = 0 then sclE t else askE c s := by
  unfold apartE askE
  by_cases h1 : errC c = 0
  · have e0 : ¬ (errC c ≠ 0) := by simp [h1]
    rw [if_neg e0, if_neg e0]
    by_cases h2 : sclE s = 0
    · by_cases h3 : sclE t = 0 <;> simp [scsE, h2, h3]
    · simp only [scsE, h2, if_false]
  · rw [if_pos h1, if_pos h1, if_neg h1]
theorem apartE_zero {c : Cse} {s t : Scl} (h : apartE c s t = 0) : errC c = 0 ∧ sclE s = 0 ∧ sclE t = 0 := by
  rw [apartE_eq] at h
  split at h
  · rename_i h1
    have := askE_zero h1
    exact ⟨this.1, this.2, h⟩
  · rename_i h1
    exact absurd h h1
set_option maxRecDepth 100000 in
set_option maxHeartbeats 8000000 in
theorem rApart_any (c : Cse) (hv rv : Value) (s t : Scl) (w : World) (hC : CseAt w c hv rv) :
    Calls Try.prog 25 #[.agg #[.int .i64 c.kind, .int .i64 c.base, .int .i64 c.most, hv, rv], .agg #[.int .i64 s.1, .int .i64 s.2], .agg #[.int .i64 t.1, .int .i64 t.2]] w (IntsP (apartC c s t) (apartE c s t) w) := by
  unfold IntsP
  obtain ⟨ha, n, hc, rfl⟩ : ∃ a n c, hv = .slice a n c := by obtain ⟨_, a, cap, h, _⟩ := hC.hs; exact ⟨_, _, _, h⟩
  obtain ⟨ra, m, rc, rfl⟩ : ∃ a n c, rv = .slice a n c := by obtain ⟨_, a, cap, h, _⟩ := hC.rd; exact ⟨_, _, _, h⟩
  obtain ⟨kind, hkind⟩ : ∃ x, c.kind = x := ⟨_, rfl⟩
  obtain ⟨base, hbase⟩ : ∃ x, c.base = x := ⟨_, rfl⟩
  obtain ⟨most, hmost⟩ : ∃ x, c.most = x := ⟨_, rfl⟩
  obtain ⟨s1, s2⟩ := s
  obtain ⟨t1, t2⟩ := t
  simp only
  obtain ⟨W, hW, q1, q2, q3, hb, hsz⟩ := al3 w (Obj.cells #[.int .i64 kind, .int .i64 base, .int .i64 most, .slice ha n hc, .slice ra m rc] 25) (Obj.cells #[.int .i64 s1, .int .i64 s2] 27) (Obj.cells #[.int .i64 t1, .int .i64 t2] 27)
  have HC := Lib.hid (hC.below hb)
  have HW := Lib.hid hW
  have HB := Lib.hid hb
  have Q1 := Lib.hid q1
  have Q2 := Lib.hid q2
  have Q3 := Lib.hid q3
  have c0 := cellOf q1 0 (.int .i64 kind) rfl
  have c1 := cellOf q1 1 (.int .i64 base) rfl
  have c2 := cellOf q1 2 (.int .i64 most) rfl
  have c3 := cellOf q1 3 (.slice ha n hc) rfl
  have c4 := cellOf q1 4 (.slice ra m rc) rfl
  have cl := lt_of_block q1
  have e0 := cellOf q2 0 (.int .i64 s1) rfl
  have e1 := cellOf q2 1 (.int .i64 s2) rfl
  have el := lt_of_block q2
  have f0 := cellOf q3 0 (.int .i64 t1) rfl
  have f1 := cellOf q3 1 (.int .i64 t2) rfl
  have fl := lt_of_block q3
  have h1 := rasked_any c _ _ (s1, s2) W HC.out
  obtain ⟨a1, ha1⟩ : ∃ x, askE c (s1, s2) = x := ⟨_, rfl⟩
  rw [hkind, hbase, hmost, ha1] at h1
  have h2 := fun V => rScale_any (t1, t2) V
  obtain ⟨a2, ha2⟩ : ∃ x, sclE (t1, t2) = x := ⟨_, rfl⟩
  simp only [ha2] at h2
  have H1 := Lib.hid h1
  have H2 := Lib.hid h2
  have hae := apartE_eq c (s1, s2) (t1, t2)
  rw [ha1, ha2] at hae
  obtain ⟨R, hR⟩ : ∃ R, apartE c (s1, s2) (t1, t2) = R := ⟨_, rfl⟩
  rw [hR] at hae
  have HAE := Lib.hid hae
  have H3 : Hid (R = 0 → ∀ V, CseAt V c (.slice ha n hc) (.slice ra m rc) → Calls Try.prog 66 #[.agg #[.int .i64 kind, .int .i64 base, .int .i64 most, .slice ha n hc, .slice ra m rc], .agg #[.int .i64 s1, .int .i64 s2], .agg #[.int .i64 t1, .int .i64 t2]] V fun e w' => ∃ v, e = .returned v ∧ IntsAt w' v (apartC c (s1, s2) (t1, t2)) ∧ Below V.heap.size V w') := fun h V hCV => by
    have hz := apartE_zero (hR.trans h)
    have hs := sclE_zero hz.2.1
    have ht := sclE_zero hz.2.2
    have h2 := rDiffer_any c _ _ (s1, s2) (t1, t2) V hCV (valid_of hz.1) ⟨hs.1, hs.2.1, hs.2.2.1, hs.2.2.2.1⟩ ⟨ht.1, ht.2.1, ht.2.2.1, ht.2.2.2.1⟩
    rw [hkind, hbase, hmost] at h2
    exact h2
  rw [hR, hkind, hbase, hmost]
  generalize apartC c (s1, s2) (t1, t2) = L at *
  clear h1 h2 ha1 ha2 hae hR hkind hbase hmost hW hb hsz q1 q2 q3 hC
  go_enter Try.func25, Try.ntmps25
  go_upto_region 1 with fail
  rw [HW.out]
  go_wp2_with fail
  refine H1.out.mono ?_
  rintro e w1 ⟨rfl, hb⟩
  have B1 := Lib.hid (HB.out.trans (hb.mono HB.out.size))
  have K1 := Lib.hid ((hb.block _ (lt_of_block Q1.out)).trans Q1.out)
  have K2 := Lib.hid ((hb.block _ (lt_of_block Q2.out)).trans Q2.out)
  have K3 := Lib.hid ((hb.block _ (lt_of_block Q3.out)).trans Q3.out)
  have C1 := Lib.hid (HC.out.below hb)
  clear hb c0 c1 c2 c3 c4 cl e0 e1 el f0 f1 fl H1 HC HW Q1 Q2 Q3 HB
  by_cases h0 : a1 = 0
  · subst h0
    have hr := HAE.out
    rw [if_pos rfl] at hr
    subst hr
    have f0 := cellOf K3.out 0 (.int .i64 t1) rfl
    have f1 := cellOf K3.out 1 (.int .i64 t2) rfl
    have fl := lt_of_block K3.out
    go_wp2_with fail
    refine (H2.out _).mono ?_
    rintro e w2 ⟨rfl, hb⟩
    have B2 := Lib.hid (B1.out.trans (hb.mono B1.out.size))
    have J1 := Lib.hid ((hb.block _ (lt_of_block K1.out)).trans K1.out)
    have J2 := Lib.hid ((hb.block _ (lt_of_block K2.out)).trans K2.out)
    have J3 := Lib.hid ((hb.block _ (lt_of_block K3.out)).trans K3.out)
    have C2 := Lib.hid (C1.out.below hb)
    clear hb f0 f1 fl K1 K2 K3 C1 B1 H2
    by_cases h1 : R = 0
    · have HD := Lib.hid (H3.out h1)
      subst h1
      have c0 := cellOf J1.out 0 (.int .i64 kind) rfl
      have c1 := cellOf J1.out 1 (.int .i64 base) rfl
      have c2 := cellOf J1.out 2 (.int .i64 most) rfl
      have c3 := cellOf J1.out 3 (.slice ha n hc) rfl
      have c4 := cellOf J1.out 4 (.slice ra m rc) rfl
      have cl := lt_of_block J1.out
      have e0 := cellOf J2.out 0 (.int .i64 s1) rfl
      have e1 := cellOf J2.out 1 (.int .i64 s2) rfl
      have el := lt_of_block J2.out
      have f0 := cellOf J3.out 0 (.int .i64 t1) rfl
      have f1 := cellOf J3.out 1 (.int .i64 t2) rfl
      have fl := lt_of_block J3.out
      go_wp2_with fail
      refine (HD.out _ C2.out).mono ?_
      rintro e w3 ⟨v, rfl, hi, hb⟩
      have HI := Lib.hid hi
      have B3 := Lib.hid (B2.out.trans (hb.mono B2.out.size))
      clear hb hi
      go_wp2_with fail
      go_ret2
      exact ⟨_, rfl, by first | exact HI.out | (rw [if_pos rfl]; exact HI.out), B3.out⟩
    · have tz : (R != 0) = true := by simp [h1]
      go_wp2_with fail
      go_ret2
      exact ⟨_, rfl, by first | exact ints_nil _ | (rw [if_neg h1]; exact ints_nil _), B2.out⟩
  · have hr := HAE.out
    rw [if_neg h0] at hr
    subst hr
    have tz : (R != 0) = true := by simp [h0]
    have tq : (R == 0) = false := by simp [h0]
    go_wp2_with fail
    go_ret2
    exact ⟨_, rfl, by first | exact ints_nil _ | (rw [if_neg h0]; exact ints_nil _), B1.out⟩
end Go.Proofs.Ythflbbjilebhlaa
namespace Go.Proofs.Ythflbbjilebhlaa
open Go Go.RowKit Go.Shelf Sc

/-- By how much the falsest one of the first so many roads is false. -/
def worstTo (c : Cse) (s : Scl) (k : Nat) : Int := ((offsC c s).take k).foldl max 0
def worstC (c : Cse) (s : Scl) : Int := (offsC c s).foldl max 0
theorem worstTo_succ (c : Cse) (s : Scl) (k : Nat) (h : k < c.rds.length) : worstTo c s (k + 1) = max (worstTo c s k) (offR c s c.rds[k]) := by
  unfold worstTo
  rw [offsC_take c s k h, List.foldl_append]
  rfl
set_option maxRecDepth 100000 in
set_option maxHeartbeats 8000000 in
theorem rWorst_any (c : Cse) (hv rv : Value) (s : Scl) (w : World) (hC : CseAt w c hv rv) (hV : Valid c) (hs : 1 ≤ s.1 ∧ s.1 ≤ 30 ∧ 1 ≤ s.2 ∧ s.2 ≤ 30) :
    Calls Try.prog 70 #[.agg #[.int .i64 c.kind, .int .i64 c.base, .int .i64 c.most, hv, rv], .agg #[.int .i64 s.1, .int .i64 s.2]] w fun e w' => e = .returned (.int .i64 (worstC c s)) ∧ Below w.heap.size w w' := by
  obtain ⟨ha, n, hc, rfl⟩ : ∃ a n c, hv = .slice a n c := by obtain ⟨_, a, cap, h, _⟩ := hC.hs; exact ⟨_, _, _, h⟩
  obtain ⟨ra, m, rc, rfl⟩ : ∃ a n c, rv = .slice a n c := by obtain ⟨_, a, cap, h, _⟩ := hC.rd; exact ⟨_, _, _, h⟩
  obtain ⟨kind, hkind⟩ : ∃ x, c.kind = x := ⟨_, rfl⟩
  obtain ⟨base, hbase⟩ : ∃ x, c.base = x := ⟨_, rfl⟩
  obtain ⟨most, hmost⟩ : ∃ x, c.most = x := ⟨_, rfl⟩
  obtain ⟨u, d⟩ := s
  simp only
  obtain ⟨W, hW, q1, q2, hb, hsz⟩ := al2 w (Obj.cells #[.int .i64 kind, .int .i64 base, .int .i64 most, .slice ha n hc, .slice ra m rc] 25) (Obj.cells #[.int .i64 u, .int .i64 d] 27)
  have HC := Lib.hid (hC.below hb)
  have HW := Lib.hid hW
  have HB := Lib.hid hb
  have Q1 := Lib.hid q1
  have Q2 := Lib.hid q2
  have c0 := cellOf q1 0 (.int .i64 kind) rfl
  have c1 := cellOf q1 1 (.int .i64 base) rfl
  have c2 := cellOf q1 2 (.int .i64 most) rfl
  have c3 := cellOf q1 3 (.slice ha n hc) rfl
  have c4 := cellOf q1 4 (.slice ra m rc) rfl
  have cl := lt_of_block q1
  have e0 := cellOf q2 0 (.int .i64 u) rfl
  have e1 := cellOf q2 1 (.int .i64 d) rfl
  have el := lt_of_block q2
  obtain rfl : m = c.rds.length := by obtain ⟨_, a, cap, h, _⟩ := hC.rd; simp only [Value.slice.injEq] at h; exact h.2.1
  obtain ⟨m, hm⟩ : ∃ m, c.rds.length = m := ⟨_, rfl⟩
  have HM := Lib.hid hm
  have H2 : Hid (∀ V r, r ∈ c.rds → CseAt V c (.slice ha n hc) (.slice ra c.rds.length rc) → Calls Try.prog 60 #[.agg #[.int .i64 kind, .int .i64 base, .int .i64 most, .slice ha n hc, .slice ra c.rds.length rc], .agg #[.int .i64 r.1, .int .i64 r.2], .agg #[.int .i64 u, .int .i64 d]] V fun e w' => e = .returned (.int .i64 (offR c (u, d) r)) ∧ Below V.heap.size V w') := fun V r hr hV' => by
    have h2 := rOff_any c _ _ r (u, d) V hV' hV hs (by have q := hV.rd r hr; exact ⟨q.1, q.2.1, q.2.2.1, q.2.2.2.1⟩)
    rw [hkind, hbase, hmost] at h2
    exact h2
  have m8 : m ≤ 8 := by rw [← hm]; exact hV.r8
  have mI : (m : Int) ≤ 8 := by omega
  have hwc : worstTo c (u, d) m = worstC c (u, d) := by unfold worstTo worstC; rw [List.take_of_length_le (by simp [offsC, hm])]
  obtain ⟨R, hR⟩ : ∃ R, worstC c (u, d) = R := ⟨_, rfl⟩
  rw [hR] at hwc
  have HWC := Lib.hid hwc
  rw [hm] at HC H2 c4 Q1 HW
  rw [hR, hkind, hbase, hmost, hm]
  clear hR hwc hkind hbase hmost hW hb hsz q1 q2 hC hm hV hs
  go_enter Try.func70, Try.ntmps70
  go_upto_region 1 with fail
  rw [HW.out]
  clear c0 c1 c2 c3 c4 cl e0 e1 el
  go_wp2
  go_loopg [5, 6] m (fun gh v5 i wr => ∃ (k : Nat), gh + k = m ∧ i = .int .i64 (k : Int) ∧ v5 = .int .i64 (worstTo c (u, d) k) ∧ Hid (Below W.heap.size W wr))
  case atStart => exact ⟨0, by omega, rfl, rfl, Below.refl _ _⟩
  case round =>
    obtain ⟨k, hk, rfl, rfl, HL⟩ := hrel
    have G1 := (HL.out.block _ (lt_of_block Q1.out)).trans Q1.out
    have c4 := cellOf G1 4 (.slice ra m rc) rfl
    have cl := lt_of_block G1
    by_cases hlt : k < m
    · have kI : (k : Int) < (m : Int) := by omega
      have kz : (0 : Int) ≤ (k : Int) := by omega
      have hk' : k < c.rds.length := by rw [HM.out]; exact hlt
      obtain ⟨b, o, rfl, dW0, dW1⟩ := HC.out.rd.get hk'
      have hws := worstTo_succ c (u, d) k hk'
      have hcall := fun V hV => H2.out V c.rds[k] (List.getElem_mem hk') hV
      obtain ⟨⟨x1, x2⟩, hx⟩ : ∃ x, c.rds[k] = x := ⟨_, rfl⟩
      rw [hx] at dW0 dW1 hws
      simp only [hx] at hcall
      simp only at dW0 dW1
      obtain ⟨y, hy⟩ : ∃ y, offR c (u, d) (x1, x2) = y := ⟨_, rfl⟩
      rw [hy] at hws
      simp only [hy] at hcall
      obtain ⟨A, hA⟩ : ∃ A, worstTo c (u, d) k = A := ⟨_, rfl⟩
      rw [hA] at hws
      obtain ⟨M, hM⟩ : ∃ M, worstTo c (u, d) (k + 1) = M := ⟨_, rfl⟩
      have HMX : Hid (max A y = M) := by show _ = _; rw [← hM, hws]
      have HMM := Lib.hid hM
      rw [hA]
      have HOF : Hid (∀ V, Below W.heap.size W V → _) := fun V hV => hcall V (HC.out.below hV)
      have HALL : Hid (∀ V : World, Below W.heap.size W V → V.cell? ⟨w.heap.size, 0, none⟩ = some (.int .i64 kind) ∧ V.cell? ⟨w.heap.size, 1, none⟩ = some (.int .i64 base) ∧ V.cell? ⟨w.heap.size, 2, none⟩ = some (.int .i64 most) ∧ V.cell? ⟨w.heap.size, 3, none⟩ = some (.slice ha n hc) ∧ V.cell? ⟨w.heap.size, 4, none⟩ = some (.slice (some ⟨b, o, none⟩) m rc) ∧ V.cell? ⟨(w.heap.size + 1), 0, none⟩ = some (.int .i64 u) ∧ V.cell? ⟨(w.heap.size + 1), 1, none⟩ = some (.int .i64 d) ∧ V.cell? ⟨b, o + k * 2, none⟩ = some (.int .i64 x1) ∧ V.cell? ⟨b, o + k * 2 + 1, none⟩ = some (.int .i64 x2) ∧ Below W.heap.size W V) := fun V hV =>
        ⟨keepK (cellOf Q1.out 0 _ rfl) hV, keepK (cellOf Q1.out 1 _ rfl) hV, keepK (cellOf Q1.out 2 _ rfl) hV, keepK (cellOf Q1.out 3 _ rfl) hV, keepK (cellOf Q1.out 4 _ rfl) hV, keepK (cellOf Q2.out 0 _ rfl) hV, keepK (cellOf Q2.out 1 _ rfl) hV, keepK dW0 hV, keepK dW1 hV, hV⟩
      obtain ⟨c0, c1, c2, c3, _, e0, e1, d0, d1, _⟩ := HALL.out wr HL.out
      have el := World.block_lt_of_cell? wr ⟨w.heap.size + 1, 0, none⟩ e0
      have dl := World.block_lt_of_cell? wr ⟨b, o + k * 2, none⟩ d0
      clear G1 hk' hx hy hcall dW0 dW1 hws hM
      go_wp2_with fail
      refine wp_region_noPanic ?_
      refine wp_region_held_drew (S := (fun W' => W'.cell? ⟨w.heap.size, 0, none⟩ = some (.int .i64 kind) ∧ W'.cell? ⟨w.heap.size, 1, none⟩ = some (.int .i64 base) ∧ W'.cell? ⟨w.heap.size, 2, none⟩ = some (.int .i64 most) ∧ W'.cell? ⟨w.heap.size, 3, none⟩ = some (.slice ha n hc) ∧ W'.cell? ⟨w.heap.size, 4, none⟩ = some (.slice (some ⟨b, o, none⟩) m rc) ∧ W'.cell? ⟨(w.heap.size + 1), 0, none⟩ = some (.int .i64 u) ∧ W'.cell? ⟨(w.heap.size + 1), 1, none⟩ = some (.int .i64 d) ∧ W'.cell? ⟨b, o + k * 2, none⟩ = some (.int .i64 x1) ∧ W'.cell? ⟨b, o + k * 2 + 1, none⟩ = some (.int .i64 x2) ∧ Below W.heap.size W W')) (by kernel_rfl) ?_ (fun hh0 => ?_)
      · try dsimp only
        exact HALL.out _ HL.out.drew
      refine wpAnyH_take (i := 0) (v := ?_) rfl (by as_aux_lemma => kernel_rfl) (by as_aux_lemma => kernel_rfl) (by as_aux_lemma => kernel_rfl) (fun _ _ _ h => h) (Or.inl ⟨by rfl, ?_⟩) (by assumption) ?_
      rotate_left
      · intro w hSw
        try dsimp only at hSw
        go_simp
        try with_reducible rfl
      try simp only [Act.put, List.getElem_toArray, List.getElem_cons_succ, List.getElem_cons_zero, List.setIfInBounds_toArray, List.set_cons_zero, List.set_cons_succ]
      refine wpAnyH_take (i := 1) (v := ?_) rfl (by as_aux_lemma => kernel_rfl) (by as_aux_lemma => kernel_rfl) (by as_aux_lemma => kernel_rfl) (fun _ _ _ h => h) (Or.inl ⟨by rfl, ?_⟩) (by assumption) ?_
      rotate_left
      · intro w hSw
        try dsimp only at hSw
        go_simp
        try with_reducible rfl
      try simp only [Act.put, List.getElem_toArray, List.getElem_cons_succ, List.getElem_cons_zero, List.setIfInBounds_toArray, List.set_cons_zero, List.set_cons_succ]
      refine wpAnyH_take (i := 2) (v := ?_) rfl (by as_aux_lemma => kernel_rfl) (by as_aux_lemma => kernel_rfl) (by as_aux_lemma => kernel_rfl) (fun _ _ _ h => h) (Or.inl ⟨by rfl, ?_⟩) (by assumption) ?_
      rotate_left
      · intro w hSw
        try dsimp only at hSw
        go_simp
        try with_reducible rfl
      try simp only [Act.put, List.getElem_toArray, List.getElem_cons_succ, List.getElem_cons_zero, List.setIfInBounds_toArray, List.set_cons_zero, List.set_cons_succ]
      refine wpAnyH_take (i := 3) (v := ?_) rfl (by as_aux_lemma => kernel_rfl) (by as_aux_lemma => kernel_rfl) (by as_aux_lemma => kernel_rfl) (fun _ _ _ h => h) (Or.inl ⟨by rfl, ?_⟩) (by assumption) ?_
      rotate_left
      · intro w hSw
        try dsimp only at hSw
        go_simp
        try with_reducible rfl
      try simp only [Act.put, List.getElem_toArray, List.getElem_cons_succ, List.getElem_cons_zero, List.setIfInBounds_toArray, List.set_cons_zero, List.set_cons_succ]
      refine wpAnyH_take (i := 4) (v := ?_) rfl (by as_aux_lemma => kernel_rfl) (by as_aux_lemma => kernel_rfl) (by as_aux_lemma => kernel_rfl) (fun _ _ _ h => h) (Or.inl ⟨by rfl, ?_⟩) (by assumption) ?_
      rotate_left
      · intro w hSw
        try dsimp only at hSw
        go_simp
        try with_reducible rfl
      try simp only [Act.put, List.getElem_toArray, List.getElem_cons_succ, List.getElem_cons_zero, List.setIfInBounds_toArray, List.set_cons_zero, List.set_cons_succ]
      refine wpAnyH_take (i := 5) (v := ?_) rfl (by as_aux_lemma => kernel_rfl) (by as_aux_lemma => kernel_rfl) (by as_aux_lemma => kernel_rfl) (fun _ _ _ h => h) (Or.inl ⟨by rfl, ?_⟩) (by assumption) ?_
      rotate_left
      · intro w hSw
        try dsimp only at hSw
        go_simp
        try with_reducible rfl
      try simp only [Act.put, List.getElem_toArray, List.getElem_cons_succ, List.getElem_cons_zero, List.setIfInBounds_toArray, List.set_cons_zero, List.set_cons_succ]
      refine wpAnyH_take (i := 6) (v := ?_) rfl (by as_aux_lemma => kernel_rfl) (by as_aux_lemma => kernel_rfl) (by as_aux_lemma => kernel_rfl) (fun _ _ _ h => h) (Or.inl ⟨by rfl, ?_⟩) (by assumption) ?_
      rotate_left
      · intro w hSw
        try dsimp only at hSw
        go_simp
        try with_reducible rfl
      try simp only [Act.put, List.getElem_toArray, List.getElem_cons_succ, List.getElem_cons_zero, List.setIfInBounds_toArray, List.set_cons_zero, List.set_cons_succ]
      refine wpAnyH_take (i := 7) (v := ?_) rfl (by as_aux_lemma => kernel_rfl) (by as_aux_lemma => kernel_rfl) (by as_aux_lemma => kernel_rfl) (fun _ _ _ h => h) (Or.inl ⟨by rfl, ?_⟩) (by assumption) ?_
      rotate_left
      · intro w hSw
        try dsimp only at hSw
        go_simp
        try with_reducible rfl
      try simp only [Act.put, List.getElem_toArray, List.getElem_cons_succ, List.getElem_cons_zero, List.setIfInBounds_toArray, List.set_cons_zero, List.set_cons_succ]
      refine wpAnyH_ready (rs := [8]) (by as_aux_lemma => kernel_rfl) (by simp) ?_
      refine AllReadyH.cons rfl (fun K hK => ?_) AllReadyH.nil
      go_simp
      refine (HOF.out _ hh0.2.2.2.2.2.2.2.2.2).mono ?_
      rintro e w7 ⟨rfl, hb7⟩
      refine hK.out _ _ ?_ (fun hh1 => ?_)
      · try dsimp only
        exact HALL.out _ (hh0.2.2.2.2.2.2.2.2.2.trans ((hb7).mono hh0.2.2.2.2.2.2.2.2.2.size))
      clear hK K hh0
      try simp only [Act.put, List.getElem_toArray, List.getElem_cons_succ, List.getElem_cons_zero, List.setIfInBounds_toArray, List.set_cons_zero, List.set_cons_succ]
      refine wpAnyH_ready (rs := [9]) (by as_aux_lemma => kernel_rfl) (by simp) ?_
      refine AllReadyH.cons rfl (fun K hK => ?_) AllReadyH.nil
      go_simp
      refine hK.out _ _ ?_ (fun hh2 => ?_)
      · try dsimp only
        exact hh1
      clear hK K hh1
      try simp only [Act.put, List.getElem_toArray, List.getElem_cons_succ, List.getElem_cons_zero, List.setIfInBounds_toArray, List.set_cons_zero, List.set_cons_succ]
      refine wpAnyH_ready (rs := [10]) (by as_aux_lemma => kernel_rfl) (by simp) ?_
      refine AllReadyH.cons rfl (fun K hK => ?_) AllReadyH.nil
      go_simp
      refine hK.out _ _ ?_ (fun hh3 => ?_)
      · try dsimp only
        exact hh2
      clear hK K hh2
      try simp only [Act.put, List.getElem_toArray, List.getElem_cons_succ, List.getElem_cons_zero, List.setIfInBounds_toArray, List.set_cons_zero, List.set_cons_succ]
      refine wpAnyH_done (by as_aux_lemma => kernel_rfl) ?_ _
      refine NoPanic.normal ?_
      have HL8 := Lib.hid (hh3.2.2.2.2.2.2.2.2.2)
      clear c0 c1 c2 c3 c4 cl e0 e1 el d0 d1 dl
      go_wp2_with fail
      go_roundg (gk - 1)
      case measure => omega
      case rel => exact ⟨k + 1, by omega, by go_num, by rw [HMM.out, HMX.out], HL8⟩
    · obtain rfl : k = m := by omega
      have kI : ¬ (k : Int) < (k : Int) := by omega
      rw [HWC.out]
      have L5 := Lib.hid HL.out
      clear hlt hk
      go_wp2_with fail
      go_ret
      exact ⟨rfl, HB.out.trans (L5.out.mono HB.out.size)⟩
end Go.Proofs.Ythflbbjilebhlaa
namespace Go.Proofs.Ythflbbjilebhlaa
open Go Go.RowKit Go.Shelf Sc

theorem fitsB_at {c : Cse} {s : Scl} (k : Nat) (h : k < (cutsC c s).length) (hx : c.most < (cutsC c s)[k]) : fitsB c s = false := by
  unfold fitsB
  rw [List.all_eq_false]
  exact ⟨_, List.getElem_mem h, by simp; omega⟩
set_option maxRecDepth 100000 in
set_option maxHeartbeats 4000000 in
theorem rFits_any (c : Cse) (hv rv : Value) (s : Scl) (w : World) (hC : CseAt w c hv rv) (hV : Valid c) (hs : 1 ≤ s.1 ∧ s.1 ≤ 30 ∧ 1 ≤ s.2 ∧ s.2 ≤ 30) :
    Calls Try.prog 46 #[.agg #[.int .i64 c.kind, .int .i64 c.base, .int .i64 c.most, hv, rv], .agg #[.int .i64 s.1, .int .i64 s.2]] w fun e w' => e = .returned (.bool (fitsB c s)) ∧ Below w.heap.size w w' := by
  obtain ⟨ha, n, hc, rfl⟩ : ∃ a n c, hv = .slice a n c := by obtain ⟨_, a, cap, h, _⟩ := hC.hs; exact ⟨_, _, _, h⟩
  obtain ⟨ra, m, rc, rfl⟩ : ∃ a n c, rv = .slice a n c := by obtain ⟨_, a, cap, h, _⟩ := hC.rd; exact ⟨_, _, _, h⟩
  obtain ⟨kind, hkind⟩ : ∃ x, c.kind = x := ⟨_, rfl⟩
  obtain ⟨base, hbase⟩ : ∃ x, c.base = x := ⟨_, rfl⟩
  obtain ⟨most, hmost⟩ : ∃ x, c.most = x := ⟨_, rfl⟩
  obtain ⟨u, d⟩ := s
  simp only
  obtain ⟨W, hW, q1, q2, hb, hsz⟩ := al2 w (Obj.cells #[.int .i64 kind, .int .i64 base, .int .i64 most, .slice ha n hc, .slice ra m rc] 25) (Obj.cells #[.int .i64 u, .int .i64 d] 27)
  have HC := Lib.hid (hC.below hb)
  have HW := Lib.hid hW
  have HB := Lib.hid hb
  have Q1 := Lib.hid q1
  have Q2 := Lib.hid q2
  have c0 := cellOf q1 0 (.int .i64 kind) rfl
  have c1 := cellOf q1 1 (.int .i64 base) rfl
  have c2 := cellOf q1 2 (.int .i64 most) rfl
  have c3 := cellOf q1 3 (.slice ha n hc) rfl
  have c4 := cellOf q1 4 (.slice ra m rc) rfl
  have cl := lt_of_block q1
  have e0 := cellOf q2 0 (.int .i64 u) rfl
  have e1 := cellOf q2 1 (.int .i64 d) rfl
  have el := lt_of_block q2
  have h1 := rAll_any c _ _ (u, d) W HC.out hV hs
  have hn : (cutsC c (u, d)).length ≤ 8 := by rw [show (cutsC c (u, d)).length = c.hs.length by simp [cutsC]]; exact hV.n8
  obtain ⟨R, hR⟩ : ∃ R, fitsB c (u, d) = R := ⟨_, rfl⟩
  rw [hkind, hbase, hmost] at h1
  rw [hR, hkind, hbase, hmost]
  have HAT : Hid (∀ k, (h : k < (cutsC c (u, d)).length) → most < (cutsC c (u, d))[k] → R = false) := fun k h hx => by rw [← hR]; exact fitsB_at k h (by rw [hmost]; exact hx)
  have HALL : Hid ((∀ x, x ∈ cutsC c (u, d) → x ≤ most) → R = true) := fun h => by
    rw [← hR]
    unfold fitsB
    rw [List.all_eq_true]
    intro x hx
    rw [hmost]
    exact decide_eq_true (h x hx)
  generalize cutsC c (u, d) = l at *
  have H1 := Lib.hid h1
  obtain ⟨n', hl⟩ : ∃ n', l.length = n' := ⟨_, rfl⟩
  have HL := Lib.hid hl
  rw [hl] at hn
  have nI : (n' : Int) ≤ 8 := by omega
  clear h1 hR hkind hbase hmost hW hb hsz q1 q2 hC hV hs hl
  go_enter Try.func46, Try.ntmps46
  go_upto_region 1 with fail
  rw [HW.out]
  go_wp2_with fail
  refine H1.out.mono ?_
  rintro e w1 ⟨v, rfl, _, hi, hb⟩
  have B1 := Lib.hid (HB.out.trans (hb.mono HB.out.size))
  have K1 := Lib.hid ((hb.block _ (lt_of_block Q1.out)).trans Q1.out)
  have HI := Lib.hid hi
  obtain ⟨la, va, vc, rfl, lvc, _⟩ := id hi
  rw [HL.out] at la lvc ⊢
  rw [HL.out] at HI
  clear hb hi c0 c1 c2 c3 c4 cl e0 e1 el H1 HC HW Q1 Q2 HB
  go_wp2
  go_loopg [6] n' (fun gh i wr => ∃ (k : Nat), gh + k = n' ∧ i = .int .i64 (k : Int) ∧ Hid (∀ x, x ∈ l.take k → x ≤ most) ∧ Hid (Below w1.heap.size w1 wr))
  case atStart => exact ⟨0, by omega, rfl, fun x hx => by simp at hx, Below.refl _ _⟩
  case round =>
    obtain ⟨k, hk, rfl, HA, HL2⟩ := hrel
    by_cases hlt : k < n'
    · have kI : (k : Int) < (n' : Int) := by omega
      have kz : (0 : Int) ≤ (k : Int) := by omega
      have hk' : k < l.length := by rw [HL.out]; exact hlt
      have hI2 : IntsAt wr (.slice va n' vc) l := HI.out.below HL2.out
      obtain ⟨b, o, rfl, d0⟩ := hI2.get hk'
      have G1 := (HL2.out.block _ (lt_of_block K1.out)).trans K1.out
      have c2 := cellOf G1 2 (.int .i64 most) rfl
      have cl := lt_of_block G1
      have dl := World.block_lt_of_cell? wr ⟨b, o + k, none⟩ d0
      have HX := Lib.hid (HAT.out k hk')
      have HTK : Hid (l.take (k + 1) = l.take k ++ [l[k]]) := List.take_succ_eq_append_getElem hk'
      obtain ⟨x, hx⟩ : ∃ x, l[k] = x := ⟨_, rfl⟩
      rw [hx] at d0 HX HTK
      clear hI2 G1 hk' hx
      go_upto_region 5 with fail
      go_quiet (fail)
      have hb5 : Below wr.heap.size wr (wr.drewN nq) := below_dn (Below.refl _ _) _
      have L5 := Lib.hid (HL2.out.trans (hb5.mono HL2.out.size))
      clear hb5
      generalize wr.drewN nq = w5 at *
      clear c2 cl d0 dl
      by_cases hx : most < x
      · have hr := HX.out hx
        subst hr
        go_wp2_with fail
        go_ret
        exact ⟨rfl, B1.out.trans (L5.out.mono B1.out.size)⟩
      · have HA2 : Hid (∀ y, y ∈ l.take (k + 1) → y ≤ most) := fun y hy => by
          rw [HTK.out] at hy
          rcases List.mem_append.1 hy with h | h
          · exact HA.out y h
          · simp at h; omega
        go_wp2_with fail
        go_roundg (gk - 1)
        case measure => omega
        case rel => exact ⟨k + 1, by omega, by go_num, HA2, L5⟩
    · obtain rfl : k = n' := by omega
      have kI : ¬ (k : Int) < (k : Int) := by omega
      have hr := HALL.out (fun x hx => HA.out x (by rw [List.take_of_length_le (by rw [HL.out]; exact Nat.le_refl _)]; exact hx))
      subst hr
      have L5 := Lib.hid HL2.out
      clear hlt hk
      go_wp2_with fail
      go_ret
      exact ⟨rfl, B1.out.trans (L5.out.mono B1.out.size)⟩
end Go.Proofs.Ythflbbjilebhlaa
namespace Go.Proofs.Ythflbbjilebhlaa
open Go Go.RowKit Go.Shelf Sc

theorem everyL_mem (s : Scl) : s ∈ everyL ↔ sclE s = 0 := by
  unfold everyL everyTo
  rw [List.mem_filter, List.mem_map]
  constructor
  · rintro ⟨⟨n, hn, rfl⟩, hc⟩
    have h9 := List.mem_range.1 hn
    have hc' : comB (evP n).1 (evP n).2 = false := by simpa using hc
    have b1 : 1 ≤ (evP n).1 ∧ (evP n).1 ≤ 30 := by unfold evP; simp only; omega
    have b2 : 1 ≤ (evP n).2 ∧ (evP n).2 ≤ 30 := by unfold evP; simp only; omega
    have i1 : inB 1 30 (evP n).1 = true := by unfold inB; simp [b1.1, b1.2]
    have i2 : inB 1 30 (evP n).2 = true := by unfold inB; simp [b2.1, b2.2]
    unfold sclE
    rw [i1, i2, hc']
    simp
  · intro h
    obtain ⟨a1, a2, a3, a4, a5⟩ := sclE_zero h
    obtain ⟨u, d⟩ := s
    simp only at a1 a2 a3 a4 a5
    refine ⟨⟨(u.toNat - 1) * 30 + (d.toNat - 1), List.mem_range.2 (by omega), ?_⟩, by simp [a5]⟩
    rw [evP_at _ _ (by omega)]
    simp only [Prod.mk.injEq]
    omega
/-- Every scale is in the list of all, and the other way round. -/
theorem everyL_asc (s : Scl) : s ∈ everyL ↔ s ∈ asc := by
  rw [everyL_mem]
  exact ⟨asc_all s, asc_ok s⟩
end Go.Proofs.Ythflbbjilebhlaa
namespace Go.Proofs.Ythflbbjilebhlaa
open Go Go.RowKit Go.Shelf Sc

/-- The first one of a list in its order that does is the best one, wherever the others come from. -/
theorem first_none {L E : List Scl} {P : Scl → Bool} (hm : ∀ s, s ∈ E ↔ s ∈ L) (h : ∀ s, s ∈ E → P s = false) : L.find? P = none :=
  List.find?_eq_none.2 fun s hs => by simp [h s ((hm s).2 hs)]
theorem first_best {L E : List Scl} {R : Scl → Scl → Bool} {P : Scl → Bool} (hm : ∀ s, s ∈ E ↔ s ∈ L) (hs : L.Pairwise fun a b => R a b = true) {s : Scl} (hE : s ∈ E) (hP : P s = true) (hb : ∀ t, t ∈ E → P t = true → R t s = false) : L.find? P = some s := by
  cases hf : L.find? P with
  | none => exact absurd hP (List.find?_eq_none.1 hf s ((hm s).1 hE))
  | some t =>
    obtain ⟨ht, l1, l2, rfl, ha⟩ := List.find?_eq_some_iff_append.1 hf
    have hsL := (hm s).1 hE
    rcases List.mem_append.1 hsL with h | h
    · have := ha s h; simp [hP] at this
    · rcases List.mem_cons.1 h with rfl | h
      · rfl
      · have h1 := (List.pairwise_append.1 hs).2.1
        have h2 := (List.pairwise_cons.1 h1).1 s h
        have h3 := hb t ((hm t).2 (by simp)) ht
        rw [h2] at h3
        cases h3
/-- The best one of those looked at so far; -1: there is none. -/
def BestI (R : Scl → Scl → Bool) (ok : Scl → Bool) (l : List Scl) (k : Nat) (z : Int) : Prop :=
  (z = -1 ∧ ∀ j, j < k → ok (l.getD j default) = false) ∨ ∃ b : Nat, z = (b : Int) ∧ b < k ∧ ok (l.getD b default) = true ∧ ∀ j, j < k → ok (l.getD j default) = true → R (l.getD j default) (l.getD b default) = false
theorem best_zero (R : Scl → Scl → Bool) (ok : Scl → Bool) (l : List Scl) : BestI R ok l 0 (-1) := .inl ⟨rfl, fun j hj => by omega⟩
theorem best_skip {R : Scl → Scl → Bool} {ok : Scl → Bool} {l : List Scl} {k : Nat} {z : Int} (h : BestI R ok l k z) (hn : ok (l.getD k default) = false) : BestI R ok l (k + 1) z := by
  rcases h with ⟨rfl, h⟩ | ⟨b, rfl, hb, ho, h⟩
  · refine .inl ⟨rfl, fun j hj => ?_⟩
    by_cases e : j = k
    · subst e; exact hn
    · exact h j (by omega)
  · refine .inr ⟨b, rfl, by omega, ho, fun j hj hok => ?_⟩
    by_cases e : j = k
    · subst e; rw [hn] at hok; cases hok
    · exact h j (by omega) hok
theorem best_worse {R : Scl → Scl → Bool} {ok : Scl → Bool} {l : List Scl} {k b : Nat} (h : BestI R ok l k (b : Int)) (hn : R (l.getD k default) (l.getD b default) = false) : BestI R ok l (k + 1) (b : Int) := by
  rcases h with ⟨e, _⟩ | ⟨b', e, hb, ho, h⟩
  · omega
  · obtain rfl : b = b' := by omega
    refine .inr ⟨b, rfl, by omega, ho, fun j hj hok => ?_⟩
    by_cases e : j = k
    · subst e; exact hn
    · exact h j (by omega) hok
theorem best_first {R : Scl → Scl → Bool} (hirr : ∀ s, R s s = false) {ok : Scl → Bool} {l : List Scl} {k : Nat} (h : BestI R ok l k (-1)) (hy : ok (l.getD k default) = true) : BestI R ok l (k + 1) (k : Int) := by
  rcases h with ⟨_, h⟩ | ⟨b', e, _⟩
  · refine .inr ⟨k, rfl, by omega, hy, fun j hj hok => ?_⟩
    by_cases e : j = k
    · subst e; exact hirr _
    · rw [h j (by omega)] at hok; cases hok
  · omega
theorem best_next {R : Scl → Scl → Bool} (hirr : ∀ s, R s s = false) {ok : Scl → Bool} {l : List Scl} (htr : ∀ i j k, i < l.length → j < l.length → k < l.length → R (l.getD i default) (l.getD j default) = true → R (l.getD j default) (l.getD k default) = true → R (l.getD i default) (l.getD k default) = true)
    {k b : Nat} (hk : k < l.length) (h : BestI R ok l k (b : Int)) (hb : R (l.getD k default) (l.getD b default) = true) (hy : ok (l.getD k default) = true) : BestI R ok l (k + 1) (k : Int) := by
  rcases h with ⟨e, _⟩ | ⟨b', e, hbk, ho, h⟩
  · omega
  · obtain rfl : b = b' := by omega
    refine .inr ⟨k, rfl, by omega, hy, fun j hj hok => ?_⟩
    by_cases e : j = k
    · subst e; exact hirr _
    · cases hr : R (l.getD j default) (l.getD k default) with
      | false => rfl
      | true =>
        have h1 := htr j k b (by omega) hk (by omega) hr hb
        rw [h j (by omega) hok] at h1
        cases h1
theorem lessS_irr (s : Scl) : lessS s s = false := by simp [lessS]
theorem lessS_tr {s t u : Scl} (hs : 1 ≤ s.1 ∧ 1 ≤ s.2) (ht : 1 ≤ t.1 ∧ 1 ≤ t.2) (hu : 1 ≤ u.1 ∧ 1 ≤ u.2) (h1 : lessS s t = true) (h2 : lessS t u = true) : lessS s u = true := by
  unfold lessS at *
  simp only [decide_eq_true_eq] at *
  have a1 := Int.mul_lt_mul_of_pos_right h1 (show 0 < u.2 by omega)
  have a2 := Int.mul_lt_mul_of_pos_right h2 (show 0 < s.2 by omega)
  have e1 : s.1 * t.2 * u.2 = s.1 * u.2 * t.2 := by rw [Int.mul_assoc, Int.mul_comm t.2, ← Int.mul_assoc]
  have e2 : t.1 * s.2 * u.2 = t.1 * u.2 * s.2 := by rw [Int.mul_assoc, Int.mul_comm s.2, ← Int.mul_assoc]
  have e3 : u.1 * t.2 * s.2 = u.1 * s.2 * t.2 := by rw [Int.mul_assoc, Int.mul_comm t.2, ← Int.mul_assoc]
  rw [e1, e2] at a1
  rw [e3] at a2
  exact Int.lt_of_mul_lt_mul_right (Int.lt_trans a1 a2) (by omega)
theorem foldmax_le (l : List Int) (n : Int) : ∀ a, l.foldl max a ≤ n ↔ a ≤ n ∧ ∀ x, x ∈ l → x ≤ n := by
  induction l with
  | nil => intro a; simp
  | cons x l ih =>
    intro a
    rw [List.foldl_cons, ih]
    constructor
    · rintro ⟨h1, h2⟩
      exact ⟨by omega, fun y hy => by rcases List.mem_cons.1 hy with rfl | hy; omega; exact h2 y hy⟩
    · rintro ⟨h1, h2⟩
      have := h2 x (by simp)
      exact ⟨by omega, fun y hy => h2 y (by simp [hy])⟩
theorem worst_ok (c : Cse) (s : Scl) (n : Int) (hn : 0 ≤ n) : decide (worstC c s ≤ n) = okB c n s := by
  have h := foldmax_le (offsC c s) n 0
  unfold worstC okB
  rw [Bool.eq_iff_iff, decide_eq_true_eq, List.all_eq_true]
  constructor
  · intro h1 r hr
    have := (h.1 h1).2 (offR c s r) (by unfold offsC; exact List.mem_map_of_mem hr)
    simpa using this
  · intro h1
    refine h.2 ⟨hn, fun x hx => ?_⟩
    unfold offsC at hx
    obtain ⟨r, hr, rfl⟩ := List.mem_map.1 hx
    simpa using h1 r hr
theorem flats_seen (c : Cse) (s : Scl) : ((flatsC c s).length = 0) ↔ seenB c s = true := by
  unfold flatsC flatsTo seenB
  simp only [List.length_map, List.length_eq_zero_iff, List.filter_eq_nil_iff, List.mem_range, Bool.not_eq_true', List.any_eq_false]
  constructor
  · intro h r hr
    obtain ⟨i, hi, rfl⟩ := List.getElem_of_mem hr
    have := h i hi
    simpa [List.getD_eq_getElem?_getD, hi] using this
  · intro h i hi
    simpa [List.getD_eq_getElem?_getD, hi] using h _ (List.getElem_mem hi)
theorem every_ne : 0 < everyL.length := List.length_pos_of_mem ((everyL_mem (1, 1)).2 (by decide))
theorem every_bd {k : Nat} (h : k < everyL.length) : 1 ≤ (everyL.getD k default).1 ∧ (everyL.getD k default).1 ≤ 30 ∧ 1 ≤ (everyL.getD k default).2 ∧ (everyL.getD k default).2 ≤ 30 := by
  have e : everyL.getD k default = everyL[k] := by simp [List.getD_eq_getElem?_getD, h]
  rw [e]
  have h := sclE_zero ((everyL_mem _).1 (List.getElem_mem h))
  exact ⟨h.1, h.2.1, h.2.2.1, h.2.2.2.1⟩
theorem every_tr (i j k : Nat) (hi : i < everyL.length) (hj : j < everyL.length) (hk : k < everyL.length) : lessS (everyL.getD i default) (everyL.getD j default) = true → lessS (everyL.getD j default) (everyL.getD k default) = true → lessS (everyL.getD i default) (everyL.getD k default) = true :=
  lessS_tr ⟨(every_bd hi).1, (every_bd hi).2.2.1⟩ ⟨(every_bd hj).1, (every_bd hj).2.2.1⟩ ⟨(every_bd hk).1, (every_bd hk).2.2.1⟩
theorem getD_mem {l : List Scl} {k : Nat} (h : k < l.length) : l.getD k default ∈ l := by
  have e : l.getD k default = l[k] := by simp [List.getD_eq_getElem?_getD, h]
  rw [e]; exact List.getElem_mem h
theorem desc_sorted : desc.Pairwise fun a b => lessS b a = true := by
  rw [desc_rev, List.pairwise_reverse]
  exact asc_sorted
/-- What is found of all scales is what Greatest answers. -/
theorem great_find {c : Cse} {n z : Int} (hn : 0 ≤ n) (h : BestI (fun t s => lessS s t) (fun s => fitsB c s && decide (worstC c s ≤ n)) everyL everyL.length z) :
    (z = -1 ∧ greatF c n = none) ∨ ∃ b : Nat, z = (b : Int) ∧ b < everyL.length ∧ greatF c n = some (everyL.getD b default) := by
  have hm : ∀ s, s ∈ everyL ↔ s ∈ desc := fun s => by rw [everyL_asc, desc_rev, List.mem_reverse]
  have hg : greatF c n = desc.find? (fun s => fitsB c s && decide (worstC c s ≤ n)) := by
    unfold greatF fitL
    rw [List.find?_filter]
    congr 1
    funext s
    rw [worst_ok c s n hn]
    cases fitsB c s <;> cases okB c n s <;> rfl
  rw [hg]
  rcases h with ⟨rfl, h⟩ | ⟨b, rfl, hb, ho, h⟩
  · refine .inl ⟨rfl, first_none hm fun s hs => ?_⟩
    obtain ⟨j, hj, rfl⟩ := List.getElem_of_mem hs
    have := h j hj
    simpa [List.getD_eq_getElem?_getD, hj] using this
  · refine .inr ⟨b, rfl, hb, first_best hm desc_sorted (getD_mem hb) ho fun t ht hok => ?_⟩
    obtain ⟨j, hj, rfl⟩ := List.getElem_of_mem ht
    have e : everyL.getD j default = everyL[j] := by simp [List.getD_eq_getElem?_getD, hj]
    have := h j hj
    rw [e] at this
    exact this hok
/-- And what Least answers. -/
theorem least_find {c : Cse} {z : Int} (h : BestI (fun t s => lessS t s) (fun s => fitsB c s && decide ((flatsC c s).length = 0)) everyL everyL.length z) :
    (z = -1 ∧ leastF c = none) ∨ ∃ b : Nat, z = (b : Int) ∧ b < everyL.length ∧ leastF c = some (everyL.getD b default) := by
  have hg : leastF c = asc.find? (fun s => fitsB c s && decide ((flatsC c s).length = 0)) := by
    unfold leastF fitL
    rw [List.find?_filter]
    congr 1
    funext s
    have h := flats_seen c s
    by_cases hx : (flatsC c s).length = 0
    · simp [hx, h.1 hx]
    · have e : seenB c s = false := by
        cases e : seenB c s
        · rfl
        · exact absurd (h.2 e) hx
      simp [hx, e]
  rw [hg]
  rcases h with ⟨rfl, h⟩ | ⟨b, rfl, hb, ho, h⟩
  · refine .inl ⟨rfl, first_none everyL_asc fun s hs => ?_⟩
    obtain ⟨j, hj, rfl⟩ := List.getElem_of_mem hs
    have := h j hj
    simpa [List.getD_eq_getElem?_getD, hj] using this
  · refine .inr ⟨b, rfl, hb, first_best everyL_asc asc_sorted (getD_mem hb) ho fun t ht hok => ?_⟩
    obtain ⟨j, hj, rfl⟩ := List.getElem_of_mem ht
    have e : everyL.getD j default = everyL[j] := by simp [List.getD_eq_getElem?_getD, hj]
    have := h j hj
    rw [e] at this
    exact this hok
/-- Where all scales lie. -/
theorem every_at {w : World} {base : Nat} {v : Value} (h : w.ownsRow base 27 2 v everyL.length (scsL everyL)) : ∃ b o c, v = .slice (some ⟨b, o, none⟩) everyL.length c ∧ ∀ V, Below w.heap.size w V → ∀ k, k < everyL.length → V.cell? ⟨b, o + k * 2, none⟩ = some (.int .i64 (everyL.getD k default).1) ∧ V.cell? ⟨b, o + k * 2 + 1, none⟩ = some (.int .i64 (everyL.getD k default).2) := by
  have hp : PairsAt w v everyL := pairs_own h (Nat.le_trans (everyTo_len 900) (by decide))
  obtain ⟨a, c, rfl⟩ := own_slice h
  have hne := every_ne
  obtain ⟨b, o, rfl, _⟩ := hp.get hne
  refine ⟨b, o, c, rfl, fun V hV k hk => ?_⟩
  obtain ⟨b', o', e, h0, h1⟩ := (hp.below hV).get hk
  simp only [Option.some.injEq, Addr.mk.injEq, and_true] at e
  obtain ⟨rfl, rfl⟩ := e
  have e2 : everyL.getD k default = everyL[k] := by simp [List.getD_eq_getElem?_getD, hk]
  rw [e2]
  exact ⟨h0, h1⟩
end Go.Proofs.Ythflbbjilebhlaa
