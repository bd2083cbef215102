/- Package scale: by how much a road is false. -/
import Derived.Test.YthflbbjilebhlaaUs
import Derived.Deep.RegionWith
set_option linter.unusedSimpArgs false
set_option linter.unusedVariables false
namespace Go.Proofs.Ythflbbjilebhlaa
open Go Go.RowKit Go.Shelf Sc

theorem mul_bd {u x : Int} (h0 : 1 ≤ u) (h1 : u ≤ 30) (B : Int) (hx : -B ≤ x ∧ x ≤ B) : -(30 * B) ≤ u * x ∧ u * x ≤ 30 * B := by
  have B0 : 0 ≤ B := by omega
  constructor
  · have : 0 ≤ (30 - u) * B := Int.mul_nonneg (by omega) B0
    have h2 : 0 ≤ u * (x + B) := Int.mul_nonneg (by omega) (by omega)
    have e1 : (30 - u) * B = 30 * B - u * B := by rw [Int.sub_mul]
    have e2 : u * (x + B) = u * x + u * B := by rw [Int.mul_add]
    omega
  · have : 0 ≤ (30 - u) * B := Int.mul_nonneg (by omega) B0
    have h2 : 0 ≤ u * (B - x) := Int.mul_nonneg (by omega) (by omega)
    have e1 : (30 - u) * B = 30 * B - u * B := by rw [Int.sub_mul]
    have e2 : u * (B - x) = u * B - u * x := by rw [Int.mul_sub]
    omega
theorem rn3 (n d : Int) : rndK 3 n d = (n + d - 1) / d := by unfold rndK; rw [if_neg (by omega), if_neg (by omega)]
set_option maxRecDepth 100000 in
set_option maxHeartbeats 8000000 in
theorem falseBy_any (c : Cse) (hv rv : Value) (s : Scl) (r : Int × Int) (w : World) (hC : CseAt w c hv rv) (hV : Valid c) (hs : 1 ≤ s.1 ∧ s.1 ≤ 30 ∧ 1 ≤ s.2 ∧ s.2 ≤ 30) (hr : RoadIn c r) :
    Calls Try.prog 59 #[.agg (mdC (mdP c hv rv s) (cut8 c s)), .agg #[.int .i64 r.1, .int .i64 r.2]] w fun e w' => e = .returned (.int .i64 (offR c s r)) ∧ Below w.heap.size w w' := by
  obtain ⟨ha, hn, hc, rfl⟩ : ∃ a n c, hv = .slice a n c := by obtain ⟨_, a, cap, h, _⟩ := hC.hs; exact ⟨_, _, _, h⟩
  obtain ⟨ra, rn, rc, rfl⟩ : ∃ a n c, rv = .slice a n c := by obtain ⟨_, a, cap, h, _⟩ := hC.rd; exact ⟨_, _, _, h⟩
  obtain ⟨kind, hkind⟩ : ∃ x, c.kind = x := ⟨_, rfl⟩
  obtain ⟨base, hbase⟩ : ∃ x, c.base = x := ⟨_, rfl⟩
  obtain ⟨most, hmost⟩ : ∃ x, c.most = x := ⟨_, rfl⟩
  obtain ⟨F, hF⟩ : ∃ F, rnF c.kind = F := ⟨_, rfl⟩
  obtain ⟨u, d⟩ := s
  obtain ⟨u1, u9, d1, d9⟩ := id hs
  have hs3 : 1 ≤ (u, d).1 ∧ (u, d).1 ≤ 30 ∧ 1 ≤ (u, d).2 := ⟨u1, u9, d1⟩
  simp only at u1 u9 d1 d9
  obtain ⟨x0, x1, x2, x3, x4, x5, x6, x7, hcs⟩ := list8 (cut8 c (u, d)) (cut8_len c _)
  have hmd : mdC (mdP c (.slice ha hn hc) (.slice ra rn rc) (u, d)) (cut8 c (u, d)) = #[.int .i64 kind, .int .i64 base, .int .i64 most, .slice ha hn hc, .slice ra rn rc, .int .i64 kind, .func (.func F) #[] #[], .int .i64 u, .int .i64 d, .int .i64 x0, .int .i64 x1, .int .i64 x2, .int .i64 x3, .int .i64 x4, .int .i64 x5, .int .i64 x6, .int .i64 x7] := by rw [hcs]; unfold mdP; rw [hF, hkind, hbase, hmost]; rfl
  obtain ⟨X, hX⟩ : ∃ X, at0 c.hs r.2 - at0 c.hs r.1 = X := ⟨_, rfl⟩
  obtain ⟨Z, hZ⟩ : ∃ Z, at0 (cut8 c (u, d)) r.2 - at0 (cut8 c (u, d)) r.1 = Z := ⟨_, rfl⟩
  obtain ⟨Y, hY⟩ : ∃ Y, u * X = Y := ⟨_, rfl⟩
  obtain ⟨V, hVV⟩ : ∃ V, d * Z = V := ⟨_, rfl⟩
  obtain ⟨O, hO⟩ : ∃ O, absZ (V - Y) = O := ⟨_, rfl⟩
  obtain ⟨A, hA⟩ : ∃ A, absZ Y = A := ⟨_, rfl⟩
  have hFL : offR c (u, d) r = if Y = 0 then 0 else (O * 1000 + A - 1) / A := by
    have e1 := cut8_at hV (u, d) _ hr.1 hr.2.1
    have e2 := cut8_at hV (u, d) _ hr.2.2.1 hr.2.2.2
    unfold offR
    rw [hX, ← e1, ← e2, hZ]
    simp only
    rw [hY, hVV, hO, hA]
  have bX := rise_bd hV r hr
  have bZ := risen_bd hV (u, d) hs3 r
  rw [hX] at bX
  rw [hZ] at bZ
  have bY := mul_bd u1 u9 9000 bX
  have bV := mul_bd d1 d9 270000 bZ
  rw [hY] at bY
  rw [hVV] at bV
  have bO : 0 ≤ O ∧ O ≤ 10000000 := by rw [← hO]; unfold absZ; omega
  have bA : 0 ≤ A ∧ A ≤ 1000000 ∧ (Y ≠ 0 → 1 ≤ A) := by rw [← hA]; unfold absZ; omega
  have hO3 : O * 1000 ≤ 10000000000 := by omega
  have hO0 : 0 ≤ O * 1000 := by omega
  have w1 : IntKind.i64.wrap (u * X) = Y := by rw [hY, IntKind.wrap_i64] <;> omega
  have w2 : IntKind.i64.wrap (d * Z) = V := by rw [hVV, IntKind.wrap_i64] <;> omega
  have w3 : IntKind.i64.wrap (V - Y) = V - Y := by rw [IntKind.wrap_i64] <;> omega
  have w4 : IntKind.i64.wrap (O * 1000) = O * 1000 := by rw [IntKind.wrap_i64] <;> omega
  have H2 : Hid (∀ W1, Calls Try.prog 95 #[.agg #[.int .i64 kind, .int .i64 base, .int .i64 most, .slice ha hn hc, .slice ra rn rc, .int .i64 kind, .func (.func F) #[] #[], .int .i64 u, .int .i64 d, .int .i64 x0, .int .i64 x1, .int .i64 x2, .int .i64 x3, .int .i64 x4, .int .i64 x5, .int .i64 x6, .int .i64 x7], .agg #[.int .i64 r.1, .int .i64 r.2]] W1 fun e w' => e = .returned (.int .i64 Z) ∧ Below W1.heap.size W1 w') := fun W1 => by
    have := risen_any (mdP c (.slice ha hn hc) (.slice ra rn rc) (u, d)) (cut8 c (u, d)) r W1 rfl (cut8_len c _) (cut8_bd hV _ hs3) rfl (hr.eight hV)
    rw [hZ, hmd] at this
    exact this
  have H1 : Hid (∀ W1, CseAt W1 c (.slice ha hn hc) (.slice ra rn rc) → Calls Try.prog 93 #[.agg #[.int .i64 kind, .int .i64 base, .int .i64 most, .slice ha hn hc, .slice ra rn rc, .int .i64 kind, .func (.func F) #[] #[]], .agg #[.int .i64 r.1, .int .i64 r.2]] W1 fun e w' => e = .returned (.int .i64 X) ∧ Below W1.heap.size W1 w') := fun W1 hC1 => by
    have := rise_any c _ _ r W1 hC1 hV hr
    unfold lkV lkC at this
    rw [hX, hF, hkind, hbase, hmost] at this
    exact this
  have H3 : Hid (∀ W1, Calls Try.prog 94 #[.int .i64 (V - Y)] W1 fun e w' => e = .returned (.int .i64 O) ∧ W1 = w') := fun W1 => by
    have := size_any (V - Y) W1 (by omega)
    rw [hO] at this
    exact this
  have H4 : Hid (∀ W1, Calls Try.prog 94 #[.int .i64 Y] W1 fun e w' => e = .returned (.int .i64 A) ∧ W1 = w') := fun W1 => by
    have := size_any Y W1 (by omega)
    rw [hA] at this
    exact this
  have H5 : Hid (Y ≠ 0 → ∀ W1, Calls Try.prog 114 #[.int .i64 (O * 1000), .int .i64 A] W1 fun e w' => e = .returned (.int .i64 ((O * 1000 + A - 1) / A)) ∧ W1 = w') := fun hy W1 => by
    have := round3.ok (O * 1000) A W1 (by omega) (by omega) (bA.2.2 hy) (by omega)
    rw [rn3] at this
    exact this
  obtain ⟨R, hR⟩ : ∃ R, offR c (u, d) r = R := ⟨_, rfl⟩
  rw [hR] at hFL
  have HR := Lib.hid hFL
  rw [hmd, hR]
  obtain ⟨W, hW, z1, z2, hb, hsz⟩ := al2 w (Obj.cells #[.int .i64 kind, .int .i64 base, .int .i64 most, .slice ha hn hc, .slice ra rn rc, .int .i64 kind, .func (.func F) #[] #[], .int .i64 u, .int .i64 d, .int .i64 x0, .int .i64 x1, .int .i64 x2, .int .i64 x3, .int .i64 x4, .int .i64 x5, .int .i64 x6, .int .i64 x7] 99) (Obj.cells #[.int .i64 r.1, .int .i64 r.2] 79)
  have HC := Lib.hid (hC.below hb)
  obtain ⟨r1, r2⟩ := r
  dsimp only at *
  have c0 := cellOf z1 0 (.int .i64 kind) rfl
  have c1 := cellOf z1 1 (.int .i64 base) rfl
  have c2 := cellOf z1 2 (.int .i64 most) rfl
  have c3 := cellOf z1 3 (.slice ha hn hc) rfl
  have c4 := cellOf z1 4 (.slice ra rn rc) rfl
  have c5 := cellOf z1 5 (.int .i64 kind) rfl
  have c6 := cellOf z1 6 (.func (.func F) #[] #[]) rfl
  have c7 := cellOf z1 7 (.int .i64 u) rfl
  have c8 := cellOf z1 8 (.int .i64 d) rfl
  have ml := lt_of_block z1
  have e0 := cellOf z2 0 (.int .i64 r1) rfl
  have e1 := cellOf z2 1 (.int .i64 r2) rfl
  have el := lt_of_block z2
  have HM := Lib.hid z1
  have HZ := Lib.hid z2
  have HW := Lib.hid hW
  have HB := Lib.hid hb
  have eg := round3.eg
  clear hb hW z1 z2 hC hV hr hs hs3 hX hZ hFL hR hkind hbase hmost hF hsz hcs hmd hO hA bX bZ bY bV bO bA hY hVV u1 u9 d1 d9
  go_enter Try.func59, Try.ntmps59
  go_upto_region 1 with fail
  rw [HW.out]
  have KA : ∀ W' : World, Below W.heap.size W W' → (W'.cell? ⟨w.heap.size, 0, none⟩ = some (.int .i64 kind) ∧ W'.cell? ⟨w.heap.size, 1, none⟩ = some (.int .i64 base) ∧ W'.cell? ⟨w.heap.size, 2, none⟩ = some (.int .i64 most) ∧ W'.cell? ⟨w.heap.size, 3, none⟩ = some (.slice ha hn hc) ∧ W'.cell? ⟨w.heap.size, 4, none⟩ = some (.slice ra rn rc) ∧ W'.cell? ⟨w.heap.size, 5, none⟩ = some (.int .i64 kind) ∧ W'.cell? ⟨w.heap.size, 6, none⟩ = some (.func (.func F) #[] #[]) ∧ W'.cell? ⟨w.heap.size, 7, none⟩ = some (.int .i64 u) ∧ W'.cell? ⟨w.heap.size, 8, none⟩ = some (.int .i64 d) ∧ W'.cell? ⟨(w.heap.size + 1), 0, none⟩ = some (.int .i64 r1) ∧ W'.cell? ⟨(w.heap.size + 1), 1, none⟩ = some (.int .i64 r2) ∧ Below W.heap.size W W') := fun W' hb => ⟨keepK c0 hb, keepK c1 hb, keepK c2 hb, keepK c3 hb, keepK c4 hb, keepK c5 hb, keepK c6 hb, keepK c7 hb, keepK c8 hb, keepK e0 hb, keepK e1 hb, hb⟩
  refine wp_region_noPanic ?_
  refine wp_region_held_drew (S := (fun W' => W'.cell? ⟨w.heap.size, 0, none⟩ = some (.int .i64 kind) ∧ W'.cell? ⟨w.heap.size, 1, none⟩ = some (.int .i64 base) ∧ W'.cell? ⟨w.heap.size, 2, none⟩ = some (.int .i64 most) ∧ W'.cell? ⟨w.heap.size, 3, none⟩ = some (.slice ha hn hc) ∧ W'.cell? ⟨w.heap.size, 4, none⟩ = some (.slice ra rn rc) ∧ W'.cell? ⟨w.heap.size, 5, none⟩ = some (.int .i64 kind) ∧ W'.cell? ⟨w.heap.size, 6, none⟩ = some (.func (.func F) #[] #[]) ∧ W'.cell? ⟨w.heap.size, 7, none⟩ = some (.int .i64 u) ∧ W'.cell? ⟨w.heap.size, 8, none⟩ = some (.int .i64 d) ∧ W'.cell? ⟨(w.heap.size + 1), 0, none⟩ = some (.int .i64 r1) ∧ W'.cell? ⟨(w.heap.size + 1), 1, none⟩ = some (.int .i64 r2) ∧ Below W.heap.size W W')) (by kernel_rfl) ?_ (fun hh0 => ?_)
  · exact KA _ (Below.refl _ _).drew
  refine wpAnyH_take (i := 0) (v := ?_) rfl (by as_aux_lemma => kernel_rfl) (by as_aux_lemma => kernel_rfl) (by as_aux_lemma => kernel_rfl) (fun _ _ _ h => h) (Or.inl ⟨by rfl, ?_⟩) (by assumption) ?_
  rotate_left
  · intro w hSw
    try dsimp only at hSw
    go_simp
    try with_reducible rfl
  try simp only [Act.put, List.getElem_toArray, List.getElem_cons_succ, List.getElem_cons_zero, List.setIfInBounds_toArray, List.set_cons_zero, List.set_cons_succ]
  refine wpAnyH_take (i := 1) (v := ?_) rfl (by as_aux_lemma => kernel_rfl) (by as_aux_lemma => kernel_rfl) (by as_aux_lemma => kernel_rfl) (fun _ _ _ h => h) (Or.inl ⟨by rfl, ?_⟩) (by assumption) ?_
  rotate_left
  · intro w hSw
    try dsimp only at hSw
    go_simp
    try with_reducible rfl
  try simp only [Act.put, List.getElem_toArray, List.getElem_cons_succ, List.getElem_cons_zero, List.setIfInBounds_toArray, List.set_cons_zero, List.set_cons_succ]
  refine wpAnyH_take (i := 2) (v := ?_) rfl (by as_aux_lemma => kernel_rfl) (by as_aux_lemma => kernel_rfl) (by as_aux_lemma => kernel_rfl) (fun _ _ _ h => h) (Or.inl ⟨by rfl, ?_⟩) (by assumption) ?_
  rotate_left
  · intro w hSw
    try dsimp only at hSw
    go_simp
    try with_reducible rfl
  try simp only [Act.put, List.getElem_toArray, List.getElem_cons_succ, List.getElem_cons_zero, List.setIfInBounds_toArray, List.set_cons_zero, List.set_cons_succ]
  refine wpAnyH_take (i := 3) (v := ?_) rfl (by as_aux_lemma => kernel_rfl) (by as_aux_lemma => kernel_rfl) (by as_aux_lemma => kernel_rfl) (fun _ _ _ h => h) (Or.inl ⟨by rfl, ?_⟩) (by assumption) ?_
  rotate_left
  · intro w hSw
    try dsimp only at hSw
    go_simp
    try with_reducible rfl
  try simp only [Act.put, List.getElem_toArray, List.getElem_cons_succ, List.getElem_cons_zero, List.setIfInBounds_toArray, List.set_cons_zero, List.set_cons_succ]
  refine wpAnyH_take (i := 4) (v := ?_) rfl (by as_aux_lemma => kernel_rfl) (by as_aux_lemma => kernel_rfl) (by as_aux_lemma => kernel_rfl) (fun _ _ _ h => h) (Or.inl ⟨by rfl, ?_⟩) (by assumption) ?_
  rotate_left
  · intro w hSw
    try dsimp only at hSw
    go_simp
    try with_reducible rfl
  try simp only [Act.put, List.getElem_toArray, List.getElem_cons_succ, List.getElem_cons_zero, List.setIfInBounds_toArray, List.set_cons_zero, List.set_cons_succ]
  refine wpAnyH_take (i := 5) (v := ?_) rfl (by as_aux_lemma => kernel_rfl) (by as_aux_lemma => kernel_rfl) (by as_aux_lemma => kernel_rfl) (fun _ _ _ h => h) (Or.inl ⟨by rfl, ?_⟩) (by assumption) ?_
  rotate_left
  · intro w hSw
    try dsimp only at hSw
    go_simp
    try with_reducible rfl
  try simp only [Act.put, List.getElem_toArray, List.getElem_cons_succ, List.getElem_cons_zero, List.setIfInBounds_toArray, List.set_cons_zero, List.set_cons_succ]
  refine wpAnyH_ready (rs := [6]) (by as_aux_lemma => kernel_rfl) (by simp) ?_
  refine AllReadyH.cons rfl (fun K hK => ?_) AllReadyH.nil
  go_simp
  refine (H1.out _ (HC.out.below hh0.2.2.2.2.2.2.2.2.2.2.2)).mono ?_
  rintro e v1 ⟨rfl, hbv⟩
  refine hK.out _ _ (KA _ (Below.trans hh0.2.2.2.2.2.2.2.2.2.2.2 (Below.mono hbv (hh0.2.2.2.2.2.2.2.2.2.2.2).size))) (fun hh1 => ?_)
  clear hK K
  try simp only [Act.put, List.getElem_toArray, List.getElem_cons_succ, List.getElem_cons_zero, List.setIfInBounds_toArray, List.set_cons_zero, List.set_cons_succ]
  refine wpAnyH_take (i := 7) (v := ?_) rfl (by as_aux_lemma => kernel_rfl) (by as_aux_lemma => kernel_rfl) (by as_aux_lemma => kernel_rfl) (fun _ _ _ h => h) (Or.inl ⟨by rfl, ?_⟩) (by assumption) ?_
  rotate_left
  · intro w hSw
    try dsimp only at hSw
    go_simp
    try with_reducible rfl
  try simp only [Act.put, List.getElem_toArray, List.getElem_cons_succ, List.getElem_cons_zero, List.setIfInBounds_toArray, List.set_cons_zero, List.set_cons_succ]
  refine wpAnyH_ready (rs := [8]) (by as_aux_lemma => kernel_rfl) (by simp) ?_
  refine AllReadyH.cons rfl (fun K hK => ?_) AllReadyH.nil
  go_simp
  refine hK.out _ _ hh1 (fun hh2 => ?_)
  clear hK K
  try simp only [Act.put, List.getElem_toArray, List.getElem_cons_succ, List.getElem_cons_zero, List.setIfInBounds_toArray, List.set_cons_zero, List.set_cons_succ]
  refine wpAnyH_done (by as_aux_lemma => kernel_rfl) ?_ _
  refine NoPanic.normal ?_
  have HBZ := Lib.hid (hh2.2.2.2.2.2.2.2.2.2.2.2)
  have B1 := Lib.hid (HB.out.trans (HBZ.out.mono HB.out.size))
  have M1 := Lib.hid ((HBZ.out.block _ (lt_of_block HM.out)).trans HM.out)
  have Z1 := Lib.hid ((HBZ.out.block _ (lt_of_block HZ.out)).trans HZ.out)
  clear c0 c1 c2 c3 c4 c5 c6 c7 c8 ml e0 e1 el HM HZ HC HB HBZ KA hbv
  cases hy : Y == 0
  · have hy0 : Y ≠ 0 := by simpa using hy
    have hr0 := HR.out
    rw [if_neg hy0] at hr0
    go_upto_region 4 with fail
    have c0 := cellOf M1.out 0 (.int .i64 kind) rfl
    have c1 := cellOf M1.out 1 (.int .i64 base) rfl
    have c2 := cellOf M1.out 2 (.int .i64 most) rfl
    have c3 := cellOf M1.out 3 (.slice ha hn hc) rfl
    have c4 := cellOf M1.out 4 (.slice ra rn rc) rfl
    have c5 := cellOf M1.out 5 (.int .i64 kind) rfl
    have c6 := cellOf M1.out 6 (.func (.func F) #[] #[]) rfl
    have c7 := cellOf M1.out 7 (.int .i64 u) rfl
    have c8 := cellOf M1.out 8 (.int .i64 d) rfl
    have c9 := cellOf M1.out 9 (.int .i64 x0) rfl
    have c10 := cellOf M1.out 10 (.int .i64 x1) rfl
    have c11 := cellOf M1.out 11 (.int .i64 x2) rfl
    have c12 := cellOf M1.out 12 (.int .i64 x3) rfl
    have c13 := cellOf M1.out 13 (.int .i64 x4) rfl
    have c14 := cellOf M1.out 14 (.int .i64 x5) rfl
    have c15 := cellOf M1.out 15 (.int .i64 x6) rfl
    have c16 := cellOf M1.out 16 (.int .i64 x7) rfl
    have ml := lt_of_block M1.out
    have e0 := cellOf Z1.out 0 (.int .i64 r1) rfl
    have e1 := cellOf Z1.out 1 (.int .i64 r2) rfl
    have el := lt_of_block Z1.out
    have KA : ∀ W' : World, Below v1.heap.size v1 W' → (W'.cell? ⟨w.heap.size, 0, none⟩ = some (.int .i64 kind) ∧ W'.cell? ⟨w.heap.size, 1, none⟩ = some (.int .i64 base) ∧ W'.cell? ⟨w.heap.size, 2, none⟩ = some (.int .i64 most) ∧ W'.cell? ⟨w.heap.size, 3, none⟩ = some (.slice ha hn hc) ∧ W'.cell? ⟨w.heap.size, 4, none⟩ = some (.slice ra rn rc) ∧ W'.cell? ⟨w.heap.size, 5, none⟩ = some (.int .i64 kind) ∧ W'.cell? ⟨w.heap.size, 6, none⟩ = some (.func (.func F) #[] #[]) ∧ W'.cell? ⟨w.heap.size, 7, none⟩ = some (.int .i64 u) ∧ W'.cell? ⟨w.heap.size, 8, none⟩ = some (.int .i64 d) ∧ W'.cell? ⟨w.heap.size, 9, none⟩ = some (.int .i64 x0) ∧ W'.cell? ⟨w.heap.size, 10, none⟩ = some (.int .i64 x1) ∧ W'.cell? ⟨w.heap.size, 11, none⟩ = some (.int .i64 x2) ∧ W'.cell? ⟨w.heap.size, 12, none⟩ = some (.int .i64 x3) ∧ W'.cell? ⟨w.heap.size, 13, none⟩ = some (.int .i64 x4) ∧ W'.cell? ⟨w.heap.size, 14, none⟩ = some (.int .i64 x5) ∧ W'.cell? ⟨w.heap.size, 15, none⟩ = some (.int .i64 x6) ∧ W'.cell? ⟨w.heap.size, 16, none⟩ = some (.int .i64 x7) ∧ W'.cell? ⟨(w.heap.size + 1), 0, none⟩ = some (.int .i64 r1) ∧ W'.cell? ⟨(w.heap.size + 1), 1, none⟩ = some (.int .i64 r2) ∧ Below v1.heap.size v1 W') := fun W' hb => ⟨keepK c0 hb, keepK c1 hb, keepK c2 hb, keepK c3 hb, keepK c4 hb, keepK c5 hb, keepK c6 hb, keepK c7 hb, keepK c8 hb, keepK c9 hb, keepK c10 hb, keepK c11 hb, keepK c12 hb, keepK c13 hb, keepK c14 hb, keepK c15 hb, keepK c16 hb, keepK e0 hb, keepK e1 hb, hb⟩
    refine wp_region_noPanic ?_
    refine wp_region_held_drew (S := (fun W' => W'.cell? ⟨w.heap.size, 0, none⟩ = some (.int .i64 kind) ∧ W'.cell? ⟨w.heap.size, 1, none⟩ = some (.int .i64 base) ∧ W'.cell? ⟨w.heap.size, 2, none⟩ = some (.int .i64 most) ∧ W'.cell? ⟨w.heap.size, 3, none⟩ = some (.slice ha hn hc) ∧ W'.cell? ⟨w.heap.size, 4, none⟩ = some (.slice ra rn rc) ∧ W'.cell? ⟨w.heap.size, 5, none⟩ = some (.int .i64 kind) ∧ W'.cell? ⟨w.heap.size, 6, none⟩ = some (.func (.func F) #[] #[]) ∧ W'.cell? ⟨w.heap.size, 7, none⟩ = some (.int .i64 u) ∧ W'.cell? ⟨w.heap.size, 8, none⟩ = some (.int .i64 d) ∧ W'.cell? ⟨w.heap.size, 9, none⟩ = some (.int .i64 x0) ∧ W'.cell? ⟨w.heap.size, 10, none⟩ = some (.int .i64 x1) ∧ W'.cell? ⟨w.heap.size, 11, none⟩ = some (.int .i64 x2) ∧ W'.cell? ⟨w.heap.size, 12, none⟩ = some (.int .i64 x3) ∧ W'.cell? ⟨w.heap.size, 13, none⟩ = some (.int .i64 x4) ∧ W'.cell? ⟨w.heap.size, 14, none⟩ = some (.int .i64 x5) ∧ W'.cell? ⟨w.heap.size, 15, none⟩ = some (.int .i64 x6) ∧ W'.cell? ⟨w.heap.size, 16, none⟩ = some (.int .i64 x7) ∧ W'.cell? ⟨(w.heap.size + 1), 0, none⟩ = some (.int .i64 r1) ∧ W'.cell? ⟨(w.heap.size + 1), 1, none⟩ = some (.int .i64 r2) ∧ Below v1.heap.size v1 W')) (by kernel_rfl) ?_ (fun hh20 => ?_)
    · exact KA _ (Below.refl _ _).drew
    refine wpAnyH_take (i := 0) (v := ?_) rfl (by as_aux_lemma => kernel_rfl) (by as_aux_lemma => kernel_rfl) (by as_aux_lemma => kernel_rfl) (fun _ _ _ h => h) (Or.inl ⟨by rfl, ?_⟩) (by assumption) ?_
    rotate_left
    · intro w hSw
      try dsimp only at hSw
      go_simp
      try with_reducible rfl
    try simp only [Act.put, List.getElem_toArray, List.getElem_cons_succ, List.getElem_cons_zero, List.setIfInBounds_toArray, List.set_cons_zero, List.set_cons_succ]
    refine wpAnyH_take (i := 1) (v := ?_) rfl (by as_aux_lemma => kernel_rfl) (by as_aux_lemma => kernel_rfl) (by as_aux_lemma => kernel_rfl) (fun _ _ _ h => h) (Or.inl ⟨by rfl, ?_⟩) (by assumption) ?_
    rotate_left
    · intro w hSw
      try dsimp only at hSw
      go_simp
      try with_reducible rfl
    try simp only [Act.put, List.getElem_toArray, List.getElem_cons_succ, List.getElem_cons_zero, List.setIfInBounds_toArray, List.set_cons_zero, List.set_cons_succ]
    refine wpAnyH_take (i := 2) (v := ?_) rfl (by as_aux_lemma => kernel_rfl) (by as_aux_lemma => kernel_rfl) (by as_aux_lemma => kernel_rfl) (fun _ _ _ h => h) (Or.inl ⟨by rfl, ?_⟩) (by assumption) ?_
    rotate_left
    · intro w hSw
      try dsimp only at hSw
      go_simp
      try with_reducible rfl
    try simp only [Act.put, List.getElem_toArray, List.getElem_cons_succ, List.getElem_cons_zero, List.setIfInBounds_toArray, List.set_cons_zero, List.set_cons_succ]
    refine wpAnyH_take (i := 3) (v := ?_) rfl (by as_aux_lemma => kernel_rfl) (by as_aux_lemma => kernel_rfl) (by as_aux_lemma => kernel_rfl) (fun _ _ _ h => h) (Or.inl ⟨by rfl, ?_⟩) (by assumption) ?_
    rotate_left
    · intro w hSw
      try dsimp only at hSw
      go_simp
      try with_reducible rfl
    try simp only [Act.put, List.getElem_toArray, List.getElem_cons_succ, List.getElem_cons_zero, List.setIfInBounds_toArray, List.set_cons_zero, List.set_cons_succ]
    refine wpAnyH_take (i := 4) (v := ?_) rfl (by as_aux_lemma => kernel_rfl) (by as_aux_lemma => kernel_rfl) (by as_aux_lemma => kernel_rfl) (fun _ _ _ h => h) (Or.inl ⟨by rfl, ?_⟩) (by assumption) ?_
    rotate_left
    · intro w hSw
      try dsimp only at hSw
      go_simp
      try with_reducible rfl
    try simp only [Act.put, List.getElem_toArray, List.getElem_cons_succ, List.getElem_cons_zero, List.setIfInBounds_toArray, List.set_cons_zero, List.set_cons_succ]
    refine wpAnyH_take (i := 7) (v := ?_) rfl (by as_aux_lemma => kernel_rfl) (by as_aux_lemma => kernel_rfl) (by as_aux_lemma => kernel_rfl) (fun _ _ _ h => h) (Or.inl ⟨by rfl, ?_⟩) (by assumption) ?_
    rotate_left
    · intro w hSw
      try dsimp only at hSw
      go_simp
      try with_reducible rfl
    try simp only [Act.put, List.getElem_toArray, List.getElem_cons_succ, List.getElem_cons_zero, List.setIfInBounds_toArray, List.set_cons_zero, List.set_cons_succ]
    refine wpAnyH_ready (rs := [5]) (by as_aux_lemma => kernel_rfl) (by simp) ?_
    refine AllReadyH.cons rfl (fun K hK => ?_) AllReadyH.nil
    go_simp
    refine (H2.out _).mono ?_
    rintro e v2 ⟨rfl, hbv⟩
    refine hK.out _ _ (KA _ (Below.trans hh20.2.2.2.2.2.2.2.2.2.2.2.2.2.2.2.2.2.2.2 (Below.mono hbv (hh20.2.2.2.2.2.2.2.2.2.2.2.2.2.2.2.2.2.2.2).size))) (fun hh21 => ?_)
    clear hK K
    try simp only [Act.put, List.getElem_toArray, List.getElem_cons_succ, List.getElem_cons_zero, List.setIfInBounds_toArray, List.set_cons_zero, List.set_cons_succ]
    refine wpAnyH_take (i := 6) (v := ?_) rfl (by as_aux_lemma => kernel_rfl) (by as_aux_lemma => kernel_rfl) (by as_aux_lemma => kernel_rfl) (fun _ _ _ h => h) (Or.inl ⟨by rfl, ?_⟩) (by assumption) ?_
    rotate_left
    · intro w hSw
      try dsimp only at hSw
      go_simp
      try with_reducible rfl
    try simp only [Act.put, List.getElem_toArray, List.getElem_cons_succ, List.getElem_cons_zero, List.setIfInBounds_toArray, List.set_cons_zero, List.set_cons_succ]
    refine wpAnyH_take (i := 8) (v := ?_) rfl (by as_aux_lemma => kernel_rfl) (by as_aux_lemma => kernel_rfl) (by as_aux_lemma => kernel_rfl) (fun _ _ _ h => h) (Or.inl ⟨by rfl, ?_⟩) (by assumption) ?_
    rotate_left
    · intro w hSw
      try dsimp only at hSw
      go_simp
      try with_reducible rfl
    try simp only [Act.put, List.getElem_toArray, List.getElem_cons_succ, List.getElem_cons_zero, List.setIfInBounds_toArray, List.set_cons_zero, List.set_cons_succ]
    refine wpAnyH_ready (rs := [9]) (by as_aux_lemma => kernel_rfl) (by simp) ?_
    refine AllReadyH.cons rfl (fun K hK => ?_) AllReadyH.nil
    go_simp
    refine (H3.out _).mono ?_
    rintro e v3 ⟨rfl, rfl⟩
    refine hK.out _ _ (KA _ (Below.trans hh21.2.2.2.2.2.2.2.2.2.2.2.2.2.2.2.2.2.2.2 (Below.mono (Below.refl _ _) (hh21.2.2.2.2.2.2.2.2.2.2.2.2.2.2.2.2.2.2.2).size))) (fun hh22 => ?_)
    clear hK K
    try simp only [Act.put, List.getElem_toArray, List.getElem_cons_succ, List.getElem_cons_zero, List.setIfInBounds_toArray, List.set_cons_zero, List.set_cons_succ]
    refine wpAnyH_ready (rs := [10]) (by as_aux_lemma => kernel_rfl) (by simp) ?_
    refine AllReadyH.cons rfl (fun K hK => ?_) AllReadyH.nil
    go_simp
    refine hK.out _ _ hh22 (fun hh23 => ?_)
    clear hK K
    try simp only [Act.put, List.getElem_toArray, List.getElem_cons_succ, List.getElem_cons_zero, List.setIfInBounds_toArray, List.set_cons_zero, List.set_cons_succ]
    refine wpAnyH_done (by as_aux_lemma => kernel_rfl) ?_ _
    refine NoPanic.normal ?_
    have HBZ := Lib.hid (hh23.2.2.2.2.2.2.2.2.2.2.2.2.2.2.2.2.2.2.2)
    have B2 := Lib.hid (B1.out.trans (HBZ.out.mono B1.out.size))
    clear c0 c1 c2 c3 c4 c5 c6 c7 c8 c9 c10 c11 c12 c13 c14 c15 c16 ml e0 e1 el HBZ KA hbv
    go_upto_region 5 with fail
    go_region_with (first
      | (go_at_call 91; refine (roundings_any _).mono ?_; rintro e wr ⟨rfl, hwr⟩; have z5 : wr.cell? ⟨v2.heap.size, 5, none⟩ = some (.func (.func 114) #[] #[]) := by rw [← hwr]; exact cellOf (heap_alloc_new v2.drew (Obj.cells rnC 88)) 5 _ rfl)
      | (go_at_call 94; refine (H4.out _).mono ?_; rintro e wr2 ⟨rfl, rfl⟩)
      | (go_at_call 114; refine (H5.out hy0 _).mono ?_; rintro e wr3 ⟨rfl, rfl⟩))
    all_goals
      go_wp2_with fail
      go_ret
      exact ⟨congrArg (fun x => Ending.returned (.int .i64 x)) hr0.symm, by rw [← hwr]; exact (B2.out.drew).alloc B2.out.drew.size _⟩
  · have hy0 : Y = 0 := by simpa using hy
    have hr0 := HR.out
    rw [if_pos hy0] at hr0
    go_wp2_with fail
    go_ret
    exact ⟨congrArg (fun x => Ending.returned (.int .i64 x)) hr0.symm, B1.out⟩
end Go.Proofs.Ythflbbjilebhlaa
