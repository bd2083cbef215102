/- Package carve: what a step from a place needs. -/
import Derived.Test.YtnciomoapajonaaCwl
import Derived.Test.YtnciomoapajonaaCwb
import Derived.Test.YtnciomoapajonaaCvbb
set_option linter.unusedSimpArgs false
set_option linter.unusedVariables false
namespace Go.Proofs.Ytnciomoapajonaa
open Go Go.RowKit Go.Shelf Cv

theorem al_mid (w : World) (A B C : Obj) (nq : Nat) : Hid (((((w.alloc A).alloc B).alloc C).drewN nq).heap[w.heap.size + 1]? = some B) := by
  have h := heap_alloc_new (w.alloc A) B
  rw [show (w.alloc A).heap.size = w.heap.size + 1 by simp] at h
  exact (Below.heap_alloc _ C _ (lt_of_block h)).trans h
set_option maxRecDepth 100000 in
set_option maxHeartbeats 4000000 in
theorem step_at (st : Int) (pv bv : Value) (pts : List Pt) (i j : Nat) (g h : Int) (w : World) (hP : PtsAt w pv pts) (hj : j = i + 1) (hil : i < pts.length) (hjl : j < pts.length) (g0 : 0 ≤ g) (g9 : g ≤ 9000) (h0 : 0 ≤ h) (h9 : h ≤ 9000) (hok : ∀ p, p ∈ pts → PtOk p) :
    Calls Try.prog 92 #[.agg #[.int .i64 st, pv, bv], .agg #[.int .i64 (i : Int), .int .i64 g], .int .i64 h] w fun e w' => e = .returned (.agg #[.int .i64 (stepN (some ((pts[i]'hil), g)) (pts[j]'hjl) h).1, .int .i64 (stepN (some ((pts[i]'hil), g)) (pts[j]'hjl) h).2]) ∧ Below w.heap.size w w' := by
  obtain ⟨lp, pa, pc, rfl, _, _⟩ := id hP
  have HP0 := Lib.hid hP
  have HOK := Lib.hid hok
  have B0 := hok (pts[i]'hil) (List.getElem_mem _)
  have B1 := hok (pts[j]'hjl) (List.getElem_mem _)
  have bi0 := B0.b0
  have bi9 := B0.b9
  have bj0 := B1.b0
  have bj9 := B1.b9
  have HIL := Lib.hid hil
  have HJL := Lib.hid hjl
  have jI : (i : Int) + 1 = (j : Int) := by omega
  have inn : ¬ ((i : Int) = -1) := by omega
  have HGN : Hid (stepN (some ((pts[i]'hil), g)) (pts[j]'hjl) h = (max 0 (h - (pts[j]'hjl).bd), max 0 (max 0 ((pts[j]'hjl).bd - h) - max 0 ((pts[i]'hil).bd - g)))) := rfl
  rw [HGN.out]
  have jB : (j : Int) < 4611686018427387904 := by omega
  clear hP hok B0 B1 hj HGN
  obtain ⟨z, hz⟩ : ∃ z : Int, (i : Int) = z := ⟨_, rfl⟩
  have iI : z < 4611686018427387904 := by omega
  have i0 : 0 ≤ z := by omega
  have tn : (z != -1) = true := by simp; omega
  rw [hz] at jI ⊢
  have HZZ := Lib.hid hz
  clear hz inn
  go_enter Try.func92, Try.ntmps92
  go_wp2_with fail
  go_quiet (fail)
  have HB : Hid (Below w.heap.size w ((((w.alloc (Obj.cells #[.int .i64 st, .slice pa pts.length pc, bv] 78)).alloc (Obj.cells #[.int .i64 z, .int .i64 g] 123)).alloc (Obj.cells #[.int .i64 0, .int .i64 0] 104)).drewN nq)) := by
    show Below _ _ _
    have hB0 : Below w.heap.size w (((w.alloc (Obj.cells #[.int .i64 st, .slice pa pts.length pc, bv] 78)).alloc (Obj.cells #[.int .i64 z, .int .i64 g] 123)).alloc (Obj.cells #[.int .i64 0, .int .i64 0] 104)) := by go_grown
    exact hB0.trans ⟨rfl, rfl, rfl, Nat.le_refl _, fun _ _ => rfl⟩
  have HA : Hid (((((w.alloc (Obj.cells #[.int .i64 st, .slice pa pts.length pc, bv] 78)).alloc (Obj.cells #[.int .i64 z, .int .i64 g] 123)).alloc (Obj.cells #[.int .i64 0, .int .i64 0] 104)).drewN nq).heap[w.heap.size]? = some (Obj.cells #[.int .i64 st, .slice pa pts.length pc, bv] 78 (0, 0))) := al_first w _ _ _ nq
  have HM : Hid (((((w.alloc (Obj.cells #[.int .i64 st, .slice pa pts.length pc, bv] 78)).alloc (Obj.cells #[.int .i64 z, .int .i64 g] 123)).alloc (Obj.cells #[.int .i64 0, .int .i64 0] 104)).drewN nq).heap[w.heap.size + 1]? = some (Obj.cells #[.int .i64 z, .int .i64 g] 123 (0, 0))) := al_mid w _ _ _ nq
  have HZ : Hid (((((w.alloc (Obj.cells #[.int .i64 st, .slice pa pts.length pc, bv] 78)).alloc (Obj.cells #[.int .i64 z, .int .i64 g] 123)).alloc (Obj.cells #[.int .i64 0, .int .i64 0] 104)).drewN nq).heap[w.heap.size + 1 + 1]? = some (Obj.cells #[.int .i64 0, .int .i64 0] 104 (0, 0))) := al_last w _ _ _ nq
  generalize ((((w.alloc (Obj.cells #[.int .i64 st, .slice pa pts.length pc, bv] 78)).alloc (Obj.cells #[.int .i64 z, .int .i64 g] 123)).alloc (Obj.cells #[.int .i64 0, .int .i64 0] 104)).drewN nq) = W at *
  have p0 := cellOf HM.out 0 _ rfl
  have p1 := cellOf HM.out 1 _ rfl
  have a0 := cellOf HA.out 0 _ rfl
  have a1 := cellOf HA.out 1 _ rfl
  have HPW := Lib.hid (HP0.out.below HB.out)
  go_wp2_with fail
  have HCA := carved_any st (.slice pa pts.length pc) pts i g W HPW.out HIL.out g0 g9 HOK.out
  rw [HZZ.out] at HCA
  refine HCA.mono ?_
  clear HCA
  rintro e w3 ⟨rfl, hb⟩
  have HA3 := Lib.hid ((hb.block _ (lt_of_block HA.out)).trans HA.out)
  have HZ3 := Lib.hid ((hb.block _ (lt_of_block HZ.out)).trans HZ.out)
  have HB3 := Lib.hid (HB.out.trans (hb.mono HB.out.size))
  have HP3 := Lib.hid (HPW.out.below hb)
  clear hb p0 p1 a0 a1 HA HM HZ HB HPW
  have a0 := cellOf HA3.out 0 _ rfl
  have a1 := cellOf HA3.out 1 _ rfl
  have hAl := lt_of_block HA3.out
  have hZl := lt_of_block HZ3.out
  have HZ := HZ3
  have HF := Lib.hid (fun (w' : World) (hb : Below w3.heap.size w3 w') => filled_any st (.slice pa pts.length pc) pts j h w' (HP3.out.below hb) HJL.out h0 h9 HOK.out)
  have HC := Lib.hid (fun (w' : World) (hb : Below w3.heap.size w3 w') => carved_any st (.slice pa pts.length pc) pts j h w' (HP3.out.below hb) HJL.out h0 h9 HOK.out)
  have b00 : 0 ≤ max 0 ((pts[i]'hil).bd - g) := by omega
  have b09 : max 0 ((pts[i]'hil).bd - g) ≤ 9000 := by omega
  generalize hb0 : max 0 ((pts[i]'hil).bd - g) = b0 at *
  have HNB := Lib.hid hb0
  clear hb0
  have m0 : 0 ≤ max 0 ((pts[j]'hjl).bd - h) := by omega
  have m9 : max 0 ((pts[j]'hjl).bd - h) ≤ 9000 := by omega
  generalize hm : max 0 ((pts[j]'hjl).bd - h) = m at *
  have HNM := Lib.hid hm
  clear hm
  generalize hn : max 0 (h - (pts[j]'hjl).bd) = n at *
  have HNN := Lib.hid hn
  clear hn
  generalize hW : w3 = W at *
  clear hW
  go_wp2_with fail
  refine wp_region_noPanic ?_
  refine wp_region_last (S := (fun W' => W'.cell? ⟨w.heap.size, 0, none⟩ = some (.int .i64 st) ∧ W'.cell? ⟨w.heap.size, 1, none⟩ = some (.slice pa pts.length pc) ∧ Below W.heap.size W W')) 13 (by kernel_rfl) (by decide) (fun inv0 => ?_)
  have hh0 := keepS2 (W := W) ⟨a0, a1, Below.refl _ _⟩ (Below.refl W.heap.size W).drew
  refine wpAnyZ_take (i := 0) (v := ?_) rfl (Lib.hid ⟨by as_aux_lemma => kernel_rfl, by as_aux_lemma => kernel_rfl, by as_aux_lemma => kernel_rfl, rfl⟩) (by decide) inv0 (by as_aux_lemma => kernel_rfl) (by as_aux_lemma => kernel_rfl) (fun _ _ _ h => h) (Or.inl ⟨by rfl, ?_⟩) hh0 (fun inv1 => ?_)
  rotate_left
  · intro w hSw
    try dsimp only at hSw
    go_simp
    try with_reducible rfl
  clear inv0
  try simp only [Act.put, List.getElem_toArray, List.getElem_cons_succ, List.getElem_cons_zero, List.setIfInBounds_toArray, List.set_cons_zero, List.set_cons_succ]
  refine wpAnyZ_take (i := 1) (v := ?_) rfl (Lib.hid ⟨by as_aux_lemma => kernel_rfl, by as_aux_lemma => kernel_rfl, by as_aux_lemma => kernel_rfl, rfl⟩) (by decide) inv1 (by as_aux_lemma => kernel_rfl) (by as_aux_lemma => kernel_rfl) (fun _ _ _ h => h) (Or.inl ⟨by rfl, ?_⟩) hh0 (fun inv2 => ?_)
  rotate_left
  · intro w hSw
    try dsimp only at hSw
    go_simp
    try with_reducible rfl
  clear inv1
  try simp only [Act.put, List.getElem_toArray, List.getElem_cons_succ, List.getElem_cons_zero, List.setIfInBounds_toArray, List.set_cons_zero, List.set_cons_succ]
  refine wpAnyZ_take (i := 2) (v := ?_) rfl (Lib.hid ⟨by as_aux_lemma => kernel_rfl, by as_aux_lemma => kernel_rfl, by as_aux_lemma => kernel_rfl, rfl⟩) (by decide) inv2 (by as_aux_lemma => kernel_rfl) (by as_aux_lemma => kernel_rfl) (fun _ _ _ h => h) (Or.inl ⟨by rfl, ?_⟩) hh0 (fun inv3 => ?_)
  rotate_left
  · intro w hSw
    try dsimp only at hSw
    go_simp
    try with_reducible rfl
  clear inv2
  try simp only [Act.put, List.getElem_toArray, List.getElem_cons_succ, List.getElem_cons_zero, List.setIfInBounds_toArray, List.set_cons_zero, List.set_cons_succ]
  refine wpAnyZ_take (i := 3) (v := ?_) rfl (Lib.hid ⟨by as_aux_lemma => kernel_rfl, by as_aux_lemma => kernel_rfl, by as_aux_lemma => kernel_rfl, rfl⟩) (by decide) inv3 (by as_aux_lemma => kernel_rfl) (by as_aux_lemma => kernel_rfl) (fun _ _ _ h => h) (Or.inl ⟨by rfl, ?_⟩) hh0 (fun inv4 => ?_)
  rotate_left
  · intro w hSw
    try dsimp only at hSw
    go_simp
    try with_reducible rfl
  clear inv3
  try simp only [Act.put, List.getElem_toArray, List.getElem_cons_succ, List.getElem_cons_zero, List.setIfInBounds_toArray, List.set_cons_zero, List.set_cons_succ]
  refine wpAnyZ_take (i := 5) (v := ?_) rfl (Lib.hid ⟨by as_aux_lemma => kernel_rfl, by as_aux_lemma => kernel_rfl, by as_aux_lemma => kernel_rfl, rfl⟩) (by decide) inv4 (by as_aux_lemma => kernel_rfl) (by as_aux_lemma => kernel_rfl) (fun _ _ _ h => h) (Or.inl ⟨by rfl, ?_⟩) hh0 (fun inv5 => ?_)
  rotate_left
  · intro w hSw
    try dsimp only at hSw
    go_simp
    try with_reducible rfl
  clear inv4
  try simp only [Act.put, List.getElem_toArray, List.getElem_cons_succ, List.getElem_cons_zero, List.setIfInBounds_toArray, List.set_cons_zero, List.set_cons_succ]
  refine wpAnyZ_take (i := 6) (v := ?_) rfl (Lib.hid ⟨by as_aux_lemma => kernel_rfl, by as_aux_lemma => kernel_rfl, by as_aux_lemma => kernel_rfl, rfl⟩) (by decide) inv5 (by as_aux_lemma => kernel_rfl) (by as_aux_lemma => kernel_rfl) (fun _ _ _ h => h) (Or.inl ⟨by rfl, ?_⟩) hh0 (fun inv6 => ?_)
  rotate_left
  · intro w hSw
    try dsimp only at hSw
    go_simp
    try with_reducible rfl
  clear inv5
  try simp only [Act.put, List.getElem_toArray, List.getElem_cons_succ, List.getElem_cons_zero, List.setIfInBounds_toArray, List.set_cons_zero, List.set_cons_succ]
  refine wpAnyZ_take (i := 7) (v := ?_) rfl (Lib.hid ⟨by as_aux_lemma => kernel_rfl, by as_aux_lemma => kernel_rfl, by as_aux_lemma => kernel_rfl, rfl⟩) (by decide) inv6 (by as_aux_lemma => kernel_rfl) (by as_aux_lemma => kernel_rfl) (fun _ _ _ h => h) (Or.inl ⟨by rfl, ?_⟩) hh0 (fun inv7 => ?_)
  rotate_left
  · intro w hSw
    try dsimp only at hSw
    go_simp
    try with_reducible rfl
  clear inv6
  try simp only [Act.put, List.getElem_toArray, List.getElem_cons_succ, List.getElem_cons_zero, List.setIfInBounds_toArray, List.set_cons_zero, List.set_cons_succ]
  refine wpAnyZ_take (i := 8) (v := ?_) rfl (Lib.hid ⟨by as_aux_lemma => kernel_rfl, by as_aux_lemma => kernel_rfl, by as_aux_lemma => kernel_rfl, rfl⟩) (by decide) inv7 (by as_aux_lemma => kernel_rfl) (by as_aux_lemma => kernel_rfl) (fun _ _ _ h => h) (Or.inl ⟨by rfl, ?_⟩) hh0 (fun inv8 => ?_)
  rotate_left
  · intro w hSw
    try dsimp only at hSw
    go_simp
    try with_reducible rfl
  clear inv7
  try simp only [Act.put, List.getElem_toArray, List.getElem_cons_succ, List.getElem_cons_zero, List.setIfInBounds_toArray, List.set_cons_zero, List.set_cons_succ]
  refine wpAnyZ_take (i := 9) (v := ?_) rfl (Lib.hid ⟨by as_aux_lemma => kernel_rfl, by as_aux_lemma => kernel_rfl, by as_aux_lemma => kernel_rfl, rfl⟩) (by decide) inv8 (by as_aux_lemma => kernel_rfl) (by as_aux_lemma => kernel_rfl) (fun _ _ _ h => h) (Or.inl ⟨by rfl, ?_⟩) hh0 (fun inv9 => ?_)
  rotate_left
  · intro w hSw
    try dsimp only at hSw
    go_simp
    try with_reducible rfl
  clear inv8
  try simp only [Act.put, List.getElem_toArray, List.getElem_cons_succ, List.getElem_cons_zero, List.setIfInBounds_toArray, List.set_cons_zero, List.set_cons_succ]
  refine wpAnyZ_all (rs := [4]) (by as_aux_lemma => kernel_rfl) (by simp) ?_
  intro i hi
  obtain rfl : i = 4 := by simpa using hi
  refine step_Z rfl (fun K hK => ?_)
  go_simp
  refine (HF.out _ hh0.2.2).mono ?_
  rintro e w4 ⟨rfl, hb⟩
  have hh1 := keepS2 hh0 hb
  refine hK.out _ _ (fun _ => hh1) ?_
  have inv10 := hinv_set inv9 (by as_aux_lemma => kernel_rfl) (by decide : 4 < 13)
  clear hK K hh0 inv9
  try simp only [Act.put, List.getElem_toArray, List.getElem_cons_succ, List.getElem_cons_zero, List.setIfInBounds_toArray, List.set_cons_zero, List.set_cons_succ]
  refine wpAnyZ_all (rs := [10]) (by as_aux_lemma => kernel_rfl) (by simp) ?_
  intro i hi
  obtain rfl : i = 10 := by simpa using hi
  refine step_Z rfl (fun K hK => ?_)
  go_simp
  refine (HC.out _ hh1.2.2).mono ?_
  rintro e w5 ⟨rfl, hb⟩
  have hh2 := keepS2 hh1 hb
  refine hK.out _ _ (fun _ => hh2) ?_
  have inv11 := hinv_set inv10 (by as_aux_lemma => kernel_rfl) (by decide : 10 < 13)
  clear hK K hh1 inv10
  try simp only [Act.put, List.getElem_toArray, List.getElem_cons_succ, List.getElem_cons_zero, List.setIfInBounds_toArray, List.set_cons_zero, List.set_cons_succ]
  refine wpAnyZ_all (rs := [11]) (by as_aux_lemma => kernel_rfl) (by simp) ?_
  intro i hi
  obtain rfl : i = 11 := by simpa using hi
  refine step_Z rfl (fun K hK => ?_)
  go_simp
  refine (begun_any b0 m _ b00 (by omega) m0 (by omega)).mono ?_
  rintro e w6 ⟨rfl, rfl⟩
  have hh3 := hh2
  refine hK.out _ _ (fun _ => hh3) ?_
  have inv12 := hinv_set inv11 (by as_aux_lemma => kernel_rfl) (by decide : 11 < 13)
  clear hK K hh2 inv11
  try simp only [Act.put, List.getElem_toArray, List.getElem_cons_succ, List.getElem_cons_zero, List.setIfInBounds_toArray, List.set_cons_zero, List.set_cons_succ]
  refine wpAnyZ_take (i := 12) (v := ?_) rfl (Lib.hid ⟨by as_aux_lemma => kernel_rfl, by as_aux_lemma => kernel_rfl, by as_aux_lemma => kernel_rfl, rfl⟩) (by decide) inv12 (by as_aux_lemma => kernel_rfl) (by as_aux_lemma => kernel_rfl) (fun _ _ _ h => h) (Or.inl ⟨by rfl, ?_⟩) hh3 (fun inv13 => ?_)
  rotate_left
  · intro w hSw
    try dsimp only at hSw
    go_simp
    try with_reducible rfl
  clear inv12
  try simp only [Act.put, List.getElem_toArray, List.getElem_cons_succ, List.getElem_cons_zero, List.setIfInBounds_toArray, List.set_cons_zero, List.set_cons_succ]
  refine wpAnyZ_all (rs := [13]) (by as_aux_lemma => kernel_rfl) (by simp) ?_
  intro i hi
  obtain rfl : i = 13 := by simpa using hi
  refine step_Z rfl (fun K hK => ?_)
  have B6 := hh3.2.2
  have jZ := Lib.hid ((B6.block _ (lt_of_block HZ.out)).trans HZ.out)
  have f1 := frozen_of_row _ _ 0 _ _ jZ.out
  have f2 := frozen_of_row _ _ 1 _ _ jZ.out
  have k1 := cellOf jZ.out 0 _ rfl
  have k2 := cellOf jZ.out 1 _ rfl
  have u1 := lt_of_block jZ.out
  go_simp
  refine hK.out _ _ (fun h => absurd rfl h) ?_
  clear hK K
  try simp only [Act.put, List.getElem_toArray, List.getElem_cons_succ, List.getElem_cons_zero, List.setIfInBounds_toArray, List.set_cons_zero, List.set_cons_succ]
  refine wpAnyZ_done (by as_aux_lemma => kernel_rfl) ?_ _
  refine NoPanic.normal ?_
  have B6 := hh3.2.2
  have jZ := Lib.hid ((B6.block _ (lt_of_block HZ.out)).trans HZ.out)
  have jB := Lib.hid (HB3.out.trans (B6.mono HB3.out.size))
  clear B6 hh3 a0 a1 HF HC
  go_wp2_with fail
  exact bodyPost_ret (need_result rfl _ _ (w.heap.size + 1 + 1) _ _ rfl (two_set jZ.out)) rfl ⟨by rw [← HNN.out, ← HNM.out, ← HNB.out], two_below jB.out (by omega)⟩
end Go.Proofs.Ytnciomoapajonaa
