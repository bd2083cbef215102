/- Package scale: does a model fit on the board; is it excluded by a mark. -/
import Derived.Test.YthflbbjilebhlaaUs
import Derived.Test.YthflbbjilebhlaaShelf
set_option linter.unusedSimpArgs false
set_option linter.unusedVariables false
namespace Go.Proofs.Ythflbbjilebhlaa
open Go Go.RowKit Go.Shelf Sc

theorem foldl_max_le (l : List Int) : ∀ a m : Int, l.foldl max a ≤ m ↔ a ≤ m ∧ ∀ x, x ∈ l → x ≤ m := by
  induction l with
  | nil => intro a m; simp
  | cons x l ih =>
    intro a m
    rw [List.foldl_cons, ih, Int.max_le]
    simp only [List.mem_cons, forall_eq_or_imp]
    exact and_assoc
theorem maxOf_le (l : List Int) (h : l ≠ []) (m : Int) : Lib.maxOf l ≤ m ↔ ∀ x, x ∈ l → x ≤ m := by
  unfold Lib.maxOf
  rw [foldl_max_le]
  cases l with
  | nil => exact absurd rfl h
  | cons x l => simp
theorem fits_iff {c : Cse} (hV : Valid c) (s : Scl) : (Lib.maxOf (cut8 c s) ≤ c.most) ↔ fitsB c s = true := by
  rw [maxOf_le _ (by intro h; have := cut8_len c s; rw [h] at this; simp at this)]
  unfold fitsB
  rw [List.all_eq_true]
  constructor
  · intro h x hx
    obtain ⟨i, hi, rfl⟩ := List.getElem_of_mem hx
    have hi' : i < c.hs.length := by simpa [cutsC] using hi
    have := h ((cut8 c s).getD i 0) (by
      have : i < (cut8 c s).length := by rw [cut8_len]; have := hV.n8; omega
      rw [List.getD_eq_getElem?_getD, List.getElem?_eq_getElem this, Option.getD_some]
      exact List.getElem_mem this)
    rw [cut8_get c s i hi' hV.n8] at this
    simp only [List.getD_eq_getElem?_getD, List.getElem?_eq_getElem hi, Option.getD_some] at this
    exact decide_eq_true this
  · intro h x hx
    obtain ⟨i, hi, rfl⟩ := List.getElem_of_mem hx
    have e : (cut8 c s)[i] = (cut8 c s).getD i 0 := by simp [List.getD_eq_getElem?_getD, hi]
    rw [e]
    rcases Nat.lt_or_ge i c.hs.length with q | q
    · rw [cut8_get c s i q hV.n8]
      have hq : i < (cutsC c s).length := by simpa [cutsC] using q
      have := of_decide_eq_true (h _ (List.getElem_mem hq))
      simpa [List.getD_eq_getElem?_getD, hq] using this
    · rw [cut8_zero c s i q]
      exact hV.m0
set_option maxRecDepth 100000 in
set_option maxHeartbeats 4000000 in
theorem fits_any (c : Cse) (hv rv : Value) (s : Scl) (w : World) (hC : CseAt w c hv rv) (hV : Valid c) :
    Calls Try.prog 100 #[.agg (mdC (mdP c hv rv s) (cut8 c s))] w fun e w' => e = .returned (.bool (fitsB c s)) ∧ Below w.heap.size w w' := by
  obtain ⟨most, hmost⟩ : ∃ x, c.most = x := ⟨_, rfl⟩
  have P2 : (mdP c hv rv s)[2]? = some (.int .i64 most) := by rw [← hmost]; rfl
  have hf := fits_iff hV s
  rw [hmost] at hf
  have hl8 := cut8_len c s
  have hpl : (mdP c hv rv s).length = 9 := rfl
  generalize mdP c hv rv s = p at *
  generalize cut8 c s = cs at *
  obtain ⟨R, hR⟩ : ∃ R, fitsB c s = R := ⟨_, rfl⟩
  rw [hR] at hf ⊢
  obtain ⟨M, hM⟩ : ∃ M, Lib.maxOf cs = M := ⟨_, rfl⟩
  rw [hM] at hf
  have HF : Hid (decide (M ≤ most) = R) := by show _ = _; cases R <;> simp_all
  obtain ⟨W, hW, hG, hb⟩ : ∃ W, w.alloc (Obj.cells (mdC p cs) 99) = W ∧ MdBlk W w.heap.size p cs ∧ Below w.heap.size w W := ⟨_, rfl, heap_alloc_new _ _, by go_grown⟩
  have H1 : Hid (∀ W1, Below W.heap.size W W1 → Calls Try.prog 116 #[.slice (some ⟨w.heap.size, 9, none⟩) 8 8] W1 fun e w' => e = .returned (.int .i64 M) ∧ w' = W1) := fun W1 hb1 => by
    have h := Try.slices_Max_int w.heap.size 9 8 8 cs W1 (by omega) (by omega) (by omega) (fun j hj => (hG.below hb1 hG.lt).cw hpl j hj)
    rw [List.take_of_length_le (by omega), hM] at h
    exact h
  have c2 := hG.cp 2 _ P2
  have ml := hG.lt
  have HW := Lib.hid hW
  have HB := Lib.hid hb
  clear hW hb hG P2 hf hl8 hpl hC hV hmost hR hM
  go_enter Try.func100, Try.ntmps100
  go_upto_region 1 with fail
  rw [HW.out]
  have KA : ∀ W' : World, Below W.heap.size W W' → (W'.cell? ⟨w.heap.size, 2, none⟩ = some (.int .i64 most) ∧ Below W.heap.size W W') := fun W' hb => ⟨keepK c2 hb, hb⟩
  refine wp_region_noPanic ?_
  refine wp_region_held_drew (S := (fun W' => W'.cell? ⟨w.heap.size, 2, none⟩ = some (.int .i64 most) ∧ Below W.heap.size W W')) (by kernel_rfl) ?_ (fun hh0 => ?_)
  · exact KA _ (Below.refl _ _).drew
  refine wpAnyH_take (i := 0) (v := ?_) rfl (by as_aux_lemma => kernel_rfl) (by as_aux_lemma => kernel_rfl) (by as_aux_lemma => kernel_rfl) (fun _ _ _ h => h) (Or.inl ⟨by rfl, ?_⟩) (by assumption) ?_
  rotate_left
  · intro w hSw
    try dsimp only at hSw
    go_simp
    try with_reducible rfl
  try simp only [Act.put, List.getElem_toArray, List.getElem_cons_succ, List.getElem_cons_zero, List.setIfInBounds_toArray, List.set_cons_zero, List.set_cons_succ]
  refine wpAnyH_take (i := 1) (v := ?_) rfl (by as_aux_lemma => kernel_rfl) (by as_aux_lemma => kernel_rfl) (by as_aux_lemma => kernel_rfl) (fun _ _ _ h => h) (Or.inl ⟨by rfl, ?_⟩) (by assumption) ?_
  rotate_left
  · intro w hSw
    try dsimp only at hSw
    go_simp
    try with_reducible rfl
  try simp only [Act.put, List.getElem_toArray, List.getElem_cons_succ, List.getElem_cons_zero, List.setIfInBounds_toArray, List.set_cons_zero, List.set_cons_succ]
  refine wpAnyH_take (i := 3) (v := ?_) rfl (by as_aux_lemma => kernel_rfl) (by as_aux_lemma => kernel_rfl) (by as_aux_lemma => kernel_rfl) (fun _ _ _ h => h) (Or.inl ⟨by rfl, ?_⟩) (by assumption) ?_
  rotate_left
  · intro w hSw
    try dsimp only at hSw
    go_simp
    try with_reducible rfl
  try simp only [Act.put, List.getElem_toArray, List.getElem_cons_succ, List.getElem_cons_zero, List.setIfInBounds_toArray, List.set_cons_zero, List.set_cons_succ]
  refine wpAnyH_take (i := 4) (v := ?_) rfl (by as_aux_lemma => kernel_rfl) (by as_aux_lemma => kernel_rfl) (by as_aux_lemma => kernel_rfl) (fun _ _ _ h => h) (Or.inl ⟨by rfl, ?_⟩) (by assumption) ?_
  rotate_left
  · intro w hSw
    try dsimp only at hSw
    go_simp
    try with_reducible rfl
  try simp only [Act.put, List.getElem_toArray, List.getElem_cons_succ, List.getElem_cons_zero, List.setIfInBounds_toArray, List.set_cons_zero, List.set_cons_succ]
  refine wpAnyH_take (i := 5) (v := ?_) rfl (by as_aux_lemma => kernel_rfl) (by as_aux_lemma => kernel_rfl) (by as_aux_lemma => kernel_rfl) (fun _ _ _ h => h) (Or.inl ⟨by rfl, ?_⟩) (by assumption) ?_
  rotate_left
  · intro w hSw
    try dsimp only at hSw
    go_simp
    try with_reducible rfl
  try simp only [Act.put, List.getElem_toArray, List.getElem_cons_succ, List.getElem_cons_zero, List.setIfInBounds_toArray, List.set_cons_zero, List.set_cons_succ]
  refine wpAnyH_take (i := 6) (v := ?_) rfl (by as_aux_lemma => kernel_rfl) (by as_aux_lemma => kernel_rfl) (by as_aux_lemma => kernel_rfl) (fun _ _ _ h => h) (Or.inl ⟨by rfl, ?_⟩) (by assumption) ?_
  rotate_left
  · intro w hSw
    try dsimp only at hSw
    go_simp
    try with_reducible rfl
  try simp only [Act.put, List.getElem_toArray, List.getElem_cons_succ, List.getElem_cons_zero, List.setIfInBounds_toArray, List.set_cons_zero, List.set_cons_succ]
  refine wpAnyH_ready (rs := [2]) (by as_aux_lemma => kernel_rfl) (by simp) ?_
  refine AllReadyH.cons rfl (fun K hK => ?_) AllReadyH.nil
  go_simp
  refine (H1.out _ hh0.2).mono ?_
  rintro e v1 ⟨rfl, rfl⟩
  refine hK.out _ _ (KA _ (Below.trans hh0.2 (Below.mono (Below.refl _ _) (hh0.2).size))) (fun hh1 => ?_)
  clear hK K
  try simp only [Act.put, List.getElem_toArray, List.getElem_cons_succ, List.getElem_cons_zero, List.setIfInBounds_toArray, List.set_cons_zero, List.set_cons_succ]
  refine wpAnyH_take (i := 7) (v := ?_) rfl (by as_aux_lemma => kernel_rfl) (by as_aux_lemma => kernel_rfl) (by as_aux_lemma => kernel_rfl) (fun _ _ _ h => h) (Or.inl ⟨by rfl, ?_⟩) (by assumption) ?_
  rotate_left
  · intro w hSw
    try dsimp only at hSw
    go_simp
    try with_reducible rfl
  try simp only [Act.put, List.getElem_toArray, List.getElem_cons_succ, List.getElem_cons_zero, List.setIfInBounds_toArray, List.set_cons_zero, List.set_cons_succ]
  refine wpAnyH_ready (rs := [8]) (by as_aux_lemma => kernel_rfl) (by simp) ?_
  refine AllReadyH.cons rfl (fun K hK => ?_) AllReadyH.nil
  go_simp
  refine hK.out _ _ hh1 (fun hh2 => ?_)
  clear hK K
  try simp only [Act.put, List.getElem_toArray, List.getElem_cons_succ, List.getElem_cons_zero, List.setIfInBounds_toArray, List.set_cons_zero, List.set_cons_succ]
  refine wpAnyH_done (by as_aux_lemma => kernel_rfl) ?_ _
  refine NoPanic.normal ?_
  have HBZ := Lib.hid (hh2.2)
  have B1 := Lib.hid (HB.out.trans (HBZ.out.mono HB.out.size))
  go_wp2_with fail
  go_ret
  exact ⟨congrArg (fun x => Ending.returned (.bool x)) HF.out, B1.out⟩
set_option maxRecDepth 100000 in
set_option maxHeartbeats 4000000 in
theorem excludedBy_any (c : Cse) (hv rv : Value) (s : Scl) (m : Mrk) (w : World) (hV : Valid c) (h0 : 0 ≤ m.pt) (h1 : m.pt < c.hs.length) :
    Calls Try.prog 77 #[.agg (mdC (mdP c hv rv s) (cut8 c s)), .agg #[.int .i64 m.pt, .int .i64 m.lo, .int .i64 m.hi]] w fun e w' => e = .returned (.bool (!markB c s m)) ∧ Below w.heap.size w w' := by
  obtain ⟨pt, lo, hi⟩ := m
  simp only at h0 h1 ⊢
  obtain ⟨i, rfl⟩ : ∃ i : Nat, pt = (i : Int) := ⟨pt.toNat, by omega⟩
  have n8 := hV.n8
  have hR : markB c s ⟨i, lo, hi⟩ = inB lo hi ((cut8 c s).getD i 0) := by
    unfold markB
    rw [← cut8_at hV s i h0 h1, at0_nat]
  rw [hR]
  have hl8 := cut8_len c s
  have hpl : (mdP c hv rv s).length = 9 := rfl
  generalize mdP c hv rv s = p at *
  generalize cut8 c s = cs at *
  have iI : (i : Int) < 8 := by omega
  obtain ⟨W, hW, z1, z2, hb, hsz⟩ := al2 w (Obj.cells (mdC p cs) 99) (Obj.cells #[.int .i64 i, .int .i64 lo, .int .i64 hi] 53)
  have M : MdBlk W w.heap.size p cs := z1
  have d0 := M.cw hpl i (by omega)
  have ml := M.lt
  have e0 := cellOf z2 0 (.int .i64 i) rfl
  have e1 := cellOf z2 1 (.int .i64 lo) rfl
  have e2 := cellOf z2 2 (.int .i64 hi) rfl
  have el := lt_of_block z2
  obtain ⟨x, hx⟩ : ∃ x, cs.getD i 0 = x := ⟨_, rfl⟩
  rw [hx] at d0 ⊢
  obtain ⟨R, hRR⟩ : ∃ R, inB lo hi x = R := ⟨_, rfl⟩
  rw [hRR]
  have H1 : Hid (∀ W1 : World, IntsAt W1 (.slice (some ⟨W.heap.size, 0, none⟩) 1 1) [x] → Calls Try.prog 53 #[.int .i64 lo, .int .i64 hi, .slice (some ⟨W.heap.size, 0, none⟩) 1 1] W1 fun e w' => e = .returned (.bool R) ∧ W1 = w') := fun W1 hi1 => by
    have h := within_any lo hi _ [x] W1 hi1
    have e : allIn lo hi [x] = R := by rw [← hRR]; simp [allIn]; rfl
    rw [e] at h
    exact h
  have HW := Lib.hid hW
  have HB := Lib.hid hb
  clear hW hb M z1 z2 hl8 hpl hV hR hx hRR h1 n8 hsz
  go_enter Try.func77, Try.ntmps77
  go_upto_region 1 with fail
  rw [HW.out]
  have KA : ∀ W' : World, Below W.heap.size W W' → (W'.cell? ⟨w.heap.size, 9 + i, none⟩ = some (.int .i64 x) ∧ W'.cell? ⟨(w.heap.size + 1), 0, none⟩ = some (.int .i64 i) ∧ W'.cell? ⟨(w.heap.size + 1), 1, none⟩ = some (.int .i64 lo) ∧ W'.cell? ⟨(w.heap.size + 1), 2, none⟩ = some (.int .i64 hi) ∧ Below W.heap.size W W') := fun W' hb => ⟨keepK d0 hb, keepK e0 hb, keepK e1 hb, keepK e2 hb, hb⟩
  refine wp_region_noPanic ?_
  refine wp_region_held_drew (S := (fun W' => W'.cell? ⟨w.heap.size, 9 + i, none⟩ = some (.int .i64 x) ∧ W'.cell? ⟨(w.heap.size + 1), 0, none⟩ = some (.int .i64 i) ∧ W'.cell? ⟨(w.heap.size + 1), 1, none⟩ = some (.int .i64 lo) ∧ W'.cell? ⟨(w.heap.size + 1), 2, none⟩ = some (.int .i64 hi) ∧ Below W.heap.size W W')) (by kernel_rfl) ?_ (fun hh0 => ?_)
  · exact KA _ (Below.refl _ _).drew
  refine wpAnyH_take (i := 0) (v := ?_) rfl (by as_aux_lemma => kernel_rfl) (by as_aux_lemma => kernel_rfl) (by as_aux_lemma => kernel_rfl) (fun _ _ _ h => h) (Or.inl ⟨by rfl, ?_⟩) (by assumption) ?_
  rotate_left
  · intro w hSw
    try dsimp only at hSw
    go_simp
    try with_reducible rfl
  try simp only [Act.put, List.getElem_toArray, List.getElem_cons_succ, List.getElem_cons_zero, List.setIfInBounds_toArray, List.set_cons_zero, List.set_cons_succ]
  refine wpAnyH_take (i := 1) (v := ?_) rfl (by as_aux_lemma => kernel_rfl) (by as_aux_lemma => kernel_rfl) (by as_aux_lemma => kernel_rfl) (fun _ _ _ h => h) (Or.inl ⟨by rfl, ?_⟩) (by assumption) ?_
  rotate_left
  · intro w hSw
    try dsimp only at hSw
    go_simp
    try with_reducible rfl
  try simp only [Act.put, List.getElem_toArray, List.getElem_cons_succ, List.getElem_cons_zero, List.setIfInBounds_toArray, List.set_cons_zero, List.set_cons_succ]
  refine wpAnyH_take (i := 2) (v := ?_) rfl (by as_aux_lemma => kernel_rfl) (by as_aux_lemma => kernel_rfl) (by as_aux_lemma => kernel_rfl) (fun _ _ _ h => h) (Or.inl ⟨by rfl, ?_⟩) (by assumption) ?_
  rotate_left
  · intro w hSw
    try dsimp only at hSw
    go_simp
    try with_reducible rfl
  try simp only [Act.put, List.getElem_toArray, List.getElem_cons_succ, List.getElem_cons_zero, List.setIfInBounds_toArray, List.set_cons_zero, List.set_cons_succ]
  refine wpAnyH_take (i := 3) (v := ?_) rfl (by as_aux_lemma => kernel_rfl) (by as_aux_lemma => kernel_rfl) (by as_aux_lemma => kernel_rfl) (fun _ _ _ h => h) (Or.inl ⟨by rfl, ?_⟩) (by assumption) ?_
  rotate_left
  · intro w hSw
    try dsimp only at hSw
    go_simp
    try with_reducible rfl
  try simp only [Act.put, List.getElem_toArray, List.getElem_cons_succ, List.getElem_cons_zero, List.setIfInBounds_toArray, List.set_cons_zero, List.set_cons_succ]
  refine wpAnyH_take (i := 4) (v := ?_) rfl (by as_aux_lemma => kernel_rfl) (by as_aux_lemma => kernel_rfl) (by as_aux_lemma => kernel_rfl) (fun _ _ _ h => h) (Or.inl ⟨by rfl, ?_⟩) (by assumption) ?_
  rotate_left
  · intro w hSw
    try dsimp only at hSw
    go_simp
    try with_reducible rfl
  try simp only [Act.put, List.getElem_toArray, List.getElem_cons_succ, List.getElem_cons_zero, List.setIfInBounds_toArray, List.set_cons_zero, List.set_cons_succ]
  refine wpAnyH_take (i := 5) (v := ?_) rfl (by as_aux_lemma => kernel_rfl) (by as_aux_lemma => kernel_rfl) (by as_aux_lemma => kernel_rfl) (fun _ _ _ h => h) (Or.inl ⟨by rfl, ?_⟩) (by assumption) ?_
  rotate_left
  · intro w hSw
    try dsimp only at hSw
    go_simp
    try with_reducible rfl
  try simp only [Act.put, List.getElem_toArray, List.getElem_cons_succ, List.getElem_cons_zero, List.setIfInBounds_toArray, List.set_cons_zero, List.set_cons_succ]
  refine wpAnyH_take (i := 6) (v := ?_) rfl (by as_aux_lemma => kernel_rfl) (by as_aux_lemma => kernel_rfl) (by as_aux_lemma => kernel_rfl) (fun _ _ _ h => h) (Or.inl ⟨by rfl, ?_⟩) (by assumption) ?_
  rotate_left
  · intro w hSw
    try dsimp only at hSw
    go_simp
    try with_reducible rfl
  try simp only [Act.put, List.getElem_toArray, List.getElem_cons_succ, List.getElem_cons_zero, List.setIfInBounds_toArray, List.set_cons_zero, List.set_cons_succ]
  refine wpAnyH_take (i := 7) (v := ?_) rfl (by as_aux_lemma => kernel_rfl) (by as_aux_lemma => kernel_rfl) (by as_aux_lemma => kernel_rfl) (fun _ _ _ h => h) (Or.inl ⟨by rfl, ?_⟩) (by assumption) ?_
  rotate_left
  · intro w hSw
    try dsimp only at hSw
    go_simp
    try with_reducible rfl
  try simp only [Act.put, List.getElem_toArray, List.getElem_cons_succ, List.getElem_cons_zero, List.setIfInBounds_toArray, List.set_cons_zero, List.set_cons_succ]
  refine wpAnyH_take (i := 8) (v := ?_) rfl (by as_aux_lemma => kernel_rfl) (by as_aux_lemma => kernel_rfl) (by as_aux_lemma => kernel_rfl) (fun _ _ _ h => h) (Or.inl ⟨by rfl, ?_⟩) (by assumption) ?_
  rotate_left
  · intro w hSw
    try dsimp only at hSw
    go_simp
    try with_reducible rfl
  try simp only [Act.put, List.getElem_toArray, List.getElem_cons_succ, List.getElem_cons_zero, List.setIfInBounds_toArray, List.set_cons_zero, List.set_cons_succ]
  refine wpAnyH_take (i := 9) (v := ?_) rfl (by as_aux_lemma => kernel_rfl) (by as_aux_lemma => kernel_rfl) (by as_aux_lemma => kernel_rfl) (fun _ _ _ h => h) (Or.inl ⟨by rfl, ?_⟩) (by assumption) ?_
  rotate_left
  · intro w hSw
    try dsimp only at hSw
    go_simp
    try with_reducible rfl
  try simp only [Act.put, List.getElem_toArray, List.getElem_cons_succ, List.getElem_cons_zero, List.setIfInBounds_toArray, List.set_cons_zero, List.set_cons_succ]
  refine wpAnyH_take (i := 10) (v := ?_) rfl (by as_aux_lemma => kernel_rfl) (by as_aux_lemma => kernel_rfl) (by as_aux_lemma => kernel_rfl) (fun _ _ _ h => h) (Or.inl ⟨by rfl, ?_⟩) (by assumption) ?_
  rotate_left
  · intro w hSw
    try dsimp only at hSw
    go_simp
    try with_reducible rfl
  try simp only [Act.put, List.getElem_toArray, List.getElem_cons_succ, List.getElem_cons_zero, List.setIfInBounds_toArray, List.set_cons_zero, List.set_cons_succ]
  refine wpAnyH_ready (rs := [11]) (by as_aux_lemma => kernel_rfl) (by simp) ?_
  refine AllReadyH.cons rfl (fun K hK => ?_) AllReadyH.nil
  go_simp
  refine hK.out _ _ (KA _ ((hh0.2.2.2.2).alloc (hh0.2.2.2.2).size _)) (fun hh1 => ?_)
  clear hK K
  try simp only [Act.put, List.getElem_toArray, List.getElem_cons_succ, List.getElem_cons_zero, List.setIfInBounds_toArray, List.set_cons_zero, List.set_cons_succ]
  refine wpAnyH_ready (rs := [12]) (by as_aux_lemma => kernel_rfl) (by simp) ?_
  refine AllReadyH.cons rfl (fun K hK => ?_) AllReadyH.nil
  go_simp
  refine (H1.out _ ((ints1 W _ rfl x 3).below (Below.refl _ _).drew)).mono ?_
  rintro e v1 ⟨rfl, rfl⟩
  refine hK.out _ _ (KA _ (Below.trans hh1.2.2.2.2 (Below.mono (Below.refl _ _) (hh1.2.2.2.2).size))) (fun hh2 => ?_)
  clear hK K
  try simp only [Act.put, List.getElem_toArray, List.getElem_cons_succ, List.getElem_cons_zero, List.setIfInBounds_toArray, List.set_cons_zero, List.set_cons_succ]
  refine wpAnyH_take (i := 13) (v := ?_) rfl (by as_aux_lemma => kernel_rfl) (by as_aux_lemma => kernel_rfl) (by as_aux_lemma => kernel_rfl) (fun _ _ _ h => h) (Or.inl ⟨by rfl, ?_⟩) (by assumption) ?_
  rotate_left
  · intro w hSw
    try dsimp only at hSw
    go_simp
    try with_reducible rfl
  try simp only [Act.put, List.getElem_toArray, List.getElem_cons_succ, List.getElem_cons_zero, List.setIfInBounds_toArray, List.set_cons_zero, List.set_cons_succ]
  refine wpAnyH_ready (rs := [14]) (by as_aux_lemma => kernel_rfl) (by simp) ?_
  refine AllReadyH.cons rfl (fun K hK => ?_) AllReadyH.nil
  go_simp
  refine hK.out _ _ hh2 (fun hh3 => ?_)
  clear hK K
  try simp only [Act.put, List.getElem_toArray, List.getElem_cons_succ, List.getElem_cons_zero, List.setIfInBounds_toArray, List.set_cons_zero, List.set_cons_succ]
  refine wpAnyH_done (by as_aux_lemma => kernel_rfl) ?_ _
  refine NoPanic.normal ?_
  have HBZ := Lib.hid (hh3.2.2.2.2)
  have B1 := Lib.hid (HB.out.trans (HBZ.out.mono HB.out.size))
  go_wp2_with fail
  go_ret
  exact ⟨rfl, B1.out⟩
end Go.Proofs.Ythflbbjilebhlaa
