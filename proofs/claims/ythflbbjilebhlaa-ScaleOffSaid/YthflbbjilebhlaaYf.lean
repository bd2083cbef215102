/- Awake: the calls of the examples, one after the other. -/
import Derived.Test.YthflbbjilebhlaaYe
set_option linter.unusedSimpArgs false
set_option linter.unusedVariables false
namespace Go.Proofs.Ythflbbjilebhlaa
open Go Go.RowKit Go.Shelf Sc

theorem ints_blk {w : World} {b : Nat} {t : TypeId} {C : Array Value} (l : List Int) (hC : C = (l.map (Value.int .i64)).toArray) (hl : l.length ≤ 1000) (h : w.heap[b]? = some (.cells C t (0, 0))) : IntsAt w (.slice (some ⟨b, 0, none⟩) l.length l.length) l := by
  refine ⟨by omega, _, l.length, rfl, Nat.le_refl _, fun _ => ⟨b, 0, rfl, fun k hk => ?_⟩⟩
  rw [Nat.zero_add]
  exact cellOf h k _ (by rw [hC]; simp [hk])
theorem pairs_blk {w : World} {b : Nat} {C : Array Value} (l : List Scl) (hC : C = (scsL l).toArray) (hl : l.length ≤ 1000) (h : w.heap[b]? = some (.cells C 27 (0, 0))) : PairsAt w (.slice (some ⟨b, 0, none⟩) l.length l.length) l := by
  refine ⟨by omega, _, l.length, rfl, Nat.le_refl _, fun _ => ⟨b, 0, rfl, fun k hk => ?_⟩⟩
  obtain ⟨h1, h2⟩ := scsL_get l k hk
  rw [Nat.zero_add]
  exact ⟨cellOf h _ _ (by rw [hC]; simpa using h1), cellOf h _ _ (by rw [hC]; simpa using h2)⟩
def mksV (l : List Mrk) : List Value := l.flatMap fun m => [.int .i64 m.pt, .int .i64 m.lo, .int .i64 m.hi]
theorem mksV_get (l : List Mrk) : ∀ k (h : k < l.length), (mksV l)[k * 3]? = some (.int .i64 l[k].pt) ∧ (mksV l)[k * 3 + 1]? = some (.int .i64 l[k].lo) ∧ (mksV l)[k * 3 + 2]? = some (.int .i64 l[k].hi) := by
  induction l with
  | nil => intro k h; simp at h
  | cons s l ih =>
    intro k h
    have e : mksV (s :: l) = .int .i64 s.pt :: .int .i64 s.lo :: .int .i64 s.hi :: mksV l := by simp [mksV]
    rw [e]
    cases k with
    | zero => simp
    | succ k =>
      have := ih k (by simpa using h)
      rw [show (k + 1) * 3 = k * 3 + 1 + 1 + 1 by omega]
      simpa using this
theorem marks_blk {w : World} {b : Nat} {C : Array Value} (l : List Mrk) (hC : C = (mksV l).toArray) (hl : l.length ≤ 1000) (h : w.heap[b]? = some (.cells C 53 (0, 0))) : MrksAt w (.slice (some ⟨b, 0, none⟩) l.length l.length) l := by
  refine ⟨by omega, _, l.length, rfl, Nat.le_refl _, fun _ => ⟨b, 0, rfl, fun k hk => ?_⟩⟩
  obtain ⟨h1, h2, h3⟩ := mksV_get l k hk
  rw [Nat.zero_add]
  exact ⟨cellOf h _ _ (by rw [hC]; simpa using h1), cellOf h _ _ (by rw [hC]; simpa using h2), cellOf h _ _ (by rw [hC]; simpa using h3)⟩
set_option maxRecDepth 100000 in
set_option maxHeartbeats 16000000 in
theorem awake_any (w : World) : Calls Try.prog 26 #[] w fun e w' => e = .returned (.bool true) ∧ Below w.heap.size w w' := by
  have HB := Lib.hid (Below.refl w.heap.size w)
  go_enter Try.func26, Try.ntmps26
  go_wp2_with fail
  refine (lcase_any 2 w).mono ?_
  rintro e w1 ⟨ha, hc, ra, rc, rfl, hC, hb⟩
  have HB' := Lib.hid (HB.out.trans (hb.mono HB.out.size))
  clear HB
  have HB := HB'
  clear HB'
  have HC := Lib.hid (hC)
  clear hC hb
  obtain ⟨x1, hx1, zx1, hb⟩ : ∃ V, w1.alloc (Obj.cells #[.int .i64 2, .int .i64 100, .int .i64 50, .slice ha 4 hc, .slice ra 3 rc] 25) = V ∧ V.heap[w1.heap.size]? = some (.cells #[.int .i64 2, .int .i64 100, .int .i64 50, .slice ha 4 hc, .slice ra 3 rc] 25 (0, 0)) ∧ Below w1.heap.size w1 V := ⟨_, rfl, heap_alloc_new _ _, by go_grown⟩
  have HB' := Lib.hid (HB.out.trans (hb.mono HB.out.size))
  have HC' := Lib.hid (HC.out.below hb)
  clear HB
  have HB := HB'
  clear HB'
  clear HC
  have HC := HC'
  clear HC'
  have HK := Lib.hid zx1
  have Hx1 := Lib.hid hx1
  clear zx1 hb
  clear hx1
  go_wp2_with fail
  rw [Hx1.out]
  clear Hx1
  have cHK0 := cellOf HK.out 0 (.int .i64 2) rfl
  have cHK1 := cellOf HK.out 1 (.int .i64 100) rfl
  have cHK2 := cellOf HK.out 2 (.int .i64 50) rfl
  have cHK3 := cellOf HK.out 3 (.slice ha 4 hc) rfl
  have cHK4 := cellOf HK.out 4 (.slice ra 3 rc) rfl
  have lHK := lt_of_block HK.out
  have KA : ∀ W' : World, Below x1.heap.size x1 W' → (W'.cell? ⟨w1.heap.size, 0, none⟩ = some (.int .i64 2) ∧ W'.cell? ⟨w1.heap.size, 1, none⟩ = some (.int .i64 100) ∧ W'.cell? ⟨w1.heap.size, 2, none⟩ = some (.int .i64 50) ∧ W'.cell? ⟨w1.heap.size, 3, none⟩ = some (.slice ha 4 hc) ∧ W'.cell? ⟨w1.heap.size, 4, none⟩ = some (.slice ra 3 rc) ∧ Below x1.heap.size x1 W') := fun W' hb => ⟨keepK cHK0 hb, keepK cHK1 hb, keepK cHK2 hb, keepK cHK3 hb, keepK cHK4 hb, hb⟩
  refine wp_region_noPanic ?_
  refine wp_region_held_drew (S := (fun W' => W'.cell? ⟨w1.heap.size, 0, none⟩ = some (.int .i64 2) ∧ W'.cell? ⟨w1.heap.size, 1, none⟩ = some (.int .i64 100) ∧ W'.cell? ⟨w1.heap.size, 2, none⟩ = some (.int .i64 50) ∧ W'.cell? ⟨w1.heap.size, 3, none⟩ = some (.slice ha 4 hc) ∧ W'.cell? ⟨w1.heap.size, 4, none⟩ = some (.slice ra 3 rc) ∧ Below x1.heap.size x1 W')) (by kernel_rfl) ?_ (fun hh0 => ?_)
  · exact KA _ (Below.refl _ _).drew
  refine wpAnyH_take (i := 0) (v := ?_) rfl (by as_aux_lemma => kernel_rfl) (by as_aux_lemma => kernel_rfl) (by as_aux_lemma => kernel_rfl) (fun _ _ _ h => h) (Or.inl ⟨by rfl, ?_⟩) (by assumption) ?_
  rotate_left
  · intro w hSw
    try dsimp only at hSw
    go_simp
    try with_reducible rfl
  try simp only [Act.put, List.getElem_toArray, List.getElem_cons_succ, List.getElem_cons_zero, List.setIfInBounds_toArray, List.set_cons_zero, List.set_cons_succ]
  refine wpAnyH_ready (rs := [1]) (by as_aux_lemma => kernel_rfl) (by simp) ?_
  refine AllReadyH.cons rfl (fun K hK => ?_) AllReadyH.nil
  go_simp
  refine (of_any 1 2 _).mono ?_
  rintro e v20 ⟨rfl, hv20⟩
  refine hK.out _ _ (KA _ (Below.trans hh0.2.2.2.2.2 (Below.mono hv20 (hh0.2.2.2.2.2).size))) (fun hh1 => ?_)
  clear hK K
  try simp only [Act.put, List.getElem_toArray, List.getElem_cons_succ, List.getElem_cons_zero, List.setIfInBounds_toArray, List.set_cons_zero, List.set_cons_succ]
  refine wpAnyH_ready (rs := [2]) (by as_aux_lemma => kernel_rfl) (by simp) ?_
  refine AllReadyH.cons rfl (fun K hK => ?_) AllReadyH.nil
  go_simp
  refine (a_cuts _ _ _ (HC.out.below hh1.2.2.2.2.2)).mono ?_
  rintro e y2 ⟨I2a, I2c, rfl, hII2, hy2⟩
  refine hK.out _ _ (KA _ (Below.trans hh1.2.2.2.2.2 (Below.mono hy2 (hh1.2.2.2.2.2).size))) (fun hh2 => ?_)
  clear hK K
  try simp only [Act.put, List.getElem_toArray, List.getElem_cons_succ, List.getElem_cons_zero, List.setIfInBounds_toArray, List.set_cons_zero, List.set_cons_succ]
  refine wpAnyH_take (i := 3) (v := ?_) rfl (by as_aux_lemma => kernel_rfl) (by as_aux_lemma => kernel_rfl) (by as_aux_lemma => kernel_rfl) (fun _ _ _ h => h) (Or.inl ⟨by rfl, ?_⟩) (by assumption) ?_
  rotate_left
  · intro w hSw
    try dsimp only at hSw
    go_simp
    try with_reducible rfl
  try simp only [Act.put, List.getElem_toArray, List.getElem_cons_succ, List.getElem_cons_zero, List.setIfInBounds_toArray, List.set_cons_zero, List.set_cons_succ]
  refine wpAnyH_take (i := 4) (v := ?_) rfl (by as_aux_lemma => kernel_rfl) (by as_aux_lemma => kernel_rfl) (by as_aux_lemma => kernel_rfl) (fun _ _ _ h => h) (Or.inl ⟨by rfl, ?_⟩) (by assumption) ?_
  rotate_left
  · intro w hSw
    try dsimp only at hSw
    go_simp
    try with_reducible rfl
  try simp only [Act.put, List.getElem_toArray, List.getElem_cons_succ, List.getElem_cons_zero, List.setIfInBounds_toArray, List.set_cons_zero, List.set_cons_succ]
  refine wpAnyH_take (i := 5) (v := ?_) rfl (by as_aux_lemma => kernel_rfl) (by as_aux_lemma => kernel_rfl) (by as_aux_lemma => kernel_rfl) (fun _ _ _ h => h) (Or.inl ⟨by rfl, ?_⟩) (by assumption) ?_
  rotate_left
  · intro w hSw
    try dsimp only at hSw
    go_simp
    try with_reducible rfl
  try simp only [Act.put, List.getElem_toArray, List.getElem_cons_succ, List.getElem_cons_zero, List.setIfInBounds_toArray, List.set_cons_zero, List.set_cons_succ]
  refine wpAnyH_ready (rs := [6]) (by as_aux_lemma => kernel_rfl) (by simp) ?_
  refine AllReadyH.cons rfl (fun K hK => ?_) AllReadyH.nil
  go_simp
  refine hK.out _ _ hh2 (fun hh3 => ?_)
  clear hK K
  try simp only [Act.put, List.getElem_toArray, List.getElem_cons_succ, List.getElem_cons_zero, List.setIfInBounds_toArray, List.set_cons_zero, List.set_cons_succ]
  refine wpAnyH_ready (rs := [7]) (by as_aux_lemma => kernel_rfl) (by simp) ?_
  refine AllReadyH.cons rfl (fun K hK => ?_) AllReadyH.nil
  go_simp
  refine hK.out _ _ hh3 (fun hh4 => ?_)
  clear hK K
  try simp only [Act.put, List.getElem_toArray, List.getElem_cons_succ, List.getElem_cons_zero, List.setIfInBounds_toArray, List.set_cons_zero, List.set_cons_succ]
  refine wpAnyH_done (by as_aux_lemma => kernel_rfl) ?_ _
  refine NoPanic.normal ?_
  have HBZ := Lib.hid (hh4.2.2.2.2.2)
  have hbz := HBZ.out
  clear KA
  clear cHK0 cHK1 cHK2 cHK3 cHK4 lHK
  have HB' := Lib.hid (HB.out.trans (hbz.mono HB.out.size))
  have HC' := Lib.hid (HC.out.below hbz)
  have HK' := Lib.hid ((hbz.block _ (lt_of_block HK.out)).trans HK.out)
  clear HB
  have HB := HB'
  clear HB'
  clear HC
  have HC := HC'
  clear HC'
  clear HK
  have HK := HK'
  clear HK'
  have I2 := Lib.hid (hII2)
  clear hbz HBZ hII2
  go_wp2_with fail
  have cHK0 := cellOf HK.out 0 (.int .i64 2) rfl
  have cHK1 := cellOf HK.out 1 (.int .i64 100) rfl
  have cHK2 := cellOf HK.out 2 (.int .i64 50) rfl
  have cHK3 := cellOf HK.out 3 (.slice ha 4 hc) rfl
  have cHK4 := cellOf HK.out 4 (.slice ra 3 rc) rfl
  have lHK := lt_of_block HK.out
  have KA : ∀ W' : World, Below y2.heap.size y2 W' → (W'.cell? ⟨w1.heap.size, 0, none⟩ = some (.int .i64 2) ∧ W'.cell? ⟨w1.heap.size, 1, none⟩ = some (.int .i64 100) ∧ W'.cell? ⟨w1.heap.size, 2, none⟩ = some (.int .i64 50) ∧ W'.cell? ⟨w1.heap.size, 3, none⟩ = some (.slice ha 4 hc) ∧ W'.cell? ⟨w1.heap.size, 4, none⟩ = some (.slice ra 3 rc) ∧ Below y2.heap.size y2 W') := fun W' hb => ⟨keepK cHK0 hb, keepK cHK1 hb, keepK cHK2 hb, keepK cHK3 hb, keepK cHK4 hb, hb⟩
  refine wp_region_noPanic ?_
  refine wp_region_held_drew (S := (fun W' => W'.cell? ⟨w1.heap.size, 0, none⟩ = some (.int .i64 2) ∧ W'.cell? ⟨w1.heap.size, 1, none⟩ = some (.int .i64 100) ∧ W'.cell? ⟨w1.heap.size, 2, none⟩ = some (.int .i64 50) ∧ W'.cell? ⟨w1.heap.size, 3, none⟩ = some (.slice ha 4 hc) ∧ W'.cell? ⟨w1.heap.size, 4, none⟩ = some (.slice ra 3 rc) ∧ Below y2.heap.size y2 W')) (by kernel_rfl) ?_ (fun hh0 => ?_)
  · exact KA _ (Below.refl _ _).drew
  refine wpAnyH_take (i := 0) (v := ?_) rfl (by as_aux_lemma => kernel_rfl) (by as_aux_lemma => kernel_rfl) (by as_aux_lemma => kernel_rfl) (fun _ _ _ h => h) (Or.inl ⟨by rfl, ?_⟩) (by assumption) ?_
  rotate_left
  · intro w hSw
    try dsimp only at hSw
    go_simp
    try with_reducible rfl
  try simp only [Act.put, List.getElem_toArray, List.getElem_cons_succ, List.getElem_cons_zero, List.setIfInBounds_toArray, List.set_cons_zero, List.set_cons_succ]
  refine wpAnyH_ready (rs := [1]) (by as_aux_lemma => kernel_rfl) (by simp) ?_
  refine AllReadyH.cons rfl (fun K hK => ?_) AllReadyH.nil
  go_simp
  refine (of_any 2 3 _).mono ?_
  rintro e v30 ⟨rfl, hv30⟩
  refine hK.out _ _ (KA _ (Below.trans hh0.2.2.2.2.2 (Below.mono hv30 (hh0.2.2.2.2.2).size))) (fun hh1 => ?_)
  clear hK K
  try simp only [Act.put, List.getElem_toArray, List.getElem_cons_succ, List.getElem_cons_zero, List.setIfInBounds_toArray, List.set_cons_zero, List.set_cons_succ]
  refine wpAnyH_ready (rs := [2]) (by as_aux_lemma => kernel_rfl) (by simp) ?_
  refine AllReadyH.cons rfl (fun K hK => ?_) AllReadyH.nil
  go_simp
  refine (a_false _ _ _ (HC.out.below hh1.2.2.2.2.2)).mono ?_
  rintro e y3 ⟨I4a, I4c, rfl, hII4, hy3⟩
  refine hK.out _ _ (KA _ (Below.trans hh1.2.2.2.2.2 (Below.mono hy3 (hh1.2.2.2.2.2).size))) (fun hh2 => ?_)
  clear hK K
  try simp only [Act.put, List.getElem_toArray, List.getElem_cons_succ, List.getElem_cons_zero, List.setIfInBounds_toArray, List.set_cons_zero, List.set_cons_succ]
  refine wpAnyH_take (i := 3) (v := ?_) rfl (by as_aux_lemma => kernel_rfl) (by as_aux_lemma => kernel_rfl) (by as_aux_lemma => kernel_rfl) (fun _ _ _ h => h) (Or.inl ⟨by rfl, ?_⟩) (by assumption) ?_
  rotate_left
  · intro w hSw
    try dsimp only at hSw
    go_simp
    try with_reducible rfl
  try simp only [Act.put, List.getElem_toArray, List.getElem_cons_succ, List.getElem_cons_zero, List.setIfInBounds_toArray, List.set_cons_zero, List.set_cons_succ]
  refine wpAnyH_take (i := 4) (v := ?_) rfl (by as_aux_lemma => kernel_rfl) (by as_aux_lemma => kernel_rfl) (by as_aux_lemma => kernel_rfl) (fun _ _ _ h => h) (Or.inl ⟨by rfl, ?_⟩) (by assumption) ?_
  rotate_left
  · intro w hSw
    try dsimp only at hSw
    go_simp
    try with_reducible rfl
  try simp only [Act.put, List.getElem_toArray, List.getElem_cons_succ, List.getElem_cons_zero, List.setIfInBounds_toArray, List.set_cons_zero, List.set_cons_succ]
  refine wpAnyH_take (i := 5) (v := ?_) rfl (by as_aux_lemma => kernel_rfl) (by as_aux_lemma => kernel_rfl) (by as_aux_lemma => kernel_rfl) (fun _ _ _ h => h) (Or.inl ⟨by rfl, ?_⟩) (by assumption) ?_
  rotate_left
  · intro w hSw
    try dsimp only at hSw
    go_simp
    try with_reducible rfl
  try simp only [Act.put, List.getElem_toArray, List.getElem_cons_succ, List.getElem_cons_zero, List.setIfInBounds_toArray, List.set_cons_zero, List.set_cons_succ]
  refine wpAnyH_ready (rs := [6]) (by as_aux_lemma => kernel_rfl) (by simp) ?_
  refine AllReadyH.cons rfl (fun K hK => ?_) AllReadyH.nil
  go_simp
  refine hK.out _ _ hh2 (fun hh3 => ?_)
  clear hK K
  try simp only [Act.put, List.getElem_toArray, List.getElem_cons_succ, List.getElem_cons_zero, List.setIfInBounds_toArray, List.set_cons_zero, List.set_cons_succ]
  refine wpAnyH_ready (rs := [7]) (by as_aux_lemma => kernel_rfl) (by simp) ?_
  refine AllReadyH.cons rfl (fun K hK => ?_) AllReadyH.nil
  go_simp
  refine hK.out _ _ hh3 (fun hh4 => ?_)
  clear hK K
  try simp only [Act.put, List.getElem_toArray, List.getElem_cons_succ, List.getElem_cons_zero, List.setIfInBounds_toArray, List.set_cons_zero, List.set_cons_succ]
  refine wpAnyH_done (by as_aux_lemma => kernel_rfl) ?_ _
  refine NoPanic.normal ?_
  have HBZ := Lib.hid (hh4.2.2.2.2.2)
  have hbz := HBZ.out
  clear KA
  clear cHK0 cHK1 cHK2 cHK3 cHK4 lHK
  have HB' := Lib.hid (HB.out.trans (hbz.mono HB.out.size))
  have HC' := Lib.hid (HC.out.below hbz)
  have HK' := Lib.hid ((hbz.block _ (lt_of_block HK.out)).trans HK.out)
  have I2' := Lib.hid (I2.out.below hbz)
  clear HB
  have HB := HB'
  clear HB'
  clear HC
  have HC := HC'
  clear HC'
  clear HK
  have HK := HK'
  clear HK'
  clear I2
  have I2 := I2'
  clear I2'
  have I4 := Lib.hid (hII4)
  clear hbz HBZ hII4
  go_wp2_with fail
  have cHK0 := cellOf HK.out 0 (.int .i64 2) rfl
  have cHK1 := cellOf HK.out 1 (.int .i64 100) rfl
  have cHK2 := cellOf HK.out 2 (.int .i64 50) rfl
  have cHK3 := cellOf HK.out 3 (.slice ha 4 hc) rfl
  have cHK4 := cellOf HK.out 4 (.slice ra 3 rc) rfl
  have lHK := lt_of_block HK.out
  have KA : ∀ W' : World, Below y3.heap.size y3 W' → (W'.cell? ⟨w1.heap.size, 0, none⟩ = some (.int .i64 2) ∧ W'.cell? ⟨w1.heap.size, 1, none⟩ = some (.int .i64 100) ∧ W'.cell? ⟨w1.heap.size, 2, none⟩ = some (.int .i64 50) ∧ W'.cell? ⟨w1.heap.size, 3, none⟩ = some (.slice ha 4 hc) ∧ W'.cell? ⟨w1.heap.size, 4, none⟩ = some (.slice ra 3 rc) ∧ Below y3.heap.size y3 W') := fun W' hb => ⟨keepK cHK0 hb, keepK cHK1 hb, keepK cHK2 hb, keepK cHK3 hb, keepK cHK4 hb, hb⟩
  refine wp_region_noPanic ?_
  refine wp_region_held_drew (S := (fun W' => W'.cell? ⟨w1.heap.size, 0, none⟩ = some (.int .i64 2) ∧ W'.cell? ⟨w1.heap.size, 1, none⟩ = some (.int .i64 100) ∧ W'.cell? ⟨w1.heap.size, 2, none⟩ = some (.int .i64 50) ∧ W'.cell? ⟨w1.heap.size, 3, none⟩ = some (.slice ha 4 hc) ∧ W'.cell? ⟨w1.heap.size, 4, none⟩ = some (.slice ra 3 rc) ∧ Below y3.heap.size y3 W')) (by kernel_rfl) ?_ (fun hh0 => ?_)
  · exact KA _ (Below.refl _ _).drew
  refine wpAnyH_take (i := 0) (v := ?_) rfl (by as_aux_lemma => kernel_rfl) (by as_aux_lemma => kernel_rfl) (by as_aux_lemma => kernel_rfl) (fun _ _ _ h => h) (Or.inl ⟨by rfl, ?_⟩) (by assumption) ?_
  rotate_left
  · intro w hSw
    try dsimp only at hSw
    go_simp
    try with_reducible rfl
  try simp only [Act.put, List.getElem_toArray, List.getElem_cons_succ, List.getElem_cons_zero, List.setIfInBounds_toArray, List.set_cons_zero, List.set_cons_succ]
  refine wpAnyH_ready (rs := [1]) (by as_aux_lemma => kernel_rfl) (by simp) ?_
  refine AllReadyH.cons rfl (fun K hK => ?_) AllReadyH.nil
  go_simp
  refine (of_any 1 30 _).mono ?_
  rintro e v40 ⟨rfl, hv40⟩
  refine hK.out _ _ (KA _ (Below.trans hh0.2.2.2.2.2 (Below.mono hv40 (hh0.2.2.2.2.2).size))) (fun hh1 => ?_)
  clear hK K
  try simp only [Act.put, List.getElem_toArray, List.getElem_cons_succ, List.getElem_cons_zero, List.setIfInBounds_toArray, List.set_cons_zero, List.set_cons_succ]
  refine wpAnyH_ready (rs := [2]) (by as_aux_lemma => kernel_rfl) (by simp) ?_
  refine AllReadyH.cons rfl (fun K hK => ?_) AllReadyH.nil
  go_simp
  refine (a_flat _ _ _ (HC.out.below hh1.2.2.2.2.2)).mono ?_
  rintro e y4 ⟨I6a, I6c, rfl, hII6, hy4⟩
  refine hK.out _ _ (KA _ (Below.trans hh1.2.2.2.2.2 (Below.mono hy4 (hh1.2.2.2.2.2).size))) (fun hh2 => ?_)
  clear hK K
  try simp only [Act.put, List.getElem_toArray, List.getElem_cons_succ, List.getElem_cons_zero, List.setIfInBounds_toArray, List.set_cons_zero, List.set_cons_succ]
  refine wpAnyH_take (i := 3) (v := ?_) rfl (by as_aux_lemma => kernel_rfl) (by as_aux_lemma => kernel_rfl) (by as_aux_lemma => kernel_rfl) (fun _ _ _ h => h) (Or.inl ⟨by rfl, ?_⟩) (by assumption) ?_
  rotate_left
  · intro w hSw
    try dsimp only at hSw
    go_simp
    try with_reducible rfl
  try simp only [Act.put, List.getElem_toArray, List.getElem_cons_succ, List.getElem_cons_zero, List.setIfInBounds_toArray, List.set_cons_zero, List.set_cons_succ]
  refine wpAnyH_take (i := 4) (v := ?_) rfl (by as_aux_lemma => kernel_rfl) (by as_aux_lemma => kernel_rfl) (by as_aux_lemma => kernel_rfl) (fun _ _ _ h => h) (Or.inl ⟨by rfl, ?_⟩) (by assumption) ?_
  rotate_left
  · intro w hSw
    try dsimp only at hSw
    go_simp
    try with_reducible rfl
  try simp only [Act.put, List.getElem_toArray, List.getElem_cons_succ, List.getElem_cons_zero, List.setIfInBounds_toArray, List.set_cons_zero, List.set_cons_succ]
  refine wpAnyH_take (i := 5) (v := ?_) rfl (by as_aux_lemma => kernel_rfl) (by as_aux_lemma => kernel_rfl) (by as_aux_lemma => kernel_rfl) (fun _ _ _ h => h) (Or.inl ⟨by rfl, ?_⟩) (by assumption) ?_
  rotate_left
  · intro w hSw
    try dsimp only at hSw
    go_simp
    try with_reducible rfl
  try simp only [Act.put, List.getElem_toArray, List.getElem_cons_succ, List.getElem_cons_zero, List.setIfInBounds_toArray, List.set_cons_zero, List.set_cons_succ]
  refine wpAnyH_ready (rs := [6]) (by as_aux_lemma => kernel_rfl) (by simp) ?_
  refine AllReadyH.cons rfl (fun K hK => ?_) AllReadyH.nil
  go_simp
  refine hK.out _ _ hh2 (fun hh3 => ?_)
  clear hK K
  try simp only [Act.put, List.getElem_toArray, List.getElem_cons_succ, List.getElem_cons_zero, List.setIfInBounds_toArray, List.set_cons_zero, List.set_cons_succ]
  refine wpAnyH_ready (rs := [7]) (by as_aux_lemma => kernel_rfl) (by simp) ?_
  refine AllReadyH.cons rfl (fun K hK => ?_) AllReadyH.nil
  go_simp
  refine hK.out _ _ hh3 (fun hh4 => ?_)
  clear hK K
  try simp only [Act.put, List.getElem_toArray, List.getElem_cons_succ, List.getElem_cons_zero, List.setIfInBounds_toArray, List.set_cons_zero, List.set_cons_succ]
  refine wpAnyH_done (by as_aux_lemma => kernel_rfl) ?_ _
  refine NoPanic.normal ?_
  have HBZ := Lib.hid (hh4.2.2.2.2.2)
  have hbz := HBZ.out
  clear KA
  clear cHK0 cHK1 cHK2 cHK3 cHK4 lHK
  have HB' := Lib.hid (HB.out.trans (hbz.mono HB.out.size))
  have HC' := Lib.hid (HC.out.below hbz)
  have HK' := Lib.hid ((hbz.block _ (lt_of_block HK.out)).trans HK.out)
  have I2' := Lib.hid (I2.out.below hbz)
  have I4' := Lib.hid (I4.out.below hbz)
  clear HB
  have HB := HB'
  clear HB'
  clear HC
  have HC := HC'
  clear HC'
  clear HK
  have HK := HK'
  clear HK'
  clear I2
  have I2 := I2'
  clear I2'
  clear I4
  have I4 := I4'
  clear I4'
  have I6 := Lib.hid (hII6)
  clear hbz HBZ hII6
  have cHK0 := cellOf HK.out 0 (.int .i64 2) rfl
  have cHK1 := cellOf HK.out 1 (.int .i64 100) rfl
  have cHK2 := cellOf HK.out 2 (.int .i64 50) rfl
  have cHK3 := cellOf HK.out 3 (.slice ha 4 hc) rfl
  have cHK4 := cellOf HK.out 4 (.slice ra 3 rc) rfl
  have lHK := lt_of_block HK.out
  go_wp2_with fail
  refine (a_great _ _ _ HC.out).mono ?_
  rintro e w2c ⟨rfl, hb⟩
  clear cHK0 cHK1 cHK2 cHK3 cHK4 lHK
  have HB' := Lib.hid (HB.out.trans (hb.mono HB.out.size))
  have HC' := Lib.hid (HC.out.below hb)
  have HK' := Lib.hid ((hb.block _ (lt_of_block HK.out)).trans HK.out)
  have I2' := Lib.hid (I2.out.below hb)
  have I4' := Lib.hid (I4.out.below hb)
  have I6' := Lib.hid (I6.out.below hb)
  clear HB
  have HB := HB'
  clear HB'
  clear HC
  have HC := HC'
  clear HC'
  clear HK
  have HK := HK'
  clear HK'
  clear I2
  have I2 := I2'
  clear I2'
  clear I4
  have I4 := I4'
  clear I4'
  clear I6
  have I6 := I6'
  clear I6'
  clear hb
  obtain ⟨x3, hx3, zx3, hb⟩ : ∃ V, w2c.alloc (Obj.cells #[.int .i64 5, .int .i64 6] 27) = V ∧ V.heap[w2c.heap.size]? = some (.cells #[.int .i64 5, .int .i64 6] 27 (0, 0)) ∧ Below w2c.heap.size w2c V := ⟨_, rfl, heap_alloc_new _ _, by go_grown⟩
  have HB' := Lib.hid (HB.out.trans (hb.mono HB.out.size))
  have HC' := Lib.hid (HC.out.below hb)
  have HK' := Lib.hid ((hb.block _ (lt_of_block HK.out)).trans HK.out)
  have I2' := Lib.hid (I2.out.below hb)
  have I4' := Lib.hid (I4.out.below hb)
  have I6' := Lib.hid (I6.out.below hb)
  clear HB
  have HB := HB'
  clear HB'
  clear HC
  have HC := HC'
  clear HC'
  clear HK
  have HK := HK'
  clear HK'
  clear I2
  have I2 := I2'
  clear I2'
  clear I4
  have I4 := I4'
  clear I4'
  clear I6
  have I6 := I6'
  clear I6'
  have S8 := Lib.hid zx3
  have Hx3 := Lib.hid hx3
  clear zx3 hb
  have cHK0 : (w2c.alloc (Obj.cells #[.int .i64 5, .int .i64 6] 27)).cell? ⟨w1.heap.size, 0, none⟩ = some (.int .i64 2) := by rw [hx3]; exact cellOf HK.out 0 (.int .i64 2) rfl
  have cHK1 : (w2c.alloc (Obj.cells #[.int .i64 5, .int .i64 6] 27)).cell? ⟨w1.heap.size, 1, none⟩ = some (.int .i64 100) := by rw [hx3]; exact cellOf HK.out 1 (.int .i64 100) rfl
  have cHK2 : (w2c.alloc (Obj.cells #[.int .i64 5, .int .i64 6] 27)).cell? ⟨w1.heap.size, 2, none⟩ = some (.int .i64 50) := by rw [hx3]; exact cellOf HK.out 2 (.int .i64 50) rfl
  have cHK3 : (w2c.alloc (Obj.cells #[.int .i64 5, .int .i64 6] 27)).cell? ⟨w1.heap.size, 3, none⟩ = some (.slice ha 4 hc) := by rw [hx3]; exact cellOf HK.out 3 (.slice ha 4 hc) rfl
  have cHK4 : (w2c.alloc (Obj.cells #[.int .i64 5, .int .i64 6] 27)).cell? ⟨w1.heap.size, 4, none⟩ = some (.slice ra 3 rc) := by rw [hx3]; exact cellOf HK.out 4 (.slice ra 3 rc) rfl
  have lHK : w1.heap.size < (w2c.alloc (Obj.cells #[.int .i64 5, .int .i64 6] 27)).heap.size := by rw [hx3]; exact lt_of_block HK.out
  have cS80 : (w2c.alloc (Obj.cells #[.int .i64 5, .int .i64 6] 27)).cell? ⟨w2c.heap.size, 0, none⟩ = some (.int .i64 5) := by rw [hx3]; exact cellOf S8.out 0 (.int .i64 5) rfl
  have cS81 : (w2c.alloc (Obj.cells #[.int .i64 5, .int .i64 6] 27)).cell? ⟨w2c.heap.size, 1, none⟩ = some (.int .i64 6) := by rw [hx3]; exact cellOf S8.out 1 (.int .i64 6) rfl
  have lS8 : w2c.heap.size < (w2c.alloc (Obj.cells #[.int .i64 5, .int .i64 6] 27)).heap.size := by rw [hx3]; exact lt_of_block S8.out
  clear hx3
  go_wp2_with fail
  rw [Hx3.out]
  clear Hx3
  refine (a_least _ _ _ HC.out).mono ?_
  rintro e w4c ⟨rfl, hb⟩
  clear cHK0 cHK1 cHK2 cHK3 cHK4 lHK
  clear cS80 cS81 lS8
  have HB' := Lib.hid (HB.out.trans (hb.mono HB.out.size))
  have HC' := Lib.hid (HC.out.below hb)
  have HK' := Lib.hid ((hb.block _ (lt_of_block HK.out)).trans HK.out)
  have I2' := Lib.hid (I2.out.below hb)
  have I4' := Lib.hid (I4.out.below hb)
  have I6' := Lib.hid (I6.out.below hb)
  have S8' := Lib.hid ((hb.block _ (lt_of_block S8.out)).trans S8.out)
  clear HB
  have HB := HB'
  clear HB'
  clear HC
  have HC := HC'
  clear HC'
  clear HK
  have HK := HK'
  clear HK'
  clear I2
  have I2 := I2'
  clear I2'
  clear I4
  have I4 := I4'
  clear I4'
  clear I6
  have I6 := I6'
  clear I6'
  clear S8
  have S8 := S8'
  clear S8'
  clear hb
  obtain ⟨x5, hx5, zx5, hb⟩ : ∃ V, w4c.alloc (Obj.cells #[.int .i64 1, .int .i64 16] 27) = V ∧ V.heap[w4c.heap.size]? = some (.cells #[.int .i64 1, .int .i64 16] 27 (0, 0)) ∧ Below w4c.heap.size w4c V := ⟨_, rfl, heap_alloc_new _ _, by go_grown⟩
  have HB' := Lib.hid (HB.out.trans (hb.mono HB.out.size))
  have HC' := Lib.hid (HC.out.below hb)
  have HK' := Lib.hid ((hb.block _ (lt_of_block HK.out)).trans HK.out)
  have I2' := Lib.hid (I2.out.below hb)
  have I4' := Lib.hid (I4.out.below hb)
  have I6' := Lib.hid (I6.out.below hb)
  have S8' := Lib.hid ((hb.block _ (lt_of_block S8.out)).trans S8.out)
  clear HB
  have HB := HB'
  clear HB'
  clear HC
  have HC := HC'
  clear HC'
  clear HK
  have HK := HK'
  clear HK'
  clear I2
  have I2 := I2'
  clear I2'
  clear I4
  have I4 := I4'
  clear I4'
  clear I6
  have I6 := I6'
  clear I6'
  clear S8
  have S8 := S8'
  clear S8'
  have S10 := Lib.hid zx5
  have Hx5 := Lib.hid hx5
  clear zx5 hb
  have cHK0 : (w4c.alloc (Obj.cells #[.int .i64 1, .int .i64 16] 27)).cell? ⟨w1.heap.size, 0, none⟩ = some (.int .i64 2) := by rw [hx5]; exact cellOf HK.out 0 (.int .i64 2) rfl
  have cHK1 : (w4c.alloc (Obj.cells #[.int .i64 1, .int .i64 16] 27)).cell? ⟨w1.heap.size, 1, none⟩ = some (.int .i64 100) := by rw [hx5]; exact cellOf HK.out 1 (.int .i64 100) rfl
  have cHK2 : (w4c.alloc (Obj.cells #[.int .i64 1, .int .i64 16] 27)).cell? ⟨w1.heap.size, 2, none⟩ = some (.int .i64 50) := by rw [hx5]; exact cellOf HK.out 2 (.int .i64 50) rfl
  have cHK3 : (w4c.alloc (Obj.cells #[.int .i64 1, .int .i64 16] 27)).cell? ⟨w1.heap.size, 3, none⟩ = some (.slice ha 4 hc) := by rw [hx5]; exact cellOf HK.out 3 (.slice ha 4 hc) rfl
  have cHK4 : (w4c.alloc (Obj.cells #[.int .i64 1, .int .i64 16] 27)).cell? ⟨w1.heap.size, 4, none⟩ = some (.slice ra 3 rc) := by rw [hx5]; exact cellOf HK.out 4 (.slice ra 3 rc) rfl
  have lHK : w1.heap.size < (w4c.alloc (Obj.cells #[.int .i64 1, .int .i64 16] 27)).heap.size := by rw [hx5]; exact lt_of_block HK.out
  have cS80 : (w4c.alloc (Obj.cells #[.int .i64 1, .int .i64 16] 27)).cell? ⟨w2c.heap.size, 0, none⟩ = some (.int .i64 5) := by rw [hx5]; exact cellOf S8.out 0 (.int .i64 5) rfl
  have cS81 : (w4c.alloc (Obj.cells #[.int .i64 1, .int .i64 16] 27)).cell? ⟨w2c.heap.size, 1, none⟩ = some (.int .i64 6) := by rw [hx5]; exact cellOf S8.out 1 (.int .i64 6) rfl
  have lS8 : w2c.heap.size < (w4c.alloc (Obj.cells #[.int .i64 1, .int .i64 16] 27)).heap.size := by rw [hx5]; exact lt_of_block S8.out
  have cS100 : (w4c.alloc (Obj.cells #[.int .i64 1, .int .i64 16] 27)).cell? ⟨w4c.heap.size, 0, none⟩ = some (.int .i64 1) := by rw [hx5]; exact cellOf S10.out 0 (.int .i64 1) rfl
  have cS101 : (w4c.alloc (Obj.cells #[.int .i64 1, .int .i64 16] 27)).cell? ⟨w4c.heap.size, 1, none⟩ = some (.int .i64 16) := by rw [hx5]; exact cellOf S10.out 1 (.int .i64 16) rfl
  have lS10 : w4c.heap.size < (w4c.alloc (Obj.cells #[.int .i64 1, .int .i64 16] 27)).heap.size := by rw [hx5]; exact lt_of_block S10.out
  clear hx5
  go_wp2_with fail
  rw [Hx5.out]
  clear Hx5
  clear cHK0 cHK1 cHK2 cHK3 cHK4 lHK
  clear cS80 cS81 lS8
  clear cS100 cS101 lS10
  have cHK0 := cellOf HK.out 0 (.int .i64 2) rfl
  have cHK1 := cellOf HK.out 1 (.int .i64 100) rfl
  have cHK2 := cellOf HK.out 2 (.int .i64 50) rfl
  have cHK3 := cellOf HK.out 3 (.slice ha 4 hc) rfl
  have cHK4 := cellOf HK.out 4 (.slice ra 3 rc) rfl
  have lHK := lt_of_block HK.out
  have cS80 := cellOf S8.out 0 (.int .i64 5) rfl
  have cS81 := cellOf S8.out 1 (.int .i64 6) rfl
  have lS8 := lt_of_block S8.out
  have cS100 := cellOf S10.out 0 (.int .i64 1) rfl
  have cS101 := cellOf S10.out 1 (.int .i64 16) rfl
  have lS10 := lt_of_block S10.out
  have KA : ∀ W' : World, Below x5.heap.size x5 W' → (W'.cell? ⟨w1.heap.size, 0, none⟩ = some (.int .i64 2) ∧ W'.cell? ⟨w1.heap.size, 1, none⟩ = some (.int .i64 100) ∧ W'.cell? ⟨w1.heap.size, 2, none⟩ = some (.int .i64 50) ∧ W'.cell? ⟨w1.heap.size, 3, none⟩ = some (.slice ha 4 hc) ∧ W'.cell? ⟨w1.heap.size, 4, none⟩ = some (.slice ra 3 rc) ∧ W'.cell? ⟨w2c.heap.size, 0, none⟩ = some (.int .i64 5) ∧ W'.cell? ⟨w2c.heap.size, 1, none⟩ = some (.int .i64 6) ∧ W'.cell? ⟨w4c.heap.size, 0, none⟩ = some (.int .i64 1) ∧ W'.cell? ⟨w4c.heap.size, 1, none⟩ = some (.int .i64 16) ∧ Below x5.heap.size x5 W') := fun W' hb => ⟨keepK cHK0 hb, keepK cHK1 hb, keepK cHK2 hb, keepK cHK3 hb, keepK cHK4 hb, keepK cS80 hb, keepK cS81 hb, keepK cS100 hb, keepK cS101 hb, hb⟩
  refine wp_region_noPanic ?_
  refine wp_region_held_drew (S := (fun W' => W'.cell? ⟨w1.heap.size, 0, none⟩ = some (.int .i64 2) ∧ W'.cell? ⟨w1.heap.size, 1, none⟩ = some (.int .i64 100) ∧ W'.cell? ⟨w1.heap.size, 2, none⟩ = some (.int .i64 50) ∧ W'.cell? ⟨w1.heap.size, 3, none⟩ = some (.slice ha 4 hc) ∧ W'.cell? ⟨w1.heap.size, 4, none⟩ = some (.slice ra 3 rc) ∧ W'.cell? ⟨w2c.heap.size, 0, none⟩ = some (.int .i64 5) ∧ W'.cell? ⟨w2c.heap.size, 1, none⟩ = some (.int .i64 6) ∧ W'.cell? ⟨w4c.heap.size, 0, none⟩ = some (.int .i64 1) ∧ W'.cell? ⟨w4c.heap.size, 1, none⟩ = some (.int .i64 16) ∧ Below x5.heap.size x5 W')) (by kernel_rfl) ?_ (fun hh0 => ?_)
  · exact KA _ (Below.refl _ _).drew
  refine wpAnyH_take (i := 0) (v := ?_) rfl (by as_aux_lemma => kernel_rfl) (by as_aux_lemma => kernel_rfl) (by as_aux_lemma => kernel_rfl) (fun _ _ _ h => h) (Or.inl ⟨by rfl, ?_⟩) (by assumption) ?_
  rotate_left
  · intro w hSw
    try dsimp only at hSw
    go_simp
    try with_reducible rfl
  try simp only [Act.put, List.getElem_toArray, List.getElem_cons_succ, List.getElem_cons_zero, List.setIfInBounds_toArray, List.set_cons_zero, List.set_cons_succ]
  refine wpAnyH_ready (rs := [1]) (by as_aux_lemma => kernel_rfl) (by simp) ?_
  refine AllReadyH.cons rfl (fun K hK => ?_) AllReadyH.nil
  go_simp
  refine (lmark_any 3 41 41 _).mono ?_
  rintro e v70 ⟨rfl, hv70⟩
  refine hK.out _ _ (KA _ (Below.trans hh0.2.2.2.2.2.2.2.2.2 (Below.mono hv70 (hh0.2.2.2.2.2.2.2.2.2).size))) (fun hh1 => ?_)
  clear hK K
  try simp only [Act.put, List.getElem_toArray, List.getElem_cons_succ, List.getElem_cons_zero, List.setIfInBounds_toArray, List.set_cons_zero, List.set_cons_succ]
  refine wpAnyH_ready (rs := [2]) (by as_aux_lemma => kernel_rfl) (by simp) ?_
  refine AllReadyH.cons rfl (fun K hK => ?_) AllReadyH.nil
  go_simp
  refine hK.out _ _ (KA _ ((hh1.2.2.2.2.2.2.2.2.2).alloc (hh1.2.2.2.2.2.2.2.2.2).size _)) (fun hh2 => ?_)
  clear hK K
  try simp only [Act.put, List.getElem_toArray, List.getElem_cons_succ, List.getElem_cons_zero, List.setIfInBounds_toArray, List.set_cons_zero, List.set_cons_succ]
  refine wpAnyH_ready (rs := [3]) (by as_aux_lemma => kernel_rfl) (by simp) ?_
  refine AllReadyH.cons rfl (fun K hK => ?_) AllReadyH.nil
  go_simp
  refine (a_scales _ _ _ _ (HC.out.below hh2.2.2.2.2.2.2.2.2.2) (marks_blk [⟨3, 41, 41⟩] rfl (by decide) (heap_alloc_new _ _))).mono ?_
  rintro e y7 ⟨P12a, P12c, rfl, hP12, hy7⟩
  refine hK.out _ _ (KA _ (Below.trans hh2.2.2.2.2.2.2.2.2.2 (Below.mono hy7 (hh2.2.2.2.2.2.2.2.2.2).size))) (fun hh3 => ?_)
  clear hK K
  try simp only [Act.put, List.getElem_toArray, List.getElem_cons_succ, List.getElem_cons_zero, List.setIfInBounds_toArray, List.set_cons_zero, List.set_cons_succ]
  refine wpAnyH_take (i := 4) (v := ?_) rfl (by as_aux_lemma => kernel_rfl) (by as_aux_lemma => kernel_rfl) (by as_aux_lemma => kernel_rfl) (fun _ _ _ h => h) (Or.inl ⟨by rfl, ?_⟩) (by assumption) ?_
  rotate_left
  · intro w hSw
    try dsimp only at hSw
    go_simp
    try with_reducible rfl
  try simp only [Act.put, List.getElem_toArray, List.getElem_cons_succ, List.getElem_cons_zero, List.setIfInBounds_toArray, List.set_cons_zero, List.set_cons_succ]
  refine wpAnyH_take (i := 5) (v := ?_) rfl (by as_aux_lemma => kernel_rfl) (by as_aux_lemma => kernel_rfl) (by as_aux_lemma => kernel_rfl) (fun _ _ _ h => h) (Or.inl ⟨by rfl, ?_⟩) (by assumption) ?_
  rotate_left
  · intro w hSw
    try dsimp only at hSw
    go_simp
    try with_reducible rfl
  try simp only [Act.put, List.getElem_toArray, List.getElem_cons_succ, List.getElem_cons_zero, List.setIfInBounds_toArray, List.set_cons_zero, List.set_cons_succ]
  refine wpAnyH_take (i := 6) (v := ?_) rfl (by as_aux_lemma => kernel_rfl) (by as_aux_lemma => kernel_rfl) (by as_aux_lemma => kernel_rfl) (fun _ _ _ h => h) (Or.inl ⟨by rfl, ?_⟩) (by assumption) ?_
  rotate_left
  · intro w hSw
    try dsimp only at hSw
    go_simp
    try with_reducible rfl
  try simp only [Act.put, List.getElem_toArray, List.getElem_cons_succ, List.getElem_cons_zero, List.setIfInBounds_toArray, List.set_cons_zero, List.set_cons_succ]
  refine wpAnyH_ready (rs := [7]) (by as_aux_lemma => kernel_rfl) (by simp) ?_
  refine AllReadyH.cons rfl (fun K hK => ?_) AllReadyH.nil
  go_simp
  refine hK.out _ _ hh3 (fun hh4 => ?_)
  clear hK K
  try simp only [Act.put, List.getElem_toArray, List.getElem_cons_succ, List.getElem_cons_zero, List.setIfInBounds_toArray, List.set_cons_zero, List.set_cons_succ]
  refine wpAnyH_ready (rs := [8]) (by as_aux_lemma => kernel_rfl) (by simp) ?_
  refine AllReadyH.cons rfl (fun K hK => ?_) AllReadyH.nil
  go_simp
  refine hK.out _ _ hh4 (fun hh5 => ?_)
  clear hK K
  try simp only [Act.put, List.getElem_toArray, List.getElem_cons_succ, List.getElem_cons_zero, List.setIfInBounds_toArray, List.set_cons_zero, List.set_cons_succ]
  refine wpAnyH_done (by as_aux_lemma => kernel_rfl) ?_ _
  refine NoPanic.normal ?_
  have HBZ := Lib.hid (hh5.2.2.2.2.2.2.2.2.2)
  have hbz := HBZ.out
  clear KA
  clear cHK0 cHK1 cHK2 cHK3 cHK4 lHK
  clear cS80 cS81 lS8
  clear cS100 cS101 lS10
  have HB' := Lib.hid (HB.out.trans (hbz.mono HB.out.size))
  have HC' := Lib.hid (HC.out.below hbz)
  have HK' := Lib.hid ((hbz.block _ (lt_of_block HK.out)).trans HK.out)
  have I2' := Lib.hid (I2.out.below hbz)
  have I4' := Lib.hid (I4.out.below hbz)
  have I6' := Lib.hid (I6.out.below hbz)
  have S8' := Lib.hid ((hbz.block _ (lt_of_block S8.out)).trans S8.out)
  have S10' := Lib.hid ((hbz.block _ (lt_of_block S10.out)).trans S10.out)
  clear HB
  have HB := HB'
  clear HB'
  clear HC
  have HC := HC'
  clear HC'
  clear HK
  have HK := HK'
  clear HK'
  clear I2
  have I2 := I2'
  clear I2'
  clear I4
  have I4 := I4'
  clear I4'
  clear I6
  have I6 := I6'
  clear I6'
  clear S8
  have S8 := S8'
  clear S8'
  clear S10
  have S10 := S10'
  clear S10'
  have P12 := Lib.hid (hP12)
  clear hbz HBZ hP12
  go_wp2_with fail
  have cHK0 := cellOf HK.out 0 (.int .i64 2) rfl
  have cHK1 := cellOf HK.out 1 (.int .i64 100) rfl
  have cHK2 := cellOf HK.out 2 (.int .i64 50) rfl
  have cHK3 := cellOf HK.out 3 (.slice ha 4 hc) rfl
  have cHK4 := cellOf HK.out 4 (.slice ra 3 rc) rfl
  have lHK := lt_of_block HK.out
  have cS80 := cellOf S8.out 0 (.int .i64 5) rfl
  have cS81 := cellOf S8.out 1 (.int .i64 6) rfl
  have lS8 := lt_of_block S8.out
  have cS100 := cellOf S10.out 0 (.int .i64 1) rfl
  have cS101 := cellOf S10.out 1 (.int .i64 16) rfl
  have lS10 := lt_of_block S10.out
  have KA : ∀ W' : World, Below y7.heap.size y7 W' → (W'.cell? ⟨w1.heap.size, 0, none⟩ = some (.int .i64 2) ∧ W'.cell? ⟨w1.heap.size, 1, none⟩ = some (.int .i64 100) ∧ W'.cell? ⟨w1.heap.size, 2, none⟩ = some (.int .i64 50) ∧ W'.cell? ⟨w1.heap.size, 3, none⟩ = some (.slice ha 4 hc) ∧ W'.cell? ⟨w1.heap.size, 4, none⟩ = some (.slice ra 3 rc) ∧ W'.cell? ⟨w2c.heap.size, 0, none⟩ = some (.int .i64 5) ∧ W'.cell? ⟨w2c.heap.size, 1, none⟩ = some (.int .i64 6) ∧ W'.cell? ⟨w4c.heap.size, 0, none⟩ = some (.int .i64 1) ∧ W'.cell? ⟨w4c.heap.size, 1, none⟩ = some (.int .i64 16) ∧ Below y7.heap.size y7 W') := fun W' hb => ⟨keepK cHK0 hb, keepK cHK1 hb, keepK cHK2 hb, keepK cHK3 hb, keepK cHK4 hb, keepK cS80 hb, keepK cS81 hb, keepK cS100 hb, keepK cS101 hb, hb⟩
  refine wp_region_noPanic ?_
  refine wp_region_held_drew (S := (fun W' => W'.cell? ⟨w1.heap.size, 0, none⟩ = some (.int .i64 2) ∧ W'.cell? ⟨w1.heap.size, 1, none⟩ = some (.int .i64 100) ∧ W'.cell? ⟨w1.heap.size, 2, none⟩ = some (.int .i64 50) ∧ W'.cell? ⟨w1.heap.size, 3, none⟩ = some (.slice ha 4 hc) ∧ W'.cell? ⟨w1.heap.size, 4, none⟩ = some (.slice ra 3 rc) ∧ W'.cell? ⟨w2c.heap.size, 0, none⟩ = some (.int .i64 5) ∧ W'.cell? ⟨w2c.heap.size, 1, none⟩ = some (.int .i64 6) ∧ W'.cell? ⟨w4c.heap.size, 0, none⟩ = some (.int .i64 1) ∧ W'.cell? ⟨w4c.heap.size, 1, none⟩ = some (.int .i64 16) ∧ Below y7.heap.size y7 W')) (by kernel_rfl) ?_ (fun hh0 => ?_)
  · exact KA _ (Below.refl _ _).drew
  refine wpAnyH_take (i := 0) (v := ?_) rfl (by as_aux_lemma => kernel_rfl) (by as_aux_lemma => kernel_rfl) (by as_aux_lemma => kernel_rfl) (fun _ _ _ h => h) (Or.inl ⟨by rfl, ?_⟩) (by assumption) ?_
  rotate_left
  · intro w hSw
    try dsimp only at hSw
    go_simp
    try with_reducible rfl
  try simp only [Act.put, List.getElem_toArray, List.getElem_cons_succ, List.getElem_cons_zero, List.setIfInBounds_toArray, List.set_cons_zero, List.set_cons_succ]
  refine wpAnyH_ready (rs := [1]) (by as_aux_lemma => kernel_rfl) (by simp) ?_
  refine AllReadyH.cons rfl (fun K hK => ?_) AllReadyH.nil
  go_simp
  refine (of_any 1 2 _).mono ?_
  rintro e v80 ⟨rfl, hv80⟩
  refine hK.out _ _ (KA _ (Below.trans hh0.2.2.2.2.2.2.2.2.2 (Below.mono hv80 (hh0.2.2.2.2.2.2.2.2.2).size))) (fun hh1 => ?_)
  clear hK K
  try simp only [Act.put, List.getElem_toArray, List.getElem_cons_succ, List.getElem_cons_zero, List.setIfInBounds_toArray, List.set_cons_zero, List.set_cons_succ]
  refine wpAnyH_ready (rs := [2]) (by as_aux_lemma => kernel_rfl) (by simp) ?_
  refine AllReadyH.cons rfl (fun K hK => ?_) AllReadyH.nil
  go_simp
  refine (of_any 2 3 _).mono ?_
  rintro e v81 ⟨rfl, hv81⟩
  refine hK.out _ _ (KA _ (Below.trans hh1.2.2.2.2.2.2.2.2.2 (Below.mono hv81 (hh1.2.2.2.2.2.2.2.2.2).size))) (fun hh2 => ?_)
  clear hK K
  try simp only [Act.put, List.getElem_toArray, List.getElem_cons_succ, List.getElem_cons_zero, List.setIfInBounds_toArray, List.set_cons_zero, List.set_cons_succ]
  refine wpAnyH_ready (rs := [3]) (by as_aux_lemma => kernel_rfl) (by simp) ?_
  refine AllReadyH.cons rfl (fun K hK => ?_) AllReadyH.nil
  go_simp
  refine (a_apart _ _ _ (HC.out.below hh2.2.2.2.2.2.2.2.2.2)).mono ?_
  rintro e y8 ⟨I14a, I14c, rfl, hII14, hy8⟩
  refine hK.out _ _ (KA _ (Below.trans hh2.2.2.2.2.2.2.2.2.2 (Below.mono hy8 (hh2.2.2.2.2.2.2.2.2.2).size))) (fun hh3 => ?_)
  clear hK K
  try simp only [Act.put, List.getElem_toArray, List.getElem_cons_succ, List.getElem_cons_zero, List.setIfInBounds_toArray, List.set_cons_zero, List.set_cons_succ]
  refine wpAnyH_take (i := 4) (v := ?_) rfl (by as_aux_lemma => kernel_rfl) (by as_aux_lemma => kernel_rfl) (by as_aux_lemma => kernel_rfl) (fun _ _ _ h => h) (Or.inl ⟨by rfl, ?_⟩) (by assumption) ?_
  rotate_left
  · intro w hSw
    try dsimp only at hSw
    go_simp
    try with_reducible rfl
  try simp only [Act.put, List.getElem_toArray, List.getElem_cons_succ, List.getElem_cons_zero, List.setIfInBounds_toArray, List.set_cons_zero, List.set_cons_succ]
  refine wpAnyH_take (i := 5) (v := ?_) rfl (by as_aux_lemma => kernel_rfl) (by as_aux_lemma => kernel_rfl) (by as_aux_lemma => kernel_rfl) (fun _ _ _ h => h) (Or.inl ⟨by rfl, ?_⟩) (by assumption) ?_
  rotate_left
  · intro w hSw
    try dsimp only at hSw
    go_simp
    try with_reducible rfl
  try simp only [Act.put, List.getElem_toArray, List.getElem_cons_succ, List.getElem_cons_zero, List.setIfInBounds_toArray, List.set_cons_zero, List.set_cons_succ]
  refine wpAnyH_take (i := 6) (v := ?_) rfl (by as_aux_lemma => kernel_rfl) (by as_aux_lemma => kernel_rfl) (by as_aux_lemma => kernel_rfl) (fun _ _ _ h => h) (Or.inl ⟨by rfl, ?_⟩) (by assumption) ?_
  rotate_left
  · intro w hSw
    try dsimp only at hSw
    go_simp
    try with_reducible rfl
  try simp only [Act.put, List.getElem_toArray, List.getElem_cons_succ, List.getElem_cons_zero, List.setIfInBounds_toArray, List.set_cons_zero, List.set_cons_succ]
  refine wpAnyH_ready (rs := [7]) (by as_aux_lemma => kernel_rfl) (by simp) ?_
  refine AllReadyH.cons rfl (fun K hK => ?_) AllReadyH.nil
  go_simp
  refine hK.out _ _ hh3 (fun hh4 => ?_)
  clear hK K
  try simp only [Act.put, List.getElem_toArray, List.getElem_cons_succ, List.getElem_cons_zero, List.setIfInBounds_toArray, List.set_cons_zero, List.set_cons_succ]
  refine wpAnyH_ready (rs := [8]) (by as_aux_lemma => kernel_rfl) (by simp) ?_
  refine AllReadyH.cons rfl (fun K hK => ?_) AllReadyH.nil
  go_simp
  refine hK.out _ _ hh4 (fun hh5 => ?_)
  clear hK K
  try simp only [Act.put, List.getElem_toArray, List.getElem_cons_succ, List.getElem_cons_zero, List.setIfInBounds_toArray, List.set_cons_zero, List.set_cons_succ]
  refine wpAnyH_done (by as_aux_lemma => kernel_rfl) ?_ _
  refine NoPanic.normal ?_
  have HBZ := Lib.hid (hh5.2.2.2.2.2.2.2.2.2)
  have hbz := HBZ.out
  clear KA
  clear cHK0 cHK1 cHK2 cHK3 cHK4 lHK
  clear cS80 cS81 lS8
  clear cS100 cS101 lS10
  have HB' := Lib.hid (HB.out.trans (hbz.mono HB.out.size))
  have HC' := Lib.hid (HC.out.below hbz)
  have HK' := Lib.hid ((hbz.block _ (lt_of_block HK.out)).trans HK.out)
  have I2' := Lib.hid (I2.out.below hbz)
  have I4' := Lib.hid (I4.out.below hbz)
  have I6' := Lib.hid (I6.out.below hbz)
  have S8' := Lib.hid ((hbz.block _ (lt_of_block S8.out)).trans S8.out)
  have S10' := Lib.hid ((hbz.block _ (lt_of_block S10.out)).trans S10.out)
  have P12' := Lib.hid (P12.out.below hbz)
  clear HB
  have HB := HB'
  clear HB'
  clear HC
  have HC := HC'
  clear HC'
  clear HK
  have HK := HK'
  clear HK'
  clear I2
  have I2 := I2'
  clear I2'
  clear I4
  have I4 := I4'
  clear I4'
  clear I6
  have I6 := I6'
  clear I6'
  clear S8
  have S8 := S8'
  clear S8'
  clear S10
  have S10 := S10'
  clear S10'
  clear P12
  have P12 := P12'
  clear P12'
  have I14 := Lib.hid (hII14)
  clear hbz HBZ hII14
  go_wp2_with fail
  have cHK0 := cellOf HK.out 0 (.int .i64 2) rfl
  have cHK1 := cellOf HK.out 1 (.int .i64 100) rfl
  have cHK2 := cellOf HK.out 2 (.int .i64 50) rfl
  have cHK3 := cellOf HK.out 3 (.slice ha 4 hc) rfl
  have cHK4 := cellOf HK.out 4 (.slice ra 3 rc) rfl
  have lHK := lt_of_block HK.out
  have cS80 := cellOf S8.out 0 (.int .i64 5) rfl
  have cS81 := cellOf S8.out 1 (.int .i64 6) rfl
  have lS8 := lt_of_block S8.out
  have cS100 := cellOf S10.out 0 (.int .i64 1) rfl
  have cS101 := cellOf S10.out 1 (.int .i64 16) rfl
  have lS10 := lt_of_block S10.out
  have KA : ∀ W' : World, Below y8.heap.size y8 W' → (W'.cell? ⟨w1.heap.size, 0, none⟩ = some (.int .i64 2) ∧ W'.cell? ⟨w1.heap.size, 1, none⟩ = some (.int .i64 100) ∧ W'.cell? ⟨w1.heap.size, 2, none⟩ = some (.int .i64 50) ∧ W'.cell? ⟨w1.heap.size, 3, none⟩ = some (.slice ha 4 hc) ∧ W'.cell? ⟨w1.heap.size, 4, none⟩ = some (.slice ra 3 rc) ∧ W'.cell? ⟨w2c.heap.size, 0, none⟩ = some (.int .i64 5) ∧ W'.cell? ⟨w2c.heap.size, 1, none⟩ = some (.int .i64 6) ∧ W'.cell? ⟨w4c.heap.size, 0, none⟩ = some (.int .i64 1) ∧ W'.cell? ⟨w4c.heap.size, 1, none⟩ = some (.int .i64 16) ∧ Below y8.heap.size y8 W') := fun W' hb => ⟨keepK cHK0 hb, keepK cHK1 hb, keepK cHK2 hb, keepK cHK3 hb, keepK cHK4 hb, keepK cS80 hb, keepK cS81 hb, keepK cS100 hb, keepK cS101 hb, hb⟩
  refine wp_region_noPanic ?_
  refine wp_region_held_drew (S := (fun W' => W'.cell? ⟨w1.heap.size, 0, none⟩ = some (.int .i64 2) ∧ W'.cell? ⟨w1.heap.size, 1, none⟩ = some (.int .i64 100) ∧ W'.cell? ⟨w1.heap.size, 2, none⟩ = some (.int .i64 50) ∧ W'.cell? ⟨w1.heap.size, 3, none⟩ = some (.slice ha 4 hc) ∧ W'.cell? ⟨w1.heap.size, 4, none⟩ = some (.slice ra 3 rc) ∧ W'.cell? ⟨w2c.heap.size, 0, none⟩ = some (.int .i64 5) ∧ W'.cell? ⟨w2c.heap.size, 1, none⟩ = some (.int .i64 6) ∧ W'.cell? ⟨w4c.heap.size, 0, none⟩ = some (.int .i64 1) ∧ W'.cell? ⟨w4c.heap.size, 1, none⟩ = some (.int .i64 16) ∧ Below y8.heap.size y8 W')) (by kernel_rfl) ?_ (fun hh0 => ?_)
  · exact KA _ (Below.refl _ _).drew
  refine wpAnyH_take (i := 0) (v := ?_) rfl (by as_aux_lemma => kernel_rfl) (by as_aux_lemma => kernel_rfl) (by as_aux_lemma => kernel_rfl) (fun _ _ _ h => h) (Or.inl ⟨by rfl, ?_⟩) (by assumption) ?_
  rotate_left
  · intro w hSw
    try dsimp only at hSw
    go_simp
    try with_reducible rfl
  try simp only [Act.put, List.getElem_toArray, List.getElem_cons_succ, List.getElem_cons_zero, List.setIfInBounds_toArray, List.set_cons_zero, List.set_cons_succ]
  refine wpAnyH_ready (rs := [1]) (by as_aux_lemma => kernel_rfl) (by simp) ?_
  refine AllReadyH.cons rfl (fun K hK => ?_) AllReadyH.nil
  go_simp
  refine (of_any 1 2 _).mono ?_
  rintro e v90 ⟨rfl, hv90⟩
  refine hK.out _ _ (KA _ (Below.trans hh0.2.2.2.2.2.2.2.2.2 (Below.mono hv90 (hh0.2.2.2.2.2.2.2.2.2).size))) (fun hh1 => ?_)
  clear hK K
  try simp only [Act.put, List.getElem_toArray, List.getElem_cons_succ, List.getElem_cons_zero, List.setIfInBounds_toArray, List.set_cons_zero, List.set_cons_succ]
  refine wpAnyH_ready (rs := [2]) (by as_aux_lemma => kernel_rfl) (by simp) ?_
  refine AllReadyH.cons rfl (fun K hK => ?_) AllReadyH.nil
  go_simp
  refine (of_any 3 5 _).mono ?_
  rintro e v91 ⟨rfl, hv91⟩
  refine hK.out _ _ (KA _ (Below.trans hh1.2.2.2.2.2.2.2.2.2 (Below.mono hv91 (hh1.2.2.2.2.2.2.2.2.2).size))) (fun hh2 => ?_)
  clear hK K
  try simp only [Act.put, List.getElem_toArray, List.getElem_cons_succ, List.getElem_cons_zero, List.setIfInBounds_toArray, List.set_cons_zero, List.set_cons_succ]
  refine wpAnyH_ready (rs := [3]) (by as_aux_lemma => kernel_rfl) (by simp) ?_
  refine AllReadyH.cons rfl (fun K hK => ?_) AllReadyH.nil
  go_simp
  refine (of_any 2 3 _).mono ?_
  rintro e v92 ⟨rfl, hv92⟩
  refine hK.out _ _ (KA _ (Below.trans hh2.2.2.2.2.2.2.2.2.2 (Below.mono hv92 (hh2.2.2.2.2.2.2.2.2.2).size))) (fun hh3 => ?_)
  clear hK K
  try simp only [Act.put, List.getElem_toArray, List.getElem_cons_succ, List.getElem_cons_zero, List.setIfInBounds_toArray, List.set_cons_zero, List.set_cons_succ]
  refine wpAnyH_ready (rs := [4]) (by as_aux_lemma => kernel_rfl) (by simp) ?_
  refine AllReadyH.cons rfl (fun K hK => ?_) AllReadyH.nil
  go_simp
  refine hK.out _ _ (KA _ ((hh3.2.2.2.2.2.2.2.2.2).alloc (hh3.2.2.2.2.2.2.2.2.2).size _)) (fun hh4 => ?_)
  clear hK K
  try simp only [Act.put, List.getElem_toArray, List.getElem_cons_succ, List.getElem_cons_zero, List.setIfInBounds_toArray, List.set_cons_zero, List.set_cons_succ]
  refine wpAnyH_ready (rs := [5]) (by as_aux_lemma => kernel_rfl) (by simp) ?_
  refine AllReadyH.cons rfl (fun K hK => ?_) AllReadyH.nil
  go_simp
  refine (a_tell _ _ _ _ (HC.out.below hh4.2.2.2.2.2.2.2.2.2) (pairs_blk [(1, 2), (3, 5), (2, 3)] rfl (by decide) (heap_alloc_new _ _))).mono ?_
  rintro e y9 ⟨I16a, I16c, rfl, hI16, hy9⟩
  refine hK.out _ _ (KA _ (Below.trans hh4.2.2.2.2.2.2.2.2.2 (Below.mono hy9 (hh4.2.2.2.2.2.2.2.2.2).size))) (fun hh5 => ?_)
  clear hK K
  try simp only [Act.put, List.getElem_toArray, List.getElem_cons_succ, List.getElem_cons_zero, List.setIfInBounds_toArray, List.set_cons_zero, List.set_cons_succ]
  refine wpAnyH_take (i := 6) (v := ?_) rfl (by as_aux_lemma => kernel_rfl) (by as_aux_lemma => kernel_rfl) (by as_aux_lemma => kernel_rfl) (fun _ _ _ h => h) (Or.inl ⟨by rfl, ?_⟩) (by assumption) ?_
  rotate_left
  · intro w hSw
    try dsimp only at hSw
    go_simp
    try with_reducible rfl
  try simp only [Act.put, List.getElem_toArray, List.getElem_cons_succ, List.getElem_cons_zero, List.setIfInBounds_toArray, List.set_cons_zero, List.set_cons_succ]
  refine wpAnyH_take (i := 7) (v := ?_) rfl (by as_aux_lemma => kernel_rfl) (by as_aux_lemma => kernel_rfl) (by as_aux_lemma => kernel_rfl) (fun _ _ _ h => h) (Or.inl ⟨by rfl, ?_⟩) (by assumption) ?_
  rotate_left
  · intro w hSw
    try dsimp only at hSw
    go_simp
    try with_reducible rfl
  try simp only [Act.put, List.getElem_toArray, List.getElem_cons_succ, List.getElem_cons_zero, List.setIfInBounds_toArray, List.set_cons_zero, List.set_cons_succ]
  refine wpAnyH_take (i := 8) (v := ?_) rfl (by as_aux_lemma => kernel_rfl) (by as_aux_lemma => kernel_rfl) (by as_aux_lemma => kernel_rfl) (fun _ _ _ h => h) (Or.inl ⟨by rfl, ?_⟩) (by assumption) ?_
  rotate_left
  · intro w hSw
    try dsimp only at hSw
    go_simp
    try with_reducible rfl
  try simp only [Act.put, List.getElem_toArray, List.getElem_cons_succ, List.getElem_cons_zero, List.setIfInBounds_toArray, List.set_cons_zero, List.set_cons_succ]
  refine wpAnyH_ready (rs := [9]) (by as_aux_lemma => kernel_rfl) (by simp) ?_
  refine AllReadyH.cons rfl (fun K hK => ?_) AllReadyH.nil
  go_simp
  refine hK.out _ _ hh5 (fun hh6 => ?_)
  clear hK K
  try simp only [Act.put, List.getElem_toArray, List.getElem_cons_succ, List.getElem_cons_zero, List.setIfInBounds_toArray, List.set_cons_zero, List.set_cons_succ]
  refine wpAnyH_ready (rs := [10]) (by as_aux_lemma => kernel_rfl) (by simp) ?_
  refine AllReadyH.cons rfl (fun K hK => ?_) AllReadyH.nil
  go_simp
  refine hK.out _ _ hh6 (fun hh7 => ?_)
  clear hK K
  try simp only [Act.put, List.getElem_toArray, List.getElem_cons_succ, List.getElem_cons_zero, List.setIfInBounds_toArray, List.set_cons_zero, List.set_cons_succ]
  refine wpAnyH_done (by as_aux_lemma => kernel_rfl) ?_ _
  refine NoPanic.normal ?_
  have HBZ := Lib.hid (hh7.2.2.2.2.2.2.2.2.2)
  have hbz := HBZ.out
  clear KA
  clear cHK0 cHK1 cHK2 cHK3 cHK4 lHK
  clear cS80 cS81 lS8
  clear cS100 cS101 lS10
  have HB' := Lib.hid (HB.out.trans (hbz.mono HB.out.size))
  have HC' := Lib.hid (HC.out.below hbz)
  have HK' := Lib.hid ((hbz.block _ (lt_of_block HK.out)).trans HK.out)
  have I2' := Lib.hid (I2.out.below hbz)
  have I4' := Lib.hid (I4.out.below hbz)
  have I6' := Lib.hid (I6.out.below hbz)
  have S8' := Lib.hid ((hbz.block _ (lt_of_block S8.out)).trans S8.out)
  have S10' := Lib.hid ((hbz.block _ (lt_of_block S10.out)).trans S10.out)
  have P12' := Lib.hid (P12.out.below hbz)
  have I14' := Lib.hid (I14.out.below hbz)
  clear HB
  have HB := HB'
  clear HB'
  clear HC
  have HC := HC'
  clear HC'
  clear HK
  have HK := HK'
  clear HK'
  clear I2
  have I2 := I2'
  clear I2'
  clear I4
  have I4 := I4'
  clear I4'
  clear I6
  have I6 := I6'
  clear I6'
  clear S8
  have S8 := S8'
  clear S8'
  clear S10
  have S10 := S10'
  clear S10'
  clear P12
  have P12 := P12'
  clear P12'
  clear I14
  have I14 := I14'
  clear I14'
  have I16 := Lib.hid (hI16)
  clear hbz HBZ hI16
  go_wp2_with fail
  have cHK0 := cellOf HK.out 0 (.int .i64 2) rfl
  have cHK1 := cellOf HK.out 1 (.int .i64 100) rfl
  have cHK2 := cellOf HK.out 2 (.int .i64 50) rfl
  have cHK3 := cellOf HK.out 3 (.slice ha 4 hc) rfl
  have cHK4 := cellOf HK.out 4 (.slice ra 3 rc) rfl
  have lHK := lt_of_block HK.out
  have cS80 := cellOf S8.out 0 (.int .i64 5) rfl
  have cS81 := cellOf S8.out 1 (.int .i64 6) rfl
  have lS8 := lt_of_block S8.out
  have cS100 := cellOf S10.out 0 (.int .i64 1) rfl
  have cS101 := cellOf S10.out 1 (.int .i64 16) rfl
  have lS10 := lt_of_block S10.out
  have KA : ∀ W' : World, Below y9.heap.size y9 W' → (W'.cell? ⟨w1.heap.size, 0, none⟩ = some (.int .i64 2) ∧ W'.cell? ⟨w1.heap.size, 1, none⟩ = some (.int .i64 100) ∧ W'.cell? ⟨w1.heap.size, 2, none⟩ = some (.int .i64 50) ∧ W'.cell? ⟨w1.heap.size, 3, none⟩ = some (.slice ha 4 hc) ∧ W'.cell? ⟨w1.heap.size, 4, none⟩ = some (.slice ra 3 rc) ∧ W'.cell? ⟨w2c.heap.size, 0, none⟩ = some (.int .i64 5) ∧ W'.cell? ⟨w2c.heap.size, 1, none⟩ = some (.int .i64 6) ∧ W'.cell? ⟨w4c.heap.size, 0, none⟩ = some (.int .i64 1) ∧ W'.cell? ⟨w4c.heap.size, 1, none⟩ = some (.int .i64 16) ∧ Below y9.heap.size y9 W') := fun W' hb => ⟨keepK cHK0 hb, keepK cHK1 hb, keepK cHK2 hb, keepK cHK3 hb, keepK cHK4 hb, keepK cS80 hb, keepK cS81 hb, keepK cS100 hb, keepK cS101 hb, hb⟩
  refine wp_region_noPanic ?_
  refine wp_region_held_drew (S := (fun W' => W'.cell? ⟨w1.heap.size, 0, none⟩ = some (.int .i64 2) ∧ W'.cell? ⟨w1.heap.size, 1, none⟩ = some (.int .i64 100) ∧ W'.cell? ⟨w1.heap.size, 2, none⟩ = some (.int .i64 50) ∧ W'.cell? ⟨w1.heap.size, 3, none⟩ = some (.slice ha 4 hc) ∧ W'.cell? ⟨w1.heap.size, 4, none⟩ = some (.slice ra 3 rc) ∧ W'.cell? ⟨w2c.heap.size, 0, none⟩ = some (.int .i64 5) ∧ W'.cell? ⟨w2c.heap.size, 1, none⟩ = some (.int .i64 6) ∧ W'.cell? ⟨w4c.heap.size, 0, none⟩ = some (.int .i64 1) ∧ W'.cell? ⟨w4c.heap.size, 1, none⟩ = some (.int .i64 16) ∧ Below y9.heap.size y9 W')) (by kernel_rfl) ?_ (fun hh0 => ?_)
  · exact KA _ (Below.refl _ _).drew
  refine wpAnyH_take (i := 0) (v := ?_) rfl (by as_aux_lemma => kernel_rfl) (by as_aux_lemma => kernel_rfl) (by as_aux_lemma => kernel_rfl) (fun _ _ _ h => h) (Or.inl ⟨by rfl, ?_⟩) (by assumption) ?_
  rotate_left
  · intro w hSw
    try dsimp only at hSw
    go_simp
    try with_reducible rfl
  try simp only [Act.put, List.getElem_toArray, List.getElem_cons_succ, List.getElem_cons_zero, List.setIfInBounds_toArray, List.set_cons_zero, List.set_cons_succ]
  refine wpAnyH_ready (rs := [1]) (by as_aux_lemma => kernel_rfl) (by simp) ?_
  refine AllReadyH.cons rfl (fun K hK => ?_) AllReadyH.nil
  go_simp
  refine (of_any 19 28 _).mono ?_
  rintro e va0 ⟨rfl, hva0⟩
  refine hK.out _ _ (KA _ (Below.trans hh0.2.2.2.2.2.2.2.2.2 (Below.mono hva0 (hh0.2.2.2.2.2.2.2.2.2).size))) (fun hh1 => ?_)
  clear hK K
  try simp only [Act.put, List.getElem_toArray, List.getElem_cons_succ, List.getElem_cons_zero, List.setIfInBounds_toArray, List.set_cons_zero, List.set_cons_succ]
  refine wpAnyH_ready (rs := [2]) (by as_aux_lemma => kernel_rfl) (by simp) ?_
  refine AllReadyH.cons rfl (fun K hK => ?_) AllReadyH.nil
  go_simp
  refine (of_any 17 25 _).mono ?_
  rintro e va1 ⟨rfl, hva1⟩
  refine hK.out _ _ (KA _ (Below.trans hh1.2.2.2.2.2.2.2.2.2 (Below.mono hva1 (hh1.2.2.2.2.2.2.2.2.2).size))) (fun hh2 => ?_)
  clear hK K
  try simp only [Act.put, List.getElem_toArray, List.getElem_cons_succ, List.getElem_cons_zero, List.setIfInBounds_toArray, List.set_cons_zero, List.set_cons_succ]
  refine wpAnyH_ready (rs := [3]) (by as_aux_lemma => kernel_rfl) (by simp) ?_
  refine AllReadyH.cons rfl (fun K hK => ?_) AllReadyH.nil
  go_simp
  refine hK.out _ _ (KA _ ((hh2.2.2.2.2.2.2.2.2.2).alloc (hh2.2.2.2.2.2.2.2.2.2).size _)) (fun hh3 => ?_)
  clear hK K
  try simp only [Act.put, List.getElem_toArray, List.getElem_cons_succ, List.getElem_cons_zero, List.setIfInBounds_toArray, List.set_cons_zero, List.set_cons_succ]
  refine wpAnyH_ready (rs := [4]) (by as_aux_lemma => kernel_rfl) (by simp) ?_
  refine AllReadyH.cons rfl (fun K hK => ?_) AllReadyH.nil
  go_simp
  refine (a_twice _ _ _ _ (HC.out.below hh3.2.2.2.2.2.2.2.2.2) (pairs_blk [(19, 28), (17, 25)] rfl (by decide) (heap_alloc_new _ _))).mono ?_
  rintro e ya ⟨⟨vt, rfl⟩, hya⟩
  refine hK.out _ _ (KA _ (Below.trans hh3.2.2.2.2.2.2.2.2.2 (Below.mono hya (hh3.2.2.2.2.2.2.2.2.2).size))) (fun hh4 => ?_)
  clear hK K
  try simp only [Act.put, List.getElem_toArray, List.getElem_cons_succ, List.getElem_cons_zero, List.setIfInBounds_toArray, List.set_cons_zero, List.set_cons_succ]
  refine wpAnyH_take (i := 5) (v := ?_) rfl (by as_aux_lemma => kernel_rfl) (by as_aux_lemma => kernel_rfl) (by as_aux_lemma => kernel_rfl) (fun _ _ _ h => h) (Or.inl ⟨by rfl, ?_⟩) (by assumption) ?_
  rotate_left
  · intro w hSw
    try dsimp only at hSw
    go_simp
    try with_reducible rfl
  try simp only [Act.put, List.getElem_toArray, List.getElem_cons_succ, List.getElem_cons_zero, List.setIfInBounds_toArray, List.set_cons_zero, List.set_cons_succ]
  refine wpAnyH_take (i := 6) (v := ?_) rfl (by as_aux_lemma => kernel_rfl) (by as_aux_lemma => kernel_rfl) (by as_aux_lemma => kernel_rfl) (fun _ _ _ h => h) (Or.inl ⟨by rfl, ?_⟩) (by assumption) ?_
  rotate_left
  · intro w hSw
    try dsimp only at hSw
    go_simp
    try with_reducible rfl
  try simp only [Act.put, List.getElem_toArray, List.getElem_cons_succ, List.getElem_cons_zero, List.setIfInBounds_toArray, List.set_cons_zero, List.set_cons_succ]
  refine wpAnyH_take (i := 7) (v := ?_) rfl (by as_aux_lemma => kernel_rfl) (by as_aux_lemma => kernel_rfl) (by as_aux_lemma => kernel_rfl) (fun _ _ _ h => h) (Or.inl ⟨by rfl, ?_⟩) (by assumption) ?_
  rotate_left
  · intro w hSw
    try dsimp only at hSw
    go_simp
    try with_reducible rfl
  try simp only [Act.put, List.getElem_toArray, List.getElem_cons_succ, List.getElem_cons_zero, List.setIfInBounds_toArray, List.set_cons_zero, List.set_cons_succ]
  refine wpAnyH_ready (rs := [8]) (by as_aux_lemma => kernel_rfl) (by simp) ?_
  refine AllReadyH.cons rfl (fun K hK => ?_) AllReadyH.nil
  go_simp
  refine hK.out _ _ hh4 (fun hh5 => ?_)
  clear hK K
  try simp only [Act.put, List.getElem_toArray, List.getElem_cons_succ, List.getElem_cons_zero, List.setIfInBounds_toArray, List.set_cons_zero, List.set_cons_succ]
  refine wpAnyH_ready (rs := [9]) (by as_aux_lemma => kernel_rfl) (by simp) ?_
  refine AllReadyH.cons rfl (fun K hK => ?_) AllReadyH.nil
  go_simp
  refine hK.out _ _ hh5 (fun hh6 => ?_)
  clear hK K
  try simp only [Act.put, List.getElem_toArray, List.getElem_cons_succ, List.getElem_cons_zero, List.setIfInBounds_toArray, List.set_cons_zero, List.set_cons_succ]
  refine wpAnyH_done (by as_aux_lemma => kernel_rfl) ?_ _
  refine NoPanic.normal ?_
  have HBZ := Lib.hid (hh6.2.2.2.2.2.2.2.2.2)
  have hbz := HBZ.out
  clear KA
  clear cHK0 cHK1 cHK2 cHK3 cHK4 lHK
  clear cS80 cS81 lS8
  clear cS100 cS101 lS10
  have HB' := Lib.hid (HB.out.trans (hbz.mono HB.out.size))
  have HC' := Lib.hid (HC.out.below hbz)
  have HK' := Lib.hid ((hbz.block _ (lt_of_block HK.out)).trans HK.out)
  have I2' := Lib.hid (I2.out.below hbz)
  have I4' := Lib.hid (I4.out.below hbz)
  have I6' := Lib.hid (I6.out.below hbz)
  have S8' := Lib.hid ((hbz.block _ (lt_of_block S8.out)).trans S8.out)
  have S10' := Lib.hid ((hbz.block _ (lt_of_block S10.out)).trans S10.out)
  have P12' := Lib.hid (P12.out.below hbz)
  have I14' := Lib.hid (I14.out.below hbz)
  have I16' := Lib.hid (I16.out.below hbz)
  clear HB
  have HB := HB'
  clear HB'
  clear HC
  have HC := HC'
  clear HC'
  clear HK
  have HK := HK'
  clear HK'
  clear I2
  have I2 := I2'
  clear I2'
  clear I4
  have I4 := I4'
  clear I4'
  clear I6
  have I6 := I6'
  clear I6'
  clear S8
  have S8 := S8'
  clear S8'
  clear S10
  have S10 := S10'
  clear S10'
  clear P12
  have P12 := P12'
  clear P12'
  clear I14
  have I14 := I14'
  clear I14'
  clear I16
  have I16 := I16'
  clear I16'
  clear hbz HBZ
  go_wp2_with fail
  have cHK0 := cellOf HK.out 0 (.int .i64 2) rfl
  have cHK1 := cellOf HK.out 1 (.int .i64 100) rfl
  have cHK2 := cellOf HK.out 2 (.int .i64 50) rfl
  have cHK3 := cellOf HK.out 3 (.slice ha 4 hc) rfl
  have cHK4 := cellOf HK.out 4 (.slice ra 3 rc) rfl
  have lHK := lt_of_block HK.out
  have cS80 := cellOf S8.out 0 (.int .i64 5) rfl
  have cS81 := cellOf S8.out 1 (.int .i64 6) rfl
  have lS8 := lt_of_block S8.out
  have cS100 := cellOf S10.out 0 (.int .i64 1) rfl
  have cS101 := cellOf S10.out 1 (.int .i64 16) rfl
  have lS10 := lt_of_block S10.out
  simp only [List.append_eq, List.cons_append, List.nil_append]
  have KA : ∀ W' : World, Below ya.heap.size ya W' → (W'.cell? ⟨w1.heap.size, 0, none⟩ = some (.int .i64 2) ∧ W'.cell? ⟨w1.heap.size, 1, none⟩ = some (.int .i64 100) ∧ W'.cell? ⟨w1.heap.size, 2, none⟩ = some (.int .i64 50) ∧ W'.cell? ⟨w1.heap.size, 3, none⟩ = some (.slice ha 4 hc) ∧ W'.cell? ⟨w1.heap.size, 4, none⟩ = some (.slice ra 3 rc) ∧ W'.cell? ⟨w2c.heap.size, 0, none⟩ = some (.int .i64 5) ∧ W'.cell? ⟨w2c.heap.size, 1, none⟩ = some (.int .i64 6) ∧ W'.cell? ⟨w4c.heap.size, 0, none⟩ = some (.int .i64 1) ∧ W'.cell? ⟨w4c.heap.size, 1, none⟩ = some (.int .i64 16) ∧ Below ya.heap.size ya W') := fun W' hb => ⟨keepK cHK0 hb, keepK cHK1 hb, keepK cHK2 hb, keepK cHK3 hb, keepK cHK4 hb, keepK cS80 hb, keepK cS81 hb, keepK cS100 hb, keepK cS101 hb, hb⟩
  refine wp_region_noPanic ?_
  refine wp_region_held_drew (S := (fun W' => W'.cell? ⟨w1.heap.size, 0, none⟩ = some (.int .i64 2) ∧ W'.cell? ⟨w1.heap.size, 1, none⟩ = some (.int .i64 100) ∧ W'.cell? ⟨w1.heap.size, 2, none⟩ = some (.int .i64 50) ∧ W'.cell? ⟨w1.heap.size, 3, none⟩ = some (.slice ha 4 hc) ∧ W'.cell? ⟨w1.heap.size, 4, none⟩ = some (.slice ra 3 rc) ∧ W'.cell? ⟨w2c.heap.size, 0, none⟩ = some (.int .i64 5) ∧ W'.cell? ⟨w2c.heap.size, 1, none⟩ = some (.int .i64 6) ∧ W'.cell? ⟨w4c.heap.size, 0, none⟩ = some (.int .i64 1) ∧ W'.cell? ⟨w4c.heap.size, 1, none⟩ = some (.int .i64 16) ∧ Below ya.heap.size ya W')) (by kernel_rfl) ?_ (fun hh0 => ?_)
  · exact KA _ (Below.refl _ _).drew
  refine wpAnyH_take (i := 0) (v := ?_) rfl (by as_aux_lemma => kernel_rfl) (by as_aux_lemma => kernel_rfl) (by as_aux_lemma => kernel_rfl) (fun _ _ _ h => h) (Or.inl ⟨by rfl, ?_⟩) (by assumption) ?_
  rotate_left
  · intro w hSw
    try dsimp only at hSw
    go_simp
    try with_reducible rfl
  try simp only [Act.put, List.getElem_toArray, List.getElem_cons_succ, List.getElem_cons_zero, List.setIfInBounds_toArray, List.set_cons_zero, List.set_cons_succ]
  refine wpAnyH_take (i := 1) (v := ?_) rfl (by as_aux_lemma => kernel_rfl) (by as_aux_lemma => kernel_rfl) (by as_aux_lemma => kernel_rfl) (fun _ _ _ h => h) (Or.inl ⟨by rfl, ?_⟩) (by assumption) ?_
  rotate_left
  · intro w hSw
    try dsimp only at hSw
    go_simp
    try with_reducible rfl
  try simp only [Act.put, List.getElem_toArray, List.getElem_cons_succ, List.getElem_cons_zero, List.setIfInBounds_toArray, List.set_cons_zero, List.set_cons_succ]
  refine wpAnyH_take (i := 2) (v := ?_) rfl (by as_aux_lemma => kernel_rfl) (by as_aux_lemma => kernel_rfl) (by as_aux_lemma => kernel_rfl) (fun _ _ _ h => h) (Or.inl ⟨by rfl, ?_⟩) (by assumption) ?_
  rotate_left
  · intro w hSw
    try dsimp only at hSw
    go_simp
    try with_reducible rfl
  try simp only [Act.put, List.getElem_toArray, List.getElem_cons_succ, List.getElem_cons_zero, List.setIfInBounds_toArray, List.set_cons_zero, List.set_cons_succ]
  refine wpAnyH_take (i := 3) (v := ?_) rfl (by as_aux_lemma => kernel_rfl) (by as_aux_lemma => kernel_rfl) (by as_aux_lemma => kernel_rfl) (fun _ _ _ h => h) (Or.inl ⟨by rfl, ?_⟩) (by assumption) ?_
  rotate_left
  · intro w hSw
    try dsimp only at hSw
    go_simp
    try with_reducible rfl
  try simp only [Act.put, List.getElem_toArray, List.getElem_cons_succ, List.getElem_cons_zero, List.setIfInBounds_toArray, List.set_cons_zero, List.set_cons_succ]
  refine wpAnyH_take (i := 4) (v := ?_) rfl (by as_aux_lemma => kernel_rfl) (by as_aux_lemma => kernel_rfl) (by as_aux_lemma => kernel_rfl) (fun _ _ _ h => h) (Or.inl ⟨by rfl, ?_⟩) (by assumption) ?_
  rotate_left
  · intro w hSw
    try dsimp only at hSw
    go_simp
    try with_reducible rfl
  try simp only [Act.put, List.getElem_toArray, List.getElem_cons_succ, List.getElem_cons_zero, List.setIfInBounds_toArray, List.set_cons_zero, List.set_cons_succ]
  refine wpAnyH_take (i := 5) (v := ?_) rfl (by as_aux_lemma => kernel_rfl) (by as_aux_lemma => kernel_rfl) (by as_aux_lemma => kernel_rfl) (fun _ _ _ h => h) (Or.inl ⟨by rfl, ?_⟩) (by assumption) ?_
  rotate_left
  · intro w hSw
    try dsimp only at hSw
    go_simp
    try with_reducible rfl
  try simp only [Act.put, List.getElem_toArray, List.getElem_cons_succ, List.getElem_cons_zero, List.setIfInBounds_toArray, List.set_cons_zero, List.set_cons_succ]
  refine wpAnyH_take (i := 6) (v := ?_) rfl (by as_aux_lemma => kernel_rfl) (by as_aux_lemma => kernel_rfl) (by as_aux_lemma => kernel_rfl) (fun _ _ _ h => h) (Or.inl ⟨by rfl, ?_⟩) (by assumption) ?_
  rotate_left
  · intro w hSw
    try dsimp only at hSw
    go_simp
    try with_reducible rfl
  try simp only [Act.put, List.getElem_toArray, List.getElem_cons_succ, List.getElem_cons_zero, List.setIfInBounds_toArray, List.set_cons_zero, List.set_cons_succ]
  refine wpAnyH_take (i := 7) (v := ?_) rfl (by as_aux_lemma => kernel_rfl) (by as_aux_lemma => kernel_rfl) (by as_aux_lemma => kernel_rfl) (fun _ _ _ h => h) (Or.inl ⟨by rfl, ?_⟩) (by assumption) ?_
  rotate_left
  · intro w hSw
    try dsimp only at hSw
    go_simp
    try with_reducible rfl
  try simp only [Act.put, List.getElem_toArray, List.getElem_cons_succ, List.getElem_cons_zero, List.setIfInBounds_toArray, List.set_cons_zero, List.set_cons_succ]
  refine wpAnyH_take (i := 8) (v := ?_) rfl (by as_aux_lemma => kernel_rfl) (by as_aux_lemma => kernel_rfl) (by as_aux_lemma => kernel_rfl) (fun _ _ _ h => h) (Or.inl ⟨by rfl, ?_⟩) (by assumption) ?_
  rotate_left
  · intro w hSw
    try dsimp only at hSw
    go_simp
    try with_reducible rfl
  try simp only [Act.put, List.getElem_toArray, List.getElem_cons_succ, List.getElem_cons_zero, List.setIfInBounds_toArray, List.set_cons_zero, List.set_cons_succ]
  refine wpAnyH_take (i := 9) (v := ?_) rfl (by as_aux_lemma => kernel_rfl) (by as_aux_lemma => kernel_rfl) (by as_aux_lemma => kernel_rfl) (fun _ _ _ h => h) (Or.inl ⟨by rfl, ?_⟩) (by assumption) ?_
  rotate_left
  · intro w hSw
    try dsimp only at hSw
    go_simp
    try with_reducible rfl
  try simp only [Act.put, List.getElem_toArray, List.getElem_cons_succ, List.getElem_cons_zero, List.setIfInBounds_toArray, List.set_cons_zero, List.set_cons_succ]
  refine wpAnyH_take (i := 10) (v := ?_) rfl (by as_aux_lemma => kernel_rfl) (by as_aux_lemma => kernel_rfl) (by as_aux_lemma => kernel_rfl) (fun _ _ _ h => h) (Or.inl ⟨by rfl, ?_⟩) (by assumption) ?_
  rotate_left
  · intro w hSw
    try dsimp only at hSw
    go_simp
    try with_reducible rfl
  try simp only [Act.put, List.getElem_toArray, List.getElem_cons_succ, List.getElem_cons_zero, List.setIfInBounds_toArray, List.set_cons_zero, List.set_cons_succ]
  refine wpAnyH_take (i := 11) (v := ?_) rfl (by as_aux_lemma => kernel_rfl) (by as_aux_lemma => kernel_rfl) (by as_aux_lemma => kernel_rfl) (fun _ _ _ h => h) (Or.inl ⟨by rfl, ?_⟩) (by assumption) ?_
  rotate_left
  · intro w hSw
    try dsimp only at hSw
    go_simp
    try with_reducible rfl
  try simp only [Act.put, List.getElem_toArray, List.getElem_cons_succ, List.getElem_cons_zero, List.setIfInBounds_toArray, List.set_cons_zero, List.set_cons_succ]
  refine wpAnyH_take (i := 12) (v := ?_) rfl (by as_aux_lemma => kernel_rfl) (by as_aux_lemma => kernel_rfl) (by as_aux_lemma => kernel_rfl) (fun _ _ _ h => h) (Or.inl ⟨by rfl, ?_⟩) (by assumption) ?_
  rotate_left
  · intro w hSw
    try dsimp only at hSw
    go_simp
    try with_reducible rfl
  try simp only [Act.put, List.getElem_toArray, List.getElem_cons_succ, List.getElem_cons_zero, List.setIfInBounds_toArray, List.set_cons_zero, List.set_cons_succ]
  refine wpAnyH_take (i := 13) (v := ?_) rfl (by as_aux_lemma => kernel_rfl) (by as_aux_lemma => kernel_rfl) (by as_aux_lemma => kernel_rfl) (fun _ _ _ h => h) (Or.inl ⟨by rfl, ?_⟩) (by assumption) ?_
  rotate_left
  · intro w hSw
    try dsimp only at hSw
    go_simp
    try with_reducible rfl
  try simp only [Act.put, List.getElem_toArray, List.getElem_cons_succ, List.getElem_cons_zero, List.setIfInBounds_toArray, List.set_cons_zero, List.set_cons_succ]
  refine wpAnyH_take (i := 14) (v := ?_) rfl (by as_aux_lemma => kernel_rfl) (by as_aux_lemma => kernel_rfl) (by as_aux_lemma => kernel_rfl) (fun _ _ _ h => h) (Or.inl ⟨by rfl, ?_⟩) (by assumption) ?_
  rotate_left
  · intro w hSw
    try dsimp only at hSw
    go_simp
    try with_reducible rfl
  try simp only [Act.put, List.getElem_toArray, List.getElem_cons_succ, List.getElem_cons_zero, List.setIfInBounds_toArray, List.set_cons_zero, List.set_cons_succ]
  refine wpAnyH_take (i := 15) (v := ?_) rfl (by as_aux_lemma => kernel_rfl) (by as_aux_lemma => kernel_rfl) (by as_aux_lemma => kernel_rfl) (fun _ _ _ h => h) (Or.inl ⟨by rfl, ?_⟩) (by assumption) ?_
  rotate_left
  · intro w hSw
    try dsimp only at hSw
    go_simp
    try with_reducible rfl
  try simp only [Act.put, List.getElem_toArray, List.getElem_cons_succ, List.getElem_cons_zero, List.setIfInBounds_toArray, List.set_cons_zero, List.set_cons_succ]
  refine wpAnyH_take (i := 16) (v := ?_) rfl (by as_aux_lemma => kernel_rfl) (by as_aux_lemma => kernel_rfl) (by as_aux_lemma => kernel_rfl) (fun _ _ _ h => h) (Or.inl ⟨by rfl, ?_⟩) (by assumption) ?_
  rotate_left
  · intro w hSw
    try dsimp only at hSw
    go_simp
    try with_reducible rfl
  try simp only [Act.put, List.getElem_toArray, List.getElem_cons_succ, List.getElem_cons_zero, List.setIfInBounds_toArray, List.set_cons_zero, List.set_cons_succ]
  refine wpAnyH_take (i := 17) (v := ?_) rfl (by as_aux_lemma => kernel_rfl) (by as_aux_lemma => kernel_rfl) (by as_aux_lemma => kernel_rfl) (fun _ _ _ h => h) (Or.inl ⟨by rfl, ?_⟩) (by assumption) ?_
  rotate_left
  · intro w hSw
    try dsimp only at hSw
    go_simp
    try with_reducible rfl
  try simp only [Act.put, List.getElem_toArray, List.getElem_cons_succ, List.getElem_cons_zero, List.setIfInBounds_toArray, List.set_cons_zero, List.set_cons_succ]
  refine wpAnyH_take (i := 18) (v := ?_) rfl (by as_aux_lemma => kernel_rfl) (by as_aux_lemma => kernel_rfl) (by as_aux_lemma => kernel_rfl) (fun _ _ _ h => h) (Or.inl ⟨by rfl, ?_⟩) (by assumption) ?_
  rotate_left
  · intro w hSw
    try dsimp only at hSw
    go_simp
    try with_reducible rfl
  try simp only [Act.put, List.getElem_toArray, List.getElem_cons_succ, List.getElem_cons_zero, List.setIfInBounds_toArray, List.set_cons_zero, List.set_cons_succ]
  refine wpAnyH_take (i := 19) (v := ?_) rfl (by as_aux_lemma => kernel_rfl) (by as_aux_lemma => kernel_rfl) (by as_aux_lemma => kernel_rfl) (fun _ _ _ h => h) (Or.inl ⟨by rfl, ?_⟩) (by assumption) ?_
  rotate_left
  · intro w hSw
    try dsimp only at hSw
    go_simp
    try with_reducible rfl
  try simp only [Act.put, List.getElem_toArray, List.getElem_cons_succ, List.getElem_cons_zero, List.setIfInBounds_toArray, List.set_cons_zero, List.set_cons_succ]
  refine wpAnyH_take (i := 20) (v := ?_) rfl (by as_aux_lemma => kernel_rfl) (by as_aux_lemma => kernel_rfl) (by as_aux_lemma => kernel_rfl) (fun _ _ _ h => h) (Or.inl ⟨by rfl, ?_⟩) (by assumption) ?_
  rotate_left
  · intro w hSw
    try dsimp only at hSw
    go_simp
    try with_reducible rfl
  try simp only [Act.put, List.getElem_toArray, List.getElem_cons_succ, List.getElem_cons_zero, List.setIfInBounds_toArray, List.set_cons_zero, List.set_cons_succ]
  refine wpAnyH_take (i := 21) (v := ?_) rfl (by as_aux_lemma => kernel_rfl) (by as_aux_lemma => kernel_rfl) (by as_aux_lemma => kernel_rfl) (fun _ _ _ h => h) (Or.inl ⟨by rfl, ?_⟩) (by assumption) ?_
  rotate_left
  · intro w hSw
    try dsimp only at hSw
    go_simp
    try with_reducible rfl
  try simp only [Act.put, List.getElem_toArray, List.getElem_cons_succ, List.getElem_cons_zero, List.setIfInBounds_toArray, List.set_cons_zero, List.set_cons_succ]
  refine wpAnyH_take (i := 22) (v := ?_) rfl (by as_aux_lemma => kernel_rfl) (by as_aux_lemma => kernel_rfl) (by as_aux_lemma => kernel_rfl) (fun _ _ _ h => h) (Or.inl ⟨by rfl, ?_⟩) (by assumption) ?_
  rotate_left
  · intro w hSw
    try dsimp only at hSw
    go_simp
    try with_reducible rfl
  try simp only [Act.put, List.getElem_toArray, List.getElem_cons_succ, List.getElem_cons_zero, List.setIfInBounds_toArray, List.set_cons_zero, List.set_cons_succ]
  refine wpAnyH_take (i := 23) (v := ?_) rfl (by as_aux_lemma => kernel_rfl) (by as_aux_lemma => kernel_rfl) (by as_aux_lemma => kernel_rfl) (fun _ _ _ h => h) (Or.inl ⟨by rfl, ?_⟩) (by assumption) ?_
  rotate_left
  · intro w hSw
    try dsimp only at hSw
    go_simp
    try with_reducible rfl
  try simp only [Act.put, List.getElem_toArray, List.getElem_cons_succ, List.getElem_cons_zero, List.setIfInBounds_toArray, List.set_cons_zero, List.set_cons_succ]
  refine wpAnyH_take (i := 24) (v := ?_) rfl (by as_aux_lemma => kernel_rfl) (by as_aux_lemma => kernel_rfl) (by as_aux_lemma => kernel_rfl) (fun _ _ _ h => h) (Or.inl ⟨by rfl, ?_⟩) (by assumption) ?_
  rotate_left
  · intro w hSw
    try dsimp only at hSw
    go_simp
    try with_reducible rfl
  try simp only [Act.put, List.getElem_toArray, List.getElem_cons_succ, List.getElem_cons_zero, List.setIfInBounds_toArray, List.set_cons_zero, List.set_cons_succ]
  refine wpAnyH_take (i := 25) (v := ?_) rfl (by as_aux_lemma => kernel_rfl) (by as_aux_lemma => kernel_rfl) (by as_aux_lemma => kernel_rfl) (fun _ _ _ h => h) (Or.inl ⟨by rfl, ?_⟩) (by assumption) ?_
  rotate_left
  · intro w hSw
    try dsimp only at hSw
    go_simp
    try with_reducible rfl
  try simp only [Act.put, List.getElem_toArray, List.getElem_cons_succ, List.getElem_cons_zero, List.setIfInBounds_toArray, List.set_cons_zero, List.set_cons_succ]
  refine wpAnyH_take (i := 26) (v := ?_) rfl (by as_aux_lemma => kernel_rfl) (by as_aux_lemma => kernel_rfl) (by as_aux_lemma => kernel_rfl) (fun _ _ _ h => h) (Or.inl ⟨by rfl, ?_⟩) (by assumption) ?_
  rotate_left
  · intro w hSw
    try dsimp only at hSw
    go_simp
    try with_reducible rfl
  try simp only [Act.put, List.getElem_toArray, List.getElem_cons_succ, List.getElem_cons_zero, List.setIfInBounds_toArray, List.set_cons_zero, List.set_cons_succ]
  refine wpAnyH_take (i := 27) (v := ?_) rfl (by as_aux_lemma => kernel_rfl) (by as_aux_lemma => kernel_rfl) (by as_aux_lemma => kernel_rfl) (fun _ _ _ h => h) (Or.inl ⟨by rfl, ?_⟩) (by assumption) ?_
  rotate_left
  · intro w hSw
    try dsimp only at hSw
    go_simp
    try with_reducible rfl
  try simp only [Act.put, List.getElem_toArray, List.getElem_cons_succ, List.getElem_cons_zero, List.setIfInBounds_toArray, List.set_cons_zero, List.set_cons_succ]
  refine wpAnyH_take (i := 28) (v := ?_) rfl (by as_aux_lemma => kernel_rfl) (by as_aux_lemma => kernel_rfl) (by as_aux_lemma => kernel_rfl) (fun _ _ _ h => h) (Or.inl ⟨by rfl, ?_⟩) (by assumption) ?_
  rotate_left
  · intro w hSw
    try dsimp only at hSw
    go_simp
    try with_reducible rfl
  try simp only [Act.put, List.getElem_toArray, List.getElem_cons_succ, List.getElem_cons_zero, List.setIfInBounds_toArray, List.set_cons_zero, List.set_cons_succ]
  refine wpAnyH_take (i := 29) (v := ?_) rfl (by as_aux_lemma => kernel_rfl) (by as_aux_lemma => kernel_rfl) (by as_aux_lemma => kernel_rfl) (fun _ _ _ h => h) (Or.inl ⟨by rfl, ?_⟩) (by assumption) ?_
  rotate_left
  · intro w hSw
    try dsimp only at hSw
    go_simp
    try with_reducible rfl
  try simp only [Act.put, List.getElem_toArray, List.getElem_cons_succ, List.getElem_cons_zero, List.setIfInBounds_toArray, List.set_cons_zero, List.set_cons_succ]
  refine wpAnyH_take (i := 30) (v := ?_) rfl (by as_aux_lemma => kernel_rfl) (by as_aux_lemma => kernel_rfl) (by as_aux_lemma => kernel_rfl) (fun _ _ _ h => h) (Or.inl ⟨by rfl, ?_⟩) (by assumption) ?_
  rotate_left
  · intro w hSw
    try dsimp only at hSw
    go_simp
    try with_reducible rfl
  try simp only [Act.put, List.getElem_toArray, List.getElem_cons_succ, List.getElem_cons_zero, List.setIfInBounds_toArray, List.set_cons_zero, List.set_cons_succ]
  refine wpAnyH_take (i := 31) (v := ?_) rfl (by as_aux_lemma => kernel_rfl) (by as_aux_lemma => kernel_rfl) (by as_aux_lemma => kernel_rfl) (fun _ _ _ h => h) (Or.inl ⟨by rfl, ?_⟩) (by assumption) ?_
  rotate_left
  · intro w hSw
    try dsimp only at hSw
    go_simp
    try with_reducible rfl
  try simp only [Act.put, List.getElem_toArray, List.getElem_cons_succ, List.getElem_cons_zero, List.setIfInBounds_toArray, List.set_cons_zero, List.set_cons_succ]
  refine wpAnyH_take (i := 32) (v := ?_) rfl (by as_aux_lemma => kernel_rfl) (by as_aux_lemma => kernel_rfl) (by as_aux_lemma => kernel_rfl) (fun _ _ _ h => h) (Or.inl ⟨by rfl, ?_⟩) (by assumption) ?_
  rotate_left
  · intro w hSw
    try dsimp only at hSw
    go_simp
    try with_reducible rfl
  try simp only [Act.put, List.getElem_toArray, List.getElem_cons_succ, List.getElem_cons_zero, List.setIfInBounds_toArray, List.set_cons_zero, List.set_cons_succ]
  refine wpAnyH_take (i := 33) (v := ?_) rfl (by as_aux_lemma => kernel_rfl) (by as_aux_lemma => kernel_rfl) (by as_aux_lemma => kernel_rfl) (fun _ _ _ h => h) (Or.inl ⟨by rfl, ?_⟩) (by assumption) ?_
  rotate_left
  · intro w hSw
    try dsimp only at hSw
    go_simp
    try with_reducible rfl
  try simp only [Act.put, List.getElem_toArray, List.getElem_cons_succ, List.getElem_cons_zero, List.setIfInBounds_toArray, List.set_cons_zero, List.set_cons_succ]
  refine wpAnyH_take (i := 34) (v := ?_) rfl (by as_aux_lemma => kernel_rfl) (by as_aux_lemma => kernel_rfl) (by as_aux_lemma => kernel_rfl) (fun _ _ _ h => h) (Or.inl ⟨by rfl, ?_⟩) (by assumption) ?_
  rotate_left
  · intro w hSw
    try dsimp only at hSw
    go_simp
    try with_reducible rfl
  try simp only [Act.put, List.getElem_toArray, List.getElem_cons_succ, List.getElem_cons_zero, List.setIfInBounds_toArray, List.set_cons_zero, List.set_cons_succ]
  refine wpAnyH_take (i := 35) (v := ?_) rfl (by as_aux_lemma => kernel_rfl) (by as_aux_lemma => kernel_rfl) (by as_aux_lemma => kernel_rfl) (fun _ _ _ h => h) (Or.inl ⟨by rfl, ?_⟩) (by assumption) ?_
  rotate_left
  · intro w hSw
    try dsimp only at hSw
    go_simp
    try with_reducible rfl
  try simp only [Act.put, List.getElem_toArray, List.getElem_cons_succ, List.getElem_cons_zero, List.setIfInBounds_toArray, List.set_cons_zero, List.set_cons_succ]
  refine wpAnyH_ready (rs := [36]) (by as_aux_lemma => kernel_rfl) (by simp) ?_
  refine AllReadyH.cons rfl (fun K hK => ?_) AllReadyH.nil
  go_simp
  refine hK.out _ _ (KA _ ((hh0.2.2.2.2.2.2.2.2.2).alloc (hh0.2.2.2.2.2.2.2.2.2).size _)) (fun hh1 => ?_)
  clear hK K
  try simp only [Act.put, List.getElem_toArray, List.getElem_cons_succ, List.getElem_cons_zero, List.setIfInBounds_toArray, List.set_cons_zero, List.set_cons_succ]
  refine wpAnyH_ready (rs := [37]) (by as_aux_lemma => kernel_rfl) (by simp) ?_
  refine AllReadyH.cons rfl (fun K hK => ?_) AllReadyH.nil
  go_simp
  refine (ints_eq _ _ [0, 5, 13, 30] _ (I2.out.below hh1.2.2.2.2.2.2.2.2.2) (ints_blk [0, 5, 13, 30] rfl (by decide) (heap_alloc_new _ _))).mono ?_
  rintro e yb ⟨rfl, hyb⟩
  refine hK.out _ _ (KA _ (Below.trans hh1.2.2.2.2.2.2.2.2.2 (Below.mono hyb (hh1.2.2.2.2.2.2.2.2.2).size))) (fun hh2 => ?_)
  clear hK K
  try simp only [Act.put, List.getElem_toArray, List.getElem_cons_succ, List.getElem_cons_zero, List.setIfInBounds_toArray, List.set_cons_zero, List.set_cons_succ]
  refine wpAnyH_take (i := 38) (v := ?_) rfl (by as_aux_lemma => kernel_rfl) (by as_aux_lemma => kernel_rfl) (by as_aux_lemma => kernel_rfl) (fun _ _ _ h => h) (Or.inl ⟨by rfl, ?_⟩) (by assumption) ?_
  rotate_left
  · intro w hSw
    try dsimp only at hSw
    go_simp
    try with_reducible rfl
  try simp only [Act.put, List.getElem_toArray, List.getElem_cons_succ, List.getElem_cons_zero, List.setIfInBounds_toArray, List.set_cons_zero, List.set_cons_succ]
  refine wpAnyH_take (i := 39) (v := ?_) rfl (by as_aux_lemma => kernel_rfl) (by as_aux_lemma => kernel_rfl) (by as_aux_lemma => kernel_rfl) (fun _ _ _ h => h) (Or.inl ⟨by rfl, ?_⟩) (by assumption) ?_
  rotate_left
  · intro w hSw
    try dsimp only at hSw
    go_simp
    try with_reducible rfl
  try simp only [Act.put, List.getElem_toArray, List.getElem_cons_succ, List.getElem_cons_zero, List.setIfInBounds_toArray, List.set_cons_zero, List.set_cons_succ]
  refine wpAnyH_take (i := 40) (v := ?_) rfl (by as_aux_lemma => kernel_rfl) (by as_aux_lemma => kernel_rfl) (by as_aux_lemma => kernel_rfl) (fun _ _ _ h => h) (Or.inl ⟨by rfl, ?_⟩) (by assumption) ?_
  rotate_left
  · intro w hSw
    try dsimp only at hSw
    go_simp
    try with_reducible rfl
  try simp only [Act.put, List.getElem_toArray, List.getElem_cons_succ, List.getElem_cons_zero, List.setIfInBounds_toArray, List.set_cons_zero, List.set_cons_succ]
  refine wpAnyH_ready (rs := [41]) (by as_aux_lemma => kernel_rfl) (by simp) ?_
  refine AllReadyH.cons rfl (fun K hK => ?_) AllReadyH.nil
  go_simp
  refine hK.out _ _ (KA _ ((hh2.2.2.2.2.2.2.2.2.2).alloc (hh2.2.2.2.2.2.2.2.2.2).size _)) (fun hh3 => ?_)
  clear hK K
  try simp only [Act.put, List.getElem_toArray, List.getElem_cons_succ, List.getElem_cons_zero, List.setIfInBounds_toArray, List.set_cons_zero, List.set_cons_succ]
  refine wpAnyH_ready (rs := [42]) (by as_aux_lemma => kernel_rfl) (by simp) ?_
  refine AllReadyH.cons rfl (fun K hK => ?_) AllReadyH.nil
  go_simp
  refine (ints_eq _ _ [50, 0, 15] _ (I4.out.below hh3.2.2.2.2.2.2.2.2.2) (ints_blk [50, 0, 15] rfl (by decide) (heap_alloc_new _ _))).mono ?_
  rintro e yc ⟨rfl, hyc⟩
  refine hK.out _ _ (KA _ (Below.trans hh3.2.2.2.2.2.2.2.2.2 (Below.mono hyc (hh3.2.2.2.2.2.2.2.2.2).size))) (fun hh4 => ?_)
  clear hK K
  try simp only [Act.put, List.getElem_toArray, List.getElem_cons_succ, List.getElem_cons_zero, List.setIfInBounds_toArray, List.set_cons_zero, List.set_cons_succ]
  refine wpAnyH_take (i := 43) (v := ?_) rfl (by as_aux_lemma => kernel_rfl) (by as_aux_lemma => kernel_rfl) (by as_aux_lemma => kernel_rfl) (fun _ _ _ h => h) (Or.inl ⟨by rfl, ?_⟩) (by assumption) ?_
  rotate_left
  · intro w hSw
    try dsimp only at hSw
    go_simp
    try with_reducible rfl
  try simp only [Act.put, List.getElem_toArray, List.getElem_cons_succ, List.getElem_cons_zero, List.setIfInBounds_toArray, List.set_cons_zero, List.set_cons_succ]
  refine wpAnyH_take (i := 44) (v := ?_) rfl (by as_aux_lemma => kernel_rfl) (by as_aux_lemma => kernel_rfl) (by as_aux_lemma => kernel_rfl) (fun _ _ _ h => h) (Or.inl ⟨by rfl, ?_⟩) (by assumption) ?_
  rotate_left
  · intro w hSw
    try dsimp only at hSw
    go_simp
    try with_reducible rfl
  try simp only [Act.put, List.getElem_toArray, List.getElem_cons_succ, List.getElem_cons_zero, List.setIfInBounds_toArray, List.set_cons_zero, List.set_cons_succ]
  refine wpAnyH_take (i := 45) (v := ?_) rfl (by as_aux_lemma => kernel_rfl) (by as_aux_lemma => kernel_rfl) (by as_aux_lemma => kernel_rfl) (fun _ _ _ h => h) (Or.inl ⟨by rfl, ?_⟩) (by assumption) ?_
  rotate_left
  · intro w hSw
    try dsimp only at hSw
    go_simp
    try with_reducible rfl
  try simp only [Act.put, List.getElem_toArray, List.getElem_cons_succ, List.getElem_cons_zero, List.setIfInBounds_toArray, List.set_cons_zero, List.set_cons_succ]
  refine wpAnyH_ready (rs := [46]) (by as_aux_lemma => kernel_rfl) (by simp) ?_
  refine AllReadyH.cons rfl (fun K hK => ?_) AllReadyH.nil
  go_simp
  refine hK.out _ _ (KA _ ((hh4.2.2.2.2.2.2.2.2.2).alloc (hh4.2.2.2.2.2.2.2.2.2).size _)) (fun hh5 => ?_)
  clear hK K
  try simp only [Act.put, List.getElem_toArray, List.getElem_cons_succ, List.getElem_cons_zero, List.setIfInBounds_toArray, List.set_cons_zero, List.set_cons_succ]
  refine wpAnyH_ready (rs := [47]) (by as_aux_lemma => kernel_rfl) (by simp) ?_
  refine AllReadyH.cons rfl (fun K hK => ?_) AllReadyH.nil
  go_simp
  refine (ints_eq _ _ [0] _ (I6.out.below hh5.2.2.2.2.2.2.2.2.2) (ints_blk [0] rfl (by decide) (heap_alloc_new _ _))).mono ?_
  rintro e yd ⟨rfl, hyd⟩
  refine hK.out _ _ (KA _ (Below.trans hh5.2.2.2.2.2.2.2.2.2 (Below.mono hyd (hh5.2.2.2.2.2.2.2.2.2).size))) (fun hh6 => ?_)
  clear hK K
  try simp only [Act.put, List.getElem_toArray, List.getElem_cons_succ, List.getElem_cons_zero, List.setIfInBounds_toArray, List.set_cons_zero, List.set_cons_succ]
  refine wpAnyH_take (i := 48) (v := ?_) rfl (by as_aux_lemma => kernel_rfl) (by as_aux_lemma => kernel_rfl) (by as_aux_lemma => kernel_rfl) (fun _ _ _ h => h) (Or.inl ⟨by rfl, ?_⟩) (by assumption) ?_
  rotate_left
  · intro w hSw
    try dsimp only at hSw
    go_simp
    try with_reducible rfl
  try simp only [Act.put, List.getElem_toArray, List.getElem_cons_succ, List.getElem_cons_zero, List.setIfInBounds_toArray, List.set_cons_zero, List.set_cons_succ]
  refine wpAnyH_take (i := 49) (v := ?_) rfl (by as_aux_lemma => kernel_rfl) (by as_aux_lemma => kernel_rfl) (by as_aux_lemma => kernel_rfl) (fun _ _ _ h => h) (Or.inl ⟨by rfl, ?_⟩) (by assumption) ?_
  rotate_left
  · intro w hSw
    try dsimp only at hSw
    go_simp
    try with_reducible rfl
  try simp only [Act.put, List.getElem_toArray, List.getElem_cons_succ, List.getElem_cons_zero, List.setIfInBounds_toArray, List.set_cons_zero, List.set_cons_succ]
  refine wpAnyH_take (i := 50) (v := ?_) rfl (by as_aux_lemma => kernel_rfl) (by as_aux_lemma => kernel_rfl) (by as_aux_lemma => kernel_rfl) (fun _ _ _ h => h) (Or.inl ⟨by rfl, ?_⟩) (by assumption) ?_
  rotate_left
  · intro w hSw
    try dsimp only at hSw
    go_simp
    try with_reducible rfl
  try simp only [Act.put, List.getElem_toArray, List.getElem_cons_succ, List.getElem_cons_zero, List.setIfInBounds_toArray, List.set_cons_zero, List.set_cons_succ]
  refine wpAnyH_ready (rs := [51]) (by as_aux_lemma => kernel_rfl) (by simp) ?_
  refine AllReadyH.cons rfl (fun K hK => ?_) AllReadyH.nil
  go_simp
  refine (of_any 5 6 _).mono ?_
  rintro e vb0 ⟨rfl, hvb0⟩
  refine hK.out _ _ (KA _ (Below.trans hh6.2.2.2.2.2.2.2.2.2 (Below.mono hvb0 (hh6.2.2.2.2.2.2.2.2.2).size))) (fun hh7 => ?_)
  clear hK K
  try simp only [Act.put, List.getElem_toArray, List.getElem_cons_succ, List.getElem_cons_zero, List.setIfInBounds_toArray, List.set_cons_zero, List.set_cons_succ]
  refine wpAnyH_take (i := 52) (v := ?_) rfl (by as_aux_lemma => kernel_rfl) (by as_aux_lemma => kernel_rfl) (by as_aux_lemma => kernel_rfl) (fun _ _ _ h => h) (Or.inl ⟨by rfl, ?_⟩) (by assumption) ?_
  rotate_left
  · intro w hSw
    try dsimp only at hSw
    go_simp
    try with_reducible rfl
  try simp only [Act.put, List.getElem_toArray, List.getElem_cons_succ, List.getElem_cons_zero, List.setIfInBounds_toArray, List.set_cons_zero, List.set_cons_succ]
  refine wpAnyH_take (i := 53) (v := ?_) rfl (by as_aux_lemma => kernel_rfl) (by as_aux_lemma => kernel_rfl) (by as_aux_lemma => kernel_rfl) (fun _ _ _ h => h) (Or.inl ⟨by rfl, ?_⟩) (by assumption) ?_
  rotate_left
  · intro w hSw
    try dsimp only at hSw
    go_simp
    try with_reducible rfl
  try simp only [Act.put, List.getElem_toArray, List.getElem_cons_succ, List.getElem_cons_zero, List.setIfInBounds_toArray, List.set_cons_zero, List.set_cons_succ]
  refine wpAnyH_take (i := 54) (v := ?_) rfl (by as_aux_lemma => kernel_rfl) (by as_aux_lemma => kernel_rfl) (by as_aux_lemma => kernel_rfl) (fun _ _ _ h => h) (Or.inl ⟨by rfl, ?_⟩) (by assumption) ?_
  rotate_left
  · intro w hSw
    try dsimp only at hSw
    go_simp
    try with_reducible rfl
  try simp only [Act.put, List.getElem_toArray, List.getElem_cons_succ, List.getElem_cons_zero, List.setIfInBounds_toArray, List.set_cons_zero, List.set_cons_succ]
  refine wpAnyH_take (i := 55) (v := ?_) rfl (by as_aux_lemma => kernel_rfl) (by as_aux_lemma => kernel_rfl) (by as_aux_lemma => kernel_rfl) (fun _ _ _ h => h) (Or.inl ⟨by rfl, ?_⟩) (by assumption) ?_
  rotate_left
  · intro w hSw
    try dsimp only at hSw
    go_simp
    try with_reducible rfl
  try simp only [Act.put, List.getElem_toArray, List.getElem_cons_succ, List.getElem_cons_zero, List.setIfInBounds_toArray, List.set_cons_zero, List.set_cons_succ]
  refine wpAnyH_ready (rs := [56]) (by as_aux_lemma => kernel_rfl) (by simp) ?_
  refine AllReadyH.cons rfl (fun K hK => ?_) AllReadyH.nil
  go_simp
  refine (of_any 1 16 _).mono ?_
  rintro e vb1 ⟨rfl, hvb1⟩
  refine hK.out _ _ (KA _ (Below.trans hh7.2.2.2.2.2.2.2.2.2 (Below.mono hvb1 (hh7.2.2.2.2.2.2.2.2.2).size))) (fun hh8 => ?_)
  clear hK K
  try simp only [Act.put, List.getElem_toArray, List.getElem_cons_succ, List.getElem_cons_zero, List.setIfInBounds_toArray, List.set_cons_zero, List.set_cons_succ]
  refine wpAnyH_take (i := 57) (v := ?_) rfl (by as_aux_lemma => kernel_rfl) (by as_aux_lemma => kernel_rfl) (by as_aux_lemma => kernel_rfl) (fun _ _ _ h => h) (Or.inl ⟨by rfl, ?_⟩) (by assumption) ?_
  rotate_left
  · intro w hSw
    try dsimp only at hSw
    go_simp
    try with_reducible rfl
  try simp only [Act.put, List.getElem_toArray, List.getElem_cons_succ, List.getElem_cons_zero, List.setIfInBounds_toArray, List.set_cons_zero, List.set_cons_succ]
  refine wpAnyH_take (i := 58) (v := ?_) rfl (by as_aux_lemma => kernel_rfl) (by as_aux_lemma => kernel_rfl) (by as_aux_lemma => kernel_rfl) (fun _ _ _ h => h) (Or.inl ⟨by rfl, ?_⟩) (by assumption) ?_
  rotate_left
  · intro w hSw
    try dsimp only at hSw
    go_simp
    try with_reducible rfl
  try simp only [Act.put, List.getElem_toArray, List.getElem_cons_succ, List.getElem_cons_zero, List.setIfInBounds_toArray, List.set_cons_zero, List.set_cons_succ]
  refine wpAnyH_take (i := 59) (v := ?_) rfl (by as_aux_lemma => kernel_rfl) (by as_aux_lemma => kernel_rfl) (by as_aux_lemma => kernel_rfl) (fun _ _ _ h => h) (Or.inl ⟨by rfl, ?_⟩) (by assumption) ?_
  rotate_left
  · intro w hSw
    try dsimp only at hSw
    go_simp
    try with_reducible rfl
  try simp only [Act.put, List.getElem_toArray, List.getElem_cons_succ, List.getElem_cons_zero, List.setIfInBounds_toArray, List.set_cons_zero, List.set_cons_succ]
  refine wpAnyH_take (i := 60) (v := ?_) rfl (by as_aux_lemma => kernel_rfl) (by as_aux_lemma => kernel_rfl) (by as_aux_lemma => kernel_rfl) (fun _ _ _ h => h) (Or.inl ⟨by rfl, ?_⟩) (by assumption) ?_
  rotate_left
  · intro w hSw
    try dsimp only at hSw
    go_simp
    try with_reducible rfl
  try simp only [Act.put, List.getElem_toArray, List.getElem_cons_succ, List.getElem_cons_zero, List.setIfInBounds_toArray, List.set_cons_zero, List.set_cons_succ]
  refine wpAnyH_ready (rs := [61]) (by as_aux_lemma => kernel_rfl) (by simp) ?_
  refine AllReadyH.cons rfl (fun K hK => ?_) AllReadyH.nil
  go_simp
  refine (of_any 19 28 _).mono ?_
  rintro e vc0 ⟨rfl, hvc0⟩
  refine hK.out _ _ (KA _ (Below.trans hh8.2.2.2.2.2.2.2.2.2 (Below.mono hvc0 (hh8.2.2.2.2.2.2.2.2.2).size))) (fun hh9 => ?_)
  clear hK K
  try simp only [Act.put, List.getElem_toArray, List.getElem_cons_succ, List.getElem_cons_zero, List.setIfInBounds_toArray, List.set_cons_zero, List.set_cons_succ]
  refine wpAnyH_ready (rs := [62]) (by as_aux_lemma => kernel_rfl) (by simp) ?_
  refine AllReadyH.cons rfl (fun K hK => ?_) AllReadyH.nil
  go_simp
  refine (of_any 17 25 _).mono ?_
  rintro e vc1 ⟨rfl, hvc1⟩
  refine hK.out _ _ (KA _ (Below.trans hh9.2.2.2.2.2.2.2.2.2 (Below.mono hvc1 (hh9.2.2.2.2.2.2.2.2.2).size))) (fun hh10 => ?_)
  clear hK K
  try simp only [Act.put, List.getElem_toArray, List.getElem_cons_succ, List.getElem_cons_zero, List.setIfInBounds_toArray, List.set_cons_zero, List.set_cons_succ]
  refine wpAnyH_ready (rs := [63]) (by as_aux_lemma => kernel_rfl) (by simp) ?_
  refine AllReadyH.cons rfl (fun K hK => ?_) AllReadyH.nil
  go_simp
  refine (of_any 15 22 _).mono ?_
  rintro e vc2 ⟨rfl, hvc2⟩
  refine hK.out _ _ (KA _ (Below.trans hh10.2.2.2.2.2.2.2.2.2 (Below.mono hvc2 (hh10.2.2.2.2.2.2.2.2.2).size))) (fun hh11 => ?_)
  clear hK K
  try simp only [Act.put, List.getElem_toArray, List.getElem_cons_succ, List.getElem_cons_zero, List.setIfInBounds_toArray, List.set_cons_zero, List.set_cons_succ]
  refine wpAnyH_ready (rs := [64]) (by as_aux_lemma => kernel_rfl) (by simp) ?_
  refine AllReadyH.cons rfl (fun K hK => ?_) AllReadyH.nil
  go_simp
  refine (of_any 13 19 _).mono ?_
  rintro e vc3 ⟨rfl, hvc3⟩
  refine hK.out _ _ (KA _ (Below.trans hh11.2.2.2.2.2.2.2.2.2 (Below.mono hvc3 (hh11.2.2.2.2.2.2.2.2.2).size))) (fun hh12 => ?_)
  clear hK K
  try simp only [Act.put, List.getElem_toArray, List.getElem_cons_succ, List.getElem_cons_zero, List.setIfInBounds_toArray, List.set_cons_zero, List.set_cons_succ]
  refine wpAnyH_ready (rs := [65]) (by as_aux_lemma => kernel_rfl) (by simp) ?_
  refine AllReadyH.cons rfl (fun K hK => ?_) AllReadyH.nil
  go_simp
  refine (of_any 11 16 _).mono ?_
  rintro e vc4 ⟨rfl, hvc4⟩
  refine hK.out _ _ (KA _ (Below.trans hh12.2.2.2.2.2.2.2.2.2 (Below.mono hvc4 (hh12.2.2.2.2.2.2.2.2.2).size))) (fun hh13 => ?_)
  clear hK K
  try simp only [Act.put, List.getElem_toArray, List.getElem_cons_succ, List.getElem_cons_zero, List.setIfInBounds_toArray, List.set_cons_zero, List.set_cons_succ]
  refine wpAnyH_ready (rs := [66]) (by as_aux_lemma => kernel_rfl) (by simp) ?_
  refine AllReadyH.cons rfl (fun K hK => ?_) AllReadyH.nil
  go_simp
  refine (of_any 20 29 _).mono ?_
  rintro e vc5 ⟨rfl, hvc5⟩
  refine hK.out _ _ (KA _ (Below.trans hh13.2.2.2.2.2.2.2.2.2 (Below.mono hvc5 (hh13.2.2.2.2.2.2.2.2.2).size))) (fun hh14 => ?_)
  clear hK K
  try simp only [Act.put, List.getElem_toArray, List.getElem_cons_succ, List.getElem_cons_zero, List.setIfInBounds_toArray, List.set_cons_zero, List.set_cons_succ]
  refine wpAnyH_ready (rs := [67]) (by as_aux_lemma => kernel_rfl) (by simp) ?_
  refine AllReadyH.cons rfl (fun K hK => ?_) AllReadyH.nil
  go_simp
  refine hK.out _ _ (KA _ ((hh14.2.2.2.2.2.2.2.2.2).alloc (hh14.2.2.2.2.2.2.2.2.2).size _)) (fun hh15 => ?_)
  clear hK K
  try simp only [Act.put, List.getElem_toArray, List.getElem_cons_succ, List.getElem_cons_zero, List.setIfInBounds_toArray, List.set_cons_zero, List.set_cons_succ]
  refine wpAnyH_ready (rs := [68]) (by as_aux_lemma => kernel_rfl) (by simp) ?_
  refine AllReadyH.cons rfl (fun K hK => ?_) AllReadyH.nil
  go_simp
  refine (same_eq _ _ [(19, 28), (17, 25), (15, 22), (13, 19), (11, 16), (20, 29)] _ (P12.out.below hh15.2.2.2.2.2.2.2.2.2) (pairs_blk [(19, 28), (17, 25), (15, 22), (13, 19), (11, 16), (20, 29)] rfl (by decide) (heap_alloc_new _ _))).mono ?_
  rintro e ye ⟨rfl, hye⟩
  refine hK.out _ _ (KA _ (Below.trans hh15.2.2.2.2.2.2.2.2.2 (Below.mono hye (hh15.2.2.2.2.2.2.2.2.2).size))) (fun hh16 => ?_)
  clear hK K
  try simp only [Act.put, List.getElem_toArray, List.getElem_cons_succ, List.getElem_cons_zero, List.setIfInBounds_toArray, List.set_cons_zero, List.set_cons_succ]
  refine wpAnyH_take (i := 69) (v := ?_) rfl (by as_aux_lemma => kernel_rfl) (by as_aux_lemma => kernel_rfl) (by as_aux_lemma => kernel_rfl) (fun _ _ _ h => h) (Or.inl ⟨by rfl, ?_⟩) (by assumption) ?_
  rotate_left
  · intro w hSw
    try dsimp only at hSw
    go_simp
    try with_reducible rfl
  try simp only [Act.put, List.getElem_toArray, List.getElem_cons_succ, List.getElem_cons_zero, List.setIfInBounds_toArray, List.set_cons_zero, List.set_cons_succ]
  refine wpAnyH_take (i := 70) (v := ?_) rfl (by as_aux_lemma => kernel_rfl) (by as_aux_lemma => kernel_rfl) (by as_aux_lemma => kernel_rfl) (fun _ _ _ h => h) (Or.inl ⟨by rfl, ?_⟩) (by assumption) ?_
  rotate_left
  · intro w hSw
    try dsimp only at hSw
    go_simp
    try with_reducible rfl
  try simp only [Act.put, List.getElem_toArray, List.getElem_cons_succ, List.getElem_cons_zero, List.setIfInBounds_toArray, List.set_cons_zero, List.set_cons_succ]
  refine wpAnyH_take (i := 71) (v := ?_) rfl (by as_aux_lemma => kernel_rfl) (by as_aux_lemma => kernel_rfl) (by as_aux_lemma => kernel_rfl) (fun _ _ _ h => h) (Or.inl ⟨by rfl, ?_⟩) (by assumption) ?_
  rotate_left
  · intro w hSw
    try dsimp only at hSw
    go_simp
    try with_reducible rfl
  try simp only [Act.put, List.getElem_toArray, List.getElem_cons_succ, List.getElem_cons_zero, List.setIfInBounds_toArray, List.set_cons_zero, List.set_cons_succ]
  refine wpAnyH_ready (rs := [72]) (by as_aux_lemma => kernel_rfl) (by simp) ?_
  refine AllReadyH.cons rfl (fun K hK => ?_) AllReadyH.nil
  go_simp
  refine hK.out _ _ (KA _ ((hh16.2.2.2.2.2.2.2.2.2).alloc (hh16.2.2.2.2.2.2.2.2.2).size _)) (fun hh17 => ?_)
  clear hK K
  try simp only [Act.put, List.getElem_toArray, List.getElem_cons_succ, List.getElem_cons_zero, List.setIfInBounds_toArray, List.set_cons_zero, List.set_cons_succ]
  refine wpAnyH_ready (rs := [73]) (by as_aux_lemma => kernel_rfl) (by simp) ?_
  refine AllReadyH.cons rfl (fun K hK => ?_) AllReadyH.nil
  go_simp
  refine (ints_eq _ _ [1, 2, 3] _ (I14.out.below hh17.2.2.2.2.2.2.2.2.2) (ints_blk [1, 2, 3] rfl (by decide) (heap_alloc_new _ _))).mono ?_
  rintro e yf ⟨rfl, hyf⟩
  refine hK.out _ _ (KA _ (Below.trans hh17.2.2.2.2.2.2.2.2.2 (Below.mono hyf (hh17.2.2.2.2.2.2.2.2.2).size))) (fun hh18 => ?_)
  clear hK K
  try simp only [Act.put, List.getElem_toArray, List.getElem_cons_succ, List.getElem_cons_zero, List.setIfInBounds_toArray, List.set_cons_zero, List.set_cons_succ]
  refine wpAnyH_take (i := 74) (v := ?_) rfl (by as_aux_lemma => kernel_rfl) (by as_aux_lemma => kernel_rfl) (by as_aux_lemma => kernel_rfl) (fun _ _ _ h => h) (Or.inl ⟨by rfl, ?_⟩) (by assumption) ?_
  rotate_left
  · intro w hSw
    try dsimp only at hSw
    go_simp
    try with_reducible rfl
  try simp only [Act.put, List.getElem_toArray, List.getElem_cons_succ, List.getElem_cons_zero, List.setIfInBounds_toArray, List.set_cons_zero, List.set_cons_succ]
  refine wpAnyH_take (i := 75) (v := ?_) rfl (by as_aux_lemma => kernel_rfl) (by as_aux_lemma => kernel_rfl) (by as_aux_lemma => kernel_rfl) (fun _ _ _ h => h) (Or.inl ⟨by rfl, ?_⟩) (by assumption) ?_
  rotate_left
  · intro w hSw
    try dsimp only at hSw
    go_simp
    try with_reducible rfl
  try simp only [Act.put, List.getElem_toArray, List.getElem_cons_succ, List.getElem_cons_zero, List.setIfInBounds_toArray, List.set_cons_zero, List.set_cons_succ]
  refine wpAnyH_take (i := 76) (v := ?_) rfl (by as_aux_lemma => kernel_rfl) (by as_aux_lemma => kernel_rfl) (by as_aux_lemma => kernel_rfl) (fun _ _ _ h => h) (Or.inl ⟨by rfl, ?_⟩) (by assumption) ?_
  rotate_left
  · intro w hSw
    try dsimp only at hSw
    go_simp
    try with_reducible rfl
  try simp only [Act.put, List.getElem_toArray, List.getElem_cons_succ, List.getElem_cons_zero, List.setIfInBounds_toArray, List.set_cons_zero, List.set_cons_succ]
  refine wpAnyH_ready (rs := [77]) (by as_aux_lemma => kernel_rfl) (by simp) ?_
  refine AllReadyH.cons rfl (fun K hK => ?_) AllReadyH.nil
  go_simp
  refine hK.out _ _ (KA _ ((hh18.2.2.2.2.2.2.2.2.2).alloc (hh18.2.2.2.2.2.2.2.2.2).size _)) (fun hh19 => ?_)
  clear hK K
  try simp only [Act.put, List.getElem_toArray, List.getElem_cons_succ, List.getElem_cons_zero, List.setIfInBounds_toArray, List.set_cons_zero, List.set_cons_succ]
  refine wpAnyH_ready (rs := [78]) (by as_aux_lemma => kernel_rfl) (by simp) ?_
  refine AllReadyH.cons rfl (fun K hK => ?_) AllReadyH.nil
  go_simp
  refine (ints_eq _ _ [1] _ (I16.out.below hh19.2.2.2.2.2.2.2.2.2) (ints_blk [1] rfl (by decide) (heap_alloc_new _ _))).mono ?_
  rintro e yg ⟨rfl, hyg⟩
  refine hK.out _ _ (KA _ (Below.trans hh19.2.2.2.2.2.2.2.2.2 (Below.mono hyg (hh19.2.2.2.2.2.2.2.2.2).size))) (fun hh20 => ?_)
  clear hK K
  try simp only [Act.put, List.getElem_toArray, List.getElem_cons_succ, List.getElem_cons_zero, List.setIfInBounds_toArray, List.set_cons_zero, List.set_cons_succ]
  refine wpAnyH_take (i := 79) (v := ?_) rfl (by as_aux_lemma => kernel_rfl) (by as_aux_lemma => kernel_rfl) (by as_aux_lemma => kernel_rfl) (fun _ _ _ h => h) (Or.inl ⟨by rfl, ?_⟩) (by assumption) ?_
  rotate_left
  · intro w hSw
    try dsimp only at hSw
    go_simp
    try with_reducible rfl
  try simp only [Act.put, List.getElem_toArray, List.getElem_cons_succ, List.getElem_cons_zero, List.setIfInBounds_toArray, List.set_cons_zero, List.set_cons_succ]
  refine wpAnyH_ready (rs := [80]) (by as_aux_lemma => kernel_rfl) (by simp) ?_
  refine AllReadyH.cons rfl (fun K hK => ?_) AllReadyH.nil
  go_simp
  refine hK.out _ _ hh20 (fun hh21 => ?_)
  clear hK K
  try simp only [Act.put, List.getElem_toArray, List.getElem_cons_succ, List.getElem_cons_zero, List.setIfInBounds_toArray, List.set_cons_zero, List.set_cons_succ]
  refine wpAnyH_done (by as_aux_lemma => kernel_rfl) ?_ _
  refine NoPanic.normal ?_
  have HBZ := Lib.hid (hh21.2.2.2.2.2.2.2.2.2)
  have hbz := HBZ.out
  go_wp2_with fail
  go_ret
  exact ⟨rfl, HB.out.trans (hbz.mono HB.out.size)⟩
end Go.Proofs.Ythflbbjilebhlaa
