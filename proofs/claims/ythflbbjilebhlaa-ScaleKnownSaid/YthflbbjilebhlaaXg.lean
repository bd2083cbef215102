/- The examples of the document. -/
import Derived.Test.YthflbbjilebhlaaYf
set_option linter.unusedSimpArgs false
set_option linter.unusedVariables false
namespace Go.Proofs.Ythflbbjilebhlaa
open Go Go.RowKit Go.Shelf Sc

set_option maxRecDepth 100000 in
set_option maxHeartbeats 16000000 in
theorem known_any (w : World) : Calls Try.prog 6 #[] w fun e w' => e = .returned (.bool true) ∧ Below w.heap.size w w' := by
  have HB := Lib.hid (Below.refl w.heap.size w)
  go_enter Try.func6, Try.ntmps6
  go_wp2_with fail
  refine (lcase_any 2 w).mono ?_
  rintro e w1 ⟨ha, hc, ra, rc, rfl, hC, hb⟩
  have HB' := Lib.hid (HB.out.trans (hb.mono HB.out.size))
  clear HB
  have HB := HB'
  clear HB'
  have HC := Lib.hid (hC)
  clear hC hb
  obtain ⟨x1, hx1, zx1, hb⟩ : ∃ V, w1.alloc (Obj.cells #[.int .i64 2, .int .i64 100, .int .i64 50, .slice ha 4 hc, .slice ra 3 rc] 25) = V ∧ V.heap[w1.heap.size]? = some (.cells #[.int .i64 2, .int .i64 100, .int .i64 50, .slice ha 4 hc, .slice ra 3 rc] 25 (0, 0)) ∧ Below w1.heap.size w1 V := ⟨_, rfl, heap_alloc_new _ _, by go_grown⟩
  have HB' := Lib.hid (HB.out.trans (hb.mono HB.out.size))
  have HC' := Lib.hid (HC.out.below hb)
  clear HB
  have HB := HB'
  clear HB'
  clear HC
  have HC := HC'
  clear HC'
  have HK := Lib.hid zx1
  have Hx1 := Lib.hid hx1
  clear zx1 hb
  clear hx1
  go_wp2_with fail
  rw [Hx1.out]
  clear Hx1
  have cHK0 := cellOf HK.out 0 (.int .i64 2) rfl
  have cHK1 := cellOf HK.out 1 (.int .i64 100) rfl
  have cHK2 := cellOf HK.out 2 (.int .i64 50) rfl
  have cHK3 := cellOf HK.out 3 (.slice ha 4 hc) rfl
  have cHK4 := cellOf HK.out 4 (.slice ra 3 rc) rfl
  have lHK := lt_of_block HK.out
  have KA : ∀ W' : World, Below x1.heap.size x1 W' → (W'.cell? ⟨w1.heap.size, 0, none⟩ = some (.int .i64 2) ∧ W'.cell? ⟨w1.heap.size, 1, none⟩ = some (.int .i64 100) ∧ W'.cell? ⟨w1.heap.size, 2, none⟩ = some (.int .i64 50) ∧ W'.cell? ⟨w1.heap.size, 3, none⟩ = some (.slice ha 4 hc) ∧ W'.cell? ⟨w1.heap.size, 4, none⟩ = some (.slice ra 3 rc) ∧ Below x1.heap.size x1 W') := fun W' hb => ⟨keepK cHK0 hb, keepK cHK1 hb, keepK cHK2 hb, keepK cHK3 hb, keepK cHK4 hb, hb⟩
  refine wp_region_noPanic ?_
  refine wp_region_held_drew (S := (fun W' => W'.cell? ⟨w1.heap.size, 0, none⟩ = some (.int .i64 2) ∧ W'.cell? ⟨w1.heap.size, 1, none⟩ = some (.int .i64 100) ∧ W'.cell? ⟨w1.heap.size, 2, none⟩ = some (.int .i64 50) ∧ W'.cell? ⟨w1.heap.size, 3, none⟩ = some (.slice ha 4 hc) ∧ W'.cell? ⟨w1.heap.size, 4, none⟩ = some (.slice ra 3 rc) ∧ Below x1.heap.size x1 W')) (by kernel_rfl) ?_ (fun hh0 => ?_)
  · exact KA _ (Below.refl _ _).drew
  refine wpAnyH_take (i := 0) (v := ?_) rfl (by as_aux_lemma => kernel_rfl) (by as_aux_lemma => kernel_rfl) (by as_aux_lemma => kernel_rfl) (fun _ _ _ h => h) (Or.inl ⟨by rfl, ?_⟩) (by assumption) ?_
  rotate_left
  · intro w hSw
    try dsimp only at hSw
    go_simp
    try with_reducible rfl
  try simp only [Act.put, List.getElem_toArray, List.getElem_cons_succ, List.getElem_cons_zero, List.setIfInBounds_toArray, List.set_cons_zero, List.set_cons_succ]
  refine wpAnyH_ready (rs := [1]) (by as_aux_lemma => kernel_rfl) (by simp) ?_
  refine AllReadyH.cons rfl (fun K hK => ?_) AllReadyH.nil
  go_simp
  refine (of_any 2 3 _).mono ?_
  rintro e v20 ⟨rfl, hv20⟩
  refine hK.out _ _ (KA _ (Below.trans hh0.2.2.2.2.2 (Below.mono hv20 (hh0.2.2.2.2.2).size))) (fun hh1 => ?_)
  clear hK K
  try simp only [Act.put, List.getElem_toArray, List.getElem_cons_succ, List.getElem_cons_zero, List.setIfInBounds_toArray, List.set_cons_zero, List.set_cons_succ]
  refine wpAnyH_ready (rs := [2]) (by as_aux_lemma => kernel_rfl) (by simp) ?_
  refine AllReadyH.cons rfl (fun K hK => ?_) AllReadyH.nil
  go_simp
  refine (b_cuts2 _ _ _ (HC.out.below hh1.2.2.2.2.2)).mono ?_
  rintro e y2 ⟨I2a, I2c, rfl, hII2, hy2⟩
  refine hK.out _ _ (KA _ (Below.trans hh1.2.2.2.2.2 (Below.mono hy2 (hh1.2.2.2.2.2).size))) (fun hh2 => ?_)
  clear hK K
  try simp only [Act.put, List.getElem_toArray, List.getElem_cons_succ, List.getElem_cons_zero, List.setIfInBounds_toArray, List.set_cons_zero, List.set_cons_succ]
  refine wpAnyH_take (i := 3) (v := ?_) rfl (by as_aux_lemma => kernel_rfl) (by as_aux_lemma => kernel_rfl) (by as_aux_lemma => kernel_rfl) (fun _ _ _ h => h) (Or.inl ⟨by rfl, ?_⟩) (by assumption) ?_
  rotate_left
  · intro w hSw
    try dsimp only at hSw
    go_simp
    try with_reducible rfl
  try simp only [Act.put, List.getElem_toArray, List.getElem_cons_succ, List.getElem_cons_zero, List.setIfInBounds_toArray, List.set_cons_zero, List.set_cons_succ]
  refine wpAnyH_take (i := 4) (v := ?_) rfl (by as_aux_lemma => kernel_rfl) (by as_aux_lemma => kernel_rfl) (by as_aux_lemma => kernel_rfl) (fun _ _ _ h => h) (Or.inl ⟨by rfl, ?_⟩) (by assumption) ?_
  rotate_left
  · intro w hSw
    try dsimp only at hSw
    go_simp
    try with_reducible rfl
  try simp only [Act.put, List.getElem_toArray, List.getElem_cons_succ, List.getElem_cons_zero, List.setIfInBounds_toArray, List.set_cons_zero, List.set_cons_succ]
  refine wpAnyH_take (i := 5) (v := ?_) rfl (by as_aux_lemma => kernel_rfl) (by as_aux_lemma => kernel_rfl) (by as_aux_lemma => kernel_rfl) (fun _ _ _ h => h) (Or.inl ⟨by rfl, ?_⟩) (by assumption) ?_
  rotate_left
  · intro w hSw
    try dsimp only at hSw
    go_simp
    try with_reducible rfl
  try simp only [Act.put, List.getElem_toArray, List.getElem_cons_succ, List.getElem_cons_zero, List.setIfInBounds_toArray, List.set_cons_zero, List.set_cons_succ]
  refine wpAnyH_ready (rs := [6]) (by as_aux_lemma => kernel_rfl) (by simp) ?_
  refine AllReadyH.cons rfl (fun K hK => ?_) AllReadyH.nil
  go_simp
  refine hK.out _ _ hh2 (fun hh3 => ?_)
  clear hK K
  try simp only [Act.put, List.getElem_toArray, List.getElem_cons_succ, List.getElem_cons_zero, List.setIfInBounds_toArray, List.set_cons_zero, List.set_cons_succ]
  refine wpAnyH_ready (rs := [7]) (by as_aux_lemma => kernel_rfl) (by simp) ?_
  refine AllReadyH.cons rfl (fun K hK => ?_) AllReadyH.nil
  go_simp
  refine hK.out _ _ hh3 (fun hh4 => ?_)
  clear hK K
  try simp only [Act.put, List.getElem_toArray, List.getElem_cons_succ, List.getElem_cons_zero, List.setIfInBounds_toArray, List.set_cons_zero, List.set_cons_succ]
  refine wpAnyH_done (by as_aux_lemma => kernel_rfl) ?_ _
  refine NoPanic.normal ?_
  have HBZ := Lib.hid (hh4.2.2.2.2.2)
  have hbz := HBZ.out
  clear KA
  clear cHK0 cHK1 cHK2 cHK3 cHK4 lHK
  have HB' := Lib.hid (HB.out.trans (hbz.mono HB.out.size))
  have HC' := Lib.hid (HC.out.below hbz)
  have HK' := Lib.hid ((hbz.block _ (lt_of_block HK.out)).trans HK.out)
  clear HB
  have HB := HB'
  clear HB'
  clear HC
  have HC := HC'
  clear HC'
  clear HK
  have HK := HK'
  clear HK'
  have I2 := Lib.hid (hII2)
  clear hbz HBZ hII2
  go_wp2_with fail
  refine (lcase_any 1 y2).mono ?_
  rintro e w3a ⟨ha3, hc3, ra3, rc3, rfl, hC3, hb⟩
  have HB' := Lib.hid (HB.out.trans (hb.mono HB.out.size))
  have HC' := Lib.hid (HC.out.below hb)
  have HK' := Lib.hid ((hb.block _ (lt_of_block HK.out)).trans HK.out)
  have I2' := Lib.hid (I2.out.below hb)
  clear HB
  have HB := HB'
  clear HB'
  clear HC
  have HC := HC'
  clear HC'
  clear HK
  have HK := HK'
  clear HK'
  clear I2
  have I2 := I2'
  clear I2'
  have HC3 := Lib.hid (hC3)
  clear hC3 hb
  go_wp2_with fail
  refine (of_any 2 3 w3a).mono ?_
  rintro e w3b ⟨rfl, hb⟩
  have HB' := Lib.hid (HB.out.trans (hb.mono HB.out.size))
  have HC' := Lib.hid (HC.out.below hb)
  have HK' := Lib.hid ((hb.block _ (lt_of_block HK.out)).trans HK.out)
  have I2' := Lib.hid (I2.out.below hb)
  have HC3' := Lib.hid (HC3.out.below hb)
  clear HB
  have HB := HB'
  clear HB'
  clear HC
  have HC := HC'
  clear HC'
  clear HK
  have HK := HK'
  clear HK'
  clear I2
  have I2 := I2'
  clear I2'
  clear HC3
  have HC3 := HC3'
  clear HC3'
  clear hb
  go_wp2_with fail
  refine (b_cuts1 _ _ _ HC3.out).mono ?_
  rintro e w3c ⟨I3a, I3c, rfl, hII3, hb⟩
  have HB' := Lib.hid (HB.out.trans (hb.mono HB.out.size))
  have HC' := Lib.hid (HC.out.below hb)
  have HK' := Lib.hid ((hb.block _ (lt_of_block HK.out)).trans HK.out)
  have I2' := Lib.hid (I2.out.below hb)
  have HC3' := Lib.hid (HC3.out.below hb)
  clear HB
  have HB := HB'
  clear HB'
  clear HC
  have HC := HC'
  clear HC'
  clear HK
  have HK := HK'
  clear HK'
  clear I2
  have I2 := I2'
  clear I2'
  clear HC3
  have HC3 := HC3'
  clear HC3'
  have I3 := Lib.hid (hII3)
  clear hb hII3
  go_wp2_with fail
  clear HC3
  refine (lcase_any 3 w3c).mono ?_
  rintro e w4a ⟨ha4, hc4, ra4, rc4, rfl, hC4, hb⟩
  have HB' := Lib.hid (HB.out.trans (hb.mono HB.out.size))
  have HC' := Lib.hid (HC.out.below hb)
  have HK' := Lib.hid ((hb.block _ (lt_of_block HK.out)).trans HK.out)
  have I2' := Lib.hid (I2.out.below hb)
  have I3' := Lib.hid (I3.out.below hb)
  clear HB
  have HB := HB'
  clear HB'
  clear HC
  have HC := HC'
  clear HC'
  clear HK
  have HK := HK'
  clear HK'
  clear I2
  have I2 := I2'
  clear I2'
  clear I3
  have I3 := I3'
  clear I3'
  have HC4 := Lib.hid (hC4)
  clear hC4 hb
  go_wp2_with fail
  refine (of_any 2 3 w4a).mono ?_
  rintro e w4b ⟨rfl, hb⟩
  have HB' := Lib.hid (HB.out.trans (hb.mono HB.out.size))
  have HC' := Lib.hid (HC.out.below hb)
  have HK' := Lib.hid ((hb.block _ (lt_of_block HK.out)).trans HK.out)
  have I2' := Lib.hid (I2.out.below hb)
  have I3' := Lib.hid (I3.out.below hb)
  have HC4' := Lib.hid (HC4.out.below hb)
  clear HB
  have HB := HB'
  clear HB'
  clear HC
  have HC := HC'
  clear HC'
  clear HK
  have HK := HK'
  clear HK'
  clear I2
  have I2 := I2'
  clear I2'
  clear I3
  have I3 := I3'
  clear I3'
  clear HC4
  have HC4 := HC4'
  clear HC4'
  clear hb
  go_wp2_with fail
  refine (b_cuts3 _ _ _ HC4.out).mono ?_
  rintro e w4c ⟨I4a, I4c, rfl, hII4, hb⟩
  have HB' := Lib.hid (HB.out.trans (hb.mono HB.out.size))
  have HC' := Lib.hid (HC.out.below hb)
  have HK' := Lib.hid ((hb.block _ (lt_of_block HK.out)).trans HK.out)
  have I2' := Lib.hid (I2.out.below hb)
  have I3' := Lib.hid (I3.out.below hb)
  have HC4' := Lib.hid (HC4.out.below hb)
  clear HB
  have HB := HB'
  clear HB'
  clear HC
  have HC := HC'
  clear HC'
  clear HK
  have HK := HK'
  clear HK'
  clear I2
  have I2 := I2'
  clear I2'
  clear I3
  have I3 := I3'
  clear I3'
  clear HC4
  have HC4 := HC4'
  clear HC4'
  have I4 := Lib.hid (hII4)
  clear hb hII4
  go_wp2_with fail
  clear HC4
  have cHK0 := cellOf HK.out 0 (.int .i64 2) rfl
  have cHK1 := cellOf HK.out 1 (.int .i64 100) rfl
  have cHK2 := cellOf HK.out 2 (.int .i64 50) rfl
  have cHK3 := cellOf HK.out 3 (.slice ha 4 hc) rfl
  have cHK4 := cellOf HK.out 4 (.slice ra 3 rc) rfl
  have lHK := lt_of_block HK.out
  have KA : ∀ W' : World, Below w4c.heap.size w4c W' → (W'.cell? ⟨w1.heap.size, 0, none⟩ = some (.int .i64 2) ∧ W'.cell? ⟨w1.heap.size, 1, none⟩ = some (.int .i64 100) ∧ W'.cell? ⟨w1.heap.size, 2, none⟩ = some (.int .i64 50) ∧ W'.cell? ⟨w1.heap.size, 3, none⟩ = some (.slice ha 4 hc) ∧ W'.cell? ⟨w1.heap.size, 4, none⟩ = some (.slice ra 3 rc) ∧ Below w4c.heap.size w4c W') := fun W' hb => ⟨keepK cHK0 hb, keepK cHK1 hb, keepK cHK2 hb, keepK cHK3 hb, keepK cHK4 hb, hb⟩
  refine wp_region_noPanic ?_
  refine wp_region_held_drew (S := (fun W' => W'.cell? ⟨w1.heap.size, 0, none⟩ = some (.int .i64 2) ∧ W'.cell? ⟨w1.heap.size, 1, none⟩ = some (.int .i64 100) ∧ W'.cell? ⟨w1.heap.size, 2, none⟩ = some (.int .i64 50) ∧ W'.cell? ⟨w1.heap.size, 3, none⟩ = some (.slice ha 4 hc) ∧ W'.cell? ⟨w1.heap.size, 4, none⟩ = some (.slice ra 3 rc) ∧ Below w4c.heap.size w4c W')) (by kernel_rfl) ?_ (fun hh0 => ?_)
  · exact KA _ (Below.refl _ _).drew
  refine wpAnyH_take (i := 0) (v := ?_) rfl (by as_aux_lemma => kernel_rfl) (by as_aux_lemma => kernel_rfl) (by as_aux_lemma => kernel_rfl) (fun _ _ _ h => h) (Or.inl ⟨by rfl, ?_⟩) (by assumption) ?_
  rotate_left
  · intro w hSw
    try dsimp only at hSw
    go_simp
    try with_reducible rfl
  try simp only [Act.put, List.getElem_toArray, List.getElem_cons_succ, List.getElem_cons_zero, List.setIfInBounds_toArray, List.set_cons_zero, List.set_cons_succ]
  refine wpAnyH_ready (rs := [1]) (by as_aux_lemma => kernel_rfl) (by simp) ?_
  refine AllReadyH.cons rfl (fun K hK => ?_) AllReadyH.nil
  go_simp
  refine (of_any 1 2 _).mono ?_
  rintro e v50 ⟨rfl, hv50⟩
  refine hK.out _ _ (KA _ (Below.trans hh0.2.2.2.2.2 (Below.mono hv50 (hh0.2.2.2.2.2).size))) (fun hh1 => ?_)
  clear hK K
  try simp only [Act.put, List.getElem_toArray, List.getElem_cons_succ, List.getElem_cons_zero, List.setIfInBounds_toArray, List.set_cons_zero, List.set_cons_succ]
  refine wpAnyH_ready (rs := [2]) (by as_aux_lemma => kernel_rfl) (by simp) ?_
  refine AllReadyH.cons rfl (fun K hK => ?_) AllReadyH.nil
  go_simp
  refine (b_false _ _ _ (HC.out.below hh1.2.2.2.2.2)).mono ?_
  rintro e y5 ⟨I5a, I5c, rfl, hII5, hy5⟩
  refine hK.out _ _ (KA _ (Below.trans hh1.2.2.2.2.2 (Below.mono hy5 (hh1.2.2.2.2.2).size))) (fun hh2 => ?_)
  clear hK K
  try simp only [Act.put, List.getElem_toArray, List.getElem_cons_succ, List.getElem_cons_zero, List.setIfInBounds_toArray, List.set_cons_zero, List.set_cons_succ]
  refine wpAnyH_take (i := 3) (v := ?_) rfl (by as_aux_lemma => kernel_rfl) (by as_aux_lemma => kernel_rfl) (by as_aux_lemma => kernel_rfl) (fun _ _ _ h => h) (Or.inl ⟨by rfl, ?_⟩) (by assumption) ?_
  rotate_left
  · intro w hSw
    try dsimp only at hSw
    go_simp
    try with_reducible rfl
  try simp only [Act.put, List.getElem_toArray, List.getElem_cons_succ, List.getElem_cons_zero, List.setIfInBounds_toArray, List.set_cons_zero, List.set_cons_succ]
  refine wpAnyH_take (i := 4) (v := ?_) rfl (by as_aux_lemma => kernel_rfl) (by as_aux_lemma => kernel_rfl) (by as_aux_lemma => kernel_rfl) (fun _ _ _ h => h) (Or.inl ⟨by rfl, ?_⟩) (by assumption) ?_
  rotate_left
  · intro w hSw
    try dsimp only at hSw
    go_simp
    try with_reducible rfl
  try simp only [Act.put, List.getElem_toArray, List.getElem_cons_succ, List.getElem_cons_zero, List.setIfInBounds_toArray, List.set_cons_zero, List.set_cons_succ]
  refine wpAnyH_take (i := 5) (v := ?_) rfl (by as_aux_lemma => kernel_rfl) (by as_aux_lemma => kernel_rfl) (by as_aux_lemma => kernel_rfl) (fun _ _ _ h => h) (Or.inl ⟨by rfl, ?_⟩) (by assumption) ?_
  rotate_left
  · intro w hSw
    try dsimp only at hSw
    go_simp
    try with_reducible rfl
  try simp only [Act.put, List.getElem_toArray, List.getElem_cons_succ, List.getElem_cons_zero, List.setIfInBounds_toArray, List.set_cons_zero, List.set_cons_succ]
  refine wpAnyH_ready (rs := [6]) (by as_aux_lemma => kernel_rfl) (by simp) ?_
  refine AllReadyH.cons rfl (fun K hK => ?_) AllReadyH.nil
  go_simp
  refine hK.out _ _ hh2 (fun hh3 => ?_)
  clear hK K
  try simp only [Act.put, List.getElem_toArray, List.getElem_cons_succ, List.getElem_cons_zero, List.setIfInBounds_toArray, List.set_cons_zero, List.set_cons_succ]
  refine wpAnyH_ready (rs := [7]) (by as_aux_lemma => kernel_rfl) (by simp) ?_
  refine AllReadyH.cons rfl (fun K hK => ?_) AllReadyH.nil
  go_simp
  refine hK.out _ _ hh3 (fun hh4 => ?_)
  clear hK K
  try simp only [Act.put, List.getElem_toArray, List.getElem_cons_succ, List.getElem_cons_zero, List.setIfInBounds_toArray, List.set_cons_zero, List.set_cons_succ]
  refine wpAnyH_done (by as_aux_lemma => kernel_rfl) ?_ _
  refine NoPanic.normal ?_
  have HBZ := Lib.hid (hh4.2.2.2.2.2)
  have hbz := HBZ.out
  clear KA
  clear cHK0 cHK1 cHK2 cHK3 cHK4 lHK
  have HB' := Lib.hid (HB.out.trans (hbz.mono HB.out.size))
  have HC' := Lib.hid (HC.out.below hbz)
  have HK' := Lib.hid ((hbz.block _ (lt_of_block HK.out)).trans HK.out)
  have I2' := Lib.hid (I2.out.below hbz)
  have I3' := Lib.hid (I3.out.below hbz)
  have I4' := Lib.hid (I4.out.below hbz)
  clear HB
  have HB := HB'
  clear HB'
  clear HC
  have HC := HC'
  clear HC'
  clear HK
  have HK := HK'
  clear HK'
  clear I2
  have I2 := I2'
  clear I2'
  clear I3
  have I3 := I3'
  clear I3'
  clear I4
  have I4 := I4'
  clear I4'
  have I5 := Lib.hid (hII5)
  clear hbz HBZ hII5
  go_wp2_with fail
  have cHK0 := cellOf HK.out 0 (.int .i64 2) rfl
  have cHK1 := cellOf HK.out 1 (.int .i64 100) rfl
  have cHK2 := cellOf HK.out 2 (.int .i64 50) rfl
  have cHK3 := cellOf HK.out 3 (.slice ha 4 hc) rfl
  have cHK4 := cellOf HK.out 4 (.slice ra 3 rc) rfl
  have lHK := lt_of_block HK.out
  have KA : ∀ W' : World, Below y5.heap.size y5 W' → (W'.cell? ⟨w1.heap.size, 0, none⟩ = some (.int .i64 2) ∧ W'.cell? ⟨w1.heap.size, 1, none⟩ = some (.int .i64 100) ∧ W'.cell? ⟨w1.heap.size, 2, none⟩ = some (.int .i64 50) ∧ W'.cell? ⟨w1.heap.size, 3, none⟩ = some (.slice ha 4 hc) ∧ W'.cell? ⟨w1.heap.size, 4, none⟩ = some (.slice ra 3 rc) ∧ Below y5.heap.size y5 W') := fun W' hb => ⟨keepK cHK0 hb, keepK cHK1 hb, keepK cHK2 hb, keepK cHK3 hb, keepK cHK4 hb, hb⟩
  refine wp_region_noPanic ?_
  refine wp_region_held_drew (S := (fun W' => W'.cell? ⟨w1.heap.size, 0, none⟩ = some (.int .i64 2) ∧ W'.cell? ⟨w1.heap.size, 1, none⟩ = some (.int .i64 100) ∧ W'.cell? ⟨w1.heap.size, 2, none⟩ = some (.int .i64 50) ∧ W'.cell? ⟨w1.heap.size, 3, none⟩ = some (.slice ha 4 hc) ∧ W'.cell? ⟨w1.heap.size, 4, none⟩ = some (.slice ra 3 rc) ∧ Below y5.heap.size y5 W')) (by kernel_rfl) ?_ (fun hh0 => ?_)
  · exact KA _ (Below.refl _ _).drew
  refine wpAnyH_take (i := 0) (v := ?_) rfl (by as_aux_lemma => kernel_rfl) (by as_aux_lemma => kernel_rfl) (by as_aux_lemma => kernel_rfl) (fun _ _ _ h => h) (Or.inl ⟨by rfl, ?_⟩) (by assumption) ?_
  rotate_left
  · intro w hSw
    try dsimp only at hSw
    go_simp
    try with_reducible rfl
  try simp only [Act.put, List.getElem_toArray, List.getElem_cons_succ, List.getElem_cons_zero, List.setIfInBounds_toArray, List.set_cons_zero, List.set_cons_succ]
  refine wpAnyH_ready (rs := [1]) (by as_aux_lemma => kernel_rfl) (by simp) ?_
  refine AllReadyH.cons rfl (fun K hK => ?_) AllReadyH.nil
  go_simp
  refine (of_any 1 2 _).mono ?_
  rintro e v60 ⟨rfl, hv60⟩
  refine hK.out _ _ (KA _ (Below.trans hh0.2.2.2.2.2 (Below.mono hv60 (hh0.2.2.2.2.2).size))) (fun hh1 => ?_)
  clear hK K
  try simp only [Act.put, List.getElem_toArray, List.getElem_cons_succ, List.getElem_cons_zero, List.setIfInBounds_toArray, List.set_cons_zero, List.set_cons_succ]
  refine wpAnyH_ready (rs := [2]) (by as_aux_lemma => kernel_rfl) (by simp) ?_
  refine AllReadyH.cons rfl (fun K hK => ?_) AllReadyH.nil
  go_simp
  refine (b_flat _ _ _ (HC.out.below hh1.2.2.2.2.2)).mono ?_
  rintro e y6 ⟨I6a, I6c, rfl, hII6, hy6⟩
  refine hK.out _ _ (KA _ (Below.trans hh1.2.2.2.2.2 (Below.mono hy6 (hh1.2.2.2.2.2).size))) (fun hh2 => ?_)
  clear hK K
  try simp only [Act.put, List.getElem_toArray, List.getElem_cons_succ, List.getElem_cons_zero, List.setIfInBounds_toArray, List.set_cons_zero, List.set_cons_succ]
  refine wpAnyH_take (i := 3) (v := ?_) rfl (by as_aux_lemma => kernel_rfl) (by as_aux_lemma => kernel_rfl) (by as_aux_lemma => kernel_rfl) (fun _ _ _ h => h) (Or.inl ⟨by rfl, ?_⟩) (by assumption) ?_
  rotate_left
  · intro w hSw
    try dsimp only at hSw
    go_simp
    try with_reducible rfl
  try simp only [Act.put, List.getElem_toArray, List.getElem_cons_succ, List.getElem_cons_zero, List.setIfInBounds_toArray, List.set_cons_zero, List.set_cons_succ]
  refine wpAnyH_take (i := 4) (v := ?_) rfl (by as_aux_lemma => kernel_rfl) (by as_aux_lemma => kernel_rfl) (by as_aux_lemma => kernel_rfl) (fun _ _ _ h => h) (Or.inl ⟨by rfl, ?_⟩) (by assumption) ?_
  rotate_left
  · intro w hSw
    try dsimp only at hSw
    go_simp
    try with_reducible rfl
  try simp only [Act.put, List.getElem_toArray, List.getElem_cons_succ, List.getElem_cons_zero, List.setIfInBounds_toArray, List.set_cons_zero, List.set_cons_succ]
  refine wpAnyH_take (i := 5) (v := ?_) rfl (by as_aux_lemma => kernel_rfl) (by as_aux_lemma => kernel_rfl) (by as_aux_lemma => kernel_rfl) (fun _ _ _ h => h) (Or.inl ⟨by rfl, ?_⟩) (by assumption) ?_
  rotate_left
  · intro w hSw
    try dsimp only at hSw
    go_simp
    try with_reducible rfl
  try simp only [Act.put, List.getElem_toArray, List.getElem_cons_succ, List.getElem_cons_zero, List.setIfInBounds_toArray, List.set_cons_zero, List.set_cons_succ]
  refine wpAnyH_ready (rs := [6]) (by as_aux_lemma => kernel_rfl) (by simp) ?_
  refine AllReadyH.cons rfl (fun K hK => ?_) AllReadyH.nil
  go_simp
  refine hK.out _ _ hh2 (fun hh3 => ?_)
  clear hK K
  try simp only [Act.put, List.getElem_toArray, List.getElem_cons_succ, List.getElem_cons_zero, List.setIfInBounds_toArray, List.set_cons_zero, List.set_cons_succ]
  refine wpAnyH_ready (rs := [7]) (by as_aux_lemma => kernel_rfl) (by simp) ?_
  refine AllReadyH.cons rfl (fun K hK => ?_) AllReadyH.nil
  go_simp
  refine hK.out _ _ hh3 (fun hh4 => ?_)
  clear hK K
  try simp only [Act.put, List.getElem_toArray, List.getElem_cons_succ, List.getElem_cons_zero, List.setIfInBounds_toArray, List.set_cons_zero, List.set_cons_succ]
  refine wpAnyH_done (by as_aux_lemma => kernel_rfl) ?_ _
  refine NoPanic.normal ?_
  have HBZ := Lib.hid (hh4.2.2.2.2.2)
  have hbz := HBZ.out
  clear KA
  clear cHK0 cHK1 cHK2 cHK3 cHK4 lHK
  have HB' := Lib.hid (HB.out.trans (hbz.mono HB.out.size))
  have HC' := Lib.hid (HC.out.below hbz)
  have HK' := Lib.hid ((hbz.block _ (lt_of_block HK.out)).trans HK.out)
  have I2' := Lib.hid (I2.out.below hbz)
  have I3' := Lib.hid (I3.out.below hbz)
  have I4' := Lib.hid (I4.out.below hbz)
  have I5' := Lib.hid (I5.out.below hbz)
  clear HB
  have HB := HB'
  clear HB'
  clear HC
  have HC := HC'
  clear HC'
  clear HK
  have HK := HK'
  clear HK'
  clear I2
  have I2 := I2'
  clear I2'
  clear I3
  have I3 := I3'
  clear I3'
  clear I4
  have I4 := I4'
  clear I4'
  clear I5
  have I5 := I5'
  clear I5'
  have I6 := Lib.hid (hII6)
  clear hbz HBZ hII6
  have cHK0 := cellOf HK.out 0 (.int .i64 2) rfl
  have cHK1 := cellOf HK.out 1 (.int .i64 100) rfl
  have cHK2 := cellOf HK.out 2 (.int .i64 50) rfl
  have cHK3 := cellOf HK.out 3 (.slice ha 4 hc) rfl
  have cHK4 := cellOf HK.out 4 (.slice ra 3 rc) rfl
  have lHK := lt_of_block HK.out
  go_wp2_with fail
  refine (b_great0 _ _ _ HC.out).mono ?_
  rintro e w2c ⟨rfl, hb⟩
  clear cHK0 cHK1 cHK2 cHK3 cHK4 lHK
  have HB' := Lib.hid (HB.out.trans (hb.mono HB.out.size))
  have HC' := Lib.hid (HC.out.below hb)
  have HK' := Lib.hid ((hb.block _ (lt_of_block HK.out)).trans HK.out)
  have I2' := Lib.hid (I2.out.below hb)
  have I3' := Lib.hid (I3.out.below hb)
  have I4' := Lib.hid (I4.out.below hb)
  have I5' := Lib.hid (I5.out.below hb)
  have I6' := Lib.hid (I6.out.below hb)
  clear HB
  have HB := HB'
  clear HB'
  clear HC
  have HC := HC'
  clear HC'
  clear HK
  have HK := HK'
  clear HK'
  clear I2
  have I2 := I2'
  clear I2'
  clear I3
  have I3 := I3'
  clear I3'
  clear I4
  have I4 := I4'
  clear I4'
  clear I5
  have I5 := I5'
  clear I5'
  clear I6
  have I6 := I6'
  clear I6'
  clear hb
  obtain ⟨x3, hx3, zx3, hb⟩ : ∃ V, w2c.alloc (Obj.cells #[.int .i64 4, .int .i64 5] 27) = V ∧ V.heap[w2c.heap.size]? = some (.cells #[.int .i64 4, .int .i64 5] 27 (0, 0)) ∧ Below w2c.heap.size w2c V := ⟨_, rfl, heap_alloc_new _ _, by go_grown⟩
  have HB' := Lib.hid (HB.out.trans (hb.mono HB.out.size))
  have HC' := Lib.hid (HC.out.below hb)
  have HK' := Lib.hid ((hb.block _ (lt_of_block HK.out)).trans HK.out)
  have I2' := Lib.hid (I2.out.below hb)
  have I3' := Lib.hid (I3.out.below hb)
  have I4' := Lib.hid (I4.out.below hb)
  have I5' := Lib.hid (I5.out.below hb)
  have I6' := Lib.hid (I6.out.below hb)
  clear HB
  have HB := HB'
  clear HB'
  clear HC
  have HC := HC'
  clear HC'
  clear HK
  have HK := HK'
  clear HK'
  clear I2
  have I2 := I2'
  clear I2'
  clear I3
  have I3 := I3'
  clear I3'
  clear I4
  have I4 := I4'
  clear I4'
  clear I5
  have I5 := I5'
  clear I5'
  clear I6
  have I6 := I6'
  clear I6'
  have S12 := Lib.hid zx3
  have Hx3 := Lib.hid hx3
  clear zx3 hb
  have cHK0 : (w2c.alloc (Obj.cells #[.int .i64 4, .int .i64 5] 27)).cell? ⟨w1.heap.size, 0, none⟩ = some (.int .i64 2) := by rw [hx3]; exact cellOf HK.out 0 (.int .i64 2) rfl
  have cHK1 : (w2c.alloc (Obj.cells #[.int .i64 4, .int .i64 5] 27)).cell? ⟨w1.heap.size, 1, none⟩ = some (.int .i64 100) := by rw [hx3]; exact cellOf HK.out 1 (.int .i64 100) rfl
  have cHK2 : (w2c.alloc (Obj.cells #[.int .i64 4, .int .i64 5] 27)).cell? ⟨w1.heap.size, 2, none⟩ = some (.int .i64 50) := by rw [hx3]; exact cellOf HK.out 2 (.int .i64 50) rfl
  have cHK3 : (w2c.alloc (Obj.cells #[.int .i64 4, .int .i64 5] 27)).cell? ⟨w1.heap.size, 3, none⟩ = some (.slice ha 4 hc) := by rw [hx3]; exact cellOf HK.out 3 (.slice ha 4 hc) rfl
  have cHK4 : (w2c.alloc (Obj.cells #[.int .i64 4, .int .i64 5] 27)).cell? ⟨w1.heap.size, 4, none⟩ = some (.slice ra 3 rc) := by rw [hx3]; exact cellOf HK.out 4 (.slice ra 3 rc) rfl
  have lHK : w1.heap.size < (w2c.alloc (Obj.cells #[.int .i64 4, .int .i64 5] 27)).heap.size := by rw [hx3]; exact lt_of_block HK.out
  have cS120 : (w2c.alloc (Obj.cells #[.int .i64 4, .int .i64 5] 27)).cell? ⟨w2c.heap.size, 0, none⟩ = some (.int .i64 4) := by rw [hx3]; exact cellOf S12.out 0 (.int .i64 4) rfl
  have cS121 : (w2c.alloc (Obj.cells #[.int .i64 4, .int .i64 5] 27)).cell? ⟨w2c.heap.size, 1, none⟩ = some (.int .i64 5) := by rw [hx3]; exact cellOf S12.out 1 (.int .i64 5) rfl
  have lS12 : w2c.heap.size < (w2c.alloc (Obj.cells #[.int .i64 4, .int .i64 5] 27)).heap.size := by rw [hx3]; exact lt_of_block S12.out
  clear hx3
  go_wp2_with fail
  rw [Hx3.out]
  clear Hx3
  refine (b_great48 _ _ _ HC.out).mono ?_
  rintro e w4c ⟨rfl, hb⟩
  clear cHK0 cHK1 cHK2 cHK3 cHK4 lHK
  clear cS120 cS121 lS12
  have HB' := Lib.hid (HB.out.trans (hb.mono HB.out.size))
  have HC' := Lib.hid (HC.out.below hb)
  have HK' := Lib.hid ((hb.block _ (lt_of_block HK.out)).trans HK.out)
  have I2' := Lib.hid (I2.out.below hb)
  have I3' := Lib.hid (I3.out.below hb)
  have I4' := Lib.hid (I4.out.below hb)
  have I5' := Lib.hid (I5.out.below hb)
  have I6' := Lib.hid (I6.out.below hb)
  have S12' := Lib.hid ((hb.block _ (lt_of_block S12.out)).trans S12.out)
  clear HB
  have HB := HB'
  clear HB'
  clear HC
  have HC := HC'
  clear HC'
  clear HK
  have HK := HK'
  clear HK'
  clear I2
  have I2 := I2'
  clear I2'
  clear I3
  have I3 := I3'
  clear I3'
  clear I4
  have I4 := I4'
  clear I4'
  clear I5
  have I5 := I5'
  clear I5'
  clear I6
  have I6 := I6'
  clear I6'
  clear S12
  have S12 := S12'
  clear S12'
  clear hb
  obtain ⟨x5, hx5, zx5, hb⟩ : ∃ V, w4c.alloc (Obj.cells #[.int .i64 21, .int .i64 25] 27) = V ∧ V.heap[w4c.heap.size]? = some (.cells #[.int .i64 21, .int .i64 25] 27 (0, 0)) ∧ Below w4c.heap.size w4c V := ⟨_, rfl, heap_alloc_new _ _, by go_grown⟩
  have HB' := Lib.hid (HB.out.trans (hb.mono HB.out.size))
  have HC' := Lib.hid (HC.out.below hb)
  have HK' := Lib.hid ((hb.block _ (lt_of_block HK.out)).trans HK.out)
  have I2' := Lib.hid (I2.out.below hb)
  have I3' := Lib.hid (I3.out.below hb)
  have I4' := Lib.hid (I4.out.below hb)
  have I5' := Lib.hid (I5.out.below hb)
  have I6' := Lib.hid (I6.out.below hb)
  have S12' := Lib.hid ((hb.block _ (lt_of_block S12.out)).trans S12.out)
  clear HB
  have HB := HB'
  clear HB'
  clear HC
  have HC := HC'
  clear HC'
  clear HK
  have HK := HK'
  clear HK'
  clear I2
  have I2 := I2'
  clear I2'
  clear I3
  have I3 := I3'
  clear I3'
  clear I4
  have I4 := I4'
  clear I4'
  clear I5
  have I5 := I5'
  clear I5'
  clear I6
  have I6 := I6'
  clear I6'
  clear S12
  have S12 := S12'
  clear S12'
  have S14 := Lib.hid zx5
  have Hx5 := Lib.hid hx5
  clear zx5 hb
  have cHK0 : (w4c.alloc (Obj.cells #[.int .i64 21, .int .i64 25] 27)).cell? ⟨w1.heap.size, 0, none⟩ = some (.int .i64 2) := by rw [hx5]; exact cellOf HK.out 0 (.int .i64 2) rfl
  have cHK1 : (w4c.alloc (Obj.cells #[.int .i64 21, .int .i64 25] 27)).cell? ⟨w1.heap.size, 1, none⟩ = some (.int .i64 100) := by rw [hx5]; exact cellOf HK.out 1 (.int .i64 100) rfl
  have cHK2 : (w4c.alloc (Obj.cells #[.int .i64 21, .int .i64 25] 27)).cell? ⟨w1.heap.size, 2, none⟩ = some (.int .i64 50) := by rw [hx5]; exact cellOf HK.out 2 (.int .i64 50) rfl
  have cHK3 : (w4c.alloc (Obj.cells #[.int .i64 21, .int .i64 25] 27)).cell? ⟨w1.heap.size, 3, none⟩ = some (.slice ha 4 hc) := by rw [hx5]; exact cellOf HK.out 3 (.slice ha 4 hc) rfl
  have cHK4 : (w4c.alloc (Obj.cells #[.int .i64 21, .int .i64 25] 27)).cell? ⟨w1.heap.size, 4, none⟩ = some (.slice ra 3 rc) := by rw [hx5]; exact cellOf HK.out 4 (.slice ra 3 rc) rfl
  have lHK : w1.heap.size < (w4c.alloc (Obj.cells #[.int .i64 21, .int .i64 25] 27)).heap.size := by rw [hx5]; exact lt_of_block HK.out
  have cS120 : (w4c.alloc (Obj.cells #[.int .i64 21, .int .i64 25] 27)).cell? ⟨w2c.heap.size, 0, none⟩ = some (.int .i64 4) := by rw [hx5]; exact cellOf S12.out 0 (.int .i64 4) rfl
  have cS121 : (w4c.alloc (Obj.cells #[.int .i64 21, .int .i64 25] 27)).cell? ⟨w2c.heap.size, 1, none⟩ = some (.int .i64 5) := by rw [hx5]; exact cellOf S12.out 1 (.int .i64 5) rfl
  have lS12 : w2c.heap.size < (w4c.alloc (Obj.cells #[.int .i64 21, .int .i64 25] 27)).heap.size := by rw [hx5]; exact lt_of_block S12.out
  have cS140 : (w4c.alloc (Obj.cells #[.int .i64 21, .int .i64 25] 27)).cell? ⟨w4c.heap.size, 0, none⟩ = some (.int .i64 21) := by rw [hx5]; exact cellOf S14.out 0 (.int .i64 21) rfl
  have cS141 : (w4c.alloc (Obj.cells #[.int .i64 21, .int .i64 25] 27)).cell? ⟨w4c.heap.size, 1, none⟩ = some (.int .i64 25) := by rw [hx5]; exact cellOf S14.out 1 (.int .i64 25) rfl
  have lS14 : w4c.heap.size < (w4c.alloc (Obj.cells #[.int .i64 21, .int .i64 25] 27)).heap.size := by rw [hx5]; exact lt_of_block S14.out
  clear hx5
  go_wp2_with fail
  rw [Hx5.out]
  clear Hx5
  clear cHK0 cHK1 cHK2 cHK3 cHK4 lHK
  clear cS120 cS121 lS12
  clear cS140 cS141 lS14
  have cHK0 := cellOf HK.out 0 (.int .i64 2) rfl
  have cHK1 := cellOf HK.out 1 (.int .i64 100) rfl
  have cHK2 := cellOf HK.out 2 (.int .i64 50) rfl
  have cHK3 := cellOf HK.out 3 (.slice ha 4 hc) rfl
  have cHK4 := cellOf HK.out 4 (.slice ra 3 rc) rfl
  have lHK := lt_of_block HK.out
  have cS120 := cellOf S12.out 0 (.int .i64 4) rfl
  have cS121 := cellOf S12.out 1 (.int .i64 5) rfl
  have lS12 := lt_of_block S12.out
  have cS140 := cellOf S14.out 0 (.int .i64 21) rfl
  have cS141 := cellOf S14.out 1 (.int .i64 25) rfl
  have lS14 := lt_of_block S14.out
  have KA : ∀ W' : World, Below x5.heap.size x5 W' → (W'.cell? ⟨w1.heap.size, 0, none⟩ = some (.int .i64 2) ∧ W'.cell? ⟨w1.heap.size, 1, none⟩ = some (.int .i64 100) ∧ W'.cell? ⟨w1.heap.size, 2, none⟩ = some (.int .i64 50) ∧ W'.cell? ⟨w1.heap.size, 3, none⟩ = some (.slice ha 4 hc) ∧ W'.cell? ⟨w1.heap.size, 4, none⟩ = some (.slice ra 3 rc) ∧ W'.cell? ⟨w2c.heap.size, 0, none⟩ = some (.int .i64 4) ∧ W'.cell? ⟨w2c.heap.size, 1, none⟩ = some (.int .i64 5) ∧ W'.cell? ⟨w4c.heap.size, 0, none⟩ = some (.int .i64 21) ∧ W'.cell? ⟨w4c.heap.size, 1, none⟩ = some (.int .i64 25) ∧ Below x5.heap.size x5 W') := fun W' hb => ⟨keepK cHK0 hb, keepK cHK1 hb, keepK cHK2 hb, keepK cHK3 hb, keepK cHK4 hb, keepK cS120 hb, keepK cS121 hb, keepK cS140 hb, keepK cS141 hb, hb⟩
  refine wp_region_noPanic ?_
  refine wp_region_held_drew (S := (fun W' => W'.cell? ⟨w1.heap.size, 0, none⟩ = some (.int .i64 2) ∧ W'.cell? ⟨w1.heap.size, 1, none⟩ = some (.int .i64 100) ∧ W'.cell? ⟨w1.heap.size, 2, none⟩ = some (.int .i64 50) ∧ W'.cell? ⟨w1.heap.size, 3, none⟩ = some (.slice ha 4 hc) ∧ W'.cell? ⟨w1.heap.size, 4, none⟩ = some (.slice ra 3 rc) ∧ W'.cell? ⟨w2c.heap.size, 0, none⟩ = some (.int .i64 4) ∧ W'.cell? ⟨w2c.heap.size, 1, none⟩ = some (.int .i64 5) ∧ W'.cell? ⟨w4c.heap.size, 0, none⟩ = some (.int .i64 21) ∧ W'.cell? ⟨w4c.heap.size, 1, none⟩ = some (.int .i64 25) ∧ Below x5.heap.size x5 W')) (by kernel_rfl) ?_ (fun hh0 => ?_)
  · exact KA _ (Below.refl _ _).drew
  refine wpAnyH_take (i := 0) (v := ?_) rfl (by as_aux_lemma => kernel_rfl) (by as_aux_lemma => kernel_rfl) (by as_aux_lemma => kernel_rfl) (fun _ _ _ h => h) (Or.inl ⟨by rfl, ?_⟩) (by assumption) ?_
  rotate_left
  · intro w hSw
    try dsimp only at hSw
    go_simp
    try with_reducible rfl
  try simp only [Act.put, List.getElem_toArray, List.getElem_cons_succ, List.getElem_cons_zero, List.setIfInBounds_toArray, List.set_cons_zero, List.set_cons_succ]
  refine wpAnyH_ready (rs := [1]) (by as_aux_lemma => kernel_rfl) (by simp) ?_
  refine AllReadyH.cons rfl (fun K hK => ?_) AllReadyH.nil
  go_simp
  refine (lmark_any 2 17 17 _).mono ?_
  rintro e v90 ⟨rfl, hv90⟩
  refine hK.out _ _ (KA _ (Below.trans hh0.2.2.2.2.2.2.2.2.2 (Below.mono hv90 (hh0.2.2.2.2.2.2.2.2.2).size))) (fun hh1 => ?_)
  clear hK K
  try simp only [Act.put, List.getElem_toArray, List.getElem_cons_succ, List.getElem_cons_zero, List.setIfInBounds_toArray, List.set_cons_zero, List.set_cons_succ]
  refine wpAnyH_ready (rs := [2]) (by as_aux_lemma => kernel_rfl) (by simp) ?_
  refine AllReadyH.cons rfl (fun K hK => ?_) AllReadyH.nil
  go_simp
  refine (lmark_any 3 40 40 _).mono ?_
  rintro e v91 ⟨rfl, hv91⟩
  refine hK.out _ _ (KA _ (Below.trans hh1.2.2.2.2.2.2.2.2.2 (Below.mono hv91 (hh1.2.2.2.2.2.2.2.2.2).size))) (fun hh2 => ?_)
  clear hK K
  try simp only [Act.put, List.getElem_toArray, List.getElem_cons_succ, List.getElem_cons_zero, List.setIfInBounds_toArray, List.set_cons_zero, List.set_cons_succ]
  refine wpAnyH_ready (rs := [3]) (by as_aux_lemma => kernel_rfl) (by simp) ?_
  refine AllReadyH.cons rfl (fun K hK => ?_) AllReadyH.nil
  go_simp
  refine hK.out _ _ (KA _ ((hh2.2.2.2.2.2.2.2.2.2).alloc (hh2.2.2.2.2.2.2.2.2.2).size _)) (fun hh3 => ?_)
  clear hK K
  try simp only [Act.put, List.getElem_toArray, List.getElem_cons_succ, List.getElem_cons_zero, List.setIfInBounds_toArray, List.set_cons_zero, List.set_cons_succ]
  refine wpAnyH_ready (rs := [4]) (by as_aux_lemma => kernel_rfl) (by simp) ?_
  refine AllReadyH.cons rfl (fun K hK => ?_) AllReadyH.nil
  go_simp
  refine (b_scales _ _ _ _ (HC.out.below hh3.2.2.2.2.2.2.2.2.2) (marks_blk [⟨2, 17, 17⟩, ⟨3, 40, 40⟩] rfl (by decide) (heap_alloc_new _ _))).mono ?_
  rintro e y9 ⟨P16a, P16c, rfl, hP16, hy9⟩
  refine hK.out _ _ (KA _ (Below.trans hh3.2.2.2.2.2.2.2.2.2 (Below.mono hy9 (hh3.2.2.2.2.2.2.2.2.2).size))) (fun hh4 => ?_)
  clear hK K
  try simp only [Act.put, List.getElem_toArray, List.getElem_cons_succ, List.getElem_cons_zero, List.setIfInBounds_toArray, List.set_cons_zero, List.set_cons_succ]
  refine wpAnyH_take (i := 5) (v := ?_) rfl (by as_aux_lemma => kernel_rfl) (by as_aux_lemma => kernel_rfl) (by as_aux_lemma => kernel_rfl) (fun _ _ _ h => h) (Or.inl ⟨by rfl, ?_⟩) (by assumption) ?_
  rotate_left
  · intro w hSw
    try dsimp only at hSw
    go_simp
    try with_reducible rfl
  try simp only [Act.put, List.getElem_toArray, List.getElem_cons_succ, List.getElem_cons_zero, List.setIfInBounds_toArray, List.set_cons_zero, List.set_cons_succ]
  refine wpAnyH_take (i := 6) (v := ?_) rfl (by as_aux_lemma => kernel_rfl) (by as_aux_lemma => kernel_rfl) (by as_aux_lemma => kernel_rfl) (fun _ _ _ h => h) (Or.inl ⟨by rfl, ?_⟩) (by assumption) ?_
  rotate_left
  · intro w hSw
    try dsimp only at hSw
    go_simp
    try with_reducible rfl
  try simp only [Act.put, List.getElem_toArray, List.getElem_cons_succ, List.getElem_cons_zero, List.setIfInBounds_toArray, List.set_cons_zero, List.set_cons_succ]
  refine wpAnyH_take (i := 7) (v := ?_) rfl (by as_aux_lemma => kernel_rfl) (by as_aux_lemma => kernel_rfl) (by as_aux_lemma => kernel_rfl) (fun _ _ _ h => h) (Or.inl ⟨by rfl, ?_⟩) (by assumption) ?_
  rotate_left
  · intro w hSw
    try dsimp only at hSw
    go_simp
    try with_reducible rfl
  try simp only [Act.put, List.getElem_toArray, List.getElem_cons_succ, List.getElem_cons_zero, List.setIfInBounds_toArray, List.set_cons_zero, List.set_cons_succ]
  refine wpAnyH_ready (rs := [8]) (by as_aux_lemma => kernel_rfl) (by simp) ?_
  refine AllReadyH.cons rfl (fun K hK => ?_) AllReadyH.nil
  go_simp
  refine hK.out _ _ hh4 (fun hh5 => ?_)
  clear hK K
  try simp only [Act.put, List.getElem_toArray, List.getElem_cons_succ, List.getElem_cons_zero, List.setIfInBounds_toArray, List.set_cons_zero, List.set_cons_succ]
  refine wpAnyH_ready (rs := [9]) (by as_aux_lemma => kernel_rfl) (by simp) ?_
  refine AllReadyH.cons rfl (fun K hK => ?_) AllReadyH.nil
  go_simp
  refine hK.out _ _ hh5 (fun hh6 => ?_)
  clear hK K
  try simp only [Act.put, List.getElem_toArray, List.getElem_cons_succ, List.getElem_cons_zero, List.setIfInBounds_toArray, List.set_cons_zero, List.set_cons_succ]
  refine wpAnyH_done (by as_aux_lemma => kernel_rfl) ?_ _
  refine NoPanic.normal ?_
  have HBZ := Lib.hid (hh6.2.2.2.2.2.2.2.2.2)
  have hbz := HBZ.out
  clear KA
  clear cHK0 cHK1 cHK2 cHK3 cHK4 lHK
  clear cS120 cS121 lS12
  clear cS140 cS141 lS14
  have HB' := Lib.hid (HB.out.trans (hbz.mono HB.out.size))
  have HC' := Lib.hid (HC.out.below hbz)
  have HK' := Lib.hid ((hbz.block _ (lt_of_block HK.out)).trans HK.out)
  have I2' := Lib.hid (I2.out.below hbz)
  have I3' := Lib.hid (I3.out.below hbz)
  have I4' := Lib.hid (I4.out.below hbz)
  have I5' := Lib.hid (I5.out.below hbz)
  have I6' := Lib.hid (I6.out.below hbz)
  have S12' := Lib.hid ((hbz.block _ (lt_of_block S12.out)).trans S12.out)
  have S14' := Lib.hid ((hbz.block _ (lt_of_block S14.out)).trans S14.out)
  clear HB
  have HB := HB'
  clear HB'
  clear HC
  have HC := HC'
  clear HC'
  clear HK
  have HK := HK'
  clear HK'
  clear I2
  have I2 := I2'
  clear I2'
  clear I3
  have I3 := I3'
  clear I3'
  clear I4
  have I4 := I4'
  clear I4'
  clear I5
  have I5 := I5'
  clear I5'
  clear I6
  have I6 := I6'
  clear I6'
  clear S12
  have S12 := S12'
  clear S12'
  clear S14
  have S14 := S14'
  clear S14'
  have P16 := Lib.hid (hP16)
  clear hbz HBZ hP16
  go_wp2_with fail
  have cHK0 := cellOf HK.out 0 (.int .i64 2) rfl
  have cHK1 := cellOf HK.out 1 (.int .i64 100) rfl
  have cHK2 := cellOf HK.out 2 (.int .i64 50) rfl
  have cHK3 := cellOf HK.out 3 (.slice ha 4 hc) rfl
  have cHK4 := cellOf HK.out 4 (.slice ra 3 rc) rfl
  have lHK := lt_of_block HK.out
  have cS120 := cellOf S12.out 0 (.int .i64 4) rfl
  have cS121 := cellOf S12.out 1 (.int .i64 5) rfl
  have lS12 := lt_of_block S12.out
  have cS140 := cellOf S14.out 0 (.int .i64 21) rfl
  have cS141 := cellOf S14.out 1 (.int .i64 25) rfl
  have lS14 := lt_of_block S14.out
  have KA : ∀ W' : World, Below y9.heap.size y9 W' → (W'.cell? ⟨w1.heap.size, 0, none⟩ = some (.int .i64 2) ∧ W'.cell? ⟨w1.heap.size, 1, none⟩ = some (.int .i64 100) ∧ W'.cell? ⟨w1.heap.size, 2, none⟩ = some (.int .i64 50) ∧ W'.cell? ⟨w1.heap.size, 3, none⟩ = some (.slice ha 4 hc) ∧ W'.cell? ⟨w1.heap.size, 4, none⟩ = some (.slice ra 3 rc) ∧ W'.cell? ⟨w2c.heap.size, 0, none⟩ = some (.int .i64 4) ∧ W'.cell? ⟨w2c.heap.size, 1, none⟩ = some (.int .i64 5) ∧ W'.cell? ⟨w4c.heap.size, 0, none⟩ = some (.int .i64 21) ∧ W'.cell? ⟨w4c.heap.size, 1, none⟩ = some (.int .i64 25) ∧ Below y9.heap.size y9 W') := fun W' hb => ⟨keepK cHK0 hb, keepK cHK1 hb, keepK cHK2 hb, keepK cHK3 hb, keepK cHK4 hb, keepK cS120 hb, keepK cS121 hb, keepK cS140 hb, keepK cS141 hb, hb⟩
  refine wp_region_noPanic ?_
  refine wp_region_held_drew (S := (fun W' => W'.cell? ⟨w1.heap.size, 0, none⟩ = some (.int .i64 2) ∧ W'.cell? ⟨w1.heap.size, 1, none⟩ = some (.int .i64 100) ∧ W'.cell? ⟨w1.heap.size, 2, none⟩ = some (.int .i64 50) ∧ W'.cell? ⟨w1.heap.size, 3, none⟩ = some (.slice ha 4 hc) ∧ W'.cell? ⟨w1.heap.size, 4, none⟩ = some (.slice ra 3 rc) ∧ W'.cell? ⟨w2c.heap.size, 0, none⟩ = some (.int .i64 4) ∧ W'.cell? ⟨w2c.heap.size, 1, none⟩ = some (.int .i64 5) ∧ W'.cell? ⟨w4c.heap.size, 0, none⟩ = some (.int .i64 21) ∧ W'.cell? ⟨w4c.heap.size, 1, none⟩ = some (.int .i64 25) ∧ Below y9.heap.size y9 W')) (by kernel_rfl) ?_ (fun hh0 => ?_)
  · exact KA _ (Below.refl _ _).drew
  refine wpAnyH_take (i := 0) (v := ?_) rfl (by as_aux_lemma => kernel_rfl) (by as_aux_lemma => kernel_rfl) (by as_aux_lemma => kernel_rfl) (fun _ _ _ h => h) (Or.inl ⟨by rfl, ?_⟩) (by assumption) ?_
  rotate_left
  · intro w hSw
    try dsimp only at hSw
    go_simp
    try with_reducible rfl
  try simp only [Act.put, List.getElem_toArray, List.getElem_cons_succ, List.getElem_cons_zero, List.setIfInBounds_toArray, List.set_cons_zero, List.set_cons_succ]
  refine wpAnyH_ready (rs := [1]) (by as_aux_lemma => kernel_rfl) (by simp) ?_
  refine AllReadyH.cons rfl (fun K hK => ?_) AllReadyH.nil
  go_simp
  refine (of_any 19 28 _).mono ?_
  rintro e va0 ⟨rfl, hva0⟩
  refine hK.out _ _ (KA _ (Below.trans hh0.2.2.2.2.2.2.2.2.2 (Below.mono hva0 (hh0.2.2.2.2.2.2.2.2.2).size))) (fun hh1 => ?_)
  clear hK K
  try simp only [Act.put, List.getElem_toArray, List.getElem_cons_succ, List.getElem_cons_zero, List.setIfInBounds_toArray, List.set_cons_zero, List.set_cons_succ]
  refine wpAnyH_ready (rs := [2]) (by as_aux_lemma => kernel_rfl) (by simp) ?_
  refine AllReadyH.cons rfl (fun K hK => ?_) AllReadyH.nil
  go_simp
  refine (of_any 17 25 _).mono ?_
  rintro e va1 ⟨rfl, hva1⟩
  refine hK.out _ _ (KA _ (Below.trans hh1.2.2.2.2.2.2.2.2.2 (Below.mono hva1 (hh1.2.2.2.2.2.2.2.2.2).size))) (fun hh2 => ?_)
  clear hK K
  try simp only [Act.put, List.getElem_toArray, List.getElem_cons_succ, List.getElem_cons_zero, List.setIfInBounds_toArray, List.set_cons_zero, List.set_cons_succ]
  refine wpAnyH_ready (rs := [3]) (by as_aux_lemma => kernel_rfl) (by simp) ?_
  refine AllReadyH.cons rfl (fun K hK => ?_) AllReadyH.nil
  go_simp
  refine (b_apart _ _ _ (HC.out.below hh2.2.2.2.2.2.2.2.2.2)).mono ?_
  rintro e ya ⟨I18a, I18c, rfl, hI18, hya⟩
  refine hK.out _ _ (KA _ (Below.trans hh2.2.2.2.2.2.2.2.2.2 (Below.mono hya (hh2.2.2.2.2.2.2.2.2.2).size))) (fun hh3 => ?_)
  clear hK K
  try simp only [Act.put, List.getElem_toArray, List.getElem_cons_succ, List.getElem_cons_zero, List.setIfInBounds_toArray, List.set_cons_zero, List.set_cons_succ]
  refine wpAnyH_take (i := 4) (v := ?_) rfl (by as_aux_lemma => kernel_rfl) (by as_aux_lemma => kernel_rfl) (by as_aux_lemma => kernel_rfl) (fun _ _ _ h => h) (Or.inl ⟨by rfl, ?_⟩) (by assumption) ?_
  rotate_left
  · intro w hSw
    try dsimp only at hSw
    go_simp
    try with_reducible rfl
  try simp only [Act.put, List.getElem_toArray, List.getElem_cons_succ, List.getElem_cons_zero, List.setIfInBounds_toArray, List.set_cons_zero, List.set_cons_succ]
  refine wpAnyH_take (i := 5) (v := ?_) rfl (by as_aux_lemma => kernel_rfl) (by as_aux_lemma => kernel_rfl) (by as_aux_lemma => kernel_rfl) (fun _ _ _ h => h) (Or.inl ⟨by rfl, ?_⟩) (by assumption) ?_
  rotate_left
  · intro w hSw
    try dsimp only at hSw
    go_simp
    try with_reducible rfl
  try simp only [Act.put, List.getElem_toArray, List.getElem_cons_succ, List.getElem_cons_zero, List.setIfInBounds_toArray, List.set_cons_zero, List.set_cons_succ]
  refine wpAnyH_take (i := 6) (v := ?_) rfl (by as_aux_lemma => kernel_rfl) (by as_aux_lemma => kernel_rfl) (by as_aux_lemma => kernel_rfl) (fun _ _ _ h => h) (Or.inl ⟨by rfl, ?_⟩) (by assumption) ?_
  rotate_left
  · intro w hSw
    try dsimp only at hSw
    go_simp
    try with_reducible rfl
  try simp only [Act.put, List.getElem_toArray, List.getElem_cons_succ, List.getElem_cons_zero, List.setIfInBounds_toArray, List.set_cons_zero, List.set_cons_succ]
  refine wpAnyH_ready (rs := [7]) (by as_aux_lemma => kernel_rfl) (by simp) ?_
  refine AllReadyH.cons rfl (fun K hK => ?_) AllReadyH.nil
  go_simp
  refine hK.out _ _ hh3 (fun hh4 => ?_)
  clear hK K
  try simp only [Act.put, List.getElem_toArray, List.getElem_cons_succ, List.getElem_cons_zero, List.setIfInBounds_toArray, List.set_cons_zero, List.set_cons_succ]
  refine wpAnyH_ready (rs := [8]) (by as_aux_lemma => kernel_rfl) (by simp) ?_
  refine AllReadyH.cons rfl (fun K hK => ?_) AllReadyH.nil
  go_simp
  refine hK.out _ _ hh4 (fun hh5 => ?_)
  clear hK K
  try simp only [Act.put, List.getElem_toArray, List.getElem_cons_succ, List.getElem_cons_zero, List.setIfInBounds_toArray, List.set_cons_zero, List.set_cons_succ]
  refine wpAnyH_done (by as_aux_lemma => kernel_rfl) ?_ _
  refine NoPanic.normal ?_
  have HBZ := Lib.hid (hh5.2.2.2.2.2.2.2.2.2)
  have hbz := HBZ.out
  clear KA
  clear cHK0 cHK1 cHK2 cHK3 cHK4 lHK
  clear cS120 cS121 lS12
  clear cS140 cS141 lS14
  have HB' := Lib.hid (HB.out.trans (hbz.mono HB.out.size))
  have HC' := Lib.hid (HC.out.below hbz)
  have HK' := Lib.hid ((hbz.block _ (lt_of_block HK.out)).trans HK.out)
  have I2' := Lib.hid (I2.out.below hbz)
  have I3' := Lib.hid (I3.out.below hbz)
  have I4' := Lib.hid (I4.out.below hbz)
  have I5' := Lib.hid (I5.out.below hbz)
  have I6' := Lib.hid (I6.out.below hbz)
  have S12' := Lib.hid ((hbz.block _ (lt_of_block S12.out)).trans S12.out)
  have S14' := Lib.hid ((hbz.block _ (lt_of_block S14.out)).trans S14.out)
  have P16' := Lib.hid (P16.out.below hbz)
  clear HB
  have HB := HB'
  clear HB'
  clear HC
  have HC := HC'
  clear HC'
  clear HK
  have HK := HK'
  clear HK'
  clear I2
  have I2 := I2'
  clear I2'
  clear I3
  have I3 := I3'
  clear I3'
  clear I4
  have I4 := I4'
  clear I4'
  clear I5
  have I5 := I5'
  clear I5'
  clear I6
  have I6 := I6'
  clear I6'
  clear S12
  have S12 := S12'
  clear S12'
  clear S14
  have S14 := S14'
  clear S14'
  clear P16
  have P16 := P16'
  clear P16'
  have I18 := Lib.hid (hI18)
  clear hbz HBZ hI18
  go_wp2_with fail
  have cHK0 := cellOf HK.out 0 (.int .i64 2) rfl
  have cHK1 := cellOf HK.out 1 (.int .i64 100) rfl
  have cHK2 := cellOf HK.out 2 (.int .i64 50) rfl
  have cHK3 := cellOf HK.out 3 (.slice ha 4 hc) rfl
  have cHK4 := cellOf HK.out 4 (.slice ra 3 rc) rfl
  have lHK := lt_of_block HK.out
  have cS120 := cellOf S12.out 0 (.int .i64 4) rfl
  have cS121 := cellOf S12.out 1 (.int .i64 5) rfl
  have lS12 := lt_of_block S12.out
  have cS140 := cellOf S14.out 0 (.int .i64 21) rfl
  have cS141 := cellOf S14.out 1 (.int .i64 25) rfl
  have lS14 := lt_of_block S14.out
  simp only [List.append_eq, List.cons_append, List.nil_append]
  have KA : ∀ W' : World, Below ya.heap.size ya W' → (W'.cell? ⟨w1.heap.size, 0, none⟩ = some (.int .i64 2) ∧ W'.cell? ⟨w1.heap.size, 1, none⟩ = some (.int .i64 100) ∧ W'.cell? ⟨w1.heap.size, 2, none⟩ = some (.int .i64 50) ∧ W'.cell? ⟨w1.heap.size, 3, none⟩ = some (.slice ha 4 hc) ∧ W'.cell? ⟨w1.heap.size, 4, none⟩ = some (.slice ra 3 rc) ∧ W'.cell? ⟨w2c.heap.size, 0, none⟩ = some (.int .i64 4) ∧ W'.cell? ⟨w2c.heap.size, 1, none⟩ = some (.int .i64 5) ∧ W'.cell? ⟨w4c.heap.size, 0, none⟩ = some (.int .i64 21) ∧ W'.cell? ⟨w4c.heap.size, 1, none⟩ = some (.int .i64 25) ∧ Below ya.heap.size ya W') := fun W' hb => ⟨keepK cHK0 hb, keepK cHK1 hb, keepK cHK2 hb, keepK cHK3 hb, keepK cHK4 hb, keepK cS120 hb, keepK cS121 hb, keepK cS140 hb, keepK cS141 hb, hb⟩
  refine wp_region_noPanic ?_
  refine wp_region_held_drew (S := (fun W' => W'.cell? ⟨w1.heap.size, 0, none⟩ = some (.int .i64 2) ∧ W'.cell? ⟨w1.heap.size, 1, none⟩ = some (.int .i64 100) ∧ W'.cell? ⟨w1.heap.size, 2, none⟩ = some (.int .i64 50) ∧ W'.cell? ⟨w1.heap.size, 3, none⟩ = some (.slice ha 4 hc) ∧ W'.cell? ⟨w1.heap.size, 4, none⟩ = some (.slice ra 3 rc) ∧ W'.cell? ⟨w2c.heap.size, 0, none⟩ = some (.int .i64 4) ∧ W'.cell? ⟨w2c.heap.size, 1, none⟩ = some (.int .i64 5) ∧ W'.cell? ⟨w4c.heap.size, 0, none⟩ = some (.int .i64 21) ∧ W'.cell? ⟨w4c.heap.size, 1, none⟩ = some (.int .i64 25) ∧ Below ya.heap.size ya W')) (by kernel_rfl) ?_ (fun hh0 => ?_)
  · exact KA _ (Below.refl _ _).drew
  refine wpAnyH_take (i := 0) (v := ?_) rfl (by as_aux_lemma => kernel_rfl) (by as_aux_lemma => kernel_rfl) (by as_aux_lemma => kernel_rfl) (fun _ _ _ h => h) (Or.inl ⟨by rfl, ?_⟩) (by assumption) ?_
  rotate_left
  · intro w hSw
    try dsimp only at hSw
    go_simp
    try with_reducible rfl
  try simp only [Act.put, List.getElem_toArray, List.getElem_cons_succ, List.getElem_cons_zero, List.setIfInBounds_toArray, List.set_cons_zero, List.set_cons_succ]
  refine wpAnyH_take (i := 1) (v := ?_) rfl (by as_aux_lemma => kernel_rfl) (by as_aux_lemma => kernel_rfl) (by as_aux_lemma => kernel_rfl) (fun _ _ _ h => h) (Or.inl ⟨by rfl, ?_⟩) (by assumption) ?_
  rotate_left
  · intro w hSw
    try dsimp only at hSw
    go_simp
    try with_reducible rfl
  try simp only [Act.put, List.getElem_toArray, List.getElem_cons_succ, List.getElem_cons_zero, List.setIfInBounds_toArray, List.set_cons_zero, List.set_cons_succ]
  refine wpAnyH_take (i := 2) (v := ?_) rfl (by as_aux_lemma => kernel_rfl) (by as_aux_lemma => kernel_rfl) (by as_aux_lemma => kernel_rfl) (fun _ _ _ h => h) (Or.inl ⟨by rfl, ?_⟩) (by assumption) ?_
  rotate_left
  · intro w hSw
    try dsimp only at hSw
    go_simp
    try with_reducible rfl
  try simp only [Act.put, List.getElem_toArray, List.getElem_cons_succ, List.getElem_cons_zero, List.setIfInBounds_toArray, List.set_cons_zero, List.set_cons_succ]
  refine wpAnyH_take (i := 3) (v := ?_) rfl (by as_aux_lemma => kernel_rfl) (by as_aux_lemma => kernel_rfl) (by as_aux_lemma => kernel_rfl) (fun _ _ _ h => h) (Or.inl ⟨by rfl, ?_⟩) (by assumption) ?_
  rotate_left
  · intro w hSw
    try dsimp only at hSw
    go_simp
    try with_reducible rfl
  try simp only [Act.put, List.getElem_toArray, List.getElem_cons_succ, List.getElem_cons_zero, List.setIfInBounds_toArray, List.set_cons_zero, List.set_cons_succ]
  refine wpAnyH_take (i := 4) (v := ?_) rfl (by as_aux_lemma => kernel_rfl) (by as_aux_lemma => kernel_rfl) (by as_aux_lemma => kernel_rfl) (fun _ _ _ h => h) (Or.inl ⟨by rfl, ?_⟩) (by assumption) ?_
  rotate_left
  · intro w hSw
    try dsimp only at hSw
    go_simp
    try with_reducible rfl
  try simp only [Act.put, List.getElem_toArray, List.getElem_cons_succ, List.getElem_cons_zero, List.setIfInBounds_toArray, List.set_cons_zero, List.set_cons_succ]
  refine wpAnyH_take (i := 5) (v := ?_) rfl (by as_aux_lemma => kernel_rfl) (by as_aux_lemma => kernel_rfl) (by as_aux_lemma => kernel_rfl) (fun _ _ _ h => h) (Or.inl ⟨by rfl, ?_⟩) (by assumption) ?_
  rotate_left
  · intro w hSw
    try dsimp only at hSw
    go_simp
    try with_reducible rfl
  try simp only [Act.put, List.getElem_toArray, List.getElem_cons_succ, List.getElem_cons_zero, List.setIfInBounds_toArray, List.set_cons_zero, List.set_cons_succ]
  refine wpAnyH_take (i := 6) (v := ?_) rfl (by as_aux_lemma => kernel_rfl) (by as_aux_lemma => kernel_rfl) (by as_aux_lemma => kernel_rfl) (fun _ _ _ h => h) (Or.inl ⟨by rfl, ?_⟩) (by assumption) ?_
  rotate_left
  · intro w hSw
    try dsimp only at hSw
    go_simp
    try with_reducible rfl
  try simp only [Act.put, List.getElem_toArray, List.getElem_cons_succ, List.getElem_cons_zero, List.setIfInBounds_toArray, List.set_cons_zero, List.set_cons_succ]
  refine wpAnyH_take (i := 7) (v := ?_) rfl (by as_aux_lemma => kernel_rfl) (by as_aux_lemma => kernel_rfl) (by as_aux_lemma => kernel_rfl) (fun _ _ _ h => h) (Or.inl ⟨by rfl, ?_⟩) (by assumption) ?_
  rotate_left
  · intro w hSw
    try dsimp only at hSw
    go_simp
    try with_reducible rfl
  try simp only [Act.put, List.getElem_toArray, List.getElem_cons_succ, List.getElem_cons_zero, List.setIfInBounds_toArray, List.set_cons_zero, List.set_cons_succ]
  refine wpAnyH_take (i := 8) (v := ?_) rfl (by as_aux_lemma => kernel_rfl) (by as_aux_lemma => kernel_rfl) (by as_aux_lemma => kernel_rfl) (fun _ _ _ h => h) (Or.inl ⟨by rfl, ?_⟩) (by assumption) ?_
  rotate_left
  · intro w hSw
    try dsimp only at hSw
    go_simp
    try with_reducible rfl
  try simp only [Act.put, List.getElem_toArray, List.getElem_cons_succ, List.getElem_cons_zero, List.setIfInBounds_toArray, List.set_cons_zero, List.set_cons_succ]
  refine wpAnyH_take (i := 9) (v := ?_) rfl (by as_aux_lemma => kernel_rfl) (by as_aux_lemma => kernel_rfl) (by as_aux_lemma => kernel_rfl) (fun _ _ _ h => h) (Or.inl ⟨by rfl, ?_⟩) (by assumption) ?_
  rotate_left
  · intro w hSw
    try dsimp only at hSw
    go_simp
    try with_reducible rfl
  try simp only [Act.put, List.getElem_toArray, List.getElem_cons_succ, List.getElem_cons_zero, List.setIfInBounds_toArray, List.set_cons_zero, List.set_cons_succ]
  refine wpAnyH_take (i := 10) (v := ?_) rfl (by as_aux_lemma => kernel_rfl) (by as_aux_lemma => kernel_rfl) (by as_aux_lemma => kernel_rfl) (fun _ _ _ h => h) (Or.inl ⟨by rfl, ?_⟩) (by assumption) ?_
  rotate_left
  · intro w hSw
    try dsimp only at hSw
    go_simp
    try with_reducible rfl
  try simp only [Act.put, List.getElem_toArray, List.getElem_cons_succ, List.getElem_cons_zero, List.setIfInBounds_toArray, List.set_cons_zero, List.set_cons_succ]
  refine wpAnyH_take (i := 11) (v := ?_) rfl (by as_aux_lemma => kernel_rfl) (by as_aux_lemma => kernel_rfl) (by as_aux_lemma => kernel_rfl) (fun _ _ _ h => h) (Or.inl ⟨by rfl, ?_⟩) (by assumption) ?_
  rotate_left
  · intro w hSw
    try dsimp only at hSw
    go_simp
    try with_reducible rfl
  try simp only [Act.put, List.getElem_toArray, List.getElem_cons_succ, List.getElem_cons_zero, List.setIfInBounds_toArray, List.set_cons_zero, List.set_cons_succ]
  refine wpAnyH_take (i := 12) (v := ?_) rfl (by as_aux_lemma => kernel_rfl) (by as_aux_lemma => kernel_rfl) (by as_aux_lemma => kernel_rfl) (fun _ _ _ h => h) (Or.inl ⟨by rfl, ?_⟩) (by assumption) ?_
  rotate_left
  · intro w hSw
    try dsimp only at hSw
    go_simp
    try with_reducible rfl
  try simp only [Act.put, List.getElem_toArray, List.getElem_cons_succ, List.getElem_cons_zero, List.setIfInBounds_toArray, List.set_cons_zero, List.set_cons_succ]
  refine wpAnyH_take (i := 13) (v := ?_) rfl (by as_aux_lemma => kernel_rfl) (by as_aux_lemma => kernel_rfl) (by as_aux_lemma => kernel_rfl) (fun _ _ _ h => h) (Or.inl ⟨by rfl, ?_⟩) (by assumption) ?_
  rotate_left
  · intro w hSw
    try dsimp only at hSw
    go_simp
    try with_reducible rfl
  try simp only [Act.put, List.getElem_toArray, List.getElem_cons_succ, List.getElem_cons_zero, List.setIfInBounds_toArray, List.set_cons_zero, List.set_cons_succ]
  refine wpAnyH_take (i := 14) (v := ?_) rfl (by as_aux_lemma => kernel_rfl) (by as_aux_lemma => kernel_rfl) (by as_aux_lemma => kernel_rfl) (fun _ _ _ h => h) (Or.inl ⟨by rfl, ?_⟩) (by assumption) ?_
  rotate_left
  · intro w hSw
    try dsimp only at hSw
    go_simp
    try with_reducible rfl
  try simp only [Act.put, List.getElem_toArray, List.getElem_cons_succ, List.getElem_cons_zero, List.setIfInBounds_toArray, List.set_cons_zero, List.set_cons_succ]
  refine wpAnyH_take (i := 15) (v := ?_) rfl (by as_aux_lemma => kernel_rfl) (by as_aux_lemma => kernel_rfl) (by as_aux_lemma => kernel_rfl) (fun _ _ _ h => h) (Or.inl ⟨by rfl, ?_⟩) (by assumption) ?_
  rotate_left
  · intro w hSw
    try dsimp only at hSw
    go_simp
    try with_reducible rfl
  try simp only [Act.put, List.getElem_toArray, List.getElem_cons_succ, List.getElem_cons_zero, List.setIfInBounds_toArray, List.set_cons_zero, List.set_cons_succ]
  refine wpAnyH_take (i := 16) (v := ?_) rfl (by as_aux_lemma => kernel_rfl) (by as_aux_lemma => kernel_rfl) (by as_aux_lemma => kernel_rfl) (fun _ _ _ h => h) (Or.inl ⟨by rfl, ?_⟩) (by assumption) ?_
  rotate_left
  · intro w hSw
    try dsimp only at hSw
    go_simp
    try with_reducible rfl
  try simp only [Act.put, List.getElem_toArray, List.getElem_cons_succ, List.getElem_cons_zero, List.setIfInBounds_toArray, List.set_cons_zero, List.set_cons_succ]
  refine wpAnyH_take (i := 17) (v := ?_) rfl (by as_aux_lemma => kernel_rfl) (by as_aux_lemma => kernel_rfl) (by as_aux_lemma => kernel_rfl) (fun _ _ _ h => h) (Or.inl ⟨by rfl, ?_⟩) (by assumption) ?_
  rotate_left
  · intro w hSw
    try dsimp only at hSw
    go_simp
    try with_reducible rfl
  try simp only [Act.put, List.getElem_toArray, List.getElem_cons_succ, List.getElem_cons_zero, List.setIfInBounds_toArray, List.set_cons_zero, List.set_cons_succ]
  refine wpAnyH_take (i := 18) (v := ?_) rfl (by as_aux_lemma => kernel_rfl) (by as_aux_lemma => kernel_rfl) (by as_aux_lemma => kernel_rfl) (fun _ _ _ h => h) (Or.inl ⟨by rfl, ?_⟩) (by assumption) ?_
  rotate_left
  · intro w hSw
    try dsimp only at hSw
    go_simp
    try with_reducible rfl
  try simp only [Act.put, List.getElem_toArray, List.getElem_cons_succ, List.getElem_cons_zero, List.setIfInBounds_toArray, List.set_cons_zero, List.set_cons_succ]
  refine wpAnyH_take (i := 19) (v := ?_) rfl (by as_aux_lemma => kernel_rfl) (by as_aux_lemma => kernel_rfl) (by as_aux_lemma => kernel_rfl) (fun _ _ _ h => h) (Or.inl ⟨by rfl, ?_⟩) (by assumption) ?_
  rotate_left
  · intro w hSw
    try dsimp only at hSw
    go_simp
    try with_reducible rfl
  try simp only [Act.put, List.getElem_toArray, List.getElem_cons_succ, List.getElem_cons_zero, List.setIfInBounds_toArray, List.set_cons_zero, List.set_cons_succ]
  refine wpAnyH_take (i := 20) (v := ?_) rfl (by as_aux_lemma => kernel_rfl) (by as_aux_lemma => kernel_rfl) (by as_aux_lemma => kernel_rfl) (fun _ _ _ h => h) (Or.inl ⟨by rfl, ?_⟩) (by assumption) ?_
  rotate_left
  · intro w hSw
    try dsimp only at hSw
    go_simp
    try with_reducible rfl
  try simp only [Act.put, List.getElem_toArray, List.getElem_cons_succ, List.getElem_cons_zero, List.setIfInBounds_toArray, List.set_cons_zero, List.set_cons_succ]
  refine wpAnyH_take (i := 21) (v := ?_) rfl (by as_aux_lemma => kernel_rfl) (by as_aux_lemma => kernel_rfl) (by as_aux_lemma => kernel_rfl) (fun _ _ _ h => h) (Or.inl ⟨by rfl, ?_⟩) (by assumption) ?_
  rotate_left
  · intro w hSw
    try dsimp only at hSw
    go_simp
    try with_reducible rfl
  try simp only [Act.put, List.getElem_toArray, List.getElem_cons_succ, List.getElem_cons_zero, List.setIfInBounds_toArray, List.set_cons_zero, List.set_cons_succ]
  refine wpAnyH_take (i := 22) (v := ?_) rfl (by as_aux_lemma => kernel_rfl) (by as_aux_lemma => kernel_rfl) (by as_aux_lemma => kernel_rfl) (fun _ _ _ h => h) (Or.inl ⟨by rfl, ?_⟩) (by assumption) ?_
  rotate_left
  · intro w hSw
    try dsimp only at hSw
    go_simp
    try with_reducible rfl
  try simp only [Act.put, List.getElem_toArray, List.getElem_cons_succ, List.getElem_cons_zero, List.setIfInBounds_toArray, List.set_cons_zero, List.set_cons_succ]
  refine wpAnyH_take (i := 23) (v := ?_) rfl (by as_aux_lemma => kernel_rfl) (by as_aux_lemma => kernel_rfl) (by as_aux_lemma => kernel_rfl) (fun _ _ _ h => h) (Or.inl ⟨by rfl, ?_⟩) (by assumption) ?_
  rotate_left
  · intro w hSw
    try dsimp only at hSw
    go_simp
    try with_reducible rfl
  try simp only [Act.put, List.getElem_toArray, List.getElem_cons_succ, List.getElem_cons_zero, List.setIfInBounds_toArray, List.set_cons_zero, List.set_cons_succ]
  refine wpAnyH_take (i := 24) (v := ?_) rfl (by as_aux_lemma => kernel_rfl) (by as_aux_lemma => kernel_rfl) (by as_aux_lemma => kernel_rfl) (fun _ _ _ h => h) (Or.inl ⟨by rfl, ?_⟩) (by assumption) ?_
  rotate_left
  · intro w hSw
    try dsimp only at hSw
    go_simp
    try with_reducible rfl
  try simp only [Act.put, List.getElem_toArray, List.getElem_cons_succ, List.getElem_cons_zero, List.setIfInBounds_toArray, List.set_cons_zero, List.set_cons_succ]
  refine wpAnyH_take (i := 25) (v := ?_) rfl (by as_aux_lemma => kernel_rfl) (by as_aux_lemma => kernel_rfl) (by as_aux_lemma => kernel_rfl) (fun _ _ _ h => h) (Or.inl ⟨by rfl, ?_⟩) (by assumption) ?_
  rotate_left
  · intro w hSw
    try dsimp only at hSw
    go_simp
    try with_reducible rfl
  try simp only [Act.put, List.getElem_toArray, List.getElem_cons_succ, List.getElem_cons_zero, List.setIfInBounds_toArray, List.set_cons_zero, List.set_cons_succ]
  refine wpAnyH_take (i := 26) (v := ?_) rfl (by as_aux_lemma => kernel_rfl) (by as_aux_lemma => kernel_rfl) (by as_aux_lemma => kernel_rfl) (fun _ _ _ h => h) (Or.inl ⟨by rfl, ?_⟩) (by assumption) ?_
  rotate_left
  · intro w hSw
    try dsimp only at hSw
    go_simp
    try with_reducible rfl
  try simp only [Act.put, List.getElem_toArray, List.getElem_cons_succ, List.getElem_cons_zero, List.setIfInBounds_toArray, List.set_cons_zero, List.set_cons_succ]
  refine wpAnyH_take (i := 27) (v := ?_) rfl (by as_aux_lemma => kernel_rfl) (by as_aux_lemma => kernel_rfl) (by as_aux_lemma => kernel_rfl) (fun _ _ _ h => h) (Or.inl ⟨by rfl, ?_⟩) (by assumption) ?_
  rotate_left
  · intro w hSw
    try dsimp only at hSw
    go_simp
    try with_reducible rfl
  try simp only [Act.put, List.getElem_toArray, List.getElem_cons_succ, List.getElem_cons_zero, List.setIfInBounds_toArray, List.set_cons_zero, List.set_cons_succ]
  refine wpAnyH_take (i := 28) (v := ?_) rfl (by as_aux_lemma => kernel_rfl) (by as_aux_lemma => kernel_rfl) (by as_aux_lemma => kernel_rfl) (fun _ _ _ h => h) (Or.inl ⟨by rfl, ?_⟩) (by assumption) ?_
  rotate_left
  · intro w hSw
    try dsimp only at hSw
    go_simp
    try with_reducible rfl
  try simp only [Act.put, List.getElem_toArray, List.getElem_cons_succ, List.getElem_cons_zero, List.setIfInBounds_toArray, List.set_cons_zero, List.set_cons_succ]
  refine wpAnyH_take (i := 29) (v := ?_) rfl (by as_aux_lemma => kernel_rfl) (by as_aux_lemma => kernel_rfl) (by as_aux_lemma => kernel_rfl) (fun _ _ _ h => h) (Or.inl ⟨by rfl, ?_⟩) (by assumption) ?_
  rotate_left
  · intro w hSw
    try dsimp only at hSw
    go_simp
    try with_reducible rfl
  try simp only [Act.put, List.getElem_toArray, List.getElem_cons_succ, List.getElem_cons_zero, List.setIfInBounds_toArray, List.set_cons_zero, List.set_cons_succ]
  refine wpAnyH_take (i := 30) (v := ?_) rfl (by as_aux_lemma => kernel_rfl) (by as_aux_lemma => kernel_rfl) (by as_aux_lemma => kernel_rfl) (fun _ _ _ h => h) (Or.inl ⟨by rfl, ?_⟩) (by assumption) ?_
  rotate_left
  · intro w hSw
    try dsimp only at hSw
    go_simp
    try with_reducible rfl
  try simp only [Act.put, List.getElem_toArray, List.getElem_cons_succ, List.getElem_cons_zero, List.setIfInBounds_toArray, List.set_cons_zero, List.set_cons_succ]
  refine wpAnyH_take (i := 31) (v := ?_) rfl (by as_aux_lemma => kernel_rfl) (by as_aux_lemma => kernel_rfl) (by as_aux_lemma => kernel_rfl) (fun _ _ _ h => h) (Or.inl ⟨by rfl, ?_⟩) (by assumption) ?_
  rotate_left
  · intro w hSw
    try dsimp only at hSw
    go_simp
    try with_reducible rfl
  try simp only [Act.put, List.getElem_toArray, List.getElem_cons_succ, List.getElem_cons_zero, List.setIfInBounds_toArray, List.set_cons_zero, List.set_cons_succ]
  refine wpAnyH_take (i := 32) (v := ?_) rfl (by as_aux_lemma => kernel_rfl) (by as_aux_lemma => kernel_rfl) (by as_aux_lemma => kernel_rfl) (fun _ _ _ h => h) (Or.inl ⟨by rfl, ?_⟩) (by assumption) ?_
  rotate_left
  · intro w hSw
    try dsimp only at hSw
    go_simp
    try with_reducible rfl
  try simp only [Act.put, List.getElem_toArray, List.getElem_cons_succ, List.getElem_cons_zero, List.setIfInBounds_toArray, List.set_cons_zero, List.set_cons_succ]
  refine wpAnyH_take (i := 33) (v := ?_) rfl (by as_aux_lemma => kernel_rfl) (by as_aux_lemma => kernel_rfl) (by as_aux_lemma => kernel_rfl) (fun _ _ _ h => h) (Or.inl ⟨by rfl, ?_⟩) (by assumption) ?_
  rotate_left
  · intro w hSw
    try dsimp only at hSw
    go_simp
    try with_reducible rfl
  try simp only [Act.put, List.getElem_toArray, List.getElem_cons_succ, List.getElem_cons_zero, List.setIfInBounds_toArray, List.set_cons_zero, List.set_cons_succ]
  refine wpAnyH_take (i := 34) (v := ?_) rfl (by as_aux_lemma => kernel_rfl) (by as_aux_lemma => kernel_rfl) (by as_aux_lemma => kernel_rfl) (fun _ _ _ h => h) (Or.inl ⟨by rfl, ?_⟩) (by assumption) ?_
  rotate_left
  · intro w hSw
    try dsimp only at hSw
    go_simp
    try with_reducible rfl
  try simp only [Act.put, List.getElem_toArray, List.getElem_cons_succ, List.getElem_cons_zero, List.setIfInBounds_toArray, List.set_cons_zero, List.set_cons_succ]
  refine wpAnyH_take (i := 35) (v := ?_) rfl (by as_aux_lemma => kernel_rfl) (by as_aux_lemma => kernel_rfl) (by as_aux_lemma => kernel_rfl) (fun _ _ _ h => h) (Or.inl ⟨by rfl, ?_⟩) (by assumption) ?_
  rotate_left
  · intro w hSw
    try dsimp only at hSw
    go_simp
    try with_reducible rfl
  try simp only [Act.put, List.getElem_toArray, List.getElem_cons_succ, List.getElem_cons_zero, List.setIfInBounds_toArray, List.set_cons_zero, List.set_cons_succ]
  refine wpAnyH_ready (rs := [36]) (by as_aux_lemma => kernel_rfl) (by simp) ?_
  refine AllReadyH.cons rfl (fun K hK => ?_) AllReadyH.nil
  go_simp
  refine hK.out _ _ (KA _ ((hh0.2.2.2.2.2.2.2.2.2).alloc (hh0.2.2.2.2.2.2.2.2.2).size _)) (fun hh1 => ?_)
  clear hK K
  try simp only [Act.put, List.getElem_toArray, List.getElem_cons_succ, List.getElem_cons_zero, List.setIfInBounds_toArray, List.set_cons_zero, List.set_cons_succ]
  refine wpAnyH_ready (rs := [37]) (by as_aux_lemma => kernel_rfl) (by simp) ?_
  refine AllReadyH.cons rfl (fun K hK => ?_) AllReadyH.nil
  go_simp
  refine (ints_eq _ _ [0, 7, 17, 40] _ (I2.out.below hh1.2.2.2.2.2.2.2.2.2) (ints_blk [0, 7, 17, 40] rfl (by decide) (heap_alloc_new _ _))).mono ?_
  rintro e yb ⟨rfl, hyb⟩
  refine hK.out _ _ (KA _ (Below.trans hh1.2.2.2.2.2.2.2.2.2 (Below.mono hyb (hh1.2.2.2.2.2.2.2.2.2).size))) (fun hh2 => ?_)
  clear hK K
  try simp only [Act.put, List.getElem_toArray, List.getElem_cons_succ, List.getElem_cons_zero, List.setIfInBounds_toArray, List.set_cons_zero, List.set_cons_succ]
  refine wpAnyH_take (i := 38) (v := ?_) rfl (by as_aux_lemma => kernel_rfl) (by as_aux_lemma => kernel_rfl) (by as_aux_lemma => kernel_rfl) (fun _ _ _ h => h) (Or.inl ⟨by rfl, ?_⟩) (by assumption) ?_
  rotate_left
  · intro w hSw
    try dsimp only at hSw
    go_simp
    try with_reducible rfl
  try simp only [Act.put, List.getElem_toArray, List.getElem_cons_succ, List.getElem_cons_zero, List.setIfInBounds_toArray, List.set_cons_zero, List.set_cons_succ]
  refine wpAnyH_take (i := 39) (v := ?_) rfl (by as_aux_lemma => kernel_rfl) (by as_aux_lemma => kernel_rfl) (by as_aux_lemma => kernel_rfl) (fun _ _ _ h => h) (Or.inl ⟨by rfl, ?_⟩) (by assumption) ?_
  rotate_left
  · intro w hSw
    try dsimp only at hSw
    go_simp
    try with_reducible rfl
  try simp only [Act.put, List.getElem_toArray, List.getElem_cons_succ, List.getElem_cons_zero, List.setIfInBounds_toArray, List.set_cons_zero, List.set_cons_succ]
  refine wpAnyH_take (i := 40) (v := ?_) rfl (by as_aux_lemma => kernel_rfl) (by as_aux_lemma => kernel_rfl) (by as_aux_lemma => kernel_rfl) (fun _ _ _ h => h) (Or.inl ⟨by rfl, ?_⟩) (by assumption) ?_
  rotate_left
  · intro w hSw
    try dsimp only at hSw
    go_simp
    try with_reducible rfl
  try simp only [Act.put, List.getElem_toArray, List.getElem_cons_succ, List.getElem_cons_zero, List.setIfInBounds_toArray, List.set_cons_zero, List.set_cons_succ]
  refine wpAnyH_ready (rs := [41]) (by as_aux_lemma => kernel_rfl) (by simp) ?_
  refine AllReadyH.cons rfl (fun K hK => ?_) AllReadyH.nil
  go_simp
  refine hK.out _ _ (KA _ ((hh2.2.2.2.2.2.2.2.2.2).alloc (hh2.2.2.2.2.2.2.2.2.2).size _)) (fun hh3 => ?_)
  clear hK K
  try simp only [Act.put, List.getElem_toArray, List.getElem_cons_succ, List.getElem_cons_zero, List.setIfInBounds_toArray, List.set_cons_zero, List.set_cons_succ]
  refine wpAnyH_ready (rs := [42]) (by as_aux_lemma => kernel_rfl) (by simp) ?_
  refine AllReadyH.cons rfl (fun K hK => ?_) AllReadyH.nil
  go_simp
  refine (ints_eq _ _ [0, 6, 16, 40] _ (I3.out.below hh3.2.2.2.2.2.2.2.2.2) (ints_blk [0, 6, 16, 40] rfl (by decide) (heap_alloc_new _ _))).mono ?_
  rintro e yc ⟨rfl, hyc⟩
  refine hK.out _ _ (KA _ (Below.trans hh3.2.2.2.2.2.2.2.2.2 (Below.mono hyc (hh3.2.2.2.2.2.2.2.2.2).size))) (fun hh4 => ?_)
  clear hK K
  try simp only [Act.put, List.getElem_toArray, List.getElem_cons_succ, List.getElem_cons_zero, List.setIfInBounds_toArray, List.set_cons_zero, List.set_cons_succ]
  refine wpAnyH_take (i := 43) (v := ?_) rfl (by as_aux_lemma => kernel_rfl) (by as_aux_lemma => kernel_rfl) (by as_aux_lemma => kernel_rfl) (fun _ _ _ h => h) (Or.inl ⟨by rfl, ?_⟩) (by assumption) ?_
  rotate_left
  · intro w hSw
    try dsimp only at hSw
    go_simp
    try with_reducible rfl
  try simp only [Act.put, List.getElem_toArray, List.getElem_cons_succ, List.getElem_cons_zero, List.setIfInBounds_toArray, List.set_cons_zero, List.set_cons_succ]
  refine wpAnyH_take (i := 44) (v := ?_) rfl (by as_aux_lemma => kernel_rfl) (by as_aux_lemma => kernel_rfl) (by as_aux_lemma => kernel_rfl) (fun _ _ _ h => h) (Or.inl ⟨by rfl, ?_⟩) (by assumption) ?_
  rotate_left
  · intro w hSw
    try dsimp only at hSw
    go_simp
    try with_reducible rfl
  try simp only [Act.put, List.getElem_toArray, List.getElem_cons_succ, List.getElem_cons_zero, List.setIfInBounds_toArray, List.set_cons_zero, List.set_cons_succ]
  refine wpAnyH_take (i := 45) (v := ?_) rfl (by as_aux_lemma => kernel_rfl) (by as_aux_lemma => kernel_rfl) (by as_aux_lemma => kernel_rfl) (fun _ _ _ h => h) (Or.inl ⟨by rfl, ?_⟩) (by assumption) ?_
  rotate_left
  · intro w hSw
    try dsimp only at hSw
    go_simp
    try with_reducible rfl
  try simp only [Act.put, List.getElem_toArray, List.getElem_cons_succ, List.getElem_cons_zero, List.setIfInBounds_toArray, List.set_cons_zero, List.set_cons_succ]
  refine wpAnyH_ready (rs := [46]) (by as_aux_lemma => kernel_rfl) (by simp) ?_
  refine AllReadyH.cons rfl (fun K hK => ?_) AllReadyH.nil
  go_simp
  refine hK.out _ _ (KA _ ((hh4.2.2.2.2.2.2.2.2.2).alloc (hh4.2.2.2.2.2.2.2.2.2).size _)) (fun hh5 => ?_)
  clear hK K
  try simp only [Act.put, List.getElem_toArray, List.getElem_cons_succ, List.getElem_cons_zero, List.setIfInBounds_toArray, List.set_cons_zero, List.set_cons_succ]
  refine wpAnyH_ready (rs := [47]) (by as_aux_lemma => kernel_rfl) (by simp) ?_
  refine AllReadyH.cons rfl (fun K hK => ?_) AllReadyH.nil
  go_simp
  refine (ints_eq _ _ [0, 7, 17, 40] _ (I4.out.below hh5.2.2.2.2.2.2.2.2.2) (ints_blk [0, 7, 17, 40] rfl (by decide) (heap_alloc_new _ _))).mono ?_
  rintro e yd ⟨rfl, hyd⟩
  refine hK.out _ _ (KA _ (Below.trans hh5.2.2.2.2.2.2.2.2.2 (Below.mono hyd (hh5.2.2.2.2.2.2.2.2.2).size))) (fun hh6 => ?_)
  clear hK K
  try simp only [Act.put, List.getElem_toArray, List.getElem_cons_succ, List.getElem_cons_zero, List.setIfInBounds_toArray, List.set_cons_zero, List.set_cons_succ]
  refine wpAnyH_take (i := 48) (v := ?_) rfl (by as_aux_lemma => kernel_rfl) (by as_aux_lemma => kernel_rfl) (by as_aux_lemma => kernel_rfl) (fun _ _ _ h => h) (Or.inl ⟨by rfl, ?_⟩) (by assumption) ?_
  rotate_left
  · intro w hSw
    try dsimp only at hSw
    go_simp
    try with_reducible rfl
  try simp only [Act.put, List.getElem_toArray, List.getElem_cons_succ, List.getElem_cons_zero, List.setIfInBounds_toArray, List.set_cons_zero, List.set_cons_succ]
  refine wpAnyH_take (i := 49) (v := ?_) rfl (by as_aux_lemma => kernel_rfl) (by as_aux_lemma => kernel_rfl) (by as_aux_lemma => kernel_rfl) (fun _ _ _ h => h) (Or.inl ⟨by rfl, ?_⟩) (by assumption) ?_
  rotate_left
  · intro w hSw
    try dsimp only at hSw
    go_simp
    try with_reducible rfl
  try simp only [Act.put, List.getElem_toArray, List.getElem_cons_succ, List.getElem_cons_zero, List.setIfInBounds_toArray, List.set_cons_zero, List.set_cons_succ]
  refine wpAnyH_take (i := 50) (v := ?_) rfl (by as_aux_lemma => kernel_rfl) (by as_aux_lemma => kernel_rfl) (by as_aux_lemma => kernel_rfl) (fun _ _ _ h => h) (Or.inl ⟨by rfl, ?_⟩) (by assumption) ?_
  rotate_left
  · intro w hSw
    try dsimp only at hSw
    go_simp
    try with_reducible rfl
  try simp only [Act.put, List.getElem_toArray, List.getElem_cons_succ, List.getElem_cons_zero, List.setIfInBounds_toArray, List.set_cons_zero, List.set_cons_succ]
  refine wpAnyH_ready (rs := [51]) (by as_aux_lemma => kernel_rfl) (by simp) ?_
  refine AllReadyH.cons rfl (fun K hK => ?_) AllReadyH.nil
  go_simp
  refine hK.out _ _ (KA _ ((hh6.2.2.2.2.2.2.2.2.2).alloc (hh6.2.2.2.2.2.2.2.2.2).size _)) (fun hh7 => ?_)
  clear hK K
  try simp only [Act.put, List.getElem_toArray, List.getElem_cons_succ, List.getElem_cons_zero, List.setIfInBounds_toArray, List.set_cons_zero, List.set_cons_succ]
  refine wpAnyH_ready (rs := [52]) (by as_aux_lemma => kernel_rfl) (by simp) ?_
  refine AllReadyH.cons rfl (fun K hK => ?_) AllReadyH.nil
  go_simp
  refine (ints_eq _ _ [0, 67, 29] _ (I5.out.below hh7.2.2.2.2.2.2.2.2.2) (ints_blk [0, 67, 29] rfl (by decide) (heap_alloc_new _ _))).mono ?_
  rintro e ye ⟨rfl, hye⟩
  refine hK.out _ _ (KA _ (Below.trans hh7.2.2.2.2.2.2.2.2.2 (Below.mono hye (hh7.2.2.2.2.2.2.2.2.2).size))) (fun hh8 => ?_)
  clear hK K
  try simp only [Act.put, List.getElem_toArray, List.getElem_cons_succ, List.getElem_cons_zero, List.setIfInBounds_toArray, List.set_cons_zero, List.set_cons_succ]
  refine wpAnyH_take (i := 53) (v := ?_) rfl (by as_aux_lemma => kernel_rfl) (by as_aux_lemma => kernel_rfl) (by as_aux_lemma => kernel_rfl) (fun _ _ _ h => h) (Or.inl ⟨by rfl, ?_⟩) (by assumption) ?_
  rotate_left
  · intro w hSw
    try dsimp only at hSw
    go_simp
    try with_reducible rfl
  try simp only [Act.put, List.getElem_toArray, List.getElem_cons_succ, List.getElem_cons_zero, List.setIfInBounds_toArray, List.set_cons_zero, List.set_cons_succ]
  refine wpAnyH_take (i := 54) (v := ?_) rfl (by as_aux_lemma => kernel_rfl) (by as_aux_lemma => kernel_rfl) (by as_aux_lemma => kernel_rfl) (fun _ _ _ h => h) (Or.inl ⟨by rfl, ?_⟩) (by assumption) ?_
  rotate_left
  · intro w hSw
    try dsimp only at hSw
    go_simp
    try with_reducible rfl
  try simp only [Act.put, List.getElem_toArray, List.getElem_cons_succ, List.getElem_cons_zero, List.setIfInBounds_toArray, List.set_cons_zero, List.set_cons_succ]
  refine wpAnyH_take (i := 55) (v := ?_) rfl (by as_aux_lemma => kernel_rfl) (by as_aux_lemma => kernel_rfl) (by as_aux_lemma => kernel_rfl) (fun _ _ _ h => h) (Or.inl ⟨by rfl, ?_⟩) (by assumption) ?_
  rotate_left
  · intro w hSw
    try dsimp only at hSw
    go_simp
    try with_reducible rfl
  try simp only [Act.put, List.getElem_toArray, List.getElem_cons_succ, List.getElem_cons_zero, List.setIfInBounds_toArray, List.set_cons_zero, List.set_cons_succ]
  refine wpAnyH_take (i := 56) (v := ?_) rfl (by as_aux_lemma => kernel_rfl) (by as_aux_lemma => kernel_rfl) (by as_aux_lemma => kernel_rfl) (fun _ _ _ h => h) (Or.inl ⟨by rfl, ?_⟩) (by assumption) ?_
  rotate_left
  · intro w hSw
    try dsimp only at hSw
    go_simp
    try with_reducible rfl
  try simp only [Act.put, List.getElem_toArray, List.getElem_cons_succ, List.getElem_cons_zero, List.setIfInBounds_toArray, List.set_cons_zero, List.set_cons_succ]
  refine wpAnyH_take (i := 57) (v := ?_) rfl (by as_aux_lemma => kernel_rfl) (by as_aux_lemma => kernel_rfl) (by as_aux_lemma => kernel_rfl) (fun _ _ _ h => h) (Or.inl ⟨by rfl, ?_⟩) (by assumption) ?_
  rotate_left
  · intro w hSw
    try dsimp only at hSw
    go_simp
    try with_reducible rfl
  try simp only [Act.put, List.getElem_toArray, List.getElem_cons_succ, List.getElem_cons_zero, List.setIfInBounds_toArray, List.set_cons_zero, List.set_cons_succ]
  refine wpAnyH_take (i := 58) (v := ?_) rfl (by as_aux_lemma => kernel_rfl) (by as_aux_lemma => kernel_rfl) (by as_aux_lemma => kernel_rfl) (fun _ _ _ h => h) (Or.inl ⟨by rfl, ?_⟩) (by assumption) ?_
  rotate_left
  · intro w hSw
    try dsimp only at hSw
    go_simp
    try with_reducible rfl
  try simp only [Act.put, List.getElem_toArray, List.getElem_cons_succ, List.getElem_cons_zero, List.setIfInBounds_toArray, List.set_cons_zero, List.set_cons_succ]
  refine wpAnyH_take (i := 59) (v := ?_) rfl (by as_aux_lemma => kernel_rfl) (by as_aux_lemma => kernel_rfl) (by as_aux_lemma => kernel_rfl) (fun _ _ _ h => h) (Or.inl ⟨by rfl, ?_⟩) (by assumption) ?_
  rotate_left
  · intro w hSw
    try dsimp only at hSw
    go_simp
    try with_reducible rfl
  try simp only [Act.put, List.getElem_toArray, List.getElem_cons_succ, List.getElem_cons_zero, List.setIfInBounds_toArray, List.set_cons_zero, List.set_cons_succ]
  refine wpAnyH_take (i := 60) (v := ?_) rfl (by as_aux_lemma => kernel_rfl) (by as_aux_lemma => kernel_rfl) (by as_aux_lemma => kernel_rfl) (fun _ _ _ h => h) (Or.inl ⟨by rfl, ?_⟩) (by assumption) ?_
  rotate_left
  · intro w hSw
    try dsimp only at hSw
    go_simp
    try with_reducible rfl
  try simp only [Act.put, List.getElem_toArray, List.getElem_cons_succ, List.getElem_cons_zero, List.setIfInBounds_toArray, List.set_cons_zero, List.set_cons_succ]
  refine wpAnyH_ready (rs := [61]) (by as_aux_lemma => kernel_rfl) (by simp) ?_
  refine AllReadyH.cons rfl (fun K hK => ?_) AllReadyH.nil
  go_simp
  refine (of_any 4 5 _).mono ?_
  rintro e vb0 ⟨rfl, hvb0⟩
  refine hK.out _ _ (KA _ (Below.trans hh8.2.2.2.2.2.2.2.2.2 (Below.mono hvb0 (hh8.2.2.2.2.2.2.2.2.2).size))) (fun hh9 => ?_)
  clear hK K
  try simp only [Act.put, List.getElem_toArray, List.getElem_cons_succ, List.getElem_cons_zero, List.setIfInBounds_toArray, List.set_cons_zero, List.set_cons_succ]
  refine wpAnyH_take (i := 62) (v := ?_) rfl (by as_aux_lemma => kernel_rfl) (by as_aux_lemma => kernel_rfl) (by as_aux_lemma => kernel_rfl) (fun _ _ _ h => h) (Or.inl ⟨by rfl, ?_⟩) (by assumption) ?_
  rotate_left
  · intro w hSw
    try dsimp only at hSw
    go_simp
    try with_reducible rfl
  try simp only [Act.put, List.getElem_toArray, List.getElem_cons_succ, List.getElem_cons_zero, List.setIfInBounds_toArray, List.set_cons_zero, List.set_cons_succ]
  refine wpAnyH_take (i := 63) (v := ?_) rfl (by as_aux_lemma => kernel_rfl) (by as_aux_lemma => kernel_rfl) (by as_aux_lemma => kernel_rfl) (fun _ _ _ h => h) (Or.inl ⟨by rfl, ?_⟩) (by assumption) ?_
  rotate_left
  · intro w hSw
    try dsimp only at hSw
    go_simp
    try with_reducible rfl
  try simp only [Act.put, List.getElem_toArray, List.getElem_cons_succ, List.getElem_cons_zero, List.setIfInBounds_toArray, List.set_cons_zero, List.set_cons_succ]
  refine wpAnyH_take (i := 64) (v := ?_) rfl (by as_aux_lemma => kernel_rfl) (by as_aux_lemma => kernel_rfl) (by as_aux_lemma => kernel_rfl) (fun _ _ _ h => h) (Or.inl ⟨by rfl, ?_⟩) (by assumption) ?_
  rotate_left
  · intro w hSw
    try dsimp only at hSw
    go_simp
    try with_reducible rfl
  try simp only [Act.put, List.getElem_toArray, List.getElem_cons_succ, List.getElem_cons_zero, List.setIfInBounds_toArray, List.set_cons_zero, List.set_cons_succ]
  refine wpAnyH_take (i := 65) (v := ?_) rfl (by as_aux_lemma => kernel_rfl) (by as_aux_lemma => kernel_rfl) (by as_aux_lemma => kernel_rfl) (fun _ _ _ h => h) (Or.inl ⟨by rfl, ?_⟩) (by assumption) ?_
  rotate_left
  · intro w hSw
    try dsimp only at hSw
    go_simp
    try with_reducible rfl
  try simp only [Act.put, List.getElem_toArray, List.getElem_cons_succ, List.getElem_cons_zero, List.setIfInBounds_toArray, List.set_cons_zero, List.set_cons_succ]
  refine wpAnyH_ready (rs := [66]) (by as_aux_lemma => kernel_rfl) (by simp) ?_
  refine AllReadyH.cons rfl (fun K hK => ?_) AllReadyH.nil
  go_simp
  refine (of_any 21 25 _).mono ?_
  rintro e vb1 ⟨rfl, hvb1⟩
  refine hK.out _ _ (KA _ (Below.trans hh9.2.2.2.2.2.2.2.2.2 (Below.mono hvb1 (hh9.2.2.2.2.2.2.2.2.2).size))) (fun hh10 => ?_)
  clear hK K
  try simp only [Act.put, List.getElem_toArray, List.getElem_cons_succ, List.getElem_cons_zero, List.setIfInBounds_toArray, List.set_cons_zero, List.set_cons_succ]
  refine wpAnyH_take (i := 67) (v := ?_) rfl (by as_aux_lemma => kernel_rfl) (by as_aux_lemma => kernel_rfl) (by as_aux_lemma => kernel_rfl) (fun _ _ _ h => h) (Or.inl ⟨by rfl, ?_⟩) (by assumption) ?_
  rotate_left
  · intro w hSw
    try dsimp only at hSw
    go_simp
    try with_reducible rfl
  try simp only [Act.put, List.getElem_toArray, List.getElem_cons_succ, List.getElem_cons_zero, List.setIfInBounds_toArray, List.set_cons_zero, List.set_cons_succ]
  refine wpAnyH_take (i := 68) (v := ?_) rfl (by as_aux_lemma => kernel_rfl) (by as_aux_lemma => kernel_rfl) (by as_aux_lemma => kernel_rfl) (fun _ _ _ h => h) (Or.inl ⟨by rfl, ?_⟩) (by assumption) ?_
  rotate_left
  · intro w hSw
    try dsimp only at hSw
    go_simp
    try with_reducible rfl
  try simp only [Act.put, List.getElem_toArray, List.getElem_cons_succ, List.getElem_cons_zero, List.setIfInBounds_toArray, List.set_cons_zero, List.set_cons_succ]
  refine wpAnyH_take (i := 69) (v := ?_) rfl (by as_aux_lemma => kernel_rfl) (by as_aux_lemma => kernel_rfl) (by as_aux_lemma => kernel_rfl) (fun _ _ _ h => h) (Or.inl ⟨by rfl, ?_⟩) (by assumption) ?_
  rotate_left
  · intro w hSw
    try dsimp only at hSw
    go_simp
    try with_reducible rfl
  try simp only [Act.put, List.getElem_toArray, List.getElem_cons_succ, List.getElem_cons_zero, List.setIfInBounds_toArray, List.set_cons_zero, List.set_cons_succ]
  refine wpAnyH_take (i := 70) (v := ?_) rfl (by as_aux_lemma => kernel_rfl) (by as_aux_lemma => kernel_rfl) (by as_aux_lemma => kernel_rfl) (fun _ _ _ h => h) (Or.inl ⟨by rfl, ?_⟩) (by assumption) ?_
  rotate_left
  · intro w hSw
    try dsimp only at hSw
    go_simp
    try with_reducible rfl
  try simp only [Act.put, List.getElem_toArray, List.getElem_cons_succ, List.getElem_cons_zero, List.setIfInBounds_toArray, List.set_cons_zero, List.set_cons_succ]
  refine wpAnyH_ready (rs := [71]) (by as_aux_lemma => kernel_rfl) (by simp) ?_
  refine AllReadyH.cons rfl (fun K hK => ?_) AllReadyH.nil
  go_simp
  refine (of_any 2 3 _).mono ?_
  rintro e vc0 ⟨rfl, hvc0⟩
  refine hK.out _ _ (KA _ (Below.trans hh10.2.2.2.2.2.2.2.2.2 (Below.mono hvc0 (hh10.2.2.2.2.2.2.2.2.2).size))) (fun hh11 => ?_)
  clear hK K
  try simp only [Act.put, List.getElem_toArray, List.getElem_cons_succ, List.getElem_cons_zero, List.setIfInBounds_toArray, List.set_cons_zero, List.set_cons_succ]
  refine wpAnyH_ready (rs := [72]) (by as_aux_lemma => kernel_rfl) (by simp) ?_
  refine AllReadyH.cons rfl (fun K hK => ?_) AllReadyH.nil
  go_simp
  refine hK.out _ _ (KA _ ((hh11.2.2.2.2.2.2.2.2.2).alloc (hh11.2.2.2.2.2.2.2.2.2).size _)) (fun hh12 => ?_)
  clear hK K
  try simp only [Act.put, List.getElem_toArray, List.getElem_cons_succ, List.getElem_cons_zero, List.setIfInBounds_toArray, List.set_cons_zero, List.set_cons_succ]
  refine wpAnyH_ready (rs := [73]) (by as_aux_lemma => kernel_rfl) (by simp) ?_
  refine AllReadyH.cons rfl (fun K hK => ?_) AllReadyH.nil
  go_simp
  refine (same_eq _ _ [(2, 3)] _ (P16.out.below hh12.2.2.2.2.2.2.2.2.2) (pairs_blk [(2, 3)] rfl (by decide) (heap_alloc_new _ _))).mono ?_
  rintro e yf ⟨rfl, hyf⟩
  refine hK.out _ _ (KA _ (Below.trans hh12.2.2.2.2.2.2.2.2.2 (Below.mono hyf (hh12.2.2.2.2.2.2.2.2.2).size))) (fun hh13 => ?_)
  clear hK K
  try simp only [Act.put, List.getElem_toArray, List.getElem_cons_succ, List.getElem_cons_zero, List.setIfInBounds_toArray, List.set_cons_zero, List.set_cons_succ]
  refine wpAnyH_take (i := 74) (v := ?_) rfl (by as_aux_lemma => kernel_rfl) (by as_aux_lemma => kernel_rfl) (by as_aux_lemma => kernel_rfl) (fun _ _ _ h => h) (Or.inl ⟨by rfl, ?_⟩) (by assumption) ?_
  rotate_left
  · intro w hSw
    try dsimp only at hSw
    go_simp
    try with_reducible rfl
  try simp only [Act.put, List.getElem_toArray, List.getElem_cons_succ, List.getElem_cons_zero, List.setIfInBounds_toArray, List.set_cons_zero, List.set_cons_succ]
  refine wpAnyH_take (i := 75) (v := ?_) rfl (by as_aux_lemma => kernel_rfl) (by as_aux_lemma => kernel_rfl) (by as_aux_lemma => kernel_rfl) (fun _ _ _ h => h) (Or.inl ⟨by rfl, ?_⟩) (by assumption) ?_
  rotate_left
  · intro w hSw
    try dsimp only at hSw
    go_simp
    try with_reducible rfl
  try simp only [Act.put, List.getElem_toArray, List.getElem_cons_succ, List.getElem_cons_zero, List.setIfInBounds_toArray, List.set_cons_zero, List.set_cons_succ]
  refine wpAnyH_take (i := 76) (v := ?_) rfl (by as_aux_lemma => kernel_rfl) (by as_aux_lemma => kernel_rfl) (by as_aux_lemma => kernel_rfl) (fun _ _ _ h => h) (Or.inl ⟨by rfl, ?_⟩) (by assumption) ?_
  rotate_left
  · intro w hSw
    try dsimp only at hSw
    go_simp
    try with_reducible rfl
  try simp only [Act.put, List.getElem_toArray, List.getElem_cons_succ, List.getElem_cons_zero, List.setIfInBounds_toArray, List.set_cons_zero, List.set_cons_succ]
  refine wpAnyH_take (i := 77) (v := ?_) rfl (by as_aux_lemma => kernel_rfl) (by as_aux_lemma => kernel_rfl) (by as_aux_lemma => kernel_rfl) (fun _ _ _ h => h) (Or.inl ⟨by rfl, ?_⟩) (by assumption) ?_
  rotate_left
  · intro w hSw
    try dsimp only at hSw
    go_simp
    try with_reducible rfl
  try simp only [Act.put, List.getElem_toArray, List.getElem_cons_succ, List.getElem_cons_zero, List.setIfInBounds_toArray, List.set_cons_zero, List.set_cons_succ]
  refine wpAnyH_take (i := 78) (v := ?_) rfl (by as_aux_lemma => kernel_rfl) (by as_aux_lemma => kernel_rfl) (by as_aux_lemma => kernel_rfl) (fun _ _ _ h => h) (Or.inl ⟨by rfl, ?_⟩) (by assumption) ?_
  rotate_left
  · intro w hSw
    try dsimp only at hSw
    go_simp
    try with_reducible rfl
  try simp only [Act.put, List.getElem_toArray, List.getElem_cons_succ, List.getElem_cons_zero, List.setIfInBounds_toArray, List.set_cons_zero, List.set_cons_succ]
  refine wpAnyH_take (i := 79) (v := ?_) rfl (by as_aux_lemma => kernel_rfl) (by as_aux_lemma => kernel_rfl) (by as_aux_lemma => kernel_rfl) (fun _ _ _ h => h) (Or.inl ⟨by rfl, ?_⟩) (by assumption) ?_
  rotate_left
  · intro w hSw
    try dsimp only at hSw
    go_simp
    try with_reducible rfl
  try simp only [Act.put, List.getElem_toArray, List.getElem_cons_succ, List.getElem_cons_zero, List.setIfInBounds_toArray, List.set_cons_zero, List.set_cons_succ]
  refine wpAnyH_take (i := 80) (v := ?_) rfl (by as_aux_lemma => kernel_rfl) (by as_aux_lemma => kernel_rfl) (by as_aux_lemma => kernel_rfl) (fun _ _ _ h => h) (Or.inl ⟨by rfl, ?_⟩) (by assumption) ?_
  rotate_left
  · intro w hSw
    try dsimp only at hSw
    go_simp
    try with_reducible rfl
  try simp only [Act.put, List.getElem_toArray, List.getElem_cons_succ, List.getElem_cons_zero, List.setIfInBounds_toArray, List.set_cons_zero, List.set_cons_succ]
  refine wpAnyH_ready (rs := [81]) (by as_aux_lemma => kernel_rfl) (by simp) ?_
  refine AllReadyH.cons rfl (fun K hK => ?_) AllReadyH.nil
  go_simp
  refine (awake_any _).mono ?_
  rintro e yg ⟨rfl, hyg⟩
  refine hK.out _ _ (KA _ (Below.trans hh13.2.2.2.2.2.2.2.2.2 (Below.mono hyg (hh13.2.2.2.2.2.2.2.2.2).size))) (fun hh14 => ?_)
  clear hK K
  try simp only [Act.put, List.getElem_toArray, List.getElem_cons_succ, List.getElem_cons_zero, List.setIfInBounds_toArray, List.set_cons_zero, List.set_cons_succ]
  refine wpAnyH_take (i := 82) (v := ?_) rfl (by as_aux_lemma => kernel_rfl) (by as_aux_lemma => kernel_rfl) (by as_aux_lemma => kernel_rfl) (fun _ _ _ h => h) (Or.inl ⟨by rfl, ?_⟩) (by assumption) ?_
  rotate_left
  · intro w hSw
    try dsimp only at hSw
    go_simp
    try with_reducible rfl
  try simp only [Act.put, List.getElem_toArray, List.getElem_cons_succ, List.getElem_cons_zero, List.setIfInBounds_toArray, List.set_cons_zero, List.set_cons_succ]
  refine wpAnyH_ready (rs := [83]) (by as_aux_lemma => kernel_rfl) (by simp) ?_
  refine AllReadyH.cons rfl (fun K hK => ?_) AllReadyH.nil
  go_simp
  refine hK.out _ _ hh14 (fun hh15 => ?_)
  clear hK K
  try simp only [Act.put, List.getElem_toArray, List.getElem_cons_succ, List.getElem_cons_zero, List.setIfInBounds_toArray, List.set_cons_zero, List.set_cons_succ]
  refine wpAnyH_done (by as_aux_lemma => kernel_rfl) ?_ _
  refine NoPanic.normal ?_
  have HBZ := Lib.hid (hh15.2.2.2.2.2.2.2.2.2)
  have hbz := HBZ.out
  go_wp2_with fail
  go_ret
  exact ⟨rfl, HB.out.trans (hbz.mono HB.out.size)⟩
end Go.Proofs.Ythflbbjilebhlaa
