/- Awake of the statements of package carve. -/
import Derived.Test.YtnciomoapajonaaCxf
import Derived.Test.YtnciomoapajonaaCvx
set_option linter.unusedSimpArgs false
set_option linter.unusedVariables false
namespace Go.Proofs.Ytnciomoapajonaa
open Go Go.RowKit Go.Shelf Cv

theorem ints_new (W : World) (l : List Int) (t : TypeId) (hl : l.length ≤ 100) : IntsAt (W.alloc (.cells (l.map (Value.int .i64)).toArray t)) (.slice (some ⟨W.heap.size, 0, none⟩) l.length l.length) l := by
  refine ⟨by omega, _, l.length, rfl, Nat.le_refl _, fun _ => ⟨W.heap.size, 0, rfl, fun k hk => ?_⟩⟩
  rw [Nat.zero_add]
  exact cellOf (heap_alloc_new W _) k _ (by simp [hk])
theorem pass_new (W : World) (l : List (Int × Int)) (t : TypeId) (hl : l.length ≤ 100) : PassAt (W.alloc (.cells (passC l).toArray t)) (.slice (some ⟨W.heap.size, 0, none⟩) l.length l.length) l := by
  refine ⟨by omega, _, l.length, rfl, Nat.le_refl _, fun _ => ⟨W.heap.size, 0, rfl, fun k hk => ?_⟩⟩
  rw [Nat.zero_add]
  have e1 := passC_get l k hk
  have e : l.getD k (0, 0) = l[k] := by simp [List.getD_eq_getElem?_getD, hk]
  rw [e] at e1
  exact ⟨cellOf (heap_alloc_new W _) (k * 2) _ (by simpa using e1.1), cellOf (heap_alloc_new W _) (k * 2 + 1) _ (by simpa using e1.2)⟩
set_option maxRecDepth 100000 in
set_option maxHeartbeats 16000000 in
theorem awake_any (w : World) : Calls Try.prog 25 #[] w fun e w' => e = .returned (.bool true) ∧ Below w.heap.size w w' := by
  have HB := Lib.hid (Below.refl w.heap.size w)
  go_enter Try.func25, Try.ntmps25
  go_wp2_with fail
  have hcall := lrow_any 2 w
  refine hcall.mono ?_
  clear hcall
  rintro e w1 ⟨g, rfl, hP, hb⟩
  have HB' := Lib.hid (HB.out.trans (hb.mono HB.out.size))
  clear HB
  have HB := HB'
  clear HB'
  have HP := Lib.hid (hP)
  clear hb
  clear hP
  go_wp2_with fail
  have hb := (Below.refl w1.heap.size w1).alloc (Nat.le_refl _) (Obj.cells #[.int .i64 2, .slice (some ⟨g, 0, none⟩) 4 4] 24)
  have HR := Lib.hid (heap_alloc_new w1 (Obj.cells #[.int .i64 2, .slice (some ⟨g, 0, none⟩) 4 4] 24))
  have hz2 : (w1.alloc (Obj.cells #[.int .i64 2, .slice (some ⟨g, 0, none⟩) 4 4] 24)).heap.size = w1.heap.size + 1 := by simp
  have HB' := Lib.hid (HB.out.trans (hb.mono HB.out.size))
  have HP' := Lib.hid (HP.out.below hb)
  clear HB
  have HB := HB'
  clear HB'
  clear HP
  have HP := HP'
  clear HP'
  clear hb
  generalize w1.alloc (Obj.cells #[.int .i64 2, .slice (some ⟨g, 0, none⟩) 4 4] 24) = w2 at *
  have hb := (Below.refl w2.heap.size w2).alloc (Nat.le_refl _) (Obj.cells #[.int .i64 8, .int .i64 9, .int .i64 7, .int .i64 4] 3)
  have HS : Hid (IntsAt (w2.alloc (Obj.cells #[.int .i64 8, .int .i64 9, .int .i64 7, .int .i64 4] 3)) (.slice (some ⟨w2.heap.size, 0, none⟩) 4 4) [8, 9, 7, 4]) := ints_new w2 [8, 9, 7, 4] 3 (by simp)
  have hz3 : (w2.alloc (Obj.cells #[.int .i64 8, .int .i64 9, .int .i64 7, .int .i64 4] 3)).heap.size = w2.heap.size + 1 := by simp
  rw [hz2] at HS
  have HB' := Lib.hid (HB.out.trans (hb.mono HB.out.size))
  have HP' := Lib.hid (HP.out.below hb)
  have HR' := Lib.hid ((hb.block _ (lt_of_block HR.out)).trans HR.out)
  clear HB
  have HB := HB'
  clear HB'
  clear HP
  have HP := HP'
  clear HP'
  clear HR
  have HR := HR'
  clear HR'
  clear hb
  generalize w2.alloc (Obj.cells #[.int .i64 8, .int .i64 9, .int .i64 7, .int .i64 4] 3) = w3 at *
  have hcall := Why_any (rowR 2) _ _ [8, 9, 7, 4] _ HP.out HS.out
  rw [a_why] at hcall
  simp only at hcall
  refine hcall.mono ?_
  clear hcall
  rintro e w4 ⟨rfl, hb⟩
  have HB' := Lib.hid (HB.out.trans (hb.mono HB.out.size))
  have HP' := Lib.hid (HP.out.below hb)
  have HR' := Lib.hid ((hb.block _ (lt_of_block HR.out)).trans HR.out)
  have HS' := Lib.hid (HS.out.below hb)
  clear HB
  have HB := HB'
  clear HB'
  clear HP
  have HP := HP'
  clear HP'
  clear HR
  have HR := HR'
  clear HR'
  clear HS
  have HS := HS'
  clear HS'
  clear hb
  clear HS
  have ra := cellOf HR.out 0 _ rfl
  have rb := cellOf HR.out 1 _ rfl
  have rl := lt_of_block HR.out
  go_wp2_with fail
  clear ra rb rl
  have hcall := Bounds_any (rowR 2) _ _ HP.out
  rw [a_bounds] at hcall
  simp only at hcall
  refine hcall.mono ?_
  clear hcall
  rintro e w5 ⟨v, rfl, hown, hb⟩
  have HB' := Lib.hid (HB.out.trans (hb.mono HB.out.size))
  have HP' := Lib.hid (HP.out.below hb)
  have HR' := Lib.hid ((hb.block _ (lt_of_block HR.out)).trans HR.out)
  clear HB
  have HB := HB'
  clear HB'
  clear HP
  have HP := HP'
  clear HP'
  clear HR
  have HR := HR'
  clear HR'
  clear hb
  obtain ⟨ba, bc, rfl⟩ := own_slice hown
  have HBD := Lib.hid (passAt_own hown (by simp))
  clear hown
  go_wp2_with fail
  have hcall := lrow_any 1 w5
  refine hcall.mono ?_
  clear hcall
  rintro e w6 ⟨g1, rfl, hP, hb⟩
  have HB' := Lib.hid (HB.out.trans (hb.mono HB.out.size))
  have HP' := Lib.hid (HP.out.below hb)
  have HR' := Lib.hid ((hb.block _ (lt_of_block HR.out)).trans HR.out)
  have HBD' := Lib.hid (HBD.out.below hb)
  clear HB
  have HB := HB'
  clear HB'
  clear HP
  have HP := HP'
  clear HP'
  clear HR
  have HR := HR'
  clear HR'
  clear HBD
  have HBD := HBD'
  clear HBD'
  have HQ := Lib.hid (hP)
  clear hb
  clear hP
  go_wp2_with fail
  have hcall := prevents_any (rowR 1) _ _ HQ.out
  rw [a_prev] at hcall
  simp only at hcall
  refine hcall.mono ?_
  clear hcall
  rintro e w7 ⟨rfl, hb⟩
  have HB' := Lib.hid (HB.out.trans (hb.mono HB.out.size))
  have HP' := Lib.hid (HP.out.below hb)
  have HR' := Lib.hid ((hb.block _ (lt_of_block HR.out)).trans HR.out)
  have HBD' := Lib.hid (HBD.out.below hb)
  have HQ' := Lib.hid (HQ.out.below hb)
  clear HB
  have HB := HB'
  clear HB'
  clear HP
  have HP := HP'
  clear HP'
  clear HR
  have HR := HR'
  clear HR'
  clear HBD
  have HBD := HBD'
  clear HBD'
  clear HQ
  have HQ := HQ'
  clear HQ'
  clear hb
  clear HQ
  have ra := cellOf HR.out 0 _ rfl
  have rb := cellOf HR.out 1 _ rfl
  have rl := lt_of_block HR.out
  go_wp2_with fail
  clear ra rb rl
  have hcall := need_any (rowR 2) _ _ HP.out
  rw [a_need] at hcall
  simp only at hcall
  refine hcall.mono ?_
  clear hcall
  rintro e w8 ⟨rfl, hb⟩
  have HB' := Lib.hid (HB.out.trans (hb.mono HB.out.size))
  have HP' := Lib.hid (HP.out.below hb)
  have HR' := Lib.hid ((hb.block _ (lt_of_block HR.out)).trans HR.out)
  have HBD' := Lib.hid (HBD.out.below hb)
  clear HB
  have HB := HB'
  clear HB'
  clear HP
  have HP := HP'
  clear HP'
  clear HR
  have HR := HR'
  clear HR'
  clear HBD
  have HBD := HBD'
  clear HBD'
  clear hb
  have ra := cellOf HR.out 0 _ rfl
  have rb := cellOf HR.out 1 _ rfl
  have rl := lt_of_block HR.out
  go_wp2_with fail
  clear ra rb rl
  have hb := (Below.refl w8.heap.size w8).alloc (Nat.le_refl _) (Obj.cells #[.int .i64 8, .int .i64 9, .int .i64 8, .int .i64 6] 3)
  have HS : Hid (IntsAt (w8.alloc (Obj.cells #[.int .i64 8, .int .i64 9, .int .i64 8, .int .i64 6] 3)) (.slice (some ⟨w8.heap.size, 0, none⟩) 4 4) [8, 9, 8, 6]) := ints_new w8 [8, 9, 8, 6] 3 (by simp)
  have hz9 : (w8.alloc (Obj.cells #[.int .i64 8, .int .i64 9, .int .i64 8, .int .i64 6] 3)).heap.size = w8.heap.size + 1 := by simp
  have HB' := Lib.hid (HB.out.trans (hb.mono HB.out.size))
  have HP' := Lib.hid (HP.out.below hb)
  have HR' := Lib.hid ((hb.block _ (lt_of_block HR.out)).trans HR.out)
  have HBD' := Lib.hid (HBD.out.below hb)
  clear HB
  have HB := HB'
  clear HB'
  clear HP
  have HP := HP'
  clear HP'
  clear HR
  have HR := HR'
  clear HR'
  clear HBD
  have HBD := HBD'
  clear HBD'
  clear hb
  generalize w8.alloc (Obj.cells #[.int .i64 8, .int .i64 9, .int .i64 8, .int .i64 6] 3) = w9 at *
  have hcall := plaster_any (rowR 2) _ _ [8, 9, 8, 6] _ HP.out HS.out
  rw [a_plaster] at hcall
  simp only at hcall
  refine hcall.mono ?_
  clear hcall
  rintro e w10 ⟨rfl, hb⟩
  have HB' := Lib.hid (HB.out.trans (hb.mono HB.out.size))
  have HP' := Lib.hid (HP.out.below hb)
  have HR' := Lib.hid ((hb.block _ (lt_of_block HR.out)).trans HR.out)
  have HBD' := Lib.hid (HBD.out.below hb)
  have HS' := Lib.hid (HS.out.below hb)
  clear HB
  have HB := HB'
  clear HB'
  clear HP
  have HP := HP'
  clear HP'
  clear HR
  have HR := HR'
  clear HR'
  clear HBD
  have HBD := HBD'
  clear HBD'
  clear HS
  have HS := HS'
  clear HS'
  clear hb
  clear HS
  have ra := cellOf HR.out 0 _ rfl
  have rb := cellOf HR.out 1 _ rfl
  have rl := lt_of_block HR.out
  go_wp2_with fail
  clear ra rb rl
  have hb := (Below.refl w10.heap.size w10).alloc (Nat.le_refl _) (Obj.cells #[.int .i64 8, .int .i64 9, .int .i64 8, .int .i64 6] 3)
  have HS : Hid (IntsAt (w10.alloc (Obj.cells #[.int .i64 8, .int .i64 9, .int .i64 8, .int .i64 6] 3)) (.slice (some ⟨w10.heap.size, 0, none⟩) 4 4) [8, 9, 8, 6]) := ints_new w10 [8, 9, 8, 6] 3 (by simp)
  have hz11 : (w10.alloc (Obj.cells #[.int .i64 8, .int .i64 9, .int .i64 8, .int .i64 6] 3)).heap.size = w10.heap.size + 1 := by simp
  have HB' := Lib.hid (HB.out.trans (hb.mono HB.out.size))
  have HP' := Lib.hid (HP.out.below hb)
  have HR' := Lib.hid ((hb.block _ (lt_of_block HR.out)).trans HR.out)
  have HBD' := Lib.hid (HBD.out.below hb)
  clear HB
  have HB := HB'
  clear HB'
  clear HP
  have HP := HP'
  clear HP'
  clear HR
  have HR := HR'
  clear HR'
  clear HBD
  have HBD := HBD'
  clear HBD'
  clear hb
  generalize w10.alloc (Obj.cells #[.int .i64 8, .int .i64 9, .int .i64 8, .int .i64 6] 3) = w11 at *
  have hcall := passes_any (rowR 2) _ _ [8, 9, 8, 6] _ HP.out HS.out
  rw [a_passes] at hcall
  simp only at hcall
  refine hcall.mono ?_
  clear hcall
  rintro e w12 ⟨v, rfl, hown, hb⟩
  have HB' := Lib.hid (HB.out.trans (hb.mono HB.out.size))
  have HP' := Lib.hid (HP.out.below hb)
  have HR' := Lib.hid ((hb.block _ (lt_of_block HR.out)).trans HR.out)
  have HBD' := Lib.hid (HBD.out.below hb)
  have HS' := Lib.hid (HS.out.below hb)
  clear HB
  have HB := HB'
  clear HB'
  clear HP
  have HP := HP'
  clear HP'
  clear HR
  have HR := HR'
  clear HR'
  clear HBD
  have HBD := HBD'
  clear HBD'
  clear HS
  have HS := HS'
  clear HS'
  clear hb
  obtain ⟨la, lc, rfl⟩ := own_slice hown
  have HPS := Lib.hid (passAt_own hown (by simp))
  clear hown
  clear HS
  go_wp2_with fail
  have ra : w12.cell? ⟨w1.heap.size, 0, none⟩ = some (.int .i64 2) := cellOf HR.out 0 _ rfl
  have rb : w12.cell? ⟨w1.heap.size, 1, none⟩ = some (.slice (some ⟨g, 0, none⟩) 4 4) := cellOf HR.out 1 _ rfl
  refine wp_region_noPanic ?_
  refine wp_region_held_drew (S := (fun W' => W'.cell? ⟨w1.heap.size, 0, none⟩ = some (.int .i64 2) ∧ W'.cell? ⟨w1.heap.size, 1, none⟩ = some (.slice (some ⟨g, 0, none⟩) 4 4) ∧ Below w12.heap.size w12 W')) (by kernel_rfl) ?_ (fun hh0 => ?_)
  · try dsimp only
    exact ⟨ra, rb, (Below.refl _ _).drew⟩
  refine wpAnyH_take (i := 0) (v := ?_) rfl (by as_aux_lemma => kernel_rfl) (by as_aux_lemma => kernel_rfl) (by as_aux_lemma => kernel_rfl) (fun _ _ _ h => h) (Or.inl ⟨by rfl, ?_⟩) (by assumption) ?_
  rotate_left
  · intro w hSw
    try dsimp only at hSw
    go_simp
    try with_reducible rfl
  try simp only [Act.put, List.getElem_toArray, List.getElem_cons_succ, List.getElem_cons_zero, List.setIfInBounds_toArray, List.set_cons_zero, List.set_cons_succ]
  refine wpAnyH_ready (rs := [1]) (by as_aux_lemma => kernel_rfl) (by simp) ?_
  refine AllReadyH.cons rfl (fun K hK => ?_) AllReadyH.nil
  go_simp
  refine (lpass_any 0 1 _).mono ?_
  rintro e x1 ⟨rfl, hb⟩
  refine hK.out _ _ ?_ (fun hh1 => ?_)
  · try dsimp only
    exact keepS2 (W := w12) hh0 hb
  clear hK K hh0
  try simp only [Act.put, List.getElem_toArray, List.getElem_cons_succ, List.getElem_cons_zero, List.setIfInBounds_toArray, List.set_cons_zero, List.set_cons_succ]
  refine wpAnyH_ready (rs := [2]) (by as_aux_lemma => kernel_rfl) (by simp) ?_
  refine AllReadyH.cons rfl (fun K hK => ?_) AllReadyH.nil
  go_simp
  refine (lpass_any 3 3 _).mono ?_
  rintro e x2 ⟨rfl, hb⟩
  refine hK.out _ _ ?_ (fun hh2 => ?_)
  · try dsimp only
    exact keepS2 (W := w12) hh1 hb
  clear hK K hh1
  try simp only [Act.put, List.getElem_toArray, List.getElem_cons_succ, List.getElem_cons_zero, List.setIfInBounds_toArray, List.set_cons_zero, List.set_cons_succ]
  refine wpAnyH_ready (rs := [3]) (by as_aux_lemma => kernel_rfl) (by simp) ?_
  refine AllReadyH.cons rfl (fun K hK => ?_) AllReadyH.nil
  go_simp
  have hb := (Below.refl x2.heap.size x2).alloc (Nat.le_refl _) (Obj.cells #[.int .i64 0, .int .i64 1, .int .i64 3, .int .i64 3] 90)
  refine hK.out _ _ ?_ (fun hh3 => ?_)
  · try dsimp only
    exact keepS2 (W := w12) hh2 hb
  clear hK K hh2
  try simp only [Act.put, List.getElem_toArray, List.getElem_cons_succ, List.getElem_cons_zero, List.setIfInBounds_toArray, List.set_cons_zero, List.set_cons_succ]
  refine wpAnyH_ready (rs := [4]) (by as_aux_lemma => kernel_rfl) (by simp) ?_
  refine AllReadyH.cons rfl (fun K hK => ?_) AllReadyH.nil
  go_simp
  have hcall := Carved_any (rowR 2) _ _ [(0, 1), (3, 3)] _ (HP.out.below hh3.2.2) (pass_new x2 [(0, 1), (3, 3)] 90 (by simp) : PassAt (x2.alloc (Obj.cells #[.int .i64 0, .int .i64 1, .int .i64 3, .int .i64 3] 90)) (.slice (some ⟨x2.heap.size, 0, none⟩) 2 2) [(0, 1), (3, 3)])
  rw [a_carved] at hcall
  refine hcall.mono ?_
  clear hcall
  rintro e x4 ⟨v, rfl, hown, hb⟩
  simp only at hown
  obtain ⟨ca, cc, rfl⟩ := own_slice hown
  have HCV := Lib.hid (intsAt_own hown (by simp))
  clear hown
  refine hK.out _ _ ?_ (fun hh4 => ?_)
  · try dsimp only
    exact keepS2 (W := w12) hh3 hb
  clear hK K hh3
  try simp only [Act.put, List.getElem_toArray, List.getElem_cons_succ, List.getElem_cons_zero, List.setIfInBounds_toArray, List.set_cons_zero, List.set_cons_succ]
  refine wpAnyH_take (i := 5) (v := ?_) rfl (by as_aux_lemma => kernel_rfl) (by as_aux_lemma => kernel_rfl) (by as_aux_lemma => kernel_rfl) (fun _ _ _ h => h) (Or.inl ⟨by rfl, ?_⟩) (by assumption) ?_
  rotate_left
  · intro w hSw
    try dsimp only at hSw
    go_simp
    try with_reducible rfl
  try simp only [Act.put, List.getElem_toArray, List.getElem_cons_succ, List.getElem_cons_zero, List.setIfInBounds_toArray, List.set_cons_zero, List.set_cons_succ]
  refine wpAnyH_take (i := 6) (v := ?_) rfl (by as_aux_lemma => kernel_rfl) (by as_aux_lemma => kernel_rfl) (by as_aux_lemma => kernel_rfl) (fun _ _ _ h => h) (Or.inl ⟨by rfl, ?_⟩) (by assumption) ?_
  rotate_left
  · intro w hSw
    try dsimp only at hSw
    go_simp
    try with_reducible rfl
  try simp only [Act.put, List.getElem_toArray, List.getElem_cons_succ, List.getElem_cons_zero, List.setIfInBounds_toArray, List.set_cons_zero, List.set_cons_succ]
  refine wpAnyH_take (i := 7) (v := ?_) rfl (by as_aux_lemma => kernel_rfl) (by as_aux_lemma => kernel_rfl) (by as_aux_lemma => kernel_rfl) (fun _ _ _ h => h) (Or.inl ⟨by rfl, ?_⟩) (by assumption) ?_
  rotate_left
  · intro w hSw
    try dsimp only at hSw
    go_simp
    try with_reducible rfl
  try simp only [Act.put, List.getElem_toArray, List.getElem_cons_succ, List.getElem_cons_zero, List.setIfInBounds_toArray, List.set_cons_zero, List.set_cons_succ]
  refine wpAnyH_ready (rs := [8]) (by as_aux_lemma => kernel_rfl) (by simp) ?_
  refine AllReadyH.cons rfl (fun K hK => ?_) AllReadyH.nil
  go_simp
  refine hK.out _ _ ?_ (fun hh5 => ?_)
  · try dsimp only
    exact hh4
  clear hK K hh4
  try simp only [Act.put, List.getElem_toArray, List.getElem_cons_succ, List.getElem_cons_zero, List.setIfInBounds_toArray, List.set_cons_zero, List.set_cons_succ]
  refine wpAnyH_ready (rs := [9]) (by as_aux_lemma => kernel_rfl) (by simp) ?_
  refine AllReadyH.cons rfl (fun K hK => ?_) AllReadyH.nil
  go_simp
  refine hK.out _ _ ?_ (fun hh6 => ?_)
  · try dsimp only
    exact hh5
  clear hK K hh5
  try simp only [Act.put, List.getElem_toArray, List.getElem_cons_succ, List.getElem_cons_zero, List.setIfInBounds_toArray, List.set_cons_zero, List.set_cons_succ]
  refine wpAnyH_done (by as_aux_lemma => kernel_rfl) ?_ _
  refine NoPanic.normal ?_
  have hb := hh6.2.2
  clear hh6 ra rb
  have HB' := Lib.hid (HB.out.trans (hb.mono HB.out.size))
  have HP' := Lib.hid (HP.out.below hb)
  have HR' := Lib.hid ((hb.block _ (lt_of_block HR.out)).trans HR.out)
  have HBD' := Lib.hid (HBD.out.below hb)
  have HPS' := Lib.hid (HPS.out.below hb)
  clear HB
  have HB := HB'
  clear HB'
  clear HP
  have HP := HP'
  clear HP'
  clear HR
  have HR := HR'
  clear HR'
  clear HBD
  have HBD := HBD'
  clear HBD'
  clear HPS
  have HPS := HPS'
  clear HPS'
  clear hb
  have ra := cellOf HR.out 0 _ rfl
  have rb := cellOf HR.out 1 _ rfl
  have rl := lt_of_block HR.out
  go_wp2_with fail
  clear ra rb rl
  have hcall := Best_any (rowR 2) false _ _ HP.out
  rw [a_best] at hcall
  simp only at hcall
  refine hcall.mono ?_
  clear hcall
  rintro e w13 ⟨v, rfl, hown, hb⟩
  have HB' := Lib.hid (HB.out.trans (hb.mono HB.out.size))
  have HP' := Lib.hid (HP.out.below hb)
  have HR' := Lib.hid ((hb.block _ (lt_of_block HR.out)).trans HR.out)
  have HBD' := Lib.hid (HBD.out.below hb)
  have HPS' := Lib.hid (HPS.out.below hb)
  have HCV' := Lib.hid (HCV.out.below hb)
  clear HB
  have HB := HB'
  clear HB'
  clear HP
  have HP := HP'
  clear HP'
  clear HR
  have HR := HR'
  clear HR'
  clear HBD
  have HBD := HBD'
  clear HBD'
  clear HPS
  have HPS := HPS'
  clear HPS'
  clear HCV
  have HCV := HCV'
  clear HCV'
  clear hb
  obtain ⟨sa, sc, rfl⟩ := own_slice hown
  have HSU := Lib.hid (intsAt_own hown (by simp))
  clear hown
  go_wp2_with fail
  have hcall := ltwo_any w13
  refine hcall.mono ?_
  clear hcall
  rintro e w14 ⟨g2, rfl, hP, hb⟩
  have HB' := Lib.hid (HB.out.trans (hb.mono HB.out.size))
  have HP' := Lib.hid (HP.out.below hb)
  have HR' := Lib.hid ((hb.block _ (lt_of_block HR.out)).trans HR.out)
  have HBD' := Lib.hid (HBD.out.below hb)
  have HPS' := Lib.hid (HPS.out.below hb)
  have HCV' := Lib.hid (HCV.out.below hb)
  have HSU' := Lib.hid (HSU.out.below hb)
  clear HB
  have HB := HB'
  clear HB'
  clear HP
  have HP := HP'
  clear HP'
  clear HR
  have HR := HR'
  clear HR'
  clear HBD
  have HBD := HBD'
  clear HBD'
  clear HPS
  have HPS := HPS'
  clear HPS'
  clear HCV
  have HCV := HCV'
  clear HCV'
  clear HSU
  have HSU := HSU'
  clear HSU'
  have HQ := Lib.hid (hP)
  clear hb
  clear hP
  go_wp2_with fail
  have hcall := Best_any twoR true _ _ HQ.out
  rw [a_two] at hcall
  simp only at hcall
  refine hcall.mono ?_
  clear hcall
  rintro e w15 ⟨v, rfl, hown, hb⟩
  have HB' := Lib.hid (HB.out.trans (hb.mono HB.out.size))
  have HP' := Lib.hid (HP.out.below hb)
  have HR' := Lib.hid ((hb.block _ (lt_of_block HR.out)).trans HR.out)
  have HBD' := Lib.hid (HBD.out.below hb)
  have HPS' := Lib.hid (HPS.out.below hb)
  have HCV' := Lib.hid (HCV.out.below hb)
  have HSU' := Lib.hid (HSU.out.below hb)
  have HQ' := Lib.hid (HQ.out.below hb)
  clear HB
  have HB := HB'
  clear HB'
  clear HP
  have HP := HP'
  clear HP'
  clear HR
  have HR := HR'
  clear HR'
  clear HBD
  have HBD := HBD'
  clear HBD'
  clear HPS
  have HPS := HPS'
  clear HPS'
  clear HCV
  have HCV := HCV'
  clear HCV'
  clear HSU
  have HSU := HSU'
  clear HSU'
  clear HQ
  have HQ := HQ'
  clear HQ'
  clear hb
  obtain ⟨ua, uc, rfl⟩ := own_slice hown
  have HUU := Lib.hid (intsAt_own hown (by simp))
  clear hown
  clear HQ
  go_wp2_with fail
  have hcall := lrow_any 1 w15
  refine hcall.mono ?_
  clear hcall
  rintro e w16 ⟨g3, rfl, hP, hb⟩
  have HB' := Lib.hid (HB.out.trans (hb.mono HB.out.size))
  have HP' := Lib.hid (HP.out.below hb)
  have HR' := Lib.hid ((hb.block _ (lt_of_block HR.out)).trans HR.out)
  have HBD' := Lib.hid (HBD.out.below hb)
  have HPS' := Lib.hid (HPS.out.below hb)
  have HCV' := Lib.hid (HCV.out.below hb)
  have HSU' := Lib.hid (HSU.out.below hb)
  have HUU' := Lib.hid (HUU.out.below hb)
  clear HB
  have HB := HB'
  clear HB'
  clear HP
  have HP := HP'
  clear HP'
  clear HR
  have HR := HR'
  clear HR'
  clear HBD
  have HBD := HBD'
  clear HBD'
  clear HPS
  have HPS := HPS'
  clear HPS'
  clear HCV
  have HCV := HCV'
  clear HCV'
  clear HSU
  have HSU := HSU'
  clear HSU'
  clear HUU
  have HUU := HUU'
  clear HUU'
  have HQ := Lib.hid (hP)
  clear hb
  clear hP
  go_wp2_with fail
  have hcall := Bounds_any (rowR 1) _ _ HQ.out
  rw [a_down] at hcall
  simp only at hcall
  refine hcall.mono ?_
  clear hcall
  rintro e w17 ⟨v, rfl, hown, hb⟩
  have HB' := Lib.hid (HB.out.trans (hb.mono HB.out.size))
  have HP' := Lib.hid (HP.out.below hb)
  have HR' := Lib.hid ((hb.block _ (lt_of_block HR.out)).trans HR.out)
  have HBD' := Lib.hid (HBD.out.below hb)
  have HPS' := Lib.hid (HPS.out.below hb)
  have HCV' := Lib.hid (HCV.out.below hb)
  have HSU' := Lib.hid (HSU.out.below hb)
  have HUU' := Lib.hid (HUU.out.below hb)
  have HQ' := Lib.hid (HQ.out.below hb)
  clear HB
  have HB := HB'
  clear HB'
  clear HP
  have HP := HP'
  clear HP'
  clear HR
  have HR := HR'
  clear HR'
  clear HBD
  have HBD := HBD'
  clear HBD'
  clear HPS
  have HPS := HPS'
  clear HPS'
  clear HCV
  have HCV := HCV'
  clear HCV'
  clear HSU
  have HSU := HSU'
  clear HSU'
  clear HUU
  have HUU := HUU'
  clear HUU'
  clear HQ
  have HQ := HQ'
  clear HQ'
  clear hb
  obtain ⟨da, dc, rfl⟩ := own_slice hown
  clear hown
  clear HQ HP HR
  go_wp2_with fail
  have hcall := lspan_any 7 8 w17
  refine hcall.mono ?_
  clear hcall
  rintro e w18 ⟨rfl, hb⟩
  have HB' := Lib.hid (HB.out.trans (hb.mono HB.out.size))
  have HBD' := Lib.hid (HBD.out.below hb)
  have HPS' := Lib.hid (HPS.out.below hb)
  have HCV' := Lib.hid (HCV.out.below hb)
  have HSU' := Lib.hid (HSU.out.below hb)
  have HUU' := Lib.hid (HUU.out.below hb)
  clear HB
  have HB := HB'
  clear HB'
  clear HBD
  have HBD := HBD'
  clear HBD'
  clear HPS
  have HPS := HPS'
  clear HPS'
  clear HCV
  have HCV := HCV'
  clear HCV'
  clear HSU
  have HSU := HSU'
  clear HSU'
  clear HUU
  have HUU := HUU'
  clear HUU'
  clear hb
  go_wp2_with fail
  have hcall := lspan_any 9 10 w18
  refine hcall.mono ?_
  clear hcall
  rintro e w19 ⟨rfl, hb⟩
  have HB' := Lib.hid (HB.out.trans (hb.mono HB.out.size))
  have HBD' := Lib.hid (HBD.out.below hb)
  have HPS' := Lib.hid (HPS.out.below hb)
  have HCV' := Lib.hid (HCV.out.below hb)
  have HSU' := Lib.hid (HSU.out.below hb)
  have HUU' := Lib.hid (HUU.out.below hb)
  clear HB
  have HB := HB'
  clear HB'
  clear HBD
  have HBD := HBD'
  clear HBD'
  clear HPS
  have HPS := HPS'
  clear HPS'
  clear HCV
  have HCV := HCV'
  clear HCV'
  clear HSU
  have HSU := HSU'
  clear HSU'
  clear HUU
  have HUU := HUU'
  clear HUU'
  clear hb
  go_wp2_with fail
  have hcall := lspan_any 7 8 w19
  refine hcall.mono ?_
  clear hcall
  rintro e w20 ⟨rfl, hb⟩
  have HB' := Lib.hid (HB.out.trans (hb.mono HB.out.size))
  have HBD' := Lib.hid (HBD.out.below hb)
  have HPS' := Lib.hid (HPS.out.below hb)
  have HCV' := Lib.hid (HCV.out.below hb)
  have HSU' := Lib.hid (HSU.out.below hb)
  have HUU' := Lib.hid (HUU.out.below hb)
  clear HB
  have HB := HB'
  clear HB'
  clear HBD
  have HBD := HBD'
  clear HBD'
  clear HPS
  have HPS := HPS'
  clear HPS'
  clear HCV
  have HCV := HCV'
  clear HCV'
  clear HSU
  have HSU := HSU'
  clear HSU'
  clear HUU
  have HUU := HUU'
  clear HUU'
  clear hb
  go_wp2_with fail
  have hcall := lspan_any 5 6 w20
  refine hcall.mono ?_
  clear hcall
  rintro e w21 ⟨rfl, hb⟩
  have HB' := Lib.hid (HB.out.trans (hb.mono HB.out.size))
  have HBD' := Lib.hid (HBD.out.below hb)
  have HPS' := Lib.hid (HPS.out.below hb)
  have HCV' := Lib.hid (HCV.out.below hb)
  have HSU' := Lib.hid (HSU.out.below hb)
  have HUU' := Lib.hid (HUU.out.below hb)
  clear HB
  have HB := HB'
  clear HB'
  clear HBD
  have HBD := HBD'
  clear HBD'
  clear HPS
  have HPS := HPS'
  clear HPS'
  clear HCV
  have HCV := HCV'
  clear HCV'
  clear HSU
  have HSU := HSU'
  clear HSU'
  clear HUU
  have HUU := HUU'
  clear HUU'
  clear hb
  go_wp2_with fail
  have hb := (Below.refl w21.heap.size w21).alloc (Nat.le_refl _) (Obj.cells #[.int .i64 7, .int .i64 8, .int .i64 9, .int .i64 10, .int .i64 7, .int .i64 8, .int .i64 5, .int .i64 6] 56)
  have HX : Hid (PassAt (w21.alloc (Obj.cells #[.int .i64 7, .int .i64 8, .int .i64 9, .int .i64 10, .int .i64 7, .int .i64 8, .int .i64 5, .int .i64 6] 56)) (.slice (some ⟨w21.heap.size, 0, none⟩) 4 4) [(7, 8), (9, 10), (7, 8), (5, 6)]) := pass_new w21 [(7, 8), (9, 10), (7, 8), (5, 6)] 56 (by simp)
  have hz22 : (w21.alloc (Obj.cells #[.int .i64 7, .int .i64 8, .int .i64 9, .int .i64 10, .int .i64 7, .int .i64 8, .int .i64 5, .int .i64 6] 56)).heap.size = w21.heap.size + 1 := by simp
  have HB' := Lib.hid (HB.out.trans (hb.mono HB.out.size))
  have HBD' := Lib.hid (HBD.out.below hb)
  have HPS' := Lib.hid (HPS.out.below hb)
  have HCV' := Lib.hid (HCV.out.below hb)
  have HSU' := Lib.hid (HSU.out.below hb)
  have HUU' := Lib.hid (HUU.out.below hb)
  clear HB
  have HB := HB'
  clear HB'
  clear HBD
  have HBD := HBD'
  clear HBD'
  clear HPS
  have HPS := HPS'
  clear HPS'
  clear HCV
  have HCV := HCV'
  clear HCV'
  clear HSU
  have HSU := HSU'
  clear HSU'
  clear HUU
  have HUU := HUU'
  clear HUU'
  clear hb
  generalize w21.alloc (Obj.cells #[.int .i64 7, .int .i64 8, .int .i64 9, .int .i64 10, .int .i64 7, .int .i64 8, .int .i64 5, .int .i64 6] 56) = w22 at *
  have hcall := spans_eq _ _ [(7, 8), (9, 10), (7, 8), (5, 6)] _ HBD.out HX.out
  refine hcall.mono ?_
  clear hcall
  rintro e w23 ⟨rfl, hb⟩
  have HB' := Lib.hid (HB.out.trans (hb.mono HB.out.size))
  have HBD' := Lib.hid (HBD.out.below hb)
  have HPS' := Lib.hid (HPS.out.below hb)
  have HCV' := Lib.hid (HCV.out.below hb)
  have HSU' := Lib.hid (HSU.out.below hb)
  have HUU' := Lib.hid (HUU.out.below hb)
  have HX' := Lib.hid (HX.out.below hb)
  clear HB
  have HB := HB'
  clear HB'
  clear HBD
  have HBD := HBD'
  clear HBD'
  clear HPS
  have HPS := HPS'
  clear HPS'
  clear HCV
  have HCV := HCV'
  clear HCV'
  clear HSU
  have HSU := HSU'
  clear HSU'
  clear HUU
  have HUU := HUU'
  clear HUU'
  clear HX
  have HX := HX'
  clear HX'
  clear hb
  clear HX HBD
  go_wp2_with fail
  have hcall := lpass_any 0 1 w23
  refine hcall.mono ?_
  clear hcall
  rintro e w24 ⟨rfl, hb⟩
  have HB' := Lib.hid (HB.out.trans (hb.mono HB.out.size))
  have HPS' := Lib.hid (HPS.out.below hb)
  have HCV' := Lib.hid (HCV.out.below hb)
  have HSU' := Lib.hid (HSU.out.below hb)
  have HUU' := Lib.hid (HUU.out.below hb)
  clear HB
  have HB := HB'
  clear HB'
  clear HPS
  have HPS := HPS'
  clear HPS'
  clear HCV
  have HCV := HCV'
  clear HCV'
  clear HSU
  have HSU := HSU'
  clear HSU'
  clear HUU
  have HUU := HUU'
  clear HUU'
  clear hb
  go_wp2_with fail
  have hcall := lpass_any 3 3 w24
  refine hcall.mono ?_
  clear hcall
  rintro e w25 ⟨rfl, hb⟩
  have HB' := Lib.hid (HB.out.trans (hb.mono HB.out.size))
  have HPS' := Lib.hid (HPS.out.below hb)
  have HCV' := Lib.hid (HCV.out.below hb)
  have HSU' := Lib.hid (HSU.out.below hb)
  have HUU' := Lib.hid (HUU.out.below hb)
  clear HB
  have HB := HB'
  clear HB'
  clear HPS
  have HPS := HPS'
  clear HPS'
  clear HCV
  have HCV := HCV'
  clear HCV'
  clear HSU
  have HSU := HSU'
  clear HSU'
  clear HUU
  have HUU := HUU'
  clear HUU'
  clear hb
  go_wp2_with fail
  have hcall := lpass_any 0 0 w25
  refine hcall.mono ?_
  clear hcall
  rintro e w26 ⟨rfl, hb⟩
  have HB' := Lib.hid (HB.out.trans (hb.mono HB.out.size))
  have HPS' := Lib.hid (HPS.out.below hb)
  have HCV' := Lib.hid (HCV.out.below hb)
  have HSU' := Lib.hid (HSU.out.below hb)
  have HUU' := Lib.hid (HUU.out.below hb)
  clear HB
  have HB := HB'
  clear HB'
  clear HPS
  have HPS := HPS'
  clear HPS'
  clear HCV
  have HCV := HCV'
  clear HCV'
  clear HSU
  have HSU := HSU'
  clear HSU'
  clear HUU
  have HUU := HUU'
  clear HUU'
  clear hb
  go_wp2_with fail
  have hcall := lpass_any 3 3 w26
  refine hcall.mono ?_
  clear hcall
  rintro e w27 ⟨rfl, hb⟩
  have HB' := Lib.hid (HB.out.trans (hb.mono HB.out.size))
  have HPS' := Lib.hid (HPS.out.below hb)
  have HCV' := Lib.hid (HCV.out.below hb)
  have HSU' := Lib.hid (HSU.out.below hb)
  have HUU' := Lib.hid (HUU.out.below hb)
  clear HB
  have HB := HB'
  clear HB'
  clear HPS
  have HPS := HPS'
  clear HPS'
  clear HCV
  have HCV := HCV'
  clear HCV'
  clear HSU
  have HSU := HSU'
  clear HSU'
  clear HUU
  have HUU := HUU'
  clear HUU'
  clear hb
  go_wp2_with fail
  have hcall := lpass_any 3 3 w27
  refine hcall.mono ?_
  clear hcall
  rintro e w28 ⟨rfl, hb⟩
  have HB' := Lib.hid (HB.out.trans (hb.mono HB.out.size))
  have HPS' := Lib.hid (HPS.out.below hb)
  have HCV' := Lib.hid (HCV.out.below hb)
  have HSU' := Lib.hid (HSU.out.below hb)
  have HUU' := Lib.hid (HUU.out.below hb)
  clear HB
  have HB := HB'
  clear HB'
  clear HPS
  have HPS := HPS'
  clear HPS'
  clear HCV
  have HCV := HCV'
  clear HCV'
  clear HSU
  have HSU := HSU'
  clear HSU'
  clear HUU
  have HUU := HUU'
  clear HUU'
  clear hb
  go_wp2_with fail
  have hcall := lpass_any 3 3 w28
  refine hcall.mono ?_
  clear hcall
  rintro e w29 ⟨rfl, hb⟩
  have HB' := Lib.hid (HB.out.trans (hb.mono HB.out.size))
  have HPS' := Lib.hid (HPS.out.below hb)
  have HCV' := Lib.hid (HCV.out.below hb)
  have HSU' := Lib.hid (HSU.out.below hb)
  have HUU' := Lib.hid (HUU.out.below hb)
  clear HB
  have HB := HB'
  clear HB'
  clear HPS
  have HPS := HPS'
  clear HPS'
  clear HCV
  have HCV := HCV'
  clear HCV'
  clear HSU
  have HSU := HSU'
  clear HSU'
  clear HUU
  have HUU := HUU'
  clear HUU'
  clear hb
  go_wp2_with fail
  have hcall := lpass_any 3 3 w29
  refine hcall.mono ?_
  clear hcall
  rintro e w30 ⟨rfl, hb⟩
  have HB' := Lib.hid (HB.out.trans (hb.mono HB.out.size))
  have HPS' := Lib.hid (HPS.out.below hb)
  have HCV' := Lib.hid (HCV.out.below hb)
  have HSU' := Lib.hid (HSU.out.below hb)
  have HUU' := Lib.hid (HUU.out.below hb)
  clear HB
  have HB := HB'
  clear HB'
  clear HPS
  have HPS := HPS'
  clear HPS'
  clear HCV
  have HCV := HCV'
  clear HCV'
  clear HSU
  have HSU := HSU'
  clear HSU'
  clear HUU
  have HUU := HUU'
  clear HUU'
  clear hb
  go_wp2_with fail
  have hcall := lpass_any 3 3 w30
  refine hcall.mono ?_
  clear hcall
  rintro e w31 ⟨rfl, hb⟩
  have HB' := Lib.hid (HB.out.trans (hb.mono HB.out.size))
  have HPS' := Lib.hid (HPS.out.below hb)
  have HCV' := Lib.hid (HCV.out.below hb)
  have HSU' := Lib.hid (HSU.out.below hb)
  have HUU' := Lib.hid (HUU.out.below hb)
  clear HB
  have HB := HB'
  clear HB'
  clear HPS
  have HPS := HPS'
  clear HPS'
  clear HCV
  have HCV := HCV'
  clear HCV'
  clear HSU
  have HSU := HSU'
  clear HSU'
  clear HUU
  have HUU := HUU'
  clear HUU'
  clear hb
  go_wp2_with fail
  have hb := (Below.refl w31.heap.size w31).alloc (Nat.le_refl _) (Obj.cells #[.int .i64 0, .int .i64 1, .int .i64 3, .int .i64 3, .int .i64 0, .int .i64 0, .int .i64 3, .int .i64 3, .int .i64 3, .int .i64 3, .int .i64 3, .int .i64 3, .int .i64 3, .int .i64 3, .int .i64 3, .int .i64 3] 90)
  have HX : Hid (PassAt (w31.alloc (Obj.cells #[.int .i64 0, .int .i64 1, .int .i64 3, .int .i64 3, .int .i64 0, .int .i64 0, .int .i64 3, .int .i64 3, .int .i64 3, .int .i64 3, .int .i64 3, .int .i64 3, .int .i64 3, .int .i64 3, .int .i64 3, .int .i64 3] 90)) (.slice (some ⟨w31.heap.size, 0, none⟩) 8 8) [(0, 1), (3, 3), (0, 0), (3, 3), (3, 3), (3, 3), (3, 3), (3, 3)]) := pass_new w31 [(0, 1), (3, 3), (0, 0), (3, 3), (3, 3), (3, 3), (3, 3), (3, 3)] 90 (by simp)
  have hz32 : (w31.alloc (Obj.cells #[.int .i64 0, .int .i64 1, .int .i64 3, .int .i64 3, .int .i64 0, .int .i64 0, .int .i64 3, .int .i64 3, .int .i64 3, .int .i64 3, .int .i64 3, .int .i64 3, .int .i64 3, .int .i64 3, .int .i64 3, .int .i64 3] 90)).heap.size = w31.heap.size + 1 := by simp
  have HB' := Lib.hid (HB.out.trans (hb.mono HB.out.size))
  have HPS' := Lib.hid (HPS.out.below hb)
  have HCV' := Lib.hid (HCV.out.below hb)
  have HSU' := Lib.hid (HSU.out.below hb)
  have HUU' := Lib.hid (HUU.out.below hb)
  clear HB
  have HB := HB'
  clear HB'
  clear HPS
  have HPS := HPS'
  clear HPS'
  clear HCV
  have HCV := HCV'
  clear HCV'
  clear HSU
  have HSU := HSU'
  clear HSU'
  clear HUU
  have HUU := HUU'
  clear HUU'
  clear hb
  generalize w31.alloc (Obj.cells #[.int .i64 0, .int .i64 1, .int .i64 3, .int .i64 3, .int .i64 0, .int .i64 0, .int .i64 3, .int .i64 3, .int .i64 3, .int .i64 3, .int .i64 3, .int .i64 3, .int .i64 3, .int .i64 3, .int .i64 3, .int .i64 3] 90) = w32 at *
  have hcall := same_eq _ _ [(0, 1), (3, 3), (0, 0), (3, 3), (3, 3), (3, 3), (3, 3), (3, 3)] _ HPS.out HX.out
  refine hcall.mono ?_
  clear hcall
  rintro e w33 ⟨rfl, hb⟩
  have HB' := Lib.hid (HB.out.trans (hb.mono HB.out.size))
  have HPS' := Lib.hid (HPS.out.below hb)
  have HCV' := Lib.hid (HCV.out.below hb)
  have HSU' := Lib.hid (HSU.out.below hb)
  have HUU' := Lib.hid (HUU.out.below hb)
  have HX' := Lib.hid (HX.out.below hb)
  clear HB
  have HB := HB'
  clear HB'
  clear HPS
  have HPS := HPS'
  clear HPS'
  clear HCV
  have HCV := HCV'
  clear HCV'
  clear HSU
  have HSU := HSU'
  clear HSU'
  clear HUU
  have HUU := HUU'
  clear HUU'
  clear HX
  have HX := HX'
  clear HX'
  clear hb
  clear HX HPS
  go_wp2_with fail
  have hb := (Below.refl w33.heap.size w33).alloc (Nat.le_refl _) (Obj.cells #[.int .i64 1, .int .i64 1, .int .i64 0, .int .i64 1] 3)
  have HX : Hid (IntsAt (w33.alloc (Obj.cells #[.int .i64 1, .int .i64 1, .int .i64 0, .int .i64 1] 3)) (.slice (some ⟨w33.heap.size, 0, none⟩) 4 4) [1, 1, 0, 1]) := ints_new w33 [1, 1, 0, 1] 3 (by simp)
  have hz34 : (w33.alloc (Obj.cells #[.int .i64 1, .int .i64 1, .int .i64 0, .int .i64 1] 3)).heap.size = w33.heap.size + 1 := by simp
  have HB' := Lib.hid (HB.out.trans (hb.mono HB.out.size))
  have HCV' := Lib.hid (HCV.out.below hb)
  have HSU' := Lib.hid (HSU.out.below hb)
  have HUU' := Lib.hid (HUU.out.below hb)
  clear HB
  have HB := HB'
  clear HB'
  clear HCV
  have HCV := HCV'
  clear HCV'
  clear HSU
  have HSU := HSU'
  clear HSU'
  clear HUU
  have HUU := HUU'
  clear HUU'
  clear hb
  generalize w33.alloc (Obj.cells #[.int .i64 1, .int .i64 1, .int .i64 0, .int .i64 1] 3) = w34 at *
  have hcall := ints_eq _ _ [1, 1, 0, 1] _ HCV.out HX.out
  refine hcall.mono ?_
  clear hcall
  rintro e w35 ⟨rfl, hb⟩
  have HB' := Lib.hid (HB.out.trans (hb.mono HB.out.size))
  have HCV' := Lib.hid (HCV.out.below hb)
  have HSU' := Lib.hid (HSU.out.below hb)
  have HUU' := Lib.hid (HUU.out.below hb)
  have HX' := Lib.hid (HX.out.below hb)
  clear HB
  have HB := HB'
  clear HB'
  clear HCV
  have HCV := HCV'
  clear HCV'
  clear HSU
  have HSU := HSU'
  clear HSU'
  clear HUU
  have HUU := HUU'
  clear HUU'
  clear HX
  have HX := HX'
  clear HX'
  clear hb
  clear HX HCV
  go_wp2_with fail
  have hb := (Below.refl w35.heap.size w35).alloc (Nat.le_refl _) (Obj.cells #[.int .i64 8, .int .i64 9, .int .i64 7, .int .i64 6] 3)
  have HX : Hid (IntsAt (w35.alloc (Obj.cells #[.int .i64 8, .int .i64 9, .int .i64 7, .int .i64 6] 3)) (.slice (some ⟨w35.heap.size, 0, none⟩) 4 4) [8, 9, 7, 6]) := ints_new w35 [8, 9, 7, 6] 3 (by simp)
  have hz36 : (w35.alloc (Obj.cells #[.int .i64 8, .int .i64 9, .int .i64 7, .int .i64 6] 3)).heap.size = w35.heap.size + 1 := by simp
  have HB' := Lib.hid (HB.out.trans (hb.mono HB.out.size))
  have HSU' := Lib.hid (HSU.out.below hb)
  have HUU' := Lib.hid (HUU.out.below hb)
  clear HB
  have HB := HB'
  clear HB'
  clear HSU
  have HSU := HSU'
  clear HSU'
  clear HUU
  have HUU := HUU'
  clear HUU'
  clear hb
  generalize w35.alloc (Obj.cells #[.int .i64 8, .int .i64 9, .int .i64 7, .int .i64 6] 3) = w36 at *
  have hcall := ints_eq _ _ [8, 9, 7, 6] _ HSU.out HX.out
  refine hcall.mono ?_
  clear hcall
  rintro e w37 ⟨rfl, hb⟩
  have HB' := Lib.hid (HB.out.trans (hb.mono HB.out.size))
  have HSU' := Lib.hid (HSU.out.below hb)
  have HUU' := Lib.hid (HUU.out.below hb)
  have HX' := Lib.hid (HX.out.below hb)
  clear HB
  have HB := HB'
  clear HB'
  clear HSU
  have HSU := HSU'
  clear HSU'
  clear HUU
  have HUU := HUU'
  clear HUU'
  clear HX
  have HX := HX'
  clear HX'
  clear hb
  clear HX HSU
  go_wp2_with fail
  have hb := (Below.refl w37.heap.size w37).alloc (Nat.le_refl _) (Obj.cells #[.int .i64 10, .int .i64 10] 3)
  have HX : Hid (IntsAt (w37.alloc (Obj.cells #[.int .i64 10, .int .i64 10] 3)) (.slice (some ⟨w37.heap.size, 0, none⟩) 2 2) [10, 10]) := ints_new w37 [10, 10] 3 (by simp)
  have hz38 : (w37.alloc (Obj.cells #[.int .i64 10, .int .i64 10] 3)).heap.size = w37.heap.size + 1 := by simp
  have HB' := Lib.hid (HB.out.trans (hb.mono HB.out.size))
  have HUU' := Lib.hid (HUU.out.below hb)
  clear HB
  have HB := HB'
  clear HB'
  clear HUU
  have HUU := HUU'
  clear HUU'
  clear hb
  generalize w37.alloc (Obj.cells #[.int .i64 10, .int .i64 10] 3) = w38 at *
  have hcall := ints_eq _ _ [10, 10] _ HUU.out HX.out
  refine hcall.mono ?_
  clear hcall
  rintro e w39 ⟨rfl, hb⟩
  have HB' := Lib.hid (HB.out.trans (hb.mono HB.out.size))
  have HUU' := Lib.hid (HUU.out.below hb)
  have HX' := Lib.hid (HX.out.below hb)
  clear HB
  have HB := HB'
  clear HB'
  clear HUU
  have HUU := HUU'
  clear HUU'
  clear HX
  have HX := HX'
  clear HX'
  clear hb
  clear HX HUU
  go_wp2_with fail
  go_ret
  exact ⟨rfl, HB.out⟩
end Go.Proofs.Ytnciomoapajonaa
