/- Package edge: prices; the comparison of two places. -/
import Derived.Test.YtojdocomkhihoaaHd1
set_option linter.unusedSimpArgs false
set_option linter.unusedVariables false
namespace Go.Proofs.Ytojdocomkhihoaa
open Go Go.RowKit Go.Shelf Ed

set_option maxRecDepth 100000 in
theorem prices_any (c : Cas) (sv ev : Value) (ws : List Int) (w : World) (hC : CasAt w c sv ev) :
    Calls Try.prog 89 #[.agg (lkC c.tol sv ev ws)] w fun e w' => e = .returned (.func (.func 105) #[] #[.pointer (some ⟨w.heap.size + 1 + 1, 0, none⟩), .pointer (some ⟨w.heap.size, 0, none⟩)]) ∧
      PSt c sv ev ws (w.heap.size + 1) (w.heap.size + 1 + 1) w.heap.size w' ∧ Below w.heap.size w w' := by
  have hmm := @run_makeMap Try.prog
  obtain ⟨V, hV, h1, h2, h3, hb, hs⟩ := al3 w (Obj.cells (lkC c.tol sv ev ws) 89) (Obj.map #[] 0) (Obj.cells #[.map (some (w.heap.size + 1))] 151)
  have HV := Lib.hid hV
  have HP : Hid (PSt c sv ev ws (w.heap.size + 1) (w.heap.size + 1 + 1) w.heap.size V) := ⟨h3, h1, hC.below hb, ⟨#[], 0, h2, fun e he => by simp at he⟩⟩
  have HB := Lib.hid hb
  clear hV h1 h2 h3 hb hs hC
  go_enter Try.func89, Try.ntmps89
  go_wp2_with fail
  go_ret
  rw [HV.out]
  exact ⟨rfl, HP.out, HB.out⟩
/-- The function of prices in its box. -/
def PFB (kb lb fb : Nat) (w : World) : Prop := w.heap[fb]? = some (.cells #[(.func (.func 105) #[] #[.pointer (some ⟨kb, 0, none⟩), .pointer (some ⟨lb, 0, none⟩)])] 99 (0, 0))
set_option maxRecDepth 100000 in
set_option maxHeartbeats 4000000 in
theorem cheaper_any (c : Cas) (hv : Valid c) (sv ev : Value) (ws : List Int) (hw : ws.length = 16) (mb kb lb fb : Nat) (x y : List Int) (hxl : x.length = 5) (hyl : y.length = 5) (hx1 : ∀ i, -1000 ≤ x.getD i 0 ∧ x.getD i 0 ≤ 1000) (hy1 : ∀ i, -1000 ≤ y.getD i 0 ∧ y.getD i 0 ≤ 1000) (w : World)
    (hP : PSt c sv ev ws mb kb lb w) (hF : PFB kb lb fb w) :
    Calls Try.prog 92 #[.agg (chC x), .agg (chC y), .pointer (some ⟨fb, 0, none⟩)] w fun e w' => e = .returned (.bool (decide (priceC c ws x < priceC c ws y))) ∧ Bm mb w w' ∧ MapSt c ws mb w' := by
  obtain ⟨W, hW, q1, q2, hb, hs⟩ := al2 w (Obj.cells (chC x) 96) (Obj.cells (chC y) 96)
  have X1 : ChBlk W w.heap.size x := q1
  have Y1 : ChBlk W (w.heap.size + 1) y := q2
  have f1 : W.heap[fb]? = some (.cells #[(.func (.func 105) #[] #[.pointer (some ⟨kb, 0, none⟩), .pointer (some ⟨lb, 0, none⟩)])] 99 (0, 0)) := (hb.block _ (lt_of_block hF)).trans hF
  have HS : Hid (PSt c sv ev ws mb kb lb W ∧ W.cell? ⟨fb, 0, none⟩ = some (.func (.func 105) #[] #[.pointer (some ⟨kb, 0, none⟩), .pointer (some ⟨lb, 0, none⟩)]) ∧ ChBlk W w.heap.size x ∧ ChBlk W (w.heap.size + 1) y ∧ Bm mb w W) := ⟨hP.below hb, cellOf f1 0 _ rfl, X1, Y1, Bm.of_below hb⟩
  have HPR : Hid (∀ (z : List Int) (W' : World), z.length = 5 → (∀ i, -1000 ≤ z.getD i 0 ∧ z.getD i 0 ≤ 1000) → PSt c sv ev ws mb kb lb W' → Calls Try.prog 105 #[.agg (chC z), .pointer (some ⟨kb, 0, none⟩), .pointer (some ⟨lb, 0, none⟩)] W' fun e w' => e = .returned (.int .i64 (priceC c ws z)) ∧ Bm mb W' w' ∧ MapSt c ws mb w') := fun z W' h1 h2 h3 => price_any c hv sv ev ws hw mb kb lb z h1 h2 W' h3
  have HW := Lib.hid hW
  have HXL := Lib.hid hxl
  have HYL := Lib.hid hyl
  have HX1 := Lib.hid hx1
  have HY1 := Lib.hid hy1
  clear hW q1 q2 hb hs X1 Y1 f1 hP hF hv hw hxl hyl hx1 hy1
  obtain ⟨px, hpx⟩ : ∃ p, priceC c ws x = p := ⟨_, rfl⟩
  obtain ⟨py, hpy⟩ : ∃ p, priceC c ws y = p := ⟨_, rfl⟩
  rw [hpx, hpy]
  have HPX := Lib.hid hpx
  have HPY := Lib.hid hpy
  clear hpx hpy
  have hkeep : ∀ w1 w2, PSt c sv ev ws mb kb lb w1 ∧ w1.cell? ⟨fb, 0, none⟩ = some (.func (.func 105) #[] #[.pointer (some ⟨kb, 0, none⟩), .pointer (some ⟨lb, 0, none⟩)]) ∧ ChBlk w1 w.heap.size x ∧ ChBlk w1 (w.heap.size + 1) y ∧ Bm mb w w1 → Bm mb w1 w2 → MapSt c ws mb w2 → PSt c sv ev ws mb kb lb w2 ∧ w2.cell? ⟨fb, 0, none⟩ = some (.func (.func 105) #[] #[.pointer (some ⟨kb, 0, none⟩), .pointer (some ⟨lb, 0, none⟩)]) ∧ ChBlk w2 w.heap.size x ∧ ChBlk w2 (w.heap.size + 1) y ∧ Bm mb w w2 :=
    fun w1 w2 h hb hm => ⟨h.1.bm hb hm, cells_bm hb h.1.map _ _ h.2.1, blk_bm hb h.1.map h.2.2.1, blk_bm hb h.1.map h.2.2.2.1, h.2.2.2.2.trans hb⟩
  have HKP := Lib.hid hkeep
  clear hkeep
  go_enter Try.func92, Try.ntmps92
  go_wp2_with fail
  rw [HW.out]
  refine wp_region_noPanic ?_
  refine wp_region_held_drew (S := (fun W' => PSt c sv ev ws mb kb lb W' ∧ W'.cell? ⟨fb, 0, none⟩ = some (.func (.func 105) #[] #[.pointer (some ⟨kb, 0, none⟩), .pointer (some ⟨lb, 0, none⟩)]) ∧ ChBlk W' w.heap.size x ∧ ChBlk W' (w.heap.size + 1) y ∧ Bm mb w W')) (by kernel_rfl) ?_ (fun hh0 => ?_)
  · try dsimp only
    exact HKP.out _ _ HS.out ⟨rfl, rfl, rfl, Nat.le_refl _, fun _ _ _ => rfl⟩ (HS.out.1.map.keep rfl)
  refine wpAnyH_take (i := 0) (v := ?_) rfl (by as_aux_lemma => kernel_rfl) (by as_aux_lemma => kernel_rfl) (by as_aux_lemma => kernel_rfl) (fun _ _ _ h => h) (Or.inl ⟨by rfl, ?_⟩) (by assumption) ?_
  rotate_left
  · intro w hSw
    try dsimp only at hSw
    go_simp
    try with_reducible rfl
  try simp only [Act.put, List.getElem_toArray, List.getElem_cons_succ, List.getElem_cons_zero, List.setIfInBounds_toArray, List.set_cons_zero, List.set_cons_succ]
  refine wpAnyH_take (i := 1) (v := .agg (chC x)) rfl (by as_aux_lemma => kernel_rfl) (by as_aux_lemma => kernel_rfl) (by as_aux_lemma => kernel_rfl) (fun _ _ _ h => h) (Or.inl ⟨by rfl, ?_⟩) (by assumption) ?_
  · exact fun w hSw => ch_exec (.tmp 3) rfl rfl hSw.2.2.1 HXL.out
  try simp only [Act.put, List.getElem_toArray, List.getElem_cons_succ, List.getElem_cons_zero, List.setIfInBounds_toArray, List.set_cons_zero, List.set_cons_succ]
  refine wpAnyH_take (i := 3) (v := ?_) rfl (by as_aux_lemma => kernel_rfl) (by as_aux_lemma => kernel_rfl) (by as_aux_lemma => kernel_rfl) (fun _ _ _ h => h) (Or.inl ⟨by rfl, ?_⟩) (by assumption) ?_
  rotate_left
  · intro w hSw
    try dsimp only at hSw
    go_simp
    try with_reducible rfl
  try simp only [Act.put, List.getElem_toArray, List.getElem_cons_succ, List.getElem_cons_zero, List.setIfInBounds_toArray, List.set_cons_zero, List.set_cons_succ]
  refine wpAnyH_take (i := 4) (v := .agg (chC y)) rfl (by as_aux_lemma => kernel_rfl) (by as_aux_lemma => kernel_rfl) (by as_aux_lemma => kernel_rfl) (fun _ _ _ h => h) (Or.inl ⟨by rfl, ?_⟩) (by assumption) ?_
  · exact fun w hSw => ch_exec (.tmp 4) rfl rfl hSw.2.2.2.1 HYL.out
  try simp only [Act.put, List.getElem_toArray, List.getElem_cons_succ, List.getElem_cons_zero, List.setIfInBounds_toArray, List.set_cons_zero, List.set_cons_succ]
  refine wpAnyH_ready (rs := [2]) (by as_aux_lemma => kernel_rfl) (by simp) ?_
  refine AllReadyH.cons rfl (fun K hK => ?_) AllReadyH.nil
  go_simp
  refine (HPR.out x _ HXL.out HX1.out hh0.1).mono ?_
  rintro e wg ⟨rfl, hbm, hmp⟩
  rw [HPX.out]
  refine hK.out _ _ ?_ (fun hh1 => ?_)
  · try dsimp only
    exact HKP.out _ _ hh0 hbm hmp
  clear hK K hh0
  try simp only [Act.put, List.getElem_toArray, List.getElem_cons_succ, List.getElem_cons_zero, List.setIfInBounds_toArray, List.set_cons_zero, List.set_cons_succ]
  refine wpAnyH_ready (rs := [5]) (by as_aux_lemma => kernel_rfl) (by simp) ?_
  refine AllReadyH.cons rfl (fun K hK => ?_) AllReadyH.nil
  go_simp
  refine (HPR.out y _ HYL.out HY1.out hh1.1).mono ?_
  rintro e wh ⟨rfl, hbm2, hmp2⟩
  rw [HPY.out]
  refine hK.out _ _ ?_ (fun hh2 => ?_)
  · try dsimp only
    exact HKP.out _ _ hh1 hbm2 hmp2
  clear hK K hh1
  try simp only [Act.put, List.getElem_toArray, List.getElem_cons_succ, List.getElem_cons_zero, List.setIfInBounds_toArray, List.set_cons_zero, List.set_cons_succ]
  refine wpAnyH_take (i := 6) (v := ?_) rfl (by as_aux_lemma => kernel_rfl) (by as_aux_lemma => kernel_rfl) (by as_aux_lemma => kernel_rfl) (fun _ _ _ h => h) (Or.inl ⟨by rfl, ?_⟩) (by assumption) ?_
  rotate_left
  · intro w hSw
    try dsimp only at hSw
    go_simp
    try with_reducible rfl
  try simp only [Act.put, List.getElem_toArray, List.getElem_cons_succ, List.getElem_cons_zero, List.setIfInBounds_toArray, List.set_cons_zero, List.set_cons_succ]
  refine wpAnyH_ready (rs := [7]) (by as_aux_lemma => kernel_rfl) (by simp) ?_
  refine AllReadyH.cons rfl (fun K hK => ?_) AllReadyH.nil
  go_simp
  refine hK.out _ _ ?_ (fun hh3 => ?_)
  · try dsimp only
    exact hh2
  clear hK K hh2
  try simp only [Act.put, List.getElem_toArray, List.getElem_cons_succ, List.getElem_cons_zero, List.setIfInBounds_toArray, List.set_cons_zero, List.set_cons_succ]
  refine wpAnyH_done (by as_aux_lemma => kernel_rfl) ?_ _
  refine NoPanic.normal ?_
  have T1 := Lib.hid hh3
  clear hh3
  go_wp2_with fail
  go_ret
  exact ⟨rfl, T1.out.2.2.2.2, T1.out.1.map⟩
end Go.Proofs.Ytojdocomkhihoaa
