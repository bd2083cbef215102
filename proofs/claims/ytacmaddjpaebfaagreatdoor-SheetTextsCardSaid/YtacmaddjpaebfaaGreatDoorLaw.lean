/- The small functions of the statements of package sheet. -/
import Derived.Test.YtacmaddjpaebfaaGreatDoorEw
set_option linter.unusedSimpArgs false
set_option linter.unusedVariables false
namespace Go.Proofs.YtacmaddjpaebfaaGreatDoor
open Go Go.RowKit Hs

set_option maxHeartbeats 400000 in
theorem lspan_any (lo hi : Int) (w : World) :
    Calls Tryz.prog 52 #[.int .i64 lo, .int .i64 hi] w fun e w' => e = .returned (spanV lo hi) ∧ Below w.heap.size w w' := by
  go_enter Tryz.func52, Tryz.ntmps52
  go_wp2
  exact bodyPost_ret (v := spanV lo hi) (by simp [results, Tryz.results52, go_sem]) rfl ⟨rfl, by go_grown⟩

set_option maxHeartbeats 400000 in
theorem lnote_any (x : Note) (w : World) :
    Calls Tryz.prog 47 #[.int .i64 x.k, .int .i64 x.a, .int .i64 x.b, .int .i64 x.lo, .int .i64 x.hi] w fun e w' => e = .returned (noteV x) ∧ Below w.heap.size w w' := by
  obtain ⟨k, a, b, lo, hi⟩ := x
  have hB0 : Below w.heap.size w (w.alloc (Obj.cells #[.int .i64 0, .int .i64 0, .int .i64 0, .int .i64 0, .int .i64 0] 67)) := by go_grown
  have h0 := heap_alloc_new w (Obj.cells #[.int .i64 0, .int .i64 0, .int .i64 0, .int .i64 0, .int .i64 0] 67)
  have H0 := Lib.hid h0
  clear h0
  go_enter Tryz.func47, Tryz.ntmps47
  go_wp2_with fail
  refine (lspan_any lo hi _).mono ?_
  rintro e w1 ⟨rfl, hb⟩
  have hn := (hb.block _ (lt_of_block H0.out)).trans H0.out
  have c0 := cellOf hn 0 _ rfl
  have c1 := cellOf hn 1 _ rfl
  have c2 := cellOf hn 2 _ rfl
  have c3 := cellOf hn 3 _ rfl
  have c4 := cellOf hn 4 _ rfl
  have f0 := frozen_of_row _ _ 0 _ _ hn
  have f1 := frozen_of_row _ _ 1 _ _ hn
  have f2 := frozen_of_row _ _ 2 _ _ hn
  have f3 := frozen_of_row _ _ 3 _ _ hn
  have f4 := frozen_of_row _ _ 4 _ _ hn
  have hB := hB0.trans (hb.mono hB0.size)
  have HN := Lib.hid hn
  clear hb hn hB0
  go_wp2
  have hC := heap_setCell_same _ w.heap.size 4 _ _ (.int .i64 hi) (heap_setCell_same _ w.heap.size 3 _ _ (.int .i64 lo) (heap_setCell_same _ w.heap.size 2 _ _ (.int .i64 b) (heap_setCell_same _ w.heap.size 1 _ _ (.int .i64 a) (heap_setCell_same _ w.heap.size 0 _ _ (.int .i64 k) HN.out))))
  refine bodyPost_ret (results_cell_row rfl _ _ w.heap.size 67 _ (0, 0) _ rfl hC Tryz.underlying67 rfl (by kernel_rfl)) rfl ⟨rfl, ?_⟩
  exact ((((hB.setCell (Nat.le_refl _) _).setCell (Nat.le_refl _) _).setCell (Nat.le_refl _) _).setCell (Nat.le_refl _) _).setCell (Nat.le_refl _) _

theorem text_any (w : World) : Calls Tryz.prog 65 #[] w fun e w' => e = .returned (.string (bs exText)) ∧ w = w' := by
  go_enter Tryz.func65, Tryz.ntmps65
  go_wp2
  go_ret
  exact ⟨rfl, rfl⟩

/-- A slice of one note in a new block. -/
def OneNote (n0 : Nat) (w : World) (v : Value) (x : Note) : Prop :=
  ∃ bk, v = .slice (some ⟨bk, 0, none⟩) 1 1 ∧ n0 ≤ bk ∧ w.heap[bk]? = some (.cells #[.int .i64 x.k, .int .i64 x.a, .int .i64 x.b, .int .i64 x.lo, .int .i64 x.hi] 67 (0, 0))

set_option maxHeartbeats 400000 in
theorem gentle_any (w : World) : Calls Tryz.prog 63 #[] w fun e w' => ∃ v, e = .returned v ∧ OneNote w.heap.size w' v exGentle ∧ Below w.heap.size w w' := by
  go_enter Tryz.func63, Tryz.ntmps63
  go_wp2_with fail
  refine (lnote_any exGentle _).mono ?_
  rintro e w1 ⟨rfl, hb⟩
  go_wp2
  go_ret
  exact ⟨_, rfl, ⟨w1.heap.size, rfl, hb.size, heap_alloc_new _ _⟩, hb.alloc hb.size _⟩
set_option maxHeartbeats 400000 in
theorem steep_any (w : World) : Calls Tryz.prog 64 #[] w fun e w' => ∃ v, e = .returned v ∧ OneNote w.heap.size w' v exSteep ∧ Below w.heap.size w w' := by
  go_enter Tryz.func64, Tryz.ntmps64
  go_wp2_with fail
  refine (lnote_any exSteep _).mono ?_
  rintro e w1 ⟨rfl, hb⟩
  go_wp2
  go_ret
  exact ⟨_, rfl, ⟨w1.heap.size, rfl, hb.size, heap_alloc_new _ _⟩, hb.alloc hb.size _⟩
end Go.Proofs.YtacmaddjpaebfaaGreatDoor
