/- The sheets of the statements of package sheet. -/
import Derived.Test.YtacmaddjpaebfaaGreatDoorLaw
import Derived.Laws.AppendOwnNone
set_option linter.unusedSimpArgs false
set_option linter.unusedVariables false
namespace Go.Proofs.YtacmaddjpaebfaaGreatDoor
open Go Go.RowKit Hs

set_option maxRecDepth 100000 in
set_option maxHeartbeats 2000000 in
theorem lsheet_one (w : World) (v : Value) (x : Note) (hv : OneNote 0 w v x) :
    Calls Tryz.prog 62 #[v] w fun e w' => ∃ pv nv, e = .returned (.agg #[.int .i64 100, pv, nv]) ∧ StrsAt w'.heap.size w' pv exPts ∧ NotesAt w'.heap.size w' nv (exNotes ++ [x]) ∧ Below w.heap.size w w' := by
  obtain ⟨i0, hi⟩ := info_of_underlying Tryz.underlying67
  have HI : Hid (i0.zero = some (.agg #[.int .i64 0, .int .i64 0, .int .i64 0, .int .i64 0, .int .i64 0]) ∧ i0.size = 5 ∧ i0.bytes = 40) := by
    have h := noteInfo
    rw [hi] at h
    simp at h
    exact h
  obtain ⟨bv, rfl, _, hbv⟩ := hv
  have HBV := Lib.hid hbv
  clear hbv
  have hB0 : Below w.heap.size w ((w.alloc (Obj.cells #[.int .i64 0, .slice none 0 0, .slice none 0 0] 25)).alloc (Obj.cells (exPts.map Value.string).toArray 9)) := by go_grown
  have h0 := heap_alloc2_old w (Obj.cells #[.int .i64 0, .slice none 0 0, .slice none 0 0] 25) (Obj.cells (exPts.map Value.string).toArray 9)
  have hp0 := heap_alloc2_new w (Obj.cells #[.int .i64 0, .slice none 0 0, .slice none 0 0] 25) (Obj.cells (exPts.map Value.string).toArray 9)
  have H0 := Lib.hid h0
  have HP0 := Lib.hid hp0
  have HB0 := Lib.hid hB0
  clear h0 hp0 hB0
  go_enter Tryz.func62, Tryz.ntmps62
  go_wp2_with fail
  refine (lnote_any ⟨1, 0, 0, 1180, 1200⟩ _).mono ?_
  rintro e w1 ⟨rfl, hb1⟩
  go_wp2_with fail
  refine (lnote_any ⟨2, 1, 0, 9, 10⟩ _).mono ?_
  rintro e w2 ⟨rfl, hb2⟩
  go_wp2_with fail
  refine (lnote_any ⟨3, 3, 1, 0, 0⟩ _).mono ?_
  rintro e w3 ⟨rfl, hb3⟩
  go_wp2_with fail
  refine (lnote_any ⟨4, 0, 2, 250, 300⟩ _).mono ?_
  rintro e w4 ⟨rfl, hb4⟩
  have hb14 : Below _ _ w4 := ((hb1.trans (hb2.mono hb1.size)).trans (hb3.mono (Nat.le_trans hb1.size hb2.size))).trans (hb4.mono (Nat.le_trans (Nat.le_trans hb1.size hb2.size) hb3.size))
  have hn := (hb14.block _ (lt_of_block H0.out)).trans H0.out
  have hp := (hb14.block _ (lt_of_block HP0.out)).trans HP0.out
  have hB4 : Below w.heap.size w w4 := HB0.out.trans (hb14.mono HB0.out.size)
  have hn1 := lt_of_block hn
  have hp1 := lt_of_block hp
  clear hb1 hb2 hb3 hb4 hb14
  have hown := World.ownsRow_lit (base := w4.heap.size) (e := 67) (size := 5) w4 (notesC exNotes).toArray 4 (Nat.le_refl _) (by unfold maxLen; omega) rfl
  have hB5 := hB4.alloc hB4.size (Obj.cells (notesC exNotes).toArray 67)
  have hn5 := (Below.heap_alloc w4 (Obj.cells (notesC exNotes).toArray 67) _ hn1).trans hn
  have hp5 := (Below.heap_alloc w4 (Obj.cells (notesC exNotes).toArray 67) _ hp1).trans hp
  have hs5 : (w4.alloc (Obj.cells (notesC exNotes).toArray 67)).heap.size = w4.heap.size + 1 := by simp
  have hv5 := (Below.heap_alloc w4 (Obj.cells (notesC exNotes).toArray 67) bv (by have := hB4.size; have := lt_of_block HBV.out; omega)).trans ((hB4.block _ (lt_of_block HBV.out)).trans HBV.out)
  have HV5 := Lib.hid hv5
  have HB5 := Lib.hid hB5
  have HN5 := Lib.hid hn5
  have HP5 := Lib.hid hp5
  clear hn hp hn5 hp5 hB5 hv5
  go_wp2_with (first
    | (at_builtin; refine wpList_append_own _ rfl _ _ 23 rfl w4.heap.size 67 i0 (.agg #[.int .i64 0, .int .i64 0, .int .i64 0, .int .i64 0, .int .i64 0]) 5 40 Tryz.underlying23 hi HI.out.1 HI.out.2.1 HI.out.2.2 rfl (by decide) _ 4 (notesC exNotes) rfl hown ⟨bv, 0, none⟩ 1 1 (noteC x) rfl rfl ?c1 ?c2 ?c3 ?c4 ?c5 ?_))
  case c1 =>
    intro j u hj
    have hadd : (⟨bv, 0, none⟩ : Addr).add j = ⟨bv, j, none⟩ := by unfold Addr.add; split <;> simp_all
    rw [hadd]
    exact cellOf HV5.out j u (by rw [← hj]; simp [noteC, ← Array.getElem?_toList])
  case c2 => intro u hu; simp [noteC] at hu; rcases hu with rfl | rfl | rfl | rfl | rfl <;> rfl
  case c3 => unfold maxLen; omega
  case c4 => omega
  case c5 => simp
  intro v' w6 hown6 hgrow _
  have hB6 : Below w.heap.size w w6 := HB5.out.grown hgrow (by have := hB4.size; simp; omega) (fun k hk => by have := (hown.lt k hk).1; have := hB4.size; omega)
  have hb56 : Below w4.heap.size (w4.alloc (Obj.cells (notesC exNotes).toArray 67)) w6 := (Below.refl _ _).grown hgrow (by simp) (fun k hk => (hown.lt k hk).1)
  have hn6 := (hb56.block _ hn1).trans HN5.out
  have hp6 := (hb56.block _ hp1).trans HP5.out
  clear hgrow hb56 hown
  obtain ⟨sa, sc, rfl⟩ := own_slice hown6
  have c0 := cellOf hn6 0 _ rfl
  have c1 := cellOf hn6 1 _ rfl
  have c2 := cellOf hn6 2 _ rfl
  have f0 := frozen_of_row _ _ 0 _ _ hn6
  have f1 := frozen_of_row _ _ 1 _ _ hn6
  have f2 := frozen_of_row _ _ 2 _ _ hn6
  have HN6 := Lib.hid hn6
  have HP6 := Lib.hid hp6
  have HB6 := Lib.hid hB6
  have HO6 := Lib.hid hown6
  clear hn6 hp6 hB6 hown6
  go_wp2_with fail
  have hC := heap_setCell_same _ w.heap.size 2 _ _ (.slice sa (4 + 1) sc) (heap_setCell_same _ w.heap.size 1 _ _ (.slice (some ⟨w.heap.size + 1, 0, none⟩) 4 4) (heap_setCell_same _ w.heap.size 0 _ _ (.int .i64 100) HN6.out))
  have hP := (heap_setCell_other (((w6).setCell ⟨w.heap.size, 0, none⟩ (.int .i64 100)).setCell ⟨w.heap.size, 1, none⟩ (.slice (some ⟨w.heap.size + 1, 0, none⟩) 4 4)) ⟨w.heap.size, 2, none⟩ (w.heap.size + 1) (.slice sa (4 + 1) sc) (by simp)).trans ((heap_setCell_other ((w6).setCell ⟨w.heap.size, 0, none⟩ (.int .i64 100)) ⟨w.heap.size, 1, none⟩ (w.heap.size + 1) (.slice (some ⟨w.heap.size + 1, 0, none⟩) 4 4) (by simp)).trans ((heap_setCell_other (w6) ⟨w.heap.size, 0, none⟩ (w.heap.size + 1) (.int .i64 100) (by simp)).trans HP6.out))
  have hO := own_other (own_other (own_other HO6.out ⟨w.heap.size, 0, none⟩ (by simp; omega) (.int .i64 100)) ⟨w.heap.size, 1, none⟩ (by simp; omega) (.slice (some ⟨w.heap.size + 1, 0, none⟩) 4 4)) ⟨w.heap.size, 2, none⟩ (by simp; omega) (.slice sa (4 + 1) sc)
  refine bodyPost_ret (results_cell_row rfl _ _ w.heap.size 25 _ (0, 0) _ rfl hC Tryz.underlying25 rfl (by kernel_rfl)) rfl ⟨_, _, rfl, ?_, ?_, ?_⟩
  · refine ⟨by decide, some ⟨w.heap.size + 1, 0, none⟩, 4, rfl, fun _ => ⟨w.heap.size + 1, 0, rfl, lt_of_block hP, fun k hk => ?_⟩⟩
    exact cellOf hP (0 + k) _ (by rw [Nat.zero_add]; simp [hk])
  · exact notesAt_own (l := exNotes ++ [x]) (by rw [notesC_append]; exact hO) (by simp [exNotes])
  · exact ((HB6.out.setCell (Nat.le_refl _) _).setCell (Nat.le_refl _) _).setCell (Nat.le_refl _) _

set_option maxRecDepth 100000 in
set_option maxHeartbeats 2000000 in
theorem lsheet_nil (w : World) :
    Calls Tryz.prog 62 #[.slice none 0 0] w fun e w' => ∃ pv nv, e = .returned (.agg #[.int .i64 100, pv, nv]) ∧ StrsAt w'.heap.size w' pv exPts ∧ NotesAt w'.heap.size w' nv exNotes ∧ Below w.heap.size w w' := by
  obtain ⟨i0, hi⟩ := info_of_underlying Tryz.underlying67
  have HI : Hid (i0.zero = some (.agg #[.int .i64 0, .int .i64 0, .int .i64 0, .int .i64 0, .int .i64 0]) ∧ i0.size = 5 ∧ i0.bytes = 40) := by
    have h := noteInfo
    rw [hi] at h
    simp at h
    exact h
  have hB0 : Below w.heap.size w ((w.alloc (Obj.cells #[.int .i64 0, .slice none 0 0, .slice none 0 0] 25)).alloc (Obj.cells (exPts.map Value.string).toArray 9)) := by go_grown
  have h0 := heap_alloc2_old w (Obj.cells #[.int .i64 0, .slice none 0 0, .slice none 0 0] 25) (Obj.cells (exPts.map Value.string).toArray 9)
  have hp0 := heap_alloc2_new w (Obj.cells #[.int .i64 0, .slice none 0 0, .slice none 0 0] 25) (Obj.cells (exPts.map Value.string).toArray 9)
  have H0 := Lib.hid h0
  have HP0 := Lib.hid hp0
  have HB0 := Lib.hid hB0
  clear h0 hp0 hB0
  go_enter Tryz.func62, Tryz.ntmps62
  go_wp2_with fail
  refine (lnote_any ⟨1, 0, 0, 1180, 1200⟩ _).mono ?_
  rintro e w1 ⟨rfl, hb1⟩
  go_wp2_with fail
  refine (lnote_any ⟨2, 1, 0, 9, 10⟩ _).mono ?_
  rintro e w2 ⟨rfl, hb2⟩
  go_wp2_with fail
  refine (lnote_any ⟨3, 3, 1, 0, 0⟩ _).mono ?_
  rintro e w3 ⟨rfl, hb3⟩
  go_wp2_with fail
  refine (lnote_any ⟨4, 0, 2, 250, 300⟩ _).mono ?_
  rintro e w4 ⟨rfl, hb4⟩
  have hb14 : Below _ _ w4 := ((hb1.trans (hb2.mono hb1.size)).trans (hb3.mono (Nat.le_trans hb1.size hb2.size))).trans (hb4.mono (Nat.le_trans (Nat.le_trans hb1.size hb2.size) hb3.size))
  have hn := (hb14.block _ (lt_of_block H0.out)).trans H0.out
  have hp := (hb14.block _ (lt_of_block HP0.out)).trans HP0.out
  have hB4 : Below w.heap.size w w4 := HB0.out.trans (hb14.mono HB0.out.size)
  have hn1 := lt_of_block hn
  have hp1 := lt_of_block hp
  clear hb1 hb2 hb3 hb4 hb14
  have c0 := cellOf hn 0 _ rfl
  have c1 := cellOf hn 1 _ rfl
  have c2 := cellOf hn 2 _ rfl
  have f0 := frozen_of_row _ _ 0 _ _ hn
  have f1 := frozen_of_row _ _ 1 _ _ hn
  have f2 := frozen_of_row _ _ 2 _ _ hn
  have HN4 := Lib.hid hn
  have HP4 := Lib.hid hp
  have HB4 := Lib.hid hB4
  have hs4 := hB4.size
  clear hn hp hB4
  go_wp2_with fail
  have hC := heap_setCell_same _ w.heap.size 2 _ _ (.slice (some ⟨w4.heap.size, 0, none⟩) 4 4) (heap_setCell_same _ w.heap.size 1 _ _ (.slice (some ⟨w.heap.size + 1, 0, none⟩) 4 4) (heap_setCell_same _ w.heap.size 0 _ _ (.int .i64 100) HN4.out))
  have hP := (heap_setCell_other ((w4.setCell ⟨w.heap.size, 0, none⟩ (.int .i64 100)).setCell ⟨w.heap.size, 1, none⟩ (.slice (some ⟨w.heap.size + 1, 0, none⟩) 4 4)) ⟨w.heap.size, 2, none⟩ (w.heap.size + 1) (.slice (some ⟨w4.heap.size, 0, none⟩) 4 4) (by simp)).trans ((heap_setCell_other (w4.setCell ⟨w.heap.size, 0, none⟩ (.int .i64 100)) ⟨w.heap.size, 1, none⟩ (w.heap.size + 1) (.slice (some ⟨w.heap.size + 1, 0, none⟩) 4 4) (by simp)).trans ((heap_setCell_other w4 ⟨w.heap.size, 0, none⟩ (w.heap.size + 1) (.int .i64 100) (by simp)).trans HP4.out))
  have hB5 := ((HB4.out.setCell (p := ⟨w.heap.size, 0, none⟩) (Nat.le_refl _) (.int .i64 100)).setCell (p := ⟨w.heap.size, 1, none⟩) (Nat.le_refl _) (.slice (some ⟨w.heap.size + 1, 0, none⟩) 4 4)).setCell (p := ⟨w.heap.size, 2, none⟩) (Nat.le_refl _) (.slice (some ⟨w4.heap.size, 0, none⟩) 4 4)
  have hsz : (((w4.setCell ⟨w.heap.size, 0, none⟩ (.int .i64 100)).setCell ⟨w.heap.size, 1, none⟩ (.slice (some ⟨w.heap.size + 1, 0, none⟩) 4 4)).setCell ⟨w.heap.size, 2, none⟩ (.slice (some ⟨w4.heap.size, 0, none⟩) 4 4)).heap.size = w4.heap.size := by simp
  generalize ((w4.setCell ⟨w.heap.size, 0, none⟩ (.int .i64 100)).setCell ⟨w.heap.size, 1, none⟩ (.slice (some ⟨w.heap.size + 1, 0, none⟩) 4 4)).setCell ⟨w.heap.size, 2, none⟩ (.slice (some ⟨w4.heap.size, 0, none⟩) 4 4) = W at *
  have hown := World.ownsRow_lit (base := W.heap.size) (e := 67) (size := 5) W (notesC exNotes).toArray 4 (Nat.le_refl _) (by unfold maxLen; omega) rfl
  have hC5 := (Below.heap_alloc W (Obj.cells (notesC exNotes).toArray 67) _ (lt_of_block hC)).trans hC
  have hP5 := (Below.heap_alloc W (Obj.cells (notesC exNotes).toArray 67) _ (lt_of_block hP)).trans hP
  refine bodyPost_ret (results_cell_row rfl _ _ w.heap.size 25 _ (0, 0) _ rfl hC5 Tryz.underlying25 rfl (by kernel_rfl)) rfl ⟨_, _, rfl, ?_, ?_, ?_⟩
  · refine ⟨by decide, some ⟨w.heap.size + 1, 0, none⟩, 4, rfl, fun _ => ⟨w.heap.size + 1, 0, rfl, lt_of_block hP5, fun k hk => ?_⟩⟩
    exact cellOf hP5 (0 + k) _ (by rw [Nat.zero_add]; simp [hk])
  · have h := notesAt_own (l := exNotes) hown (by simp [exNotes])
    rw [hsz] at h
    exact h
  · exact hB5.alloc hB5.size _
end Go.Proofs.YtacmaddjpaebfaaGreatDoor
