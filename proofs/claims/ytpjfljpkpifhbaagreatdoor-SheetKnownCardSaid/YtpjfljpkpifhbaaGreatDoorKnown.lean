/- SheetKnown: the examples of the document. -/
import Derived.Test.YtpjfljpkpifhbaaGreatDoorAwake
set_option linter.unusedSimpArgs false
set_option linter.unusedVariables false
namespace Go.Proofs.YtpjfljpkpifhbaaGreatDoor
open Go Go.RowKit Hs

set_option maxRecDepth 100000 in
set_option maxHeartbeats 2000000 in
theorem lsheet4 (w : World) :
    Calls Tryz.prog 4 #[.slice none 0 0] w fun e w' => ∃ pv bn, e = .returned (.agg #[.int .i64 100, pv, .slice (some ⟨bn, 0, none⟩) 4 4]) ∧ StrsAt w'.heap.size w' pv exPts ∧ NotesAt w'.heap.size w' (.slice (some ⟨bn, 0, none⟩) 4 4) exNotes ∧ Below w.heap.size w w' := by
  obtain ⟨i0, hi⟩ := info_of_underlying Tryz.underlying45
  have HI : Hid (i0.zero = some (.agg #[.int .i64 0, .int .i64 0, .int .i64 0, .int .i64 0, .int .i64 0]) ∧ i0.size = 5 ∧ i0.bytes = 40) := by
    have h := noteInfo
    rw [hi] at h
    simp at h
    exact h
  have hB0 : Below w.heap.size w ((w.alloc (Obj.cells #[.int .i64 0, .slice none 0 0, .slice none 0 0] 25)).alloc (Obj.cells (exPts.map Value.string).toArray 9)) := by go_grown
  have h0 := heap_alloc2_old w (Obj.cells #[.int .i64 0, .slice none 0 0, .slice none 0 0] 25) (Obj.cells (exPts.map Value.string).toArray 9)
  have hp0 := heap_alloc2_new w (Obj.cells #[.int .i64 0, .slice none 0 0, .slice none 0 0] 25) (Obj.cells (exPts.map Value.string).toArray 9)
  have H0 := Lib.hid h0
  have HP0 := Lib.hid hp0
  have HB0 := Lib.hid hB0
  clear h0 hp0 hB0
  go_enter Tryz.func4, Tryz.ntmps4
  go_wp2_with fail
  refine (lnote_any ⟨1, 0, 0, 1180, 1200⟩ _).mono ?_
  rintro e w1 ⟨rfl, hb1⟩
  go_wp2_with fail
  refine (lnote_any ⟨2, 1, 0, 9, 10⟩ _).mono ?_
  rintro e w2 ⟨rfl, hb2⟩
  go_wp2_with fail
  refine (lnote_any ⟨3, 3, 1, 0, 0⟩ _).mono ?_
  rintro e w3 ⟨rfl, hb3⟩
  go_wp2_with fail
  refine (lnote_any ⟨4, 0, 2, 250, 300⟩ _).mono ?_
  rintro e w4 ⟨rfl, hb4⟩
  have hb14 : Below _ _ w4 := ((hb1.trans (hb2.mono hb1.size)).trans (hb3.mono (Nat.le_trans hb1.size hb2.size))).trans (hb4.mono (Nat.le_trans (Nat.le_trans hb1.size hb2.size) hb3.size))
  have hn := (hb14.block _ (lt_of_block H0.out)).trans H0.out
  have hp := (hb14.block _ (lt_of_block HP0.out)).trans HP0.out
  have hB4 : Below w.heap.size w w4 := HB0.out.trans (hb14.mono HB0.out.size)
  have hn1 := lt_of_block hn
  have hp1 := lt_of_block hp
  clear hb1 hb2 hb3 hb4 hb14
  have c0 := cellOf hn 0 _ rfl
  have c1 := cellOf hn 1 _ rfl
  have c2 := cellOf hn 2 _ rfl
  have f0 := frozen_of_row _ _ 0 _ _ hn
  have f1 := frozen_of_row _ _ 1 _ _ hn
  have f2 := frozen_of_row _ _ 2 _ _ hn
  have HN4 := Lib.hid hn
  have HP4 := Lib.hid hp
  have HB4 := Lib.hid hB4
  have hs4 := hB4.size
  clear hn hp hB4
  go_wp2_with fail
  have hC := heap_setCell_same _ w.heap.size 2 _ _ (.slice (some ⟨w4.heap.size, 0, none⟩) 4 4) (heap_setCell_same _ w.heap.size 1 _ _ (.slice (some ⟨w.heap.size + 1, 0, none⟩) 4 4) (heap_setCell_same _ w.heap.size 0 _ _ (.int .i64 100) HN4.out))
  have hP := (heap_setCell_other ((w4.setCell ⟨w.heap.size, 0, none⟩ (.int .i64 100)).setCell ⟨w.heap.size, 1, none⟩ (.slice (some ⟨w.heap.size + 1, 0, none⟩) 4 4)) ⟨w.heap.size, 2, none⟩ (w.heap.size + 1) (.slice (some ⟨w4.heap.size, 0, none⟩) 4 4) (by simp)).trans ((heap_setCell_other (w4.setCell ⟨w.heap.size, 0, none⟩ (.int .i64 100)) ⟨w.heap.size, 1, none⟩ (w.heap.size + 1) (.slice (some ⟨w.heap.size + 1, 0, none⟩) 4 4) (by simp)).trans ((heap_setCell_other w4 ⟨w.heap.size, 0, none⟩ (w.heap.size + 1) (.int .i64 100) (by simp)).trans HP4.out))
  have hB5 := ((HB4.out.setCell (p := ⟨w.heap.size, 0, none⟩) (Nat.le_refl _) (.int .i64 100)).setCell (p := ⟨w.heap.size, 1, none⟩) (Nat.le_refl _) (.slice (some ⟨w.heap.size + 1, 0, none⟩) 4 4)).setCell (p := ⟨w.heap.size, 2, none⟩) (Nat.le_refl _) (.slice (some ⟨w4.heap.size, 0, none⟩) 4 4)
  have hsz : (((w4.setCell ⟨w.heap.size, 0, none⟩ (.int .i64 100)).setCell ⟨w.heap.size, 1, none⟩ (.slice (some ⟨w.heap.size + 1, 0, none⟩) 4 4)).setCell ⟨w.heap.size, 2, none⟩ (.slice (some ⟨w4.heap.size, 0, none⟩) 4 4)).heap.size = w4.heap.size := by simp
  generalize ((w4.setCell ⟨w.heap.size, 0, none⟩ (.int .i64 100)).setCell ⟨w.heap.size, 1, none⟩ (.slice (some ⟨w.heap.size + 1, 0, none⟩) 4 4)).setCell ⟨w.heap.size, 2, none⟩ (.slice (some ⟨w4.heap.size, 0, none⟩) 4 4) = W at *
  have hown := World.ownsRow_lit (base := W.heap.size) (e := 45) (size := 5) W (notesC exNotes).toArray 4 (Nat.le_refl _) (by unfold maxLen; omega) rfl
  have hC5 := (Below.heap_alloc W (Obj.cells (notesC exNotes).toArray 45) _ (lt_of_block hC)).trans hC
  have hP5 := (Below.heap_alloc W (Obj.cells (notesC exNotes).toArray 45) _ (lt_of_block hP)).trans hP
  refine bodyPost_ret (results_cell_row rfl _ _ w.heap.size 25 _ (0, 0) _ rfl hC5 Tryz.underlying25 rfl (by kernel_rfl)) rfl ⟨_, _, rfl, ?_, ?_, ?_⟩
  · refine ⟨by decide, some ⟨w.heap.size + 1, 0, none⟩, 4, rfl, fun _ => ⟨w.heap.size + 1, 0, rfl, lt_of_block hP5, fun k hk => ?_⟩⟩
    exact cellOf hP5 (0 + k) _ (by rw [Nat.zero_add]; simp [hk])
  · have h := notesAt_own (l := exNotes) hown (by simp [exNotes])
    rw [hsz] at h
    exact h
  · exact hB5.alloc hB5.size _

theorem notesAt_tail {n : Nat} {w : World} {b : Nat} (h : NotesAt n w (.slice (some ⟨b, 0, none⟩) 4 4) exNotes) : NotesAt n w (.slice (some ⟨b, 5, none⟩) 3 3) exLess := by
  obtain ⟨_, a, cap, e, hc⟩ := h
  simp only [Value.slice.injEq, Option.some.injEq] at e
  obtain ⟨rfl, _, rfl⟩ := e
  obtain ⟨b', o', e', hb, hcc⟩ := hc (by decide)
  simp only [Option.some.injEq, Addr.mk.injEq, and_true] at e'
  obtain ⟨rfl, rfl⟩ := e'
  refine ⟨by decide, some ⟨b, 5, none⟩, 3, rfl, fun _ => ⟨b, 5, rfl, hb, fun k hk => ?_⟩⟩
  have h := hcc (k + 1) (by have : exLess.length = 3 := rfl; have : exNotes.length = 4 := rfl; omega)
  have e : 0 + (k + 1) * 5 = 5 + k * 5 := by omega
  rw [e] at h
  exact h
theorem spn4k (w : World) : SpnAt (w.alloc (.cells #[.int .i64 1180, .int .i64 1200, .int .i64 900, .int .i64 1000, .int .i64 880, .int .i64 950, .int .i64 900, .int .i64 1000] 32)) (.slice (some ⟨w.heap.size, 0, none⟩) 4 4) [(1180, 1200), (900, 1000), (880, 950), (900, 1000)] :=
  spn_lit w [(1180, 1200), (900, 1000), (880, 950), (900, 1000)] (by decide)
theorem intsK3 (w : World) : IntsAt (w.alloc (.cells #[.int .i64 0, .int .i64 1, .int .i64 3] 3)) (.slice (some ⟨w.heap.size, 0, none⟩) 3 3) [0, 1, 3] := ints_lit w [0, 1, 3] (by decide)
theorem s5 {p1 p2 p3 p4 p9 : Prop} (h : p1 ∧ p2 ∧ p3 ∧ p4 ∧ Hid p9) : p9 := h.2.2.2.2
theorem keep5 {W w w' : World} {b1 b2 : Nat} {v1 v2 v3 v4 : Value}
    (h : w.cell? ⟨b1, 0, none⟩ = some v1 ∧ w.cell? ⟨b1, 1, none⟩ = some v2 ∧ w.cell? ⟨b2, 0, none⟩ = some v3 ∧ w.cell? ⟨b2, 1, none⟩ = some v4 ∧ Hid (Below W.heap.size W w)) (hb : Below w.heap.size w w') :
    w'.cell? ⟨b1, 0, none⟩ = some v1 ∧ w'.cell? ⟨b1, 1, none⟩ = some v2 ∧ w'.cell? ⟨b2, 0, none⟩ = some v3 ∧ w'.cell? ⟨b2, 1, none⟩ = some v4 ∧ Hid (Below W.heap.size W w') := by
  obtain ⟨h1, h2, h3, h4, h9⟩ := h
  have g : ∀ {b i : Nat} {v : Value}, w.cell? ⟨b, i, none⟩ = some v → w'.cell? ⟨b, i, none⟩ = some v := fun {b i v} h => (hb.cell (World.block_lt_of_cell? w ⟨b, i, none⟩ h)).trans h
  exact ⟨g h1, g h2, g h3, g h4, h9.out.trans (hb.mono h9.out.size)⟩
set_option maxRecDepth 100000 in
set_option maxHeartbeats 8000000 in
theorem known_any (w : World) (hT0 : Tabs w) : Calls Tryz.prog 3 #[] w fun e w' => e = .returned (.bool true) ∧ Below w.heap.size w w' := by
  have HT0 := Lib.hid hT0
  clear hT0
  go_enter Tryz.func3, Tryz.ntmps3
  go_wp2_with fail
  refine (lsheet4 _).mono ?_
  rintro e w1 ⟨pvS, bn, rfl, hPS, hNS, hb1⟩
  obtain ⟨aS, kS, cS, rfl⟩ := strsAt_slice hPS
  have k2 : Below w1.heap.size w1 ((w1.alloc (Obj.cells #[.int .i64 100, .slice aS kS cS, .slice (some ⟨bn, 0, none⟩) 4 4] 25)).alloc (Obj.cells #[.int .i64 100, .slice aS kS cS, .slice (some ⟨bn, 5, none⟩) 3 3] 25)) := by go_grown
  have S2 : Hid (ShBlk ((w1.alloc (Obj.cells #[.int .i64 100, .slice aS kS cS, .slice (some ⟨bn, 0, none⟩) 4 4] 25)).alloc (Obj.cells #[.int .i64 100, .slice aS kS cS, .slice (some ⟨bn, 5, none⟩) 3 3] 25)) w1.heap.size (.slice aS kS cS) (.slice (some ⟨bn, 0, none⟩) 4 4) exS) := ⟨heap_alloc2_old _ _ _, (sheetAt_ex hPS hNS : SheetAt w1.heap.size w1 _ _ exS).up k2⟩
  have L2 : Hid (ShBlk ((w1.alloc (Obj.cells #[.int .i64 100, .slice aS kS cS, .slice (some ⟨bn, 0, none⟩) 4 4] 25)).alloc (Obj.cells #[.int .i64 100, .slice aS kS cS, .slice (some ⟨bn, 5, none⟩) 3 3] 25)) (w1.heap.size + 1) (.slice aS kS cS) (.slice (some ⟨bn, 5, none⟩) 3 3) exL) := ⟨heap_alloc2_new _ _ _, (sheetAt_ex hPS (notesAt_tail hNS) : SheetAt w1.heap.size w1 _ _ exL).up k2⟩
  have B2 := Lib.hid (hb1.trans (k2.mono hb1.size))
  obtain ⟨x0, x1, x2⟩ := S2.out.cells
  obtain ⟨y0, y1, y2⟩ := L2.out.cells
  clear k2 hPS hNS hb1
  have hc := Heights_any exS (.slice aS kS cS) (.slice (some ⟨bn, 0, none⟩) 4 4) ((w1.alloc (Obj.cells #[.int .i64 100, .slice aS kS cS, .slice (some ⟨bn, 0, none⟩) 4 4] 25)).alloc (Obj.cells #[.int .i64 100, .slice aS kS cS, .slice (some ⟨bn, 5, none⟩) 3 3] 25)) S2.out.2
  rw [measES, heightSS] at hc
  have HC := Lib.hid hc
  clear hc
  have TB2 := Lib.hid (HT0.out.below B2.out)
  go_wp2_with fail
  refine HC.out.mono ?_
  rintro e w3 ⟨vH, rfl, hsp, _, hb⟩
  have hspn := SpansAt.spn (hsp (by first | trivial | rfl)) (by decide)
  obtain ⟨_, gH, oH, cH, rfl, _⟩ := id hspn
  have HS3 := Lib.hid hspn
  clear hsp hspn
  have S3 := Lib.hid (S2.out.up hb)
  have L3 := Lib.hid (L2.out.up hb)
  have TB3 := Lib.hid (TB2.out.below hb)
  have B3 := Lib.hid (B2.out.trans (hb.mono B2.out.size))
  clear S2 L2  TB2 B2 x0 x1 x2 y0 y1 y2
  obtain ⟨x0, x1, x2⟩ := S3.out.cells
  obtain ⟨y0, y1, y2⟩ := L3.out.cells
  clear hb HC
  have hc := Apart_any exS (.slice aS kS cS) (.slice (some ⟨bn, 0, none⟩) 4 4) 0 1 w3 S3.out.2
  rw [apartS01] at hc
  simp only at hc
  have HC := Lib.hid hc
  clear hc
  go_wp2_with fail
  refine HC.out.mono ?_
  rintro e w4 ⟨rfl, hb⟩
  have S4 := Lib.hid (S3.out.up hb)
  have L4 := Lib.hid (L3.out.up hb)
  have HS4 := Lib.hid (SpnAt.below HS3.out hb)
  have TB4 := Lib.hid (TB3.out.below hb)
  have B4 := Lib.hid (B3.out.trans (hb.mono B3.out.size))
  clear S3 L3 HS3 TB3 B3 x0 x1 x2 y0 y1 y2
  obtain ⟨x0, x1, x2⟩ := S4.out.cells
  obtain ⟨y0, y1, y2⟩ := L4.out.cells
  clear hb HC
  have kA : Below w4.heap.size w4 (w4.alloc (Obj.cells #[.int .i64 180, .int .i64 300] 32)) := by go_grown
  have APA5 : Hid ((w4.alloc (Obj.cells #[.int .i64 180, .int .i64 300] 32)).heap[w4.heap.size]? = some (.cells #[.int .i64 180, .int .i64 300] 32 (0, 0))) := heap_alloc_new _ _
  have S5 := Lib.hid (S4.out.up kA)
  have L5 := Lib.hid (L4.out.up kA)
  have HS5 := Lib.hid (SpnAt.below HS4.out kA)
  have TB5 := Lib.hid (TB4.out.below kA)
  have B5 := Lib.hid (B4.out.trans (kA.mono B4.out.size))
  clear S4 L4 HS4 TB4 B4 x0 x1 x2 y0 y1 y2
  obtain ⟨x0, x1, x2⟩ := S5.out.cells
  obtain ⟨y0, y1, y2⟩ := L5.out.cells
  clear kA
  have hc := Apart_any exS (.slice aS kS cS) (.slice (some ⟨bn, 0, none⟩) 4 4) 3 1 (w4.alloc (Obj.cells #[.int .i64 180, .int .i64 300] 32)) S5.out.2
  rw [apartS31] at hc
  simp only at hc
  have HC := Lib.hid hc
  clear hc
  go_wp2_with fail
  refine HC.out.mono ?_
  rintro e w6 ⟨rfl, hb⟩
  have S6 := Lib.hid (S5.out.up hb)
  have L6 := Lib.hid (L5.out.up hb)
  have HS6 := Lib.hid (SpnAt.below HS5.out hb)
  have APA6 := Lib.hid (blk_up APA5.out hb)
  have TB6 := Lib.hid (TB5.out.below hb)
  have B6 := Lib.hid (B5.out.trans (hb.mono B5.out.size))
  clear S5 L5 HS5 APA5 TB5 B5 x0 x1 x2 y0 y1 y2
  obtain ⟨x0, x1, x2⟩ := S6.out.cells
  obtain ⟨y0, y1, y2⟩ := L6.out.cells
  clear hb HC
  have kA : Below w6.heap.size w6 (w6.alloc (Obj.cells #[.int .i64 0, .int .i64 0] 32)) := by go_grown
  have APB7 : Hid ((w6.alloc (Obj.cells #[.int .i64 0, .int .i64 0] 32)).heap[w6.heap.size]? = some (.cells #[.int .i64 0, .int .i64 0] 32 (0, 0))) := heap_alloc_new _ _
  have S7 := Lib.hid (S6.out.up kA)
  have L7 := Lib.hid (L6.out.up kA)
  have HS7 := Lib.hid (SpnAt.below HS6.out kA)
  have APA7 := Lib.hid (blk_up APA6.out kA)
  have TB7 := Lib.hid (TB6.out.below kA)
  have B7 := Lib.hid (B6.out.trans (kA.mono B6.out.size))
  clear S6 L6 HS6 APA6 TB6 B6 x0 x1 x2 y0 y1 y2
  obtain ⟨x0, x1, x2⟩ := S7.out.cells
  obtain ⟨y0, y1, y2⟩ := L7.out.cells
  clear kA
  have hc := Highest_any exL (.slice aS kS cS) (.slice (some ⟨bn, 5, none⟩) 3 3) (w6.alloc (Obj.cells #[.int .i64 0, .int .i64 0] 32)) L7.out.2
  rw [measEL, highLL] at hc
  have HC := Lib.hid hc
  clear hc
  go_wp2_with fail
  refine HC.out.mono ?_
  rintro e w8 ⟨vI, rfl, hown, _, hb⟩
  obtain ⟨aI, cI, rfl⟩ := own_slice hown
  have HI8 := Lib.hid (intsAt_own hown (by decide))
  clear hown
  have S8 := Lib.hid (S7.out.up hb)
  have L8 := Lib.hid (L7.out.up hb)
  have HS8 := Lib.hid (SpnAt.below HS7.out hb)
  have APA8 := Lib.hid (blk_up APA7.out hb)
  have APB8 := Lib.hid (blk_up APB7.out hb)
  have TB8 := Lib.hid (TB7.out.below hb)
  have B8 := Lib.hid (B7.out.trans (hb.mono B7.out.size))
  clear S7 L7 HS7 APA7 APB7 TB7 B7 x0 x1 x2 y0 y1 y2
  obtain ⟨x0, x1, x2⟩ := S8.out.cells
  obtain ⟨y0, y1, y2⟩ := L8.out.cells
  clear hb HC
  have hc := Wrong_any exS (.slice aS kS cS) (.slice (some ⟨bn, 0, none⟩) 4 4) w8 S8.out.2
  rw [errExS, wrongLS] at hc
  have HC := Lib.hid hc
  clear hc
  go_wp2_with fail
  refine HC.out.mono ?_
  rintro e w9 ⟨vW, rfl, hown, hb⟩
  obtain ⟨aW, cW, rfl⟩ := own_slice hown
  clear hown
  have S9 := Lib.hid (S8.out.up hb)
  have L9 := Lib.hid (L8.out.up hb)
  have HS9 := Lib.hid (SpnAt.below HS8.out hb)
  have APA9 := Lib.hid (blk_up APA8.out hb)
  have APB9 := Lib.hid (blk_up APB8.out hb)
  have HI9 := Lib.hid (IntsAt.below HI8.out hb)
  have TB9 := Lib.hid (TB8.out.below hb)
  have B9 := Lib.hid (B8.out.trans (hb.mono B8.out.size))
  clear S8 L8 HS8 APA8 APB8 HI8 TB8 B8 x0 x1 x2 y0 y1 y2
  obtain ⟨x0, x1, x2⟩ := S9.out.cells
  obtain ⟨y0, y1, y2⟩ := L9.out.cells
  clear hb HC
  have hc := Wider_any exS (.slice aS kS cS) (.slice (some ⟨bn, 0, none⟩) 4 4) w9 S9.out.2
  rw [errExS] at hc
  have HC := Lib.hid hc
  clear hc
  go_wp2_with fail
  refine HC.out.mono ?_
  rintro e w10 ⟨rW, rfl, hwid, hb⟩
  obtain rfl := widS rW hwid
  clear hwid
  have S10 := Lib.hid (S9.out.up hb)
  have L10 := Lib.hid (L9.out.up hb)
  have HS10 := Lib.hid (SpnAt.below HS9.out hb)
  have APA10 := Lib.hid (blk_up APA9.out hb)
  have APB10 := Lib.hid (blk_up APB9.out hb)
  have HI10 := Lib.hid (IntsAt.below HI9.out hb)
  have TB10 := Lib.hid (TB9.out.below hb)
  have B10 := Lib.hid (B9.out.trans (hb.mono B9.out.size))
  clear S9 L9 HS9 APA9 APB9 HI9 TB9 B9 x0 x1 x2 y0 y1 y2
  obtain ⟨x0, x1, x2⟩ := S10.out.cells
  obtain ⟨y0, y1, y2⟩ := L10.out.cells
  clear hb HC
  go_wp2_with fail
  have q0 := cellOf APA10.out 0 _ rfl
  have q1 := cellOf APA10.out 1 _ rfl
  have r0 := cellOf APB10.out 0 _ rfl
  have r1 := cellOf APB10.out 1 _ rfl
  clear x0 x1 x2 y0 y1 y2
  try dsimp only [List.append]
  go_region_held3 (fun W => W.cell? ⟨w4.heap.size, 0, none⟩ = some (.int .i64 180) ∧ W.cell? ⟨w4.heap.size, 1, none⟩ = some (.int .i64 300) ∧ W.cell? ⟨w6.heap.size, 0, none⟩ = some (.int .i64 0) ∧ W.cell? ⟨w6.heap.size, 1, none⟩ = some (.int .i64 0) ∧ Hid (Below w10.heap.size w10 W))
    (first | exact ⟨q0, q1, r0, r1, (Below.refl _ _).drew⟩ | (refine keep5 ?_ (by assumption); assumption) | (refine keep5 ?_ ((Below.refl _ _).alloc (Nat.le_refl _) _); assumption) | assumption)
    (first
      | (go_at_call 11; refine (lspan_any _ _ _).mono ?_; rintro e w' ⟨rfl, hb⟩)
      | (go_at_call 10; refine (spans_eq _ _ [(1180, 1200), (900, 1000), (880, 950), (900, 1000)] _ ?_ (spn4k _)).mono ?_; exact HS10.out.below (s5 (by assumption)); rintro e w' ⟨rfl, hb⟩)
      | (go_at_call 12; refine (ints_eq _ _ [0, 1, 3] _ ?_ (intsK3 _)).mono ?_; exact HI10.out.below (s5 (by assumption)); rintro e w' ⟨rfl, hb⟩)
      | (go_at_call 13; refine (awake_any _ ?_).mono ?_; exact TB10.out.below (s5 (by assumption)); rintro e w' ⟨rfl, hb⟩))
  all_goals
    go_wp2_with fail
    go_ret
    exact ⟨rfl, B10.out.trans ((s5 (by assumption) : Below w10.heap.size w10 _).mono B10.out.size)⟩
end Go.Proofs.YtpjfljpkpifhbaaGreatDoor
