/- What the statements of package sheet hold while they run. -/
import Derived.Test.YtacmaddjpaebfaaGreatDoorLsh
set_option linter.unusedSimpArgs false
set_option linter.unusedVariables false
namespace Go.Proofs.YtacmaddjpaebfaaGreatDoor
open Go Go.RowKit Hs

theorem strsAt_slice {n : Nat} {w : World} {v : Value} {l : List ByteArray} (h : StrsAt n w v l) : ∃ a k c, v = .slice a k c := by
  obtain ⟨_, a, c, rfl, _⟩ := h
  exact ⟨_, _, _, rfl⟩
theorem notesAt_slice {n : Nat} {w : World} {v : Value} {l : List Note} (h : NotesAt n w v l) : ∃ a k c, v = .slice a k c := by
  obtain ⟨_, a, c, rfl, _⟩ := h
  exact ⟨_, _, _, rfl⟩
theorem OneNote.zero {n0 : Nat} {w : World} {v : Value} {x : Note} (h : OneNote n0 w v x) : OneNote 0 w v x := by
  obtain ⟨b, h1, _, h2⟩ := h
  exact ⟨b, h1, Nat.zero_le _, h2⟩
theorem exPts_small : ∀ x, x ∈ exPts → x.size ≤ 140737488351232 := by
  intro x hx
  simp only [exPts, List.mem_cons, List.not_mem_nil, or_false] at hx
  rcases hx with rfl | rfl | rfl | rfl <;> decide
theorem sheetAt_ex {w : World} {pv nv : Value} {l : List Note} (h1 : StrsAt w.heap.size w pv exPts) (h2 : NotesAt w.heap.size w nv l) : SheetAt w.heap.size w pv nv ⟨100, exPts, l⟩ := ⟨h1, h2, exPts_small⟩
theorem SheetAt.up {w w' : World} {pv nv : Value} {s : Sheet} (h : SheetAt w.heap.size w pv nv s) (hb : Below w.heap.size w w') : SheetAt w'.heap.size w' pv nv s := (h.below hb).mono hb.size
/-- A block that holds a sheet. -/
def ShBlk (w : World) (b : Nat) (pv nv : Value) (s : Sheet) : Prop := w.heap[b]? = some (.cells #[.int .i64 100, pv, nv] 25 (0, 0)) ∧ SheetAt w.heap.size w pv nv s
theorem ShBlk.up {w w' : World} {b : Nat} {pv nv : Value} {s : Sheet} (h : ShBlk w b pv nv s) (hb : Below w.heap.size w w') : ShBlk w' b pv nv s := ⟨(hb.block _ (lt_of_block h.1)).trans h.1, h.2.up hb⟩
theorem ShBlk.cells {w : World} {b : Nat} {pv nv : Value} {s : Sheet} (h : ShBlk w b pv nv s) : w.cell? ⟨b, 0, none⟩ = some (.int .i64 100) ∧ w.cell? ⟨b, 1, none⟩ = some pv ∧ w.cell? ⟨b, 2, none⟩ = some nv := ⟨cellOf h.1 0 _ rfl, cellOf h.1 1 _ rfl, cellOf h.1 2 _ rfl⟩
theorem blk_up {w w' : World} {b : Nat} {o : Obj} (h : w.heap[b]? = some o) (hb : Below w.heap.size w w') : w'.heap[b]? = some o := by
  refine (hb.block b ?_).trans h
  rcases Nat.lt_or_ge b w.heap.size with hl | hl
  · exact hl
  · rw [Array.getElem?_eq_none hl] at h; cases h
theorem ints_lit (w : World) (l : List Int) (hl : l.length ≤ 100) : IntsAt (w.alloc (.cells (l.map (Value.int .i64)).toArray 3)) (.slice (some ⟨w.heap.size, 0, none⟩) l.length l.length) l := by
  refine ⟨by omega, _, _, rfl, fun _ => ⟨w.heap.size, 0, rfl, fun k hk => ?_⟩⟩
  exact cellOf (heap_alloc_new w _) (0 + k) _ (by rw [Nat.zero_add]; simp [hk, List.getD_eq_getElem?_getD])
theorem spn_lit (w : World) (l : List (Int × Int)) (hl : l.length ≤ 100) : SpnAt (w.alloc (.cells (l.flatMap fun x => [Value.int .i64 x.1, Value.int .i64 x.2]).toArray 40)) (.slice (some ⟨w.heap.size, 0, none⟩) l.length l.length) l := by
  have hget : ∀ (l : List (Int × Int)) (k : Nat) (h : k < l.length), (l.flatMap fun x => [Value.int .i64 x.1, Value.int .i64 x.2])[k * 2]? = some (.int .i64 l[k].1) ∧ (l.flatMap fun x => [Value.int .i64 x.1, Value.int .i64 x.2])[k * 2 + 1]? = some (.int .i64 l[k].2) := by
    intro l
    induction l with
    | nil => intro k h; simp at h
    | cons x l ih =>
      intro k h
      cases k with
      | zero => simp
      | succ k =>
        have := ih k (by simpa using h)
        rw [show (k + 1) * 2 = k * 2 + 1 + 1 by omega]
        simpa using this
  refine ⟨hl, w.heap.size, 0, l.length, rfl, by simp, fun k hk => ?_⟩
  have h := hget l k hk
  have hn := heap_alloc_new w (Obj.cells (l.flatMap fun x => [Value.int .i64 x.1, Value.int .i64 x.2]).toArray 40)
  exact ⟨cellOf hn (0 + k * 2) _ (by rw [Nat.zero_add]; simpa using h.1), cellOf hn (0 + k * 2 + 1) _ (by rw [Nat.zero_add]; simpa using h.2)⟩
theorem spn4 (w : World) : SpnAt (w.alloc (.cells #[.int .i64 1180, .int .i64 1200, .int .i64 900, .int .i64 940, .int .i64 910, .int .i64 950, .int .i64 900, .int .i64 940] 40)) (.slice (some ⟨w.heap.size, 0, none⟩) 4 4) [(1180, 1200), (900, 940), (910, 950), (900, 940)] :=
  spn_lit w [(1180, 1200), (900, 940), (910, 950), (900, 940)] (by decide)
theorem intsL1 (w : World) : IntsAt (w.alloc (.cells #[.int .i64 0] 3)) (.slice (some ⟨w.heap.size, 0, none⟩) 1 1) [0] := ints_lit w [0] (by decide)
theorem intsL3 (w : World) : IntsAt (w.alloc (.cells #[.int .i64 0, .int .i64 1, .int .i64 4] 3)) (.slice (some ⟨w.heap.size, 0, none⟩) 3 3) [0, 1, 4] := ints_lit w [0, 1, 4] (by decide)
theorem name_a9 (w : World) : Calls Tryz.prog 17 #[.string ⟨#[97, 45, 57]⟩] w fun e w' => e = .returned (.bool true) ∧ Below w.heap.size w w' :=
  (name_any ⟨#[97, 45, 57]⟩ w (by decide)).mono fun e w' h => ⟨h.1.trans (by rw [show nameB (⟨#[97, 45, 57]⟩ : ByteArray).data.toList = true by decide +kernel]), h.2⟩
theorem name_9a (w : World) : Calls Tryz.prog 17 #[.string ⟨#[57, 97]⟩] w fun e w' => e = .returned (.bool false) ∧ Below w.heap.size w w' :=
  (name_any ⟨#[57, 97]⟩ w (by decide)).mono fun e w' h => ⟨h.1.trans (by rw [show nameB (⟨#[57, 97]⟩ : ByteArray).data.toList = false by decide +kernel]), h.2⟩
theorem s9 {p1 p2 p3 p4 p5 p6 p7 p8 p9 : Prop} (h : p1 ∧ p2 ∧ p3 ∧ p4 ∧ p5 ∧ p6 ∧ p7 ∧ p8 ∧ Hid p9) : p9 := h.2.2.2.2.2.2.2.2
theorem same_in {W : World} {pa na pb nb : Value} (ha : SheetAt W.heap.size W pa na exS) (hb : SheetAt W.heap.size W pb nb exS) :
    Calls Tryz.prog 40 #[.agg #[.int .i64 100, pa, na], .agg #[.int .i64 100, pb, nb]] W fun e w' => e = .returned (.bool true) ∧ Below W.heap.size W w' :=
  same_eq exS pa na pb nb W ha.pts ha.notes hb.pts hb.notes
end Go.Proofs.YtacmaddjpaebfaaGreatDoor
