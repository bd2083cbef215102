/- How lists of notes, names and spans lie in memory; what a world keeps while one block is written. -/
import Derived.Test.YtacmaddjpaebfaaGreatDoorBase
import Derived.Test.YtacmaddjpaebfaaGreatDoorData
import Derived.RangeFuncBox
set_option linter.unusedSimpArgs false
set_option linter.unusedVariables false
namespace Go.Proofs.YtacmaddjpaebfaaGreatDoor
open Go Go.RowKit Hs

/-- A value reads as a list of notes. Its block lies below n. -/
def NotesAt (n : Nat) (w : World) (v : Value) (l : List Note) : Prop :=
  l.length ≤ 4611686018427387904 ∧ ∃ a cap, v = .slice a l.length cap ∧ (l ≠ [] → ∃ b o, a = some ⟨b, o, none⟩ ∧ b < n ∧ ∀ k (h : k < l.length),
    w.cell? ⟨b, o + k * 5, none⟩ = some (.int .i64 l[k].k) ∧ w.cell? ⟨b, o + k * 5 + 1, none⟩ = some (.int .i64 l[k].a) ∧ w.cell? ⟨b, o + k * 5 + 2, none⟩ = some (.int .i64 l[k].b) ∧
    w.cell? ⟨b, o + k * 5 + 3, none⟩ = some (.int .i64 l[k].lo) ∧ w.cell? ⟨b, o + k * 5 + 4, none⟩ = some (.int .i64 l[k].hi))
theorem NotesAt.keep {n : Nat} {w w' : World} {v : Value} {l : List Note} (h : NotesAt n w v l) (hk : ∀ b o, b < n → w'.cell? ⟨b, o, none⟩ = w.cell? ⟨b, o, none⟩) : NotesAt n w' v l := by
  obtain ⟨h1, a, cap, rfl, h2⟩ := h
  refine ⟨h1, a, cap, rfl, fun hne => ?_⟩
  obtain ⟨b, o, rfl, hb, hc⟩ := h2 hne
  refine ⟨b, o, rfl, hb, fun k hk' => ?_⟩
  rw [hk b _ hb, hk b _ hb, hk b _ hb, hk b _ hb, hk b _ hb]
  exact hc k hk'
theorem NotesAt.below {n : Nat} {w w' : World} {v : Value} {l : List Note} (h : NotesAt n w v l) (hb : Below n w w') : NotesAt n w' v l :=
  h.keep fun b o h => hb.cell (p := ⟨b, o, none⟩) h

theorem NotesAt.mono {n n' : Nat} {w : World} {v : Value} {l : List Note} (h : NotesAt n w v l) (hn : n ≤ n') : NotesAt n' w v l := by
  obtain ⟨h1, a, cap, rfl, h2⟩ := h
  refine ⟨h1, a, cap, rfl, fun hne => ?_⟩
  obtain ⟨b, o, rfl, hb, hc⟩ := h2 hne
  exact ⟨b, o, rfl, Nat.lt_of_lt_of_le hb hn, hc⟩

/-- What is cells stays, but for one block. -/
structure Kpc (B : Nat) (W W' : World) : Prop where
  size : W.heap.size ≤ W'.heap.size
  same : ∀ k c t fr, k ≠ B → W.heap[k]? = some (.cells c t fr) → W'.heap[k]? = some (.cells c t fr)
theorem Kpc.refl (B : Nat) (W : World) : Kpc B W W := ⟨Nat.le_refl _, fun _ _ _ _ _ h => h⟩
theorem Kpc.trans {B : Nat} {X Y Z : World} (h : Kpc B X Y) (k : Kpc B Y Z) : Kpc B X Z := ⟨Nat.le_trans h.size k.size, fun i c t fr hi hc => k.same i c t fr hi (h.same i c t fr hi hc)⟩
theorem Kpc.of_below {B : Nat} {W W' : World} (h : Below W.heap.size W W') : Kpc B W W' := ⟨h.size, fun k c t fr _ hc => (h.block k (lt_of_block hc)).trans hc⟩
theorem Kpc.setCell {B : Nat} (W : World) (i : Nat) (u : Value) : Kpc B W (W.setCell ⟨B, i, none⟩ u) :=
  ⟨by simp, fun k c t fr hk hc => (Below.heap_setCell W _ _ k hk).trans hc⟩
theorem Kpc.drew (B : Nat) (W : World) : Kpc B W W.drew := ⟨Nat.le_refl _, fun _ _ _ _ _ h => h⟩
theorem Kpc.putObj (B : Nat) (W : World) (l : Nat) (o o' : Obj) (hl : W.heap[l]? = some o) (ho : o.isCells = false) : Kpc B W (W.putObj l o') := by
  refine ⟨by simp [World.putObj], fun k c t fr _ hc => ?_⟩
  have hne : k ≠ l := by rintro rfl; rw [hl] at hc; cases hc; cases ho
  simp only [World.putObj]
  rw [Array.getElem?_setIfInBounds_ne (Ne.symm hne)]
  exact hc
theorem Kpc.cell {B : Nat} {W W' : World} (h : Kpc B W W') {b i : Nat} (hb : b ≠ B) {v : Value} (hc : W.cell? ⟨b, i, none⟩ = some v) : W'.cell? ⟨b, i, none⟩ = some v := by
  unfold World.cell? at hc ⊢
  cases hh : W.heap[b]? with
  | none => simp [hh] at hc
  | some o =>
    cases o with
    | cells c t fr => simp only [hh] at hc; simp only [h.same b c t fr hb hh]; exact hc
    | _ => simp [hh] at hc
theorem below_grownBy {w w' : World} (h : Below w.heap.size w w') : w.grownBy w' none := ⟨h.os, h.tape, h.output, h.size, fun k hk _ => h.block k hk⟩
end Go.Proofs.YtacmaddjpaebfaaGreatDoor
