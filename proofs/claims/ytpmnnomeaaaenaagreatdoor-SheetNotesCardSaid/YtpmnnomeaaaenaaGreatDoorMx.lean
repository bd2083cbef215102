/- A square of numbers in memory: a row of slices, each of a block of its own. Read, stored to, kept. -/
import Derived.Test.YtpmnnomeaaaenaaGreatDoorBase
import Derived.Test.YtpmnnomeaaaenaaGreatDoorFw
import Derived.Test.YtpmnnomeaaaenaaGreatDoorSay
set_option linter.unusedSimpArgs false
set_option linter.unusedVariables false
namespace Go.Proofs.YtpmnnomeaaaenaaGreatDoor
open Go Go.RowKit Dc

/-- A square of N rows of N numbers: the row of slices lies in block g, row i in block r i, all from block B on. -/
structure MxIn (B : Nat) (w : World) (N g : Nat) (r : Nat → Nat) (T : Mx) : Prop where
  g0 : B ≤ g
  r0 : ∀ i, i < N → B ≤ r i ∧ r i ≠ g
  inj : ∀ i j, i < N → j < N → r i = r j → i = j
  glt : g < w.heap.size
  outer : ∀ i, i < N → ∃ c, w.cell? ⟨g, i, none⟩ = some (.slice (some ⟨r i, 0, none⟩) N c)
  rows : ∀ i, i < N → ∃ (cur : Array Value) (t : TypeId), w.heap[r i]? = some (.cells cur t (0, 0)) ∧ ∀ n, n < N → cur[n]? = some (.int .i64 (T i n))
theorem MxIn.cell {B : Nat} {w : World} {N g : Nat} {r : Nat → Nat} {T : Mx} (h : MxIn B w N g r T) {i n : Nat} (hi : i < N) (hn : n < N) : w.cell? ⟨r i, n, none⟩ = some (.int .i64 (T i n)) := by
  obtain ⟨cur, t, h1, h2⟩ := h.rows i hi
  exact cellOf h1 n _ (h2 n hn)
theorem MxIn.frozen {B : Nat} {w : World} {N g : Nat} {r : Nat → Nat} {T : Mx} (h : MxIn B w N g r T) {i : Nat} (hi : i < N) (n : Nat) : w.frozen? ⟨r i, n, none⟩ = false := by
  obtain ⟨cur, t, h1, h2⟩ := h.rows i hi
  exact frozen_of_row _ _ n _ _ h1
theorem MxIn.below {B : Nat} {w w' : World} {N g : Nat} {r : Nat → Nat} {T : Mx} (h : MxIn B w N g r T) (hb : Below w.heap.size w w') : MxIn B w' N g r T := by
  refine ⟨h.g0, h.r0, h.inj, Nat.lt_of_lt_of_le h.glt hb.size, fun i hi => ?_, fun i hi => ?_⟩
  · obtain ⟨c, hc⟩ := h.outer i hi
    exact ⟨c, (hb.cell (p := ⟨g, i, none⟩) h.glt).trans hc⟩
  · obtain ⟨cur, t, h1, h2⟩ := h.rows i hi
    exact ⟨cur, t, (hb.block _ (lt_of_block h1)).trans h1, h2⟩
def putM (T : Mx) (i n : Nat) (x : Int) : Mx := fun a b => if a = i ∧ b = n then x else T a b
theorem MxIn.put {B : Nat} {w : World} {N g : Nat} {r : Nat → Nat} {T : Mx} (h : MxIn B w N g r T) {i n : Nat} (hi : i < N) (x : Int) : MxIn B (w.setCell ⟨r i, n, none⟩ (.int .i64 x)) N g r (putM T i n x) := by
  refine ⟨h.g0, h.r0, h.inj, by simpa using h.glt, fun j hj => ?_, fun j hj => ?_⟩
  · obtain ⟨c, hc⟩ := h.outer j hj
    refine ⟨c, ?_⟩
    rw [World.cell?_of_block (w := w) (heap_setCell_other w _ _ _ (by simpa using ((h.r0 i hi).2).symm))]
    exact hc
  · obtain ⟨cur, t, h1, h2⟩ := h.rows j hj
    by_cases e : j = i
    · subst e
      refine ⟨_, t, heap_setCell_same w (r j) n cur t (.int .i64 x) h1, fun m hm => ?_⟩
      have hq := h2 m hm
      have hlt : m < cur.size := (Array.getElem?_eq_some_iff.1 hq).1
      unfold putM
      by_cases e2 : n = m
      · subst e2
        rw [if_pos ⟨rfl, rfl⟩]
        simp [Array.getElem?_setIfInBounds, hlt]
      · rw [if_neg (by omega)]
        rw [Array.getElem?_setIfInBounds_ne e2]
        exact hq
    · have hne : r j ≠ r i := fun hr => e (h.inj j i hj hi hr)
      refine ⟨cur, t, (heap_setCell_other w _ _ _ (by simpa using hne)).trans h1, fun m hm => ?_⟩
      unfold putM
      rw [if_neg (by omega)]
      exact h2 m hm
theorem MxIn.congr {B : Nat} {w : World} {N g : Nat} {r : Nat → Nat} {T T' : Mx} (h : MxIn B w N g r T) (e : ∀ a b, a < N → b < N → T' a b = T a b) : MxIn B w N g r T' :=
  ⟨h.g0, h.r0, h.inj, h.glt, h.outer, fun i hi => by
    obtain ⟨cur, t, h1, h2⟩ := h.rows i hi
    exact ⟨cur, t, h1, fun n hn => by rw [e i n hi hn]; exact h2 n hn⟩⟩
theorem MxIn.mono {B B' : Nat} {w : World} {N g : Nat} {r : Nat → Nat} {T : Mx} (h : MxIn B w N g r T) (hb : B' ≤ B) : MxIn B' w N g r T :=
  ⟨Nat.le_trans hb h.g0, fun i hi => ⟨Nat.le_trans hb (h.r0 i hi).1, (h.r0 i hi).2⟩, h.inj, h.glt, h.outer, h.rows⟩
theorem MxIn.rlt {B : Nat} {w : World} {N g : Nat} {r : Nat → Nat} {T : Mx} (h : MxIn B w N g r T) {i : Nat} (hi : i < N) : r i < w.heap.size := by
  obtain ⟨cur, t, h1, _⟩ := h.rows i hi
  exact lt_of_block h1
theorem setc_other (w : World) (a : Addr) (u : Value) {b o : Nat} {v : Value} (hb : b ≠ a.block) (hc : w.cell? ⟨b, o, none⟩ = some v) : (w.setCell a u).cell? ⟨b, o, none⟩ = some v := by
  rw [World.cell?_of_block (w := w) (Below.heap_setCell _ _ _ _ hb)]; exact hc
theorem MxIn.far {B : Nat} {w : World} {N g : Nat} {r : Nat → Nat} {T : Mx} (h : MxIn B w N g r T) {b : Nat} (hg : b ≠ g) (hr : ∀ i, i < N → b ≠ r i) (j : Nat) (u : Value) : MxIn B (w.setCell ⟨b, j, none⟩ u) N g r T := by
  refine ⟨h.g0, h.r0, h.inj, by simpa using h.glt, fun i hi => ?_, fun i hi => ?_⟩
  · obtain ⟨c, hc⟩ := h.outer i hi
    exact ⟨c, setc_other _ _ _ (by simpa using hg.symm) hc⟩
  · obtain ⟨cur, t, h1, h2⟩ := h.rows i hi
    exact ⟨cur, t, (heap_setCell_other w _ _ _ (by simpa using (hr i hi).symm)).trans h1, h2⟩
theorem putM_upd (T : Mx) (i n k : Nat) : putM T i n (min (T i n) (T i k + T k n)) = upd T i n k := rfl
end Go.Proofs.YtpmnnomeaaaenaaGreatDoor
