/- Package carve: Carved. -/
import Derived.Test.YtnciomoapajonaaCvt
import Derived.Test.YtnciomoapajonaaCvu
import Derived.Test.YtnciomoapajonaaCvc
set_option linter.unusedSimpArgs false
set_option linter.unusedVariables false
namespace Go.Proofs.Ytnciomoapajonaa
open Go Go.RowKit Cv

/-- A value reads as a list of passes. -/
def PassAt (w : World) (v : Value) (l : List (Int × Int)) : Prop :=
  l.length ≤ 4611686018427387904 ∧ ∃ a cap, v = .slice a l.length cap ∧ l.length ≤ cap ∧ (l ≠ [] → ∃ b o, a = some ⟨b, o, none⟩ ∧ ∀ k (h : k < l.length), w.cell? ⟨b, o + k * 2, none⟩ = some (.int .i64 l[k].1) ∧ w.cell? ⟨b, o + k * 2 + 1, none⟩ = some (.int .i64 l[k].2))
theorem PassAt.below {w w' : World} {v : Value} {l : List (Int × Int)} (h : PassAt w v l) (hb : Below w.heap.size w w') : PassAt w' v l := by
  obtain ⟨h1, a, cap, rfl, hc, h2⟩ := h
  refine ⟨h1, a, cap, rfl, hc, fun hne => ?_⟩
  obtain ⟨b, o, rfl, hk⟩ := h2 hne
  refine ⟨b, o, rfl, fun k h => ?_⟩
  obtain ⟨c0, c1⟩ := hk k h
  have lt := World.block_lt_of_cell? w ⟨b, o + k * 2, none⟩ c0
  exact ⟨(hb.cell (p := ⟨b, o + k * 2, none⟩) lt).trans c0, (hb.cell (p := ⟨b, o + k * 2 + 1, none⟩) lt).trans c1⟩
theorem PassAt.get {w : World} {a : Option Addr} {n cap : Nat} {l : List (Int × Int)} (h : PassAt w (.slice a n cap) l) {k : Nat} (hk : k < l.length) :
    ∃ b o, a = some ⟨b, o, none⟩ ∧ w.cell? ⟨b, o + k * 2, none⟩ = some (.int .i64 l[k].1) ∧ w.cell? ⟨b, o + k * 2 + 1, none⟩ = some (.int .i64 l[k].2) := by
  obtain ⟨_, a', cap', e, _, h2⟩ := h
  simp only [Value.slice.injEq] at e
  obtain ⟨rfl, _, _⟩ := e
  obtain ⟨b, o, rfl, hc⟩ := h2 (by rintro rfl; simp at hk)
  exact ⟨b, o, rfl, hc k hk⟩
/-- How many of the first passes lower a point. -/
def cntN (ps : List (Int × Int)) (a : Int) : Nat → Int
  | 0 => 0
  | k + 1 => cntN ps a k + if (ps.getD k (0, 0)).1 ≤ a ∧ a ≤ (ps.getD k (0, 0)).2 then 1 else 0
theorem cntN_bd (ps : List (Int × Int)) (a : Int) : ∀ k, 0 ≤ cntN ps a k ∧ cntN ps a k ≤ k := by
  intro k
  induction k with
  | zero => simp [cntN]
  | succ k ih =>
    unfold cntN
    split <;> (push_cast; omega)
/-- The cells when k passes have been counted, and the next one up to a point. -/
def LowTo (ps : List (Int × Int)) (cur : List Value) (k : Nat) : Prop := ∀ a, a < cur.length → cur[a]? = some (.int .i64 (cntN ps a k))
def LowIn (ps : List (Int × Int)) (f : Nat) (cur : List Value) (k j : Nat) : Prop := ∀ a, a < cur.length → cur[a]? = some (.int .i64 (cntN ps a k + if f ≤ a ∧ a < f + j then 1 else 0))
theorem LowTo.start {ps : List (Int × Int)} {cur : List Value} {k : Nat} (f : Nat) (h : LowTo ps cur k) : LowIn ps f cur k 0 := by
  intro a ha
  rw [if_neg (by omega), Int.add_zero]
  exact h a ha
theorem LowIn.more {ps : List (Int × Int)} {cur : List Value} {k f j : Nat} (h : LowIn ps f cur k j) (hl : f + j < cur.length) : LowIn ps f (cur.set (f + j) (.int .i64 (cntN ps ((f + j : Nat) : Int) k + 1))) k (j + 1) := by
  intro a ha
  rw [List.length_set] at ha
  by_cases e : a = f + j
  · subst e
    rw [List.getElem?_set_self ha, if_pos (by omega)]
  · rw [List.getElem?_set_ne (by omega), h a ha]
    by_cases q : f ≤ a ∧ a < f + j
    · rw [if_pos q, if_pos (by omega)]
    · rw [if_neg q, if_neg (by omega)]
theorem LowIn.done {ps : List (Int × Int)} {cur : List Value} {k f j : Nat} (h : LowIn ps f cur k j) (hf : (ps.getD k (0, 0)).1 = f) (ht : (ps.getD k (0, 0)).2 = (f : Int) + j - 1) : LowTo ps cur (k + 1) := by
  intro a ha
  rw [h a ha, show cntN ps (a : Int) (k + 1) = cntN ps a k + (if (ps.getD k (0, 0)).1 ≤ (a : Int) ∧ (a : Int) ≤ (ps.getD k (0, 0)).2 then 1 else 0) from rfl, hf, ht]
  by_cases q : f ≤ a ∧ a < f + j
  · rw [if_pos q, if_pos (by omega)]
  · rw [if_neg q, if_neg (by omega)]
theorem LowTo.all {ps : List (Int × Int)} {cur : List Value} {k : Nat} (h : LowTo ps cur k) : cur = ((List.range cur.length).map fun a => cntN ps (a : Nat) k).map (Value.int .i64) := by
  apply List.ext_getElem?
  intro a
  rcases Nat.lt_or_ge a cur.length with h1 | h1
  · rw [h a h1]
    simp [h1]
  · rw [List.getElem?_eq_none h1, List.getElem?_eq_none (by simpa using h1)]
/-- The error of the first pass that has one. -/
def passErr (n : Nat) (ps : List (Int × Int)) : Int := (firstW (fun k => passE n (ps.getD k (0, 0))) 0 ps.length).2
/-- By how much passes lower each point, and their error. -/
def carvedR (r : Row) (ps : List (Int × Int)) : List Int × Int :=
  if errR r ≠ 0 then ([], errR r) else if 60 < ps.length then ([], 3) else if passErr r.pts.length ps ≠ 0 then ([], passErr r.pts.length ps) else ((List.range r.pts.length).map fun a => cntN ps (a : Nat) ps.length, 0)
/-- What a call of Carved leaves. -/
def CarvedP (w : World) (q : List Int × Int) (e : Ending) (w' : World) : Prop := ∃ v, e = .returned (.tuple #[v, .int .i64 q.2]) ∧ w'.ownsRow w.heap.size 3 1 v q.1.length (q.1.map (Value.int .i64)) ∧ Below w.heap.size w w'
theorem carvedP_no {w w' : World} {q : List Int × Int} {z : Int} (h : q = ([], z)) (hb : Below w.heap.size w w') : CarvedP w q (.returned (.tuple #[.slice none 0 0, .int .i64 z])) w' := by
  subst h
  exact ⟨_, rfl, World.ownsRow_nil _ _ _ _, hb⟩
end Go.Proofs.Ytnciomoapajonaa
