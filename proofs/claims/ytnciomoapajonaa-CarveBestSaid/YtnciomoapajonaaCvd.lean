/- Rows of boards as plain data: errors, bounds. No program is named here. -/
import Derived.Test.YtnciomoapajonaaCvp
set_option linter.unusedSimpArgs false
set_option linter.unusedVariables false
namespace Cv
/-! ## Errors -/
def okIn (lo hi x : Int) : Bool := decide (lo ≤ x) && decide (x ≤ hi)
def ptErr (p : Pt) : Int :=
  if (okIn 0 9000 p.bd && okIn 0 9000 p.lo && okIn 0 9000 p.hi) = false then 7
  else if okIn p.lo (p.lo + 30) p.hi = false then 2
  else 0
/-- The first point with an error: its index and the error. -/
def errFrom : List Pt → Int → Int × Int × Int
  | [], _ => (0, 0, 0)
  | p :: l, i => if ptErr p ≠ 0 then (2, i, ptErr p) else errFrom l (i + 1)
def checkR (r : Row) : Int × Int × Int :=
  if okIn 0 200 r.st = false then (1, 0, 7)
  else if okIn 1 10 r.pts.length = false then (1, 0, 3)
  else errFrom r.pts 0
def errR (r : Row) : Int := (checkR r).2.2
structure PtOk (p : Pt) : Prop where
  b0 : 0 ≤ p.bd
  b9 : p.bd ≤ 9000
  l0 : 0 ≤ p.lo
  l9 : p.lo ≤ 9000
  h0 : 0 ≤ p.hi
  h9 : p.hi ≤ 9000
  le : p.lo ≤ p.hi
  wide : p.hi ≤ p.lo + 30
theorem ptErr_zero {p : Pt} : ptErr p = 0 ↔ PtOk p := by
  unfold ptErr okIn
  constructor
  · intro h
    split at h
    · cases h
    split at h
    · cases h
    rename_i h1 h2
    simp at h1 h2
    exact ⟨by omega, by omega, by omega, by omega, by omega, by omega, by omega, by omega⟩
  · intro h
    obtain ⟨h1, h2, h3, h4, h5, h6, h7, h8⟩ := h
    rw [if_neg (by simp; omega), if_neg (by simp; omega)]
theorem ptErr_vals (p : Pt) : ptErr p = 0 ∨ ptErr p = 2 ∨ ptErr p = 7 := by
  unfold ptErr
  split
  · exact .inr (.inr rfl)
  split
  · exact .inr (.inl rfl)
  · exact .inl rfl
structure Valid (r : Row) : Prop where
  s0 : 0 ≤ r.st
  s200 : r.st ≤ 200
  n1 : 1 ≤ r.pts.length
  n10 : r.pts.length ≤ 10
  ok : ∀ p, p ∈ r.pts → PtOk p
theorem errFrom_zero : ∀ (l : List Pt) (i : Int), (errFrom l i).2.2 = 0 ↔ ∀ p, p ∈ l → PtOk p := by
  intro l
  induction l with
  | nil => intro i; simp [errFrom]
  | cons p l ih =>
    intro i
    unfold errFrom
    by_cases h : ptErr p = 0
    · rw [if_neg (by simp [h]), ih]
      simp [ptErr_zero.1 h]
    · rw [if_pos h]
      constructor
      · intro e; exact absurd e h
      · intro a; exact absurd (ptErr_zero.2 (a p (by simp))) h
theorem check_valid (r : Row) : errR r = 0 ↔ Valid r := by
  unfold errR checkR okIn
  constructor
  · intro h
    split at h
    · cases h
    split at h
    · cases h
    rename_i h1 h2
    simp at h1 h2
    exact ⟨by omega, by omega, by omega, by omega, (errFrom_zero r.pts 0).1 h⟩
  · intro h
    rw [if_neg (by have := h.s0; have := h.s200; simp; omega), if_neg (by have := h.n1; have := h.n10; simp; omega)]
    exact (errFrom_zero r.pts 0).2 h.ok
/-- What stands behind points without an error. -/
theorem errFrom_drop (l : List Pt) : ∀ (k : Nat), k ≤ l.length → (∀ j (h : j < l.length), j < k → ptErr l[j] = 0) → errFrom l 0 = errFrom (l.drop k) k := by
  intro k
  induction k with
  | zero => intro _ _; simp
  | succ k ih =>
    intro hk hz
    rw [ih (by omega) (fun j h hj => hz j h (by omega)), List.drop_eq_getElem_cons (show k < l.length by omega)]
    show (if ptErr l[k] ≠ 0 then _ else _) = _
    rw [if_neg (by simp [hz k (by omega) (by omega)])]
    rfl
theorem errFrom_at (l : List Pt) (k : Nat) (hk : k < l.length) (hz : ∀ j (h : j < l.length), j < k → ptErr l[j] = 0) (h : ptErr l[k] ≠ 0) : errFrom l 0 = (2, (k : Int), ptErr l[k]) := by
  rw [errFrom_drop l k (by omega) hz, List.drop_eq_getElem_cons hk]
  show (if ptErr l[k] ≠ 0 then _ else _) = _
  rw [if_pos h]
theorem errFrom_none (l : List Pt) (hz : ∀ j (h : j < l.length), ptErr l[j] = 0) : errFrom l 0 = (0, 0, 0) := by
  rw [errFrom_drop l l.length (Nat.le_refl _) (fun j h _ => hz j h), List.drop_length]
  rfl

/-! ## Bounds -/
def los (r : Row) : List Int := r.pts.map (·.lo)
def his (r : Row) : List Int := r.pts.map (·.hi)
def lowR (r : Row) : List Int := low r.st (los r)
def highR (r : Row) : List Int := high r.st (his r)
def crossB (r : Row) : Bool := (List.range r.pts.length).any fun i => decide ((highR r).getD i 0 < (lowR r).getD i 0)
/-- The error of Bounds, of a row without an error. -/
def downR (r : Row) : Int := if crossB r then 9 else 0
/-- A pair that allows no surface. -/
def noneB (r : Row) (steep : Int) (a b : Nat) : Bool :=
  decide ((his r).getD b 0 + steep * steps a b < (los r).getD a 0) || decide ((his r).getD a 0 + steep * steps a b < (los r).getD b 0)
theorem getD_map (f : Pt → Int) (l : List Pt) (i : Nat) (h : i < l.length) : (l.map f).getD i 0 = f l[i] := by
  simp [List.getD_eq_getElem?_getD, h]
theorem cross_fits (r : Row) (hst : 0 ≤ r.st) : crossB r = false ↔ Fits r.pts.length r.st (fun i => (los r).getD i 0) (fun i => (his r).getD i 0) := by
  have hl : (los r).length = r.pts.length := by simp [los]
  have hh : (his r).length = r.pts.length := by simp [his]
  rw [← fits_iff _ _ hst]
  unfold crossB
  rw [List.any_eq_false]
  constructor
  · intro h i hi
    have := h i (List.mem_range.2 hi)
    unfold lowR highR at this
    rw [low_asks r.st hst (los r) i (by omega), high_asks r.st hst (his r) i (by omega), hl, hh] at this
    simp at this
    exact this
  · intro h i hi
    have hi' := List.mem_range.1 hi
    have := h i hi'
    unfold lowR highR
    rw [low_asks r.st hst (los r) i (by omega), high_asks r.st hst (his r) i (by omega), hl, hh]
    simp
    exact this
theorem none_fits (r : Row) (steep : Int) : (∀ a b, a ≤ b → b < r.pts.length → noneB r steep a b = false) ↔ Fits r.pts.length steep (fun i => (los r).getD i 0) (fun i => (his r).getD i 0) := by
  unfold noneB Fits
  constructor
  · intro h a b ha hb
    rcases Nat.le_total a b with q | q
    · have := h a b q hb
      simp at this
      exact this.1
    · have := h b a q ha
      simp at this
      rw [steps_comm b a] at this
      exact this.2
  · intro h a b hab hb
    have h1 := h a b (by omega) hb
    have h2 := h b a hb (by omega)
    rw [steps_comm b a] at h2
    simp
    exact ⟨h1, h2⟩
end Cv
