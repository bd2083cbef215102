/- Sheets and notes as plain data; what package sheet says of a note. No program is named here. -/
namespace Hs
/-- A note. -/
structure Note where
  k : Int
  a : Int
  b : Int
  lo : Int
  hi : Int
  deriving DecidableEq, Inhabited
/-- A sheet. -/
structure Sheet where
  iv : Int
  pts : List ByteArray
  notes : List Note
def withinB (lo hi : Int) (l : List Int) : Bool := l.all fun n => decide (lo ≤ n) && decide (n ≤ hi)
/-- The ends that By may have. -/
def endLo (n : Note) : Int := if n.k = 4 then -9000 else 0
def endHi (iv : Int) (n : Note) : Int := if n.k = 2 then 9000 / iv else if n.k = 3 then 0 else 9000
/-- The point above which A is, or ground (8). -/
def over (n : Note) : Int := if n.k = 1 ∨ n.k = 2 then 8 else n.b
/-- By how much A is above it. -/
def loOf (iv : Int) (n : Note) : Int := if n.k = 2 then n.lo * iv else n.lo
def hiOf (iv : Int) (n : Note) : Int := if n.k = 2 then n.hi * iv else n.hi
def kindB (n : Note) : Bool := decide (1 ≤ n.k) && decide (n.k ≤ 4)
/-- The error of a note of a sheet with so many points. -/
def noteErr (iv : Int) (np : Int) (n : Note) : Int :=
  if kindB n = false then 6
  else if withinB 0 (np - 1) [n.a, n.b] = false then 4
  else if over n = n.a ∨ over n = 8 ∧ n.b ≠ 0 then 2
  else if withinB (endLo n) (endHi iv n) [n.lo, n.hi] = false then 7
  else if n.hi < n.lo ∨ n.k = 2 ∧ n.lo = n.hi then 2
  else 0
/-- What a note without an error is. -/
structure NoteOk (iv : Int) (n : Note) : Prop where
  kind : n.k = 1 ∨ n.k = 2 ∨ n.k = 3 ∨ n.k = 4
  a0 : 0 ≤ n.a
  a8 : n.a ≤ 7
  o0 : 0 ≤ over n
  o8 : over n ≤ 8
  b0 : 0 ≤ n.b
  b8 : n.b ≤ 7
  ne : over n ≠ n.a
  l0 : -9000 ≤ loOf iv n
  l9 : loOf iv n ≤ 9000
  h0 : -9000 ≤ hiOf iv n
  h9 : hiOf iv n ≤ 9000
  le : loOf iv n ≤ hiOf iv n
  c0 : n.k = 2 → 0 ≤ n.lo * iv ∧ n.hi * iv ≤ 9000 ∧ n.lo * iv ≤ n.hi * iv
theorem div_mul_le (iv x : Int) (h : 1 ≤ iv) (hx : x ≤ 9000 / iv) : x * iv ≤ 9000 := by
  have h1 := Int.mul_le_mul_of_nonneg_right hx (show 0 ≤ iv by omega)
  have h2 : 9000 / iv * iv ≤ 9000 := Int.ediv_mul_le 9000 (show iv ≠ 0 by omega)
  omega
theorem noteOk_of (iv : Int) (np : Int) (n : Note) (hiv : 1 ≤ iv) (hnp : np ≤ 8) (h : noteErr iv np n = 0) : NoteOk iv n := by
  unfold noteErr at h
  split at h
  · cases h
  split at h
  · cases h
  split at h
  · cases h
  split at h
  · cases h
  split at h
  · cases h
  rename_i h1 h2 h3 h4 h5
  have hk : 1 ≤ n.k ∧ n.k ≤ 4 := by simpa [kindB] using h1
  have hab : (0 ≤ n.a ∧ n.a ≤ np - 1) ∧ 0 ≤ n.b ∧ n.b ≤ np - 1 := by have q := h2; simp [withinB] at q; omega
  have hlh : (endLo n ≤ n.lo ∧ n.lo ≤ endHi iv n) ∧ endLo n ≤ n.hi ∧ n.hi ≤ endHi iv n := by have q := h4; simp [withinB] at q; omega
  have hover : over n ≠ n.a := fun e => h3 (.inl e)
  have hle : n.lo ≤ n.hi := by
    rcases Int.lt_or_le n.hi n.lo with hl | hl
    · exact absurd (.inl hl) h5
    · exact hl
  have hks : n.k = 1 ∨ n.k = 2 ∨ n.k = 3 ∨ n.k = 4 := by omega
  have hks' := hks
  rcases hks' with e | e | e | e
  · have q1 : over n = 8 := by simp [over, e]
    simp [endLo, endHi, e] at hlh
    exact ⟨hks, by omega, by omega, by omega, by omega, by omega, by omega, hover, by simp [loOf, e]; omega, by simp [loOf, e]; omega, by simp [hiOf, e]; omega, by simp [hiOf, e]; omega, by simp [loOf, hiOf, e]; omega, by omega⟩
  · have q1 : over n = 8 := by simp [over, e]
    simp [endLo, endHi, e] at hlh
    have m1 := div_mul_le iv n.hi hiv hlh.2.2
    have m2 : 0 ≤ n.lo * iv := Int.mul_nonneg hlh.1.1 (by omega)
    have m3 : n.lo * iv ≤ n.hi * iv := Int.mul_le_mul_of_nonneg_right hle (by omega)
    exact ⟨hks, by omega, by omega, by omega, by omega, by omega, by omega, hover, by simp [loOf, e]; omega, by simp [loOf, e]; omega, by simp [hiOf, e]; omega, by simp [hiOf, e]; omega, by simp [loOf, hiOf, e]; omega, fun _ => ⟨m2, m1, m3⟩⟩
  · have q1 : over n = n.b := by simp [over, e]
    simp [endLo, endHi, e] at hlh
    exact ⟨hks, by omega, by omega, by omega, by omega, by omega, by omega, hover, by simp [loOf, e]; omega, by simp [loOf, e]; omega, by simp [hiOf, e]; omega, by simp [hiOf, e]; omega, by simp [loOf, hiOf, e]; omega, by omega⟩
  · have q1 : over n = n.b := by simp [over, e]
    simp [endLo, endHi, e] at hlh
    exact ⟨hks, by omega, by omega, by omega, by omega, by omega, by omega, hover, by simp [loOf, e]; omega, by simp [loOf, e]; omega, by simp [hiOf, e]; omega, by simp [hiOf, e]; omega, by simp [loOf, hiOf, e]; omega, by omega⟩

/-- A bound: the one point, the other one, and by how much it is above it at most. -/
abbrev Bd3 := Fin 9 × Fin 9 × Int
def cl (x : Int) : Int := max (-20000) (min 20000 x)
theorem cl_lo (x : Int) : -20000 ≤ cl x := by unfold cl; omega
theorem cl_hi (x : Int) : cl x ≤ 20000 := by unfold cl; omega
theorem cl_id (x : Int) (h1 : -20000 ≤ x) (h2 : x ≤ 20000) : cl x = x := by unfold cl; omega
def fin9 (z : Int) : Fin 9 := ⟨z.toNat % 9, Nat.mod_lt _ (by decide)⟩
theorem fin9_val (z : Int) (h0 : 0 ≤ z) (h8 : z ≤ 8) : ((fin9 z : Nat) : Int) = z := by
  have : (fin9 z : Nat) = z.toNat % 9 := rfl
  omega
/-- What a note says: two bounds. -/
def bds (iv wd : Int) (n : Note) : List Bd3 := [(fin9 n.a, fin9 (over n), hiOf iv n + wd), (fin9 (over n), fin9 n.a, wd - loOf iv n)]
def bdsL (iv wd : Int) (l : List Note) : List Bd3 := l.flatMap (bds iv wd)
theorem bdsL_take_succ (iv wd : Int) (l : List Note) (k : Nat) (h : k < l.length) : bdsL iv wd (l.take (k + 1)) = bdsL iv wd (l.take k) ++ [(fin9 l[k].a, fin9 (over l[k]), hiOf iv l[k] + wd)] ++ [(fin9 (over l[k]), fin9 l[k].a, wd - loOf iv l[k])] := by
  unfold bdsL
  rw [List.take_succ_eq_append_getElem h, List.flatMap_append]
  simp [bds]
theorem bdsL_length (iv wd : Int) (l : List Note) : (bdsL iv wd l).length = 2 * l.length := by
  unfold bdsL
  induction l with
  | nil => rfl
  | cons x l ih => rw [List.flatMap_cons, List.length_append, ih]; simp [bds]; omega

theorem ne_6 (iv np : Int) (n : Note) (h : kindB n = false) : noteErr iv np n = 6 := by unfold noteErr; rw [if_pos h]
theorem ne_4 (iv np : Int) (n : Note) (h : kindB n = true) (h1 : withinB 0 (np - 1) [n.a, n.b] = false) : noteErr iv np n = 4 := by unfold noteErr; rw [if_neg (by rw [h]; decide), if_pos h1]
theorem ne_2a (iv np : Int) (n : Note) (h : kindB n = true) (h1 : withinB 0 (np - 1) [n.a, n.b] = true) (h2 : over n = n.a ∨ over n = 8 ∧ n.b ≠ 0) : noteErr iv np n = 2 := by
  unfold noteErr; rw [if_neg (by rw [h]; decide), if_neg (by rw [h1]; decide), if_pos h2]
theorem ne_7 (iv np : Int) (n : Note) (h : kindB n = true) (h1 : withinB 0 (np - 1) [n.a, n.b] = true) (h2 : ¬ (over n = n.a ∨ over n = 8 ∧ n.b ≠ 0)) (h3 : withinB (endLo n) (endHi iv n) [n.lo, n.hi] = false) : noteErr iv np n = 7 := by
  unfold noteErr; rw [if_neg (by rw [h]; decide), if_neg (by rw [h1]; decide), if_neg h2, if_pos h3]
theorem ne_2b (iv np : Int) (n : Note) (h : kindB n = true) (h1 : withinB 0 (np - 1) [n.a, n.b] = true) (h2 : ¬ (over n = n.a ∨ over n = 8 ∧ n.b ≠ 0)) (h3 : withinB (endLo n) (endHi iv n) [n.lo, n.hi] = true)
    (h4 : n.hi < n.lo ∨ n.k = 2 ∧ n.lo = n.hi) : noteErr iv np n = 2 := by
  unfold noteErr; rw [if_neg (by rw [h]; decide), if_neg (by rw [h1]; decide), if_neg h2, if_neg (by rw [h3]; decide), if_pos h4]
theorem ne_0 (iv np : Int) (n : Note) (h : kindB n = true) (h1 : withinB 0 (np - 1) [n.a, n.b] = true) (h2 : ¬ (over n = n.a ∨ over n = 8 ∧ n.b ≠ 0)) (h3 : withinB (endLo n) (endHi iv n) [n.lo, n.hi] = true)
    (h4 : ¬ (n.hi < n.lo ∨ n.k = 2 ∧ n.lo = n.hi)) : noteErr iv np n = 0 := by
  unfold noteErr; rw [if_neg (by rw [h]; decide), if_neg (by rw [h1]; decide), if_neg h2, if_neg (by rw [h3]; decide), if_neg h4]
end Hs
