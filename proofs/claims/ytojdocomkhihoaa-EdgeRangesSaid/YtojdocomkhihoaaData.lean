/- Sheets and notes as plain data; what package sheet says of a note. No program is named here. -/
namespace Hs
/-- A note. -/
structure Note where
  k : Int
  a : Int
  b : Int
  lo : Int
  hi : Int
  deriving DecidableEq, Inhabited
/-- A sheet. -/
structure Sheet where
  iv : Int
  pts : List ByteArray
  notes : List Note
def withinB (lo hi : Int) (l : List Int) : Bool := l.all fun n => decide (lo ≤ n) && decide (n ≤ hi)
/-- The ends that By may have. -/
def endLo (n : Note) : Int := if n.k = 4 then -9000 else 0
def endHi (iv : Int) (n : Note) : Int := if n.k = 2 then 9000 / iv else if n.k = 3 then 0 else 9000
/-- The point above which A is, or ground (8). -/
def over (n : Note) : Int := if n.k = 1 ∨ n.k = 2 then 8 else n.b
/-- By how much A is above it. -/
def loOf (iv : Int) (n : Note) : Int := if n.k = 2 then n.lo * iv else n.lo
def hiOf (iv : Int) (n : Note) : Int := if n.k = 2 then n.hi * iv else n.hi
def kindB (n : Note) : Bool := decide (1 ≤ n.k) && decide (n.k ≤ 4)
/-- The error of a note of a sheet with so many points. -/
def noteErr (iv : Int) (np : Int) (n : Note) : Int :=
  if kindB n = false then 6
  else if withinB 0 (np - 1) [n.a, n.b] = false then 4
  else if over n = n.a ∨ over n = 8 ∧ n.b ≠ 0 then 2
  else if withinB (endLo n) (endHi iv n) [n.lo, n.hi] = false then 7
  else if n.hi < n.lo ∨ n.k = 2 ∧ n.lo = n.hi then 2
  else 0
/-- What a note without an error is. -/
structure NoteOk (iv : Int) (n : Note) : Prop where
  kind : n.k = 1 ∨ n.k = 2 ∨ n.k = 3 ∨ n.k = 4
  a0 : 0 ≤ n.a
  a8 : n.a ≤ 7
  o0 : 0 ≤ over n
  o8 : over n ≤ 8
  b0 : 0 ≤ n.b
  b8 : n.b ≤ 7
  ne : over n ≠ n.a
  l0 : -9000 ≤ loOf iv n
  l9 : loOf iv n ≤ 9000
  h0 : -9000 ≤ hiOf iv n
  h9 : hiOf iv n ≤ 9000
  le : loOf iv n ≤ hiOf iv n
  c0 : n.k = 2 → 0 ≤ n.lo * iv ∧ n.hi * iv ≤ 9000 ∧ n.lo * iv ≤ n.hi * iv
theorem div_mul_le (iv x : Int) (h : 1 ≤ iv) (hx : x ≤ 9000 / iv) : x * iv ≤ 9000 := by
  have h1 := Int.mul_le_mul_of_nonneg_right hx (show 0 ≤ iv by omega)
  have h2 : 9000 / iv * iv ≤ 9000 := Int.ediv_mul_le 9000 (show iv ≠ 0 by omega)
  omega
theorem noteOk_of (iv : Int) (np : Int) (n : Note) (hiv : 1 ≤ iv) (hnp : np ≤ 8) (h : noteErr iv np n = 0) : NoteOk iv n := by
  unfold noteErr at h
  split at h
  · cases h
  split at h
  · cases h
  split at h
  · cases h
  split at h
  · cases h
  split at h
  · cases h
  rename_i h1 h2 h3 h4 h5
  have hk : 1 ≤ n.k ∧ n.k ≤ 4 := by simpa [kindB] using h1
  have hab : (0 ≤ n.a ∧ n.a ≤ np - 1) ∧ 0 ≤ n.b ∧ n.b ≤ np - 1 := by have q := h2; simp [withinB] at q; omega
  have hlh : (endLo n ≤ n.lo ∧ n.lo ≤ endHi iv n) ∧ endLo n ≤ n.hi ∧ n.hi ≤ endHi iv n := by have q := h4; simp [withinB] at q; omega
  have hover : over n ≠ n.a := fun e => h3 (.inl e)
  have hle : n.lo ≤ n.hi := by
    rcases Int.lt_or_le n.hi n.lo with hl | hl
    · exact absurd (.inl hl) h5
    · exact hl
  have hks : n.k = 1 ∨ n.k = 2 ∨ n.k = 3 ∨ n.k = 4 := by omega
  have hks' := hks
  rcases hks' with e | e | e | e
  · have q1 : over n = 8 := by simp [over, e]
    simp [endLo, endHi, e] at hlh
    exact ⟨hks, by omega, by omega, by omega, by omega, by omega, by omega, hover, by simp [loOf, e]; omega, by simp [loOf, e]; omega, by simp [hiOf, e]; omega, by simp [hiOf, e]; omega, by simp [loOf, hiOf, e]; omega, by omega⟩
  · have q1 : over n = 8 := by simp [over, e]
    simp [endLo, endHi, e] at hlh
    have m1 := div_mul_le iv n.hi hiv hlh.2.2
    have m2 : 0 ≤ n.lo * iv := Int.mul_nonneg hlh.1.1 (by omega)
    have m3 : n.lo * iv ≤ n.hi * iv := Int.mul_le_mul_of_nonneg_right hle (by omega)
    exact ⟨hks, by omega, by omega, by omega, by omega, by omega, by omega, hover, by simp [loOf, e]; omega, by simp [loOf, e]; omega, by simp [hiOf, e]; omega, by simp [hiOf, e]; omega, by simp [loOf, hiOf, e]; omega, fun _ => ⟨m2, m1, m3⟩⟩
  · have q1 : over n = n.b := by simp [over, e]
    simp [endLo, endHi, e] at hlh
    exact ⟨hks, by omega, by omega, by omega, by omega, by omega, by omega, hover, by simp [loOf, e]; omega, by simp [loOf, e]; omega, by simp [hiOf, e]; omega, by simp [hiOf, e]; omega, by simp [loOf, hiOf, e]; omega, by omega⟩
  · have q1 : over n = n.b := by simp [over, e]
    simp [endLo, endHi, e] at hlh
    exact ⟨hks, by omega, by omega, by omega, by omega, by omega, by omega, hover, by simp [loOf, e]; omega, by simp [loOf, e]; omega, by simp [hiOf, e]; omega, by simp [hiOf, e]; omega, by simp [loOf, hiOf, e]; omega, by omega⟩

/-- A bound: the one point, the other one, and by how much it is above it at most. -/
abbrev Bd3 := Fin 9 × Fin 9 × Int
def cl (x : Int) : Int := max (-20000) (min 20000 x)
theorem cl_lo (x : Int) : -20000 ≤ cl x := by unfold cl; omega
theorem cl_hi (x : Int) : cl x ≤ 20000 := by unfold cl; omega
theorem cl_id (x : Int) (h1 : -20000 ≤ x) (h2 : x ≤ 20000) : cl x = x := by unfold cl; omega
def fin9 (z : Int) : Fin 9 := ⟨z.toNat % 9, Nat.mod_lt _ (by decide)⟩
theorem fin9_val (z : Int) (h0 : 0 ≤ z) (h8 : z ≤ 8) : ((fin9 z : Nat) : Int) = z := by
  have : (fin9 z : Nat) = z.toNat % 9 := rfl
  omega
/-- What a note says: two bounds. -/
def bds (iv wd : Int) (n : Note) : List Bd3 := [(fin9 n.a, fin9 (over n), hiOf iv n + wd), (fin9 (over n), fin9 n.a, wd - loOf iv n)]
def bdsL (iv wd : Int) (l : List Note) : List Bd3 := l.flatMap (bds iv wd)
theorem bdsL_take_succ (iv wd : Int) (l : List Note) (k : Nat) (h : k < l.length) : bdsL iv wd (l.take (k + 1)) = bdsL iv wd (l.take k) ++ [(fin9 l[k].a, fin9 (over l[k]), hiOf iv l[k] + wd)] ++ [(fin9 (over l[k]), fin9 l[k].a, wd - loOf iv l[k])] := by
  unfold bdsL
  rw [List.take_succ_eq_append_getElem h, List.flatMap_append]
  simp [bds]
theorem bdsL_length (iv wd : Int) (l : List Note) : (bdsL iv wd l).length = 2 * l.length := by
  unfold bdsL
  induction l with
  | nil => rfl
  | cons x l ih => rw [List.flatMap_cons, List.length_append, ih]; simp [bds]; omega

theorem ne_6 (iv np : Int) (n : Note) (h : kindB n = false) : noteErr iv np n = 6 := by unfold noteErr; rw [if_pos h]
theorem ne_4 (iv np : Int) (n : Note) (h : kindB n = true) (h1 : withinB 0 (np - 1) [n.a, n.b] = false) : noteErr iv np n = 4 := by unfold noteErr; rw [if_neg (by rw [h]; decide), if_pos h1]
theorem ne_2a (iv np : Int) (n : Note) (h : kindB n = true) (h1 : withinB 0 (np - 1) [n.a, n.b] = true) (h2 : over n = n.a ∨ over n = 8 ∧ n.b ≠ 0) : noteErr iv np n = 2 := by
  unfold noteErr; rw [if_neg (by rw [h]; decide), if_neg (by rw [h1]; decide), if_pos h2]
theorem ne_7 (iv np : Int) (n : Note) (h : kindB n = true) (h1 : withinB 0 (np - 1) [n.a, n.b] = true) (h2 : ¬ (over n = n.a ∨ over n = 8 ∧ n.b ≠ 0)) (h3 : withinB (endLo n) (endHi iv n) [n.lo, n.hi] = false) : noteErr iv np n = 7 := by
  unfold noteErr; rw [if_neg (by rw [h]; decide), if_neg (by rw [h1]; decide), if_neg h2, if_pos h3]
theorem ne_2b (iv np : Int) (n : Note) (h : kindB n = true) (h1 : withinB 0 (np - 1) [n.a, n.b] = true) (h2 : ¬ (over n = n.a ∨ over n = 8 ∧ n.b ≠ 0)) (h3 : withinB (endLo n) (endHi iv n) [n.lo, n.hi] = true)
    (h4 : n.hi < n.lo ∨ n.k = 2 ∧ n.lo = n.hi) : noteErr iv np n = 2 := by
  unfold noteErr; rw [if_neg (by rw [h]; decide), if_neg (by rw [h1]; decide), if_neg h2, if_neg (by rw [h3]; decide), if_pos h4]
theorem ne_0 (iv np : Int) (n : Note) (h : kindB n = true) (h1 : withinB 0 (np - 1) [n.a, n.b] = true) (h2 : ¬ (over n = n.a ∨ over n = 8 ∧ n.b ≠ 0)) (h3 : withinB (endLo n) (endHi iv n) [n.lo, n.hi] = true)
    (h4 : ¬ (n.hi < n.lo ∨ n.k = 2 ∧ n.lo = n.hi)) : noteErr iv np n = 0 := by
  unfold noteErr; rw [if_neg (by rw [h]; decide), if_neg (by rw [h1]; decide), if_neg h2, if_neg (by rw [h3]; decide), if_neg h4]
/-- The best list that extend leaves; k numbers are still to be put behind l. -/
def extK (g : List Int → Bool) (n : Nat) : Nat → List Int → List Int → List Int
  | 0, best, _ => best
  | k + 1, best, l =>
    if best ≠ [] ∧ best.length ≤ l.length + 1 then best
    else if g (l ++ [((n - (k + 1) : Nat) : Int)]) then extK g n k (l ++ [((n - (k + 1) : Nat) : Int)]) l
    else extK g n k (extK g n k best (l ++ [((n - (k + 1) : Nat) : Int)])) l
/-- The list of fewest. -/
def fewS (n : Nat) (g : List Int → Bool) : List Int := if g [] then [] else extK g n n [] []
theorem extK_le (g : List Int → Bool) (n : Nat) : ∀ k l best, k ≤ n → l.length ≤ n - k → best.length ≤ n → (extK g n k best l).length ≤ n := by
  intro k
  induction k with
  | zero => intro l best _ _ hb; exact hb
  | succ k ih =>
    intro l best hk hl hb
    rw [extK]
    split
    · exact hb
    · split
      · exact ih _ _ (by omega) (by omega) (by simp; omega)
      · exact ih _ _ (by omega) (by omega) (ih _ _ (by omega) (by simp; omega) hb)
/-- Ascending numbers below n. -/
def Asc (n : Nat) (l : List Int) : Prop := l.Pairwise (· < ·) ∧ ∀ x, x ∈ l → 0 ≤ x ∧ x < (n : Int)
theorem Asc.nil (n : Nat) : Asc n [] := ⟨List.Pairwise.nil, fun _ h => by cases h⟩
theorem Asc.snoc {n : Nat} {l : List Int} {i : Int} (h : Asc n l) (h0 : 0 ≤ i) (hi : i < n) (hl : ∀ x, x ∈ l → x < i) : Asc n (l ++ [i]) := by
  refine ⟨List.pairwise_append.2 ⟨h.1, List.pairwise_singleton _ _, fun a ha b hb => ?_⟩, fun x hx => ?_⟩
  · rw [List.mem_singleton.1 hb]; exact hl a ha
  · rcases List.mem_append.1 hx with h' | h'
    · exact h.2 x h'
    · rw [List.mem_singleton.1 h']; exact ⟨h0, hi⟩
theorem extK_spec (g : List Int → Bool) (n : Nat) : ∀ k l best, k ≤ n → (best = [] ∨ g best = true ∧ Asc n best) → Asc n l → (∀ x, x ∈ l → x < ((n - k : Nat) : Int)) →
    (extK g n k best l = [] ∨ g (extK g n k best l) = true ∧ Asc n (extK g n k best l)) ∧ (best ≠ [] → extK g n k best l ≠ [] ∧ (extK g n k best l).length ≤ best.length) ∧
    ∀ t, t ≠ [] → Asc n (l ++ t) → (∀ x, x ∈ t → ((n - k : Nat) : Int) ≤ x) → g (l ++ t) = true → extK g n k best l ≠ [] ∧ (extK g n k best l).length ≤ (l ++ t).length := by
  intro k
  induction k with
  | zero =>
    intro l best _ hb _ _
    refine ⟨hb, fun h => ⟨h, Nat.le_refl _⟩, fun t ht ha hlo _ => ?_⟩
    match t, ht with
    | x :: t', _ =>
      have h1 := (ha.2 x (by simp)).2
      have h2 := hlo x (by simp)
      omega
  | succ k ih =>
    intro l best hk hb hl hlt
    have hi0 : (0 : Int) ≤ ((n - (k + 1) : Nat) : Int) := by omega
    have hin : ((n - (k + 1) : Nat) : Int) < (n : Int) := by omega
    have hs := hl.snoc hi0 hin hlt
    have hlt' : ∀ x, x ∈ l → x < ((n - k : Nat) : Int) := fun x hx => by have := hlt x hx; omega
    rw [extK]
    split
    · rename_i hc
      refine ⟨hb, fun h => ⟨h, Nat.le_refl _⟩, fun t ht _ _ _ => ⟨hc.1, ?_⟩⟩
      have : 0 < t.length := List.length_pos_iff.2 ht
      have := hc.2
      rw [List.length_append]; omega
    · rename_i hc
      split
      · rename_i hg
        obtain ⟨a, b, _⟩ := ih l (l ++ [((n - (k + 1) : Nat) : Int)]) (by omega) (.inr ⟨hg, hs⟩) hl hlt'
        obtain ⟨b1, b2⟩ := b (by simp)
        rw [List.length_append, List.length_singleton] at b2
        refine ⟨a, fun h => ⟨b1, ?_⟩, fun t ht _ _ _ => ⟨b1, ?_⟩⟩
        · rcases Nat.lt_or_ge (l.length + 1) best.length with q | q
          · omega
          · exact absurd ⟨h, q⟩ hc
        · have : 0 < t.length := List.length_pos_iff.2 ht
          rw [List.length_append]; omega
      · rename_i hg
        obtain ⟨a1, b1, c1⟩ := ih (l ++ [((n - (k + 1) : Nat) : Int)]) best (by omega) hb hs (fun x hx => by
          rcases List.mem_append.1 hx with h' | h'
          · exact hlt' x h'
          · rw [List.mem_singleton.1 h']; omega)
        obtain ⟨a2, b2, c2⟩ := ih l (extK g n k best (l ++ [((n - (k + 1) : Nat) : Int)])) (by omega) a1 hl hlt'
        refine ⟨a2, fun h => ?_, fun t ht ha hlo hgt => ?_⟩
        · obtain ⟨p1, p2⟩ := b1 h
          obtain ⟨q1, q2⟩ := b2 p1
          exact ⟨q1, by omega⟩
        · match t, ht with
          | x :: t', _ =>
            have hpw := (List.pairwise_append.1 ha.1).2.1
            rw [List.pairwise_cons] at hpw
            have hx := hlo x (by simp)
            by_cases he : x = ((n - (k + 1) : Nat) : Int)
            · subst he
              have e : l ++ ((n - (k + 1) : Nat) : Int) :: t' = (l ++ [((n - (k + 1) : Nat) : Int)]) ++ t' := by simp
              by_cases ht' : t' = []
              · subst ht'
                exact absurd hgt hg
              · obtain ⟨p1, p2⟩ := c1 t' ht' (e ▸ ha) (fun y hy => by have := hpw.1 y hy; omega) (e ▸ hgt)
                obtain ⟨q1, q2⟩ := b2 p1
                rw [e]
                exact ⟨q1, by omega⟩
            · refine c2 (x :: t') (by simp) ha (fun y hy => ?_) hgt
              rcases List.mem_cons.1 hy with rfl | hy
              · omega
              · have := hpw.1 y hy; omega
/-- The list of fewest is good if any is, and no shorter one is. -/
theorem fewS_spec (g : List Int → Bool) (n : Nat) : Asc n (fewS n g) ∧ ∀ t, Asc n t → g t = true → g (fewS n g) = true ∧ (fewS n g).length ≤ t.length := by
  unfold fewS
  split
  · rename_i h
    exact ⟨Asc.nil n, fun t _ _ => ⟨h, by simp⟩⟩
  · rename_i h
    obtain ⟨a, _, c⟩ := extK_spec g n n [] [] (Nat.le_refl _) (.inl rfl) (Asc.nil n) (fun x hx => by cases hx)
    refine ⟨?_, fun t ht hg => ?_⟩
    · rcases a with e | e
      · rw [e]; exact Asc.nil n
      · exact e.2
    · have ht0 : t ≠ [] := by rintro rfl; exact h hg
      obtain ⟨p1, p2⟩ := c t ht0 (by simpa using ht) (fun x hx => by have := (ht.2 x hx).1; omega) (by simpa using hg)
      rcases a with e | e
      · exact absurd e p1
      · exact ⟨e.1, by simpa using p2⟩
end Hs
