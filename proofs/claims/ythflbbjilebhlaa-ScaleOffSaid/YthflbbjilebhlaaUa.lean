/- Cases of scales as plain data: what is checked, how heights are cut, how false roads are. No program is named here. -/
namespace Sc
def inB (lo hi x : Int) : Bool := decide (lo ≤ x) && decide (x ≤ hi)
abbrev Scl := Int × Int
structure Cse where
  kind : Int
  base : Int
  most : Int
  hs : List Int
  rds : List (Int × Int)
structure Mrk where
  pt : Int
  lo : Int
  hi : Int
  deriving Inhabited
/-- The first one of so many from one on that is not 0, and what it is. -/
def firstW (f : Nat → Int) : Nat → Nat → Int × Int
  | _, 0 => (0, 0)
  | k, g + 1 => if f k = 0 then firstW f (k + 1) g else (k, f k)
theorem firstW_zero (f : Nat → Int) : ∀ g k, (firstW f k g).2 = 0 ↔ ∀ j, k ≤ j → j < k + g → f j = 0 := by
  intro g
  induction g with
  | zero => intro k; simp [firstW]; intro j h1 h2; omega
  | succ g ih =>
    intro k
    unfold firstW
    by_cases h : f k = 0
    · rw [if_pos h, ih]
      constructor
      · intro hj j h1 h2
        by_cases e : j = k
        · subst e; exact h
        · exact hj j (by omega) (by omega)
      · intro hj j h1 h2
        exact hj j (by omega) (by omega)
    · rw [if_neg h]
      simp only
      constructor
      · intro h'; exact absurd h' h
      · intro hj; exact absurd (hj k (Nat.le_refl _) (by omega)) h
theorem firstW_all (f : Nat → Int) (n : Nat) (h : ∀ j, j < n → f j = 0) : firstW f 0 n = (0, 0) := by
  have key : ∀ g k, k + g = n → firstW f k g = (0, 0) := by
    intro g
    induction g with
    | zero => intro k _; rfl
    | succ g ih =>
      intro k hk
      unfold firstW
      rw [if_pos (h k (by omega))]
      exact ih (k + 1) (by omega)
  exact key n 0 (by omega)
theorem firstW_at (f : Nat → Int) (n k : Nat) (hk : k < n) (h : ∀ j, j < k → f j = 0) (hx : f k ≠ 0) : firstW f 0 n = ((k : Int), f k) := by
  have key : ∀ g i, i + g = n → i ≤ k → firstW f i g = ((k : Int), f k) := by
    intro g
    induction g with
    | zero => intro i h1 h2; omega
    | succ g ih =>
      intro i h1 h2
      unfold firstW
      by_cases e : i = k
      · subst e
        rw [if_neg hx]
      · rw [if_pos (h i (by omega))]
        exact ih (i + 1) (by omega) (by omega)
  exact key n 0 (by omega) (by omega)
def kindB (k : Int) : Bool := k == 1 || k == 2 || k == 3
def htE (c : Cse) (i : Nat) : Int := if inB c.base 9000 (c.hs.getD i 0) = true then 0 else 7
def rdE (n : Nat) (r : Int × Int) : Int := if inB 0 ((n : Int) - 1) r.1 = false ∨ inB 0 ((n : Int) - 1) r.2 = false then 4 else if r.1 = r.2 then 2 else 0
def htsE (c : Cse) : Int × Int := firstW (htE c) 0 c.hs.length
def rdsE (c : Cse) : Int × Int := firstW (fun i => rdE c.hs.length (c.rds.getD i default)) 0 c.rds.length
/-- What Check answers: the part, the index in it, and the error. -/
def checkC (c : Cse) : Int × Int × Int :=
  if kindB c.kind = false then (1, 0, 2)
  else if inB 0 9000 c.base = false ∨ inB 0 100000 c.most = false then (1, 0, 7)
  else if inB 1 8 (c.hs.length : Int) = false ∨ inB 0 8 (c.rds.length : Int) = false then (1, 0, 3)
  else if (htsE c).2 ≠ 0 then (2, (htsE c).1, (htsE c).2)
  else if (rdsE c).2 ≠ 0 then (3, (rdsE c).1, (rdsE c).2)
  else (0, 0, 0)
def errC (c : Cse) : Int := (checkC c).2.2
/-- What a case without an error is. -/
structure Valid (c : Cse) : Prop where
  k1 : 1 ≤ c.kind
  k3 : c.kind ≤ 3
  b0 : 0 ≤ c.base
  b9 : c.base ≤ 9000
  m0 : 0 ≤ c.most
  m1 : c.most ≤ 100000
  n1 : 1 ≤ c.hs.length
  n8 : c.hs.length ≤ 8
  r8 : c.rds.length ≤ 8
  hs : ∀ i, i < c.hs.length → c.base ≤ c.hs.getD i 0 ∧ c.hs.getD i 0 ≤ 9000
  rd : ∀ r, r ∈ c.rds → 0 ≤ r.1 ∧ r.1 < c.hs.length ∧ 0 ≤ r.2 ∧ r.2 < c.hs.length ∧ r.1 ≠ r.2
theorem kindB_iff (k : Int) : kindB k = true ↔ 1 ≤ k ∧ k ≤ 3 := by
  unfold kindB
  simp only [Bool.or_eq_true, beq_iff_eq]
  omega
theorem valid_of {c : Cse} (h : errC c = 0) : Valid c := by
  unfold errC checkC at h
  split at h
  · simp at h
  · rename_i h1
    split at h
    · simp at h
    · rename_i h2
      split at h
      · simp at h
      · rename_i h3
        split at h
        · rename_i h4; exact absurd h h4
        · rename_i h4
          split at h
          · rename_i h5; exact absurd h h5
          · rename_i h5
            simp only [inB, Bool.and_eq_false_iff, decide_eq_false_iff_not, not_or, Classical.not_not, ne_eq, Bool.not_eq_false] at h1 h2 h3 h4 h5
            rw [kindB_iff] at h1
            have k4 := (firstW_zero _ _ _).1 h4
            have k5 := (firstW_zero _ _ _).1 h5
            refine ⟨h1.1, h1.2, h2.1.1, h2.1.2, h2.2.1, h2.2.2, by omega, by omega, by omega, fun i hi => ?_, fun r hr => ?_⟩
            · have := k4 i (Nat.zero_le _) (by omega)
              unfold htE inB at this
              split at this
              · rename_i hh; simp only [Bool.and_eq_true, decide_eq_true_eq] at hh; exact hh
              · omega
            · obtain ⟨i, hi, rfl⟩ := List.getElem_of_mem hr
              have := k5 i (Nat.zero_le _) (by omega)
              simp only [List.getD_eq_getElem?_getD, List.getElem?_eq_getElem hi, Option.getD_some] at this
              unfold rdE inB at this
              split at this
              · omega
              · rename_i q1
                split at this
                · omega
                · rename_i q2
                  simp only [Bool.and_eq_false_iff, decide_eq_false_iff_not, not_or, Classical.not_not] at q1
                  omega
/-- Have two numbers a common divisor above 1? -/
def comB (u d : Int) : Bool := (List.range 31).any fun k => decide (2 ≤ k) && decide (u % (k : Int) = 0) && decide (d % (k : Int) = 0)
/-- The error of a scale. -/
def sclE (s : Scl) : Int := if inB 1 30 s.1 = false ∨ inB 1 30 s.2 = false then 7 else if comB s.1 s.2 = true then 6 else 0
theorem sclE_zero {s : Scl} (h : sclE s = 0) : 1 ≤ s.1 ∧ s.1 ≤ 30 ∧ 1 ≤ s.2 ∧ s.2 ≤ 30 ∧ comB s.1 s.2 = false := by
  unfold sclE inB at h
  split at h
  · omega
  · rename_i h1
    split at h
    · omega
    · rename_i h2
      simp only [Bool.and_eq_false_iff, decide_eq_false_iff_not, not_or, Classical.not_not] at h1
      exact ⟨h1.1.1, h1.1.2, h1.2.1, h1.2.2, by simpa using h2⟩
/-- How a number divided by another one is rounded. -/
def rndK (kind n d : Int) : Int := if kind = 1 then n / d else if kind = 2 then (2 * n + d) / (2 * d) else (n + d - 1) / d
/-- The cut of a height. -/
def cutH (c : Cse) (s : Scl) (h : Int) : Int := rndK c.kind ((h - c.base) * s.1) s.2
def cutsC (c : Cse) (s : Scl) : List Int := c.hs.map (cutH c s)
theorem div_le {n d m : Int} (hd : 0 < d) (h : n ≤ m * d) : n / d ≤ m := by
  have := Int.ediv_le_ediv hd h
  rwa [Int.mul_ediv_cancel _ (by omega)] at this
theorem le_div {n d m : Int} (hd : 0 < d) (h : m * d ≤ n) : m ≤ n / d := (Int.le_ediv_iff_mul_le hd).2 h
theorem rndK_bd (kind n d : Int) (hn : 0 ≤ n) (hd : 1 ≤ d) : 0 ≤ rndK kind n d ∧ rndK kind n d ≤ n := by
  have h1 : n ≤ n * d := by
    have := Int.mul_le_mul_of_nonneg_left hd hn
    rwa [Int.mul_one] at this
  unfold rndK
  split
  · exact ⟨Int.ediv_nonneg hn (by omega), div_le (by omega) h1⟩
  · split
    · refine ⟨Int.ediv_nonneg (by omega) (by omega), Int.lt_add_one_iff.1 (Int.ediv_lt_of_lt_mul (by omega) ?_)⟩
      have h4 : n * 2 ≤ n * (2 * d) := Int.mul_le_mul_of_nonneg_left (by omega) hn
      rw [Int.add_mul, Int.one_mul]
      omega
    · refine ⟨Int.ediv_nonneg (by omega) (by omega), ?_⟩
      by_cases h0 : n = 0
      · subst h0
        rw [Int.ediv_eq_zero_of_lt (by omega) (by omega)]
        exact Int.le_refl _
      · refine div_le (by omega) ?_
        have h5 : n * d = n + n * (d - 1) := by rw [Int.mul_sub, Int.mul_one]; omega
        have h6 : d - 1 ≤ n * (d - 1) := by
          have := Int.mul_le_mul_of_nonneg_right (show 1 ≤ n by omega) (show 0 ≤ d - 1 by omega)
          rwa [Int.one_mul] at this
        omega
/-- What the reference makes of a cut. -/
theorem rndK_ref (kind n d : Int) (hk : 1 ≤ kind ∧ kind ≤ 3) (hd : 1 ≤ d) :
    rndK kind n d = if (kind = 3 ∧ 0 < n % d) ∨ (kind = 2 ∧ d ≤ 2 * (n % d)) then n / d + 1 else n / d := by
  have h1 := Int.mul_ediv_add_emod n d
  have h2 := Int.emod_nonneg n (show d ≠ 0 by omega)
  have h3 := Int.emod_lt_of_pos n (show 0 < d by omega)
  generalize n / d = q at *
  generalize n % d = r at *
  have key : ∀ (m e k t : Int), 0 < e → m = e * k + t → 0 ≤ t → t < e → m / e = k := by
    intro m e k t he hm h0 ht
    rw [hm, Int.mul_comm, Int.add_comm, Int.add_mul_ediv_right _ _ (by omega), Int.ediv_eq_zero_of_lt h0 ht]
    omega
  unfold rndK
  by_cases k1 : kind = 1
  · rw [if_pos k1, if_neg (by omega)]
    exact key n d q r (by omega) h1.symm h2 h3
  · rw [if_neg k1]
    by_cases k2 : kind = 2
    · rw [if_pos k2]
      by_cases hr : d ≤ 2 * r
      · rw [if_pos (.inr ⟨k2, hr⟩)]
        refine key _ (2 * d) (q + 1) (2 * r - d) (by omega) ?_ (by omega) (by omega)
        rw [← h1, Int.mul_add, Int.mul_add, Int.mul_assoc]
        omega
      · rw [if_neg (by omega)]
        refine key _ (2 * d) q (2 * r + d) (by omega) ?_ (by omega) (by omega)
        rw [← h1, Int.mul_add, Int.mul_assoc]
        omega
    · rw [if_neg k2]
      by_cases hr : 0 < r
      · rw [if_pos (.inl ⟨by omega, hr⟩)]
        refine key _ d (q + 1) (r - 1) (by omega) ?_ (by omega) (by omega)
        rw [← h1, Int.mul_add]
        omega
      · rw [if_neg (by omega)]
        refine key _ d q (d - 1) (by omega) ?_ (by omega) (by omega)
        rw [← h1]
        omega
theorem mul_bd {a b x y : Int} (h1 : 0 ≤ a) (h2 : a ≤ x) (h3 : 0 ≤ b) (h4 : b ≤ y) : 0 ≤ a * b ∧ a * b ≤ x * y :=
  ⟨Int.mul_nonneg h1 h3, Int.mul_le_mul h2 h4 h3 (by omega)⟩
theorem cutH_bd (c : Cse) (s : Scl) (h : Int) (hv : c.base ≤ h ∧ h ≤ 9000) (hb : 0 ≤ c.base) (hs : 1 ≤ s.1 ∧ s.1 ≤ 30 ∧ 1 ≤ s.2) : 0 ≤ cutH c s h ∧ cutH c s h ≤ 270000 := by
  have h1 := mul_bd (a := h - c.base) (b := s.1) (x := 9000) (y := 30) (by omega) (by omega) (by omega) hs.2.1
  have h2 := rndK_bd c.kind ((h - c.base) * s.1) s.2 h1.1 hs.2.2
  unfold cutH
  omega
def at0 (l : List Int) (i : Int) : Int := l.getD i.toNat 0
/-- A number without its sign. -/
def absZ (n : Int) : Int := max n (-n)
/-- By how much a road is false. -/
def offR (c : Cse) (s : Scl) (r : Int × Int) : Int :=
  if s.1 * (at0 c.hs r.2 - at0 c.hs r.1) = 0 then 0
  else (absZ (s.2 * (at0 (cutsC c s) r.2 - at0 (cutsC c s) r.1) - s.1 * (at0 c.hs r.2 - at0 c.hs r.1)) * 1000 + absZ (s.1 * (at0 c.hs r.2 - at0 c.hs r.1)) - 1) / absZ (s.1 * (at0 c.hs r.2 - at0 c.hs r.1))
/-- Is a road flat? -/
def flatR (c : Cse) (s : Scl) (r : Int × Int) : Bool := decide (at0 c.hs r.2 - at0 c.hs r.1 ≠ 0) && decide (at0 (cutsC c s) r.2 - at0 (cutsC c s) r.1 = 0)
/-- Does a scale fit on the board? -/
def fitsB (c : Cse) (s : Scl) : Bool := (cutsC c s).all fun x => decide (x ≤ c.most)
def markB (c : Cse) (s : Scl) (m : Mrk) : Bool := inB m.lo m.hi (at0 (cutsC c s) m.pt)
/-- The error of a mark, and of marks. -/
def mrkE (n : Nat) (m : Mrk) : Int := if inB 0 ((n : Int) - 1) m.pt = false then 4 else if inB 0 100000 m.lo = false ∨ inB 0 100000 m.hi = false then 7 else if m.hi < m.lo then 2 else 0
def mksGo (n : Nat) : List Mrk → Int
  | [] => 0
  | m :: l => if mrkE n m = 0 then mksGo n l else mrkE n m
def mksE (n : Nat) (l : List Mrk) : Int := if 8 < l.length then 3 else mksGo n l
/-- All scales between two, the lesser ones first. -/
def sbL : Nat → Scl → Scl → List Scl
  | 0, _, _ => []
  | f + 1, a, b => if 30 < max (a.1 + b.1) (a.2 + b.2) then [] else sbL f a (a.1 + b.1, a.2 + b.2) ++ (a.1 + b.1, a.2 + b.2) :: sbL f (a.1 + b.1, a.2 + b.2) b
def asc : List Scl := sbL 61 (0, 1) (1, 0)
def desc : List Scl := sbL 61 (1, 0) (0, 1)
def lessS (a b : Scl) : Bool := decide (a.1 * b.2 < b.1 * a.2)
/-- The greatest one of the first so many numbers that divides both. -/
def gdK (u d : Int) : Nat → Int
  | 0 => 1
  | m + 1 => if u % ((m : Int) + 1) = 0 ∧ d % ((m : Int) + 1) = 0 then (m : Int) + 1 else gdK u d m
theorem gdK_bd (u d : Int) : ∀ m : Nat, 1 ≤ gdK u d m ∧ gdK u d m ≤ m + 1 := by
  intro m
  induction m with
  | zero => simp [gdK]
  | succ m ih =>
    unfold gdK
    split <;> omega
theorem gdK_one (u d : Int) : ∀ m : Nat, gdK u d m = 1 ↔ ∀ k : Nat, 2 ≤ k → k ≤ m → ¬ (u % (k : Int) = 0 ∧ d % (k : Int) = 0) := by
  intro m
  induction m with
  | zero => constructor
            · intro _ k h1 h2; omega
            · intro _; rfl
  | succ m ih =>
    unfold gdK
    by_cases h : u % ((m : Int) + 1) = 0 ∧ d % ((m : Int) + 1) = 0
    · rw [if_pos h]
      constructor
      · intro e k h1 h2
        have : m = 0 := by omega
        omega
      · intro hk
        by_cases hm : m = 0
        · omega
        · exact absurd h (hk (m + 1) (by omega) (Nat.le_refl _))
    · rw [if_neg h, ih]
      constructor
      · intro hk k h1 h2
        by_cases e : k = m + 1
        · subst e; exact h
        · exact hk k h1 (by omega)
      · intro hk k h1 h2; exact hk k h1 (by omega)
theorem div_self_iff {u g : Int} (hu : 1 ≤ u) (hg : 1 ≤ g) : u / g = u ↔ g = 1 := by
  constructor
  · intro h
    by_cases e : g = 1
    · exact e
    · have h1 : u / g * g ≤ u := Int.ediv_mul_le u (by omega)
      rw [h] at h1
      have h2 : u * 2 ≤ u * g := Int.mul_le_mul_of_nonneg_left (by omega) (by omega)
      omega
  · rintro rfl; simp
theorem lowest_iff (u d : Int) (hu : 1 ≤ u ∧ u ≤ 30) (hd : 1 ≤ d ∧ d ≤ 30) (m : Nat) (hm : (m : Int) = min u d) :
    (u / gdK u d m = u ∧ d / gdK u d m = d) ↔ comB u d = false := by
  have hb := gdK_bd u d m
  rw [div_self_iff hu.1 hb.1, div_self_iff hd.1 hb.1, and_self, gdK_one]
  unfold comB
  rw [List.any_eq_false]
  constructor
  · intro h k hk
    simp only [Bool.and_eq_true, decide_eq_true_eq]
    rintro ⟨⟨h1, h2⟩, h3⟩
    refine h k h1 ?_ ⟨h2, h3⟩
    have q : ∀ x : Int, 1 ≤ x → x % (k : Int) = 0 → (k : Int) ≤ x := fun x hx h => Int.le_of_dvd (by omega) (Int.dvd_of_emod_eq_zero h)
    have := q u hu.1 h2
    have := q d hd.1 h3
    omega
  · intro h k h1 h2 h3
    have := h k (List.mem_range.2 (by omega))
    simp only [Bool.and_eq_true, decide_eq_true_eq] at this
    exact this ⟨⟨h1, h3.1⟩, h3.2⟩
end Sc
