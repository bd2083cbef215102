/- Cases of edges as plain data; what package edge says of sheets and edges by themselves. No program is named here. -/
import Derived.Test.YtojdocomkhihoaaSName
set_option linter.unusedSimpArgs false
set_option linter.unusedVariables false
namespace Ed
def inB (lo hi x : Int) : Bool := decide (lo ≤ x) && decide (x ≤ hi)
structure Sht where
  nm : ByteArray
  wt : Int
  most : Int
instance : Inhabited Sht := ⟨⟨⟨#[]⟩, 0, 0⟩⟩
structure Edg where
  a : Int
  b : Int
  pts : List (Int × Int)
  deriving Inhabited
structure Cas where
  tol : Int
  shs : List Sht
  eds : List Edg
/-- The first one of so many from one on that is not 0, and what it is. -/
def firstW (f : Nat → Int) : Nat → Nat → Int × Int
  | _, 0 => (0, 0)
  | k, g + 1 => if f k = 0 then firstW f (k + 1) g else (k, f k)
theorem firstW_zero (f : Nat → Int) : ∀ g k, (firstW f k g).2 = 0 ↔ ∀ j, k ≤ j → j < k + g → f j = 0 := by
  intro g
  induction g with
  | zero => intro k; simp [firstW]; intro j h1 h2; omega
  | succ g ih =>
    intro k
    unfold firstW
    by_cases h : f k = 0
    · rw [if_pos h, ih]
      constructor
      · intro hj j h1 h2
        by_cases e : j = k
        · subst e; exact h
        · exact hj j (by omega) (by omega)
      · intro hj j h1 h2
        exact hj j (by omega) (by omega)
    · rw [if_neg h]
      simp only
      constructor
      · intro h'; exact absurd h' h
      · intro hj; exact absurd (hj k (Nat.le_refl _) (by omega)) h
theorem firstW_all (f : Nat → Int) (n : Nat) (h : ∀ j, j < n → f j = 0) : firstW f 0 n = (0, 0) := by
  have key : ∀ g k, k + g = n → firstW f k g = (0, 0) := by
    intro g
    induction g with
    | zero => intro k _; rfl
    | succ g ih =>
      intro k hk
      unfold firstW
      rw [if_pos (h k (by omega))]
      exact ih (k + 1) (by omega)
  exact key n 0 (by omega)
theorem firstW_at (f : Nat → Int) (n k : Nat) (hk : k < n) (h : ∀ j, j < k → f j = 0) (hx : f k ≠ 0) : firstW f 0 n = ((k : Int), f k) := by
  have key : ∀ g i, i + g = n → i ≤ k → firstW f i g = ((k : Int), f k) := by
    intro g
    induction g with
    | zero => intro i h1 h2; omega
    | succ g ih =>
      intro i h1 h2
      unfold firstW
      by_cases e : i = k
      · subst e
        rw [if_neg hx]
      · rw [if_pos (h i (by omega))]
        exact ih (i + 1) (by omega) (by omega)
  exact key n 0 (by omega) (by omega)
/-- The error of a sheet behind others. -/
def shErr (before : List Sht) (s : Sht) : Int :=
  if Go.Proofs.Ytojdocomkhihoaa.Sht.nameB s.nm.data.toList = false then 6
  else if before.any (fun b => b.nm.toList == s.nm.toList) = true then 5
  else if inB 0 20 s.wt = false ∨ inB 0 6 s.most = false then 7
  else 0
/-- The error of an edge between so many sheets. -/
def ptB (p : Int × Int) : Bool := inB 0 9000 p.1 && inB 0 9000 p.2
def edErr (n : Nat) (d : Edg) : Int :=
  if inB 0 ((n : Int) - 1) d.a = false ∨ inB 0 ((n : Int) - 1) d.b = false then 4
  else if d.a = d.b then 2
  else if inB 1 4 (d.pts.length : Int) = false then 3
  else if d.pts.all ptB = false then 7
  else 0
/-- What Check answers: the part, the index in it, and the error. -/
def shsE (c : Cas) : Int × Int := firstW (fun i => shErr (c.shs.take i) (c.shs.getD i default)) 0 c.shs.length
def edsE (c : Cas) : Int × Int := firstW (fun i => edErr c.shs.length (c.eds.getD i default)) 0 c.eds.length
def checkC (c : Cas) : Int × Int × Int :=
  if inB 0 50 c.tol = false then (1, 0, 7)
  else if inB 1 5 (c.shs.length : Int) = false ∨ 8 < c.eds.length then (1, 0, 3)
  else if (shsE c).2 ≠ 0 then (2, (shsE c).1, (shsE c).2)
  else if (edsE c).2 ≠ 0 then (3, (edsE c).1, (edsE c).2)
  else (0, 0, 0)
def errC (c : Cas) : Int := (checkC c).2.2
structure ShtOk (s : Sht) : Prop where
  w0 : 0 ≤ s.wt
  w20 : s.wt ≤ 20
  m0 : 0 ≤ s.most
  m6 : s.most ≤ 6
structure EdgOk (n : Nat) (d : Edg) : Prop where
  a0 : 0 ≤ d.a
  an : d.a < n
  b0 : 0 ≤ d.b
  bn : d.b < n
  ne : d.a ≠ d.b
  p1 : 1 ≤ d.pts.length
  p4 : d.pts.length ≤ 4
  pt : ∀ p, p ∈ d.pts → 0 ≤ p.1 ∧ p.1 ≤ 9000 ∧ 0 ≤ p.2 ∧ p.2 ≤ 9000
theorem shErr_zero {before : List Sht} {s : Sht} (h : shErr before s = 0) : ShtOk s := by
  unfold shErr at h
  split at h
  · omega
  · split at h
    · omega
    · split at h
      · omega
      · rename_i h3
        simp only [inB, Bool.and_eq_false_iff, decide_eq_false_iff_not, not_or, Classical.not_not] at h3
        exact ⟨h3.1.1, h3.1.2, h3.2.1, h3.2.2⟩
theorem edErr_zero {n : Nat} {d : Edg} (h : edErr n d = 0) : EdgOk n d := by
  unfold edErr at h
  split at h
  · omega
  · rename_i h1
    split at h
    · omega
    · rename_i h2
      split at h
      · omega
      · rename_i h3
        split at h
        · omega
        · rename_i h4
          simp only [inB, Bool.and_eq_false_iff, decide_eq_false_iff_not, not_or, Classical.not_not] at h1 h3
          simp only [Bool.not_eq_false, List.all_eq_true] at h4
          refine ⟨h1.1.1, by omega, h1.2.1, by omega, h2, by omega, by omega, fun p hp => ?_⟩
          have := h4 p hp
          simp only [ptB, inB, Bool.and_eq_true, decide_eq_true_eq] at this
          omega
/-- What a case without an error is. -/
structure Valid (c : Cas) : Prop where
  t0 : 0 ≤ c.tol
  t50 : c.tol ≤ 50
  n1 : 1 ≤ c.shs.length
  n5 : c.shs.length ≤ 5
  m8 : c.eds.length ≤ 8
  sh : ∀ s, s ∈ c.shs → ShtOk s
  ed : ∀ d, d ∈ c.eds → EdgOk c.shs.length d
theorem valid_of {c : Cas} (h : errC c = 0) : Valid c := by
  unfold errC checkC at h
  split at h
  · simp at h
  · rename_i h1
    split at h
    · simp at h
    · rename_i h2
      split at h
      · rename_i h3; exact absurd h h3
      · rename_i h3
        split at h
        · rename_i h4; exact absurd h h4
        · rename_i h4
          simp only [inB, Bool.and_eq_false_iff, decide_eq_false_iff_not, not_or, Classical.not_not, ne_eq] at h1 h2 h3 h4
          have k3 := (firstW_zero _ _ _).1 h3
          have k4 := (firstW_zero _ _ _).1 h4
          refine ⟨h1.1, h1.2, by omega, by omega, by omega, fun s hs => ?_, fun d hd => ?_⟩
          · obtain ⟨i, hi, rfl⟩ := List.getElem_of_mem hs
            have := k3 i (Nat.zero_le _) (by omega)
            simp only [List.getD_eq_getElem?_getD, List.getElem?_eq_getElem hi, Option.getD_some] at this
            exact shErr_zero this
          · obtain ⟨i, hi, rfl⟩ := List.getElem_of_mem hd
            have := k4 i (Nat.zero_le _) (by omega)
            simp only [List.getD_eq_getElem?_getD, List.getElem?_eq_getElem hi, Option.getD_some] at this
            exact edErr_zero this
end Ed
