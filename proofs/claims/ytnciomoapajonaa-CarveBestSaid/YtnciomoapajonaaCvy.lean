/- Package carve: the passes, as they are counted. -/
import Derived.Test.YtnciomoapajonaaCvw
import Derived.Test.YtnciomoapajonaaShelf
set_option linter.unusedSimpArgs false
set_option linter.unusedVariables false
namespace Go.Proofs.Ytnciomoapajonaa
open Go Go.RowKit Cv

def setLast (acc : List (Int × Int)) (k : Int) : List (Int × Int) := acc.set (acc.length - 1) ((acc.getD (acc.length - 1) (0, 0)).1, k)
/-- The passes of a level, with one point more. -/
def passStep (d : List Int) (L : Int) (acc : List (Int × Int)) (k : Nat) : List (Int × Int) :=
  if d.getD k 0 ≤ L then acc else if 0 < k ∧ L < d.getD (k - 1) 0 then setLast acc k else acc ++ [((k : Int), (k : Int))]
def passIn (d : List Int) (L : Int) (acc : List (Int × Int)) : Nat → List (Int × Int)
  | 0 => acc
  | k + 1 => passStep d L (passIn d L acc k) k
def passOut (d : List Int) : Nat → List (Int × Int)
  | 0 => []
  | L + 1 => passIn d (L : Int) (passOut d L) d.length
/-- The passes that carve so deep. -/
def passL (d : List Int) : List (Int × Int) := passOut d (Lib.maxOf d).toNat
theorem setLast_length (acc : List (Int × Int)) (k : Int) : (setLast acc k).length = acc.length := by simp [setLast]
theorem passStep_length (d : List Int) (L : Int) (acc : List (Int × Int)) (k : Nat) : (passStep d L acc k).length ≤ acc.length + 1 := by
  unfold passStep
  split
  · omega
  · split
    · rw [setLast_length]; omega
    · simp
theorem passIn_length (d : List Int) (L : Int) (acc : List (Int × Int)) : ∀ k, (passIn d L acc k).length ≤ acc.length + k := by
  intro k
  induction k with
  | zero => simp [passIn]
  | succ k ih =>
    have := passStep_length d L (passIn d L acc k) k
    show (passStep d L (passIn d L acc k) k).length ≤ _
    omega
theorem passOut_length (d : List Int) : ∀ L, (passOut d L).length ≤ L * d.length := by
  intro L
  induction L with
  | zero => simp [passOut]
  | succ L ih =>
    have := passIn_length d L (passOut d L) d.length
    show (passIn d L (passOut d L) d.length).length ≤ _
    rw [Nat.succ_mul]
    omega
theorem passIn_ne (d : List Int) (L : Int) (acc : List (Int × Int)) : ∀ k, L < d.getD k 0 → 0 < (passIn d L acc (k + 1)).length := by
  intro k
  induction k with
  | zero =>
    intro h
    show 0 < (passStep d L acc 0).length
    unfold passStep
    rw [if_neg (by omega), if_neg (by simp)]
    simp
  | succ k ih =>
    intro h
    show 0 < (passStep d L (passIn d L acc (k + 1)) (k + 1)).length
    unfold passStep
    rw [if_neg (by omega)]
    split
    · rename_i q
      rw [setLast_length]
      exact ih (by simpa using q.2)
    · simp
/-- The cells of passes. -/
def passC (acc : List (Int × Int)) : List Value := acc.flatMap fun p => [.int .i64 p.1, .int .i64 p.2]
theorem passC_length (acc : List (Int × Int)) : (passC acc).length = acc.length * 2 := by
  induction acc with
  | nil => rfl
  | cons p l ih => simp only [passC, List.flatMap_cons] at ih ⊢; simp [ih]; omega
theorem passC_append (a b : List (Int × Int)) : passC (a ++ b) = passC a ++ passC b := by simp [passC]
theorem passC_set : ∀ (acc : List (Int × Int)) (i : Nat) (k : Int), i < acc.length → (passC acc).set (i * 2 + 1) (.int .i64 k) = passC (acc.set i ((acc.getD i (0, 0)).1, k)) := by
  intro acc
  induction acc with
  | nil => intro i k h; simp at h
  | cons p l ih =>
    intro i k h
    cases i with
    | zero => simp [passC]
    | succ i =>
      have := ih i k (by simpa using h)
      have e : passC (p :: l) = .int .i64 p.1 :: .int .i64 p.2 :: passC l := by simp [passC]
      have e2 : passC ((p :: l).set (i + 1) (((p :: l).getD (i + 1) (0, 0)).1, k)) = .int .i64 p.1 :: .int .i64 p.2 :: passC (l.set i ((l.getD i (0, 0)).1, k)) := by simp [passC]
      rw [e, e2, show (i + 1) * 2 + 1 = (i * 2 + 1) + 1 + 1 by omega, List.set_cons_succ, List.set_cons_succ, this]
theorem passC_last (acc : List (Int × Int)) (k : Int) (h : 0 < acc.length) : (passC acc).set ((acc.length - 1) * 2 + 1) (.int .i64 k) = passC (setLast acc k) := passC_set acc _ k (by omega)
theorem passInfo : (Try.prog.info? 90).map (fun i => (i.zero, i.size, i.bytes)) = some (some (.agg #[.int .i64 0, .int .i64 0]), 2, 16) := by kernel_rfl
theorem maxOf_any (v : Value) (d : List Int) (w : World) (hD : IntsAt w v d) (h1 : 0 < d.length) : Calls Try.prog 82 #[v] w fun e w' => e = .returned (.int .i64 (Lib.maxOf d)) ∧ w' = w := by
  obtain ⟨hm, a, cap, rfl, hc, h2⟩ := hD
  obtain ⟨b, o, rfl, hk⟩ := h2 (by rintro rfl; simp at h1)
  have h := Try.slices_Max_int b o d.length cap d w h1 (Nat.le_refl _) (by omega) (fun j hj => by rw [hk j hj]; simp [List.getD_eq_getElem?_getD, hj])
  rw [List.take_length] at h
  exact h
end Go.Proofs.Ytnciomoapajonaa
