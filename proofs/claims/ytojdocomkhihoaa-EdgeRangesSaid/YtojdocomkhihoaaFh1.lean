/- Package edge: has of a set, across. -/
import Derived.Test.YtojdocomkhihoaaEy
import Derived.WalkSmall
set_option linter.unusedSimpArgs false
set_option linter.unusedVariables false
namespace Go.Proofs.Ytojdocomkhihoaa
open Go Go.RowKit Ed

/-- The other sheet of an edge, and what a push to there adds to the edge's number. -/
def acrS (d : Edg) (from_ : Int) : Int × Int := if from_ = d.a then (d.b, 1) else if from_ = d.b then (d.a, -1) else (0, 0)
theorem across_any (d : Edg) (pv : Value) (x : Int) (w : World) : Calls Try.prog 111 #[.agg #[.int .i64 d.a, .int .i64 d.b, pv], .int .i64 x] w fun e w' => e = .returned (.tuple #[.int .i64 (acrS d x).1, .int .i64 (acrS d x).2]) ∧ Below w.heap.size w w' := by
  obtain ⟨a, b, ps⟩ := d
  unfold acrS
  simp only
  by_cases h1 : x = a
  · rw [if_pos h1]
    go_enter Try.func111, Try.ntmps111
    go_wp2
    go_ret2
    exact ⟨rfl, by go_grown⟩
  · rw [if_neg h1]
    by_cases h2 : x = b
    · rw [if_pos h2]
      go_enter Try.func111, Try.ntmps111
      go_wp2
      go_ret2
      exact ⟨rfl, by go_grown⟩
    · rw [if_neg h2]
      go_enter Try.func111, Try.ntmps111
      go_wp2
      go_ret2
      exact ⟨rfl, by go_grown⟩
theorem bit_is (s n : Nat) (hs : s < 4294967296) : (bits .and .u64 ((s : Int) / 2 ^ n) 1 == 1) = s.testBit n := by
  have e : ((s : Int) / 2 ^ n) = ((s / 2 ^ n : Nat) : Int) := by push_cast; rfl
  have l : s / 2 ^ n ≤ s := Nat.div_le_self ..
  rw [e, Nat.testBit_eq_decide_div_mod_eq]
  generalize s / 2 ^ n = q at *
  rw [and_one_u64 _ (by omega) (by omega)]
  by_cases h : q % 2 = 1
  · simp only [h, decide_true, beq_iff_eq]; omega
  · simp only [h, decide_false, beq_eq_false_iff_ne]; omega
theorem has_any (s n : Nat) (hs : s < 4294967296) (hn : n < 64) (w : World) : Calls Try.prog 107 #[.int .u64 s, .int .i64 n] w fun e w' => e = .returned (.bool (s.testBit n)) ∧ w = w' := by
  have nI : (n : Int) < 64 := by omega
  have n0 : 0 ≤ (n : Int) := by omega
  have HB := Lib.hid (bit_is s n hs)
  go_enter Try.func107, Try.ntmps107
  go_wp2
  go_ret
  exact ⟨congrArg (fun b => Ending.returned (.bool b)) HB.out, rfl⟩
end Go.Proofs.Ytojdocomkhihoaa
