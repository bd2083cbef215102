/- Package edge: fewer. -/
import Derived.Test.YtojdocomkhihoaaFk1
set_option linter.unusedSimpArgs false
set_option linter.unusedVariables false
namespace Go.Proofs.Ytojdocomkhihoaa
open Go Go.RowKit

/-- Whether a list is shorter, or as long and before. -/
def fewE (s t : List Int) : Bool := decide (s.length < t.length) || (decide (s.length = t.length) && decide (cmpL s t < 0))
set_option maxRecDepth 100000 in
set_option maxHeartbeats 4000000 in
theorem fewer_any (s t : List Int) (u v : Value) (w : World) (hu : IntsAt w u s) (hv : IntsAt w v t) :
    Calls Try.prog 72 #[u, v] w fun e w' => e = .returned (.bool (fewE s t)) ∧ Below w.heap.size w w' := by
  have HC : Hid (∀ W', Below w.heap.size w W' → Calls Try.prog 96 #[u, v] W' fun e w' => e = .returned (.int .i64 (cmpL s t)) ∧ W' = w') := fun W' hb => compare_any s t u v W' (hu.below hb) (hv.below hb)
  obtain ⟨hm, a, cap, rfl, _, hc⟩ := hu
  obtain ⟨hm2, a2, cap2, rfl, _, hc2⟩ := hv
  clear hc hc2
  unfold fewE
  obtain ⟨n, hn⟩ : ∃ n, s.length = n := ⟨_, rfl⟩
  obtain ⟨m, hm'⟩ : ∃ m, t.length = m := ⟨_, rfl⟩
  rw [hn] at hm HC ⊢
  rw [hm'] at hm2 HC ⊢
  clear hn hm'
  obtain ⟨c, hcc⟩ : ∃ c, cmpL s t = c := ⟨_, rfl⟩
  rw [hcc] at HC ⊢
  clear hcc
  rcases Nat.lt_trichotomy n m with h | h | h
  · have kI : (n : Int) < (m : Int) := by omega
    rw [decide_eq_true h, Bool.true_or]
    clear h
    go_enter Try.func72, Try.ntmps72
    go_wp2
    go_ret
    exact ⟨rfl, by go_grown⟩
  · subst h
    have kI : ¬ (n : Int) < (n : Int) := by omega
    rw [decide_eq_false (Nat.lt_irrefl n), decide_eq_true rfl, Bool.false_or, Bool.true_and]
    go_enter Try.func72, Try.ntmps72
    go_wp2_with fail
    refine (HC.out _ (by go_grown)).mono ?_
    rintro e w' ⟨rfl, rfl⟩
    clear HC
    go_wp2
    go_ret
    exact ⟨rfl, by go_grown⟩
  · have kI : ¬ (n : Int) < (m : Int) := by omega
    have kE : ¬ (n : Int) = (m : Int) := by omega
    rw [decide_eq_false (show ¬ n < m by omega), decide_eq_false (show ¬ n = m by omega), Bool.false_or, Bool.false_and]
    clear h
    go_enter Try.func72, Try.ntmps72
    go_wp2
    go_ret
    exact ⟨rfl, by go_grown⟩
end Go.Proofs.Ytojdocomkhihoaa
