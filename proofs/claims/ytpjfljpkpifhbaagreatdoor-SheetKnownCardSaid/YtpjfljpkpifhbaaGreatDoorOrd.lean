/- orderOf of package sheet. -/
import Derived.Test.YtpjfljpkpifhbaaGreatDoorMeas
set_option linter.unusedSimpArgs false
set_option linter.unusedVariables false
namespace Go.Proofs.YtpjfljpkpifhbaaGreatDoor
open Go Go.RowKit Hs Dc

/-- What orderOf answers. -/
def orderV (lo hi : Int) : Int := if lo = 0 ∧ hi = 0 then 3 else if 0 < lo then 2 else if hi < 0 then 1 else 0

set_option maxRecDepth 100000 in
set_option maxHeartbeats 1000000 in
theorem orderOf_any (lo hi : Int) (w : World) :
    Calls Tryz.prog 19 #[.agg #[.int .i64 lo, .int .i64 hi]] w fun e w' => e = .returned (.int .i64 (orderV lo hi)) ∧ w.alloc (Obj.cells #[.int .i64 lo, .int .i64 hi] 32) = w' := by
  by_cases h1 : lo = 0 ∧ hi = 0
  · obtain ⟨rfl, rfl⟩ := h1
    go_enter Tryz.func19, Tryz.ntmps19
    go_wp2
    go_ret
    exact ⟨rfl, rfl⟩
  · have e1 : ((lo == 0) && (hi == 0)) = false := by
      rw [Bool.and_eq_false_iff]; simp; omega
    by_cases h2 : 0 < lo
    · have e2 : decide ((0:Int) < lo) = true := by simp [h2]
      have E3 : Hid (orderV lo hi = 2) := by show _ = _; unfold orderV; rw [if_neg h1, if_pos h2]
      go_enter Tryz.func19, Tryz.ntmps19
      go_wp2
      go_ret
      exact ⟨by rw [E3.out]; rfl, rfl⟩
    · have e2 : decide ((0:Int) < lo) = false := by simp; omega
      by_cases h3 : hi < 0
      · have e3 : decide (hi < 0) = true := by simp [h3]
        have E3 : Hid (orderV lo hi = 1) := by show _ = _; unfold orderV; rw [if_neg h1, if_neg h2, if_pos h3]
        go_enter Tryz.func19, Tryz.ntmps19
        go_wp2
        go_ret
        exact ⟨by rw [E3.out]; rfl, rfl⟩
      · have e3 : decide (hi < 0) = false := by simp; omega
        go_enter Tryz.func19, Tryz.ntmps19
        go_wp2
        all_goals go_ret
        all_goals refine ⟨?_, rfl⟩
        all_goals (unfold orderV; rw [if_neg (by omega), if_neg (by omega), if_neg (by omega)]; rfl)
end Go.Proofs.YtpjfljpkpifhbaaGreatDoor
