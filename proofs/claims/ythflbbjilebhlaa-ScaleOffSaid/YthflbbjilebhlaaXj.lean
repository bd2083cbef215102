/- Any scale by two numbers: without their common divisors. No program is named here. -/
import Derived.Test.YthflbbjilebhlaaUa
set_option linter.unusedSimpArgs false
set_option linter.unusedVariables false
namespace Go.Proofs.Ythflbbjilebhlaa
open Go Sc

/-- Divided by each number from g + 1 down to 2 that divides both. -/
def anyGo : Nat → Scl → Scl
  | 0, s => s
  | g + 1, s => anyGo g (if s.1 % ((g : Int) + 2) = 0 ∧ s.2 % ((g : Int) + 2) = 0 then (s.1 / ((g : Int) + 2), s.2 / ((g : Int) + 2)) else s)
def anyS (x y : Nat) : Scl := anyGo 29 (1 + (x : Int) % 30, 1 + (y : Int) % 30)
theorem anyGo_ok : ∀ a : Fin 30, ∀ b : Fin 30, sclE (anyGo 29 (1 + (a.val : Int), 1 + (b.val : Int))) = 0 := by decide +kernel
theorem anyS_ok (x y : Nat) : sclE (anyS x y) = 0 := by
  have h := anyGo_ok ⟨x % 30, Nat.mod_lt _ (by omega)⟩ ⟨y % 30, Nat.mod_lt _ (by omega)⟩
  simp only at h
  unfold anyS
  rw [show (x : Int) % 30 = ((x % 30 : Nat) : Int) by omega, show (y : Int) % 30 = ((y % 30 : Nat) : Int) by omega]
  exact h
end Go.Proofs.Ythflbbjilebhlaa
