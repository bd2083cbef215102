/- Package carve: what two parts of a surface need together; which way is before which. -/
import Derived.Test.YtnciomoapajonaaCvb
set_option linter.unusedSimpArgs false
set_option linter.unusedVariables false
namespace Go.Proofs.Ytnciomoapajonaa
open Go Go.RowKit Cv

set_option maxRecDepth 100000 in
theorem and_any (a b c d : Int) (w : World) (ha : 0 ≤ a) (ha9 : a ≤ 4611686018427387903) (hb : 0 ≤ b) (hb9 : b ≤ 4611686018427387903) (hc : 0 ≤ c) (hc9 : c ≤ 4611686018427387903) (hd : 0 ≤ d) (hd9 : d ≤ 4611686018427387903) :
    Calls Try.prog 93 #[.agg #[.int .i64 a, .int .i64 b], .agg #[.int .i64 c, .int .i64 d]] w fun e w' => e = .returned (.agg #[.int .i64 (a + c), .int .i64 (b + d)]) ∧ Below w.heap.size w w' := by
  go_enter Try.func93, Try.ntmps93
  go_wp2_with fail
  go_returns
  exact ⟨rfl, by go_grown⟩
/-- Whether a way is before another one, by what is asked first. -/
def beforeR (i j : Nat) (a b : List Int) : Bool := if a.getD i 0 ≠ b.getD i 0 then decide (a.getD i 0 < b.getD i 0) else if a.getD j 0 ≠ b.getD j 0 then decide (a.getD j 0 < b.getD j 0) else false
end Go.Proofs.Ytnciomoapajonaa
