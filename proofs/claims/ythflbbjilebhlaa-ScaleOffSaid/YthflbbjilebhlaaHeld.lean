/- A region that draws its order inside a round of a range over a function, with a condition that is held through it. No condition on the program. -/
import Derived.Test.YthflbbjilebhlaaRound
import Derived.Deep.RegionHeld3
set_option linter.unusedSimpArgs false
set_option linter.unusedVariables false
namespace Go
variable {P : Program} {Q : Exit → Act → World → Prop}
theorem wpIn_region_held {id l0 n0 : Nat} {a : Act} {w : World} {l : List Oper} {S : World → Prop} (hm : P.follows .mixedOrders = true) (hd : noDefer l = true) (hQ : ¬ LetsOut Q) (hS : S w.drew)
    (h : S w.drew → wpAnyH P .any l.toArray Q S l.toArray.size (Array.replicate l.toArray.size false) a w.drew) : (Code.region id l.toArray true).wpIn (Fence.wide.inRound l0) n0 P Q a w :=
  wpIn_region_any hm (wpAny_inRound (noDefer_spec hd) hQ _ _ _ _ (wpAny_of_held _ _ _ _ (h hS)))
end Go
