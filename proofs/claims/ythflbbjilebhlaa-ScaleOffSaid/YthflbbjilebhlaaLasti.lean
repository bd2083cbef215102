/- A region that draws its order, inside a round, and ends in one operation that all others wait for. -/
import Derived.Test.YthflbbjilebhlaaLast
import Derived.Test.YthflbbjilebhlaaHeld
set_option linter.unusedSimpArgs false
set_option linter.unusedVariables false
namespace Go.Proofs.Ythflbbjilebhlaa
open Go Go.RowKit
variable {P : Program} {Q : Exit → Act → World → Prop}
theorem wpIn_region_last {id l0 n0 : Nat} {a : Act} {w : World} {l : List Oper} {S : World → Prop} (n : Nat) (hm : P.follows .mixedOrders = true) (hd : noDefer l = true) (hQ : ¬ LetsOut Q) (hn : n < l.toArray.size)
    (h : Hid (HeadInv .any l.toArray n (Array.replicate l.toArray.size false)) → wpAnyZ P .any l.toArray Q S n l.toArray.size (Array.replicate l.toArray.size false) a w.drew) : (Code.region id l.toArray true).wpIn (Fence.wide.inRound l0) n0 P Q a w :=
  wpIn_region_any hm (wpAny_inRound (noDefer_spec hd) hQ _ _ _ _ (wpAny_of_last _ _ _ _ (h (headInv_start hn))))
theorem hinv_set {md : Region.Mode} {ops : Array Oper} {n i : Nat} {listed : Array Bool} (inv : Hid (HeadInv md ops n listed)) (hr : (Region.ready md ops listed).contains i = true) (hin : i < n) : Hid (HeadInv md ops n (listed.setIfInBounds i true)) :=
  Lib.hid (inv.out.set (by simpa using hr) hin)
end Go.Proofs.Ythflbbjilebhlaa
