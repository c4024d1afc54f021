/- Plain facts on places: where an address lies, which address lies anywhere, how many pages lie below one, the least address above all. No conditions. -/
import Derived.Test.YtchhmfdalghgcaaGreatG02b
set_option linter.unusedVariables false
namespace Go.Proofs.YtchhmfdalghgcaaGreat
open Go.RowKit
/-- does an address lie anywhere? in which chain, on which page? -/
def ofB (ep : Int) (L : List (List Int)) (a : Int) : Bool := goodB ep L && decide (0 ≤ a ∧ a < 16384)
def ofP (ep : Int) (L : List (List Int)) (a : Int) : Int := if ofB ep L a = true then a / (L.length : Int) else 0
/-- the units of an address's chain -/
def chainR (ep : Int) (L : List (List Int)) (a : Int) : List Int := if ofB ep L a = true then L.getD (a % (L.length : Int)).toNat [] else []
end Go.Proofs.YtchhmfdalghgcaaGreat
