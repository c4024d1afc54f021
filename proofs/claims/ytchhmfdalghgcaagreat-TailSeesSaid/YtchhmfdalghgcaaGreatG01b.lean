/- Plain facts on whole numbers, their bits and their bytes; no program is spoken of. Conditions: the numbers' bounds, as each lemma states them. -/
import Derived.Laws.Bits64b
import Derived.Laws.BitsAllLaws
import Derived.Laws.Wrap64
import Derived.Laws.BitsLemmas
import Derived.RowKit
set_option linter.unusedVariables false
namespace Go.Proofs.YtchhmfdalghgcaaGreat
open Go.RowKit

/-- a number of 64 bits without a sign -/
def U64 (v : Int) : Prop := 0 ≤ v ∧ v < 18446744073709551616

theorem U64.lo {v : Int} (h : U64 v) : 0 ≤ v := h.1
theorem wrap64_eq (x : Int) : wrap64 x = (x + 9223372036854775808) % 18446744073709551616 - 9223372036854775808 := rfl
end Go.Proofs.YtchhmfdalghgcaaGreat
