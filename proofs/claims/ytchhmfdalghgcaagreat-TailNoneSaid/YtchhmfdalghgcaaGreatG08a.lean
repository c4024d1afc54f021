/- What the document's own Fill makes of pages. Conditions: the object lies where the call was told; its pages are as the calls make them. -/
import Derived.Test.YtchhmfdalghgcaaGreatG07a
set_option linter.unusedVariables false
namespace Go.Proofs.YtchhmfdalghgcaaGreat
open Go.RowKit
set_option maxRecDepth 20000
end Go.Proofs.YtchhmfdalghgcaaGreat
