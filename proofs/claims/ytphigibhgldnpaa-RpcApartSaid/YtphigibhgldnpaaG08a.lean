/- What the document's own Fill makes of pages. Conditions: the object lies where the call was told; its pages are as the calls make them. -/
import Derived.Test.YtphigibhgldnpaaG07a
set_option linter.unusedVariables false
namespace Go.Proofs.Ytphigibhgldnpaa
open Go.RowKit
set_option maxRecDepth 20000
end Go.Proofs.Ytphigibhgldnpaa
