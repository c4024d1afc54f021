/- What the document's own layout answers, asked to mark an image, or asked what it does not know. Conditions: it and the question lie where the call was told. (Written by gen/genlayf.py.) What the document's own layout answers, asked to mark an image, or asked what it does not know. Conditions: it and the question lie where the call was told. (Written by gen/genlayf.py.) -/
import Derived.Test.YtchhmfdalghgcaaGreatG17a
set_option linter.unusedVariables false
namespace Go.Proofs.YtchhmfdalghgcaaGreat
set_option linter.unusedVariables false
open Go.RowKit
set_option maxRecDepth 20000
end Go.Proofs.YtchhmfdalghgcaaGreat
namespace Go.Proofs.YtchhmfdalghgcaaGreat
set_option linter.unusedVariables false
open Go.RowKit
set_option maxRecDepth 20000
end Go.Proofs.YtchhmfdalghgcaaGreat
