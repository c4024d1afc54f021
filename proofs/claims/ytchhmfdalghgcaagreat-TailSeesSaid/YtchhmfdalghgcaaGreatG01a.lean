/- Small lemmas for every walk of this seat. No conditions. -/
import Derived.Test.YtchhmfdalghgcaaGreatProg
import Derived.WalkKit
import Derived.WalkSpells
import Derived.WalkLawsBesides
import Derived.Lib.Hide
import Derived.BigQuiet
import Derived.Deep.QuietTactic
set_option linter.unusedVariables false
namespace Go.Proofs.YtchhmfdalghgcaaGreat
open Go.RowKit
end Go.Proofs.YtchhmfdalghgcaaGreat
