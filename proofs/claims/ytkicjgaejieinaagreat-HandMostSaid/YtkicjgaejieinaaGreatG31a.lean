/- The program's hand keeps all that the laws of a hand ask: the nodes are the program's own. No conditions. -/
import Derived.Test.YtkicjgaejieinaaGreatG30a
import Derived.Test.YtkicjgaejieinaaGreatG28a
set_option linter.unusedVariables false
namespace Go.Proofs.YtkicjgaejieinaaGreat
set_option linter.unusedVariables false
theorem handSays : HandSays UM OM LM (RM UM OM LM) (HM (RM UM OM LM)) := handSays_of rpcSays
end Go.Proofs.YtkicjgaejieinaaGreat
