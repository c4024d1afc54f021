/- The program's nodes keep all that the laws of all nodes ask: units, sequencer, layout are the program's own. No conditions. -/
import Derived.Test.YtphigibhgldnpaaG27a
import Derived.Test.YtphigibhgldnpaaG20b
import Derived.Test.YtphigibhgldnpaaG13c
import Derived.Test.YtphigibhgldnpaaG24a
set_option linter.unusedVariables false
namespace Go.Proofs.Ytphigibhgldnpaa
set_option linter.unusedVariables false
open Go.RowKit
theorem rpcSays : RpcSays UM OM LM (RM UM OM LM) := rpcSays_of ⟨unitSays, orderSays, laySays⟩ (fun w a h => do_nil w a h)
end Go.Proofs.Ytphigibhgldnpaa
