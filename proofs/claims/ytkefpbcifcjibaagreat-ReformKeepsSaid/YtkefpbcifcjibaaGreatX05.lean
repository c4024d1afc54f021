/- Joined texts. -/
import Derived.Test.YtkefpbcifcjibaaGreatX01
import Derived.Test.YtkefpbcifcjibaaGreatX02
import Derived.Test.YtkefpbcifcjibaaGreatX03
import Derived.Test.YtkefpbcifcjibaaGreatG09a
import Derived.Test.YtkefpbcifcjibaaGreatG10a
set_option linter.unusedVariables false
set_option maxRecDepth 20000
set_option maxHeartbeats 16000000
namespace Go.Proofs.YtkefpbcifcjibaaGreat
open Go.RowKit
theorem sameP_self (e:Int) (L:List (List Int)):sameP e L e L=true:=decide_eq_true ⟨rfl,rfl⟩
end Go.Proofs.YtkefpbcifcjibaaGreat
