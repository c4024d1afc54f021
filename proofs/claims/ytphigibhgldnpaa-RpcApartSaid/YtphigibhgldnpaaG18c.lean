/- What the document's own layout answers, asked for a change that may not come next. Conditions: it and the question lie where the call was told; no more than 1000000 units were noted. What the document's own layout answers, asked to mark an image, or asked what it does not know. Conditions: it and the question lie where the call was told. (Written by gen/genlayf.py.) What the document's own layout answers, asked to mark an image, or asked what it does not know. Conditions: it and the question lie where the call was told. (Written by gen/genlayf.py.) -/
import Derived.Test.YtphigibhgldnpaaG17a
set_option linter.unusedVariables false
namespace Go.Proofs.Ytphigibhgldnpaa
set_option linter.unusedVariables false
open Go.RowKit
set_option maxRecDepth 20000
theorem ld_any8 {w W : World} {r : Nat} {G H : Nat → Prop} {y : Ly} {a : Ak} {u0 u1 u2 u3 u4 u5 u6 u7 : Value} {X : Option (Array Value)} (h : LdW w W r G H y a #[u0, u1, u2, u3, u4, u5, u6, u7] X) : LdE w W r G H y a X := ⟨_, _, _, _, _, _, _, _, h⟩
theorem three_blocks (w : World) (x y z : Obj) : ((w.alloc x).alloc y).heap.size = w.heap.size + 1 + 1 := by simp
end Go.Proofs.Ytphigibhgldnpaa
namespace Go.Proofs.Ytphigibhgldnpaa
set_option linter.unusedVariables false
open Go.RowKit
set_option maxRecDepth 20000
end Go.Proofs.Ytphigibhgldnpaa
namespace Go.Proofs.Ytphigibhgldnpaa
set_option linter.unusedVariables false
open Go.RowKit
set_option maxRecDepth 20000
end Go.Proofs.Ytphigibhgldnpaa
