/- Joined texts. -/
import Derived.Test.YtkefpbcifcjibaaGreatX01
import Derived.Test.YtkefpbcifcjibaaGreatG02a
set_option linter.unusedVariables false
set_option maxRecDepth 20000
set_option maxHeartbeats 16000000
namespace Go.Proofs.YtkefpbcifcjibaaGreat
open Go.RowKit
def Bx (n:Nat) (W0 W:World):Prop:=Below n W0 W∧n≤W.heap.size
theorem Bx.on {n:Nat} {W0 W W':World} (h:Bx n W0 W) (hb:Below W.heap.size W W'):Bx n W0 W':=⟨h.1.trans (hb.mono h.2),Nat.le_trans h.2 hb.size⟩
theorem Bx.kept {n:Nat} {W0 W W':World} {X:Nat→Prop} (h:Bx n W0 W) (hk:Kept X W W') (hX:∀ k,k < n→X k):Bx n W0 W':=⟨h.1.trans (hk.toBelow h.2 hX),Nat.le_trans h.2 hk.size⟩
theorem Bx.drew {n:Nat} {W0 W:World} (h:Bx n W0 W):Bx n W0 W.drew:=h.on (Below.refl _ _).drew
end Go.Proofs.YtkefpbcifcjibaaGreat
