/- What the document's own Write and Fill make of pages. Conditions: the object lies where the call was told; its pages are as the calls make them. -/
import Derived.Test.YtchhmfdalghgcaaGreatG06a
set_option linter.unusedVariables false
namespace Go.Proofs.YtchhmfdalghgcaaGreat
open Go.RowKit
set_option maxRecDepth 20000
/-- what a call leaves of an object whose blocks lie in G: it, in blocks of G or new ones; all else as it was -/
def Left (R : (Nat → Prop) → World → Nat → Ps → Prop) (G : Nat → Prop) (w w' : World) (b : Nat) (p : Ps) : Prop := ∃ G' : Nat → Prop, R G' w' b p ∧ Kept (fun k => ¬ G k) w w' ∧ ∀ k, G' k → G k ∨ w.heap.size ≤ k
theorem Left.same {G : Nat → Prop} {w : World} {b : Nat} {p : Ps} (h : RG G w b p) (q : Nat) : Left RG G w (w.drewN q) b p :=
  ⟨G, h.below (below_drewN (Below.refl _ _) q), (Kept.refl _ w).drewN q, fun _ hk => .inl hk⟩
end Go.Proofs.YtchhmfdalghgcaaGreat
