/- In the middle of a drawn region its condition may be made sharper: what was to be shown anew of it is then to be shown of the sharper one. No conditions but those that the statements name. -/
import Derived.Deep.RegionHeld3
import Derived.Deep.RegionHeldLaw
namespace Go.Proofs.Ythfbefkddnbbcaa
set_option linter.unusedVariables false
section
variable {P : Program} {ops : Array Oper} {Q : Exit → Act → World → Prop} {md : Region.Mode} {T1 T2 : World → Prop}
theorem wpAnyH_mono (hS : ∀ W, T2 W → T1 W) : ∀ (fuel : Nat) (listed : Array Bool) (a : Act) (w : World), wpAnyH P md ops Q T2 fuel listed a w → wpAnyH P md ops Q T1 fuel listed a w
  | 0, _, _, _, h => h
  | fuel + 1, _, _, _, h => ⟨h.1, fun i hi => wpOp_mono (fun a' w' ⟨h1, h2⟩ => ⟨hS w' h1, wpAnyH_mono hS fuel _ a' w' h2⟩) (h.2 i hi)⟩
theorem held_swap (T2 : World → Prop) (hS : ∀ W, T2 W → T1 W) {fuel : Nat} {listed : Array Bool} {K' : Act → World → Prop} (h : Shut (∀ a w, T1 w → (T1 w → wpAnyH P md ops Q T1 fuel listed a w) → K' a w)) :
    Shut (∀ a w, T1 w → (T1 w → wpAnyH P md ops Q T1 fuel listed a w) → K' a w) = Shut (∀ a w, T2 w → (T2 w → wpAnyH P md ops Q T2 fuel listed a w) → K' a w) :=
  propext ⟨fun h a w h2 hw => h a w (hS w h2) (fun _ => wpAnyH_mono hS _ _ _ _ (hw h2)), fun _ => h⟩
end
end Go.Proofs.Ythfbefkddnbbcaa
