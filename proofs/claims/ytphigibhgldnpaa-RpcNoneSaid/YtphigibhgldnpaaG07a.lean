/- What the document's own Write and Fill make of pages. Conditions: the object lies where the call was told; its pages are as the calls make them. -/
import Derived.Test.YtphigibhgldnpaaG06a
set_option linter.unusedVariables false
namespace Go.Proofs.Ytphigibhgldnpaa
open Go.RowKit
set_option maxRecDepth 20000
/-- what a call leaves of an object whose blocks lie in G: it, in blocks of G or new ones; all else as it was -/
def Left (R : (Nat → Prop) → World → Nat → Ps → Prop) (G : Nat → Prop) (w w' : World) (b : Nat) (p : Ps) : Prop := ∃ G' : Nat → Prop, R G' w' b p ∧ Kept (fun k => ¬ G k) w w' ∧ ∀ k, G' k → G k ∨ w.heap.size ≤ k
theorem Left.same {G : Nat → Prop} {w : World} {b : Nat} {p : Ps} (h : RG G w b p) (q : Nat) : Left RG G w (w.drewN q) b p :=
  ⟨G, h.below (below_drewN (Below.refl _ _) q), (Kept.refl _ w).drewN q, fun _ hk => .inl hk⟩
/-- a row made anew is laid into the object -/
theorem left_store {G : Nat → Prop} {w w2 : World} {b : Nat} {p : Ps} {v2 : Value} {l : List Pg} (h : RG G w b p) (hb : Below w.heap.size w w2) (hO : OG w2 w.heap.size v2 l) : Left RG G w (w2.setCell ⟨b, 0, none⟩ v2) b ⟨l, p.room, p.edge⟩ := by
  obtain ⟨v, h1, h2, h3, h4, h5⟩ := h
  have hbl := h5 b h4
  have hk : Kept (fun k => ¬ G k) w (w2.setCell ⟨b, 0, none⟩ v2) := (Kept.ofBelow hb (fun k => ¬ G k)).setCell (p := ⟨b, 0, none⟩) (fun h => h h4) v2
  have hs : (w2.setCell ⟨b, 0, none⟩ v2).heap.size = w2.heap.size := by simp [World.setCell]
  refine ⟨fun k => k = b ∨ (w.heap.size ≤ k ∧ k < w2.heap.size), ⟨v2, three_set0 (below_heap hb h1) v2, ?_, fun k e => ?_, .inl rfl, fun k hk => ?_⟩, hk, fun k hk => ?_⟩
  · refine (hO.keep ((Kept.refl (fun k => k ≠ b) w2).setCell (p := ⟨b, 0, none⟩) (fun h => h rfl) v2) (fun k e => ?_)).lower (Nat.zero_le _)
    have := (hO.lt k e).1
    omega
  · have := hO.lt k e
    exact ⟨.inr this, by omega⟩
  · rw [hs]
    rcases hk with rfl | hk
    · exact Nat.lt_of_lt_of_le hbl hb.size
    · exact hk.2
  · rcases hk with rfl | hk
    · exact .inl h4
    · exact .inr hk.1
end Go.Proofs.Ytphigibhgldnpaa
