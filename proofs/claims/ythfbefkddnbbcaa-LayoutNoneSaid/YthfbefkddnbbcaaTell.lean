/- Answers that tell a projection: its chains lie in memory of their own, in no block of the thing that was asked. No conditions but those that the statements name. -/
import Derived.Test.YthfbefkddnbbcaaLayA
namespace Go.Proofs.Ythfbefkddnbbcaa
set_option linter.unusedVariables false
open Go.RowKit
set_option maxRecDepth 20000
/-- a call on a thing whose blocks lie in G ends so: it answers x, the thing is a' behind it; the answer's chains are new memory, and none of the thing's -/
def Tells {α : Type} (T : (Nat → Prop) → World → α → Prop) (G : Nat → Prop) (w : World) (a' : α) (x : An) (e : Ending) (w' : World) : Prop :=
  ∃ (ao : Option Addr) (cap : Nat) (F : Nat → Prop), e = .returned (ansV x ao cap) ∧ CG F w' (.slice ao x.L.length cap) x.L ∧ (∀ k, F k → w.heap.size ≤ k ∧ k < w'.heap.size) ∧
    ∃ G' : Nat → Prop, T G' w' a' ∧ (∀ k, F k → ¬ G' k) ∧ Kept (fun k => ¬ G k) w w' ∧ ∀ k, G' k → G k ∨ w.heap.size ≤ k
theorem CG.no (F : Nat → Prop) (w : World) : CG F w (.slice Option.none 0 0) [] := ⟨Option.none, 0, rfl, fun _ => rfl, Nat.le_refl _, fun a e => (by cases e), fun i h => absurd h (Nat.not_lt_zero i)⟩
section
variable {α β : Type} {T : (Nat → Prop) → World → α → Prop} {U : (Nat → Prop) → World → β → Prop} {X G : Nat → Prop} {w w' : World} {a a' : α} {b b' : β} {x : An}
theorem Tells.plain (h : Leaves T G w w' a') (hL : x.L = []) : Tells T G w a' x (.returned (ansV x Option.none 0)) w' := by
  obtain ⟨G', h1, h2, h3⟩ := h
  exact ⟨Option.none, 0, fun _ => False, rfl, by rw [hL]; exact CG.no _ _, fun k hk => hk.elim, G', h1, fun k hk => hk.elim, h2, h3⟩
/-- the chains are made last -/
theorem Tells.last (hT : Thing T) {W : World} (h : Leaves T G w W a') (hb : Below W.heap.size W w') {ao : Option Addr} {cap : Nat} (hO : OC w' W.heap.size (.slice ao x.L.length cap) x.L) : Tells T G w a' x (.returned (ansV x ao cap)) w' := by
  obtain ⟨G', h1, h2, h3⟩ := h
  exact ⟨ao, cap, fun k => W.heap.size ≤ k ∧ k < w'.heap.size, rfl, CG.of hO, fun k hk => ⟨Nat.le_trans h2.size hk.1, hk.2⟩, G', hT.keep h1 (Kept.ofBelow hb (fun _ => True)) (fun _ _ => trivial), fun k hk hg => by have := hT.lt h1 k hg; omega, h2.below hb, h3⟩
/-- all memory that was made meanwhile lies beside both -/
theorem Side.wider (hT : Thing T) (hU : Thing U) (h : Side T U X w a b) (hb : Below w.heap.size w w') : Side T U (fun k => X k ∨ (w.heap.size ≤ k ∧ k < w'.heap.size)) w' a b := by
  obtain ⟨h1, F, G, h2, h3, h4, h5⟩ := h
  refine ⟨fun k hk => ?_, F, G, hT.keep h2 (Kept.ofBelow hb (fun _ => True)) (fun _ _ => trivial), hU.keep h3 (Kept.ofBelow hb (fun _ => True)) (fun _ _ => trivial), fun k hk => ?_, h5⟩
  · rcases hk with hk | hk
    · exact Nat.lt_of_lt_of_le (h1 k hk) hb.size
    · exact hk.2
  · rcases hk with hk | hk
    · exact h4 k hk
    · exact ⟨fun hf => by have := hT.lt h2 k hf; omega, fun hg => by have := hU.lt h3 k hg; omega⟩
theorem Solo.wider (hT : Thing T) (h : Solo T X w a) (hb : Below w.heap.size w w') : Solo T (fun k => X k ∨ (w.heap.size ≤ k ∧ k < w'.heap.size)) w' a := by
  obtain ⟨h1, F, h2, h3⟩ := h
  refine ⟨fun k hk => ?_, F, hT.keep h2 (Kept.ofBelow hb (fun _ => True)) (fun _ _ => trivial), fun k hk hf => ?_⟩
  · rcases hk with hk | hk
    · exact Nat.lt_of_lt_of_le (h1 k hk) hb.size
    · exact hk.2
  · rcases hk with hk | hk
    · exact h3 k hk hf
    · have := hT.lt h2 k hf; omega
theorem CG.here {F : Nat → Prop} {w : World} {ao : Option Addr} {n cap : Nat} {L : List (List Int)} (h : CG F w (.slice ao n cap) L) : CL w ao L ∧ (ao = Option.none → cap = 0) ∧ L.length ≤ cap := by
  obtain ⟨bo, cb, e, h1, h2, h3⟩ := h.cl
  obtain ⟨rfl, _, rfl⟩ := Value.slice.inj e
  exact ⟨h1, h2, h3⟩
variable {P : Program} {fn : FuncId} {args : Array Value}
theorem side_tells (hT : Thing T) (hU : Thing U) (h : Side T U X w a b) (hc : ∀ F : Nat → Prop, T F w a → (∀ k, X k → ¬ F k) → Calls P fn args w fun e w' => Tells T F w a' x e w') :
    Calls P fn args w fun e w' => ∃ (ao : Option Addr) (cap : Nat) (F : Nat → Prop), e = .returned (ansV x ao cap) ∧ CG F w' (.slice ao x.L.length cap) x.L ∧ Side T U (fun k => X k ∨ F k) w' a' b ∧ Kept X w w' := by
  obtain ⟨h1, F, G, h2, h3, h4, h5⟩ := h
  refine (hc F h2 (fun k hk => (h4 k hk).1)).mono ?_
  rintro e w' ⟨ao, cap, C, rfl, r1, r2, F', r3, r4, r5, r6⟩
  refine ⟨ao, cap, C, rfl, r1, ⟨fun k hk => ?_, F', G, r3, hU.keep h3 r5 (fun k hg hf => h5 k hf hg), fun k hk => ?_, fun k hk hg => ?_⟩, r5.mono (fun k hk => (h4 k hk).1)⟩
  · rcases hk with hk | hk
    · exact Nat.lt_of_lt_of_le (h1 k hk) r5.size
    · exact (r2 k hk).2
  · rcases hk with hk | hk
    · refine ⟨fun hf => ?_, (h4 k hk).2⟩
      rcases r6 k hf with h | h
      · exact (h4 k hk).1 h
      · have := h1 k hk; omega
    · exact ⟨r4 k hk, fun hg => by have := hU.lt h3 k hg; have := (r2 k hk).1; omega⟩
  · rcases r6 k hk with h | h
    · exact h5 k h hg
    · have := hU.lt h3 k hg; omega
theorem side_tells_right (hT : Thing T) (hU : Thing U) (h : Side T U X w a b) (hc : ∀ F : Nat → Prop, U F w b → (∀ k, X k → ¬ F k) → Calls P fn args w fun e w' => Tells U F w b' x e w') :
    Calls P fn args w fun e w' => ∃ (ao : Option Addr) (cap : Nat) (F : Nat → Prop), e = .returned (ansV x ao cap) ∧ CG F w' (.slice ao x.L.length cap) x.L ∧ Side T U (fun k => X k ∨ F k) w' a b' ∧ Kept X w w' :=
  (side_tells hU hT h.swap hc).mono fun e w' ⟨ao, cap, F, h1, h2, h3, h4⟩ => ⟨ao, cap, F, h1, h2, h3.swap, h4⟩
theorem solo_tells (hT : Thing T) (h : Solo T X w a) (hc : ∀ F : Nat → Prop, T F w a → (∀ k, X k → ¬ F k) → Calls P fn args w fun e w' => Tells T F w a' x e w') :
    Calls P fn args w fun e w' => ∃ (ao : Option Addr) (cap : Nat) (F : Nat → Prop), e = .returned (ansV x ao cap) ∧ CG F w' (.slice ao x.L.length cap) x.L ∧ Solo T (fun k => X k ∨ F k) w' a' ∧ Kept X w w' := by
  obtain ⟨h1, F, h2, h3⟩ := h
  refine (hc F h2 h3).mono ?_
  rintro e w' ⟨ao, cap, C, rfl, r1, r2, F', r3, r4, r5, r6⟩
  refine ⟨ao, cap, C, rfl, r1, ⟨fun k hk => ?_, F', r3, fun k hk hf => ?_⟩, r5.mono h3⟩
  · rcases hk with hk | hk
    · exact Nat.lt_of_lt_of_le (h1 k hk) r5.size
    · exact (r2 k hk).2
  · rcases hk with hk | hk
    · rcases r6 k hf with h | h
      · exact h3 k hk h
      · have := h1 k hk; omega
    · exact r4 k hk hf
end
end Go.Proofs.Ythfbefkddnbbcaa
