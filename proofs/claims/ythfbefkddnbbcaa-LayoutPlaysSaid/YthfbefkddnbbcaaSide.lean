/- Things in memory, each of them in blocks of its own: two side by side; what a call of the one leaves of the other. Conditions: as each statement says. -/
import Derived.Test.YthfbefkddnbbcaaKept
namespace Go.Proofs.Ythfbefkddnbbcaa
set_option linter.unusedVariables false
open Go.RowKit
/-- T G w a: in world w a thing of the state a lies in the blocks of G -/
structure Thing {α : Type} (T : (Nat → Prop) → World → α → Prop) : Prop where
  lt : ∀ {G : Nat → Prop} {w : World} {a : α}, T G w a → ∀ k, G k → k < w.heap.size
  keep : ∀ {G S : Nat → Prop} {w w' : World} {a : α}, T G w a → Kept S w w' → (∀ k, G k → S k) → T G w' a
/-- what a call leaves of a thing whose blocks lie in G: it, in blocks of G or new ones; all else as it was -/
def Leaves {α : Type} (T : (Nat → Prop) → World → α → Prop) (G : Nat → Prop) (w w' : World) (a : α) : Prop := ∃ G' : Nat → Prop, T G' w' a ∧ Kept (fun k => ¬ G k) w w' ∧ ∀ k, G' k → G k ∨ w.heap.size ≤ k
section
variable {α β : Type} {T : (Nat → Prop) → World → α → Prop} {U : (Nat → Prop) → World → β → Prop} {X Y G : Nat → Prop} {w w' : World} {a a' : α} {b b' : β}
theorem Leaves.same (hT : Thing T) (h : T G w a) (hb : Below w.heap.size w w') : Leaves T G w w' a :=
  ⟨G, hT.keep h (Kept.ofBelow hb (fun _ => True)) (fun _ _ => trivial), Kept.ofBelow hb _, fun _ hk => .inl hk⟩
theorem Leaves.below (hT : Thing T) {w2 : World} (h : Leaves T G w w' a) (hb : Below w'.heap.size w' w2) : Leaves T G w w2 a := by
  obtain ⟨G', h1, h2, h3⟩ := h
  exact ⟨G', hT.keep h1 (Kept.ofBelow hb (fun _ => True)) (fun _ _ => trivial), h2.below hb, h3⟩
/-- the call made memory ahead of it -/
theorem Leaves.ahead {w0 : World} (hG : ∀ k, G k → k < w0.heap.size) (hb : Below w0.heap.size w0 w) (h : Leaves T G w w' a) : Leaves T G w0 w' a := by
  obtain ⟨G', h1, h2, h3⟩ := h
  exact ⟨G', h1, (Kept.ofBelow hb _).trans h2, fun k hk => (h3 k hk).imp id (fun h => Nat.le_trans hb.size h)⟩
/-- a thing in no block of X -/
def Solo (T : (Nat → Prop) → World → α → Prop) (X : Nat → Prop) (w : World) (a : α) : Prop := (∀ k, X k → k < w.heap.size) ∧ ∃ F : Nat → Prop, T F w a ∧ ∀ k, X k → ¬ F k
/-- two things in no block of X, and in none of each other's -/
def Side (T : (Nat → Prop) → World → α → Prop) (U : (Nat → Prop) → World → β → Prop) (X : Nat → Prop) (w : World) (a : α) (b : β) : Prop :=
  (∀ k, X k → k < w.heap.size) ∧ ∃ F G : Nat → Prop, T F w a ∧ U G w b ∧ (∀ k, X k → ¬ F k ∧ ¬ G k) ∧ ∀ k, F k → ¬ G k
theorem Solo.below (hT : Thing T) (h : Solo T X w a) (hb : Below w.heap.size w w') : Solo T X w' a := by
  obtain ⟨h1, F, h2, h3⟩ := h
  exact ⟨fun k hk => Nat.lt_of_lt_of_le (h1 k hk) hb.size, F, hT.keep h2 (Kept.ofBelow hb (fun _ => True)) (fun _ _ => trivial), h3⟩
theorem Solo.beside (hT : Thing T) (h : Solo T X w a) (x : Obj) : Solo T (fun k => X k ∨ k = w.heap.size) (w.alloc x) a := by
  have hb : Below w.heap.size w (w.alloc x) := (Below.refl _ _).alloc (Nat.le_refl _) x
  obtain ⟨h1, F, h2, h3⟩ := h
  refine ⟨fun k hk => ?_, F, hT.keep h2 (Kept.ofBelow hb (fun _ => True)) (fun _ _ => trivial), fun k hk hf => ?_⟩
  · rcases hk with hk | hk
    · exact Nat.lt_of_lt_of_le (h1 k hk) hb.size
    · rw [hk]; simp
  · rcases hk with hk | hk
    · exact h3 k hk hf
    · rw [hk] at hf; exact Nat.lt_irrefl _ (hT.lt h2 _ hf)
theorem Solo.less (h : Solo T X w a) (hy : ∀ k, Y k → X k) : Solo T Y w a := by
  obtain ⟨h1, F, h2, h3⟩ := h
  exact ⟨fun k hk => h1 k (hy k hk), F, h2, fun k hk => h3 k (hy k hk)⟩
theorem Solo.of (h : T G w a) (hG : ∀ k, X k → ¬ G k) (hX : ∀ k, X k → k < w.heap.size) : Solo T X w a := ⟨hX, G, h, hG⟩
theorem Side.below (hT : Thing T) (hU : Thing U) (h : Side T U X w a b) (hb : Below w.heap.size w w') : Side T U X w' a b := by
  obtain ⟨h1, F, G, h2, h3, h4, h5⟩ := h
  exact ⟨fun k hk => Nat.lt_of_lt_of_le (h1 k hk) hb.size, F, G, hT.keep h2 (Kept.ofBelow hb (fun _ => True)) (fun _ _ => trivial), hU.keep h3 (Kept.ofBelow hb (fun _ => True)) (fun _ _ => trivial), h4, h5⟩
theorem Side.less (h : Side T U X w a b) (hy : ∀ k, Y k → X k) : Side T U Y w a b := by
  obtain ⟨h1, F, G, h2, h3, h4, h5⟩ := h
  exact ⟨fun k hk => h1 k (hy k hk), F, G, h2, h3, fun k hk => h4 k (hy k hk), h5⟩
theorem Side.beside (hT : Thing T) (hU : Thing U) (h : Side T U X w a b) (x : Obj) : Side T U (fun k => X k ∨ k = w.heap.size) (w.alloc x) a b := by
  have hb : Below w.heap.size w (w.alloc x) := (Below.refl _ _).alloc (Nat.le_refl _) x
  obtain ⟨h1, F, G, h2, h3, h4, h5⟩ := h
  refine ⟨fun k hk => ?_, F, G, hT.keep h2 (Kept.ofBelow hb (fun _ => True)) (fun _ _ => trivial), hU.keep h3 (Kept.ofBelow hb (fun _ => True)) (fun _ _ => trivial), fun k hk => ?_, h5⟩
  · rcases hk with hk | hk
    · exact Nat.lt_of_lt_of_le (h1 k hk) hb.size
    · rw [hk]; simp
  · rcases hk with hk | hk
    · exact h4 k hk
    · rw [hk]
      exact ⟨fun hf => Nat.lt_irrefl _ (hT.lt h2 _ hf), fun hg => Nat.lt_irrefl _ (hU.lt h3 _ hg)⟩
/-- a second thing beside one: the call that made it left the first -/
theorem Side.made (hT : Thing T) (h : Solo T X w a) (hb : Below w.heap.size w w') (hu : U G w' b) (hG : ∀ k, G k → w.heap.size ≤ k) : Side T U X w' a b := by
  obtain ⟨h1, F, h2, h3⟩ := h
  refine ⟨fun k hk => Nat.lt_of_lt_of_le (h1 k hk) hb.size, F, G, hT.keep h2 (Kept.ofBelow hb (fun _ => True)) (fun _ _ => trivial), hu, fun k hk => ⟨h3 k hk, fun hg => ?_⟩, fun k hf hg => ?_⟩
  · have := h1 k hk; have := hG k hg; omega
  · have := hT.lt h2 k hf; have := hG k hg; omega
section
variable {P : Program} {fn : FuncId} {args : Array Value} {R : Ending → Prop}
theorem solo_call (hT : Thing T) (h : Solo T X w a) (hc : ∀ F : Nat → Prop, T F w a → Calls P fn args w fun e w' => R e ∧ Leaves T F w w' a') : Calls P fn args w fun e w' => R e ∧ Solo T X w' a' ∧ Kept X w w' := by
  obtain ⟨h1, F, h2, h3⟩ := h
  refine (hc F h2).mono ?_
  rintro e w' ⟨he, F', r1, r2, r3⟩
  refine ⟨he, ⟨fun k hk => Nat.lt_of_lt_of_le (h1 k hk) r2.size, F', r1, fun k hk hf => ?_⟩, r2.mono h3⟩
  rcases r3 k hf with h | h
  · exact h3 k hk h
  · have := h1 k hk; omega
theorem side_left (hT : Thing T) (hU : Thing U) (h : Side T U X w a b) (hc : ∀ F : Nat → Prop, T F w a → Calls P fn args w fun e w' => R e ∧ Leaves T F w w' a') : Calls P fn args w fun e w' => R e ∧ Side T U X w' a' b ∧ Kept X w w' := by
  obtain ⟨h1, F, G, h2, h3, h4, h5⟩ := h
  refine (hc F h2).mono ?_
  rintro e w' ⟨he, F', r1, r2, r3⟩
  refine ⟨he, ⟨fun k hk => Nat.lt_of_lt_of_le (h1 k hk) r2.size, F', G, r1, hU.keep h3 r2 (fun k hg hf => h5 k hf hg), fun k hk => ⟨fun hf => ?_, (h4 k hk).2⟩, fun k hk hg => ?_⟩, r2.mono (fun k hk => (h4 k hk).1)⟩
  · rcases r3 k hf with h | h
    · exact (h4 k hk).1 h
    · have := h1 k hk; omega
  · rcases r3 k hk with h | h
    · exact h5 k h hg
    · have := hU.lt h3 k hg; omega
theorem Side.swap (h : Side T U X w a b) : Side U T X w b a := by
  obtain ⟨h1, F, G, h2, h3, h4, h5⟩ := h
  exact ⟨h1, G, F, h3, h2, fun k hk => ⟨(h4 k hk).2, (h4 k hk).1⟩, fun k hg hf => h5 k hf hg⟩
theorem side_right (hT : Thing T) (hU : Thing U) (h : Side T U X w a b) (hc : ∀ G : Nat → Prop, U G w b → Calls P fn args w fun e w' => R e ∧ Leaves U G w w' b') : Calls P fn args w fun e w' => R e ∧ Side T U X w' a b' ∧ Kept X w w' :=
  (side_left hU hT h.swap hc).mono fun e w' ⟨he, h1, h2⟩ => ⟨he, h1.swap, h2⟩
end
/-- the law itself stores into the second thing -/
theorem Side.right_step (hT : Thing T) (hU : Thing U) (h : Side T U X w a b) (hc : ∀ G : Nat → Prop, U G w b → Leaves U G w w' b') : Side T U X w' a b' ∧ Kept X w w' := by
  obtain ⟨h1, F, G, h2, h3, h4, h5⟩ := h
  obtain ⟨G', r1, r2, r3⟩ := hc G h3
  refine ⟨⟨fun k hk => Nat.lt_of_lt_of_le (h1 k hk) r2.size, F, G', hT.keep h2 r2 (fun k hf hg => h5 k hf hg), r1, fun k hk => ⟨(h4 k hk).1, fun hg => ?_⟩, fun k hf hg => ?_⟩, r2.mono (fun k hk => (h4 k hk).2)⟩
  · rcases r3 k hg with h | h
    · exact (h4 k hk).2 h
    · have := h1 k hk; omega
  · rcases r3 k hg with h | h
    · exact h5 k hf h
    · have := hT.lt h2 k hf; omega
end
end Go.Proofs.Ythfbefkddnbbcaa
