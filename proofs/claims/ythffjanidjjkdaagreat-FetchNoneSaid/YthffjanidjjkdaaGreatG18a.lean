/- What the document's own layout answers, asked to mark an image, or asked what it does not know. Conditions: it and the question lie where the call was told. (Written by gen/genlayf.py.) What the document's own layout answers, asked to mark an image, or asked what it does not know. Conditions: it and the question lie where the call was told. (Written by gen/genlayf.py.) What the document's own layout answers, asked for a change that may not come next. Conditions: it and the question lie where the call was told; no more than 1000000 units were noted. The document's own hand in memory: its nodes, the row of what is held. No conditions. -/
import Derived.Test.YthffjanidjjkdaaGreatG17a
import Derived.Test.YthffjanidjjkdaaGreatG09b
import Derived.Test.YthffjanidjjkdaaGreatG17b
import Derived.Test.YthffjanidjjkdaaGreatG07a
set_option linter.unusedVariables false
namespace Go.Proofs.YthffjanidjjkdaaGreat
set_option linter.unusedVariables false
open Go.RowKit
set_option maxRecDepth 20000
end Go.Proofs.YthffjanidjjkdaaGreat
namespace Go.Proofs.YthffjanidjjkdaaGreat
set_option linter.unusedVariables false
open Go.RowKit
set_option maxRecDepth 20000
end Go.Proofs.YthffjanidjjkdaaGreat
namespace Go.Proofs.YthffjanidjjkdaaGreat
set_option linter.unusedVariables false
open Go.RowKit
set_option maxRecDepth 20000
end Go.Proofs.YthffjanidjjkdaaGreat
namespace Go.Proofs.YthffjanidjjkdaaGreat
set_option linter.unusedVariables false
open Go.RowKit
set_option maxRecDepth 20000
/-- block r is the document's hand, block rn its nodes -/
def RH (r rn : Nat) (G : Nat → Prop) (w : World) (h : Hd) : Prop :=
  h.held.length ≤ 64 ∧ ∃ (v : Value) (F : Nat → Prop), w.heap[r]? = some (.cells #[.pointer (some ⟨rn, 0, none⟩), v] 83 (0, 0)) ∧ OR 62 9 askC w 0 v h.held ∧ RN rn F w h.n ∧ G r ∧ ¬ F r ∧ (∀ k, F k → G k) ∧ (∀ k, v.ownBlock = some k → G k ∧ ¬ F k ∧ k ≠ r) ∧ ∀ k, G k → k < w.heap.size
theorem rh_thing (r rn : Nat) : Thing (RH r rn) where
  lt := by
    rintro G w h ⟨_, v, F, _, _, _, _, _, _, _, h1⟩
    exact h1
  keep := by
    rintro G S w w' h ⟨h0, v, F, h1, h2, h3, h4, h5, h6, h7, h8⟩ hk hS
    exact ⟨h0, v, F, hk.heap (hS r h4) h1, h2.keep hk (fun k e => hS k (h7 k e).1), (rn_thing rn).keep h3 hk (fun k hf => hS k (h6 k hf)), h4, h5, h6, h7, fun k hg => Nat.lt_of_lt_of_le (h8 k hg) hk.size⟩
section
variable {r rn : Nat} {G : Nat → Prop} {w : World} {h : Hd}
/-- a call on the nodes: what it leaves of the hand; C: memory that it handed out -/
theorem RH.turn (hh : RH r rn G w h) : ∃ F : Nat → Prop, RN rn F w h.n ∧ (∀ k, F k → G k) ∧ ∀ (C : Nat → Prop) (v : Value) (L : List (List Int)) W n', (∀ k, C k → w.heap.size ≤ k) → Leaves (Chained (RN rn) C v L) F w W n' → Leaves (Chained (RH r rn) C v L) G w W ⟨n', h.held⟩ := by
  obtain ⟨h0, v, F, h1, h2, h3, h4, h5, h6, h7, h8⟩ := hh
  refine ⟨F, h3, h6, fun C v2 L W n' hC hl => ?_⟩
  obtain ⟨H, ⟨H1, k1, k2, k3, k4, k5⟩, r2, r3⟩ := hl
  have hn : ∀ k, H1 k → F k ∨ w.heap.size ≤ k := fun k hk => r3 k ((k5 k).2 (.inl hk))
  have hsz := r2.size
  refine ⟨fun k => ((G k ∧ ¬ F k) ∨ H1 k) ∨ C k, ⟨fun k => (G k ∧ ¬ F k) ∨ H1 k, ⟨h0, v, H1, r2.heap h5 h1, h2.keep r2 (fun k e => (h7 k e).2.1), k1, .inl ⟨h4, h5⟩, fun hr => ?_, fun k hk => .inr hk, fun k e => ⟨.inl ⟨(h7 k e).1, (h7 k e).2.1⟩, fun hk => ?_, (h7 k e).2.2⟩, fun k hk => ?_⟩, k2, k3, fun k hk hg => ?_, fun k => Iff.rfl⟩, r2.mono (fun k hg hf => hg (h6 k hf)), fun k hk => ?_⟩
  · rcases hn r hr with h | h
    · exact h5 h
    · have := h8 r h4; omega
  · rcases hn k hk with h | h
    · exact (h7 k e).2.1 h
    · have := h8 k (h7 k e).1; omega
  · rcases hk with hk | hk
    · exact Nat.lt_of_lt_of_le (h8 k hk.1) hsz
    · exact (rn_thing rn).lt k1 k hk
  · rcases hg with hg | hg
    · have := h8 k hg.1; have := hC k hk; omega
    · exact k4 k hk hg
  · rcases hk with (hk | hk) | hk
    · exact .inl hk.1
    · exact (hn k hk).imp (h6 k) id
    · exact .inr (hC k hk)
theorem RH.cells (hh : RH r rn G w h) : ∃ v, w.heap[r]? = some (.cells #[.pointer (some ⟨rn, 0, none⟩), v] 83 (0, 0)) ∧ OR 62 9 askC w 0 v h.held := by
  obtain ⟨h0, v, F, h1, h2, _⟩ := hh
  exact ⟨v, h1, h2⟩
theorem RH.small (hh : RH r rn G w h) : r < w.heap.size := by
  obtain ⟨v, h1, _⟩ := hh.cells
  exact lt_of_block h1
/-- a row that was made anew is laid into the hand -/
theorem RH.lay (hh : RH r rn G w h) {w2 : World} (hb : Below w.heap.size w w2) {v2 : Value} {l : List Ak} (hO : OR 62 9 askC w2 w.heap.size v2 l) (hl : l.length ≤ 64) : Leaves (RH r rn) G w (w2.setCell ⟨r, 1, none⟩ v2) ⟨h.n, l⟩ := by
  obtain ⟨h0, v, F, h1, h2, h3, h4, h5, h6, h7, h8⟩ := hh
  have hlt := h8 r h4
  have hz := hb.size
  have hs : (w2.setCell ⟨r, 1, none⟩ v2).heap.size = w2.heap.size := by simp [World.setCell]
  have hk1 : Kept (fun k => k ≠ r) w2 (w2.setCell ⟨r, 1, none⟩ v2) := (Kept.refl _ w2).setCell (p := ⟨r, 1, none⟩) (fun h => h rfl) _
  have hk : Kept (fun k => ¬ G k) w (w2.setCell ⟨r, 1, none⟩ v2) := (Kept.ofBelow hb (fun k => ¬ G k)).setCell (p := ⟨r, 1, none⟩) (fun h => h h4) v2
  have hown : ∀ k, v2.ownBlock = some k → w.heap.size ≤ k ∧ k < w2.heap.size := fun k e => hO.lt k e
  refine ⟨fun k => G k ∨ (w.heap.size ≤ k ∧ k < w2.heap.size), ⟨hl, v2, F, two_set1 (below_heap hb h1) v2, (hO.keep hk1 (fun k e => ?_)).lower (Nat.zero_le _), (rn_thing rn).keep ((rn_thing rn).keep h3 (Kept.ofBelow hb (fun _ => True)) (fun _ _ => trivial)) hk1 (fun k hf e => h5 (e ▸ hf)), .inl h4, h5, fun k hf => .inl (h6 k hf), fun k e => ⟨.inr (hown k e), fun hf => ?_, ?_⟩, fun k hk => ?_⟩, hk, fun k hk => ?_⟩
  · have := hown k e; omega
  · have := h8 k (h6 k hf); have := hown k e; omega
  · have := hown k e; omega
  · rw [hs]
    rcases hk with hk | hk
    · exact Nat.lt_of_lt_of_le (h8 k hk) hz
    · exact hk.2
  · rcases hk with hk | hk
    · exact .inl hk
    · exact .inr hk.1
end
end Go.Proofs.YthffjanidjjkdaaGreat
