/- Stage 20: rows that are written over from the outside: what lies there still, and that it may be written. No conditions. -/
import Derived.Test.YtfkgeefoknaldaaG41a
import Derived.Deep.MidRow
set_option linter.unusedVariables false
namespace Go.Proofs.Ytfkgeefoknaldaa
open Go.RowKit
set_option linter.unusedVariables false
set_option maxRecDepth 20000
theorem wipe_low {B b : Nat} {a : World} (hb : B ≤ b) : ∀ (vs : List Value) (o : Nat) (w : World), Below B a w → Below B a (w.setCells b o vs)
  | [], _, _, h => h
  | v :: r, o, w, h => wipe_low hb r (o + 1) _ (h.setCell (by exact hb) v)
/-- a row of the caller's own: its cells, and that they may be written -/
theorem or_there {α : Type} {T TS : TypeId} {n : Nat} {f : α → List Value} (K : RowK Try.prog TS T n f) {w : World} {B : Nat} {v : Value} {l : List α} (h : OR T n f w B v l) :
    ∃ ao cap, v = .slice ao l.length cap ∧ ∀ k (hk : k < l.length), ∃ g, ao = some ⟨g, 0, none⟩ ∧ B ≤ g ∧ g < w.heap.size ∧ w.rangeAt g (k * n) (f l[k]) ∧ w.there g (k * n) n := by
  obtain ⟨ao, cap, hv, hr, _, _, hlo, _⟩ := OR.form K h
  refine ⟨ao, cap, hv, fun k hk => ?_⟩
  obtain ⟨bk, off, e, h2⟩ := hr k hk
  rcases h.2 with ⟨h3, h0⟩ | ⟨g, cap2, cur, h3, hb, hh, _⟩
  · rw [h3] at hv
    have := (Value.slice.inj hv).1
    rw [e] at this
    cases this
  · rw [h3] at hv
    have h4 := (Value.slice.inj hv).1
    rw [e] at h4
    cases h4
    have hx := hlo _ e
    have hR : w.rangeAt bk (k * n) (f l[k]) := fun j u hj => by
      have := h2 j u hj
      rw [Nat.zero_add] at this
      exact this
    refine ⟨bk, e, hx.1, hx.2, hR, fun j hj => ⟨hR.isSome j (by rw [K.len]; exact hj), free_of hh _⟩⟩
/-- the rows of inodes at g from the i-th on, as they were; all may be written -/
structure Wipe (W : World) (B g i : Nat) (l : List Iv) : Prop where
  low : B ≤ g
  head : ∀ j (hj : j < l.length), i ≤ j → W.rangeAt g (j * 6) (ivC l[j])
  rows : ∀ j, j < l.length → W.there g (j * 6) 6
  parts : ∀ y ∈ l, ∀ k, k < y.x.parts.length → ∃ bk, y.ao = some ⟨bk, 0, none⟩ ∧ B ≤ bk ∧ bk ≠ g ∧ W.there bk (k * 4) 4
theorem Wipe.start {W : World} {B : Nat} {v : Value} {l : List Iv} (h : DRow W B v l) (hl : l ≠ []) : ∃ g cap, v = .slice (some ⟨g, 0, none⟩) l.length cap ∧ Wipe W B g 0 l := by
  obtain ⟨ao, cap, hv, hr⟩ := or_there piv_rows h.row
  obtain ⟨g, e, hb, _⟩ := hr 0 (List.length_pos_iff.2 hl)
  subst e
  refine ⟨g, cap, hv, hb, fun j hj _ => ?_, fun j hj => ?_, fun y hy k hk => ?_⟩
  · obtain ⟨g2, e, _, _, h2, _⟩ := hr j hj
    cases e
    exact h2
  · obtain ⟨g2, e, _, _, _, h2⟩ := hr j hj
    cases e
    exact h2
  · obtain ⟨ao2, cap2, hv2, hr2⟩ := or_there par_rows (h.parts y hy)
    obtain ⟨bk, e, h1, _, _, h2⟩ := hr2 k hk
    have e2 := (Value.slice.inj hv2).1
    refine ⟨bk, e2.trans e, h1, fun e3 => ?_, h2⟩
    have := h.off y hy _ (e2.trans e)
    rw [hv, e3] at this
    exact this rfl
theorem Wipe.part {W : World} {B g i : Nat} {l : List Iv} (h : Wipe W B g i l) {bk : Nat} (hb : bk ≠ g) (o : Nat) (vs : List Value) : Wipe (W.setCells bk o vs) B g i l :=
  ⟨h.low, fun j hj hi => World.rangeAt_setCells_apart (h.head j hj hi) _ _ _ (.inl (Ne.symm hb)), fun j hj => World.there_setCells (h.rows j hj) _ _ _, fun y hy k hk => by
    obtain ⟨b2, e, h1, h2, h3⟩ := h.parts y hy k hk
    exact ⟨b2, e, h1, h2, World.there_setCells h3 _ _ _⟩⟩
theorem Wipe.row {W : World} {B g i : Nat} {l : List Iv} (h : Wipe W B g i l) (vs : List Value) (hv : vs.length = 6) : Wipe (W.setCells g (i * 6) vs) B g (i + 1) l :=
  ⟨h.low, fun j hj hi => World.rangeAt_setCells_apart (h.head j hj (by omega)) _ _ _ (.inr (.inr (by rw [hv]; omega))), fun j hj => World.there_setCells (h.rows j hj) _ _ _, fun y hy k hk => by
    obtain ⟨b2, e, h1, h2, h3⟩ := h.parts y hy k hk
    exact ⟨b2, e, h1, h2, World.there_setCells h3 _ _ _⟩⟩
theorem Wipe.drew {W : World} {B g i : Nat} {l : List Iv} (h : Wipe W B g i l) : Wipe W.drew B g i l :=
  ⟨h.low, fun j hj hi => (World.rangeAt_drew _ _ _ _).2 (h.head j hj hi), fun j hj => (World.there_drew _ _ _ _).2 (h.rows j hj), fun y hy k hk => by
    obtain ⟨b2, e, h1, h2, h3⟩ := h.parts y hy k hk
    exact ⟨b2, e, h1, h2, (World.there_drew _ _ _ _).2 h3⟩⟩
end Go.Proofs.Ytfkgeefoknaldaa
