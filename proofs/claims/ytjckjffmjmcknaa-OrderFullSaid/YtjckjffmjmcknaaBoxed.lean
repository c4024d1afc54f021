/- The world in which a call has boxed its question and laid out its answer, beside a thing that lies in blocks of its own. No conditions. -/
import Derived.Test.YtjckjffmjmcknaaAskB
import Derived.Test.YtjckjffmjmcknaaSide
namespace Go.Proofs.Ytjckjffmjmcknaa
set_option linter.unusedVariables false
open Go.RowKit
set_option maxRecDepth 20000
def zeroAn : Array Value := #[.int .i64 0, .int .i64 0, .string ⟨#[]⟩, .int .i64 0, .slice none 0 0, .int .i64 0, .int .i64 0, .int .i64 0]
/-- the call began in w; it is in W now -/
structure Boxed {α : Type} (T : (Nat → Prop) → World → α → Prop) (w W : World) (G : Nat → Prop) (s : α) (A : Array Value) : Prop where
  ask : W.heap[w.heap.size]? = some (.cells A 32 (0, 0))
  ans : W.heap[w.heap.size + 1]? = some (.cells zeroAn 40 (0, 0))
  th : ∃ H : Nat → Prop, T H W s ∧ ∀ k, H k → G k ∨ w.heap.size + 1 < k
  kp : Kept (fun k => ¬ G k) w W
  lt : ∀ k, G k → k < w.heap.size
section
variable {α : Type} {T : (Nat → Prop) → World → α → Prop} {w W : World} {G : Nat → Prop} {s s' : α} {A : Array Value}
theorem boxed_start (hT : Thing T) (h : T G w s) (A : Array Value) : Boxed T w ((w.alloc (.cells A 32)).alloc (.cells zeroAn 40)) G s A := by
  have hb : Below w.heap.size w ((w.alloc (.cells A 32)).alloc (.cells zeroAn 40)) := ((Below.refl _ _).alloc (Nat.le_refl _) _).alloc (by simp) _
  obtain ⟨h1, h2⟩ := two_blocks w A zeroAn 32 40
  exact ⟨h1, h2, ⟨G, hT.keep h (Kept.ofBelow hb (fun _ => True)) (fun _ _ => trivial), fun k hk => .inl hk⟩, Kept.ofBelow hb _, fun k hk => hT.lt h k hk⟩
theorem Boxed.below (hT : Thing T) (h : Boxed T w W G s A) {W2 : World} (hb : Below W.heap.size W W2) : Boxed T w W2 G s A := by
  obtain ⟨H, h1, h2⟩ := h.th
  exact ⟨below_heap hb h.ask, below_heap hb h.ans, ⟨H, hT.keep h1 (Kept.ofBelow hb (fun _ => True)) (fun _ _ => trivial), h2⟩, h.kp.below hb, h.lt⟩
theorem Boxed.drewN (hT : Thing T) (h : Boxed T w W G s A) (n : Nat) : Boxed T w (W.drewN n) G s A := h.below hT (below_drewN (Below.refl _ _) n)
theorem Boxed.small (h : Boxed T w W G s A) : w.heap.size < W.heap.size ∧ w.heap.size + 1 < W.heap.size := ⟨lt_of_block h.ask, lt_of_block h.ans⟩
theorem Boxed.leaves (h : Boxed T w W G s A) : Leaves T G w W s := by
  obtain ⟨H, h1, h2⟩ := h.th
  exact ⟨H, h1, h.kp, fun k hk => (h2 k hk).imp id (fun h => by omega)⟩
/-- a call, or a store, on the thing; what it leaves may be told as another thing -/
theorem Boxed.use2 (h : Boxed T w W G s A) : ∃ H : Nat → Prop, T H W s ∧ (∀ W2, Kept (fun k => ¬ H k) W W2 → Kept (fun k => ¬ G k) w W2) ∧ ∀ {β : Type} (U : (Nat → Prop) → World → β → Prop) W2 (s' : β), Leaves U H W W2 s' → Boxed U w W2 G s' A := by
  obtain ⟨H, h1, h2⟩ := h.th
  obtain ⟨s1, s2⟩ := h.small
  have off : ∀ k, k < W.heap.size → ¬ G k → k ≤ w.heap.size + 1 → ¬ H k := fun k _ hg hk hf => by
    rcases h2 k hf with h3 | h3
    · exact hg h3
    · omega
  have ng : ∀ k, w.heap.size ≤ k → ¬ G k := fun k hk hg => by have := h.lt k hg; omega
  have kk : ∀ W2, Kept (fun k => ¬ H k) W W2 → Kept (fun k => ¬ G k) w W2 := fun W2 r2 => by
    have hk := h.kp
    refine ⟨r2.os.trans hk.os, r2.tape.trans hk.tape, r2.output.trans hk.output, Nat.le_trans hk.size r2.size, fun k hg hkl => ?_⟩
    rw [r2.block k (off k (Nat.lt_of_lt_of_le hkl hk.size) hg (by omega)) (Nat.lt_of_lt_of_le hkl hk.size)]
    exact hk.block k hg hkl
  refine ⟨H, h1, kk, fun U W2 s' hl => ?_⟩
  obtain ⟨H', r1, r2, r3⟩ := hl
  refine ⟨r2.heap (off _ s1 (ng _ (by omega)) (by omega)) h.ask, r2.heap (off _ s2 (ng _ (by omega)) (by omega)) h.ans, ⟨H', r1, fun k hk => ?_⟩, kk W2 r2, h.lt⟩
  rcases r3 k hk with h3 | h3
  · exact h2 k h3
  · exact .inr (by omega)
/-- a call, or a store, on the thing -/
theorem Boxed.use (h : Boxed T w W G s A) : ∃ H : Nat → Prop, T H W s ∧ ∀ W2 s', Leaves T H W W2 s' → Boxed T w W2 G s' A := by
  obtain ⟨H, h1, _, h3⟩ := h.use2
  exact ⟨H, h1, fun W2 s' hl => h3 T W2 s' hl⟩
set_option maxHeartbeats 1000000 in
theorem Boxed.fin (hT : Thing T) (h : Boxed T w W G s A) {v0 v1 v2 v3 v4 v5 v6 v7 : Value} :
    ((((((((W.setCell ⟨w.heap.size + 1, 0, none⟩ v0).setCell ⟨w.heap.size + 1, 1, none⟩ v1).setCell ⟨w.heap.size + 1, 2, none⟩ v2).setCell ⟨w.heap.size + 1, 3, none⟩ v3).setCell ⟨w.heap.size + 1, 4, none⟩ v4).setCell ⟨w.heap.size + 1, 5, none⟩ v5).setCell ⟨w.heap.size + 1, 6, none⟩ v6).setCell ⟨w.heap.size + 1, 7, none⟩ v7).heap[w.heap.size + 1]? = some (.cells #[v0, v1, v2, v3, v4, v5, v6, v7] 40 (0, 0)) ∧ Leaves T G w ((((((((W.setCell ⟨w.heap.size + 1, 0, none⟩ v0).setCell ⟨w.heap.size + 1, 1, none⟩ v1).setCell ⟨w.heap.size + 1, 2, none⟩ v2).setCell ⟨w.heap.size + 1, 3, none⟩ v3).setCell ⟨w.heap.size + 1, 4, none⟩ v4).setCell ⟨w.heap.size + 1, 5, none⟩ v5).setCell ⟨w.heap.size + 1, 6, none⟩ v6).setCell ⟨w.heap.size + 1, 7, none⟩ v7) s := by
  constructor
  · exact (eight_set7 (eight_set6 (eight_set5 (eight_set4 (eight_set3 (eight_set2 (eight_set1 (eight_set0 h.ans _) _) _) _) _) _) _) _)
  · obtain ⟨H, h1, h2⟩ := h.th
    have hk : Kept (fun k => k ≠ w.heap.size + 1) W ((((((((W.setCell ⟨w.heap.size + 1, 0, none⟩ v0).setCell ⟨w.heap.size + 1, 1, none⟩ v1).setCell ⟨w.heap.size + 1, 2, none⟩ v2).setCell ⟨w.heap.size + 1, 3, none⟩ v3).setCell ⟨w.heap.size + 1, 4, none⟩ v4).setCell ⟨w.heap.size + 1, 5, none⟩ v5).setCell ⟨w.heap.size + 1, 6, none⟩ v6).setCell ⟨w.heap.size + 1, 7, none⟩ v7) := (((((((((Kept.refl _ W).setCell (p := ⟨w.heap.size + 1, 0, none⟩) (fun h => h rfl) _).setCell (p := ⟨w.heap.size + 1, 1, none⟩) (fun h => h rfl) _).setCell (p := ⟨w.heap.size + 1, 2, none⟩) (fun h => h rfl) _).setCell (p := ⟨w.heap.size + 1, 3, none⟩) (fun h => h rfl) _).setCell (p := ⟨w.heap.size + 1, 4, none⟩) (fun h => h rfl) _).setCell (p := ⟨w.heap.size + 1, 5, none⟩) (fun h => h rfl) _).setCell (p := ⟨w.heap.size + 1, 6, none⟩) (fun h => h rfl) _).setCell (p := ⟨w.heap.size + 1, 7, none⟩) (fun h => h rfl) _)
    refine ⟨H, hT.keep h1 hk (fun k hk e => ?_), (kept_new (kept_new (kept_new (kept_new (kept_new (kept_new (kept_new (kept_new h.kp (by omega) _) (by omega) _) (by omega) _) (by omega) _) (by omega) _) (by omega) _) (by omega) _) (by omega) _), fun k hk => (h2 k hk).imp id (fun h => by omega)⟩
    rcases h2 k hk with h3 | h3
    · have := h.lt k h3; omega
    · omega
end
/-- an answer is stored: what lies elsewhere stays -/
theorem cells8_off {w : World} {y : Nat} {x : Addr} {v : Value} (h : w.cell? x = some v) (hx : x.block ≠ y) (v0 v1 v2 v3 v4 v5 v6 v7 : Value) :
    ((((((((w.setCell ⟨y, 0, none⟩ v0).setCell ⟨y, 1, none⟩ v1).setCell ⟨y, 2, none⟩ v2).setCell ⟨y, 3, none⟩ v3).setCell ⟨y, 4, none⟩ v4).setCell ⟨y, 5, none⟩ v5).setCell ⟨y, 6, none⟩ v6).setCell ⟨y, 7, none⟩ v7).cell? x = some v := by
  have n : ∀ i, (⟨y, i, none⟩ : Addr) ≠ x := fun i e => hx (by rw [← e])
  rw [World.cell?_setCell_other _ _ _ _ (n 7), World.cell?_setCell_other _ _ _ _ (n 6), World.cell?_setCell_other _ _ _ _ (n 5), World.cell?_setCell_other _ _ _ _ (n 4), World.cell?_setCell_other _ _ _ _ (n 3), World.cell?_setCell_other _ _ _ _ (n 2), World.cell?_setCell_other _ _ _ _ (n 1), World.cell?_setCell_other _ _ _ _ (n 0)]
  exact h
end Go.Proofs.Ytjckjffmjmcknaa
