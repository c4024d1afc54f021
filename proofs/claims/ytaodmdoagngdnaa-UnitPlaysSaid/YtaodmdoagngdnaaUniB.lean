/- What the document's own unit answers a question, and is behind it. Conditions: it and the question lie where the call was told; the question's data are not too long. (Written by gen/genunib.py.) -/
import Derived.Test.YtaodmdoagngdnaaUniA
namespace Go.Proofs.Ytaodmdoagngdnaa
set_option linter.unusedVariables false
open Go.RowKit
set_option maxRecDepth 20000
def askA (a : Ak) : Array Value := (askC a).toArray
/-- the world in which Do has laid out the question and two answers -/
structure DoW (w W : World) (r q : Nat) (G : Nat → Prop) (u : Us) (a : Ak) (Y : Array Value) : Prop where
  ask : W.heap[w.heap.size]? = some (.cells (askA a) 36 (0, 0))
  zero : W.heap[w.heap.size + 1]? = some (.cells #[.int .i64 0, .int .i64 0, .string ⟨#[]⟩, .int .i64 0, .slice none 0 0, .int .i64 0, .int .i64 0, .int .i64 0] 41 (0, 0))
  ans : W.heap[w.heap.size + 1 + 1]? = some (.cells Y 41 (0, 0))
  ru : ∃ H : Nat → Prop, RU r q H W u ∧ ∀ k, H k → G k ∨ w.heap.size + 1 + 1 < k
  kp : Kept (fun k => ¬ G k) w W
  lt : ∀ k, G k → k < w.heap.size
  rg : G r
theorem do_start {w : World} {r q : Nat} {G : Nat → Prop} {u : Us} (h : RU r q G w u) (a : Ak) (Y : Array Value) : DoW w (((w.alloc (.cells (askA a) 36)).alloc (.cells #[.int .i64 0, .int .i64 0, .string ⟨#[]⟩, .int .i64 0, .slice none 0 0, .int .i64 0, .int .i64 0, .int .i64 0] 41)).alloc (.cells Y 41)) r q G u a Y := by
  have hb : Below w.heap.size w (((w.alloc (.cells (askA a) 36)).alloc (.cells #[.int .i64 0, .int .i64 0, .string ⟨#[]⟩, .int .i64 0, .slice none 0 0, .int .i64 0, .int .i64 0, .int .i64 0] 41)).alloc (.cells Y 41)) := (((Below.refl _ _).alloc (Nat.le_refl _) _).alloc (by simp) _).alloc (by simp; omega) _
  obtain ⟨h1, h2⟩ := two_blocks w (askA a) #[.int .i64 0, .int .i64 0, .string ⟨#[]⟩, .int .i64 0, .slice none 0 0, .int .i64 0, .int .i64 0, .int .i64 0] 36 41
  have hb2 := (Below.refl ((w.alloc (.cells (askA a) 36)).alloc (.cells #[.int .i64 0, .int .i64 0, .string ⟨#[]⟩, .int .i64 0, .slice none 0 0, .int .i64 0, .int .i64 0, .int .i64 0] 41)).heap.size ((w.alloc (.cells (askA a) 36)).alloc (.cells #[.int .i64 0, .int .i64 0, .string ⟨#[]⟩, .int .i64 0, .slice none 0 0, .int .i64 0, .int .i64 0, .int .i64 0] 41))).alloc (Nat.le_refl _) (.cells Y 41)
  refine ⟨below_heap hb2 h1, below_heap hb2 h2, ?_, ⟨G, (ru_thing r q).keep h (Kept.ofBelow hb (fun _ => True)) (fun _ _ => trivial), fun k hk => .inl hk⟩, Kept.ofBelow hb _, fun k hk => (ru_thing r q).lt h k hk, h.2.2.1⟩
  have h := heap_alloc_new ((w.alloc (.cells (askA a) 36)).alloc (.cells #[.int .i64 0, .int .i64 0, .string ⟨#[]⟩, .int .i64 0, .slice none 0 0, .int .i64 0, .int .i64 0, .int .i64 0] 41)) (.cells Y 41)
  have e : ((w.alloc (.cells (askA a) 36)).alloc (.cells #[.int .i64 0, .int .i64 0, .string ⟨#[]⟩, .int .i64 0, .slice none 0 0, .int .i64 0, .int .i64 0, .int .i64 0] 41)).heap.size = w.heap.size + 1 + 1 := by simp
  rw [e] at h
  exact h
section
variable {w W : World} {r q : Nat} {G : Nat → Prop} {u : Us} {a : Ak} {Y : Array Value}
theorem DoW.below (h : DoW w W r q G u a Y) {W2 : World} (hb : Below W.heap.size W W2) : DoW w W2 r q G u a Y := by
  obtain ⟨H, h1, h2⟩ := h.ru
  exact ⟨below_heap hb h.ask, below_heap hb h.zero, below_heap hb h.ans, ⟨H, (ru_thing r q).keep h1 (Kept.ofBelow hb (fun _ => True)) (fun _ _ => trivial), h2⟩, h.kp.below hb, h.lt, h.rg⟩
theorem DoW.drewN (h : DoW w W r q G u a Y) (n : Nat) : DoW w (W.drewN n) r q G u a Y := h.below (below_drewN (Below.refl _ _) n)
theorem DoW.unit (h : DoW w W r q G u a Y) : W.heap[r]? = some (.cells #[.pointer (some ⟨q, 0, none⟩), .int .i64 u.epoch, .bool u.down] 45 (0, 0)) := by
  obtain ⟨H, h1, _⟩ := h.ru
  exact h1.2.1
theorem DoW.small (h : DoW w W r q G u a Y) : w.heap.size < W.heap.size ∧ w.heap.size + 1 < W.heap.size ∧ w.heap.size + 1 + 1 < W.heap.size ∧ r < w.heap.size := ⟨lt_of_block h.ask, lt_of_block h.zero, lt_of_block h.ans, h.lt r h.rg⟩
/-- a store into one of the answers, and what it leaves -/
theorem DoW.leaves (h : DoW w W r q G u a Y) : Leaves (RU r q) G w W u := by
  obtain ⟨H, h1, h2⟩ := h.ru
  exact ⟨H, h1, h.kp, fun k hk => (h2 k hk).imp id (fun h => by omega)⟩
theorem DoW.put (h : DoW w W r q G u a Y) (o : Nat) (v : Value) : DoW w (W.setCell ⟨w.heap.size + 1 + 1, o, none⟩ v) r q G u a (Y.setIfInBounds o v) := by
  obtain ⟨H, h1, h2⟩ := h.ru
  have hk : Kept (fun k => k ≠ w.heap.size + 1 + 1) W (W.setCell ⟨w.heap.size + 1 + 1, o, none⟩ v) := (Kept.refl _ W).setCell (p := ⟨w.heap.size + 1 + 1, o, none⟩) (fun h => h rfl) v
  refine ⟨hk.heap (by omega) h.ask, hk.heap (by omega) h.zero, heap_setCell_same W _ o Y _ v h.ans, ⟨H, (ru_thing r q).keep h1 hk (fun k hk e => ?_), h2⟩, kept_new h.kp (by omega) v, h.lt, h.rg⟩
  rcases h2 k hk with h3 | h3
  · have := h.lt k h3; omega
  · omega
/-- the unit's epoch is another -/
theorem DoW.seal (h : DoW w W r q G u a Y) {ep : Int} (he : i64w ep) : DoW w (W.setCell ⟨r, 1, none⟩ (.int .i64 ep)) r q G ⟨u.p, ep, u.down⟩ a Y := by
  obtain ⟨H, h1, h2⟩ := h.ru
  have hlt := h.lt r h.rg
  have hk : Kept (fun k => k ≠ r) W (W.setCell ⟨r, 1, none⟩ (.int .i64 ep)) := (Kept.refl _ W).setCell (p := ⟨r, 1, none⟩) (fun h => h rfl) _
  obtain ⟨⟨k1, k2⟩, k3, k4, F, k5, k6, k7, k8⟩ := h1
  refine ⟨hk.heap (by omega) h.ask, hk.heap (by omega) h.zero, hk.heap (by omega) h.ans, ⟨H, ⟨⟨k1, he⟩, three_set1 k3 _, k4, F, k5.keep hk (fun k hf e => k7 (e ▸ hf)), k6, k7, k8⟩, h2⟩, h.kp.setCell (p := ⟨r, 1, none⟩) (fun hn => hn h.rg) _, h.lt, h.rg⟩
/-- a call on the pages -/
theorem DoW.ready (h : DoW w W r q G u a Y) : ∃ F : Nat → Prop, RG F W q u.p ∧ u.p.Ok ∧ ∀ W2 p', p'.Ok → Left RG F W W2 q p' → DoW w W2 r q G ⟨p', u.epoch, u.down⟩ a Y := by
  obtain ⟨H, ⟨⟨k1, k2⟩, k3, k4, F, k5, k6, k7, k8⟩, h2⟩ := h.ru
  refine ⟨F, k5, k1, fun W2 p' hok hl => ?_⟩
  obtain ⟨F', r1, r2, r3⟩ := hl
  obtain ⟨s1, s2, s3, s4⟩ := h.small
  have off : ∀ k, k < W.heap.size → ¬ G k → k ≤ w.heap.size + 1 + 1 → ¬ F k := fun k _ hg hk hf => by
    rcases h2 k (k6 k hf) with h3 | h3
    · exact hg h3
    · omega
  have ng : ∀ k, w.heap.size ≤ k → ¬ G k := fun k hk hg => by have := h.lt k hg; omega
  refine ⟨r2.heap (off _ s1 (ng _ (by omega)) (by omega)) h.ask, r2.heap (off _ s2 (ng _ (by omega)) (by omega)) h.zero, r2.heap (off _ s3 (ng _ (by omega)) (by omega)) h.ans, ⟨fun k => F' k ∨ k = r, ⟨⟨hok, k2⟩, r2.heap k7 k3, .inr rfl, F', r1, fun k hk => .inl hk, fun hf => ?_, fun k hk => hk⟩, fun k hk => ?_⟩, ?_, h.lt, h.rg⟩
  · rcases r3 r hf with h3 | h3
    · exact k7 h3
    · omega
  · rcases hk with hk | hk
    · rcases r3 k hk with h3 | h3
      · exact h2 k (k6 k h3)
      · exact .inr (by omega)
    · exact .inl (hk ▸ h.rg)
  · have hk := h.kp
    refine ⟨r2.os.trans hk.os, r2.tape.trans hk.tape, r2.output.trans hk.output, Nat.le_trans hk.size r2.size, fun k hg hkl => ?_⟩
    rw [r2.block k (off k (Nat.lt_of_lt_of_le hkl hk.size) hg (by omega)) (Nat.lt_of_lt_of_le hkl hk.size)]
    exact hk.block k hg hkl
set_option maxHeartbeats 1000000 in
theorem DoW.fin (h : DoW w W r q G u a Y) {v0 v1 v2 v3 v4 v5 v6 v7 : Value} :
    ((((((((W.setCell ⟨w.heap.size + 1, 0, none⟩ v0).setCell ⟨w.heap.size + 1, 1, none⟩ v1).setCell ⟨w.heap.size + 1, 2, none⟩ v2).setCell ⟨w.heap.size + 1, 3, none⟩ v3).setCell ⟨w.heap.size + 1, 4, none⟩ v4).setCell ⟨w.heap.size + 1, 5, none⟩ v5).setCell ⟨w.heap.size + 1, 6, none⟩ v6).setCell ⟨w.heap.size + 1, 7, none⟩ v7).heap[w.heap.size + 1]? = some (.cells #[v0, v1, v2, v3, v4, v5, v6, v7] 41 (0, 0)) ∧ Leaves (RU r q) G w ((((((((W.setCell ⟨w.heap.size + 1, 0, none⟩ v0).setCell ⟨w.heap.size + 1, 1, none⟩ v1).setCell ⟨w.heap.size + 1, 2, none⟩ v2).setCell ⟨w.heap.size + 1, 3, none⟩ v3).setCell ⟨w.heap.size + 1, 4, none⟩ v4).setCell ⟨w.heap.size + 1, 5, none⟩ v5).setCell ⟨w.heap.size + 1, 6, none⟩ v6).setCell ⟨w.heap.size + 1, 7, none⟩ v7) u := by
  constructor
  · exact (eight_set7 (eight_set6 (eight_set5 (eight_set4 (eight_set3 (eight_set2 (eight_set1 (eight_set0 h.zero _) _) _) _) _) _) _) _)
  · obtain ⟨H, h1, h2⟩ := h.ru
    have hk : Kept (fun k => k ≠ w.heap.size + 1) W ((((((((W.setCell ⟨w.heap.size + 1, 0, none⟩ v0).setCell ⟨w.heap.size + 1, 1, none⟩ v1).setCell ⟨w.heap.size + 1, 2, none⟩ v2).setCell ⟨w.heap.size + 1, 3, none⟩ v3).setCell ⟨w.heap.size + 1, 4, none⟩ v4).setCell ⟨w.heap.size + 1, 5, none⟩ v5).setCell ⟨w.heap.size + 1, 6, none⟩ v6).setCell ⟨w.heap.size + 1, 7, none⟩ v7) := (((((((((Kept.refl _ W).setCell (p := ⟨w.heap.size + 1, 0, none⟩) (fun h => h rfl) _).setCell (p := ⟨w.heap.size + 1, 1, none⟩) (fun h => h rfl) _).setCell (p := ⟨w.heap.size + 1, 2, none⟩) (fun h => h rfl) _).setCell (p := ⟨w.heap.size + 1, 3, none⟩) (fun h => h rfl) _).setCell (p := ⟨w.heap.size + 1, 4, none⟩) (fun h => h rfl) _).setCell (p := ⟨w.heap.size + 1, 5, none⟩) (fun h => h rfl) _).setCell (p := ⟨w.heap.size + 1, 6, none⟩) (fun h => h rfl) _).setCell (p := ⟨w.heap.size + 1, 7, none⟩) (fun h => h rfl) _)
    refine ⟨H, (ru_thing r q).keep h1 hk (fun k hk e => ?_), (kept_new (kept_new (kept_new (kept_new (kept_new (kept_new (kept_new (kept_new h.kp (by omega) _) (by omega) _) (by omega) _) (by omega) _) (by omega) _) (by omega) _) (by omega) _) (by omega) _), fun k hk => (h2 k hk).imp id (fun h => by omega)⟩
    rcases h2 k hk with h3 | h3
    · have := h.lt k h3; omega
    · omega
end

end Go.Proofs.Ytaodmdoagngdnaa
