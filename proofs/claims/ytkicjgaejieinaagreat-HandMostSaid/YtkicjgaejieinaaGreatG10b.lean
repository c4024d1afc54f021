/- What the document's own unit answers a question, and is behind it. Conditions: it and the question lie where the call was told; the question's data are not too long. (Written by gen/genunib.py.) The program's sequencer in memory, and what its New, Crash, Epoch, Knows and coded return. No conditions but those that the statements name. Pages as the program keeps them: a map whose keys are page numbers, whose elements are a kind and a text; what such a map tells. Conditions: numbers of 64 bits. Rows of slices that a call makes for itself, each in a place of its own. No conditions but those that the statements name. Projections as arguments: where they lie, boxed and made by literals; which are not too large. No conditions. Rows of questions that were handed over: what stands at each of their places. No conditions but those that the statements name. What the statements' own Fair tells of a list of steps. Conditions: the list is one that was handed over. What the document's own sequencer answers any question, and is behind it; the program's and it side by side. Conditions: the program's functions return what OrderSays says. -/
import Derived.Test.YtkicjgaejieinaaGreatG09b
import Derived.Test.YtkicjgaejieinaaGreatG08b
import Derived.Test.YtkicjgaejieinaaGreatG09a
import Derived.Test.YtkicjgaejieinaaGreatG03a
import Derived.Test.YtkicjgaejieinaaGreatG04a
import Derived.Maps.RangeWalk
import Derived.Deep.RegionLaw
set_option linter.unusedVariables false
namespace Go.Proofs.YtkicjgaejieinaaGreat
set_option linter.unusedVariables false
open Go.RowKit
set_option maxRecDepth 20000
def askA (a : Ak) : Array Value := (askC a).toArray
/-- the world in which Do has laid out the question and two answers -/
structure DoW (w W : World) (r q : Nat) (G : Nat → Prop) (u : Us) (a : Ak) (Y : Array Value) : Prop where
  ask : W.heap[w.heap.size]? = some (.cells (askA a) 34 (0, 0))
  zero : W.heap[w.heap.size + 1]? = some (.cells #[.int .i64 0, .int .i64 0, .string ⟨#[]⟩, .int .i64 0, .slice none 0 0, .int .i64 0, .int .i64 0, .int .i64 0] 38 (0, 0))
  ans : W.heap[w.heap.size + 1 + 1]? = some (.cells Y 38 (0, 0))
  ru : ∃ H : Nat → Prop, RU r q H W u ∧ ∀ k, H k → G k ∨ w.heap.size + 1 + 1 < k
  kp : Kept (fun k => ¬ G k) w W
  lt : ∀ k, G k → k < w.heap.size
  rg : G r
theorem do_start {w : World} {r q : Nat} {G : Nat → Prop} {u : Us} (h : RU r q G w u) (a : Ak) (Y : Array Value) : DoW w (((w.alloc (.cells (askA a) 34)).alloc (.cells #[.int .i64 0, .int .i64 0, .string ⟨#[]⟩, .int .i64 0, .slice none 0 0, .int .i64 0, .int .i64 0, .int .i64 0] 38)).alloc (.cells Y 38)) r q G u a Y := by
  have hb : Below w.heap.size w (((w.alloc (.cells (askA a) 34)).alloc (.cells #[.int .i64 0, .int .i64 0, .string ⟨#[]⟩, .int .i64 0, .slice none 0 0, .int .i64 0, .int .i64 0, .int .i64 0] 38)).alloc (.cells Y 38)) := (((Below.refl _ _).alloc (Nat.le_refl _) _).alloc (by simp) _).alloc (by simp; omega) _
  obtain ⟨h1, h2⟩ := two_blocks w (askA a) #[.int .i64 0, .int .i64 0, .string ⟨#[]⟩, .int .i64 0, .slice none 0 0, .int .i64 0, .int .i64 0, .int .i64 0] 34 38
  have hb2 := (Below.refl ((w.alloc (.cells (askA a) 34)).alloc (.cells #[.int .i64 0, .int .i64 0, .string ⟨#[]⟩, .int .i64 0, .slice none 0 0, .int .i64 0, .int .i64 0, .int .i64 0] 38)).heap.size ((w.alloc (.cells (askA a) 34)).alloc (.cells #[.int .i64 0, .int .i64 0, .string ⟨#[]⟩, .int .i64 0, .slice none 0 0, .int .i64 0, .int .i64 0, .int .i64 0] 38))).alloc (Nat.le_refl _) (.cells Y 38)
  refine ⟨below_heap hb2 h1, below_heap hb2 h2, ?_, ⟨G, (ru_thing r q).keep h (Kept.ofBelow hb (fun _ => True)) (fun _ _ => trivial), fun k hk => .inl hk⟩, Kept.ofBelow hb _, fun k hk => (ru_thing r q).lt h k hk, h.2.2.1⟩
  have h := heap_alloc_new ((w.alloc (.cells (askA a) 34)).alloc (.cells #[.int .i64 0, .int .i64 0, .string ⟨#[]⟩, .int .i64 0, .slice none 0 0, .int .i64 0, .int .i64 0, .int .i64 0] 38)) (.cells Y 38)
  have e : ((w.alloc (.cells (askA a) 34)).alloc (.cells #[.int .i64 0, .int .i64 0, .string ⟨#[]⟩, .int .i64 0, .slice none 0 0, .int .i64 0, .int .i64 0, .int .i64 0] 38)).heap.size = w.heap.size + 1 + 1 := by simp
  rw [e] at h
  exact h
section
variable {w W : World} {r q : Nat} {G : Nat → Prop} {u : Us} {a : Ak} {Y : Array Value}
theorem DoW.below (h : DoW w W r q G u a Y) {W2 : World} (hb : Below W.heap.size W W2) : DoW w W2 r q G u a Y := by
  obtain ⟨H, h1, h2⟩ := h.ru
  exact ⟨below_heap hb h.ask, below_heap hb h.zero, below_heap hb h.ans, ⟨H, (ru_thing r q).keep h1 (Kept.ofBelow hb (fun _ => True)) (fun _ _ => trivial), h2⟩, h.kp.below hb, h.lt, h.rg⟩
theorem DoW.drewN (h : DoW w W r q G u a Y) (n : Nat) : DoW w (W.drewN n) r q G u a Y := h.below (below_drewN (Below.refl _ _) n)
theorem DoW.unit (h : DoW w W r q G u a Y) : W.heap[r]? = some (.cells #[.pointer (some ⟨q, 0, none⟩), .int .i64 u.epoch, .bool u.down] 82 (0, 0)) := by
  obtain ⟨H, h1, _⟩ := h.ru
  exact h1.2.1
theorem DoW.small (h : DoW w W r q G u a Y) : w.heap.size < W.heap.size ∧ w.heap.size + 1 < W.heap.size ∧ w.heap.size + 1 + 1 < W.heap.size ∧ r < w.heap.size := ⟨lt_of_block h.ask, lt_of_block h.zero, lt_of_block h.ans, h.lt r h.rg⟩
/-- a store into one of the answers, and what it leaves -/
theorem DoW.leaves (h : DoW w W r q G u a Y) : Leaves (RU r q) G w W u := by
  obtain ⟨H, h1, h2⟩ := h.ru
  exact ⟨H, h1, h.kp, fun k hk => (h2 k hk).imp id (fun h => by omega)⟩
theorem DoW.put (h : DoW w W r q G u a Y) (o : Nat) (v : Value) : DoW w (W.setCell ⟨w.heap.size + 1 + 1, o, none⟩ v) r q G u a (Y.setIfInBounds o v) := by
  obtain ⟨H, h1, h2⟩ := h.ru
  have hk : Kept (fun k => k ≠ w.heap.size + 1 + 1) W (W.setCell ⟨w.heap.size + 1 + 1, o, none⟩ v) := (Kept.refl _ W).setCell (p := ⟨w.heap.size + 1 + 1, o, none⟩) (fun h => h rfl) v
  refine ⟨hk.heap (by omega) h.ask, hk.heap (by omega) h.zero, heap_setCell_same W _ o Y _ v h.ans, ⟨H, (ru_thing r q).keep h1 hk (fun k hk e => ?_), h2⟩, kept_new h.kp (by omega) v, h.lt, h.rg⟩
  rcases h2 k hk with h3 | h3
  · have := h.lt k h3; omega
  · omega
/-- the unit's epoch is another -/
theorem DoW.seal (h : DoW w W r q G u a Y) {ep : Int} (he : i64w ep) : DoW w (W.setCell ⟨r, 1, none⟩ (.int .i64 ep)) r q G ⟨u.p, ep, u.down⟩ a Y := by
  obtain ⟨H, h1, h2⟩ := h.ru
  have hlt := h.lt r h.rg
  have hk : Kept (fun k => k ≠ r) W (W.setCell ⟨r, 1, none⟩ (.int .i64 ep)) := (Kept.refl _ W).setCell (p := ⟨r, 1, none⟩) (fun h => h rfl) _
  obtain ⟨⟨k1, k2⟩, k3, k4, F, k5, k6, k7, k8⟩ := h1
  refine ⟨hk.heap (by omega) h.ask, hk.heap (by omega) h.zero, hk.heap (by omega) h.ans, ⟨H, ⟨⟨k1, he⟩, three_set1 k3 _, k4, F, k5.keep hk (fun k hf e => k7 (e ▸ hf)), k6, k7, k8⟩, h2⟩, h.kp.setCell (p := ⟨r, 1, none⟩) (fun hn => hn h.rg) _, h.lt, h.rg⟩
/-- a call on the pages -/
theorem DoW.ready (h : DoW w W r q G u a Y) : ∃ F : Nat → Prop, RG F W q u.p ∧ u.p.Ok ∧ ∀ W2 p', p'.Ok → Left RG F W W2 q p' → DoW w W2 r q G ⟨p', u.epoch, u.down⟩ a Y := by
  obtain ⟨H, ⟨⟨k1, k2⟩, k3, k4, F, k5, k6, k7, k8⟩, h2⟩ := h.ru
  refine ⟨F, k5, k1, fun W2 p' hok hl => ?_⟩
  obtain ⟨F', r1, r2, r3⟩ := hl
  obtain ⟨s1, s2, s3, s4⟩ := h.small
  have off : ∀ k, k < W.heap.size → ¬ G k → k ≤ w.heap.size + 1 + 1 → ¬ F k := fun k _ hg hk hf => by
    rcases h2 k (k6 k hf) with h3 | h3
    · exact hg h3
    · omega
  have ng : ∀ k, w.heap.size ≤ k → ¬ G k := fun k hk hg => by have := h.lt k hg; omega
  refine ⟨r2.heap (off _ s1 (ng _ (by omega)) (by omega)) h.ask, r2.heap (off _ s2 (ng _ (by omega)) (by omega)) h.zero, r2.heap (off _ s3 (ng _ (by omega)) (by omega)) h.ans, ⟨fun k => F' k ∨ k = r, ⟨⟨hok, k2⟩, r2.heap k7 k3, .inr rfl, F', r1, fun k hk => .inl hk, fun hf => ?_, fun k hk => hk⟩, fun k hk => ?_⟩, ?_, h.lt, h.rg⟩
  · rcases r3 r hf with h3 | h3
    · exact k7 h3
    · omega
  · rcases hk with hk | hk
    · rcases r3 k hk with h3 | h3
      · exact h2 k (k6 k h3)
      · exact .inr (by omega)
    · exact .inl (hk ▸ h.rg)
  · have hk := h.kp
    refine ⟨r2.os.trans hk.os, r2.tape.trans hk.tape, r2.output.trans hk.output, Nat.le_trans hk.size r2.size, fun k hg hkl => ?_⟩
    rw [r2.block k (off k (Nat.lt_of_lt_of_le hkl hk.size) hg (by omega)) (Nat.lt_of_lt_of_le hkl hk.size)]
    exact hk.block k hg hkl
set_option maxHeartbeats 1000000 in
theorem DoW.fin (h : DoW w W r q G u a Y) {v0 v1 v2 v3 v4 v5 v6 v7 : Value} :
    ((((((((W.setCell ⟨w.heap.size + 1, 0, none⟩ v0).setCell ⟨w.heap.size + 1, 1, none⟩ v1).setCell ⟨w.heap.size + 1, 2, none⟩ v2).setCell ⟨w.heap.size + 1, 3, none⟩ v3).setCell ⟨w.heap.size + 1, 4, none⟩ v4).setCell ⟨w.heap.size + 1, 5, none⟩ v5).setCell ⟨w.heap.size + 1, 6, none⟩ v6).setCell ⟨w.heap.size + 1, 7, none⟩ v7).heap[w.heap.size + 1]? = some (.cells #[v0, v1, v2, v3, v4, v5, v6, v7] 38 (0, 0)) ∧ Leaves (RU r q) G w ((((((((W.setCell ⟨w.heap.size + 1, 0, none⟩ v0).setCell ⟨w.heap.size + 1, 1, none⟩ v1).setCell ⟨w.heap.size + 1, 2, none⟩ v2).setCell ⟨w.heap.size + 1, 3, none⟩ v3).setCell ⟨w.heap.size + 1, 4, none⟩ v4).setCell ⟨w.heap.size + 1, 5, none⟩ v5).setCell ⟨w.heap.size + 1, 6, none⟩ v6).setCell ⟨w.heap.size + 1, 7, none⟩ v7) u := by
  constructor
  · exact (eight_set7 (eight_set6 (eight_set5 (eight_set4 (eight_set3 (eight_set2 (eight_set1 (eight_set0 h.zero _) _) _) _) _) _) _) _)
  · obtain ⟨H, h1, h2⟩ := h.ru
    have hk : Kept (fun k => k ≠ w.heap.size + 1) W ((((((((W.setCell ⟨w.heap.size + 1, 0, none⟩ v0).setCell ⟨w.heap.size + 1, 1, none⟩ v1).setCell ⟨w.heap.size + 1, 2, none⟩ v2).setCell ⟨w.heap.size + 1, 3, none⟩ v3).setCell ⟨w.heap.size + 1, 4, none⟩ v4).setCell ⟨w.heap.size + 1, 5, none⟩ v5).setCell ⟨w.heap.size + 1, 6, none⟩ v6).setCell ⟨w.heap.size + 1, 7, none⟩ v7) := (((((((((Kept.refl _ W).setCell (p := ⟨w.heap.size + 1, 0, none⟩) (fun h => h rfl) _).setCell (p := ⟨w.heap.size + 1, 1, none⟩) (fun h => h rfl) _).setCell (p := ⟨w.heap.size + 1, 2, none⟩) (fun h => h rfl) _).setCell (p := ⟨w.heap.size + 1, 3, none⟩) (fun h => h rfl) _).setCell (p := ⟨w.heap.size + 1, 4, none⟩) (fun h => h rfl) _).setCell (p := ⟨w.heap.size + 1, 5, none⟩) (fun h => h rfl) _).setCell (p := ⟨w.heap.size + 1, 6, none⟩) (fun h => h rfl) _).setCell (p := ⟨w.heap.size + 1, 7, none⟩) (fun h => h rfl) _)
    refine ⟨H, (ru_thing r q).keep h1 hk (fun k hk e => ?_), (kept_new (kept_new (kept_new (kept_new (kept_new (kept_new (kept_new (kept_new h.kp (by omega) _) (by omega) _) (by omega) _) (by omega) _) (by omega) _) (by omega) _) (by omega) _) (by omega) _), fun k hk => (h2 k hk).imp id (fun h => by omega)⟩
    rcases h2 k hk with h3 | h3
    · have := h.lt k h3; omega
    · omega
end

end Go.Proofs.YtkicjgaejieinaaGreat
namespace Go.Proofs.YtkicjgaejieinaaGreat
set_option linter.unusedVariables false
open Go.RowKit
set_option maxRecDepth 20000
/-- block b is the program's sequencer; what it holds for a tail while it knows none counts for nothing -/
def OM (b : Nat) (G : Nat → Prop) (w : World) (o : Od) : Prop :=
  o.Ok ∧ (∃ t : Int, (o.knows = true → t = o.tail) ∧ w.heap[b]? = some (.cells #[.int .i64 o.epoch, .int .i64 t, .bool o.knows] 132 (0, 0))) ∧ ∀ k, G k ↔ k = b
theorem om_thing (b : Nat) : Thing (OM b) where
  lt := by
    rintro G w u ⟨_, ⟨t, _, h1⟩, h2⟩ k hk
    rw [(h2 k).1 hk]
    exact lt_of_block h1
  keep := by
    rintro G S w w' u ⟨h0, ⟨t, ht, h1⟩, h2⟩ hk hS
    exact ⟨h0, ⟨t, ht, hk.heap (hS b ((h2 b).2 rfl)) h1⟩, h2⟩
section
variable {w : World} {b : Nat} {G : Nat → Prop} {o : Od}
theorem OM.small (h : OM b G w o) : b < w.heap.size := by obtain ⟨_, ⟨t, _, h1⟩, _⟩ := h; exact lt_of_block h1
theorem OM.cells (h : OM b G w o) : ∃ t : Int, (o.knows = true → t = o.tail) ∧ w.heap[b]? = some (.cells #[.int .i64 o.epoch, .int .i64 t, .bool o.knows] 132 (0, 0)) := h.2.1
theorem om_keeps (b : Nat) (w : World) (v0 v1 v2 : Value) : Kept (fun k => k ≠ b) w (((w.setCell ⟨b, 0, none⟩ v0).setCell ⟨b, 1, none⟩ v1).setCell ⟨b, 2, none⟩ v2) :=
  (((Kept.refl _ w).setCell (p := ⟨b, 0, none⟩) (fun h => h rfl) _).setCell (p := ⟨b, 1, none⟩) (fun h => h rfl) _).setCell (p := ⟨b, 2, none⟩) (fun h => h rfl) _
/-- it begins a later epoch -/
theorem OM.begins (h : OM b G w o) {ep pg : Int} (he : i64w ep) (hp : 0 ≤ pg ∧ pg ≤ 16384) :
    Leaves (OM b) G w (((w.setCell ⟨b, 0, none⟩ (.int .i64 ep)).setCell ⟨b, 1, none⟩ (.int .i64 pg)).setCell ⟨b, 2, none⟩ (.bool true)) ⟨ep, pg, true⟩ := by
  obtain ⟨k0, ⟨t, kt, k1⟩, k2⟩ := h
  exact ⟨G, ⟨⟨he, hp⟩, ⟨pg, fun _ => rfl, three_set2 (three_set1 (three_set0 k1 _) _) _⟩, k2⟩, (om_keeps b w _ _ _).mono (fun k hg e => hg ((k2 k).2 e)), fun k hk => .inl hk⟩
/-- it puts the tail one further -/
theorem OM.steps (h : OM b G w o) (ht : o.tail ≠ 16384) : Leaves (OM b) G w (w.setCell ⟨b, 1, none⟩ (.int .i64 (o.tail + 1))) ⟨o.epoch, o.tail + 1, o.knows⟩ := by
  obtain ⟨k0, ⟨t, kt, k1⟩, k2⟩ := h
  have hk : Kept (fun k => k ≠ b) w (w.setCell ⟨b, 1, none⟩ (.int .i64 (o.tail + 1))) := (Kept.refl _ w).setCell (p := ⟨b, 1, none⟩) (fun h => h rfl) _
  exact ⟨G, ⟨⟨k0.epoch, by have := k0.tail; show 0 ≤ o.tail + 1 ∧ o.tail + 1 ≤ 16384; omega⟩, ⟨o.tail + 1, fun _ => rfl, three_set1 k1 _⟩, k2⟩, hk.mono (fun k hg e => hg ((k2 k).2 e)), fun k hk => .inl hk⟩
/-- it forgets the tail -/
theorem OM.forgets (h : OM b G w o) : Leaves (OM b) G w ((w.setCell ⟨b, 1, none⟩ (.int .i64 0)).setCell ⟨b, 2, none⟩ (.bool false)) ⟨o.epoch, o.tail, false⟩ := by
  obtain ⟨k0, ⟨t, kt, k1⟩, k2⟩ := h
  have hk : Kept (fun k => k ≠ b) w ((w.setCell ⟨b, 1, none⟩ (.int .i64 0)).setCell ⟨b, 2, none⟩ (.bool false)) := ((Kept.refl _ w).setCell (p := ⟨b, 1, none⟩) (fun h => h rfl) _).setCell (p := ⟨b, 2, none⟩) (fun h => h rfl) _
  exact ⟨G, ⟨k0.turn false, ⟨0, (fun h => by cases h), three_set2 (three_set1 k1 _) _⟩, k2⟩, hk.mono (fun k hg e => hg ((k2 k).2 e)), fun k hk => .inl hk⟩
end
theorem on_new (w : World) : Calls Tryz.prog 49 #[] w fun e w' => ∃ (b : Nat) (G : Nat → Prop), e = .returned (ptrO b) ∧ OM b G w' newO ∧ (∀ k, G k → w.heap.size ≤ k) ∧ Below w.heap.size w w' := by
  go_enter Tryz.func49, Tryz.ntmps49
  go_wp2_with fail
  go_ret
  exact ⟨w.heap.size, fun k => k = w.heap.size, rfl, ⟨newO_ok, ⟨0, (fun h => by cases h), heap_alloc_new _ _⟩, fun k => Iff.rfl⟩, fun k hk => by omega, (Below.refl _ _).alloc (Nat.le_refl _) _⟩
theorem on_epoch (b : Nat) (G : Nat → Prop) (w : World) (o : Od) (h : OM b G w o) :
    Calls Tryz.prog 44 #[.pointer (some ⟨b, 0, none⟩)] w fun e w' => e = .returned (.int .i64 o.epoch) ∧ w = w' := by
  have hb := h.small
  obtain ⟨t, _, hc⟩ := h.cells
  obtain ⟨c0, c1, c2, f0, f1, f2⟩ := three_cells hc
  clear h hc
  go_enter Tryz.func44, Tryz.ntmps44
  go_wp2
  go_ret
  exact ⟨rfl, rfl⟩
theorem on_knows (b : Nat) (G : Nat → Prop) (w : World) (o : Od) (h : OM b G w o) :
    Calls Tryz.prog 45 #[.pointer (some ⟨b, 0, none⟩)] w fun e w' => e = .returned (.bool o.knows) ∧ w = w' := by
  have hb := h.small
  obtain ⟨t, _, hc⟩ := h.cells
  obtain ⟨c0, c1, c2, f0, f1, f2⟩ := three_cells hc
  clear h hc
  go_enter Tryz.func45, Tryz.ntmps45
  go_wp2
  go_ret
  exact ⟨rfl, rfl⟩
theorem ocoded_any (c : Int) (w : World) : Calls Tryz.prog 66 #[.int .i64 c] w fun e w' => e = .returned (.agg #[.int .i64 c, .int .i64 0, .string ⟨#[]⟩, .int .i64 0, .slice none 0 0, .int .i64 0, .int .i64 0, .int .i64 0]) ∧ Below w.heap.size w w' := by
  go_enter Tryz.func66, Tryz.ntmps66
  go_wp2
  exact ans_ret (x := anP c 0 noT 0) (ao := none) (cap := 0) rfl (heap_alloc_new _ _) rfl rfl ⟨rfl, (Below.refl _ _).alloc (Nat.le_refl _) _⟩
end Go.Proofs.YtkicjgaejieinaaGreat
namespace Go.Proofs.YtkicjgaejieinaaGreat
open Go.RowKit Go.Maps
set_option linter.unusedVariables false
set_option maxRecDepth 20000
theorem pspot_row : (128 : TypeId) < Tryz.prog.types.size := of_decide_eq_true (by kernel_rfl)
theorem pspot_law : Keyed Tryz.prog 128 := Keyed.of_law (deep_law_laid laidOut (m := 2) (by omega) pspot_row (by kernel_rfl) (by rw [Tryz.underlying128]))
theorem pspot_succ : ∃ n, Tryz.prog.types.size = n + 1 := ⟨Tryz.prog.types.size - 1, by have h := Nat.lt_of_le_of_lt (Nat.zero_le _) pspot_row; exact (Nat.succ_pred_eq_of_pos h).symm⟩
/-- a page's number as a key -/
def klA (u : Int) : Lit := .string (keyBytes [.int .i64 u])
theorem pspot_key (u : Int) (hu : (Lit.int .i64 u).wf = true) : keyOf Tryz.prog 128 (.agg #[.int .i64 u]) = some (klA u) := by
  obtain ⟨n, hn⟩ := pspot_succ
  exact key_one Tryz.underlying128 (by kernel_rfl) (by rfl) rfl (by kernel_rfl) Tryz.underlying3 (by kernel_rfl) hn hu
theorem pspot_inv {v : Value} {kl : Lit} (h : keyOf Tryz.prog 128 v = some kl) : ∃ u, v = .agg #[.int .i64 u] ∧ (Lit.int .i64 u).wf = true := by
  obtain ⟨n, hn⟩ := pspot_succ
  exact key_one_inv Tryz.underlying128 (by kernel_rfl) (by rfl) rfl (by kernel_rfl) Tryz.underlying3 (by kernel_rfl) hn h
theorem agg1_inj {u v : Int} (h : (Value.agg #[Value.int .i64 u]) = .agg #[.int .i64 v]) : u = v := by simpa using h
theorem klA_inj {u v : Int} (hu : (Lit.int .i64 u).wf = true) (hv : (Lit.int .i64 v).wf = true) (h : klA u = klA v) : u = v :=
  agg1_inj (pspot_law.inj (pspot_key u hu) (h ▸ pspot_key v hv))
theorem klA_key {u : Int} (hu : (Lit.int .i64 u).wf = true) : WideAt.IsKeyLit (klA u) := pspot_law.key (pspot_key u hu)
/-- what stands on a page: its kind, its text -/
def sheetD (k : Int) (s : ByteArray) : DataW Unit := .agg [.lit (.int .i64 k), .lit (.string s.data.toList)]
def sheetR : Value → Option (DataW Unit × List MemPlace)
  | .agg a => match a.toList with
    | [.int .i64 k, .string s] => some (sheetD k s, [])
    | _ => none
  | _ => none
theorem sheetR_mk (k : Int) (s : ByteArray) : sheetR (.agg #[.int .i64 k, .string s]) = some (sheetD k s, []) := rfl
theorem sheetR_inv {v : Value} {z : DataW Unit × List MemPlace} (h : sheetR v = some z) : ∃ k s, v = .agg #[.int .i64 k, .string s] ∧ z = (sheetD k s, []) := by
  unfold sheetR at h
  split at h
  · next a =>
    split at h
    · next i j e =>
      cases h
      refine ⟨i, j, ?_, rfl⟩
      rw [← Array.toArray_toList (xs := a), e]
    · cases h
  · cases h
theorem sheetD_inj {k l : Int} {s t : ByteArray} (h : sheetD k s = sheetD l t) : k = l ∧ s = t := by
  unfold sheetD at h
  simp at h
  exact ⟨h.1, ByteArray.ext h.2⟩
theorem zero_sheet (w : World) : (zeroValue 214).run Tryz.prog w = .ok (.agg #[.int .i64 0, .string ⟨#[]⟩]) w := by kernel_rfl
/-- of which kind, with which text, a page is in a list; a page that is not there is empty -/
def kindL (l : List Pg) (a : Int) : Int := match findP l a with | some x => x.kind | none => 0
def textL (l : List Pg) (a : Int) : ByteArray := match findP l a with | some x => x.s | none => ⟨#[]⟩
/-- the map's datum tells the pages l -/
structure Mp (D : DataW Unit) (l : List Pg) : Prop where
  tidy : Tidy D
  hs : ∀ u, (Lit.int .i64 u).wf = true → Maps.has D (klA u) = decide (u ∈ l.map (·.at_))
  size : Maps.size D = l.length
  tells : ∀ x ∈ l, ∀ z, D.atKey (klA x.at_) z = sheetD x.kind x.s
  once : (l.map (·.at_)).Nodup
  wf : ∀ x ∈ l, (Lit.int .i64 x.at_).wf = true
theorem Mp.nil : Mp (.map []) [] := ⟨tidy_empty, fun _ _ => rfl, rfl, fun x hx => (by cases hx), List.Pairwise.nil, fun x hx => (by cases hx)⟩
theorem Mp.look {D : DataW Unit} {l : List Pg} (h : Mp D l) {a : Int} (ha : (Lit.int .i64 a).wf = true) : D.atKey (klA a) (sheetD 0 ⟨#[]⟩) = sheetD (kindL l a) (textL l a) := by
  unfold kindL textL
  cases e : findP l a with
  | none =>
    have hn : a ∉ l.map (·.at_) := by
      intro hm
      obtain ⟨x, hx, hx2⟩ := List.mem_map.1 hm
      exact findP_none.1 e x hx hx2
    exact atKey_of_not_has (by rw [h.hs a ha]; exact decide_eq_false hn) _
  | some x =>
    obtain ⟨h1, h2⟩ := findP_some e
    rw [← h2]
    exact h.tells x h1 _
theorem Mp.put {D : DataW Unit} {l : List Pg} (h : Mp D l) {x : Pg} (hx : (Lit.int .i64 x.at_).wf = true) (hn : x.at_ ∉ l.map (·.at_)) : Mp (D.put (klA x.at_) (sheetD x.kind x.s)) (l ++ [x]) := by
  have hk := klA_key hx
  refine ⟨h.tidy.put hk _, fun u hu => ?_, ?_, fun y hy z => ?_, ?_, fun y hy => ?_⟩
  · by_cases e : u = x.at_
    · subst e
      rw [has_put_same h.tidy.isMap hk]
      exact (decide_eq_true (by simp)).symm
    · rw [has_put_other (fun e2 => e (klA_inj hu hx e2)), h.hs u hu]
      simp [e]
  · rw [size_put h.tidy, h.hs _ hx, h.size, decide_eq_false hn]
    simp
  · rcases List.mem_append.1 hy with h1 | h1
    · have hne : y.at_ ≠ x.at_ := fun e => hn (e ▸ List.mem_map.2 ⟨y, h1, rfl⟩)
      rw [atKey_put_other (fun e => hne (klA_inj (h.wf y h1) hx e))]
      exact h.tells y h1 z
    · rw [List.mem_singleton.1 h1]
      exact atKey_put_same h.tidy.isMap hk _ _
  · rw [List.map_append, List.nodup_append]
    refine ⟨h.once, by simp, fun a ha b hb e => ?_⟩
    rw [List.map_singleton, List.mem_singleton] at hb
    subst hb
    exact hn (e ▸ ha)
  · rcases List.mem_append.1 hy with h1 | h1
    · exact h.wf y h1
    · rw [List.mem_singleton.1 h1]
      exact hx
/-- all but page a -/
def lessP (l : List Pg) (a : Int) : List Pg := l.filter (fun x => decide (x.at_ ≠ a))
theorem lessP_mem {l : List Pg} {a : Int} {x : Pg} : x ∈ lessP l a ↔ x ∈ l ∧ x.at_ ≠ a := by
  unfold lessP
  simp
theorem lessP_none {l : List Pg} {a : Int} (h : a ∉ l.map (·.at_)) : lessP l a = l := by
  unfold lessP
  rw [List.filter_eq_self]
  intro x hx
  exact decide_eq_true (fun e => h (List.mem_map.2 ⟨x, hx, e⟩))
theorem lessP_length {l : List Pg} {a : Int} (h : (l.map (·.at_)).Nodup) : (lessP l a).length + (if a ∈ l.map (·.at_) then 1 else 0) = l.length := by
  induction l with
  | nil => rfl
  | cons x l ih =>
    rw [List.map_cons, List.nodup_cons] at h
    by_cases e : x.at_ = a
    · subst e
      have h1 : lessP (x :: l) x.at_ = lessP l x.at_ := by
        unfold lessP
        exact List.filter_cons_of_neg (by simp)
      rw [h1, lessP_none h.1, if_pos (by simp)]
      rfl
    · have h1 : lessP (x :: l) a = x :: lessP l a := by
        unfold lessP
        exact List.filter_cons_of_pos (by simpa using e)
      have h2 := ih h.2
      rw [h1, List.length_cons, List.length_cons]
      by_cases e2 : a ∈ l.map (·.at_)
      · rw [if_pos e2] at h2
        rw [if_pos (show a ∈ (x :: l).map (·.at_) from List.mem_cons_of_mem _ e2)]
        omega
      · rw [if_neg e2] at h2
        rw [if_neg (show ¬ a ∈ (x :: l).map (·.at_) from fun h3 => by rw [List.map_cons, List.mem_cons] at h3; rcases h3 with h3 | h3; exact e h3.symm; exact e2 h3)]
        omega
theorem Mp.del {D : DataW Unit} {l : List Pg} (h : Mp D l) {a : Int} (ha : (Lit.int .i64 a).wf = true) : Mp (D.del (klA a)) (lessP l a) := by
  refine ⟨h.tidy.del _, fun u hu => ?_, ?_, fun y hy z => ?_, h.once.sublist ((List.filter_sublist).map _), fun y hy => h.wf y (lessP_mem.1 hy).1⟩
  · by_cases e : u = a
    · subst e
      rw [has_del_same]
      refine (decide_eq_false (fun hm => ?_)).symm
      obtain ⟨x, hx, e⟩ := List.mem_map.1 hm
      exact (lessP_mem.1 hx).2 e
    · rw [has_del_other (fun e2 => e (klA_inj hu ha e2)), h.hs u hu]
      refine decide_eq_decide.2 ⟨fun hm => ?_, fun hm => ?_⟩
      · obtain ⟨x, hx, e1⟩ := List.mem_map.1 hm
        exact List.mem_map.2 ⟨x, lessP_mem.2 ⟨hx, by rw [e1]; exact e⟩, e1⟩
      · obtain ⟨x, hx, e1⟩ := List.mem_map.1 hm
        exact List.mem_map.2 ⟨x, (lessP_mem.1 hx).1, e1⟩
  · have h1 := size_del (k := klA a) h.tidy
    have h2 := lessP_length (a := a) h.once
    rw [h.hs a ha, h.size] at h1
    by_cases e : a ∈ l.map (·.at_)
    · simp [e] at h1 h2
      omega
    · simp [e] at h1 h2
      omega
  · obtain ⟨h1, h2⟩ := lessP_mem.1 hy
    rw [atKey_del_other (fun e => h2 (klA_inj (h.wf y h1) ha e))]
    exact h.tells y h1 z
/-- the map at block b tells the pages l -/
def Tp (w : World) (b : Nat) (l : List Pg) : Prop := ∃ D, w.ownsMap Tryz.prog 128 sheetR b l.length D ∧ Mp D l
theorem ownsMap_tight {w : World} {b n : Nat} {D : DataW Unit} {k : TypeId} {R : Value → Option (DataW Unit × List MemPlace)} (h : w.ownsMap Tryz.prog k R b n D) : w.ownsMap Tryz.prog k R b (Maps.size D) D := by
  obtain ⟨es, clock, h1, h2, h3, rfl⟩ := h
  exact ⟨es, clock, h1, h2, by rw [size_eq, length_sorted]; simp, rfl⟩
theorem Tp.of {w : World} {b n : Nat} {D : DataW Unit} {l : List Pg} (h : w.ownsMap Tryz.prog 128 sheetR b n D) (hM : Mp D l) : Tp w b l := ⟨D, by rw [← hM.size]; exact ownsMap_tight h, hM⟩
theorem Tp.made (w : World) : Tp (w.alloc (.map #[] 0)) w.heap.size [] := ⟨_, World.ownsMap_made _ _ _ _, Mp.nil⟩
theorem Tp.keep {w w' : World} {b : Nat} {l : List Pg} (h : Tp w b l) (e : w'.heap[b]? = w.heap[b]?) : Tp w' b l := by
  obtain ⟨D, ⟨es, clock, h1, h2⟩, h3⟩ := h
  exact ⟨D, ⟨es, clock, e.trans h1, h2⟩, h3⟩
theorem Tp.lt {w : World} {b : Nat} {l : List Pg} (h : Tp w b l) : b < w.heap.size := by
  obtain ⟨D, h1, _⟩ := h
  exact h1.lt
theorem Tp.below {w w' : World} {b : Nat} {l : List Pg} (h : Tp w b l) (hb : Below w.heap.size w w') : Tp w' b l := h.keep (hb.block b h.lt)
/-- m[a] -/
theorem Tp.look {w : World} {b : Nat} {l : List Pg} (h : Tp w b l) {a : Int} (ha : (Lit.int .i64 a).wf = true) : (Instr.lookup 121 (.map (some b)) (.agg #[.int .i64 a]) false).run Tryz.prog w = .ok (.agg #[.int .i64 (kindL l a), .string (textL l a)]) w := by
  obtain ⟨D, h1, h2⟩ := h
  obtain ⟨v, ps, hr, hv⟩ := h1.lookup pspot_law Tryz.underlying121 (zero_sheet w) (sheetR_mk _ _) (pspot_key a ha)
  rw [h2.look ha] at hv
  obtain ⟨k, s, rfl, e⟩ := sheetR_inv hv
  simp only [Prod.mk.injEq] at e
  obtain ⟨e1, e2⟩ := sheetD_inj e.1
  rw [e1, e2]
  exact hr
/-- len(m), in every world in which the block is as it was -/
theorem Tp.count {w : World} {b : Nat} {l : List Pg} (h : Tp w b l) : ∀ (ty : TypeId) (W : World), W.heap[b]? = w.heap[b]? → (Builtin.len_ #[121] ty #[.map (some b)]).run Tryz.prog W = .ok (.int .i64 l.length) W := by
  intro ty W hW
  obtain ⟨D, h1, h2⟩ := h.keep hW
  have h := h1.len Tryz.underlying121 ty
  rw [h2.size] at h
  exact h
/-- m[x.at] = x, for a page that is not there -/
theorem Tp.put {w : World} {b : Nat} {l : List Pg} (h : Tp w b l) {x : Pg} (hx : (Lit.int .i64 x.at_).wf = true) (hn : x.at_ ∉ l.map (·.at_)) (hl : l.length ≤ 100000) :
    ∃ w', (Instr.mapUpdate 121 (.map (some b)) (.agg #[.int .i64 x.at_]) (.agg #[.int .i64 x.kind, .string x.s])).run Tryz.prog w = .ok () w' ∧ Tp w' b (l ++ [x]) ∧ w.grownBy w' (some b) := by
  obtain ⟨D, h1, h2⟩ := h
  obtain ⟨w', hr, h3, hg⟩ := h1.update pspot_law Tryz.underlying121 (by unfold maxLen; omega) (pspot_key _ hx) (sheetR_mk x.kind x.s)
  exact ⟨w', hr, Tp.of h3 (h2.put hx hn), hg⟩
/-- the program's object of the pages p -/
def PGm (G : Nat → Prop) (w : World) (b : Nat) (p : Ps) : Prop := ∃ mb, w.heap[b]? = some (.cells #[.int .i64 p.room, .int .i64 p.edge, .map (some mb)] 123 (0, 0)) ∧ Tp w mb p.l ∧ mb ≠ b ∧ G b ∧ G mb ∧ ∀ k, G k → k < w.heap.size
theorem PGm.lt {G : Nat → Prop} {w : World} {b : Nat} {p : Ps} (h : PGm G w b p) : ∀ k, G k → k < w.heap.size := by
  obtain ⟨mb, _, _, _, _, _, h6⟩ := h
  exact h6
theorem PGm.keep {G T : Nat → Prop} {w w' : World} {b : Nat} {p : Ps} (h : PGm G w b p) (hk : Kept T w w') (hG : ∀ k, G k → T k) : PGm G w' b p := by
  obtain ⟨mb, h1, h2, h3, h4, h5, h6⟩ := h
  exact ⟨mb, hk.heap (hG b h4) h1, h2.keep (hk.block mb (hG mb h5) (h6 mb h5)), h3, h4, h5, fun k hk2 => Nat.lt_of_lt_of_le (h6 k hk2) hk.size⟩
theorem PGm.below {G : Nat → Prop} {w w' : World} {b : Nat} {p : Ps} (h : PGm G w b p) (hb : Below w.heap.size w w') : PGm G w' b p := h.keep (Kept.ofBelow hb (fun _ => True)) (fun _ _ => trivial)
theorem there_wf {a : Int} (h : thereB a = true) : (Lit.int .i64 a).wf = true := by
  have := thereB_iff.1 h
  exact WalkArith.wf_i64 (by omega)
theorem kindL_of {p : Ps} {a : Int} (ht : thereB a = true) (he : ¬ a < p.edge) : p.kind a = kindL p.l a := by
  unfold Ps.kind kindL
  rw [if_pos ht, if_neg he]
  rfl
end Go.Proofs.YtkicjgaejieinaaGreat
namespace Go.Proofs.YtkicjgaejieinaaGreat
set_option linter.unusedVariables false
open Go.RowKit
set_option maxRecDepth 20000
theorem below_kept {B : Nat} {w w' : World} (h : Below B w w') (hB : B ≤ w.heap.size) : Kept (fun k => k < B) w w' :=
  ⟨h.os, h.tape, h.output, h.size, fun k hk _ => h.block k hk⟩
/-- v is a row of the call's own that holds the slices vs, of its own too, whose rows hold the lists of L; no two of all these rows in one block -/
def CP (w : World) (B : Nat) (v : Value) (vs : List Value) (L : List (List Int)) : Prop :=
  w.ownsRow B 57 1 v L.length vs ∧ vs.length = L.length ∧ (∀ i (h : i < L.length) x, vs[i]? = some x → OI w B x L[i] ∧ ∀ k, x.ownBlock = some k → v.ownBlock ≠ some k) ∧
  ∀ (i j : Nat) (x y : Value) (k : Nat), i < j → vs[i]? = some x → vs[j]? = some y → x.ownBlock = some k → y.ownBlock ≠ some k
theorem CP.nil (w : World) (B : Nat) : CP w B (.slice none 0 0) [] [] := ⟨World.ownsRow_nil _ _ _ _, rfl, fun i h => absurd h (Nat.not_lt_zero i), fun i j x y k _ hx => by cases i <;> cases hx⟩
theorem CP.keep {S : Nat → Prop} {w w' : World} {B : Nat} {v : Value} {vs : List Value} {L : List (List Int)} (h : CP w B v vs L) (hk : Kept S w w') (hS : ∀ k, B ≤ k → k < w.heap.size → S k) : CP w' B v vs L := by
  obtain ⟨h1, h2, h3, h4⟩ := h
  exact ⟨hk.owns h1 (fun k e => hS k (h1.lt k e).1 (h1.lt k e).2), h2, fun i hi x hx => ⟨(h3 i hi x hx).1.keep hk hS, (h3 i hi x hx).2⟩, h4⟩
theorem CP.below {w w' : World} {B : Nat} {v : Value} {vs : List Value} {L : List (List Int)} (h : CP w B v vs L) (hb : Below w.heap.size w w') : CP w' B v vs L := h.keep (Kept.ofBelow hb (fun _ => True)) (fun _ _ _ => trivial)
theorem CP.form {w : World} {B : Nat} {v : Value} {vs : List Value} {L : List (List Int)} (h : CP w B v vs L) : ∃ bo cb, v = .slice bo L.length cb := by
  rcases h.1.2 with ⟨rfl, h0⟩ | ⟨g, cap, cur, rfl, _⟩
  · exact ⟨none, 0, by rw [h0]⟩
  · exact ⟨_, _, rfl⟩
theorem run_app_copy (w : World) (ty : TypeId) {B : Nat} {v : Value} {vs : List Value} {L : List (List Int)} (h : CP w B v vs L) {x : Value} {l : List Int} (hO : OI w B x l) (hf : ∀ k, x.ownBlock = some k → v.ownBlock ≠ some k ∧ ∀ (i : Nat) (y : Value), vs[i]? = some y → y.ownBlock ≠ some k) (hz : L.length + 1 ≤ 1000000) (hB : B ≤ w.heap.size) :
    ∃ v' w', (Builtin.append_ #[22, 22] ty #[v, .slice (some ⟨w.heap.size, 0, none⟩) 1 1]).run Tryz.prog (w.alloc (.cells #[x] 57)) = .ok v' w' ∧ CP w' B v' (vs ++ [x]) (L ++ [l]) ∧ Below B w w' := by
  obtain ⟨i0, hi, hz0, hz1, hz2⟩ := info_parts ints_info
  have hb1 : Below w.heap.size w (w.alloc (.cells #[x] 57)) := (Below.refl _ _).alloc (Nat.le_refl _) _
  obtain ⟨h1, h2, h3, h4⟩ := h.below hb1
  obtain ⟨ax, cx, hx, _, _, _⟩ := hO.form
  obtain ⟨v', w', hr, h5, hg, _, hat⟩ := run_append_own_at (P := Tryz.prog) (w.alloc (.cells #[x] 57)) B 22 ty 57 i0 (.slice none 0 0) 1 24 Tryz.underlying22 hi hz0 hz1 hz2 rfl (by decide) v L.length vs h1 ⟨w.heap.size, 0, none⟩ 1 1 [x] rfl (made_slice w _ _) (fun u hu => by rw [List.mem_singleton.1 hu, hx]; rfl) (by unfold maxLen; omega) (by omega) (Nat.le_trans hB hb1.size)
  have far : ∀ k, k < w.heap.size → v.ownBlock ≠ some k → v'.ownBlock ≠ some k := by
    intro k hl hne
    rcases hat with e | e
    · rw [e]; exact hne
    · rw [e]
      intro e2
      have e3 := Option.some.inj e2
      have := hb1.size
      omega
  refine ⟨v', w', hr, ⟨by rw [List.length_append]; exact h5, by rw [List.length_append, List.length_append, h2]; rfl, fun i hi y hy => ?_, fun i j y z k hij hy hz hk => ?_⟩, (hb1.mono hB).grown hg (Nat.le_trans hB hb1.size) (fun k hk => (h.1.lt k hk).1)⟩
  · by_cases hil : i < L.length
    · rw [List.getElem?_append_left (by omega)] at hy
      have e : (L ++ [l])[i] = L[i] := List.getElem_append_left hil
      rw [e]
      obtain ⟨h6, h7⟩ := h3 i hil y hy
      refine ⟨h6.kept hg ?_, fun k hk => far k ((h.2.2.1 i hil y hy).1.1.lt k hk).2 (h7 k hk)⟩
      cases e : y.ownBlock with
      | none => exact .inl rfl
      | some k => exact .inr (fun e2 => h7 k e e2.symm)
    · obtain rfl : i = L.length := by rw [List.length_append] at hi; simp at hi; omega
      rw [List.getElem?_append_right (by omega), h2, Nat.sub_self] at hy
      obtain rfl : x = y := by simpa using hy
      have e : (L ++ [l])[L.length] = l := by simp
      rw [e]
      refine ⟨(hO.alloc _).kept hg ?_, fun k hk => far k (hO.1.lt k hk).2 (hf k hk).1⟩
      cases e : x.ownBlock with
      | none => exact .inl rfl
      | some k => exact .inr (fun e2 => (hf k e).1 e2.symm)
  · by_cases hjl : j < L.length
    · rw [List.getElem?_append_left (by omega)] at hy hz
      exact h4 i j y z k hij hy hz hk
    · have hjx : j = L.length := by
        have := List.getElem?_eq_some_iff.1 hz
        obtain ⟨hj, _⟩ := this
        rw [List.length_append, h2] at hj
        simp at hj
        omega
      subst hjx
      rw [List.getElem?_append_left (by omega)] at hy
      rw [List.getElem?_append_right (by omega), h2, Nat.sub_self] at hz
      obtain rfl : x = z := by simpa using hz
      intro e
      exact (hf k e).2 i y hy hk
theorem step_app_copy {ops : Array Oper} {o : Oper} {a : Act} {w : World} {K : Act → World → Prop} {Q : Exit → Act → World → Prop} {E : Prop} (hgd : o.guard = none) (s x : Operand)
    (ho : o.op = Op.call { callee := Callee.builtin Builtin.append, args := #[s, x], argTypes := #[22, 22] }) {B : Nat} {v : Value} {vs : List Value} {L : List (List Int)} (hs : a.eval s = v) (h : CP w B v vs L)
    {y : Value} {l : List Int} (hx : a.eval x = .slice (some ⟨w.heap.size, 0, none⟩) 1 1) (hO : OI w B y l) (hf : ∀ k, y.ownBlock = some k → v.ownBlock ≠ some k ∧ ∀ (i : Nat) (z : Value), vs[i]? = some z → z.ownBlock ≠ some k) (hz : L.length + 1 ≤ 1000000) (hB : B ≤ w.heap.size)
    (hK : ∀ v' w', CP w' B v' (vs ++ [y]) (L ++ [l]) → Below B w w' → K (a.put o.dst v') w') :
    if Region.wanted o (yielded ops a.tmps) = true then Oper.wp Tryz.prog o a (w.alloc (.cells #[y] 57)) K Q else E := by
  have hw : Region.wanted o (yielded ops a.tmps) = true := by simp [Region.wanted, hgd]
  rw [if_pos hw]
  obtain ⟨v', w', hr, h2, h3⟩ := run_app_copy w o.type h hO hf hz hB
  unfold Oper.wp
  simp [execOp, ho, resolve, invoke, builtin, hs, hx, hr, Result.andThen]
  exact hK v' w' h2 h3
theorem CP.fresh {w w1 : World} {B : Nat} {v y : Value} {vs : List Value} {L : List (List Int)} {l : List Int} (h : CP w B v vs L) (hO : OI w1 w.heap.size y l) : ∀ k, y.ownBlock = some k → v.ownBlock ≠ some k ∧ ∀ (i : Nat) (z : Value), vs[i]? = some z → z.ownBlock ≠ some k := by
  intro k hk
  have h1 := (hO.1.lt k hk).1
  refine ⟨fun e => by have := (h.1.lt k e).2; omega, fun i z hz e => ?_⟩
  have hi : i < L.length := by
    obtain ⟨hi, _⟩ := List.getElem?_eq_some_iff.1 hz
    rw [h.2.1] at hi
    exact hi
  have := ((h.2.2.1 i hi z hz).1.1.lt k e).2
  omega
theorem CP.take {w : World} {B : Nat} {v : Value} {vs : List Value} {L : List (List Int)} {n : Nat} (hn : n < L.length) (h : CP w B v vs (L.take n ++ [L[n]])) : CP w B v vs (L.take (n + 1)) := by
  rw [List.take_succ_eq_append_getElem hn]
  exact h
end Go.Proofs.YtkicjgaejieinaaGreat
namespace Go.Proofs.YtkicjgaejieinaaGreat
set_option linter.unusedVariables false
open Go.RowKit
set_option maxRecDepth 20000

/-- block b is a projection's -/
def PB (w : World) (b : Nat) (ep : Int) (ao : Option Addr) (n cap : Nat) : Prop := w.heap[b]? = some (.cells #[.int .i64 ep, .slice ao n cap] 24 (0, 0))
theorem PB.below {w w' : World} {b : Nat} {ep : Int} {ao : Option Addr} {n cap : Nat} (h : PB w b ep ao n cap) (hb : Below w.heap.size w w') : PB w' b ep ao n cap := below_heap hb h
theorem PB.cells {w : World} {b : Nat} {ep : Int} {ao : Option Addr} {n cap : Nat} (h : PB w b ep ao n cap) : w.cell? ⟨b, 0, none⟩ = some (.int .i64 ep) ∧ w.cell? ⟨b, 1, none⟩ = some (.slice ao n cap) := ⟨cell_of h 0, cell_of h 1⟩
theorem PB.two (w : World) (e1 e2 : Int) (a1 a2 : Option Addr) (n1 n2 c1 c2 : Nat) : PB ((w.alloc (.cells #[.int .i64 e1, .slice a1 n1 c1] 24)).alloc (.cells #[.int .i64 e2, .slice a2 n2 c2] 24)) w.heap.size e1 a1 n1 c1 ∧
    PB ((w.alloc (.cells #[.int .i64 e1, .slice a1 n1 c1] 24)).alloc (.cells #[.int .i64 e2, .slice a2 n2 c2] 24)) (w.heap.size + 1) e2 a2 n2 c2 := by
  refine ⟨PB.below (heap_alloc_new _ _) ((Below.refl _ _).alloc (Nat.le_refl _) _), ?_⟩
  have := heap_alloc_new (w.alloc (.cells #[.int .i64 e1, .slice a1 n1 c1] 24)) (.cells #[.int .i64 e2, .slice a2 n2 c2] 24)
  have e : (w.alloc (.cells #[.int .i64 e1, .slice a1 n1 c1] 24)).heap.size = w.heap.size + 1 := by simp
  rw [e] at this
  exact this
/-- a projection that was told lies there -/
def Told (w : World) (bo : Option Addr) (cb : Nat) (L : List (List Int)) : Prop := CL w bo L ∧ (bo = none → cb = 0) ∧ L.length ≤ cb
/-- not too many chains, nor units in a chain -/
def Small (L : List (List Int)) : Prop := L.length ≤ 255 ∧ ∀ c ∈ L, c.length ≤ 255
theorem Told.below {w w' : World} {ao : Option Addr} {cap : Nat} {L : List (List Int)} (h : Told w ao cap L) (hb : Below w.heap.size w w') : Told w' ao cap L := ⟨h.1.below hb, h.2⟩
theorem PB.lt {w : World} {b : Nat} {ep : Int} {ao : Option Addr} {n cap : Nat} (h : PB w b ep ao n cap) : b < w.heap.size := by
  unfold PB at h
  exact lt_of_block h
/-- a projection that was handed to a law -/
def PIn (w : World) (ep : Int) (ao : Option Addr) (cap : Nat) (L : List (List Int)) : Prop := Told w ao cap L ∧ (-9223372036854775808 ≤ ep ∧ ep ≤ 9223372036854775807) ∧ L.length ≤ maxLen ∧ ∀ c ∈ L, c.length ≤ maxLen
theorem PIn.below {w w' : World} {ep : Int} {ao : Option Addr} {cap : Nat} {L : List (List Int)} (h : PIn w ep ao cap L) (hb : Below w.heap.size w w') : PIn w' ep ao cap L := ⟨h.1.below hb, h.2⟩
theorem large_small {L : List (List Int)} (h : largeB L = false) : Small L := by
  obtain ⟨h1, h2⟩ := largeB_no h
  exact ⟨by omega, fun c hc => by have := h2 c hc; omega⟩
theorem small_copy {L : List (List Int)} (h : Small L) : L.length ≤ 1000 ∧ ∀ c ∈ L, c.length ≤ 1000 := ⟨by have := h.1; omega, fun c hc => by have := h.2 c hc; omega⟩
theorem small_million {L : List (List Int)} (h : Small L) : L.length ≤ 1000000 ∧ ∀ c ∈ L, c.length ≤ 1000000 := ⟨by have := h.1; omega, fun c hc => by have := h.2 c hc; omega⟩
theorem sameP_self (e : Int) (L : List (List Int)) : sameP e L e L = true := decide_eq_true ⟨rfl, rfl⟩
/-- two chains that a composite literal made -/
theorem told_two {w : World} {g0 g1 g : Nat} {a b : List Int} (h0 : NLI w (some ⟨g0, 0, none⟩) a.length a) (h1 : NLI w (some ⟨g1, 0, none⟩) b.length b)
    (hg : w.heap[g]? = some (.cells #[.slice (some ⟨g0, 0, none⟩) a.length a.length, .slice (some ⟨g1, 0, none⟩) b.length b.length] 57 (0, 0))) : Told w (some ⟨g, 0, none⟩) 2 [a, b] := by
  refine ⟨fun i hi => ?_, (fun e => by cases e), Nat.le_refl _⟩
  match i, hi with
  | 0, _ => exact ⟨g, 0, _, _, rfl, cell_of hg 0, h0⟩
  | 1, _ => exact ⟨g, 0, _, _, rfl, cell_of hg 1, h1⟩
theorem nli_block {w : World} {g : Nat} {l : List Int} (hl : ∀ u ∈ l, (Lit.int .i64 u).wf = true) (h : w.heap[g]? = some (.cells (l.map (Value.int .i64)).toArray 3 (0, 0))) : NLI w (some ⟨g, 0, none⟩) l.length l := by
  refine ⟨fun i hi => ⟨⟨g, 0, rfl, ?_⟩, hl _ (List.getElem_mem hi)⟩, (fun e => by cases e), Nat.le_refl _⟩
  rw [cell_of h]
  simp [hi]
theorem made_ints (w : World) (l : List Int) : (w.alloc (.cells (l.map (Value.int .i64)).toArray 3)).heap[w.heap.size]? = some (.cells (l.map (Value.int .i64)).toArray 3 (0, 0)) := heap_alloc_new w _
/-- a projection of two chains, made by a literal: four blocks, one behind the other -/
def layP (w : World) (ep : Int) (a b : List Int) : World :=
  (((w.alloc (.cells (a.map (Value.int .i64)).toArray 3)).alloc (.cells (b.map (Value.int .i64)).toArray 3)).alloc (.cells #[.slice (some ⟨w.heap.size, 0, none⟩) a.length a.length, .slice (some ⟨w.heap.size + 1, 0, none⟩) b.length b.length] 57)).alloc
    (.cells #[.int .i64 ep, .slice (some ⟨w.heap.size + 2, 0, none⟩) 2 2] 24)
theorem layP_size (w : World) (ep : Int) (a b : List Int) : (layP w ep a b).heap.size = w.heap.size + 4 := by simp [layP]
theorem layP_below (w : World) (ep : Int) (a b : List Int) : Below w.heap.size w (layP w ep a b) :=
  ((((Below.refl _ _).alloc (Nat.le_refl _) _).alloc (by simp) _).alloc (by first | (simp; done) | (simp; omega)) _).alloc (by first | (simp; done) | (simp; omega)) _
theorem layP_told (w : World) (ep : Int) (a b : List Int) (ha : ∀ u ∈ a, (Lit.int .i64 u).wf = true) (hb : ∀ u ∈ b, (Lit.int .i64 u).wf = true) :
    Told (layP w ep a b) (some ⟨w.heap.size + 2, 0, none⟩) 2 [a, b] ∧ PB (layP w ep a b) (w.heap.size + 3) ep (some ⟨w.heap.size + 2, 0, none⟩) 2 2 := by
  have s1 : (w.alloc (.cells (a.map (Value.int .i64)).toArray 3)).heap.size = w.heap.size + 1 := by simp
  have s2 : ((w.alloc (.cells (a.map (Value.int .i64)).toArray 3)).alloc (.cells (b.map (Value.int .i64)).toArray 3)).heap.size = w.heap.size + 2 := by simp
  have s3 : (((w.alloc (.cells (a.map (Value.int .i64)).toArray 3)).alloc (.cells (b.map (Value.int .i64)).toArray 3)).alloc (.cells #[.slice (some ⟨w.heap.size, 0, none⟩) a.length a.length, .slice (some ⟨w.heap.size + 1, 0, none⟩) b.length b.length] 57)).heap.size = w.heap.size + 3 := by simp
  refine ⟨told_two (g0 := w.heap.size) (g1 := w.heap.size + 1) (nli_block ha ?_) (nli_block hb ?_) ?_, ?_⟩
  · exact below_heap ((((Below.refl _ _).alloc (Nat.le_refl _) _).alloc (by simp) _).alloc (by first | (simp; done) | (simp; omega)) _) (made_ints w a)
  · have h := made_ints (w.alloc (.cells (a.map (Value.int .i64)).toArray 3)) b
    rw [s1] at h
    exact below_heap (((Below.refl _ _).alloc (Nat.le_refl _) _).alloc (by simp) _) h
  · have h := heap_alloc_new ((w.alloc (.cells (a.map (Value.int .i64)).toArray 3)).alloc (.cells (b.map (Value.int .i64)).toArray 3)) (.cells #[.slice (some ⟨w.heap.size, 0, none⟩) a.length a.length, .slice (some ⟨w.heap.size + 1, 0, none⟩) b.length b.length] 57)
    rw [s2] at h
    exact below_heap ((Below.refl _ _).alloc (Nat.le_refl _) _) h
  · have h := heap_alloc_new (((w.alloc (.cells (a.map (Value.int .i64)).toArray 3)).alloc (.cells (b.map (Value.int .i64)).toArray 3)).alloc (.cells #[.slice (some ⟨w.heap.size, 0, none⟩) a.length a.length, .slice (some ⟨w.heap.size + 1, 0, none⟩) b.length b.length] 57)) (.cells #[.int .i64 ep, .slice (some ⟨w.heap.size + 2, 0, none⟩) 2 2] 24)
    rw [s3] at h
    exact h
end Go.Proofs.YtkicjgaejieinaaGreat
namespace Go.Proofs.YtkicjgaejieinaaGreat
set_option linter.unusedVariables false
open Go.RowKit
set_option maxRecDepth 20000
theorem ask_at {w : World} {ao : Option Addr} {l : List Ak} (h : Row w ao 9 askC l) {i : Nat} (hi : i < l.length) : ∃ bk off, ao = some ⟨bk, off, none⟩ ∧ w.cell? ⟨bk, off + i * 9, none⟩ = some (.int .i64 l[i].kind) ∧ w.cell? ⟨bk, off + i * 9 + 1, none⟩ = some (.int .i64 l[i].unit) ∧ w.cell? ⟨bk, off + i * 9 + 2, none⟩ = some (.int .i64 l[i].epoch) ∧ w.cell? ⟨bk, off + i * 9 + 3, none⟩ = some (.int .i64 l[i].page) ∧ w.cell? ⟨bk, off + i * 9 + 4, none⟩ = some (.int .i64 l[i].size) ∧
    w.cell? ⟨bk, off + i * 9 + 5, none⟩ = some (.int .i64 l[i].n) ∧ w.cell? ⟨bk, off + i * 9 + 6, none⟩ = some (.string l[i].data) ∧ w.cell? ⟨bk, off + i * 9 + 7, none⟩ = some (.int .i64 l[i].pe) ∧ w.cell? ⟨bk, off + i * 9 + 8, none⟩ = some (.slice l[i].ao l[i].L.length l[i].cap) := by
  obtain ⟨bk, off, h1, h2⟩ := h i hi
  exact ⟨bk, off, h1, h2 0 _ rfl, h2 1 _ rfl, h2 2 _ rfl, h2 3 _ rfl, h2 4 _ rfl, h2 5 _ rfl, h2 6 _ rfl, h2 7 _ rfl, h2 8 _ rfl⟩
theorem ask_here {w W : World} {l : List Ak} {bk off n : Nat} (h : Row w (some ⟨bk, off, none⟩) 9 askC l) (hn : n < l.length) (hb : Below w.heap.size w W) :
    W.cell? ⟨bk, off + n * 9, none⟩ = some (.int .i64 l[n].kind) ∧ W.cell? ⟨bk, off + n * 9 + 1, none⟩ = some (.int .i64 l[n].unit) ∧ W.cell? ⟨bk, off + n * 9 + 2, none⟩ = some (.int .i64 l[n].epoch) ∧ W.cell? ⟨bk, off + n * 9 + 3, none⟩ = some (.int .i64 l[n].page) ∧ W.cell? ⟨bk, off + n * 9 + 4, none⟩ = some (.int .i64 l[n].size) ∧
    W.cell? ⟨bk, off + n * 9 + 5, none⟩ = some (.int .i64 l[n].n) ∧ W.cell? ⟨bk, off + n * 9 + 6, none⟩ = some (.string l[n].data) ∧ W.cell? ⟨bk, off + n * 9 + 7, none⟩ = some (.int .i64 l[n].pe) ∧ W.cell? ⟨bk, off + n * 9 + 8, none⟩ = some (.slice l[n].ao l[n].L.length l[n].cap) := by
  obtain ⟨bk2, off2, e, h1, h2, h3, h4, h5, h6, h7, h8, h9⟩ := ask_at (h.below hb) hn
  cases e
  exact ⟨h1, h2, h3, h4, h5, h6, h7, h8, h9⟩
end Go.Proofs.YtkicjgaejieinaaGreat
namespace Go.Proofs.YtkicjgaejieinaaGreat
set_option linter.unusedVariables false
open Go.RowKit
set_option maxRecDepth 20000
/-- the list is gone through -/
def fairS (l : List Sk) : Prop := l.length ≤ 150 ∧ ∀ s ∈ l, largeA s.a = false
def Fair10 (l : List Sk) (e : Ending) : Prop := ∃ c : Bool, e = .returned (.bool c) ∧ (c = true → fairS l)
end Go.Proofs.YtkicjgaejieinaaGreat
namespace Go.Proofs.YtkicjgaejieinaaGreat
set_option linter.unusedVariables false
open Go.RowKit
set_option maxRecDepth 20000
theorem odo_any (r : Nat) (G : Nat → Prop) (w : World) (o : Od) (a : Ak) (h : RO r G w o) (hw : i64w a.epoch) :
    Calls Tryz.prog 55 #[ptrO r, askV a] w fun e w' => e = .returned (ansV (o.ans a) none 0) ∧ Leaves (RO r) G w w' (o.done a) := by
  by_cases h8 : a.kind = 8
  · by_cases he : a.epoch ≤ o.epoch
    · exact odo_old r G w o a h h8 he
    by_cases h1 : a.page < 0
    · exact odo_low r G w o a h h8 (by omega) h1
    by_cases h2 : 16384 < a.page
    · exact odo_high r G w o a h h8 (by omega) h2
    · exact odo_start r G w o a h h8 (by omega) ⟨by omega, by omega⟩ hw
  by_cases h6 : a.kind = 6
  · by_cases he : a.epoch = o.epoch
    · cases hn : o.knows
      · exact odo_next_dumb r G w o a h h6 he hn
      · by_cases ht : o.tail = 16384
        · exact odo_full r G w o a h h6 he hn ht
        · exact odo_next r G w o a h h6 he hn ht
    · exact odo_next_other r G w o a h h6 he
  by_cases h7 : a.kind = 7
  · by_cases he : a.epoch = o.epoch
    · cases hn : o.knows
      · exact odo_tail_dumb r G w o a h h7 he hn
      · exact odo_tail r G w o a h h7 he hn
    · exact odo_tail_other r G w o a h h7 he
  · exact odo_other r G w o a h ⟨h8, h6, h7⟩
section
variable {OG : Nat → (Nat → Prop) → World → Od → Prop} {X : Nat → Prop} {w : World} {b r : Nat} {o v : Od}
theorem so_ask (HS : OrderSays OG) (h : Side (OG b) (RO r) X w o v) {a : Ak} (ha : AkIn w a) : Calls Tryz.prog 51 #[ptrO b, askV a] w fun e w' => e = .returned (anW (o.ans a).code (o.ans a).n (o.ans a).data (o.ans a).epoch) ∧ Side (OG b) (RO r) X w' (o.done a) v ∧ Kept X w w' :=
  side_left (R := fun e => e = .returned (anW (o.ans a).code (o.ans a).n (o.ans a).data (o.ans a).epoch)) (HS.thing b) (ro_thing r) h (fun F hF => HS.ask b F w o a hF ha)
theorem so_rask (HS : OrderSays OG) (h : Side (OG b) (RO r) X w o v) {a : Ak} (hw : i64w a.epoch) : Calls Tryz.prog 55 #[ptrO r, askV a] w fun e w' => e = .returned (anW (v.ans a).code (v.ans a).n (v.ans a).data (v.ans a).epoch) ∧ Side (OG b) (RO r) X w' o (v.done a) ∧ Kept X w w' :=
  side_right (R := fun e => e = .returned (anW (v.ans a).code (v.ans a).n (v.ans a).data (v.ans a).epoch)) (HS.thing b) (ro_thing r) h (fun F hF => by rw [← ansV_O]; exact odo_any r F w v a hF hw)
theorem so_look {z : Value} {fn : FuncId} {args : Array Value} (HS : OrderSays OG) (h : Side (OG b) (RO r) X w o v) (hc : ∀ G : Nat → Prop, OG b G w o → Calls Tryz.prog fn args w fun e w' => e = .returned z ∧ Below w.heap.size w w') : Calls Tryz.prog fn args w fun e w' => e = .returned z ∧ Below w.heap.size w w' := by
  obtain ⟨_, F, G, h2, _⟩ := h
  exact hc F h2
/-- the document's sequencer's own three cells -/
theorem so_cells (h : Side (OG b) (RO r) X w o v) : w.cell? ⟨r, 0, none⟩ = some (.int .i64 v.epoch) ∧ w.cell? ⟨r, 1, none⟩ = some (.int .i64 v.tail) ∧ w.cell? ⟨r, 2, none⟩ = some (.bool v.knows) ∧ w.frozen? ⟨r, 2, none⟩ = false := by
  obtain ⟨_, F, G, _, ⟨_, h3, _⟩, _⟩ := h
  obtain ⟨c0, c1, c2, _, _, f2⟩ := three_cells h3
  exact ⟨c0, c1, c2, f2⟩
/-- the law itself lets the document's sequencer forget -/
theorem so_set (HS : OrderSays OG) (h : Side (OG b) (RO r) X w o v) (d : Bool) : Side (OG b) (RO r) X (w.setCell ⟨r, 2, none⟩ (.bool d)) o ⟨v.epoch, v.tail, d⟩ ∧ Kept X w (w.setCell ⟨r, 2, none⟩ (.bool d)) := by
  refine h.right_step (HS.thing b) (ro_thing r) (fun G hG => ?_)
  obtain ⟨k1, k3, k4⟩ := hG
  exact ⟨G, ⟨k1.turn d, three_set2 k3 _, k4⟩, (Kept.refl _ w).setCell (p := ⟨r, 2, none⟩) (fun hn => hn ((k4 r).2 rfl)) _, fun k hk => .inl hk⟩
end
end Go.Proofs.YtkicjgaejieinaaGreat
