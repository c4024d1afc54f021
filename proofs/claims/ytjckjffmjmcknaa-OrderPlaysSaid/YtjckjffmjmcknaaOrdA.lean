/- The document's own sequencer in memory: what its New makes, and the world in its Do. No conditions but those that the statements name. (Written by gen/genord.py.) -/
import Derived.Test.YtjckjffmjmcknaaOrdM
import Derived.Test.YtjckjffmjmcknaaAskB
import Derived.Test.YtjckjffmjmcknaaSide
namespace Go.Proofs.Ytjckjffmjmcknaa
set_option linter.unusedVariables false
open Go.RowKit
set_option maxRecDepth 20000
def ptrO (b : Nat) : Value := .pointer (some ⟨b, 0, none⟩)
/-- block r is the document's sequencer -/
def RO (r : Nat) (G : Nat → Prop) (w : World) (o : Od) : Prop := o.Ok ∧ w.heap[r]? = some (.cells #[.int .i64 o.epoch, .int .i64 o.tail, .bool o.knows] 37 (0, 0)) ∧ ∀ k, G k ↔ k = r
theorem ro_thing (r : Nat) : Thing (RO r) where
  lt := by
    rintro G w u ⟨_, h1, h2⟩ k hk
    rw [(h2 k).1 hk]
    exact lt_of_block h1
  keep := by
    rintro G S w w' u ⟨h0, h1, h2⟩ hk hS
    exact ⟨h0, hk.heap (hS r ((h2 r).2 rfl)) h1, h2⟩
theorem ro_new (w : World) : Calls Try.prog 7 #[] w fun e w' => ∃ (r : Nat) (G : Nat → Prop), e = .returned (ptrO r) ∧ RO r G w' newO ∧ (∀ k, G k → w.heap.size ≤ k) ∧ Below w.heap.size w w' := by
  go_enter Try.func7, Try.ntmps7
  go_wp2_with fail
  go_ret
  exact ⟨w.heap.size, fun k => k = w.heap.size, rfl, ⟨newO_ok, heap_alloc_new _ _, fun k => Iff.rfl⟩, fun k hk => by omega, (Below.refl _ _).alloc (Nat.le_refl _) _⟩
def askB (a : Ak) : Array Value := (askC a).toArray
/-- the world in which Do has laid out the question and two answers -/
structure OdW (w W : World) (r : Nat) (o : Od) (a : Ak) (Y : Array Value) : Prop where
  ask : W.heap[w.heap.size]? = some (.cells (askB a) 32 (0, 0))
  zero : W.heap[w.heap.size + 1]? = some (.cells #[.int .i64 0, .int .i64 0, .string ⟨#[]⟩, .int .i64 0, .slice none 0 0, .int .i64 0, .int .i64 0, .int .i64 0] 40 (0, 0))
  ans : W.heap[w.heap.size + 1 + 1]? = some (.cells Y 40 (0, 0))
  ob : W.heap[r]? = some (.cells #[.int .i64 o.epoch, .int .i64 o.tail, .bool o.knows] 37 (0, 0))
  kp : Kept (fun k => k ≠ r) w W
  lt : r < w.heap.size
theorem od_start {w : World} {r : Nat} {G : Nat → Prop} {o : Od} (h : RO r G w o) (a : Ak) (Y : Array Value) : OdW w (((w.alloc (.cells (askB a) 32)).alloc (.cells #[.int .i64 0, .int .i64 0, .string ⟨#[]⟩, .int .i64 0, .slice none 0 0, .int .i64 0, .int .i64 0, .int .i64 0] 40)).alloc (.cells Y 40)) r o a Y := by
  have hb : Below w.heap.size w (((w.alloc (.cells (askB a) 32)).alloc (.cells #[.int .i64 0, .int .i64 0, .string ⟨#[]⟩, .int .i64 0, .slice none 0 0, .int .i64 0, .int .i64 0, .int .i64 0] 40)).alloc (.cells Y 40)) := (((Below.refl _ _).alloc (Nat.le_refl _) _).alloc (by simp) _).alloc (by simp; omega) _
  obtain ⟨h1, h2⟩ := two_blocks w (askB a) #[.int .i64 0, .int .i64 0, .string ⟨#[]⟩, .int .i64 0, .slice none 0 0, .int .i64 0, .int .i64 0, .int .i64 0] 32 40
  have hb2 := (Below.refl ((w.alloc (.cells (askB a) 32)).alloc (.cells #[.int .i64 0, .int .i64 0, .string ⟨#[]⟩, .int .i64 0, .slice none 0 0, .int .i64 0, .int .i64 0, .int .i64 0] 40)).heap.size ((w.alloc (.cells (askB a) 32)).alloc (.cells #[.int .i64 0, .int .i64 0, .string ⟨#[]⟩, .int .i64 0, .slice none 0 0, .int .i64 0, .int .i64 0, .int .i64 0] 40))).alloc (Nat.le_refl _) (.cells Y 40)
  refine ⟨below_heap hb2 h1, below_heap hb2 h2, ?_, below_heap hb h.2.1, Kept.ofBelow hb _, lt_of_block h.2.1⟩
  have h := heap_alloc_new ((w.alloc (.cells (askB a) 32)).alloc (.cells #[.int .i64 0, .int .i64 0, .string ⟨#[]⟩, .int .i64 0, .slice none 0 0, .int .i64 0, .int .i64 0, .int .i64 0] 40)) (.cells Y 40)
  have e : ((w.alloc (.cells (askB a) 32)).alloc (.cells #[.int .i64 0, .int .i64 0, .string ⟨#[]⟩, .int .i64 0, .slice none 0 0, .int .i64 0, .int .i64 0, .int .i64 0] 40)).heap.size = w.heap.size + 1 + 1 := by simp
  rw [e] at h
  exact h
section
variable {w W : World} {r : Nat} {o : Od} {a : Ak} {Y : Array Value}
theorem OdW.below (h : OdW w W r o a Y) {W2 : World} (hb : Below W.heap.size W W2) : OdW w W2 r o a Y := ⟨below_heap hb h.ask, below_heap hb h.zero, below_heap hb h.ans, below_heap hb h.ob, h.kp.below hb, h.lt⟩
theorem OdW.drewN (h : OdW w W r o a Y) (n : Nat) : OdW w (W.drewN n) r o a Y := h.below (below_drewN (Below.refl _ _) n)
theorem OdW.small (h : OdW w W r o a Y) : w.heap.size < W.heap.size ∧ w.heap.size + 1 < W.heap.size ∧ w.heap.size + 1 + 1 < W.heap.size ∧ r < w.heap.size := ⟨lt_of_block h.ask, lt_of_block h.zero, lt_of_block h.ans, h.lt⟩
theorem OdW.put (h : OdW w W r o a Y) (i : Nat) (v : Value) : OdW w (W.setCell ⟨w.heap.size + 1 + 1, i, none⟩ v) r o a (Y.setIfInBounds i v) := by
  have hlt := h.lt
  have hk : Kept (fun k => k ≠ w.heap.size + 1 + 1) W (W.setCell ⟨w.heap.size + 1 + 1, i, none⟩ v) := (Kept.refl _ W).setCell (p := ⟨w.heap.size + 1 + 1, i, none⟩) (fun h => h rfl) v
  exact ⟨hk.heap (by omega) h.ask, hk.heap (by omega) h.zero, heap_setCell_same W _ i Y _ v h.ans, hk.heap (by omega) h.ob, kept_new h.kp (by omega) v, h.lt⟩
theorem OdW.set0 (h : OdW w W r o a Y) (x : Int) : OdW w (W.setCell ⟨r, 0, none⟩ (.int .i64 x)) r ⟨x, o.tail, o.knows⟩ a Y := by
  have hlt := h.lt
  have hk : Kept (fun k => k ≠ r) W (W.setCell ⟨r, 0, none⟩ (.int .i64 x)) := (Kept.refl _ W).setCell (p := ⟨r, 0, none⟩) (fun h => h rfl) _
  exact ⟨hk.heap (by omega) h.ask, hk.heap (by omega) h.zero, hk.heap (by omega) h.ans, three_set0 h.ob _, h.kp.trans hk, h.lt⟩
theorem OdW.set1 (h : OdW w W r o a Y) (x : Int) : OdW w (W.setCell ⟨r, 1, none⟩ (.int .i64 x)) r ⟨o.epoch, x, o.knows⟩ a Y := by
  have hlt := h.lt
  have hk : Kept (fun k => k ≠ r) W (W.setCell ⟨r, 1, none⟩ (.int .i64 x)) := (Kept.refl _ W).setCell (p := ⟨r, 1, none⟩) (fun h => h rfl) _
  exact ⟨hk.heap (by omega) h.ask, hk.heap (by omega) h.zero, hk.heap (by omega) h.ans, three_set1 h.ob _, h.kp.trans hk, h.lt⟩
theorem OdW.set2 (h : OdW w W r o a Y) (x : Bool) : OdW w (W.setCell ⟨r, 2, none⟩ (.bool x)) r ⟨o.epoch, o.tail, x⟩ a Y := by
  have hlt := h.lt
  have hk : Kept (fun k => k ≠ r) W (W.setCell ⟨r, 2, none⟩ (.bool x)) := (Kept.refl _ W).setCell (p := ⟨r, 2, none⟩) (fun h => h rfl) _
  exact ⟨hk.heap (by omega) h.ask, hk.heap (by omega) h.zero, hk.heap (by omega) h.ans, three_set2 h.ob _, h.kp.trans hk, h.lt⟩
set_option maxHeartbeats 1000000 in
theorem OdW.fin (h : OdW w W r o a Y) (hok : o.Ok) {G : Nat → Prop} (hG : ∀ k, G k ↔ k = r) {v0 v1 v2 v3 v4 v5 v6 v7 : Value} :
    ((((((((W.setCell ⟨w.heap.size + 1, 0, none⟩ v0).setCell ⟨w.heap.size + 1, 1, none⟩ v1).setCell ⟨w.heap.size + 1, 2, none⟩ v2).setCell ⟨w.heap.size + 1, 3, none⟩ v3).setCell ⟨w.heap.size + 1, 4, none⟩ v4).setCell ⟨w.heap.size + 1, 5, none⟩ v5).setCell ⟨w.heap.size + 1, 6, none⟩ v6).setCell ⟨w.heap.size + 1, 7, none⟩ v7).heap[w.heap.size + 1]? = some (.cells #[v0, v1, v2, v3, v4, v5, v6, v7] 40 (0, 0)) ∧ Leaves (RO r) G w ((((((((W.setCell ⟨w.heap.size + 1, 0, none⟩ v0).setCell ⟨w.heap.size + 1, 1, none⟩ v1).setCell ⟨w.heap.size + 1, 2, none⟩ v2).setCell ⟨w.heap.size + 1, 3, none⟩ v3).setCell ⟨w.heap.size + 1, 4, none⟩ v4).setCell ⟨w.heap.size + 1, 5, none⟩ v5).setCell ⟨w.heap.size + 1, 6, none⟩ v6).setCell ⟨w.heap.size + 1, 7, none⟩ v7) o := by
  have hlt := h.lt
  constructor
  · exact (eight_set7 (eight_set6 (eight_set5 (eight_set4 (eight_set3 (eight_set2 (eight_set1 (eight_set0 h.zero _) _) _) _) _) _) _) _)
  · have hk : Kept (fun k => k ≠ w.heap.size + 1) W ((((((((W.setCell ⟨w.heap.size + 1, 0, none⟩ v0).setCell ⟨w.heap.size + 1, 1, none⟩ v1).setCell ⟨w.heap.size + 1, 2, none⟩ v2).setCell ⟨w.heap.size + 1, 3, none⟩ v3).setCell ⟨w.heap.size + 1, 4, none⟩ v4).setCell ⟨w.heap.size + 1, 5, none⟩ v5).setCell ⟨w.heap.size + 1, 6, none⟩ v6).setCell ⟨w.heap.size + 1, 7, none⟩ v7) := (((((((((Kept.refl _ W).setCell (p := ⟨w.heap.size + 1, 0, none⟩) (fun h => h rfl) _).setCell (p := ⟨w.heap.size + 1, 1, none⟩) (fun h => h rfl) _).setCell (p := ⟨w.heap.size + 1, 2, none⟩) (fun h => h rfl) _).setCell (p := ⟨w.heap.size + 1, 3, none⟩) (fun h => h rfl) _).setCell (p := ⟨w.heap.size + 1, 4, none⟩) (fun h => h rfl) _).setCell (p := ⟨w.heap.size + 1, 5, none⟩) (fun h => h rfl) _).setCell (p := ⟨w.heap.size + 1, 6, none⟩) (fun h => h rfl) _).setCell (p := ⟨w.heap.size + 1, 7, none⟩) (fun h => h rfl) _)
    exact ⟨G, ⟨hok, hk.heap (by omega) h.ob, hG⟩, (kept_new (kept_new (kept_new (kept_new (kept_new (kept_new (kept_new (kept_new h.kp (by omega) _) (by omega) _) (by omega) _) (by omega) _) (by omega) _) (by omega) _) (by omega) _) (by omega) _).mono (fun k hk e => hk ((hG k).2 e)), fun k hk => .inl hk⟩
end
end Go.Proofs.Ytjckjffmjmcknaa
