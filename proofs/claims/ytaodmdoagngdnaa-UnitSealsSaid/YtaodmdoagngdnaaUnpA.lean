/- The program's unit in memory, and what its New, Crash, Start, Down, Epoch, Pages and coded return. No conditions but those that the statements name. -/
import Derived.Test.YtaodmdoagngdnaaPgpF
import Derived.Test.YtaodmdoagngdnaaUniS
import Derived.Test.YtaodmdoagngdnaaAskB
namespace Go.Proofs.Ytaodmdoagngdnaa
set_option linter.unusedVariables false
open Go.RowKit
set_option maxRecDepth 20000
/-- block b is the program's unit, block q its pages -/
def UM (b q : Nat) (G : Nat → Prop) (w : World) (u : Us) : Prop :=
  (u.p.Ok ∧ i64w u.epoch) ∧ w.heap[b]? = some (.cells #[ptrV q, .int .i64 u.epoch, .bool u.down] 57 (0, 0)) ∧ G b ∧ ∃ F : Nat → Prop, PGm F w q u.p ∧ (∀ k, F k → G k) ∧ ¬ F b ∧ ∀ k, G k → F k ∨ k = b
theorem um_thing (b q : Nat) : Thing (UM b q) where
  lt := by
    rintro G w u ⟨_, h1, _, F, h3, _, _, h6⟩ k hk
    rcases h6 k hk with h | h
    · exact h3.lt k h
    · rw [h]; exact lt_of_block h1
  keep := by
    rintro G S w w' u ⟨h0, h1, h2, F, h3, h4, h5, h6⟩ hk hS
    exact ⟨h0, hk.heap (hS b h2) h1, h2, F, h3.keep hk (fun k hf => hS k (h4 k hf)), h4, h5, h6⟩
section
variable {w : World} {b q : Nat} {G : Nat → Prop} {u : Us}
theorem UM.cells (h : UM b q G w u) : w.heap[b]? = some (.cells #[.pointer (some ⟨q, 0, none⟩), .int .i64 u.epoch, .bool u.down] 57 (0, 0)) := h.2.1
theorem UM.small (h : UM b q G w u) : b < w.heap.size := lt_of_block h.2.1
/-- a call on the pages -/
theorem UM.ready (h : UM b q G w u) : ∃ F : Nat → Prop, PGm F w q u.p ∧ u.p.Ok ∧ ∀ W2 p', p'.Ok → Left PGm F w W2 q p' → Leaves (UM b q) G w W2 ⟨p', u.epoch, u.down⟩ := by
  obtain ⟨⟨k1, k2⟩, k3, k4, F, k5, k6, k7, k8⟩ := h
  refine ⟨F, k5, k1, fun W2 p' hok hl => ?_⟩
  obtain ⟨F', r1, r2, r3⟩ := hl
  have hb := lt_of_block k3
  refine ⟨fun k => F' k ∨ k = b, ⟨⟨hok, k2⟩, r2.heap k7 k3, .inr rfl, F', r1, fun k hk => .inl hk, fun hf => ?_, fun k hk => hk⟩, ?_, fun k hk => ?_⟩
  · rcases r3 b hf with h3 | h3
    · exact k7 h3
    · omega
  · exact ⟨r2.os, r2.tape, r2.output, r2.size, fun k hg hkl => r2.block k (fun hf => hg (k6 k hf)) hkl⟩
  · rcases hk with hk | hk
    · exact (r3 k hk).imp (fun h => k6 k h) id
    · exact .inl (hk ▸ k4)
/-- the unit's epoch is another -/
theorem UM.seal (h : UM b q G w u) {ep : Int} (he : i64w ep) : Leaves (UM b q) G w (w.setCell ⟨b, 1, none⟩ (.int .i64 ep)) ⟨u.p, ep, u.down⟩ := by
  obtain ⟨⟨k1, k2⟩, k3, k4, F, k5, k6, k7, k8⟩ := h
  have hk : Kept (fun k => k ≠ b) w (w.setCell ⟨b, 1, none⟩ (.int .i64 ep)) := (Kept.refl _ w).setCell (p := ⟨b, 1, none⟩) (fun h => h rfl) _
  exact ⟨G, ⟨⟨k1, he⟩, three_set1 k3 _, k4, F, k5.keep hk (fun k hf e => k7 (e ▸ hf)), k6, k7, k8⟩, hk.mono (fun k hg e => hg (e ▸ k4)), fun k hk => .inl hk⟩
/-- it is down, or up -/
theorem UM.turn (h : UM b q G w u) (d : Bool) : Leaves (UM b q) G w (w.setCell ⟨b, 2, none⟩ (.bool d)) ⟨u.p, u.epoch, d⟩ := by
  obtain ⟨k0, k3, k4, F, k5, k6, k7, k8⟩ := h
  have hk : Kept (fun k => k ≠ b) w (w.setCell ⟨b, 2, none⟩ (.bool d)) := (Kept.refl _ w).setCell (p := ⟨b, 2, none⟩) (fun h => h rfl) _
  exact ⟨G, ⟨k0, three_set2 k3 _, k4, F, k5.keep hk (fun k hf e => k7 (e ▸ hf)), k6, k7, k8⟩, hk.mono (fun k hg e => hg (e ▸ k4)), fun k hk => .inl hk⟩
end
theorem un_new_yes (room : Int) (w : World) (h : 1 ≤ room ∧ room ≤ 4096) :
    Calls Try.prog 7 #[.int .i64 room] w fun e w' => ∃ (b q : Nat) (G : Nat → Prop), e = .returned (.tuple #[ptrV b, .int .i64 0]) ∧ UM b q G w' (newU room) ∧ (∀ k, G k → w.heap.size ≤ k) ∧ Below w.heap.size w w' := by
  have CN := Lib.hid (pnew_yes room w h)
  have HN := Lib.hid (newP_ok h)
  go_enter Try.func7, Try.ntmps7
  go_wp2_with (go_at_call 25; refine CN.out.mono ?_; rintro e w1 ⟨q, F, rfl, hg1, hg2, hb1⟩; have HG := Lib.hid hg1; have HF := Lib.hid hg2; have HB := Lib.hid hb1; clear hg1 hb1 hg2)
  go_ret2
  have hlt := HG.out.lt
  have hnf : ¬ F w1.heap.size := fun hf => Nat.lt_irrefl _ (hlt _ hf)
  have hb2 : Below w1.heap.size w1 (w1.alloc (.cells #[.pointer (some ⟨q, 0, none⟩), .int .i64 0, .bool false] 57)) := (Below.refl _ _).alloc (Nat.le_refl _) _
  refine ⟨w1.heap.size, q, fun k => F k ∨ k = w1.heap.size, rfl, ⟨⟨HN.out, WalkArith.wf_i64 (n := 0) (by decide)⟩, heap_alloc_new _ _, .inr rfl, F, HG.out.keep (Kept.ofBelow hb2 (fun _ => True)) (fun _ _ => trivial), fun k hk => .inl hk, hnf, fun k hk => hk⟩, fun k hk => ?_, HB.out.alloc HB.out.size _⟩
  rcases hk with h | h
  · exact HF.out k h
  · rw [h]; exact HB.out.size
theorem un_new_no (room : Int) (w : World) (h : room < 1 ∨ 4096 < room) (hr : i64w room) :
    Calls Try.prog 7 #[.int .i64 room] w fun e w' => e = .returned (.tuple #[.pointer none, .int .i64 1]) ∧ Below w.heap.size w w' := by
  have CN := Lib.hid (pnew_no room w h)
  clear h
  go_enter Try.func7, Try.ntmps7
  go_wp2_with (go_at_call 25; refine CN.out.mono ?_; rintro e w1 ⟨rfl, hb1⟩; have HB := Lib.hid hb1; clear hb1)
  go_ret2
  exact ⟨rfl, HB.out⟩
theorem un_crash (b q : Nat) (G : Nat → Prop) (w : World) (u : Us) (h : UM b q G w u) :
    Calls Try.prog 14 #[.pointer (some ⟨b, 0, none⟩)] w fun e w' => e = .returned (.tuple #[]) ∧ Leaves (UM b q) G w w' ⟨u.p, u.epoch, true⟩ := by
  have HT := Lib.hid (h.turn true)
  have hb := h.small
  obtain ⟨c0, c1, c2, f0, f1, f2⟩ := three_cells h.cells
  clear h
  go_enter Try.func14, Try.ntmps14
  go_wp2
  go_end0
  exact ⟨rfl, HT.out⟩
theorem un_start (b q : Nat) (G : Nat → Prop) (w : World) (u : Us) (h : UM b q G w u) :
    Calls Try.prog 15 #[.pointer (some ⟨b, 0, none⟩)] w fun e w' => e = .returned (.tuple #[]) ∧ Leaves (UM b q) G w w' ⟨u.p, u.epoch, false⟩ := by
  have HT := Lib.hid (h.turn false)
  have hb := h.small
  obtain ⟨c0, c1, c2, f0, f1, f2⟩ := three_cells h.cells
  clear h
  go_enter Try.func15, Try.ntmps15
  go_wp2
  go_end0
  exact ⟨rfl, HT.out⟩
theorem un_crash_nil (w : World) : Calls Try.prog 14 #[.pointer none] w fun e w' => e = .returned (.tuple #[]) ∧ w = w' := by
  go_enter Try.func14, Try.ntmps14
  go_wp2
  go_end0
  exact ⟨rfl, rfl⟩
theorem un_start_nil (w : World) : Calls Try.prog 15 #[.pointer none] w fun e w' => e = .returned (.tuple #[]) ∧ w = w' := by
  go_enter Try.func15, Try.ntmps15
  go_wp2
  go_end0
  exact ⟨rfl, rfl⟩
theorem un_down (b q : Nat) (G : Nat → Prop) (w : World) (u : Us) (h : UM b q G w u) :
    Calls Try.prog 16 #[.pointer (some ⟨b, 0, none⟩)] w fun e w' => e = .returned (.bool u.down) ∧ w = w' := by
  have hb := h.small
  obtain ⟨c0, c1, c2, f0, f1, f2⟩ := three_cells h.cells
  clear h
  go_enter Try.func16, Try.ntmps16
  go_wp2
  go_ret
  exact ⟨rfl, rfl⟩
theorem un_down_nil (w : World) : Calls Try.prog 16 #[.pointer none] w fun e w' => e = .returned (.bool true) ∧ w = w' := by
  go_enter Try.func16, Try.ntmps16
  go_wp2
  go_ret
  exact ⟨rfl, rfl⟩
theorem un_epoch (b q : Nat) (G : Nat → Prop) (w : World) (u : Us) (h : UM b q G w u) :
    Calls Try.prog 17 #[.pointer (some ⟨b, 0, none⟩)] w fun e w' => e = .returned (.int .i64 u.epoch) ∧ w = w' := by
  have hb := h.small
  obtain ⟨c0, c1, c2, f0, f1, f2⟩ := three_cells h.cells
  clear h
  go_enter Try.func17, Try.ntmps17
  go_wp2
  go_ret
  exact ⟨rfl, rfl⟩
theorem un_epoch_nil (w : World) : Calls Try.prog 17 #[.pointer none] w fun e w' => e = .returned (.int .i64 0) ∧ w = w' := by
  go_enter Try.func17, Try.ntmps17
  go_wp2
  go_ret
  exact ⟨rfl, rfl⟩
theorem un_pages (b q : Nat) (G : Nat → Prop) (w : World) (u : Us) (h : UM b q G w u) :
    Calls Try.prog 18 #[.pointer (some ⟨b, 0, none⟩)] w fun e w' => e = .returned (ptrV q) ∧ w = w' := by
  have hb := h.small
  obtain ⟨c0, c1, c2, f0, f1, f2⟩ := three_cells h.cells
  clear h
  go_enter Try.func18, Try.ntmps18
  go_wp2
  go_ret
  exact ⟨rfl, rfl⟩
theorem un_pages_nil (w : World) : Calls Try.prog 18 #[.pointer none] w fun e w' => e = .returned (.pointer none) ∧ w = w' := by
  go_enter Try.func18, Try.ntmps18
  go_wp2
  go_ret
  exact ⟨rfl, rfl⟩
theorem coded_any (c : Int) (w : World) : Calls Try.prog 28 #[.int .i64 c] w fun e w' => e = .returned (anV c 0 noS 0) ∧ Below w.heap.size w w' := by
  go_enter Try.func28, Try.ntmps28
  go_wp2
  exact ans_ret (x := anP c 0 noS 0) (ao := none) (cap := 0) rfl (heap_alloc_new _ _) rfl rfl ⟨rfl, (Below.refl _ _).alloc (Nat.le_refl _) _⟩
end Go.Proofs.Ytaodmdoagngdnaa
