/- The program's sequencer in memory, and what its New, Crash, Epoch, Knows and coded return. No conditions but those that the statements name. -/
import Derived.Test.YtjckjffmjmcknaaOrdS
import Derived.Test.YtjckjffmjmcknaaBoxed
namespace Go.Proofs.Ytjckjffmjmcknaa
set_option linter.unusedVariables false
open Go.RowKit
set_option maxRecDepth 20000
/-- block b is the program's sequencer; what it holds for a tail while it knows none counts for nothing -/
def OM (b : Nat) (G : Nat → Prop) (w : World) (o : Od) : Prop :=
  o.Ok ∧ (∃ t : Int, (o.knows = true → t = o.tail) ∧ w.heap[b]? = some (.cells #[.int .i64 o.epoch, .int .i64 t, .bool o.knows] 48 (0, 0))) ∧ ∀ k, G k ↔ k = b
theorem om_thing (b : Nat) : Thing (OM b) where
  lt := by
    rintro G w u ⟨_, ⟨t, _, h1⟩, h2⟩ k hk
    rw [(h2 k).1 hk]
    exact lt_of_block h1
  keep := by
    rintro G S w w' u ⟨h0, ⟨t, ht, h1⟩, h2⟩ hk hS
    exact ⟨h0, ⟨t, ht, hk.heap (hS b ((h2 b).2 rfl)) h1⟩, h2⟩
section
variable {w : World} {b : Nat} {G : Nat → Prop} {o : Od}
theorem OM.small (h : OM b G w o) : b < w.heap.size := by obtain ⟨_, ⟨t, _, h1⟩, _⟩ := h; exact lt_of_block h1
theorem OM.cells (h : OM b G w o) : ∃ t : Int, (o.knows = true → t = o.tail) ∧ w.heap[b]? = some (.cells #[.int .i64 o.epoch, .int .i64 t, .bool o.knows] 48 (0, 0)) := h.2.1
theorem om_keeps (b : Nat) (w : World) (v0 v1 v2 : Value) : Kept (fun k => k ≠ b) w (((w.setCell ⟨b, 0, none⟩ v0).setCell ⟨b, 1, none⟩ v1).setCell ⟨b, 2, none⟩ v2) :=
  (((Kept.refl _ w).setCell (p := ⟨b, 0, none⟩) (fun h => h rfl) _).setCell (p := ⟨b, 1, none⟩) (fun h => h rfl) _).setCell (p := ⟨b, 2, none⟩) (fun h => h rfl) _
/-- it begins a later epoch -/
theorem OM.begins (h : OM b G w o) {ep pg : Int} (he : i64w ep) (hp : 0 ≤ pg ∧ pg ≤ 16384) :
    Leaves (OM b) G w (((w.setCell ⟨b, 0, none⟩ (.int .i64 ep)).setCell ⟨b, 1, none⟩ (.int .i64 pg)).setCell ⟨b, 2, none⟩ (.bool true)) ⟨ep, pg, true⟩ := by
  obtain ⟨k0, ⟨t, kt, k1⟩, k2⟩ := h
  exact ⟨G, ⟨⟨he, hp⟩, ⟨pg, fun _ => rfl, three_set2 (three_set1 (three_set0 k1 _) _) _⟩, k2⟩, (om_keeps b w _ _ _).mono (fun k hg e => hg ((k2 k).2 e)), fun k hk => .inl hk⟩
/-- it puts the tail one further -/
theorem OM.steps (h : OM b G w o) (ht : o.tail ≠ 16384) : Leaves (OM b) G w (w.setCell ⟨b, 1, none⟩ (.int .i64 (o.tail + 1))) ⟨o.epoch, o.tail + 1, o.knows⟩ := by
  obtain ⟨k0, ⟨t, kt, k1⟩, k2⟩ := h
  have hk : Kept (fun k => k ≠ b) w (w.setCell ⟨b, 1, none⟩ (.int .i64 (o.tail + 1))) := (Kept.refl _ w).setCell (p := ⟨b, 1, none⟩) (fun h => h rfl) _
  exact ⟨G, ⟨⟨k0.epoch, by have := k0.tail; show 0 ≤ o.tail + 1 ∧ o.tail + 1 ≤ 16384; omega⟩, ⟨o.tail + 1, fun _ => rfl, three_set1 k1 _⟩, k2⟩, hk.mono (fun k hg e => hg ((k2 k).2 e)), fun k hk => .inl hk⟩
/-- it forgets the tail -/
theorem OM.forgets (h : OM b G w o) : Leaves (OM b) G w ((w.setCell ⟨b, 1, none⟩ (.int .i64 0)).setCell ⟨b, 2, none⟩ (.bool false)) ⟨o.epoch, o.tail, false⟩ := by
  obtain ⟨k0, ⟨t, kt, k1⟩, k2⟩ := h
  have hk : Kept (fun k => k ≠ b) w ((w.setCell ⟨b, 1, none⟩ (.int .i64 0)).setCell ⟨b, 2, none⟩ (.bool false)) := ((Kept.refl _ w).setCell (p := ⟨b, 1, none⟩) (fun h => h rfl) _).setCell (p := ⟨b, 2, none⟩) (fun h => h rfl) _
  exact ⟨G, ⟨k0.turn false, ⟨0, (fun h => by cases h), three_set2 (three_set1 k1 _) _⟩, k2⟩, hk.mono (fun k hg e => hg ((k2 k).2 e)), fun k hk => .inl hk⟩
end
theorem on_new (w : World) : Calls Try.prog 6 #[] w fun e w' => ∃ (b : Nat) (G : Nat → Prop), e = .returned (ptrO b) ∧ OM b G w' newO ∧ (∀ k, G k → w.heap.size ≤ k) ∧ Below w.heap.size w w' := by
  go_enter Try.func6, Try.ntmps6
  go_wp2_with fail
  go_ret
  exact ⟨w.heap.size, fun k => k = w.heap.size, rfl, ⟨newO_ok, ⟨0, (fun h => by cases h), heap_alloc_new _ _⟩, fun k => Iff.rfl⟩, fun k hk => by omega, (Below.refl _ _).alloc (Nat.le_refl _) _⟩
theorem on_crash (b : Nat) (G : Nat → Prop) (w : World) (o : Od) (h : OM b G w o) :
    Calls Try.prog 10 #[.pointer (some ⟨b, 0, none⟩)] w fun e w' => e = .returned (.tuple #[]) ∧ Leaves (OM b) G w w' ⟨o.epoch, o.tail, false⟩ := by
  have HT := Lib.hid h.forgets
  have hb := h.small
  obtain ⟨t, _, hc⟩ := h.cells
  obtain ⟨c0, c1, c2, f0, f1, f2⟩ := three_cells hc
  clear h hc
  go_enter Try.func10, Try.ntmps10
  go_wp2
  go_end0
  exact ⟨rfl, HT.out⟩
theorem on_epoch (b : Nat) (G : Nat → Prop) (w : World) (o : Od) (h : OM b G w o) :
    Calls Try.prog 14 #[.pointer (some ⟨b, 0, none⟩)] w fun e w' => e = .returned (.int .i64 o.epoch) ∧ w = w' := by
  have hb := h.small
  obtain ⟨t, _, hc⟩ := h.cells
  obtain ⟨c0, c1, c2, f0, f1, f2⟩ := three_cells hc
  clear h hc
  go_enter Try.func14, Try.ntmps14
  go_wp2
  go_ret
  exact ⟨rfl, rfl⟩
theorem on_knows (b : Nat) (G : Nat → Prop) (w : World) (o : Od) (h : OM b G w o) :
    Calls Try.prog 15 #[.pointer (some ⟨b, 0, none⟩)] w fun e w' => e = .returned (.bool o.knows) ∧ w = w' := by
  have hb := h.small
  obtain ⟨t, _, hc⟩ := h.cells
  obtain ⟨c0, c1, c2, f0, f1, f2⟩ := three_cells hc
  clear h hc
  go_enter Try.func15, Try.ntmps15
  go_wp2
  go_ret
  exact ⟨rfl, rfl⟩
theorem ocoded_any (c : Int) (w : World) : Calls Try.prog 18 #[.int .i64 c] w fun e w' => e = .returned (.agg #[.int .i64 c, .int .i64 0, .string ⟨#[]⟩, .int .i64 0, .slice none 0 0, .int .i64 0, .int .i64 0, .int .i64 0]) ∧ Below w.heap.size w w' := by
  go_enter Try.func18, Try.ntmps18
  go_wp2
  exact ans_ret (x := anP c 0 noT 0) (ao := none) (cap := 0) rfl (heap_alloc_new _ _) rfl rfl ⟨rfl, (Below.refl _ _).alloc (Nat.le_refl _) _⟩
end Go.Proofs.Ytjckjffmjmcknaa
