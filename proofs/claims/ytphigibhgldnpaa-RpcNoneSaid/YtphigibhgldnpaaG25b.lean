/- Which kinds of questions go to a unit, to the sequencer, to the layout; the nodes themselves; nodes that nobody made. Conditions: as each statement says. -/
import Derived.Test.YtphigibhgldnpaaG24a
import Derived.Test.YtphigibhgldnpaaG17b
set_option linter.unusedVariables false
namespace Go.Proofs.Ytphigibhgldnpaa
set_option linter.unusedVariables false
open Go.RowKit
set_option maxRecDepth 20000
theorem row5 (w : World) : NLI (w.alloc (.cells #[.int .i64 1, .int .i64 2, .int .i64 3, .int .i64 4, .int .i64 5] 3)) (some ⟨w.heap.size, 0, none⟩) 5 [1, 2, 3, 4, 5] := by
  have h := heap_alloc_new w (.cells #[.int .i64 1, .int .i64 2, .int .i64 3, .int .i64 4, .int .i64 5] 3)
  refine ⟨fun j hj => ?_, (fun e => by cases e), Nat.le_refl _⟩
  match j, hj with
  | 0, _ => exact ⟨⟨_, _, rfl, cell_of h 0⟩, i64w_small (x := 1) (by omega)⟩
  | 1, _ => exact ⟨⟨_, _, rfl, cell_of h 1⟩, i64w_small (x := 2) (by omega)⟩
  | 2, _ => exact ⟨⟨_, _, rfl, cell_of h 2⟩, i64w_small (x := 3) (by omega)⟩
  | 3, _ => exact ⟨⟨_, _, rfl, cell_of h 3⟩, i64w_small (x := 4) (by omega)⟩
  | 4, _ => exact ⟨⟨_, _, rfl, cell_of h 4⟩, i64w_small (x := 5) (by omega)⟩
  | n + 5, hj => simp at hj; omega
theorem row3 (a b c : Int) (ha : i64w a) (hb : i64w b) (hc : i64w c) (w : World) : NLI (w.alloc (.cells #[.int .i64 a, .int .i64 b, .int .i64 c] 3)) (some ⟨w.heap.size, 0, none⟩) 3 [a, b, c] := by
  have h := heap_alloc_new w (.cells #[.int .i64 a, .int .i64 b, .int .i64 c] 3)
  refine ⟨fun j hj => ?_, (fun e => by cases e), Nat.le_refl _⟩
  match j, hj with
  | 0, _ => exact ⟨⟨_, _, rfl, cell_of h 0⟩, ha⟩
  | 1, _ => exact ⟨⟨_, _, rfl, cell_of h 1⟩, hb⟩
  | 2, _ => exact ⟨⟨_, _, rfl, cell_of h 2⟩, hc⟩
  | n + 3, hj => simp at hj; omega
theorem is_uu (v : Value) (W : World) : (Instr.typeAssert (.iface 38 v) 59 38 true).run Try.prog W = .ok (.tuple #[v, .bool true]) W := by kernel_rfl
theorem is_ou (v : Value) (W : World) : (Instr.typeAssert (.iface 43 v) 59 38 true).run Try.prog W = .ok (.tuple #[.pointer none, .bool false]) W := by kernel_rfl
theorem is_oo (v : Value) (W : World) : (Instr.typeAssert (.iface 43 v) 59 43 true).run Try.prog W = .ok (.tuple #[v, .bool true]) W := by kernel_rfl
theorem is_lu (v : Value) (W : World) : (Instr.typeAssert (.iface 45 v) 59 38 true).run Try.prog W = .ok (.tuple #[.pointer none, .bool false]) W := by kernel_rfl
theorem is_lo (v : Value) (W : World) : (Instr.typeAssert (.iface 45 v) 59 43 true).run Try.prog W = .ok (.tuple #[.pointer none, .bool false]) W := by kernel_rfl
theorem is_ll (v : Value) (W : World) : (Instr.typeAssert (.iface 45 v) 59 45 true).run Try.prog W = .ok (.tuple #[v, .bool true]) W := by kernel_rfl
/-- the kinds that go to a node -/
def Kinds (l : List Int) (w : World) (e : Ending) (w' : World) : Prop := ∃ ao : Option Addr, e = .returned (.slice ao l.length l.length) ∧ NLI w' ao l.length l ∧ Below w.heap.size w w'
theorem kinds_unit (v : Value) (w : World) : Calls Try.prog 24 #[.iface 38 v] w (Kinds [1, 2, 3, 4, 5] w) := by
  have H := Lib.hid (row5 w)
  have F0 := is_uu
  go_enter Try.func24, Try.ntmps24
  go_wp2_with fail
  go_ret
  exact ⟨_, rfl, H.out, (Below.refl _ _).alloc (Nat.le_refl _) _⟩
theorem kinds_order (v : Value) (w : World) : Calls Try.prog 24 #[.iface 43 v] w (Kinds [6, 7, 8] w) := by
  have H := Lib.hid (row3 6 7 8 (i64w_small (by omega)) (i64w_small (by omega)) (i64w_small (by omega)) w)
  have F0 := is_ou
  have F1 := is_oo
  go_enter Try.func24, Try.ntmps24
  go_wp2_with fail
  go_ret
  exact ⟨_, rfl, H.out, (Below.refl _ _).alloc (Nat.le_refl _) _⟩
theorem kinds_layout (v : Value) (w : World) : Calls Try.prog 24 #[.iface 45 v] w (Kinds [9, 10, 11] w) := by
  have H := Lib.hid (row3 9 10 11 (i64w_small (by omega)) (i64w_small (by omega)) (i64w_small (by omega)) w)
  have F0 := is_lu
  have F1 := is_lo
  have F2 := is_ll
  go_enter Try.func24, Try.ntmps24
  go_wp2_with fail
  go_ret
  exact ⟨_, rfl, H.out, (Below.refl _ _).alloc (Nat.le_refl _) _⟩
theorem rp_unit_nil (i : Int) (w : World) : Calls Try.prog 9 #[.pointer none, .int .i64 i] w fun e w' => e = .returned (.pointer none) ∧ w = w' := by
  go_enter Try.func9, Try.ntmps9
  go_wp2_with fail
  go_ret
  exact ⟨rfl, rfl⟩
theorem rp_order_nil (w : World) : Calls Try.prog 13 #[.pointer none] w fun e w' => e = .returned (.pointer none) ∧ w = w' := by
  go_enter Try.func13, Try.ntmps13
  go_wp2_with fail
  go_ret
  exact ⟨rfl, rfl⟩
theorem rp_layout_nil (w : World) : Calls Try.prog 15 #[.pointer none] w fun e w' => e = .returned (.pointer none) ∧ w = w' := by
  go_enter Try.func15, Try.ntmps15
  go_wp2_with fail
  go_ret
  exact ⟨rfl, rfl⟩
theorem rp_unit_no (b : Nat) (i : Int) (h : i < 0 ∨ 15 < i) (w : World) : Calls Try.prog 9 #[.pointer (some ⟨b, 0, none⟩), .int .i64 i] w fun e w' => e = .returned (.pointer none) ∧ w = w' := by
  by_cases h0 : i < 0
  · clear h
    go_enter Try.func9, Try.ntmps9
    go_wp2_with fail
    go_ret
    exact ⟨rfl, rfl⟩
  · have h1 : 16 ≤ i := by omega
    have h2 : 0 ≤ i := by omega
    clear h h0
    go_enter Try.func9, Try.ntmps9
    go_wp2_with fail
    go_ret
    exact ⟨rfl, rfl⟩
theorem rp_unit_yes {b i : Nat} (hi : i < 16) {w : World} {p : Nat} (hc : w.cell? ⟨b, i, none⟩ = some (.pointer (some ⟨p, 0, none⟩))) : Calls Try.prog 9 #[.pointer (some ⟨b, 0, none⟩), .int .i64 i] w fun e w' => e = .returned (.pointer (some ⟨p, 0, none⟩)) ∧ w = w' := by
  have h0 : 0 ≤ (i : Int) := by omega
  have h1 : (i : Int) < 16 := by omega
  have hb := block_lt_of_cell hc
  go_enter Try.func9, Try.ntmps9
  go_wp2_with fail
  go_ret
  exact ⟨rfl, rfl⟩
theorem rp_order {b : Nat} {w : World} {p : Nat} (hc : w.cell? ⟨b, 16, none⟩ = some (.pointer (some ⟨p, 0, none⟩))) : Calls Try.prog 13 #[.pointer (some ⟨b, 0, none⟩)] w fun e w' => e = .returned (.pointer (some ⟨p, 0, none⟩)) ∧ w = w' := by
  have hb := block_lt_of_cell hc
  go_enter Try.func13, Try.ntmps13
  go_wp2_with fail
  go_ret
  exact ⟨rfl, rfl⟩
theorem rp_layout {b : Nat} {w : World} {p : Nat} (hc : w.cell? ⟨b, 17, none⟩ = some (.pointer (some ⟨p, 0, none⟩))) : Calls Try.prog 15 #[.pointer (some ⟨b, 0, none⟩)] w fun e w' => e = .returned (.pointer (some ⟨p, 0, none⟩)) ∧ w = w' := by
  have hb := block_lt_of_cell hc
  go_enter Try.func15, Try.ntmps15
  go_wp2_with fail
  go_ret
  exact ⟨rfl, rfl⟩
end Go.Proofs.Ytphigibhgldnpaa
