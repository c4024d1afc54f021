/- What the statements' own function Parts returns of two lists that are one. Conditions: the parts lie where the call was told. -/
import Derived.Test.YtjdhbpgipoifkaaG21a
import Derived.Test.YtjdhbpgipoifkaaG02c
set_option linter.unusedVariables false
namespace Go.Proofs.Ytjdhbpgipoifkaa
open Go.RowKit Go.Sort
set_option linter.unusedVariables false
set_option maxRecDepth 20000
set_option maxHeartbeats 4000000 in
theorem kparts_same (ao bo : Option Addr) (ca cb : Nat) (l : List Pt) (w : World) (hA : PaL w ao l) (hB : PaL w bo l) (hlen : l.length ≤ maxLen) :
    Calls Try.prog 16 #[.slice ao l.length ca, .slice bo l.length cb] w fun e w' => e = .returned (.bool true) ∧ Below w.heap.size w w' := by
  have HA := Lib.hid hA
  have HB := Lib.hid hB
  unfold maxLen at hlen
  have hlI : (l.length : Int) ≤ 9223372036854775807 := by omega
  clear hA hB
  go_enter Try.func16, Try.ntmps16
  go_wp2_with fail
  go_loopw [5] (fun i wr => ∃ k : Nat, i = .int .i64 k ∧ k ≤ l.length ∧ Hid (Below w.heap.size w wr)) (fun i _ => l.length - (intOf i).toNat)
  case atStart => exact ⟨0, rfl, Nat.zero_le _, Lib.hid (Below.refl _ _)⟩
  case round =>
    obtain ⟨k, rfl, hk, HW⟩ := hrel
    by_cases hlt : k < l.length
    · have k0 : (k : Int) < (l.length : Int) := by omega
      obtain ⟨ab, ax, rfl, a0, a1, a2, a3⟩ := (HA.out.below HW.out).at k hlt
      obtain ⟨bb, bx, rfl, b0, b1, b2, b3⟩ := (HB.out.below HW.out).at k hlt
      obtain ⟨x, hx⟩ : ∃ x, Hid (l[k] = x) := ⟨_, Lib.hid rfl⟩
      rw [hx.out] at a0 a1 a2 a3 b0 b1 b2 b3
      have HS := Lib.hid (fun W (hb : Below wr.heap.size wr W) => show (W.cell? ⟨ab, ax + k * 4, none⟩ = some (.int .i64 x.off) ∧ W.cell? ⟨ab, ax + k * 4 + 1, none⟩ = some (.int .i64 x.len) ∧ W.cell? ⟨ab, ax + k * 4 + 2, none⟩ = some (.int .i64 x.addr) ∧ W.cell? ⟨ab, ax + k * 4 + 3, none⟩ = some (.int .i64 x.src)) ∧ W.cell? ⟨bb, bx + k * 4, none⟩ = some (.int .i64 x.off) ∧ W.cell? ⟨bb, bx + k * 4 + 1, none⟩ = some (.int .i64 x.len) ∧ W.cell? ⟨bb, bx + k * 4 + 2, none⟩ = some (.int .i64 x.addr) ∧ W.cell? ⟨bb, bx + k * 4 + 3, none⟩ = some (.int .i64 x.src) from
        ⟨⟨cellB hb (block_lt_of_cell a0) a0, cellB hb (block_lt_of_cell a1) a1, cellB hb (block_lt_of_cell a2) a2, cellB hb (block_lt_of_cell a3) a3⟩, cellB hb (block_lt_of_cell b0) b0, cellB hb (block_lt_of_cell b1) b1, cellB hb (block_lt_of_cell b2) b2, cellB hb (block_lt_of_cell b3) b3⟩)
      have la := block_lt_of_cell a0
      have lb := block_lt_of_cell b0
      go_wp2_with fail
      have S0 := Lib.hid (HS.out _ (Below.refl _ _).drew)
      have S1 := Lib.hid (HS.out _ ((Below.refl wr.heap.size wr).alloc (Nat.le_refl _) (.cells #[.int .i64 0, .int .i64 0, .int .i64 0, .int .i64 0] 31)).drew)
      have S2 := Lib.hid (HS.out _ ((Below.refl wr.heap.size wr).alloc (Nat.le_refl _) (.cells #[.int .i64 x.off, .int .i64 x.len, .int .i64 x.addr, .int .i64 x.src] 31)).drew)
      have S3 := Lib.hid (fun c d => HS.out _ (((Below.refl wr.heap.size wr).alloc (Nat.le_refl _) (.cells c 31)).alloc (by simp) (.cells d 31)).drew)
      go_region_held3 (fun W => (W.cell? ⟨ab, ax + k * 4, none⟩ = some (.int .i64 x.off) ∧ W.cell? ⟨ab, ax + k * 4 + 1, none⟩ = some (.int .i64 x.len) ∧ W.cell? ⟨ab, ax + k * 4 + 2, none⟩ = some (.int .i64 x.addr) ∧ W.cell? ⟨ab, ax + k * 4 + 3, none⟩ = some (.int .i64 x.src)) ∧ W.cell? ⟨bb, bx + k * 4, none⟩ = some (.int .i64 x.off) ∧ W.cell? ⟨bb, bx + k * 4 + 1, none⟩ = some (.int .i64 x.len) ∧ W.cell? ⟨bb, bx + k * 4 + 2, none⟩ = some (.int .i64 x.addr) ∧ W.cell? ⟨bb, bx + k * 4 + 3, none⟩ = some (.int .i64 x.src))
        (first | exact S0.out | exact S1.out | exact S2.out | exact S3.out _ _)
        (fail)
      all_goals
        have HBX := Lib.hid (fun c d => ((HW.out.alloc HW.out.size (.cells c 31)).alloc (by have := HW.out.size; simp; omega) (.cells d 31)).drew)
        go_wp2_with fail
        go_roundw
        case rel => exact ⟨k + 1, by go_num, by omega, Lib.hid (HBX.out _ _)⟩
        case measure => simp [intOf]; omega
    · obtain rfl : k = l.length := by omega
      go_wp2_with fail
      go_ret
      exact ⟨rfl, HW.out⟩
end Go.Proofs.Ytjdhbpgipoifkaa
