/- What the statements' own small function Op returns at two records that part in one of the fields client, seq, kind, path, dest. No conditions. -/
import Derived.Test.YthileemkiplodaaJOpB
set_option linter.unusedVariables false
namespace Go.Proofs.Ythileemkiplodaa
open Go.RowKit
set_option maxRecDepth 20000

set_option maxRecDepth 100000 in
set_option maxHeartbeats 4000000 in
theorem op_part0 (a b : Rec) (ao bo : Option Addr) (ca cb : Nat) (w : World) (d0 : (a.client != b.client) = true) :
    Calls Try.prog 15 #[.agg (recA a (.slice ao a.moves.length ca)), .agg (recA b (.slice bo b.moves.length cb))] w fun e w' => e = .returned (.bool false) ∧ Below w.heap.size w w' := by
  have HB := Lib.hid (fun (x y : Obj) => show Below w.heap.size w ((w.alloc x).alloc y) from ((Below.refl _ _).alloc (Nat.le_refl _) _).alloc (by simp) _)
  unfold recA
  go_enter Try.func15, Try.ntmps15
  go_wp2
  go_ret
  exact ⟨rfl, HB.out _ _⟩
set_option maxRecDepth 100000 in
set_option maxHeartbeats 4000000 in
theorem op_part1 (a b : Rec) (ao bo : Option Addr) (ca cb : Nat) (w : World) (d0 : (a.client != b.client) = false) (d1 : (a.seq != b.seq) = true) :
    Calls Try.prog 15 #[.agg (recA a (.slice ao a.moves.length ca)), .agg (recA b (.slice bo b.moves.length cb))] w fun e w' => e = .returned (.bool false) ∧ Below w.heap.size w w' := by
  have HB := Lib.hid (fun (x y : Obj) => show Below w.heap.size w ((w.alloc x).alloc y) from ((Below.refl _ _).alloc (Nat.le_refl _) _).alloc (by simp) _)
  unfold recA
  go_enter Try.func15, Try.ntmps15
  go_wp2
  go_ret
  exact ⟨rfl, HB.out _ _⟩
set_option maxRecDepth 100000 in
set_option maxHeartbeats 4000000 in
theorem op_part2 (a b : Rec) (ao bo : Option Addr) (ca cb : Nat) (w : World) (d0 : (a.client != b.client) = false) (d1 : (a.seq != b.seq) = false) (d2 : (a.kind != b.kind) = true) :
    Calls Try.prog 15 #[.agg (recA a (.slice ao a.moves.length ca)), .agg (recA b (.slice bo b.moves.length cb))] w fun e w' => e = .returned (.bool false) ∧ Below w.heap.size w w' := by
  have HB := Lib.hid (fun (x y : Obj) => show Below w.heap.size w ((w.alloc x).alloc y) from ((Below.refl _ _).alloc (Nat.le_refl _) _).alloc (by simp) _)
  unfold recA
  go_enter Try.func15, Try.ntmps15
  go_wp2
  go_ret
  exact ⟨rfl, HB.out _ _⟩
set_option maxRecDepth 100000 in
set_option maxHeartbeats 4000000 in
theorem op_part3 (a b : Rec) (ao bo : Option Addr) (ca cb : Nat) (w : World) (d0 : (a.client != b.client) = false) (d1 : (a.seq != b.seq) = false) (d2 : (a.kind != b.kind) = false) (d3 : (a.path.toList == b.path.toList) = false) :
    Calls Try.prog 15 #[.agg (recA a (.slice ao a.moves.length ca)), .agg (recA b (.slice bo b.moves.length cb))] w fun e w' => e = .returned (.bool false) ∧ Below w.heap.size w w' := by
  have HB := Lib.hid (fun (x y : Obj) => show Below w.heap.size w ((w.alloc x).alloc y) from ((Below.refl _ _).alloc (Nat.le_refl _) _).alloc (by simp) _)
  unfold recA
  go_enter Try.func15, Try.ntmps15
  go_wp2
  go_ret
  exact ⟨rfl, HB.out _ _⟩
set_option maxRecDepth 100000 in
set_option maxHeartbeats 4000000 in
theorem op_part4 (a b : Rec) (ao bo : Option Addr) (ca cb : Nat) (w : World) (d0 : (a.client != b.client) = false) (d1 : (a.seq != b.seq) = false) (d2 : (a.kind != b.kind) = false) (d3 : (a.path.toList == b.path.toList) = true) (d4 : (a.dest.toList == b.dest.toList) = false) :
    Calls Try.prog 15 #[.agg (recA a (.slice ao a.moves.length ca)), .agg (recA b (.slice bo b.moves.length cb))] w fun e w' => e = .returned (.bool false) ∧ Below w.heap.size w w' := by
  have HB := Lib.hid (fun (x y : Obj) => show Below w.heap.size w ((w.alloc x).alloc y) from ((Below.refl _ _).alloc (Nat.le_refl _) _).alloc (by simp) _)
  unfold recA
  go_enter Try.func15, Try.ntmps15
  go_wp2
  go_ret
  exact ⟨rfl, HB.out _ _⟩
end Go.Proofs.Ythileemkiplodaa
