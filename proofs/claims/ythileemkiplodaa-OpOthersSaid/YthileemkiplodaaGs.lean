/- What Same tells of two records (written by gen/gensame.py). Conditions: the moves lie where the call was told; at most 1000000 of them. What Same tells of two records (written by gen/gensame.py). Conditions: the moves lie where the call was told; at most 1000000 of them. -/
import Derived.Test.YthileemkiplodaaGr
set_option linter.unusedVariables false
namespace Go.Proofs.Ythileemkiplodaa
open Go.RowKit

set_option maxRecDepth 100000 in
set_option maxHeartbeats 4000000 in
theorem same_part5 (a b : Rec) (ao bo : Option Addr) (ca cb : Nat) (w : World) (d0 : (a.client == b.client) = true) (d1 : (a.seq == b.seq) = true) (d2 : (a.kind == b.kind) = true) (d3 : (a.path.toList == b.path.toList) = true) (d4 : (a.dest.toList == b.dest.toList) = true) (d5 : (a.size == b.size) = false) :
    Calls Try.prog 18 #[.agg (recA a (.slice ao a.moves.length ca)), .agg (recA b (.slice bo b.moves.length cb))] w fun e w' => e = .returned (.bool false) ∧ Below w.heap.size w w' := by
  have HB := Lib.hid (fun (x y : Obj) => show Below w.heap.size w ((w.alloc x).alloc y) from ((Below.refl _ _).alloc (Nat.le_refl _) _).alloc (by simp) _)
  unfold recA
  go_enter Try.func18, Try.ntmps18
  go_wp2
  go_ret
  exact ⟨rfl, HB.out _ _⟩
set_option maxRecDepth 100000 in
set_option maxHeartbeats 4000000 in
theorem same_part6 (a b : Rec) (ao bo : Option Addr) (ca cb : Nat) (w : World) (d0 : (a.client == b.client) = true) (d1 : (a.seq == b.seq) = true) (d2 : (a.kind == b.kind) = true) (d3 : (a.path.toList == b.path.toList) = true) (d4 : (a.dest.toList == b.dest.toList) = true) (d5 : (a.size == b.size) = true) (d6 : (a.handle == b.handle) = false) :
    Calls Try.prog 18 #[.agg (recA a (.slice ao a.moves.length ca)), .agg (recA b (.slice bo b.moves.length cb))] w fun e w' => e = .returned (.bool false) ∧ Below w.heap.size w w' := by
  have HB := Lib.hid (fun (x y : Obj) => show Below w.heap.size w ((w.alloc x).alloc y) from ((Below.refl _ _).alloc (Nat.le_refl _) _).alloc (by simp) _)
  unfold recA
  go_enter Try.func18, Try.ntmps18
  go_wp2
  go_ret
  exact ⟨rfl, HB.out _ _⟩
set_option maxRecDepth 100000 in
set_option maxHeartbeats 4000000 in
theorem same_part7 (a b : Rec) (ao bo : Option Addr) (ca cb : Nat) (w : World) (d0 : (a.client == b.client) = true) (d1 : (a.seq == b.seq) = true) (d2 : (a.kind == b.kind) = true) (d3 : (a.path.toList == b.path.toList) = true) (d4 : (a.dest.toList == b.dest.toList) = true) (d5 : (a.size == b.size) = true) (d6 : (a.handle == b.handle) = true) (d7 : (a.off == b.off) = false) :
    Calls Try.prog 18 #[.agg (recA a (.slice ao a.moves.length ca)), .agg (recA b (.slice bo b.moves.length cb))] w fun e w' => e = .returned (.bool false) ∧ Below w.heap.size w w' := by
  have HB := Lib.hid (fun (x y : Obj) => show Below w.heap.size w ((w.alloc x).alloc y) from ((Below.refl _ _).alloc (Nat.le_refl _) _).alloc (by simp) _)
  unfold recA
  go_enter Try.func18, Try.ntmps18
  go_wp2
  go_ret
  exact ⟨rfl, HB.out _ _⟩
end Go.Proofs.Ythileemkiplodaa
namespace Go.Proofs.Ythileemkiplodaa
open Go.RowKit

set_option maxRecDepth 100000 in
set_option maxHeartbeats 4000000 in
theorem same_part10 (a b : Rec) (ao bo : Option Addr) (ca cb : Nat) (w : World) (d0 : (a.client == b.client) = true) (d1 : (a.seq == b.seq) = true) (d2 : (a.kind == b.kind) = true) (d3 : (a.path.toList == b.path.toList) = true) (d4 : (a.dest.toList == b.dest.toList) = true) (d5 : (a.size == b.size) = true) (d6 : (a.handle == b.handle) = true) (d7 : (a.off == b.off) = true) (d8 : (a.data.toList == b.data.toList) = true) (d9 : (a.tick == b.tick) = true) (d10 : (a.ino == b.ino) = false) :
    Calls Try.prog 18 #[.agg (recA a (.slice ao a.moves.length ca)), .agg (recA b (.slice bo b.moves.length cb))] w fun e w' => e = .returned (.bool false) ∧ Below w.heap.size w w' := by
  have HB := Lib.hid (fun (x y : Obj) => show Below w.heap.size w ((w.alloc x).alloc y) from ((Below.refl _ _).alloc (Nat.le_refl _) _).alloc (by simp) _)
  unfold recA
  go_enter Try.func18, Try.ntmps18
  go_wp2
  go_ret
  exact ⟨rfl, HB.out _ _⟩
set_option maxRecDepth 100000 in
set_option maxHeartbeats 4000000 in
theorem same_part11 (a b : Rec) (ao bo : Option Addr) (ca cb : Nat) (w : World) (la : a.moves.length ≤ 1000000) (lb : b.moves.length ≤ 1000000) (hA : VL w ao a.moves) (hB : VL w bo b.moves) (d0 : (a.client == b.client) = true) (d1 : (a.seq == b.seq) = true) (d2 : (a.kind == b.kind) = true) (d3 : (a.path.toList == b.path.toList) = true) (d4 : (a.dest.toList == b.dest.toList) = true) (d5 : (a.size == b.size) = true) (d6 : (a.handle == b.handle) = true) (d7 : (a.off == b.off) = true) (d8 : (a.data.toList == b.data.toList) = true) (d9 : (a.tick == b.tick) = true) (d10 : (a.ino == b.ino) = true) :
    Calls Try.prog 18 #[.agg (recA a (.slice ao a.moves.length ca)), .agg (recA b (.slice bo b.moves.length cb))] w fun e w' => e = .returned (.bool (mvs a.moves b.moves)) ∧ Below w.heap.size w w' := by
  have HB := Lib.hid (fun (x y : Obj) => show Below w.heap.size w ((w.alloc x).alloc y) from ((Below.refl _ _).alloc (Nat.le_refl _) _).alloc (by simp) _)
  have ce := fun x y => equal_any a.moves b.moves ao bo ca cb ((w.alloc x).alloc y) la lb (hA.below (HB.out x y)) (hB.below (HB.out x y))
  clear la lb hA hB
  generalize mvs a.moves b.moves = R at *
  unfold recA
  go_enter Try.func18, Try.ntmps18
  go_wp2_with (go_at_call 39; refine (ce _ _).mono ?_; rintro e w1 ⟨rfl, hb1⟩)
  go_ret
  exact ⟨rfl, (HB.out _ _).trans (hb1.mono (HB.out _ _).size)⟩
end Go.Proofs.Ythileemkiplodaa
