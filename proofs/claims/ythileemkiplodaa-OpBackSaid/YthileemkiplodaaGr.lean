/- What slices.Equal tells of two lists of moves. Conditions: the moves lie where the call was told; at most 1000000 of them. What Same tells of two records (written by gen/gensame.py). Conditions: the moves lie where the call was told; at most 1000000 of them. -/
import Derived.Test.YthileemkiplodaaJOpC5
import Derived.Laws.StructEq
set_option linter.unusedVariables false
namespace Go.Proofs.Ythileemkiplodaa
open Go.RowKit
set_option maxRecDepth 20000

theorem mvs_no {A B : List Mv} (h : A ≠ B) : mvs A B = false := Bool.eq_false_iff.2 (fun e => h (mvs_iff.1 e))
set_option maxHeartbeats 4000000 in
theorem equal_any (A B : List Mv) (ao bo : Option Addr) (ca cb : Nat) (w : World) (la : A.length ≤ 1000000) (lb : B.length ≤ 1000000) (hA : VL w ao A) (hB : VL w bo B) :
    Calls Try.prog 39 #[.slice ao A.length ca, .slice bo B.length cb] w fun e w' => e = .returned (.bool (mvs A B)) ∧ Below w.heap.size w w' := by
  have la' : (A.length : Int) ≤ 1000000 := by omega
  have lb' : (B.length : Int) ≤ 1000000 := by omega
  by_cases hl : A.length = B.length
  rotate_left
  · rw [mvs_no (fun e => hl (by rw [e]))]
    have dl : ((A.length : Int) != (B.length : Int)) = true := bne_iff_ne.2 (by omega)
    clear hA hB hl la lb
    go_enter Try.func39, Try.ntmps39
    go_wp2
    go_ret
    exact ⟨rfl, Below.refl _ _⟩
  have HA := Lib.hid hA
  have HBV := Lib.hid hB
  have HL := Lib.hid hl
  have HY := Lib.hid (show A.take A.length = B.take A.length → mvs A B = true from fun e => by
    rw [List.take_of_length_le (Nat.le_refl _), List.take_of_length_le (by omega)] at e
    exact mvs_iff.2 e)
  have HN := Lib.hid (show A ≠ B → mvs A B = false from mvs_no)
  have dl : ((A.length : Int) != (B.length : Int)) = false := bne_eq_false_iff_eq.2 (by omega)
  generalize mvs A B = R at *
  clear hl hA hB
  go_enter Try.func39, Try.ntmps39
  go_wp2
  clear dl
  go_loopw [13] (fun i wr => ∃ k : Nat, i = .int .i64 k ∧ k ≤ A.length ∧ Hid (A.take k = B.take k) ∧ Hid (Below w.heap.size w wr)) (fun i _ => A.length - (intOf i).toNat)
  case atStart => exact ⟨0, rfl, Nat.zero_le _, Lib.hid (by simp), Lib.hid (Below.refl _ _)⟩
  case round =>
    obtain ⟨k, rfl, hk, HT, HW⟩ := hrel
    by_cases hlt : k < A.length
    · have hlb : k < B.length := by have := HL.out; omega
      obtain ⟨bk, off, rfl, x0, x1, x2, x3⟩ := HA.out.below HW.out k hlt
      obtain ⟨bk2, off2, rfl, y0, y1, y2, y3⟩ := HBV.out.below HW.out k hlb
      have k1 : (k : Int) < (B.length : Int) := by omega
      have z3 := block_lt_of_cell x0
      have z4 := block_lt_of_cell y0
      simp only at z3 z4
      by_cases e_addr : A[k].addr = B[k].addr
      rotate_left
      · have hne : A[k] ≠ B[k] := fun e => e_addr (by rw [e])
        have HX := Lib.hid (HN.out (mv_parts hlt hlb hne))
        clear hne
        go_wp2
        go_quiet (fail)
        go_wp2
        go_ret
        rw [HX.out]
        exact ⟨rfl, below_drewN HW.out _⟩
      by_cases e_src : A[k].src = B[k].src
      rotate_left
      · have hne : A[k] ≠ B[k] := fun e => e_src (by rw [e])
        have HX := Lib.hid (HN.out (mv_parts hlt hlb hne))
        clear hne
        go_wp2
        go_quiet (fail)
        go_wp2
        go_ret
        rw [HX.out]
        exact ⟨rfl, below_drewN HW.out _⟩
      by_cases e_len : A[k].len = B[k].len
      rotate_left
      · have hne : A[k] ≠ B[k] := fun e => e_len (by rw [e])
        have HX := Lib.hid (HN.out (mv_parts hlt hlb hne))
        clear hne
        go_wp2
        go_quiet (fail)
        go_wp2
        go_ret
        rw [HX.out]
        exact ⟨rfl, below_drewN HW.out _⟩
      by_cases e_dst : A[k].dst = B[k].dst
      rotate_left
      · have hne : A[k] ≠ B[k] := fun e => e_dst (by rw [e])
        have HX := Lib.hid (HN.out (mv_parts hlt hlb hne))
        clear hne
        go_wp2
        go_quiet (fail)
        go_wp2
        go_ret
        rw [HX.out]
        exact ⟨rfl, below_drewN HW.out _⟩
      have HT2 := Lib.hid (mv_take hlt hlb HT.out (Mv.ext' e_addr e_src e_len e_dst))
      go_wp2
      go_quiet (fail)
      go_wp2
      go_roundw
      case rel => exact ⟨k + 1, by go_num, by omega, HT2, Lib.hid (below_drewN HW.out _)⟩
      case measure => simp [intOf]; omega
    · obtain rfl : k = A.length := by omega
      have HX := Lib.hid (HY.out HT.out)
      go_wp2
      go_ret
      rw [HX.out]
      exact ⟨rfl, HW.out⟩
end Go.Proofs.Ythileemkiplodaa
namespace Go.Proofs.Ythileemkiplodaa
open Go.RowKit

set_option maxRecDepth 100000 in
set_option maxHeartbeats 4000000 in
theorem same_part8 (a b : Rec) (ao bo : Option Addr) (ca cb : Nat) (w : World) (d0 : (a.client == b.client) = true) (d1 : (a.seq == b.seq) = true) (d2 : (a.kind == b.kind) = true) (d3 : (a.path.toList == b.path.toList) = true) (d4 : (a.dest.toList == b.dest.toList) = true) (d5 : (a.size == b.size) = true) (d6 : (a.handle == b.handle) = true) (d7 : (a.off == b.off) = true) (d8 : (a.data.toList == b.data.toList) = false) :
    Calls Try.prog 18 #[.agg (recA a (.slice ao a.moves.length ca)), .agg (recA b (.slice bo b.moves.length cb))] w fun e w' => e = .returned (.bool false) ∧ Below w.heap.size w w' := by
  have HB := Lib.hid (fun (x y : Obj) => show Below w.heap.size w ((w.alloc x).alloc y) from ((Below.refl _ _).alloc (Nat.le_refl _) _).alloc (by simp) _)
  unfold recA
  go_enter Try.func18, Try.ntmps18
  go_wp2
  go_ret
  exact ⟨rfl, HB.out _ _⟩
set_option maxRecDepth 100000 in
set_option maxHeartbeats 4000000 in
theorem same_part9 (a b : Rec) (ao bo : Option Addr) (ca cb : Nat) (w : World) (d0 : (a.client == b.client) = true) (d1 : (a.seq == b.seq) = true) (d2 : (a.kind == b.kind) = true) (d3 : (a.path.toList == b.path.toList) = true) (d4 : (a.dest.toList == b.dest.toList) = true) (d5 : (a.size == b.size) = true) (d6 : (a.handle == b.handle) = true) (d7 : (a.off == b.off) = true) (d8 : (a.data.toList == b.data.toList) = true) (d9 : (a.tick == b.tick) = false) :
    Calls Try.prog 18 #[.agg (recA a (.slice ao a.moves.length ca)), .agg (recA b (.slice bo b.moves.length cb))] w fun e w' => e = .returned (.bool false) ∧ Below w.heap.size w w' := by
  have HB := Lib.hid (fun (x y : Obj) => show Below w.heap.size w ((w.alloc x).alloc y) from ((Below.refl _ _).alloc (Nat.le_refl _) _).alloc (by simp) _)
  unfold recA
  go_enter Try.func18, Try.ntmps18
  go_wp2
  go_ret
  exact ⟨rfl, HB.out _ _⟩
end Go.Proofs.Ythileemkiplodaa
