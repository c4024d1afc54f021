/- What the statements' own small function Op returns at two records whose fields are alike but for their moves. Conditions: the moves lie where the call was told; at most 1000000 of them. -/
import Derived.Test.YthileemkiplodaaJOpB
import Derived.RegionTactic
import Derived.BigRegion
set_option linter.unusedVariables false
namespace Go.Proofs.Ythileemkiplodaa
open Go.RowKit
set_option maxRecDepth 20000

theorem same_no {a b : Rec} (h : a ≠ b) : a.same b = false := Bool.eq_false_iff.2 (fun e => h (Rec.same_iff.1 e))
theorem mv_take {A B : List Mv} {k : Nat} (ha : k < A.length) (hb : k < B.length) (h : A.take k = B.take k) (e : A[k] = B[k]) : A.take (k + 1) = B.take (k + 1) := by
  rw [List.take_succ_eq_append_getElem ha, List.take_succ_eq_append_getElem hb, h, e]
theorem mv_parts {A B : List Mv} {k : Nat} (ha : k < A.length) (hb : k < B.length) (e : A[k] ≠ B[k]) : A ≠ B := by
  intro h
  subst h
  exact e rfl
theorem two_first (w : World) (x y : Obj) : ((w.alloc x).alloc y).heap[w.heap.size]? = some x := below_heap ((Below.refl _ _).alloc (Nat.le_refl _) _) (heap_alloc_new w x)
theorem two_second (w : World) (x y : Obj) : ((w.alloc x).alloc y).heap[w.heap.size + 1]? = some y := by
  have h := heap_alloc_new (w.alloc x) y
  rwa [show (w.alloc x).heap.size = w.heap.size + 1 by simp] at h
set_option maxRecDepth 100000 in
set_option maxHeartbeats 8000000 in
theorem op_moves (a b : Rec) (ao bo : Option Addr) (ca cb : Nat) (w : World) (la : a.moves.length ≤ 1000000) (hA : VL w ao a.moves) (hB : VL w bo b.moves)
    (h0 : a.client = b.client) (h1 : a.seq = b.seq) (h2 : a.kind = b.kind) (h3 : a.path = b.path) (h4 : a.dest = b.dest) (h5 : a.size = b.size) (h6 : a.handle = b.handle) (h7 : a.off = b.off) (h8 : a.data = b.data) (h9 : a.tick = b.tick) (h10 : a.ino = b.ino) (hl : a.moves.length = b.moves.length) :
    Calls Try.prog 15 #[.agg (recA a (.slice ao a.moves.length ca)), .agg (recA b (.slice bo b.moves.length cb))] w fun e w' => e = .returned (.bool (a.same b)) ∧ Below w.heap.size w w' := by
  have HB := Lib.hid (fun (x y : Obj) (w1 : World) (hb : Below (w.heap.size + 2) ((w.alloc x).alloc y) w1) => show Below w.heap.size w w1 ∧ w1.heap[w.heap.size]? = some x ∧ w1.heap[w.heap.size + 1]? = some y from
    ⟨(((Below.refl _ _).alloc (Nat.le_refl _) _).alloc (by simp) _).trans (hb.mono (by omega)), (hb.block _ (by omega)).trans (two_first w x y), (hb.block _ (by omega)).trans (two_second w x y)⟩)
  have HL := Lib.hid hl
  have HA := Lib.hid hA
  have HBV := Lib.hid hB
  have la' : (a.moves.length : Int) ≤ 1000000 := by omega
  have lb' : (b.moves.length : Int) ≤ 1000000 := by omega
  have HY := Lib.hid (show a.moves.take a.moves.length = b.moves.take a.moves.length → a.same b = true from fun e => by
    rw [List.take_of_length_le (Nat.le_refl _), List.take_of_length_le (by omega)] at e
    apply Rec.same_iff.2
    cases a; cases b
    simp_all)
  have HN := Lib.hid (show a.moves ≠ b.moves → a.same b = false from fun e => same_no (fun h => e (by rw [h])))
  have d0 : (a.client != b.client) = false := bne_eq_false_iff_eq.2 h0
  have d1 : (a.seq != b.seq) = false := bne_eq_false_iff_eq.2 h1
  have d2 : (a.kind != b.kind) = false := bne_eq_false_iff_eq.2 h2
  have d3 : (a.path.toList == b.path.toList) = true := by rw [h3, beq_iff_eq]
  have d4 : (a.dest.toList == b.dest.toList) = true := by rw [h4, beq_iff_eq]
  have d5 : (a.size != b.size) = false := bne_eq_false_iff_eq.2 h5
  have d6 : (a.handle != b.handle) = false := bne_eq_false_iff_eq.2 h6
  have d7 : (a.off != b.off) = false := bne_eq_false_iff_eq.2 h7
  have d8 : (a.data.toList == b.data.toList) = true := by rw [h8, beq_iff_eq]
  have d9 : (a.tick != b.tick) = false := bne_eq_false_iff_eq.2 h9
  have d10 : (a.ino != b.ino) = false := bne_eq_false_iff_eq.2 h10
  have dl : ((a.moves.length : Int) != (b.moves.length : Int)) = false := bne_eq_false_iff_eq.2 (by omega)
  generalize a.same b = R at *
  unfold recA
  clear hl hA hB h0 h1 h2 h3 h4 h5 h6 h7 h8 h9 h10
  go_enter Try.func15, Try.ntmps15
  go_wp2
  clear d0 d1 d2 d3 d4 d5 d6 d7 d8 d9 d10 dl
  go_loopw [5] (fun i wr => ∃ k : Nat, i = .int .i64 k ∧ k ≤ a.moves.length ∧ Hid (a.moves.take k = b.moves.take k) ∧ Hid (Below (w.heap.size + 2) ((w.alloc (.cells (recA a (.slice ao a.moves.length ca)) 24)).alloc (.cells (recA b (.slice bo b.moves.length cb)) 24)) wr)) (fun i _ => a.moves.length - (intOf i).toNat)
  case atStart => exact ⟨0, rfl, Nat.zero_le _, Lib.hid (by simp), Lib.hid (Below.refl _ _)⟩
  case round =>
    obtain ⟨k, rfl, hk, HT, HW⟩ := hrel
    obtain ⟨hbw, hx, hy⟩ := HB.out _ _ _ HW.out
    have c11 : wr.cell? ⟨w.heap.size, 11, none⟩ = some (Value.slice ao a.moves.length ca) := cell_of hx 11
    have e11 : wr.cell? ⟨w.heap.size + 1, 11, none⟩ = some (Value.slice bo b.moves.length cb) := cell_of hy 11
    have HBW := Lib.hid hbw
    clear hbw hx hy
    by_cases hlt : k < a.moves.length
    · have hlb : k < b.moves.length := by have := HL.out; omega
      obtain ⟨bk, off, rfl, x0, x1, x2, x3⟩ := HA.out.below HBW.out k hlt
      obtain ⟨bk2, off2, rfl, y0, y1, y2, y3⟩ := HBV.out.below HBW.out k hlb
      have k1 : (k : Int) < (b.moves.length : Int) := by omega
      have z1 := block_lt_of_cell c11
      have z2 := block_lt_of_cell e11
      have z3 := block_lt_of_cell x0
      have z4 := block_lt_of_cell y0
      simp only at z1 z2 z3 z4
      go_wp2
      go_region
      all_goals go_wp2
      all_goals first
        | (have hne : a.moves[k] ≠ b.moves[k] := by
             first
               | exact fun e => (by assumption : ¬ a.moves[k].addr = b.moves[k].addr) (by rw [e])
               | exact fun e => (by assumption : ¬ a.moves[k].src = b.moves[k].src) (by rw [e])
               | exact fun e => (by assumption : ¬ a.moves[k].len = b.moves[k].len) (by rw [e])
               | exact fun e => (bne_iff_ne.1 (by assumption : (a.moves[k].dst != b.moves[k].dst) = true)) (by rw [e])
           have HX := Lib.hid (HN.out (mv_parts hlt hlb hne))
           clear hne
           go_ret
           rw [HX.out]
           exact ⟨rfl, ((HBW.out.alloc HBW.out.size _).alloc (by have := HBW.out.size; simp; omega) _).drew⟩)
        | (have heq : a.moves[k] = b.moves[k] := Mv.ext' (by assumption) (by assumption) (by assumption) (bne_eq_false_iff_eq.1 (by assumption))
           have HT2 := Lib.hid (mv_take hlt hlb HT.out heq)
           have HW2 := Lib.hid (fun (x y : Obj) => ((HW.out.alloc (by omega) x).alloc (by simp; omega) y).drew)
           clear heq
           go_roundw
           case rel => exact ⟨k + 1, by go_num, by omega, HT2, Lib.hid (HW2.out _ _)⟩
           case measure => simp [intOf]; omega)
    · obtain rfl : k = a.moves.length := by omega
      have HX := Lib.hid (HY.out HT.out)
      go_wp2
      go_ret
      rw [HX.out]
      exact ⟨rfl, HBW.out⟩
end Go.Proofs.Ythileemkiplodaa
