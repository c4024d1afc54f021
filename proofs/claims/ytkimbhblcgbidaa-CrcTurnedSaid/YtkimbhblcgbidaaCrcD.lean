/- What crc's zeroByte and Join return. Conditions: the sums are numbers of 32 bits. -/
import Derived.Test.YtkimbhblcgbidaaCrcC
namespace Go.Proofs.Ytkimbhblcgbidaa
open Go.RowKit

theorem fillA_congr {f g : Nat → Nat} (h : ∀ i, i < 32 → f i = g i) : fillA f 32 = fillA g 32 := by
  apply Array.ext_getElem?
  intro i
  by_cases hi : i < 32
  · rw [fillA_get f 32 i hi, fillA_get g 32 i hi, h i hi]
  · rw [Array.getElem?_eq_none (by rw [fillA_size]; omega), Array.getElem?_eq_none (by rw [fillA_size]; omega)]
/-- what n bits 0 make of bit i -/
def zN (n i : Nat) : Nat := csteps n (2 ^ i)
theorem pow_lt32 (i : Nat) (h : i < 32) : 2 ^ i < 4294967296 := Nat.pow_lt_pow_right (by decide) h
theorem zN_lt (n i : Nat) (h : i < 32) : zN n i < 4294967296 := csteps_lt n (pow_lt32 i h)
theorem ofN_zN (n r : Nat) (h : r < 4294967296) : ofN (zN n) r 32 = csteps n r := by
  have := ofN_steps n r 32
  rw [show r % 2 ^ 32 = r from Nat.mod_eq_of_lt h] at this
  exact this
theorem zN_twice (n i : Nat) (h : i < 32) : ofN (zN n) (zN n i) 32 = zN (n * 2) i := by
  rw [ofN_zN n _ (zN_lt n i h), Nat.mul_two]
  unfold zN
  rw [csteps_add]
/-- block g, which w did not have, holds what n bits 0 make of each bit, and all else of w is as it was -/
def ZW (w wr : World) (g n : Nat) : Prop := w.heap.size ≤ g ∧ g < wr.heap.size ∧ wr.heap[g]? = some (.cells (fillA (zN n) 32) 35 (0, 0)) ∧ Below w.heap.size w wr
theorem ZW.cell {w wr : World} {g n : Nat} (h : ZW w wr g n) (i : Nat) (hi : i < 32) : wr.cell? ⟨g, i, none⟩ = some (.int .u32 (zN n i : Nat)) := by
  rw [cell_of_row _ _ i _ _ _ h.2.2.1, fillA_get _ _ _ hi, if_pos hi]
theorem ZW.drewN {w wr : World} {g n : Nat} (h : ZW w wr g n) (q : Nat) : ZW w (wr.drewN q) g n := ⟨h.1, h.2.1, h.2.2.1, below_drewN h.2.2.2 q⟩
theorem ZW.heap1 {w wr w1 : World} {g n : Nat} (h : ZW w wr g n) (hb : Below wr.heap.size wr w1) : w1.heap[g]? = some (.cells (fillA (zN n) 32) 35 (0, 0)) := by
  rw [hb.block g h.2.1]
  exact h.2.2.1
theorem ZW.twice {w wr w1 : World} {g n : Nat} (h : ZW w wr g n) (hb : Below wr.heap.size wr w1) : ZW w (w1.setRow g (fillA (fun i => ofN (zN n) (zN n i) 32) 32)) g (n * 2) := by
  refine ⟨h.1, ?_, ?_, ?_⟩
  · rw [size_setRow]
    exact Nat.lt_of_lt_of_le h.2.1 hb.size
  · rw [setRow_heap _ _ _ _ _ _ (h.heap1 hb), fillA_congr (zN_twice n)]
  · exact below_setRow (h.2.2.2.trans (hb.mono (Nat.le_trans h.1 (Nat.le_of_lt h.2.1)))) h.1 _
theorem shl1_val (k : Nat) (h : k < 32) : ((2 : Int) ^ k) % 4294967296 = ((2 ^ k : Nat) : Int) := by
  have := pow_lt32 k h
  rw [show (2 : Int) ^ k = ((2 ^ k : Nat) : Int) by simp]
  generalize 2 ^ k = p at *
  omega

set_option maxHeartbeats 1000000 in
theorem zeroByte_any (w : World) :
    Calls Try.prog 12 #[] w fun e w' => e = .returned (.agg (fillA (zN 8) 32)) ∧ Below w.heap.size w w' := by
  have hsg : IntKind.u32.signed = false := rfl
  have HG := Lib.hid (show ∀ i, zN 1 i = cstep (2 ^ i) from fun i => rfl)
  go_enter Try.func12, Try.ntmps12
  go_wp2
  go_loopw [4] (fun i wr => ∃ k : Nat, k ≤ 32 ∧ i = .int .i64 k ∧ wr = twW w (zN 1) k 0) (fun i _ => 32 - (intOf i).toNat)
  case atStart => exact ⟨0, Nat.zero_le _, rfl, rfl⟩
  case round =>
    obtain ⟨k, hk, rfl, rfl⟩ := hrel
    by_cases hlt : k < 32
    · have hz : (twW w (zN 1) k 0).cell? ⟨w.heap.size + 1, k, none⟩ = some (.int .u32 0) := by
        rw [cell_of_row _ _ k _ _ _ (twW_heap1 w (zN 1) k 0), fillA_get _ k k hlt, if_neg (Nat.lt_irrefl k)]
        rfl
      have hfz := twW_frozen w (zN 1) k 0 k
      have HS := Lib.hid (twW_set w (zN 1) k 0 hlt)
      have H1 := Lib.hid (shl1_val k hlt)
      go_wp2_with (go_at_call 11; rw [H1.out]; refine (shifted_any _ (pow_lt32 k hlt) _).mono ?_; rintro e w' ⟨rfl, rfl⟩)
      rw [← HG.out k, HS.out]
      go_roundw
      case rel => exact ⟨k + 1, by omega, by go_num, rfl⟩
      case measure => simp [intOf]; omega
    · have hk32 : k = 32 := by omega
      have hZ0 : ZW w (twW w (zN 1) k 0) (w.heap.size + 1) 1 := ⟨Nat.le_succ _, by rw [twW_size]; omega, by rw [hk32]; exact twW_heap1 w (zN 1) 32 0, twW_below w (zN 1) k 0⟩
      have hR0 := twW_heap0 w (zN 1) k 0
      clear hk32
      have HZ0 := Lib.hid (And.intro hZ0 hR0)
      clear hZ0 hR0
      go_wp2
      go_loopw [3] (fun i wr => ∃ n : Nat, (n = 1 ∨ n = 2 ∨ n = 4 ∨ n = 8) ∧ i = .int .i64 n ∧ ZW w wr (w.heap.size + 1) n ∧ wr.heap[w.heap.size]? = some (.cells (fillA (zN 1) 0) 35 (0, 0))) (fun i _ => 8 - (intOf i).toNat)
      case atStart => exact ⟨1, Or.inl rfl, rfl, HZ0.out⟩
      case round =>
        obtain ⟨n, hn, rfl, hZ, hR⟩ := hrel
        have HZ := Lib.hid hZ
        have HR := Lib.hid hR
        have HN := Lib.hid hn
        have hn1 : 1 ≤ n := by omega
        clear hZ hR hn
        by_cases hlt : n < 8
        · have hn4 : n ≤ 4 := by have := HN.out; omega
          go_wp2_with (first | (go_at_call 14; refine (twice_any (w.heap.size + 1) (zN n) _ HZ.out.2.1 (fun i hi => zN_lt n i hi) (fun i hi => HZ.out.cell i hi)).mono ?_; rintro e w1 ⟨rfl, hb1⟩; have HH := Lib.hid (HZ.out.heap1 hb1); have HZ1 := Lib.hid (HZ.out.twice hb1); have HR1 := Lib.hid hb1; clear hb1) | (refine wpList_store_row (o := ⟨none, _, _, _, _, _⟩) ?d1 35 (.tmp 1) (.tmp 17) ?d2 (w.heap.size + 1) (fillA (fun i => ofN (zN n) (zN n i) 32) 32) ?d3 ?d4 35 _ HH.out (fillA_info _ 32) (by rw [fillA_size, fillA_size]) (fillA_one _ 32) ?d5; (case d1 => rfl); (case d2 => rfl); (case d3 => rfl); (case d4 => rfl)))
          go_roundw
          case rel => exact ⟨n * 2, by have := HN.out; omega, by go_num, HZ1.out, by rw [setRow_other _ _ _ _ (by omega), HR1.out.block _ (by have := HZ.out.2.1; omega)]; exact HR.out⟩
          case measure => simp [intOf]; omega
        · obtain rfl : n = 8 := by have := HN.out; omega
          go_wp2_with (first | (refine wpList_load_row (o := ⟨some 18, _, _, _, _, _⟩) ?c1 35 (.tmp 1) ?c2 (w.heap.size + 1) ?c3 35 _ (0, 0) _ HZ.out.2.2.1 Try.underlying35 rfl (fillA_info _ 32) ?c4; (case c1 => rfl); (case c2 => rfl); (case c3 => rfl)) | (refine wpList_store_row (o := ⟨none, _, _, _, _, _⟩) ?e1 35 (.tmp 0) (.tmp 18) ?e2 w.heap.size (fillA (zN 8) 32) ?e3 ?e4 35 _ HR.out (fillA_info _ 32) (by rw [fillA_size, fillA_size]) (fillA_one _ 32) ?e5; (case e1 => rfl); (case e2 => rfl); (case e3 => rfl); (case e4 => rfl)))
          refine bodyPost_ret_by (results_cell_row (by rfl) _ _ w.heap.size 35 (fillA (zN 8) 32) (0, 0) _ rfl (setRow_heap _ _ _ _ _ _ HR.out) Try.underlying35 rfl (fillA_info _ 32)) rfl ⟨rfl, below_setRow HZ.out.2.2.2 (Nat.le_refl _) _⟩

theorem and1_i64 (n : Int) : bits .and .i64 n 1 = n % 2 := by
  have h1 : (BitVec.ofInt 64 1).toNat = 2 ^ 1 - 1 := by decide
  have key : (BitVec.ofInt 64 n &&& BitVec.ofInt 64 1).toNat = (n % ((2 ^ 64 : Nat) : Int)).toNat % 2 ^ 1 := by
    rw [BitVec.toNat_and, BitVec.toNat_ofInt, h1, Nat.and_two_pow_sub_one_eq_mod]
  show IntKind.i64.wrap ((BitVec.ofInt 64 n &&& BitVec.ofInt 64 1).toNat : Nat) = n % 2
  rw [key, IntKind.wrap_i64]
  omega
theorem join_odd (m h a : Nat) : csteps (m * (2 * h + 1)) a = csteps (m * 2 * h) (csteps m a) := by
  rw [← csteps_add]
  congr 1
  rw [Nat.mul_add, Nat.mul_one, Nat.mul_assoc, Nat.add_comm]
theorem join_even (m h a : Nat) : csteps (m * (2 * h)) a = csteps (m * 2 * h) a := by rw [Nat.mul_assoc]
theorem ZW.start {w w1 : World} {c : Array Value} (hb : Below w.heap.size w w1) : ZW w ((w1.alloc (.cells c 35)).setRow w1.heap.size (fillA (zN 8) 32)) w1.heap.size 8 :=
  ⟨hb.size, by rw [size_setRow]; simp, setRow_heap _ _ _ _ _ _ (heap_alloc_last w1 _), below_setRow (hb.alloc hb.size _) hb.size _⟩

set_option maxHeartbeats 1000000 in
theorem join_any (a b n : Nat) (ha : a < 4294967296) (hb : b < 4294967296) (hn : n ≤ 1073741824) (w : World) :
    Calls Try.prog 10 #[.int .u32 a, .int .u32 b, .int .i64 n] w fun e w' => e = .returned (.int .u32 (cjoin a b n : Nat)) ∧ Below w.heap.size w w' := by
  have hn' : (n : Int) ≤ 1073741824 := by omega
  have ha' : (a : Int) ≤ 4294967295 := by omega
  have hb' : (b : Int) ≤ 4294967295 := by omega
  have HS := @ZW.start w
  go_enter Try.func10, Try.ntmps10
  go_wp2_with (first | (go_at_call 12; refine (zeroByte_any _).mono ?_; rintro e w1 ⟨rfl, hb1⟩; have HB1 := Lib.hid hb1; clear hb1) | (refine wpList_store_row (o := ⟨none, _, _, _, _, _⟩) ?d1 35 (.tmp 7) (.tmp 14) ?d2 w1.heap.size (fillA (zN 8) 32) ?d3 ?d4 35 _ (heap_alloc_last w1 _) (fillA_info _ 32) (by rw [fillA_size]; rfl) (fillA_one _ 32) ?d5; (case d1 => rfl); (case d2 => rfl); (case d3 => rfl); (case d4 => rfl)))
  go_frame
  go_loopw [0, 2] (fun x i wr => ∃ a' n' m : Nat, a' < 4294967296 ∧ n' ≤ 1073741824 ∧ x = .int .u32 a' ∧ i = .int .i64 n' ∧ csteps (m * n') a' = csteps (8 * n) a ∧ ZW w wr w1.heap.size m) (fun _ i _ => (intOf i).toNat)
  case atStart => exact ⟨a, n, 8, ha, hn, rfl, rfl, rfl, HS HB1.out⟩
  case round =>
    obtain ⟨a', n', m, ha1, hn1, rfl, rfl, he, hZ⟩ := hrel
    have HZ := Lib.hid hZ
    have HE := Lib.hid he
    clear hZ he
    have hn2 : (n' : Int) ≤ 1073741824 := by omega
    have H1 := Lib.hid (and1_i64 n')
    by_cases hpos : 0 < n'
    · by_cases hodd : n' % 2 = 1
      · have hb1 : (bits .and .i64 (n' : Int) 1 == 1) = true := by rw [H1.out]; simp; omega
        have HE1 := Lib.hid (show csteps (m * 2 * (n' / 2)) (csteps m a') = csteps (8 * n) a by rw [← join_odd, show 2 * (n' / 2) + 1 = n' by omega]; exact HE.out)
        clear hodd
        go_wp2_with (first | (go_at_call 13; refine (of_any w1.heap.size (zN m) a' _ ha1 (fun i hi => zN_lt m i hi) (fun i hi => HZ.out.cell i hi)).mono ?_; rintro e w' ⟨rfl, q, rfl⟩; rw [ofN_zN m a' ha1]; have HQ := Lib.hid (HZ.out.drewN q)) | (go_at_call 14; refine (twice_any w1.heap.size (zN m) _ HQ.out.2.1 (fun i hi => zN_lt m i hi) (fun i hi => HQ.out.cell i hi)).mono ?_; rintro e w2 ⟨rfl, hb2⟩; have HH := Lib.hid (HQ.out.heap1 hb2); have HZ1 := Lib.hid (HQ.out.twice hb2); clear hb2) | (refine wpList_store_row (o := ⟨none, _, _, _, _, _⟩) ?f1 35 (.tmp 7) (.tmp 24) ?f2 w1.heap.size (fillA (fun i => ofN (zN m) (zN m i) 32) 32) ?f3 ?f4 35 _ HH.out (fillA_info _ 32) (by rw [fillA_size, fillA_size]) (fillA_one _ 32) ?f5; (case f1 => rfl); (case f2 => rfl); (case f3 => rfl); (case f4 => rfl)))
        go_roundw
        case rel => exact ⟨csteps m a', n' / 2, m * 2, csteps_lt m ha1, by omega, rfl, by go_num, HE1.out, HZ1.out⟩
        case measure => simp [intOf]; omega
      · have hb1 : (bits .and .i64 (n' : Int) 1 == 1) = false := by rw [H1.out]; simp; omega
        have HE1 := Lib.hid (show csteps (m * 2 * (n' / 2)) a' = csteps (8 * n) a by rw [← join_even, show 2 * (n' / 2) = n' by omega]; exact HE.out)
        have HQ := HZ
        clear hodd
        go_wp2_with (first | (go_at_call 14; refine (twice_any w1.heap.size (zN m) _ HQ.out.2.1 (fun i hi => zN_lt m i hi) (fun i hi => HQ.out.cell i hi)).mono ?_; rintro e w2 ⟨rfl, hb2⟩; have HH := Lib.hid (HQ.out.heap1 hb2); have HZ1 := Lib.hid (HQ.out.twice hb2); clear hb2) | (refine wpList_store_row (o := ⟨none, _, _, _, _, _⟩) ?g1 35 (.tmp 7) (.tmp 24) ?g2 w1.heap.size (fillA (fun i => ofN (zN m) (zN m i) 32) 32) ?g3 ?g4 35 _ HH.out (fillA_info _ 32) (by rw [fillA_size, fillA_size]) (fillA_one _ 32) ?g5; (case g1 => rfl); (case g2 => rfl); (case g3 => rfl); (case g4 => rfl)))
        go_roundw
        case rel => exact ⟨a', n' / 2, m * 2, ha1, by omega, rfl, by go_num, HE1.out, HZ1.out⟩
        case measure => simp [intOf]; omega
    · have HE1 := Lib.hid (show bits .xor .u32 (a' : Int) (b : Int) = ((cjoin a b n : Nat) : Int) by
        rw [u32_xor_nat a' b ha1 hb]
        unfold cjoin
        rw [← HE.out, show n' = 0 by omega, Nat.mul_zero]
        rfl)
      go_wp2
      go_ret
      exact ⟨ret_int HE1.out, HZ.out.2.2.2⟩
end Go.Proofs.Ytkimbhblcgbidaa
