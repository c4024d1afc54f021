/- What the document's own sum returns, under the same plain names as crc's. Conditions: a text is no longer than a string may be; sums are numbers of 32 bits. -/
import Derived.Test.YtbfalmbmalmfoaaCrcS
namespace Go.Proofs.Ytbfalmbmalmfoaa
open Go.RowKit

theorem rstep_odd (x : Nat) (hx : x < 4294967296) (h : x % 2 = 1) : bits .xor .u32 ((x : Int) / 2) 3988292384 = ((cstep x : Nat) : Int) := by
  rw [show cstep x = (x / 2) ^^^ cpoly by unfold cstep; rw [if_pos h]]
  exact u32_xor_nat (x / 2) cpoly (by omega) (by decide)
set_option maxHeartbeats 400000 in
theorem rstep_any (x : Nat) (hx : x < 4294967296) (w : World) :
    Calls Try.prog 34 #[.int .u32 x] w fun e w' => e = .returned (.int .u32 (cstep x : Nat)) ∧ w = w' := by
  have hb : (x : Int) ≤ 4294967295 := by omega
  by_cases h : x % 2 = 1
  · have HV := Lib.hid (rstep_odd x hx h)
    have h1 : ((x : Int) % 2 == 1) = true := beq_iff_eq.2 (by omega)
    clear h
    go_enter Try.func34, Try.ntmps34
    go_wp2
    go_ret
    exact ⟨ret_int HV.out, rfl⟩
  · have HV := Lib.hid (show cstep x = x / 2 by unfold cstep; rw [if_neg h])
    have h1 : ((x : Int) % 2 == 1) = false := beq_eq_false_iff_ne.2 (by omega)
    clear h
    go_enter Try.func34, Try.ntmps34
    go_wp2
    go_ret
    exact ⟨ret_int (by rw [HV.out]; rfl), rfl⟩

set_option maxHeartbeats 1000000 in
theorem rmore_any (x : Nat) (s : ByteArray) (hx : x < 4294967296) (hs : s.size ≤ maxLen) (w : World) :
    Calls Try.prog 28 #[.int .u32 x, .string s] w fun e w' => e = .returned (.int .u32 (moreR x s : Nat)) ∧ w = w' := by
  unfold moreR
  unfold maxLen at hs
  have hb : (x : Int) ≤ 4294967295 := by omega
  have hf := cflip_lt hx
  have hsg : IntKind.u32.signed = false := rfl
  have HV := Lib.hid (cflip_val x hx)
  go_enter Try.func28, Try.ntmps28
  go_wp2
  go_loop [5, 6] (fun r i => ∃ k : Nat, k ≤ s.size ∧ i = .int .i64 k ∧ r = .int .u32 (cfold (cflip x) (s.data.toList.take k) : Nat)) (fun _ i => s.size - (intOf i).toNat)
  case atStart => exact ⟨0, Nat.zero_le _, rfl, by rw [HV.out]; rfl⟩
  case round =>
    obtain ⟨k, hk, rfl, rfl⟩ := hrel
    have hl := cfold_lt hf (s.data.toList.take k)
    by_cases hlt : k < s.size
    · have H := Lib.hid (show cfold (cflip x) (s.data.toList.take (k + 1)) = csteps 8 (cfold (cflip x) (s.data.toList.take k) ^^^ s[k].toNat) by rw [take_snoc s k hlt, cfold_snoc])
      have HB := Lib.hid (byte_in (cfold (cflip x) (s.data.toList.take k)) s[k] hl)
      have hl2 : cfold (cflip x) (s.data.toList.take k) ^^^ s[k].toNat < 4294967296 := Nat.xor_lt_two_pow (n := 32) hl (by have := s[k].toNat_lt; omega)
      go_wp2
      go_loop [5, 7] (fun r i => ∃ j : Nat, j ≤ 8 ∧ i = .int .i64 j ∧ r = .int .u32 (csteps j (cfold (cflip x) (s.data.toList.take k) ^^^ s[k].toNat) : Nat)) (fun _ i => 8 - (intOf i).toNat)
      case atStart => exact ⟨0, Nat.zero_le _, rfl, by rw [HB.out]; rfl⟩
      case round =>
        obtain ⟨j, hj, rfl, rfl⟩ := hrel
        have hl3 := csteps_lt j hl2
        by_cases hjt : j < 8
        · have HJ := Lib.hid (csteps_succ j (cfold (cflip x) (s.data.toList.take k) ^^^ s[k].toNat))
          go_wp2_with (go_at_call 34; refine (rstep_any _ hl3 _).mono ?_; rintro e w' ⟨rfl, rfl⟩)
          go_round
          case rel => exact ⟨j + 1, by omega, by go_num, by rw [HJ.out]⟩
          case measure => simp [intOf]; omega
        · obtain rfl : j = 8 := by omega
          go_wp2
          go_round
          case rel => exact ⟨k + 1, by omega, by go_num, by rw [H.out]⟩
          case measure => simp [intOf]; omega
    · have HE := Lib.hid (show cfold (cflip x) (s.data.toList.take k) = cfold (cflip x) s.data.toList by rw [List.take_of_length_le (by simp; omega)])
      have HF := Lib.hid (cflip_val _ hl)
      go_wp2
      go_ret
      refine ⟨ret_int ?_, rfl⟩
      rw [HF.out, HE.out]
      rfl
theorem rsum_any (s : ByteArray) (hs : s.size ≤ maxLen) (w : World) :
    Calls Try.prog 20 #[.string s] w fun e w' => e = .returned (.int .u32 (sumR s : Nat)) ∧ w = w' := by
  have HS := Lib.hid hs
  clear hs
  have HM := Lib.hid (show moreR 0 s = sumR s by unfold moreR sumR cmore csum; rfl)
  go_enter Try.func20, Try.ntmps20
  go_wp2_with (go_at_call 28; refine (rmore_any 0 _ (by decide) HS.out _).mono ?_; rintro e w' ⟨rfl, rfl⟩)
  go_ret
  exact ⟨ret_int (by rw [HM.out]), rfl⟩
end Go.Proofs.Ytbfalmbmalmfoaa
