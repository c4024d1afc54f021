/- What crc's shifted, More, Sum and (*zeros).of return, as plain numbers. Conditions: the arguments are numbers of 32 bits; a text is no longer than a string may be; the array's cells lie at the pointer. -/
import Derived.Test.YtbfalmbmalmfoaaBase
import Derived.Test.YtbfalmbmalmfoaaNumA
import Derived.Test.YtbfalmbmalmfoaaCrcM
namespace Go.Proofs.Ytbfalmbmalmfoaa
open Go.RowKit

theorem and1_u32 (x : Nat) (hx : x < 4294967296) : bits .and .u32 (x : Int) 1 = ((x % 2 : Nat) : Int) := by
  have h := u32_and_nat x 1 hx (by decide)
  rw [Nat.and_one_is_mod] at h
  exact h
theorem shifted_val (x : Nat) (hx : x < 4294967296) :
    bits .xor .u32 ((x : Int) / 2) (bits .and .u32 3988292384 (-bits .and .u32 (x : Int) 1 % 4294967296)) = ((cstep x : Nat) : Int) := by
  rw [and1_u32 x hx]
  rcases Nat.mod_two_eq_zero_or_one x with h | h
  · rw [h, show cstep x = x / 2 by unfold cstep; rw [if_neg (by omega)]]
    have e : bits .and .u32 3988292384 (-((0 : Nat) : Int) % 4294967296) = ((0 : Nat) : Int) := by decide
    rw [e]
    have := u32_xor_nat (x / 2) 0 (by omega) (by decide)
    rw [Nat.xor_zero] at this
    exact this
  · rw [h, show cstep x = (x / 2) ^^^ cpoly by unfold cstep; rw [if_pos h]]
    have e : bits .and .u32 3988292384 (-((1 : Nat) : Int) % 4294967296) = ((cpoly : Nat) : Int) := by decide
    rw [e]
    exact u32_xor_nat (x / 2) cpoly (by omega) (by decide)

set_option maxHeartbeats 400000 in
theorem shifted_any (x : Nat) (hx : x < 4294967296) (w : World) :
    Calls Try.prog 30 #[.int .u32 x] w fun e w' => e = .returned (.int .u32 (cstep x : Nat)) ∧ w = w' := by
  have hb : (x : Int) ≤ 4294967295 := by omega
  go_enter Try.func30, Try.ntmps30
  go_wp2
  go_ret
  exact ⟨ret_int (shifted_val x hx), rfl⟩

theorem take_snoc (s : ByteArray) (k : Nat) (h : k < s.size) : s.data.toList.take (k + 1) = s.data.toList.take k ++ [s[k]] := by
  rw [List.take_succ_eq_append_getElem (by simpa using h)]; rfl
theorem cfold_snoc (x : Nat) (l : List UInt8) (c : UInt8) : cfold x (l ++ [c]) = csteps 8 (cfold x l ^^^ c.toNat) := by
  unfold cfold
  rw [List.foldl_append]
  rfl
theorem csteps_succ (n x : Nat) : csteps (n + 1) x = cstep (csteps n x) := csteps_add n 1 x

theorem cflip_val (x : Nat) (hx : x < 4294967296) : bits .xor .u32 IntKind.u32.max (x : Int) = ((cflip x : Nat) : Int) := by
  have h := u32_xor_nat 4294967295 x (by decide) hx
  rw [Nat.xor_comm] at h
  exact h
theorem byte_in (y : Nat) (c : UInt8) (hy : y < 4294967296) : bits .xor .u32 (y : Int) ((c.toNat : Int) % 4294967296) = ((y ^^^ c.toNat : Nat) : Int) := by
  have hc := c.toNat_lt
  rw [show ((c.toNat : Int) % 4294967296) = (c.toNat : Int) by omega]
  exact u32_xor_nat y c.toNat hy (by omega)

set_option maxHeartbeats 1000000 in
theorem more_any (x : Nat) (s : ByteArray) (hx : x < 4294967296) (hs : s.size ≤ maxLen) (w : World) :
    Calls Try.prog 26 #[.int .u32 x, .string s] w fun e w' => e = .returned (.int .u32 (cmore x s.data.toList : Nat)) ∧ w = w' := by
  unfold maxLen at hs
  have hb : (x : Int) ≤ 4294967295 := by omega
  have hf := cflip_lt hx
  have hsg : IntKind.u32.signed = false := rfl
  have HV := Lib.hid (cflip_val x hx)
  go_enter Try.func26, Try.ntmps26
  go_wp2
  go_loop [5, 11] (fun r i => ∃ k : Nat, k ≤ s.size ∧ i = .int .i64 k ∧ r = .int .u32 (cfold (cflip x) (s.data.toList.take k) : Nat)) (fun _ i => s.size - (intOf i).toNat)
  case atStart => exact ⟨0, Nat.zero_le _, rfl, by rw [HV.out]; rfl⟩
  case round =>
    obtain ⟨k, hk, rfl, rfl⟩ := hrel
    have hl := cfold_lt hf (s.data.toList.take k)
    by_cases hlt : k < s.size
    · have H := Lib.hid (show cfold (cflip x) (s.data.toList.take (k + 1)) = csteps 8 (cfold (cflip x) (s.data.toList.take k) ^^^ s[k].toNat) by rw [take_snoc s k hlt, cfold_snoc])
      have HB := Lib.hid (byte_in (cfold (cflip x) (s.data.toList.take k)) s[k] hl)
      have hl2 : cfold (cflip x) (s.data.toList.take k) ^^^ s[k].toNat < 4294967296 := Nat.xor_lt_two_pow (n := 32) hl (by have := s[k].toNat_lt; omega)
      go_wp2
      go_loop [5, 20] (fun r i => ∃ j : Nat, j ≤ 8 ∧ i = .int .i64 j ∧ r = .int .u32 (csteps j (cfold (cflip x) (s.data.toList.take k) ^^^ s[k].toNat) : Nat)) (fun _ i => 8 - (intOf i).toNat)
      case atStart => exact ⟨0, Nat.zero_le _, rfl, by rw [HB.out]; rfl⟩
      case round =>
        obtain ⟨j, hj, rfl, rfl⟩ := hrel
        have hl3 := csteps_lt j hl2
        by_cases hjt : j < 8
        · have HJ := Lib.hid (csteps_succ j (cfold (cflip x) (s.data.toList.take k) ^^^ s[k].toNat))
          go_wp2_with (go_at_call 30; refine (shifted_any _ hl3 _).mono ?_; rintro e w' ⟨rfl, rfl⟩)
          go_round
          case rel => exact ⟨j + 1, by omega, by go_num, by rw [HJ.out]⟩
          case measure => simp [intOf]; omega
        · obtain rfl : j = 8 := by omega
          go_wp2
          go_round
          case rel => exact ⟨k + 1, by omega, by go_num, by rw [H.out]⟩
          case measure => simp [intOf]; omega
    · have HE := Lib.hid (show cfold (cflip x) (s.data.toList.take k) = cfold (cflip x) s.data.toList by rw [List.take_of_length_le (by simp; omega)])
      have HF := Lib.hid (cflip_val _ hl)
      go_wp2
      go_ret
      refine ⟨ret_int ?_, rfl⟩
      rw [HF.out, HE.out]
      rfl

theorem sum_any (s : ByteArray) (hs : s.size ≤ maxLen) (w : World) :
    Calls Try.prog 25 #[.string s] w fun e w' => e = .returned (.int .u32 (csum s.data.toList : Nat)) ∧ w = w' := by
  have HS := Lib.hid hs
  clear hs
  have HM := Lib.hid (show cmore 0 s.data.toList = csum s.data.toList by unfold cmore csum; rfl)
  go_enter Try.func25, Try.ntmps25
  go_wp2_with (go_at_call 26; refine (more_any 0 _ (by decide) HS.out _).mono ?_; rintro e w' ⟨rfl, rfl⟩)
  go_ret
  exact ⟨ret_int (by rw [HM.out]), rfl⟩
end Go.Proofs.Ytbfalmbmalmfoaa
