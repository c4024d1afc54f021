/- What (*zeros).of returns: what so many bits 0 make of a number, out of what they make of each of its bits. Conditions: a number of 32 bits; the array's cells lie at the pointer. -/
import Derived.Test.YtkimbhblcgbidaaCrcA
namespace Go.Proofs.Ytkimbhblcgbidaa
open Go.RowKit

/-- the sum of those m i whose bit i is set in r, below k -/
def ofN (m : Nat → Nat) (r : Nat) : Nat → Nat
  | 0 => 0
  | k + 1 => ofN m r k ^^^ (if r / 2 ^ k % 2 = 1 then m k else 0)
theorem ofN_lt (m : Nat → Nat) (r : Nat) (hm : ∀ i, i < 32 → m i < 4294967296) : ∀ k, k ≤ 32 → ofN m r k < 4294967296
  | 0, _ => by show (0 : Nat) < 4294967296; decide
  | k + 1, h => by
    have ih := ofN_lt m r hm k (by omega)
    refine Nat.xor_lt_two_pow (n := 32) ih ?_
    split
    · exact hm k (by omega)
    · decide
theorem mod_pow_succ (r k : Nat) : r % 2 ^ (k + 1) = r % 2 ^ k ^^^ 2 ^ k * (r / 2 ^ k % 2) := by
  rw [xor_low k _ _ (Nat.mod_lt _ (Nat.two_pow_pos k)), Nat.pow_succ, Nat.mod_mul]
theorem ofN_steps (n r : Nat) : ∀ k, ofN (fun i => csteps n (2 ^ i)) r k = csteps n (r % 2 ^ k)
  | 0 => by rw [Nat.pow_zero, Nat.mod_one, csteps_zero]; rfl
  | k + 1 => by
    rw [mod_pow_succ, csteps_xor, ← ofN_steps n r k]
    show ofN _ r k ^^^ _ = _
    congr 1
    rcases Nat.mod_two_eq_zero_or_one (r / 2 ^ k) with h | h
    · rw [h, Nat.mul_zero, csteps_zero]; rfl
    · rw [h, Nat.mul_one]; rfl

theorem of_val (y c r k : Nat) (hy : y < 4294967296) (hc : c < 4294967296) (hr : r < 4294967296) :
    bits .xor .u32 (y : Int) (bits .and .u32 (c : Int) (-bits .and .u32 ((r : Int) / 2 ^ k) 1 % 4294967296)) = ((y ^^^ (if r / 2 ^ k % 2 = 1 then c else 0) : Nat) : Int) := by
  have hd : r / 2 ^ k < 4294967296 := Nat.lt_of_le_of_lt (Nat.div_le_self _ _) hr
  have e0 : ((r : Int) / 2 ^ k) = ((r / 2 ^ k : Nat) : Int) := by simp
  rw [e0, and1_u32 _ hd]
  rcases Nat.mod_two_eq_zero_or_one (r / 2 ^ k) with h | h
  · rw [h, if_neg (by decide)]
    have e : bits .and .u32 (c : Int) (-((0 : Nat) : Int) % 4294967296) = ((0 : Nat) : Int) := by
      have := u32_and_nat c 0 hc (by decide)
      rw [Nat.and_zero] at this
      exact this
    rw [e]
    exact u32_xor_nat y 0 hy (by decide)
  · rw [h, if_pos rfl]
    have e : bits .and .u32 (c : Int) (-((1 : Nat) : Int) % 4294967296) = (c : Int) := by
      have := u32_and_nat c 4294967295 hc (by decide)
      rw [show (4294967295 : Nat) = 2 ^ 32 - 1 by decide, Nat.and_two_pow_sub_one_eq_mod, Nat.mod_eq_of_lt (show c < 2 ^ 32 from hc)] at this
      exact this
    rw [e]
    exact u32_xor_nat y c hy hc

set_option maxHeartbeats 1000000 in
theorem of_any (b : Nat) (m : Nat → Nat) (r : Nat) (w : World) (hr : r < 4294967296) (hm : ∀ i, i < 32 → m i < 4294967296)
    (hc : ∀ i, i < 32 → w.cell? ⟨b, i, none⟩ = some (.int .u32 (m i : Nat))) :
    Calls Try.prog 13 #[.pointer (some ⟨b, 0, none⟩), .int .u32 r] w fun e w' => e = .returned (.int .u32 (ofN m r 32 : Nat)) ∧ ∃ q, w' = w.drewN q := by
  have hb : (r : Int) ≤ 4294967295 := by omega
  have HC := Lib.hid hc
  have HM := Lib.hid hm
  clear hc hm
  go_enter Try.func13, Try.ntmps13
  go_wp2
  go_loopw [5, 9] (fun v i wr => ∃ k q : Nat, k ≤ 32 ∧ i = .int .i64 k ∧ v = .int .u32 (ofN m r k : Nat) ∧ wr = w.drewN q) (fun _ i _ => 32 - (intOf i).toNat)
  case atStart => exact ⟨0, 0, Nat.zero_le _, rfl, rfl, rfl⟩
  case round =>
    obtain ⟨k, q, hk, rfl, rfl, rfl⟩ := hrel
    by_cases hlt : k < 32
    · have hcell := HC.out k hlt
      have HV := Lib.hid (of_val (ofN m r k) (m k) r k (ofN_lt m r HM.out k hk) (HM.out k hlt) hr)
      go_wp2
      go_quiet (fail)
      go_wp2
      go_roundw
      case rel => exact ⟨k + 1, q + nq, by omega, by go_num, by rw [HV.out]; rfl, rfl⟩
      case measure => simp [intOf]; omega
    · obtain rfl : k = 32 := by omega
      go_wp2
      go_ret
      exact ⟨rfl, _, rfl⟩
end Go.Proofs.Ytkimbhblcgbidaa
