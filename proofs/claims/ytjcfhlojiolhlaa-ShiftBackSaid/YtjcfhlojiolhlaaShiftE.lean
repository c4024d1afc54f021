/- Plain facts that join what shift's functions return: held numbers, halves, fields, turned bits. Conditions: the numbers' bounds, as each lemma states them. -/
import Derived.Test.YtjcfhlojiolhlaaShiftC
import Derived.Test.YtjcfhlojiolhlaaShiftD
namespace Go.Proofs.Ytjcfhlojiolhlaa
open Go.RowKit

/-! ### numbers that are held -/
def InR (x : Int) (n : Nat) : Prop := -2 ^ (n - 1) ≤ x ∧ x ≤ 2 ^ (n - 1) - 1
theorem emod_wrap {x : Int} {n : Nat} (h : n ≤ 64) : IntKind.u64.wrap x % 2 ^ n = x % 2 ^ n := by
  rw [IntKind.wrap_u64, ← two_64]
  exact Int.emod_emod_of_dvd x ⟨2 ^ (64 - n), by rw [Int.mul_comm]; exact two_pow_split h⟩
theorem sgnI_wrap {x : Int} {n : Nat} (h : n ≤ 64) : sgnI (IntKind.u64.wrap x) n = sgnI x n := by
  unfold sgnI
  rw [emod_wrap h]
theorem sgnI_of_in {x : Int} {n : Nat} (h0 : 1 ≤ n) (h : InR x n) : sgnI x n = x := by
  obtain ⟨h1, h2⟩ := h
  have e := half_two h0
  have p := half_pos n
  unfold sgnI
  rcases Int.lt_or_le x 0 with hx | hx
  · have m : x % 2 ^ n = x + 2 ^ n := by
      rw [← Int.add_emod_right, Int.emod_eq_of_lt (by omega) (by omega)]
    rw [m, if_neg (by omega)]
    omega
  · have m : x % 2 ^ n = x := Int.emod_eq_of_lt hx (by omega)
    rw [m, if_pos (by omega)]
theorem sgnI_in (x : Int) {n : Nat} (h0 : 1 ≤ n) : InR (sgnI x n) n := by
  have e := half_two h0
  have p := half_pos n
  have a := Int.emod_nonneg x (show (2 : Int) ^ n ≠ 0 by omega)
  have b := Int.emod_lt_of_pos x (show (0 : Int) < 2 ^ n by omega)
  unfold sgnI InR
  split <;> omega
theorem fitI_of_in {x : Int} {n : Nat} (h : InR x n) : fitI x n = x := by
  obtain ⟨h1, h2⟩ := h
  unfold fitI
  rw [if_neg (by omega), if_neg (by omega)]
theorem fitI_in (x : Int) (n : Nat) : InR (fitI x n) n := by
  have p := half_pos n
  unfold fitI InR
  split
  · omega
  · split <;> omega
theorem fitR_eq {x n : Int} (h0 : 1 ≤ n) (h1 : n ≤ 64) : fitR x n = fitI x n.toNat := if_pos ⟨h0, h1⟩
theorem signedR_eq {x n : Int} (h0 : 1 ≤ n) (h1 : n ≤ 64) : signedR x n = sgnI x n.toNat := if_pos ⟨h0, h1⟩
theorem fit_signed (x : Int) {n : Int} (h0 : 1 ≤ n) (h1 : n ≤ 64) : signedR (IntKind.u64.wrap (fitR x n)) n = fitR x n := by
  rw [signedR_eq h0 h1, fitR_eq h0 h1, sgnI_wrap (by omega), sgnI_of_in (by omega) (fitI_in _ _)]
theorem fit_fit (x : Int) {n : Int} (h0 : 1 ≤ n) (h1 : n ≤ 64) : fitR (fitR x n) n = fitR x n := by
  rw [fitR_eq h0 h1, fitR_eq h0 h1, fitI_of_in (fitI_in _ _)]
/-- the three ways: it fits; it is too small; it is too great -/
theorem fit_ways (x : Int) {n : Int} (h0 : 1 ≤ n) (h1 : n ≤ 64) :
    (fitR x n = x ∧ signedR (IntKind.u64.wrap x) n = x) ∨
    (x < fitR x n ∧ x < 0 ∧ signedR (IntKind.u64.wrap x) n ≠ x) ∨
    (fitR x n < x ∧ 0 ≤ x ∧ 0 ≤ fitR x n ∧ signedR (IntKind.u64.wrap x) n ≠ x) := by
  rw [signedR_eq h0 h1, fitR_eq h0 h1, sgnI_wrap (by omega)]
  have hp := half_pos n.toNat
  have hin := sgnI_in x (show 1 ≤ n.toNat by omega)
  unfold InR at hin
  by_cases c1 : x < -2 ^ (n.toNat - 1)
  · right; left
    have e : fitI x n.toNat = -2 ^ (n.toNat - 1) := if_pos c1
    rw [e]
    exact ⟨by omega, by omega, fun h => by rw [h] at hin; omega⟩
  · by_cases c2 : 2 ^ (n.toNat - 1) - 1 < x
    · right; right
      have e : fitI x n.toNat = 2 ^ (n.toNat - 1) - 1 := by unfold fitI; rw [if_neg c1, if_pos c2]
      rw [e]
      exact ⟨by omega, by omega, by omega, fun h => by rw [h] at hin; omega⟩
    · left
      have hi : InR x n.toNat := ⟨by omega, by omega⟩
      exact ⟨fitI_of_in hi, sgnI_of_in (by omega) hi⟩
end Go.Proofs.Ytjcfhlojiolhlaa
