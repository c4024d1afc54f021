/- Plain facts on whole numbers, their bits and their bytes; no program is spoken of. Conditions: the numbers' bounds, as each lemma states them. -/
import Derived.Laws.Bits64b
import Derived.Laws.BitsAllLaws
import Derived.Laws.Wrap64
import Derived.Laws.BitsLemmas
import Derived.RowKit
set_option linter.unusedVariables false
namespace Go.Proofs.Ytfkgeefoknaldaa
open Go.RowKit

/-- a number of 64 bits without a sign -/
def U64 (v : Int) : Prop := 0 ≤ v ∧ v < 18446744073709551616

theorem U64.lo {v : Int} (h : U64 v) : 0 ≤ v := h.1
theorem wrapU_in {v : Int} (h : U64 v) : IntKind.u64.wrap v = v := by
  rw [IntKind.wrap_u64]; exact Int.emod_eq_of_lt h.1 h.2
theorem wrapU_U (v : Int) : U64 (IntKind.u64.wrap v) := by
  rw [IntKind.wrap_u64]; exact ⟨Int.emod_nonneg _ (by decide), Int.emod_lt_of_pos _ (by decide)⟩

theorem two_pow_cast (n : Nat) : (2 : Int) ^ n = ((2 ^ n : Nat) : Int) := by simp
theorem two_pow_pos (n : Nat) : (1 : Int) ≤ 2 ^ n := by
  rw [two_pow_cast]; have := Nat.two_pow_pos n; omega
theorem two_pow_mono {m n : Nat} (h : m ≤ n) : (2 : Int) ^ m ≤ 2 ^ n := by
  rw [two_pow_cast, two_pow_cast]; have := Nat.pow_le_pow_right (by decide : 2 > 0) h; omega
theorem two_pow_succ (n : Nat) : (2 : Int) ^ (n + 1) = 2 * 2 ^ n := by rw [Int.pow_succ]; omega
theorem two_pow_split {m n : Nat} (h : m ≤ n) : (2 : Int) ^ n = 2 ^ (n - m) * 2 ^ m := by
  rw [← Int.pow_add, Nat.sub_add_cancel h]
theorem two_64 : (2 : Int) ^ 64 = 18446744073709551616 := by decide
theorem two_63 : (2 : Int) ^ 63 = 9223372036854775808 := by decide

theorem U64.ediv {v : Int} (h : U64 v) (n : Nat) : U64 (v / 2 ^ n) := by
  refine ⟨Int.ediv_nonneg h.1 (by have := two_pow_pos n; omega), ?_⟩
  have := Int.ediv_le_self (2 ^ n) h.1
  have := h.2
  omega
theorem U64.emod {v : Int} (h : U64 v) (n : Nat) : U64 (v % 2 ^ n) := by
  have hp := two_pow_pos n
  refine ⟨Int.emod_nonneg _ (by omega), ?_⟩
  have h1 : v % 2 ^ n ≤ v := by
    have e := Int.mul_ediv_add_emod v (2 ^ n)
    have d : 0 ≤ 2 ^ n * (v / 2 ^ n) := Int.mul_nonneg (by omega) (Int.ediv_nonneg h.1 (by omega))
    omega
  have := h.2
  omega
theorem pow_U {n : Nat} (h : n ≤ 63) : U64 ((2 : Int) ^ n) := by
  have h1 := two_pow_pos n
  have h2 := two_pow_mono h
  rw [two_63] at h2
  exact ⟨by omega, by omega⟩
def U32 (v : Int) : Prop := 0 ≤ v ∧ v < 4294967296
theorem two_32 : (2 : Int) ^ 32 = 4294967296 := by decide
theorem wrap64_eq (x : Int) : wrap64 x = (x + 9223372036854775808) % 18446744073709551616 - 9223372036854775808 := rfl
end Go.Proofs.Ytfkgeefoknaldaa
