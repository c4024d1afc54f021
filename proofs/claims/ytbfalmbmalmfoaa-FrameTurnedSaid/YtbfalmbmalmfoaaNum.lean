/- Plain facts on whole numbers, their bits and their bytes; no program is spoken of. Conditions: the numbers' bounds, as each lemma states them. -/
import Derived.Test.YtbfalmbmalmfoaaNumA
namespace Go.Proofs.Ytbfalmbmalmfoaa
open Go.RowKit

/-! ### the mask of n bits -/
def ones (n : Nat) : Int := 2 ^ n - 1
theorem ones_nat (n : Nat) : ones n = ((2 ^ n - 1 : Nat) : Int) := by
  unfold ones; rw [two_pow_cast]; have := Nat.two_pow_pos n; omega
theorem ones_U {n : Nat} (h : n ≤ 64) : U64 (ones n) := by
  have h1 := two_pow_pos n
  have h2 := two_pow_mono h
  rw [two_64] at h2
  exact ⟨by unfold ones; omega, by unfold ones; omega⟩
theorem mask_val {n : Nat} (h : n ≤ 64) : IntKind.u64.wrap (IntKind.u64.wrap (2 ^ n) - 1) = ones n := by
  rcases Nat.lt_or_ge n 64 with hn | hn
  · have hp := pow_U (show n ≤ 63 by omega)
    rw [wrapU_in hp]
    exact wrapU_in (ones_U h)
  · obtain rfl : n = 64 := by omega
    decide

/-- some bits of a number -/
def fieldI (v : Int) (a n : Nat) : Int := v / 2 ^ a % 2 ^ n
theorem nat_and_ones (x n : Nat) : x &&& (2 ^ n - 1) = x % 2 ^ n := Nat.and_two_pow_sub_one_eq_mod x n
theorem and_ones {x : Int} (hx : U64 x) {n : Nat} (h : n ≤ 64) : bits .and .u64 x (ones n) = x % 2 ^ n := by
  have ho := ones_U h
  rw [u64_and _ _ hx.1 hx.2 ho.1 ho.2, ones_nat, Int.toNat_natCast, nat_and_ones, two_pow_cast, Int.natCast_emod, Int.toNat_of_nonneg hx.1]
theorem field_val {v : Int} (hv : U64 v) (a : Nat) {n : Nat} (h : n ≤ 64) : bits .and .u64 (v / 2 ^ a) (ones n) = fieldI v a n :=
  and_ones (hv.ediv a) h
theorem fieldI_U {v : Int} (hv : U64 v) (a n : Nat) : U64 (fieldI v a n) := (hv.ediv a).emod n
theorem fieldI_lt (v : Int) (a n : Nat) : fieldI v a n < 2 ^ n := Int.emod_lt_of_pos _ (by have := two_pow_pos n; omega)

/-- a number with other bits there -/
def withI (v : Int) (a n : Nat) (f : Int) : Int := v - fieldI v a n * 2 ^ a + f % 2 ^ n * 2 ^ a

theorem nat_with (v f a n : Nat) (han : a + n ≤ 64) (hv : v < 2 ^ 64) :
    (v &&& (2 ^ 64 - ((2 ^ n - 1) * 2 ^ a + 1))) ||| ((f % 2 ^ n) * 2 ^ a) = 2 ^ (a + n) * (v / 2 ^ (a + n)) + (2 ^ a * (f % 2 ^ n) + v % 2 ^ a) := by
  have hb : (2 ^ n - 1) * 2 ^ a < 2 ^ 64 := by
    have h1 : (2 ^ n - 1) * 2 ^ a < 2 ^ n * 2 ^ a := Nat.mul_lt_mul_of_pos_right (by have := Nat.two_pow_pos n; omega) (Nat.two_pow_pos a)
    have h2 : 2 ^ n * 2 ^ a ≤ 2 ^ 64 := by rw [← Nat.pow_add]; exact Nat.pow_le_pow_right (by decide) (by omega)
    omega
  have hlo : v % 2 ^ a < 2 ^ a := Nat.mod_lt _ (Nat.two_pow_pos a)
  have hg : f % 2 ^ n < 2 ^ n := Nat.mod_lt _ (Nat.two_pow_pos n)
  have hin : 2 ^ a * (f % 2 ^ n) + v % 2 ^ a < 2 ^ (a + n) := by
    rw [Nat.pow_add]
    have : 2 ^ a * (f % 2 ^ n) + 2 ^ a ≤ 2 ^ a * 2 ^ n := by
      rw [← Nat.mul_succ]; exact Nat.mul_le_mul_left _ hg
    omega
  apply Nat.eq_of_testBit_eq
  intro i
  rw [Nat.testBit_two_pow_mul_add _ hin, Nat.testBit_two_pow_mul_add _ hlo, Nat.testBit_or, Nat.testBit_and, Nat.testBit_two_pow_sub_succ hb, Nat.testBit_mul_two_pow, Nat.testBit_mul_two_pow, Nat.testBit_two_pow_sub_one, Nat.testBit_mod_two_pow, Nat.testBit_mod_two_pow, Nat.testBit_div_two_pow]
  by_cases h64 : i < 64
  · by_cases h1 : i < a
    · have n1 : ¬ a ≤ i := by omega
      have n2 : i < a + n := by omega
      simp [h64, h1, n1, n2]
    · have n1 : a ≤ i := by omega
      by_cases h2 : i < a + n
      · have n2 : i - a < n := by omega
        simp [h1, n1, n2, h2]
      · have n2 : ¬ i - a < n := by omega
        have n3 : a + n + (i - (a + n)) = i := by omega
        have n4 : i - (a + n) + (a + n) = i := by omega
        simp [h64, n2, h2, n4]
  · have hv' : v.testBit i = false := Nat.testBit_lt_two_pow (Nat.lt_of_lt_of_le hv (Nat.pow_le_pow_right (by decide) (by omega)))
    have n2 : ¬ i < a + n := by omega
    have n4 : i - (a + n) + (a + n) = i := by omega
    have n5 : ¬ i - a < n := by omega
    simp [hv', h64, n2, n4, n5]

theorem nat_split3 (v a n : Nat) : v = 2 ^ (a + n) * (v / 2 ^ (a + n)) + (2 ^ a * (v / 2 ^ a % 2 ^ n) + v % 2 ^ a) := by
  have h1 := Nat.div_add_mod v (2 ^ a)
  have h2 := Nat.div_add_mod (v / 2 ^ a) (2 ^ n)
  rw [Nat.div_div_eq_div_mul, ← Nat.pow_add] at h2
  have h3 : 2 ^ a * (v / 2 ^ a) = 2 ^ (a + n) * (v / 2 ^ (a + n)) + 2 ^ a * (v / 2 ^ a % 2 ^ n) := by
    rw [Nat.pow_add, Nat.mul_assoc, ← Nat.mul_add, ← Nat.pow_add, h2]
  omega

theorem ones_shift_U {a n : Nat} (h : a + n ≤ 64) : U64 (ones n * 2 ^ a) := by
  have h0 := two_pow_pos n
  have ha := two_pow_pos a
  have h2 : (2 : Int) ^ n * 2 ^ a ≤ 2 ^ 64 := by rw [← Int.pow_add]; exact two_pow_mono (by omega)
  rw [two_64] at h2
  unfold ones
  have e : (2 ^ n - 1) * 2 ^ a = (2 : Int) ^ n * 2 ^ a - 2 ^ a := by rw [Int.sub_mul]; omega
  exact ⟨Int.mul_nonneg (by omega) (by omega), by omega⟩
theorem low_shift_U {f : Int} {a n : Nat} (h : a + n ≤ 64) : U64 (f % 2 ^ n * 2 ^ a) := by
  have h0 := two_pow_pos n
  have ha := two_pow_pos a
  have h2 : (2 : Int) ^ n * 2 ^ a ≤ 2 ^ 64 := by rw [← Int.pow_add]; exact two_pow_mono (by omega)
  rw [two_64] at h2
  have hl : f % 2 ^ n < 2 ^ n := Int.emod_lt_of_pos _ (by omega)
  have h3 : f % 2 ^ n * 2 ^ a < 2 ^ n * 2 ^ a := Int.mul_lt_mul_of_pos_right hl (by omega)
  exact ⟨Int.mul_nonneg (Int.emod_nonneg _ (by omega)) (by omega), by omega⟩
theorem withI_nat (v f a n : Nat) : withI (v : Int) a n (f : Int) = ((2 ^ (a + n) * (v / 2 ^ (a + n)) + (2 ^ a * (f % 2 ^ n) + v % 2 ^ a) : Nat) : Int) := by
  have h := nat_split3 v a n
  unfold withI fieldI
  rw [two_pow_cast, two_pow_cast, ← Int.natCast_ediv, ← Int.natCast_emod, ← Int.natCast_emod, ← Int.natCast_mul, ← Int.natCast_mul]
  have c1 : v / 2 ^ a % 2 ^ n * 2 ^ a = 2 ^ a * (v / 2 ^ a % 2 ^ n) := Nat.mul_comm _ _
  have c2 : f % 2 ^ n * 2 ^ a = 2 ^ a * (f % 2 ^ n) := Nat.mul_comm _ _
  omega
theorem with_val {v f : Int} (hv : U64 v) (hf : U64 f) {a n : Nat} (h : a + n ≤ 64) :
    bits .or .u64 (bits .andNot .u64 v (IntKind.u64.wrap (ones n * 2 ^ a))) (IntKind.u64.wrap (bits .and .u64 f (ones n) * 2 ^ a)) = withI v a n f := by
  have hs := ones_shift_U h
  rw [and_ones hf (by omega), wrapU_in hs, wrapU_in (low_shift_U h)]
  obtain ⟨x, rfl⟩ := Int.eq_ofNat_of_zero_le hv.1
  obtain ⟨y, rfl⟩ := Int.eq_ofNat_of_zero_le hf.1
  have hb : (2 ^ n - 1) * 2 ^ a < 2 ^ 64 := by
    have e : ones n * 2 ^ a = (((2 ^ n - 1) * 2 ^ a : Nat) : Int) := by rw [ones_nat, two_pow_cast, ← Int.natCast_mul]
    have := hs.2
    rw [e] at this
    omega
  have hx : x < 2 ^ 64 := by have := hv.2; omega
  have eo : ones n * 2 ^ a = (((2 ^ n - 1) * 2 ^ a : Nat) : Int) := by rw [ones_nat, two_pow_cast, ← Int.natCast_mul]
  have ef : (y : Int) % 2 ^ n * 2 ^ a = ((y % 2 ^ n * 2 ^ a : Nat) : Int) := by rw [two_pow_cast, two_pow_cast, ← Int.natCast_emod, ← Int.natCast_mul]
  have hfU := low_shift_U (f := (y : Int)) h
  rw [ef] at hfU
  rw [eo, ef, u64_andNot_nat _ _ (by omega) (by omega)]
  have e2 : 18446744073709551615 - (2 ^ n - 1) * 2 ^ a = 2 ^ 64 - ((2 ^ n - 1) * 2 ^ a + 1) := by omega
  rw [e2, u64_or_nat _ _ (Nat.lt_of_le_of_lt Nat.and_le_left (by omega)) (by have := hfU.2; omega), withI_nat, nat_with x y a n h hx]
theorem withI_U {v f : Int} (hv : U64 v) {a n : Nat} (h : a + n ≤ 64) (hf : 0 ≤ f) : U64 (withI v a n f) := by
  obtain ⟨x, rfl⟩ := Int.eq_ofNat_of_zero_le hv.1
  obtain ⟨y, rfl⟩ := Int.eq_ofNat_of_zero_le hf
  have hx : x < 2 ^ 64 := by have := hv.2; omega
  rw [withI_nat, ← nat_with x y a n h hx]
  have h1 : (x &&& (2 ^ 64 - ((2 ^ n - 1) * 2 ^ a + 1))) < 2 ^ 64 := Nat.lt_of_le_of_lt Nat.and_le_left hx
  have h2 : y % 2 ^ n * 2 ^ a < 2 ^ 64 := by
    have := (low_shift_U (f := (y : Int)) h).2
    rw [two_pow_cast, two_pow_cast, ← Int.natCast_emod, ← Int.natCast_mul] at this
    omega
  have := Nat.or_lt_two_pow h1 h2
  exact ⟨by omega, by omega⟩

/-! ### with a sign -/
def sgnI (v : Int) (n : Nat) : Int := if v % 2 ^ n < 2 ^ (n - 1) then v % 2 ^ n else v % 2 ^ n - 2 ^ n
theorem half_pos (n : Nat) : (1 : Int) ≤ 2 ^ (n - 1) := two_pow_pos _
theorem half_le {n : Nat} (h : n ≤ 64) : (2 : Int) ^ (n - 1) ≤ 9223372036854775808 := by
  have := two_pow_mono (show n - 1 ≤ 63 by omega); rwa [two_63] at this
theorem half_two {n : Nat} (h : 1 ≤ n) : (2 : Int) ^ n = 2 * 2 ^ (n - 1) := by
  obtain ⟨m, rfl⟩ : ∃ m, n = m + 1 := ⟨n - 1, by omega⟩
  exact two_pow_succ m
theorem shl_mod {v : Int} {n : Nat} (h : n ≤ 64) : IntKind.u64.wrap (v * 2 ^ (64 - n)) = v % 2 ^ n * 2 ^ (64 - n) := by
  rw [IntKind.wrap_u64, ← two_64, two_pow_split h, Int.mul_comm v, Int.mul_emod_mul_of_pos _ _ (by have := two_pow_pos (64 - n); omega), Int.mul_comm]
theorem signed_val {v : Int} {n : Nat} (h0 : 1 ≤ n) (h1 : n ≤ 64) :
    wrap64 (IntKind.u64.wrap (v * 2 ^ (64 - n))) / 2 ^ (64 - n) = sgnI v n := by
  rw [shl_mod h1, wrap64_eq]
  unfold sgnI
  have hp := two_pow_pos (64 - n)
  have hh := half_pos n
  have e := half_two h0
  have hx0 : 0 ≤ v % 2 ^ n := Int.emod_nonneg _ (by omega)
  have hx1 : v % 2 ^ n < 2 ^ n := Int.emod_lt_of_pos _ (by omega)
  have hu : (2 : Int) ^ n * 2 ^ (64 - n) = 18446744073709551616 := by rw [← Int.pow_add, ← two_64]; congr 1; omega
  generalize v % 2 ^ n = x at *
  generalize (2 : Int) ^ (64 - n) = u at *
  generalize (2 : Int) ^ (n - 1) = k at *
  rw [e] at hx1 hu ⊢
  have hku : k * u = 9223372036854775808 := by rw [Int.mul_assoc] at hu; omega
  split
  · rename_i hlt
    have a1 : x * u < k * u := Int.mul_lt_mul_of_pos_right hlt (by omega)
    have a2 : 0 ≤ x * u := Int.mul_nonneg hx0 (by omega)
    have e1 : (x * u + 9223372036854775808) % 18446744073709551616 - 9223372036854775808 = x * u := by omega
    rw [e1, Int.mul_ediv_cancel _ (by omega)]
  · rename_i hge
    have a1 : k * u ≤ x * u := Int.mul_le_mul_of_nonneg_right (by omega) (by omega)
    have a2 : x * u < 2 * k * u := Int.mul_lt_mul_of_pos_right hx1 (by omega)
    have a3 : (x - 2 * k) * u = x * u - 2 * k * u := Int.sub_mul _ _ _
    have e1 : (x * u + 9223372036854775808) % 18446744073709551616 - 9223372036854775808 = (x - 2 * k) * u := by omega
    rw [e1, Int.mul_ediv_cancel _ (by omega)]
def fitI (w : Int) (n : Nat) : Int := if w < -2 ^ (n - 1) then -2 ^ (n - 1) else if 2 ^ (n - 1) - 1 < w then 2 ^ (n - 1) - 1 else w
theorem wrap64_neg_half {n : Nat} (h : n ≤ 64) : wrap64 (-2 ^ (n - 1)) = -2 ^ (n - 1) := by
  have h1 := half_pos n
  have h2 := half_le h
  rw [wrap64_eq]; omega
theorem xor_ones_i64 {x : Int} (h0 : -9223372036854775808 ≤ x) (h1 : x ≤ 9223372036854775807) : bits .xor .i64 (-1) x = -x - 1 := by
  have e : bits .xor .i64 (-1) x = IntKind.i64.wrap ((BitVec.ofInt 64 (-1) ^^^ BitVec.ofInt 64 x).toNat : Int) := rfl
  have h2 : (BitVec.ofInt 64 (-1) ^^^ BitVec.ofInt 64 x) = ~~~ (BitVec.ofInt 64 x) := by
    have : BitVec.ofInt 64 (-1) = BitVec.allOnes 64 := by decide
    rw [this, BitVec.allOnes_xor]
  rw [e, h2, BitVec.toNat_not, IntKind.wrap_i64]
  have h3 : ((BitVec.ofInt 64 x).toNat : Int) = x % 18446744073709551616 := by
    rw [BitVec.toNat_ofInt]
    have : (0 : Int) ≤ x % ((2 ^ 64 : Nat) : Int) := Int.emod_nonneg _ (by decide)
    rw [Int.toNat_of_nonneg this]; rfl
  have h4 : (BitVec.ofInt 64 x).toNat < 2 ^ 64 := (BitVec.ofInt 64 x).isLt
  omega

end Go.Proofs.Ytbfalmbmalmfoaa
