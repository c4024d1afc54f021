/- Plain facts on bytes that are put and got, on fields that are set, and on bits that are turned there and back. Conditions: the numbers' bounds, as each lemma states them. -/
import Derived.Test.YtjcfhlojiolhlaaShiftE
namespace Go.Proofs.Ytjcfhlojiolhlaa
open Go.RowKit

/-- the n lowest bytes of a number, as bytes -/
def bl (x : Nat) : Nat → List UInt8
  | 0 => []
  | n + 1 => UInt8.ofNat (x / 256 ^ n % 256) :: bl x n
theorem bl_length (x n : Nat) : (bl x n).length = n := by
  induction n with
  | zero => rfl
  | succ n ih => simp [bl, ih]
theorem putI_nat (x n : Nat) : (putI (x : Int) n).map (fun k => UInt8.ofNat k.toNat) = bl x n := by
  induction n with
  | zero => rfl
  | succ n ih =>
    have e : ((x : Int) / 256 ^ n % 256).toNat = x / 256 ^ n % 256 := by
      have : ((x : Int) / 256 ^ n % 256) = ((x / 256 ^ n % 256 : Nat) : Int) := by simp
      rw [this, Int.toNat_natCast]
    simp [putI, bl, ih, e]
theorem putS_list (x n : Nat) : (putS (x : Int) n).data.toList = bl x n := by
  rw [putS, strOfNums_data, putI_nat]
theorem putS_eq (x n : Nat) : putS (x : Int) n = ⟨(bl x n).toArray⟩ := by
  unfold putS strOfNums
  rw [putI_nat]
theorem bl_add (x a b : Nat) : bl x (a + b) = bl (x / 256 ^ b) a ++ bl x b := by
  induction a with
  | zero => simp [bl]
  | succ a ih =>
    rw [show a + 1 + b = (a + b) + 1 by omega]
    simp only [bl, List.cons_append, ih]
    rw [Nat.div_div_eq_div_mul, ← Nat.pow_add, Nat.add_comm b a]
theorem digit_mod (x n k : Nat) (h : n < k) : x % 256 ^ k / 256 ^ n % 256 = x / 256 ^ n % 256 := by
  obtain ⟨t, rfl⟩ : ∃ t, k = n + (1 + t) := ⟨k - n - 1, by omega⟩
  rw [Nat.pow_add, Nat.mod_mul_right_div_self]
  exact Nat.mod_mod_of_dvd _ ⟨256 ^ t, by rw [Nat.pow_add]⟩
theorem bl_mod (x n k : Nat) (h : n ≤ k) : bl (x % 256 ^ k) n = bl x n := by
  induction n with
  | zero => rfl
  | succ n ih => simp only [bl]; rw [ih (by omega), digit_mod x n k (by omega)]
theorem getI_from (l : List UInt8) (a : Int) : l.foldl (fun a c => a * 256 + (c.toNat : Int)) a = a * 256 ^ l.length + getI l := by
  induction l generalizing a with
  | nil => simp [getI]
  | cons c l ih =>
    have g : getI (c :: l) = (c.toNat : Int) * 256 ^ l.length + getI l := by
      show l.foldl (fun a c => a * 256 + (c.toNat : Int)) (0 * 256 + (c.toNat : Int)) = _
      rw [ih, Int.zero_mul, Int.zero_add]
    rw [List.foldl_cons, ih, g, List.length_cons, Int.pow_succ, Int.add_mul, Int.mul_assoc, Int.mul_comm 256 (256 ^ l.length), Int.add_assoc]
theorem getI_cons (c : UInt8) (l : List UInt8) : getI (c :: l) = (c.toNat : Int) * 256 ^ l.length + getI l := by
  show l.foldl (fun a c => a * 256 + (c.toNat : Int)) (0 * 256 + (c.toNat : Int)) = _
  rw [getI_from, Int.zero_mul, Int.zero_add]
theorem getI_bl (x n : Nat) : getI (bl x n) = ((x % 256 ^ n : Nat) : Int) := by
  induction n with
  | zero => simp [bl, getI, Nat.mod_one]
  | succ n ih =>
    rw [bl, getI_cons, ih, bl_length]
    have e : (UInt8.ofNat (x / 256 ^ n % 256)).toNat = x / 256 ^ n % 256 := by
      simp
    have m : x % 256 ^ (n + 1) = x % 256 ^ n + 256 ^ n * (x / 256 ^ n % 256) := by rw [Nat.pow_succ, Nat.mod_mul]
    rw [e, m]
    simp only [Int.natCast_add, Int.natCast_mul, Int.natCast_pow]
    rw [Int.mul_comm, Int.add_comm]
    rfl
theorem pow_256 (n : Nat) : (2 : Nat) ^ (8 * n) = 256 ^ n := by rw [Nat.pow_mul]
theorem fieldI_nat (x a n : Nat) : fieldI (x : Int) a n = ((x / 2 ^ a % 2 ^ n : Nat) : Int) := by
  unfold fieldI
  rw [two_pow_cast, two_pow_cast, ← Int.natCast_ediv, ← Int.natCast_emod]
theorem fieldR_eq {v a n : Int} (h0 : 0 ≤ a) (h1 : 0 ≤ n) (h2 : a ≤ 64 - n) : fieldR v a n = fieldI v a.toNat n.toNat := if_pos ⟨h0, h1, h2⟩
theorem withR_eq {v a n f : Int} (h0 : 0 ≤ a) (h1 : 0 ≤ n) (h2 : a ≤ 64 - n) : withR v a n f = withI v a.toNat n.toNat f := if_pos ⟨h0, h1, h2⟩
theorem putR_eq {v n : Int} (h0 : 0 ≤ n) (h1 : n ≤ 8) : putR v n = putS v n.toNat := if_pos ⟨h0, h1⟩

/-! ### halves -/
theorem half_hi (x m : Nat) : fieldI (x : Int) (8 * m) (8 * m) = ((x / 256 ^ m % 256 ^ m : Nat) : Int) := by rw [fieldI_nat, pow_256]
theorem half_lo (x m : Nat) : fieldI (x : Int) 0 (8 * m) = ((x % 256 ^ m : Nat) : Int) := by rw [fieldI_nat, pow_256, Nat.pow_zero, Nat.div_one]
theorem bl_halves (x m : Nat) : bl x (2 * m) = bl (x / 256 ^ m % 256 ^ m) m ++ bl (x % 256 ^ m) m := by
  rw [show 2 * m = m + m by omega, bl_add, bl_mod _ _ _ (Nat.le_refl _), bl_mod _ _ _ (Nat.le_refl _)]
theorem str_append (a b : List UInt8) : (⟨a.toArray⟩ : ByteArray) ++ ⟨b.toArray⟩ = ⟨(a ++ b).toArray⟩ := by
  apply ByteArray.ext
  rw [ByteArray.data_append]
  exact Array.toList_inj.1 (by simp)
theorem size_str (l : List UInt8) : (⟨l.toArray⟩ : ByteArray).size = l.length := by simp [ByteArray.size]
theorem halves_put {v m : Int} (hv : U64 v) (h0 : 0 ≤ m) (h1 : m ≤ 4) :
    putR (fieldR v (8 * m) (8 * m)) m ++ putR (fieldR v 0 (8 * m)) m = putR v (2 * m) := by
  obtain ⟨x, rfl⟩ := Int.eq_ofNat_of_zero_le hv.1
  obtain ⟨n, rfl⟩ := Int.eq_ofNat_of_zero_le h0
  rw [putR_eq (by omega) (by omega), putR_eq (by omega) (by omega), putR_eq (by omega) (by omega), fieldR_eq (by omega) (by omega) (by omega), fieldR_eq (by omega) (by omega) (by omega)]
  rw [show (2 * (n : Int)).toNat = 2 * n by omega, show (8 * (n : Int)).toNat = 8 * n by omega, Int.toNat_natCast, show (0 : Int).toNat = 0 from rfl, half_hi, half_lo, putS_eq, putS_eq, putS_eq, str_append, bl_halves]
theorem halves_get_hi {v m : Int} (hv : U64 v) (h0 : 0 ≤ m) (h1 : m ≤ 4) : getR (putR v (2 * m)) 0 m = (fieldR v (8 * m) (8 * m), true) := by
  obtain ⟨x, rfl⟩ := Int.eq_ofNat_of_zero_le hv.1
  obtain ⟨n, rfl⟩ := Int.eq_ofNat_of_zero_le h0
  rw [putR_eq (by omega) (by omega), fieldR_eq (by omega) (by omega) (by omega), show (2 * (n : Int)).toNat = 2 * n by omega, show (8 * (n : Int)).toNat = 8 * n by omega, half_hi, putS_eq, bl_halves]
  unfold getR
  rw [size_str, List.length_append, bl_length, bl_length, if_pos ⟨by omega, by omega, by omega, by omega⟩, show (0 : Int).toNat = 0 from rfl, Int.toNat_natCast]
  unfold cutL
  have e : (List.drop 0 (bl (x / 256 ^ n % 256 ^ n) n ++ bl (x % 256 ^ n) n)).take n = bl (x / 256 ^ n % 256 ^ n) n := by
    rw [List.drop_zero, List.take_append_of_le_length (by rw [bl_length]; exact Nat.le_refl _), List.take_of_length_le (by rw [bl_length]; exact Nat.le_refl _)]
  rw [e, getI_bl, Nat.mod_mod]
theorem halves_get_lo {v m : Int} (hv : U64 v) (h0 : 0 ≤ m) (h1 : m ≤ 4) : getR (putR v (2 * m)) m m = (fieldR v 0 (8 * m), true) := by
  obtain ⟨x, rfl⟩ := Int.eq_ofNat_of_zero_le hv.1
  obtain ⟨n, rfl⟩ := Int.eq_ofNat_of_zero_le h0
  rw [putR_eq (by omega) (by omega), fieldR_eq (by omega) (by omega) (by omega), show (2 * (n : Int)).toNat = 2 * n by omega, show (8 * (n : Int)).toNat = 8 * n by omega, show (0 : Int).toNat = 0 from rfl, half_lo, putS_eq, bl_halves]
  unfold getR
  rw [size_str, List.length_append, bl_length, bl_length, if_pos ⟨by omega, by omega, by omega, by omega⟩, Int.toNat_natCast]
  unfold cutL
  have e : (List.drop n (bl (x / 256 ^ n % 256 ^ n) n ++ bl (x % 256 ^ n) n)).take n = bl (x % 256 ^ n) n := by
    rw [List.drop_append_of_le_length (by rw [bl_length]; exact Nat.le_refl _), List.drop_of_length_le (by rw [bl_length]; exact Nat.le_refl _), List.nil_append, List.take_of_length_le (by rw [bl_length]; exact Nat.le_refl _)]
  rw [e, getI_bl, Nat.mod_mod]
theorem halves_with {v m : Int} (hv : U64 v) (h0 : 0 ≤ m) (h1 : m ≤ 4) : withR (fieldR v 0 (8 * m)) (8 * m) (8 * m) (fieldR v (8 * m) (8 * m)) = fieldR v 0 (16 * m) := by
  obtain ⟨x, rfl⟩ := Int.eq_ofNat_of_zero_le hv.1
  obtain ⟨n, rfl⟩ := Int.eq_ofNat_of_zero_le h0
  rw [withR_eq (by omega) (by omega) (by omega), fieldR_eq (by omega) (by omega) (by omega), fieldR_eq (by omega) (by omega) (by omega), fieldR_eq (by omega) (by omega) (by omega), show (16 * (n : Int)).toNat = 8 * n + 8 * n by omega, show (8 * (n : Int)).toNat = 8 * n by omega, show (0 : Int).toNat = 0 from rfl]
  rw [fieldI_nat, fieldI_nat, fieldI_nat, withI_nat, Nat.pow_zero, Nat.div_one, Nat.mod_mod, Nat.mod_mod, Nat.pow_add, Nat.mod_mul]
  have hz : x % 2 ^ (8 * n) / (2 ^ (8 * n) * 2 ^ (8 * n)) = 0 := by
    apply Nat.div_eq_of_lt
    have a := Nat.mod_lt x (Nat.two_pow_pos (8 * n))
    have b : 2 ^ (8 * n) * 1 ≤ 2 ^ (8 * n) * 2 ^ (8 * n) := Nat.mul_le_mul_left _ (Nat.two_pow_pos (8 * n))
    omega
  rw [hz]
  omega
end Go.Proofs.Ytjcfhlojiolhlaa
