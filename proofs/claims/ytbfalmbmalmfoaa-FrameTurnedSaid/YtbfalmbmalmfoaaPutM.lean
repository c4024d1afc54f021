/- Plain facts on the bytes that Put makes and that Get reads. Conditions: the numbers' bounds, as each lemma states them. -/
import Derived.Test.YtbfalmbmalmfoaaShiftC
import Derived.Test.YtbfalmbmalmfoaaShiftD
namespace Go.Proofs.Ytbfalmbmalmfoaa
open Go.RowKit

/-- the n lowest bytes of a number, as bytes -/
def bl (x : Nat) : Nat → List UInt8
  | 0 => []
  | n + 1 => UInt8.ofNat (x / 256 ^ n % 256) :: bl x n
theorem bl_length (x n : Nat) : (bl x n).length = n := by
  induction n with
  | zero => rfl
  | succ n ih => simp [bl, ih]
theorem putI_nat (x n : Nat) : (putI (x : Int) n).map (fun k => UInt8.ofNat k.toNat) = bl x n := by
  induction n with
  | zero => rfl
  | succ n ih =>
    have e : ((x : Int) / 256 ^ n % 256).toNat = x / 256 ^ n % 256 := by
      have : ((x : Int) / 256 ^ n % 256) = ((x / 256 ^ n % 256 : Nat) : Int) := by simp
      rw [this, Int.toNat_natCast]
    simp [putI, bl, ih, e]
theorem putS_list (x n : Nat) : (putS (x : Int) n).data.toList = bl x n := by
  rw [putS, strOfNums_data, putI_nat]
theorem putS_eq (x n : Nat) : putS (x : Int) n = ⟨(bl x n).toArray⟩ := by
  unfold putS strOfNums
  rw [putI_nat]
theorem bl_add (x a b : Nat) : bl x (a + b) = bl (x / 256 ^ b) a ++ bl x b := by
  induction a with
  | zero => simp [bl]
  | succ a ih =>
    rw [show a + 1 + b = (a + b) + 1 by omega]
    simp only [bl, List.cons_append, ih]
    rw [Nat.div_div_eq_div_mul, ← Nat.pow_add, Nat.add_comm b a]
theorem digit_mod (x n k : Nat) (h : n < k) : x % 256 ^ k / 256 ^ n % 256 = x / 256 ^ n % 256 := by
  obtain ⟨t, rfl⟩ : ∃ t, k = n + (1 + t) := ⟨k - n - 1, by omega⟩
  rw [Nat.pow_add, Nat.mod_mul_right_div_self]
  exact Nat.mod_mod_of_dvd _ ⟨256 ^ t, by rw [Nat.pow_add]⟩
theorem bl_mod (x n k : Nat) (h : n ≤ k) : bl (x % 256 ^ k) n = bl x n := by
  induction n with
  | zero => rfl
  | succ n ih => simp only [bl]; rw [ih (by omega), digit_mod x n k (by omega)]
theorem getI_from (l : List UInt8) (a : Int) : l.foldl (fun a c => a * 256 + (c.toNat : Int)) a = a * 256 ^ l.length + getI l := by
  induction l generalizing a with
  | nil => simp [getI]
  | cons c l ih =>
    have g : getI (c :: l) = (c.toNat : Int) * 256 ^ l.length + getI l := by
      show l.foldl (fun a c => a * 256 + (c.toNat : Int)) (0 * 256 + (c.toNat : Int)) = _
      rw [ih, Int.zero_mul, Int.zero_add]
    rw [List.foldl_cons, ih, g, List.length_cons, Int.pow_succ, Int.add_mul, Int.mul_assoc, Int.mul_comm 256 (256 ^ l.length), Int.add_assoc]
theorem getI_cons (c : UInt8) (l : List UInt8) : getI (c :: l) = (c.toNat : Int) * 256 ^ l.length + getI l := by
  show l.foldl (fun a c => a * 256 + (c.toNat : Int)) (0 * 256 + (c.toNat : Int)) = _
  rw [getI_from, Int.zero_mul, Int.zero_add]
theorem getI_bl (x n : Nat) : getI (bl x n) = ((x % 256 ^ n : Nat) : Int) := by
  induction n with
  | zero => simp [bl, getI, Nat.mod_one]
  | succ n ih =>
    rw [bl, getI_cons, ih, bl_length]
    have e : (UInt8.ofNat (x / 256 ^ n % 256)).toNat = x / 256 ^ n % 256 := by
      simp
    have m : x % 256 ^ (n + 1) = x % 256 ^ n + 256 ^ n * (x / 256 ^ n % 256) := by rw [Nat.pow_succ, Nat.mod_mul]
    rw [e, m]
    simp only [Int.natCast_add, Int.natCast_mul, Int.natCast_pow]
    rw [Int.mul_comm, Int.add_comm]
    rfl
theorem putR_eq {v n : Int} (h0 : 0 ≤ n) (h1 : n ≤ 8) : putR v n = putS v n.toNat := if_pos ⟨h0, h1⟩
theorem str_append (a b : List UInt8) : (⟨a.toArray⟩ : ByteArray) ++ ⟨b.toArray⟩ = ⟨(a ++ b).toArray⟩ := by
  apply ByteArray.ext
  rw [ByteArray.data_append]
  exact Array.toList_inj.1 (by simp)
theorem size_str (l : List UInt8) : (⟨l.toArray⟩ : ByteArray).size = l.length := by simp [ByteArray.size]
theorem putR_len (v : Int) (n : Nat) (h : n ≤ 8) : (putR v n).size = n := by
  rw [putR_eq (by omega) (by omega), Int.toNat_natCast]
  unfold putS
  rw [strOfNums_size]
  have : ∀ k, (putI v k).length = k := by
    intro k
    induction k with
    | zero => rfl
    | succ k ih => simp [putI, ih]
  exact this _
end Go.Proofs.Ytbfalmbmalmfoaa
