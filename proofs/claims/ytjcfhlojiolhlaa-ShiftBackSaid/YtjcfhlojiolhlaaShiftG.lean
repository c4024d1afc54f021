/- Plain facts on bytes that are put between others and got, on fields that are set, and on bits that are turned there and back. Conditions: the numbers' bounds, as each lemma states them. -/
import Derived.Test.YtjcfhlojiolhlaaShiftF
namespace Go.Proofs.Ytjcfhlojiolhlaa
open Go.RowKit

theorem putR_len (v : Int) (n : Nat) (h : n ≤ 8) : (putR v n).size = n := by
  rw [putR_eq (by omega) (by omega), Int.toNat_natCast]
  unfold putS
  rw [strOfNums_size]
  have : ∀ k, (putI v k).length = k := by
    intro k
    induction k with
    | zero => rfl
    | succ k ih => simp [putI, ih]
  exact this _
theorem back_get {v : Int} (hv : U64 v) (n : Nat) (h : n ≤ 8) : getR (⟨#[120]⟩ ++ putR v n ++ ⟨#[121]⟩) 1 n = (fieldR v 0 (8 * n), true) := by
  obtain ⟨x, rfl⟩ := Int.eq_ofNat_of_zero_le hv.1
  rw [putR_eq (by omega) (by omega), fieldR_eq (by omega) (by omega) (by omega), Int.toNat_natCast, show (8 * (n : Int)).toNat = 8 * n by omega, show (0 : Int).toNat = 0 from rfl, half_lo, putS_eq]
  rw [show (⟨#[120]⟩ : ByteArray) = ⟨([120] : List UInt8).toArray⟩ from rfl, show (⟨#[121]⟩ : ByteArray) = ⟨([121] : List UInt8).toArray⟩ from rfl, str_append, str_append]
  unfold getR
  rw [size_str, List.length_append, List.length_append, bl_length, if_pos ⟨by omega, by omega, by omega, by simp; omega⟩, Int.toNat_natCast, show (1 : Int).toNat = 1 from rfl]
  unfold cutL
  have e : (List.drop 1 ([120] ++ bl x n ++ [121])).take n = bl x n := by
    rw [List.append_assoc, List.singleton_append, List.drop_succ_cons, List.drop_zero, List.take_append_of_le_length (by rw [bl_length]; exact Nat.le_refl _), List.take_of_length_le (by rw [bl_length]; exact Nat.le_refl _)]
  rw [e, getI_bl]

/-! ### fields -/
theorem with_parts (v f a n : Nat) : ∃ H F L : Nat, H = v / 2 ^ (a + n) ∧ F = f % 2 ^ n ∧ L = v % 2 ^ a ∧ F < 2 ^ n ∧ L < 2 ^ a ∧ withI (v : Int) a n (f : Int) = ((2 ^ (a + n) * H + (2 ^ a * F + L) : Nat) : Int) :=
  ⟨_, _, _, rfl, rfl, rfl, Nat.mod_lt _ (Nat.two_pow_pos n), Nat.mod_lt _ (Nat.two_pow_pos a), withI_nat v f a n⟩
theorem low_part (a n H F L : Nat) (hL : L < 2 ^ a) : (2 ^ (a + n) * H + (2 ^ a * F + L)) / 2 ^ a = 2 ^ n * H + F ∧ (2 ^ (a + n) * H + (2 ^ a * F + L)) % 2 ^ a = L := by
  have e : 2 ^ (a + n) * H + (2 ^ a * F + L) = L + 2 ^ a * (2 ^ n * H + F) := by rw [Nat.pow_add, Nat.mul_assoc, Nat.mul_add]; omega
  rw [e, Nat.add_mul_div_left _ _ (Nat.two_pow_pos a), Nat.add_mul_mod_self_left, Nat.div_eq_of_lt hL, Nat.mod_eq_of_lt hL]
  exact ⟨by omega, rfl⟩
theorem set_field {v f : Int} (hv : U64 v) (hf : U64 f) (a n : Nat) (h : a + n ≤ 64) : fieldR (withR v a n f) a n = fieldR f 0 n := by
  obtain ⟨x, rfl⟩ := Int.eq_ofNat_of_zero_le hv.1
  obtain ⟨y, rfl⟩ := Int.eq_ofNat_of_zero_le hf.1
  rw [withR_eq (by omega) (by omega) (by omega), fieldR_eq (by omega) (by omega) (by omega), fieldR_eq (by omega) (by omega) (by omega), Int.toNat_natCast, Int.toNat_natCast, show (0 : Int).toNat = 0 from rfl]
  obtain ⟨H, F, L, _, hF, _, lF, lL, e⟩ := with_parts x y a n
  rw [e, fieldI_nat, fieldI_nat, (low_part a n H F L lL).1, Nat.pow_zero, Nat.div_one, ← hF, Nat.add_comm, Nat.add_mul_mod_self_left, Nat.mod_eq_of_lt lF]
theorem set_below {v f : Int} (hv : U64 v) (hf : U64 f) (a n : Nat) (h : a + n ≤ 64) : fieldR (withR v a n f) 0 a = fieldR v 0 a := by
  obtain ⟨x, rfl⟩ := Int.eq_ofNat_of_zero_le hv.1
  obtain ⟨y, rfl⟩ := Int.eq_ofNat_of_zero_le hf.1
  rw [withR_eq (by omega) (by omega) (by omega), fieldR_eq (by omega) (by omega) (by omega), fieldR_eq (by omega) (by omega) (by omega), Int.toNat_natCast, Int.toNat_natCast, show (0 : Int).toNat = 0 from rfl]
  obtain ⟨H, F, L, _, _, hL, lF, lL, e⟩ := with_parts x y a n
  rw [e, fieldI_nat, fieldI_nat, Nat.pow_zero, Nat.div_one, Nat.div_one, (low_part a n H F L lL).2, hL]
theorem set_above {v f : Int} (hv : U64 v) (hf : U64 f) (a n : Nat) (h : a + n ≤ 64) : fieldR (withR v a n f) (a + n) (64 - a - n) = fieldR v (a + n) (64 - a - n) := by
  obtain ⟨x, rfl⟩ := Int.eq_ofNat_of_zero_le hv.1
  obtain ⟨y, rfl⟩ := Int.eq_ofNat_of_zero_le hf.1
  rw [withR_eq (by omega) (by omega) (by omega), fieldR_eq (by omega) (by omega) (by omega), fieldR_eq (by omega) (by omega) (by omega), Int.toNat_natCast, Int.toNat_natCast, show ((a : Int) + n).toNat = a + n by omega]
  obtain ⟨H, F, L, hH, _, _, lF, lL, e⟩ := with_parts x y a n
  have hs : 2 ^ a * F + L < 2 ^ (a + n) := by
    have h1 : 2 ^ a * (F + 1) ≤ 2 ^ a * 2 ^ n := Nat.mul_le_mul_left _ lF
    rw [← Nat.pow_add, Nat.mul_add] at h1
    omega
  rw [e, fieldI_nat, fieldI_nat, ← hH, Nat.add_comm (2 ^ (a + n) * H), Nat.add_mul_div_left _ _ (Nat.two_pow_pos _), Nat.div_eq_of_lt hs, Nat.zero_add]

/-! ### turns -/
theorem turn_add32 (v n : Int) : turnR v (n + 32) = turnR v n := by
  unfold turnR
  rw [Int.add_emod_right]
theorem turnI_32 {v : Int} (hv : U32 v) : turnI v 32 = v := by
  unfold turnI
  have h1 := hv.1
  have h2 := hv.2
  have e : (2 : Int) ^ 32 = 4294967296 := two_32
  rw [e, Int.mul_emod_left, Nat.sub_self, Int.pow_zero, Int.ediv_one]
  omega
/-- a turn of a turn, the rest of the way round -/
theorem turn_round {v : Int} (hv : U32 v) {k : Nat} (hk : k ≤ 32) : turnI (turnI v k) (32 - k) = v := by
  obtain ⟨a1, a2, a3, a4⟩ := turn_parts hv hk
  have hU := turnI_U hv hk
  have hk32 : 32 - k ≤ 32 := by omega
  obtain ⟨b1, _, _, _⟩ := turn_parts hU hk32
  have e : turnI v k = v % 2 ^ (32 - k) * 2 ^ k + v / 2 ^ (32 - k) := by unfold turnI; rw [a1]
  have hp := two_pow_pos k
  have f : turnI (turnI v k) (32 - k) = turnI v k % 2 ^ (32 - (32 - k)) * 2 ^ (32 - k) + turnI v k / 2 ^ (32 - (32 - k)) := by
    rw [show turnI (turnI v k) (32 - k) = turnI v k * 2 ^ (32 - k) % 4294967296 + turnI v k / 2 ^ (32 - (32 - k)) from rfl, b1]
  rw [f, show 32 - (32 - k) = k by omega, e]
  have d : (v % 2 ^ (32 - k) * 2 ^ k + v / 2 ^ (32 - k)) / 2 ^ k = v % 2 ^ (32 - k) := by
    rw [Int.add_comm, Int.add_mul_ediv_right _ _ (by omega), Int.ediv_eq_zero_of_lt a2 a3, Int.zero_add]
  have m : (v % 2 ^ (32 - k) * 2 ^ k + v / 2 ^ (32 - k)) % 2 ^ k = v / 2 ^ (32 - k) := by
    rw [Int.add_comm, Int.add_mul_emod_self_right, Int.emod_eq_of_lt a2 a3]
  rw [d, m, Int.mul_comm]
  exact Int.mul_ediv_add_emod v _
theorem turn_back {v : Int} (hv : U32 v) (n : Int) : turnR (turnR v n) (-n) = v := by
  unfold turnR
  by_cases h : n % 32 = 0
  · rw [h, show (-n) % 32 = 0 by omega, show (0 : Int).toNat = 0 from rfl, turn_zero hv, turn_zero hv]
  · rw [show ((-n) % 32).toNat = 32 - (n % 32).toNat by omega]
    exact turn_round hv (by omega)
theorem pcF_add (m n x y : Nat) (hy : y < 2 ^ m) : pcF (m + n) (2 ^ m * x + y) = pcF m y + pcF n x := by
  induction m generalizing y with
  | zero => obtain rfl : y = 0 := by simpa using hy
            simp [pcF]
  | succ m ih =>
    rw [show m + 1 + n = (m + n) + 1 by omega]
    have e : 2 ^ (m + 1) * x + y = 2 * (2 ^ m * x) + y := by rw [Nat.pow_succ, Nat.mul_comm (2 ^ m) 2, Nat.mul_assoc]
    have h := ih (y / 2) (by rw [Nat.pow_succ] at hy; omega)
    simp only [pcF]
    rw [e, show (2 * (2 ^ m * x) + y) / 2 = 2 ^ m * x + y / 2 by omega, h, show (2 * (2 ^ m * x) + y) % 2 = y % 2 by omega]
    omega
theorem pcF_more (m n y : Nat) (hy : y < 2 ^ m) : pcF (m + n) y = pcF m y := by
  have h := pcF_add m n 0 y hy
  rw [Nat.mul_zero, Nat.zero_add, pcF_zero, Nat.add_zero] at h
  exact h
theorem turn_count {v : Int} (hv : U32 v) (n : Int) : countI (turnR v n) = countI v := by
  unfold turnR countI
  generalize hk : (n % 32).toNat = k
  have hk32 : k ≤ 32 := by omega
  obtain ⟨a1, a2, a3, a4⟩ := turn_parts hv hk32
  obtain ⟨x, rfl⟩ := Int.eq_ofNat_of_zero_le hv.1
  have hx : x < 2 ^ 32 := by have := hv.2; omega
  have e : turnI (x : Int) k = ((2 ^ k * (x % 2 ^ (32 - k)) + x / 2 ^ (32 - k) : Nat) : Int) := by
    unfold turnI
    rw [a1, two_pow_cast, two_pow_cast, ← Int.natCast_ediv, ← Int.natCast_emod, ← Int.natCast_mul, Nat.mul_comm]
    omega
  have hhi : x / 2 ^ (32 - k) < 2 ^ k := by
    rw [two_pow_cast, two_pow_cast, ← Int.natCast_ediv] at a3
    omega
  have hlo : x % 2 ^ (32 - k) < 2 ^ (32 - k) := Nat.mod_lt _ (Nat.two_pow_pos _)
  rw [e, Int.toNat_natCast, Int.toNat_natCast]
  have c1 := pcF_add k (64 - k) (x % 2 ^ (32 - k)) (x / 2 ^ (32 - k)) hhi
  have c2 := pcF_add (32 - k) (32 + k) (x / 2 ^ (32 - k)) (x % 2 ^ (32 - k)) hlo
  rw [Nat.div_add_mod] at c2
  rw [show k + (64 - k) = 64 by omega] at c1
  rw [show 32 - k + (32 + k) = 64 by omega] at c2
  have d1 := pcF_more (32 - k) 32 _ hlo
  have d2 := pcF_more k 32 _ hhi
  rw [show 32 - k + 32 = 64 - k by omega] at d1
  rw [show k + 32 = 32 + k by omega] at d2
  rw [c1, c2, d1, d2, Nat.add_comm]
end Go.Proofs.Ytjcfhlojiolhlaa
