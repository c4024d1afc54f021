/- Plain facts on bits that are turned in a text, byte by byte, and on the world in which a text's bytes lie in memory of its own. Conditions: as each lemma states them. -/
import Derived.Test.YtbfalmbmalmfoaaCrcS
import Derived.Laws.BytesArg
import Derived.Laws.IdiomStrings
import Derived.Below
import Derived.Carry
import Derived.WalkSmall
namespace Go.Proofs.Ytbfalmbmalmfoaa
open Go.RowKit

/-- byte j of a number, the lowest first -/
def byteN (x j : Nat) : Nat := x / 2 ^ (8 * j) % 256
theorem byteN_lt (x j : Nat) : byteN x j < 256 := Nat.mod_lt _ (by decide)
theorem byteN_xor (x y j : Nat) : byteN (x ^^^ y) j = byteN x j ^^^ byteN y j := by
  unfold byteN
  have h1 : (x ^^^ y) / 2 ^ (8 * j) = (x / 2 ^ (8 * j)) ^^^ (y / 2 ^ (8 * j)) := by
    rw [← Nat.shiftRight_eq_div_pow, ← Nat.shiftRight_eq_div_pow, ← Nat.shiftRight_eq_div_pow, Nat.shiftRight_xor_distrib]
  rw [h1]
  exact Nat.xor_mod_two_pow (n := 8)
theorem byteN_pow (p j : Nat) : byteN (2 ^ p) j = if p / 8 = j then 2 ^ (p % 8) else 0 := by
  unfold byteN
  by_cases h : 8 * j ≤ p
  · have e : 2 ^ p / 2 ^ (8 * j) = 2 ^ (p - 8 * j) := Nat.pow_div h (by decide)
    rw [e]
    by_cases h2 : p / 8 = j
    · rw [if_pos h2, show p - 8 * j = p % 8 by omega]
      exact Nat.mod_eq_of_lt (Nat.pow_lt_pow_right (a := 2) (by decide) (show p % 8 < 8 by omega))
    · rw [if_neg h2, show p - 8 * j = 8 + (p - 8 * j - 8) by omega, Nat.pow_add]
      exact Nat.mul_mod_right _ _
  · have e : 2 ^ p / 2 ^ (8 * j) = 0 := Nat.div_eq_of_lt (Nat.pow_lt_pow_right (by decide) (by omega))
    rw [e, if_neg (by omega)]
/-- the bits of f below i, from place k on -/
def turnX (f k i : Nat) : Nat := 2 ^ k * (f % 2 ^ i)
theorem turnX_zero (f k : Nat) : turnX f k 0 = 0 := by unfold turnX; rw [Nat.pow_zero, Nat.mod_one, Nat.mul_zero]
theorem turnX_one (f k i : Nat) (h : f / 2 ^ i % 2 = 1) : turnX f k (i + 1) = turnX f k i ^^^ 2 ^ (k + i) := by
  unfold turnX
  have e : f % 2 ^ (i + 1) = f % 2 ^ i + 2 ^ i := by rw [Nat.pow_succ, Nat.mod_mul, h, Nat.mul_one]
  have hl : 2 ^ k * (f % 2 ^ i) < 2 ^ (k + i) := by
    rw [Nat.pow_add]
    exact Nat.mul_lt_mul_of_pos_left (Nat.mod_lt _ (Nat.two_pow_pos i)) (Nat.two_pow_pos k)
  have h2 := xor_low (k + i) (2 ^ k * (f % 2 ^ i)) 1 hl
  rw [Nat.mul_one] at h2
  rw [h2, e, Nat.mul_add, Nat.pow_add]
theorem turnX_nought (f k i : Nat) (h : f / 2 ^ i % 2 = 0) : turnX f k (i + 1) = turnX f k i := by
  unfold turnX
  rw [Nat.pow_succ, Nat.mod_mul, h, Nat.mul_zero, Nat.add_zero]
def turnB (f i : Nat) : Bool := decide (f % 2 ^ i ≠ 0)
theorem turnB_zero (f : Nat) : turnB f 0 = false := by unfold turnB; rw [Nat.pow_zero, Nat.mod_one]; decide
theorem turnB_one (f i : Nat) (h : f / 2 ^ i % 2 = 1) : turnB f (i + 1) = true := by
  unfold turnB
  have hp := Nat.two_pow_pos i
  have e : f % 2 ^ (i + 1) = f % 2 ^ i + 2 ^ i := by rw [Nat.pow_succ, Nat.mod_mul, h, Nat.mul_one]
  rw [e]
  exact decide_eq_true (by omega)
theorem turnB_nought (f i : Nat) (h : f / 2 ^ i % 2 = 0) : turnB f (i + 1) = turnB f i := by
  unfold turnB
  rw [Nat.pow_succ, Nat.mod_mul, h, Nat.mul_zero, Nat.add_zero]
/-- byte j of s with the bits of x turned -/
def turnG (s : ByteArray) (x j : Nat) : Nat := (s.data.toList.getD j 0).toNat ^^^ byteN x j
theorem turnG_lt (s : ByteArray) (x j : Nat) : turnG s x j < 256 := Nat.xor_lt_two_pow (n := 8) (UInt8.toNat_lt _) (byteN_lt x j)
theorem turnG_zero (s : ByteArray) (j : Nat) : turnG s 0 j = (s.data.toList.getD j 0).toNat := by
  unfold turnG byteN
  rw [Nat.zero_div, Nat.zero_mod, Nat.xor_zero]
theorem turnG_bit (s : ByteArray) (x p j : Nat) : turnG s (x ^^^ 2 ^ p) j = if p / 8 = j then turnG s x j ^^^ 2 ^ (p % 8) else turnG s x j := by
  unfold turnG
  rw [byteN_xor, byteN_pow]
  split
  · rw [Nat.xor_assoc]
  · rw [Nat.xor_zero]
theorem turnG_val (s : ByteArray) (x p : Nat) : bits .xor .u8 (turnG s x (p / 8) : Nat) ((2 ^ (p % 8) : Nat) : Int) = (turnG s (x ^^^ 2 ^ p) (p / 8) : Nat) := by
  rw [turnG_bit, if_pos rfl]
  exact u8_xor_nat _ _ (turnG_lt _ _ _) (Nat.pow_lt_pow_right (a := 2) (by decide) (show p % 8 < 8 by omega))
/-- the first n bytes of a number -/
def bytesN (x n : Nat) : List UInt8 := (List.range n).map fun j => UInt8.ofNat (byteN x j)
theorem byteN_succ (x j : Nat) : byteN x (j + 1) = byteN (x / 256) j := by
  unfold byteN
  rw [Nat.div_div_eq_div_mul, show 8 * (j + 1) = 8 + 8 * j by omega, Nat.pow_add]
theorem leN_bytes (n x : Nat) (h : x < 2 ^ (8 * n)) : leN (bytesN x n) = x := by
  induction n generalizing x with
  | zero =>
    rw [Nat.mul_zero, Nat.pow_zero] at h
    have : x = 0 := by omega
    subst this
    rfl
  | succ n ih =>
    have e : bytesN x (n + 1) = UInt8.ofNat (byteN x 0) :: bytesN (x / 256) n := by
      unfold bytesN
      rw [List.range_succ_eq_map, List.map_cons, List.map_map]
      congr 1
      apply List.map_congr_left
      intro j _
      show UInt8.ofNat (byteN x (j + 1)) = _
      rw [byteN_succ]
    have hx : x / 256 < 2 ^ (8 * n) := by
      rw [show 8 * (n + 1) = 8 * n + 8 by omega, Nat.pow_add] at h
      exact Nat.div_lt_of_lt_mul (by rw [Nat.mul_comm]; exact h)
    rw [e]
    show (UInt8.ofNat (byteN x 0)).toNat + 256 * leN (bytesN (x / 256) n) = x
    rw [ih _ hx, UInt8.toNat_ofNat_of_lt' (byteN_lt x 0)]
    unfold byteN
    rw [Nat.mul_zero, Nat.pow_zero, Nat.div_one]
    omega
theorem turn_list (s : ByteArray) (x : Nat) :
    (strOfNums ((List.range s.size).map fun j => ((turnG s x j : Nat) : Int))).data.toList = List.zipWith (· ^^^ ·) s.data.toList (bytesN x s.size) := by
  rw [strOfNums_data]
  have ls : s.data.toList.length = s.size := by simp
  unfold bytesN
  apply List.ext_getElem
  · simp
  · intro i h1 h2
    have hi : i < s.size := by simpa using h1
    simp only [List.getElem_map, List.getElem_range, List.getElem_zipWith]
    unfold turnG
    rw [List.getD_eq_getElem?_getD, List.getElem?_eq_getElem (by omega), Option.getD_some, Int.toNat_natCast]
    apply UInt8.toNat_inj.1
    rw [UInt8.toNat_xor, UInt8.toNat_ofNat_of_lt' (byteN_lt x i), UInt8.toNat_ofNat_of_lt' (Nat.xor_lt_two_pow (n := 8) (UInt8.toNat_lt _) (byteN_lt x i))]
theorem turn_sum (s : ByteArray) (f k i : Nat) (hk : k ≤ 8 * s.size) (hf : f < 4294967296) (hi : k + i ≤ 8 * s.size) (he : ¬ (i < 32 ∧ k + i < 8 * s.size)) :
    (sumR (strOfNums ((List.range s.size).map fun j => ((turnG s (turnX f k i) j : Nat) : Int))) = sumR s) ↔ f % 2 ^ i = 0 := by
  have ef : f % 2 ^ (8 * s.size - k) = f % 2 ^ i := by
    by_cases h : i < 32
    · rw [show 8 * s.size - k = i by omega]
    · have h1 : f < 2 ^ i := Nat.lt_of_lt_of_le hf (Nat.pow_le_pow_right (n := 2) (by decide) (show 32 ≤ i by omega))
      have h2 : f < 2 ^ (8 * s.size - k) := Nat.lt_of_lt_of_le h1 (Nat.pow_le_pow_right (by decide) (by omega))
      rw [Nat.mod_eq_of_lt h1, Nat.mod_eq_of_lt h2]
  have lb : (bytesN (turnX f k i) s.size).length = s.size := by simp [bytesN]
  have hX : turnX f k i < 2 ^ (8 * s.size) := by
    unfold turnX
    refine Nat.lt_of_lt_of_le (Nat.mul_lt_mul_of_pos_left (Nat.mod_lt _ (Nat.two_pow_pos i)) (Nat.two_pow_pos k)) ?_
    rw [← Nat.pow_add]
    exact Nat.pow_le_pow_right (by decide) hi
  have h := csum_turned s.data.toList (bytesN (turnX f k i) s.size) f k (by rw [lb]; simp) (by rw [lb]; exact hk) hf (by rw [lb, ef, leN_bytes _ _ hX]; rfl)
  rw [lb, ef] at h
  unfold sumR
  rw [turn_list]
  exact h

theorem bit_val (f m : Nat) (hf : f < 4294967296) : bits .and .u32 ((f : Int) / 2 ^ m) 1 = ((f / 2 ^ m % 2 : Nat) : Int) := by
  have hd : f / 2 ^ m < 4294967296 := Nat.lt_of_le_of_lt (Nat.div_le_self _ _) hf
  have e0 : ((f : Int) / 2 ^ m) = ((f / 2 ^ m : Nat) : Int) := by simp
  rw [e0, and1_u32 _ hd]
/-! ### the world -/
/-- block number w.heap.size, which w did not have, holds n bytes g, and all else of w is as it was -/
def TB (w wr : World) (g : Nat → Nat) (n : Nat) : Prop :=
  (∀ i, i < n → wr.cell? ⟨w.heap.size, i, none⟩ = some (.int .u8 (g i : Nat)) ∧ wr.frozen? ⟨w.heap.size, i, none⟩ = false) ∧ Below w.heap.size w wr
theorem below_draws1 (w : World) : Below w.heap.size w w.drew := below_drewN (Below.refl _ _) 1
theorem TB.set {w wr : World} {g : Nat → Nat} {n : Nat} (h : TB w wr g n) (g' : Nat → Nat) (j : Nat) (hj : j < n) (hg : ∀ i, i ≠ j → g' i = g i) : TB w (wr.setCell ⟨w.heap.size, j, none⟩ (.int .u8 (g' j : Nat))) g' n := by
  refine ⟨fun i hi => ?_, h.2.setCell (Nat.le_refl _) _⟩
  by_cases e : i = j
  · subst e
    refine ⟨World.cell?_setCell_same _ _ _ (h.1 i hi).1, ?_⟩
    rw [World.frozen?_setCell]
    exact (h.1 i hi).2
  · rw [World.cell?_setCell_other _ _ _ _ (show (⟨w.heap.size, j, none⟩ : Addr) ≠ ⟨w.heap.size, i, none⟩ from fun c => e (by injection c with _ c2 _; exact c2.symm)), World.frozen?_setCell, hg i e]
    exact h.1 i hi
theorem turn_step (s : ByteArray) (f k m : Nat) (h : f / 2 ^ m % 2 = 1) :
    bits .xor .u8 (turnG s (turnX f k m) ((k + m) / 8) : Nat) ((2 : Int) ^ ((k + m) % 8) % 256) = (turnG s (turnX f k (m + 1)) ((k + m) / 8) : Nat) := by
  have hp : 2 ^ ((k + m) % 8) < 256 := Nat.pow_lt_pow_right (a := 2) (by decide) (show (k + m) % 8 < 8 by omega)
  have e : ((2 : Int) ^ ((k + m) % 8) % 256) = ((2 ^ ((k + m) % 8) : Nat) : Int) := by
    rw [show (2 : Int) ^ ((k + m) % 8) = ((2 ^ ((k + m) % 8) : Nat) : Int) by simp]
    generalize 2 ^ ((k + m) % 8) = z at *
    omega
  rw [e, turnX_one f k m h]
  exact turnG_val s _ _
theorem turn_rest (s : ByteArray) (f k m : Nat) (h : f / 2 ^ m % 2 = 1) (i : Nat) (hi : i ≠ (k + m) / 8) : turnG s (turnX f k (m + 1)) i = turnG s (turnX f k m) i := by
  rw [turnX_one f k m h, turnG_bit, if_neg (fun c => hi c.symm)]
theorem tb_string {w wr : World} {g : Nat → Nat} {n : Nat} (h : TB w wr g n) (C : Nat) :
    (convert 37 9 (.slice (some ⟨w.heap.size, 0, none⟩) n C)).run Try.prog wr = .ok (.string (strOfNums ((List.range n).map fun j => ((g j : Nat) : Int)))) wr := by
  refine run_convert_bytes_arg _ 37 5 Try.underlying37 Try.underlying5 w.heap.size 0 n C _ (by simp) ?_ 9 Try.underlying9
  intro i hi
  rw [Nat.zero_add, (h.1 i hi).1]
  simp [hi]
theorem bytesRow_ge (s : ByteArray) (C : Nat) : s.size ≤ (bytesRow s C).size := by
  unfold bytesRow
  rw [Array.size_append, Array.size_map]
  exact Nat.le_add_right _ _
theorem tb_start (s : ByteArray) (w : World) (C a b : Nat) (ha : s.size ≤ a) : TB w (w.drew.alloc (.cells (bytesRow s C) 5 (a, b))) (turnG s 0) s.size := by
  refine ⟨fun i hi => ?_, (below_draws1 w).alloc (Nat.le_refl _) _⟩
  have hb : (w.drew.alloc (.cells (bytesRow s C) 5 (a, b))).heap[w.heap.size]? = some (.cells (bytesRow s C) 5 (a, b)) := heap_alloc_new w.drew _
  have hc : (bytesRow s C)[i]? = some (.int .u8 (turnG s 0 i : Nat)) := by
    have hi' : i < s.data.size := hi
    unfold bytesRow
    have e : s.data.toList.getD i 0 = s.data[i] := by
      rw [List.getD_eq_getElem?_getD, List.getElem?_eq_getElem (by simpa using hi')]
      rfl
    rw [Array.getElem?_append_left (by simpa using hi'), Array.getElem?_map, Array.getElem?_eq_getElem hi', turnG_zero, e]
    rfl
  refine ⟨by rw [cell_of_row _ _ _ _ _ _ hb]; exact hc, ?_⟩
  unfold World.frozen?
  rw [hb]
  simp
  omega
end Go.Proofs.Ytbfalmbmalmfoaa
