/- Plain facts on frames of which some bits side by side are turned over. Conditions: the bits lie in the text, or in the sum alone; the sizes, as each lemma states them. -/
import Derived.Test.YtbfalmbmalmfoaaFrmE
import Derived.Test.YtbfalmbmalmfoaaCrcG
namespace Go.Proofs.Ytbfalmbmalmfoaa
open Go.RowKit

theorem bytesN_add (x a b : Nat) : bytesN x (a + b) = bytesN x a ++ bytesN (x / 2 ^ (8 * a)) b := by
  unfold bytesN
  rw [List.range_add, List.map_append, List.map_map]
  congr 1
  apply List.map_congr_left
  intro j _
  show UInt8.ofNat (byteN x (a + j)) = _
  unfold byteN
  rw [Nat.div_div_eq_div_mul, ← Nat.pow_add, Nat.mul_add]
theorem bytesN_zero (x a : Nat) (h : x % 2 ^ (8 * a) = 0) : bytesN x a = List.replicate a 0 := by
  refine List.eq_replicate_iff.2 ⟨by simp [bytesN], fun b hb => ?_⟩
  unfold bytesN at hb
  obtain ⟨j, hj, rfl⟩ := List.mem_map.1 hb
  have hj := List.mem_range.1 hj
  obtain ⟨q, rfl⟩ := Nat.dvd_of_mod_eq_zero h
  have e : 2 ^ (8 * a) = 2 ^ (8 * j) * (256 * 2 ^ (8 * (a - j - 1))) := by
    rw [show 256 = 2 ^ 8 from rfl, ← Nat.pow_add, ← Nat.pow_add]
    congr 1
    omega
  unfold byteN
  rw [e, Nat.mul_assoc, Nat.mul_div_cancel_left _ (Nat.two_pow_pos _), Nat.mul_assoc, Nat.mul_mod_right]
  rfl
theorem bytesN_length (x a : Nat) : (bytesN x a).length = a := by simp [bytesN]
theorem zip_zero (l : List UInt8) : List.zipWith (· ^^^ ·) l (List.replicate l.length 0) = l := by
  induction l with
  | nil => rfl
  | cons c l ih => simp [List.replicate_succ, ih]
theorem zip_same (l d : List UInt8) (hl : l.length = d.length) (h : List.zipWith (· ^^^ ·) l d = l) : leN d = 0 := by
  induction l generalizing d with
  | nil =>
    obtain rfl : d = [] := by simpa using hl.symm
    rfl
  | cons c l ih =>
    cases d with
    | nil => simp at hl
    | cons e d =>
      simp only [List.zipWith_cons_cons, List.cons.injEq] at h
      have h1 := ih d (by simpa using hl) h.2
      have h2 : e.toNat = 0 := by
        have h3 := congrArg UInt8.toNat h.1
        rw [UInt8.toNat_xor] at h3
        have h4 : c.toNat ^^^ (c.toNat ^^^ e.toNat) = c.toNat ^^^ c.toNat := by rw [h3]
        rwa [← Nat.xor_assoc, Nat.xor_self, Nat.zero_xor] at h4
      unfold leN
      rw [h1, h2]
theorem getI_inj (l m : List UInt8) (h : l.length = m.length) (e : getI l = getI m) : l = m := by
  induction l generalizing m with
  | nil =>
    obtain rfl : m = [] := by simpa using h.symm
    rfl
  | cons c l ih =>
    cases m with
    | nil => simp at h
    | cons d m =>
      have hlm : l.length = m.length := by simpa using h
      rw [getI_cons, getI_cons, hlm] at e
      obtain ⟨a0, a1⟩ := getI_bound l
      obtain ⟨b0, b1⟩ := getI_bound m
      rw [hlm] at a1
      have hp : (0 : Int) < 256 ^ m.length := Int.pow_pos (by decide)
      generalize (256 : Int) ^ m.length = M at *
      have q1 : ((c.toNat : Int) * M + getI l) / M = c.toNat := by rw [Int.add_comm, Int.add_mul_ediv_right _ _ (by omega), Int.ediv_eq_zero_of_lt a0 a1, Int.zero_add]
      have q2 : ((d.toNat : Int) * M + getI m) / M = d.toNat := by rw [Int.add_comm, Int.add_mul_ediv_right _ _ (by omega), Int.ediv_eq_zero_of_lt b0 b1, Int.zero_add]
      rw [e, q2] at q1
      have hcd : c = d := UInt8.toNat_inj.1 (by omega)
      subst hcd
      rw [ih m hlm (by omega)]
theorem turnX_div (f k m c : Nat) (h : c ≤ k) : turnX f k m / 2 ^ c = turnX f (k - c) m := by
  unfold turnX
  rw [show 2 ^ k = 2 ^ c * 2 ^ (k - c) by rw [← Nat.pow_add, Nat.add_sub_cancel' h], Nat.mul_assoc, Nat.mul_div_cancel_left _ (Nat.two_pow_pos _)]
theorem turnX_mod (f k m c : Nat) (h : c ≤ k) : turnX f k m % 2 ^ c = 0 := by
  unfold turnX
  rw [show 2 ^ k = 2 ^ c * 2 ^ (k - c) by rw [← Nat.pow_add, Nat.add_sub_cancel' h], Nat.mul_assoc, Nat.mul_mod_right]
theorem turnX_lt (f k m c : Nat) (h : k + m ≤ c) : turnX f k m < 2 ^ c := by
  unfold turnX
  refine Nat.lt_of_lt_of_le (Nat.mul_lt_mul_of_pos_left (Nat.mod_lt _ (Nat.two_pow_pos m)) (Nat.two_pow_pos k)) ?_
  rw [← Nat.pow_add]
  exact Nat.pow_le_pow_right (by decide) h
/-- the frame of s with the bits of x turned -/
def frX (s : ByteArray) (x : Nat) : ByteArray := strOfNums ((List.range (frR s).size).map fun j => ((turnG (frR s) x j : Nat) : Int))
theorem frX_list (s : ByteArray) (x : Nat) (h : x % 2 ^ 32 = 0) :
    (frX s x).data.toList = bl s.size 4 ++ (List.zipWith (· ^^^ ·) (bl (sumR (lenB s ++ s)) 4) (bytesN (x / 2 ^ 32) 4) ++ (List.zipWith (· ^^^ ·) s.data.toList (bytesN (x / 2 ^ 64) s.size) ++ [])) := by
  unfold frX
  rw [turn_list, frR_size, frR_list, show 8 + s.size = 4 + (4 + s.size) by omega, bytesN_add, bytesN_add, bytesN_zero x 4 (by rw [show 8 * 4 = 32 from rfl]; exact h), Nat.div_div_eq_div_mul, ← Nat.pow_add, show 8 * 4 + 8 * 4 = 64 from rfl, show 8 * 4 = 32 from rfl, List.append_nil, List.append_nil]
  rw [List.zipWith_append (by rw [bl_length, List.length_replicate]), List.zipWith_append (by rw [bl_length, bytesN_length])]
  have h4 := zip_zero (bl s.size 4)
  rw [bl_length] at h4
  rw [h4]
theorem open_of (f : ByteArray) (n : Nat) (hf : f.size = 8 + n) (t : ByteArray) (c : Prop) [Decidable c] (h : nextR f = if c then (t, 8 + (n : Int), 0) else (⟨#[]⟩, 0, 12)) : (openR f).2 = if c then 0 else 12 := by
  unfold openR
  rw [h]
  split
  · next hc => rw [if_neg (by simp), if_neg]
               rw [hf]
               show ¬ (8 + (n : Int) < ((8 + n : Nat) : Int))
               omega
  · next hc => rw [if_pos (by simp)]
theorem frX_size (s : ByteArray) (x : Nat) : (frX s x).size = 8 + s.size := by
  unfold frX
  rw [strOfNums_size, List.length_map, List.length_range, frR_size]
theorem sum_get (s : ByteArray) : getI (bl (sumR (lenB s ++ s)) 4) = (csum (bl s.size 4 ++ s.data.toList) : Nat) := by
  rw [getI_bl, Nat.mod_eq_of_lt (show sumR (lenB s ++ s) < 256 ^ 4 from sumR_lt _)]
  unfold sumR
  rw [list_app, lenB_list]
theorem frX_text (s : ByteArray) (f k m : Nat) (hs : s.size ≤ 65536) (hf : f < 4294967296) (hk : 64 ≤ k) (hm : k + m ≤ 8 * (8 + s.size)) (he : ¬ (m < 32 ∧ k + m < 8 * (8 + s.size))) :
    (openR (frX s (turnX f k m))).2 = if f % 2 ^ m = 0 then 0 else 12 := by
  have hl := frX_list s (turnX f k m) (turnX_mod f k m 32 (by omega))
  rw [turnX_div f k m 32 (by omega), turnX_div f k m 64 hk, bytesN_zero (turnX f (k - 32) m) 4 (by rw [show 8 * 4 = 32 from rfl]; exact turnX_mod _ _ _ _ (by omega))] at hl
  have h4 := zip_zero (bl (sumR (lenB s ++ s)) 4)
  rw [bl_length] at h4
  rw [h4] at hl
  have hn := frame_next s.size hs _ _ _ _ hl (bl_length _ _) (by rw [List.length_zipWith, bytesN_length, ← size_list, Nat.min_self])
  have h := open_of _ s.size (frX_size _ _) _ _ hn
  rw [h]
  -- the sum of the length and the turned text
  have hu : (lenB s ++ s).size = 4 + s.size := by rw [ByteArray.size_append, lenB_size]
  have ht := turn_sum (lenB s ++ s) f (k - 32) m (by omega) hf (by omega) (by omega)
  have hU : (strOfNums ((List.range (lenB s ++ s).size).map fun j => ((turnG (lenB s ++ s) (turnX f (k - 32) m) j : Nat) : Int))).data.toList = bl s.size 4 ++ List.zipWith (· ^^^ ·) s.data.toList (bytesN (turnX f (k - 64) m) s.size) := by
    rw [turn_list, hu, list_app, lenB_list, bytesN_add, bytesN_zero (turnX f (k - 32) m) 4 (by rw [show 8 * 4 = 32 from rfl]; exact turnX_mod _ _ _ _ (by omega)), show 8 * 4 = 32 from rfl, turnX_div _ _ _ 32 (by omega), show k - 32 - 32 = k - 64 by omega]
    rw [List.zipWith_append (by rw [bl_length, List.length_replicate])]
    have h4 := zip_zero (bl s.size 4)
    rw [bl_length] at h4
    rw [h4]
  have e1 : (csum (bl s.size 4 ++ List.zipWith (· ^^^ ·) s.data.toList (bytesN (turnX f (k - 64) m) s.size)) = csum (bl s.size 4 ++ s.data.toList)) ↔ f % 2 ^ m = 0 := by
    rw [← ht]
    unfold sumR
    rw [hU, list_app, lenB_list]
  rw [sum_get]
  by_cases hz : f % 2 ^ m = 0
  · rw [if_pos hz, if_pos (by rw [e1.2 hz])]
  · rw [if_neg hz, if_neg (fun c => hz (e1.1 (by omega)))]
theorem frX_sum (s : ByteArray) (f k m : Nat) (hs : s.size ≤ 65536) (hk : 32 ≤ k) (hm : k + m ≤ 64) :
    (openR (frX s (turnX f k m))).2 = if f % 2 ^ m = 0 then 0 else 12 := by
  have hl := frX_list s (turnX f k m) (turnX_mod f k m 32 hk)
  have hY : turnX f k m / 2 ^ 64 = 0 := Nat.div_eq_of_lt (turnX_lt _ _ _ _ hm)
  rw [turnX_div f k m 32 hk, hY, bytesN_zero 0 s.size (Nat.zero_mod _)] at hl
  have h4 := zip_zero s.data.toList
  rw [← size_list] at h4
  rw [h4] at hl
  have hn := frame_next s.size hs _ _ _ _ hl (by rw [List.length_zipWith, bl_length, bytesN_length]; rfl) (size_list s).symm
  have h := open_of _ s.size (frX_size _ _) _ _ hn
  rw [h, ← sum_get]
  have hlt : turnX f (k - 32) m < 2 ^ (8 * 4) := turnX_lt _ _ _ _ (by omega)
  by_cases hz : f % 2 ^ m = 0
  · have e0 : turnX f (k - 32) m = 0 := by unfold turnX; rw [hz, Nat.mul_zero]
    rw [if_pos hz, e0, bytesN_zero 0 4 (Nat.zero_mod _)]
    have h5 := zip_zero (bl (sumR (lenB s ++ s)) 4)
    rw [bl_length] at h5
    rw [h5, if_pos rfl]
  · rw [if_neg hz, if_neg]
    intro c
    have h6 := getI_inj _ _ (by rw [List.length_zipWith, bl_length, bytesN_length]; rfl) c
    have h7 := zip_same _ _ (by rw [bl_length, bytesN_length]) h6
    rw [leN_bytes 4 _ hlt] at h7
    unfold turnX at h7
    rcases Nat.mul_eq_zero.1 h7 with h8 | h8
    · have := Nat.two_pow_pos (k - 32); omega
    · exact hz h8
end Go.Proofs.Ytbfalmbmalmfoaa
