/- What shift's Get and the document's own answer to it return, as plain numbers. Conditions: the arguments are values of their kinds; what is taken from is no longer than a string may be. -/
import Derived.Test.YtbiihcoobknmjaaGb
import Derived.Test.YtbiihcoobknmjaaJNumB
set_option linter.unusedVariables false
namespace Go.Proofs.Ytbiihcoobknmjaa
open Go.RowKit

/-- the number that bytes are, the highest of them first -/
def getI (l : List UInt8) : Int := l.foldl (fun a c => a * 256 + (c.toNat : Int)) 0
theorem getI_snoc (l : List UInt8) (c : UInt8) : getI (l ++ [c]) = getI l * 256 + (c.toNat : Int) := by simp [getI]
theorem getI_bound (l : List UInt8) : 0 ≤ getI l ∧ getI l < 256 ^ l.length := by
  rw [← List.reverse_reverse l]
  generalize l.reverse = r
  induction r with
  | nil => simp [getI]
  | cons c r ih =>
    rw [List.reverse_cons, getI_snoc]
    obtain ⟨h0, h1⟩ := ih
    have hc : (c.toNat : Int) < 256 := by have := c.toNat_lt; omega
    refine ⟨by omega, ?_⟩
    rw [List.length_append, List.length_singleton, Int.pow_succ]
    omega
def cutL (s : ByteArray) (a k : Nat) : List UInt8 := (s.data.toList.drop a).take k
theorem cutL_zero (s : ByteArray) (a : Nat) : cutL s a 0 = [] := by simp [cutL]
theorem cutL_succ (s : ByteArray) (a k : Nat) (h : a + k < s.size) : cutL s a (k + 1) = cutL s a k ++ [s[a + k]] := by
  have h' : k < (s.data.toList.drop a).length := by simp; omega
  unfold cutL
  rw [List.take_succ_eq_append_getElem h', List.getElem_drop]
  rfl
theorem cutL_length (s : ByteArray) (a k : Nat) (h : a + k ≤ s.size) : (cutL s a k).length = k := by
  unfold cutL
  rw [List.length_take, List.length_drop]
  have : s.data.toList.length = s.size := by simp
  omega
theorem getI_cut_lt (s : ByteArray) (a k : Nat) (h : a + k ≤ s.size) (hk : k ≤ 7) : 0 ≤ getI (cutL s a k) ∧ getI (cutL s a k) < 72057594037927936 := by
  obtain ⟨h0, h1⟩ := getI_bound (cutL s a k)
  rw [cutL_length s a k h] at h1
  have h2 : ∀ j, j ≤ 7 → (256 : Int) ^ j ≤ 72057594037927936 := by decide
  exact ⟨h0, Int.lt_of_lt_of_le h1 (h2 k hk)⟩
def getR (s : ByteArray) (a n : Int) : Int × Bool :=
  if 0 ≤ n ∧ n ≤ 8 ∧ 0 ≤ a ∧ a ≤ s.size - n then (getI (cutL s a.toNat n.toNat), true) else (0, false)
theorem wrap_byte (c : UInt8) : IntKind.u64.wrap (c.toNat : Int) = (c.toNat : Int) := wrapU_in ⟨by omega, by have := c.toNat_lt; omega⟩
theorem or_byte {x c : Int} (h0 : 0 ≤ x) (h1 : x < 72057594037927936) (c0 : 0 ≤ c) (c1 : c < 256) : bits .or .u64 (IntKind.u64.wrap (x * 256)) c = x * 256 + c := by
  rw [wrapU_in ⟨by omega, by omega⟩, u64_or _ _ (by omega) (by omega) c0 (by omega), nat_join 8]
  · omega
  · omega
  · omega
theorem add_byte {x c : Int} (h0 : 0 ≤ x) (h1 : x < 72057594037927936) (c0 : 0 ≤ c) (c1 : c < 256) : IntKind.u64.wrap (IntKind.u64.wrap (x * 256) + c) = x * 256 + c := by
  rw [wrapU_in (v := x * 256) ⟨by omega, by omega⟩, wrapU_in ⟨by omega, by omega⟩]

set_option maxHeartbeats 400000 in
theorem get_in (s : ByteArray) (a n : Nat) (hs : s.size ≤ maxLen) (hn : n ≤ 8) (ha : a + n ≤ s.size) (w : World) :
    Calls Try.prog 51 #[.string s, .int .i64 a, .int .i64 n] w fun e w' => e = .returned (.tuple #[.int .u64 (getI (cutL s a n)), .bool true]) ∧ w = w' := by
  unfold maxLen at hs
  have b1 : (n : Int) ≤ 8 := by omega
  have b2 : (a : Int) ≤ (s.size : Int) - n := by omega
  go_enter Try.func51, Try.ntmps51
  go_wp2
  go_loop [8, 26] (fun v i => ∃ k : Nat, k ≤ n ∧ i = .int .i64 k ∧ v = .int .u64 (getI (cutL s a k))) (fun _ i => n - (intOf i).toNat)
  case atStart => exact ⟨0, Nat.zero_le _, rfl, by rw [cutL_zero]; rfl⟩
  case round =>
    obtain ⟨k, hk, rfl, rfl⟩ := hrel
    by_cases hlt : k < n
    · have hak : a + k < s.size := by omega
      obtain ⟨g0, g1⟩ := getI_cut_lt s a k (by omega) (by omega)
      have H := Lib.hid (show getI (cutL s a (k + 1)) = bits .or .u64 (IntKind.u64.wrap (getI (cutL s a k) * 256)) (s[a + k].toNat : Int) by rw [cutL_succ s a k hak, getI_snoc, or_byte g0 g1 (by omega) (by have := s[a + k].toNat_lt; omega)])
      clear g0 g1
      go_wp2
      go_round
      case rel => exact ⟨k + 1, by omega, by go_num, by rw [wrap_byte, H.out]⟩
      case measure => simp [intOf]; omega
    · obtain rfl : k = n := by omega
      go_wp2
      go_ret2
      exact ⟨rfl, rfl⟩

theorem get_any (s : ByteArray) (a n : Int) (hs : s.size ≤ maxLen) (hn : -9223372036854775808 ≤ n) (hn' : n ≤ 9223372036854775807) (w : World) :
    Calls Try.prog 51 #[.string s, .int .i64 a, .int .i64 n] w fun e w' => e = .returned (.tuple #[.int .u64 (getR s a n).1, .bool (getR s a n).2]) ∧ w = w' := by
  by_cases h : 0 ≤ n ∧ n ≤ 8 ∧ 0 ≤ a ∧ a ≤ s.size - n
  · obtain ⟨h1, h2, h3, h4⟩ := h
    rw [show getR s a n = (getI (cutL s a.toNat n.toNat), true) from if_pos ⟨h1, h2, h3, h4⟩]
    obtain ⟨n, rfl⟩ := Int.eq_ofNat_of_zero_le h1
    obtain ⟨a, rfl⟩ := Int.eq_ofNat_of_zero_le h3
    exact get_in s a n hs (by omega) (by omega) w
  · rw [show getR s a n = (0, false) from if_neg h]
    unfold maxLen at hs
    by_cases h1 : 0 ≤ n
    · by_cases h2 : n ≤ 8
      · by_cases h3 : 0 ≤ a
        · have h4 : ¬ a ≤ s.size - n := fun x => h ⟨h1, h2, h3, x⟩
          clear h
          go_enter Try.func51, Try.ntmps51
          go_wp2
          go_ret2
          exact ⟨rfl, rfl⟩
        · clear h
          go_enter Try.func51, Try.ntmps51
          go_wp2
          go_ret2
          exact ⟨rfl, rfl⟩
      · clear h
        go_enter Try.func51, Try.ntmps51
        go_wp2
        go_ret2
        exact ⟨rfl, rfl⟩
    · clear h
      go_enter Try.func51, Try.ntmps51
      go_wp2
      go_ret2
      exact ⟨rfl, rfl⟩

set_option maxHeartbeats 400000 in
theorem refGet_in (s : ByteArray) (a n : Nat) (hs : s.size ≤ maxLen) (hn : n ≤ 8) (ha : a + n ≤ s.size) (w : World) :
    Calls Try.prog 54 #[.string s, .int .i64 a, .int .i64 n] w fun e w' => e = .returned (.tuple #[.int .u64 (getI (cutL s a n)), .bool true]) ∧ w = w' := by
  unfold maxLen at hs
  have b1 : (n : Int) ≤ 8 := by omega
  have b2 : (a : Int) ≤ (s.size : Int) := by omega
  have b3 : (n : Int) ≤ (s.size : Int) - a := by omega
  have d1 : decide ((n : Int) < 0) = false := by simp
  have d2 : decide ((8 : Int) < n) = false := by simp; omega
  have d3 : decide ((a : Int) < 0) = false := by simp
  have d4 : decide (s.size < a) = false := by simp; omega
  have d5 : decide ((s.size : Int) - a < n) = false := by simp; omega
  go_enter Try.func54, Try.ntmps54
  go_wp2
  go_loop [8, 9] (fun v i => ∃ k : Nat, k ≤ n ∧ i = .int .i64 k ∧ v = .int .u64 (getI (cutL s a k))) (fun _ i => n - (intOf i).toNat)
  case atStart => exact ⟨0, Nat.zero_le _, rfl, by rw [cutL_zero]; rfl⟩
  case round =>
    obtain ⟨k, hk, rfl, rfl⟩ := hrel
    by_cases hlt : k < n
    · have hak : a + k < s.size := by omega
      obtain ⟨g0, g1⟩ := getI_cut_lt s a k (by omega) (by omega)
      have H := Lib.hid (show getI (cutL s a (k + 1)) = IntKind.u64.wrap (IntKind.u64.wrap (getI (cutL s a k) * 256) + (s[a + k].toNat : Int)) by rw [cutL_succ s a k hak, getI_snoc, add_byte g0 g1 (by omega) (by have := s[a + k].toNat_lt; omega)])
      clear g0 g1
      go_wp2
      go_round
      case rel => exact ⟨k + 1, by omega, by go_num, by rw [wrap_byte, H.out]⟩
      case measure => simp [intOf]; omega
    · obtain rfl : k = n := by omega
      go_wp2
      go_ret2
      exact ⟨rfl, rfl⟩

theorem refGet_any (s : ByteArray) (a n : Int) (hs : s.size ≤ maxLen) (hn : -9223372036854775808 ≤ n) (hn' : n ≤ 9223372036854775807) (w : World) :
    Calls Try.prog 54 #[.string s, .int .i64 a, .int .i64 n] w fun e w' => e = .returned (.tuple #[.int .u64 (getR s a n).1, .bool (getR s a n).2]) ∧ w = w' := by
  by_cases h : 0 ≤ n ∧ n ≤ 8 ∧ 0 ≤ a ∧ a ≤ s.size - n
  · obtain ⟨h1, h2, h3, h4⟩ := h
    rw [show getR s a n = (getI (cutL s a.toNat n.toNat), true) from if_pos ⟨h1, h2, h3, h4⟩]
    obtain ⟨n, rfl⟩ := Int.eq_ofNat_of_zero_le h1
    obtain ⟨a, rfl⟩ := Int.eq_ofNat_of_zero_le h3
    exact refGet_in s a n hs (by omega) (by omega) w
  · rw [show getR s a n = (0, false) from if_neg h]
    unfold maxLen at hs
    by_cases h1 : 0 ≤ n
    · by_cases h2 : n ≤ 8
      · by_cases h3 : 0 ≤ a
        · have h4 : ¬ a ≤ s.size - n := fun x => h ⟨h1, h2, h3, x⟩
          clear h
          by_cases h5 : a ≤ s.size
          · have h6 : ¬ n ≤ s.size - a := by omega
            clear h4
            go_enter Try.func54, Try.ntmps54
            go_wp2
            go_ret2
            exact ⟨rfl, rfl⟩
          · clear h4
            go_enter Try.func54, Try.ntmps54
            go_wp2
            go_ret2
            exact ⟨rfl, rfl⟩
        · clear h
          go_enter Try.func54, Try.ntmps54
          go_wp2
          go_ret2
          exact ⟨rfl, rfl⟩
      · clear h
        go_enter Try.func54, Try.ntmps54
        go_wp2
        go_ret2
        exact ⟨rfl, rfl⟩
    · clear h
      go_enter Try.func54, Try.ntmps54
      go_wp2
      go_ret2
      exact ⟨rfl, rfl⟩
end Go.Proofs.Ytbiihcoobknmjaa
