/- What Num and Text of an unpacker do. Conditions: its block is as UK says; its text is no longer than 2^40 bytes. -/
import Derived.Test.YtddhdibcchoakaaPackH
namespace Go.Proofs.Ytddhdibcchoakaa
open Go.RowKit

/-- there is a number of n bytes at place a of l -/
def okN (l : ByteArray) (a n : Nat) : Prop := (n = 1 ∨ n = 2 ∨ n = 4 ∨ n = 8) ∧ a + n ≤ l.size ∧ getI (cutL l a n) < 9223372036854775808
instance (l : ByteArray) (a n : Nat) : Decidable (okN l a n) := by unfold okN; infer_instance
theorem isSize_any (n : Int) (w : World) :
    Calls Try.prog 37 #[.int .i64 n] w fun e w' => e = .returned (.bool (decide (n = 1 ∨ n = 2 ∨ n = 4 ∨ n = 8))) ∧ w = w' := by
  by_cases h : n = 1 ∨ n = 2 ∨ n = 4 ∨ n = 8
  · rcases h with rfl | rfl | rfl | rfl
    all_goals
      go_enter Try.func37, Try.ntmps37
      go_wp2
      go_ret
      exact ⟨rfl, rfl⟩
  · have H := Lib.hid (show decide (n = 1 ∨ n = 2 ∨ n = 4 ∨ n = 8) = false by simpa using h)
    have d1 : (n == 1) = false := by simp; omega
    have d2 : (n == 2) = false := by simp; omega
    have d4 : (n == 4) = false := by simp; omega
    have d8 : (n == 8) = false := by simp; omega
    clear h
    go_enter Try.func37, Try.ntmps37
    go_wp2
    go_ret
    rw [H.out]
    exact ⟨rfl, rfl⟩
theorem getI_nonneg (l : List UInt8) : 0 ≤ getI l := (getI_bound l).1
theorem getR_hit {l : ByteArray} {a n : Nat} (hn : n ≤ 8) (h : a + n ≤ l.size) : getR l a n = (getI (cutL l a n), true) := by
  unfold getR
  rw [if_pos ⟨by omega, by omega, by omega, by omega⟩, Int.toNat_natCast, Int.toNat_natCast]

set_option maxHeartbeats 1000000 in
theorem uNum_in (w : World) (b : Nat) (l : ByteArray) (n : Nat) (h : UK w b (some l)) (hl : l.size ≤ 1099511627776) (hok : okN l 0 n) :
    Calls Try.prog 21 #[.pointer (some ⟨b, 0, none⟩), .int .i64 n] w fun e w' => e = .returned (.int .i64 (getI (cutL l 0 n))) ∧ UK w' b (some (l.extract n l.size)) ∧ Kept (fun k => k ≠ b) w w' := by
  obtain ⟨c0, c1, f0, f1⟩ := two_cells (show w.heap[b]? = _ from h)
  obtain ⟨hs, hn, hv⟩ := hok
  have n8 : n ≤ 8 := by omega
  have x0 := getI_nonneg (cutL l 0 n)
  have hr : getR l 0 n = (getI (cutL l 0 n), true) := getR_hit (a := 0) n8 hn
  generalize getI (cutL l 0 n) = x at *
  have HR := Lib.hid hr
  have HS := Lib.hid (show decide ((n : Int) = 1 ∨ (n : Int) = 2 ∨ (n : Int) = 4 ∨ (n : Int) = 8) = true by simp; omega)
  have hm : l.size ≤ maxLen := by unfold maxLen; omega
  have hn2 : n ≤ l.size := by omega
  clear hr hs
  go_enter Try.func21, Try.ntmps21
  go_wp2_with (first | (go_at_call 36; refine (get_any l 0 n hm (by omega) (by omega) _).mono ?_; rintro e w' ⟨rfl, rfl⟩; rw [HR.out]) | (go_at_call 37; refine (isSize_any n _).mono ?_; rintro e w' ⟨rfl, rfl⟩; rw [HS.out]))
  go_ret
  exact ⟨rfl, uk_set h _⟩

/-- a number of n bytes is there, n any number -/
def hasN (l : ByteArray) (n : Int) : Prop := 0 ≤ n ∧ okN l 0 n.toNat
instance (l : ByteArray) (n : Int) : Decidable (hasN l n) := by unfold hasN; infer_instance
set_option maxHeartbeats 1000000 in
theorem uNum_out (w : World) (b : Nat) (o : Option ByteArray) (n : Int) (h : UK w b o) (hl : (ukL o).size ≤ 1099511627776) (hi : -9223372036854775808 ≤ n ∧ n ≤ 9223372036854775807) (hno : ¬ hasN (ukL o) n) :
    Calls Try.prog 21 #[.pointer (some ⟨b, 0, none⟩), .int .i64 n] w fun e w' => e = .returned (.int .i64 0) ∧ UK w' b none ∧ Kept (fun k => k ≠ b) w w' := by
  obtain ⟨c0, c1, f0, f1⟩ := two_cells h.cells
  generalize ukL o = l at *
  have hm : l.size ≤ maxLen := by unfold maxLen; omega
  by_cases hg : 0 ≤ n ∧ n ≤ 8 ∧ (0 : Int) ≤ 0 ∧ (0 : Int) ≤ l.size - n
  · obtain ⟨g0, g1, _, g3⟩ := hg
    obtain ⟨k, rfl⟩ := Int.eq_ofNat_of_zero_le g0
    have hr : getR l 0 k = (getI (cutL l 0 k), true) := getR_hit (a := 0) (by omega) (by omega)
    have x0 := getI_nonneg (cutL l 0 k)
    have hno' : ¬ okN l 0 k := fun hx => hno ⟨g0, by rw [Int.toNat_natCast]; exact hx⟩
    unfold okN at hno'
    generalize getI (cutL l 0 k) = x at *
    have HR := Lib.hid hr
    clear hr hno
    by_cases hs : k = 1 ∨ k = 2 ∨ k = 4 ∨ k = 8
    · have hv : 9223372036854775807 < x := by
        rcases Int.lt_or_le 9223372036854775807 x with h | h
        · exact h
        · exact absurd ⟨hs, by omega, by omega⟩ hno'
      have HS := Lib.hid (show decide ((k : Int) = 1 ∨ (k : Int) = 2 ∨ (k : Int) = 4 ∨ (k : Int) = 8) = true by simp; omega)
      clear hs hno'
      go_enter Try.func21, Try.ntmps21
      go_wp2_with (first | (go_at_call 36; refine (get_any l 0 k hm (by omega) (by omega) _).mono ?_; rintro e w' ⟨rfl, rfl⟩; rw [HR.out]) | (go_at_call 37; refine (isSize_any k _).mono ?_; rintro e w' ⟨rfl, rfl⟩; rw [HS.out]) | (go_at_call 33; refine (spoil_any _ b o h).mono ?_; rintro e w2 ⟨rfl, hp, hk⟩))
      go_ret
      exact ⟨rfl, hp, hk⟩
    · have HS := Lib.hid (show decide ((k : Int) = 1 ∨ (k : Int) = 2 ∨ (k : Int) = 4 ∨ (k : Int) = 8) = false by simp; omega)
      clear hs hno'
      go_enter Try.func21, Try.ntmps21
      go_wp2_with (first | (go_at_call 36; refine (get_any l 0 k hm (by omega) (by omega) _).mono ?_; rintro e w' ⟨rfl, rfl⟩; rw [HR.out]) | (go_at_call 37; refine (isSize_any k _).mono ?_; rintro e w' ⟨rfl, rfl⟩; rw [HS.out]) | (go_at_call 33; refine (spoil_any _ b o h).mono ?_; rintro e w2 ⟨rfl, hp, hk⟩))
      go_ret
      exact ⟨rfl, hp, hk⟩
  · have HR := Lib.hid (show getR l 0 n = (0, false) from if_neg hg)
    clear hg hno
    go_enter Try.func21, Try.ntmps21
    go_wp2_with (first | (go_at_call 36; refine (get_any l 0 n hm (by omega) (by omega) _).mono ?_; rintro e w' ⟨rfl, rfl⟩; rw [HR.out]) | (go_at_call 33; refine (spoil_any _ b o h).mono ?_; rintro e w2 ⟨rfl, hp, hk⟩))
    go_ret
    exact ⟨rfl, hp, hk⟩

/-- what Num of n bytes tells, and what is left behind it -/
def numV (o : Option ByteArray) (n : Int) : Int := if hasN (ukL o) n then getI (cutL (ukL o) 0 n.toNat) else 0
def numO (o : Option ByteArray) (n : Int) : Option ByteArray := if hasN (ukL o) n then some ((ukL o).extract n.toNat (ukL o).size) else none
theorem hasN_some {o : Option ByteArray} {n : Int} (h : hasN (ukL o) n) : o = some (ukL o) := by
  cases o with
  | some l => rfl
  | none =>
    obtain ⟨_, h1, h2, _⟩ := h
    have h2 : 0 + n.toNat ≤ 0 := h2
    omega
theorem uNum_any (w : World) (b : Nat) (o : Option ByteArray) (n : Int) (h : UK w b o) (hl : (ukL o).size ≤ 1099511627776) (hi : -9223372036854775808 ≤ n ∧ n ≤ 9223372036854775807) :
    Calls Try.prog 21 #[.pointer (some ⟨b, 0, none⟩), .int .i64 n] w fun e w' => e = .returned (.int .i64 (numV o n)) ∧ UK w' b (numO o n) ∧ Kept (fun k => k ≠ b) w w' := by
  by_cases hh : hasN (ukL o) n
  · rw [show numV o n = getI (cutL (ukL o) 0 n.toNat) from if_pos hh, show numO o n = some ((ukL o).extract n.toNat (ukL o).size) from if_pos hh]
    obtain ⟨k, rfl⟩ := Int.eq_ofNat_of_zero_le hh.1
    have h2 := hh.2
    rw [Int.toNat_natCast] at h2 ⊢
    exact uNum_in w b (ukL o) k (by rw [← hasN_some hh]; exact h) hl h2
  · rw [show numV o n = 0 from if_neg hh, show numO o n = none from if_neg hh]
    exact uNum_out w b o n h hl hi hh
end Go.Proofs.Ytddhdibcchoakaa
