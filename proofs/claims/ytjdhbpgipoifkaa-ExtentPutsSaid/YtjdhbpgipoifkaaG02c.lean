/- What the statements' own small function Mod returns. Conditions: the second number is from 1 to 1000000000. -/
import Derived.Test.YtjdhbpgipoifkaaG01a
import Derived.Test.YtjdhbpgipoifkaaG01b
set_option linter.unusedVariables false
namespace Go.Proofs.Ytjdhbpgipoifkaa
open Go.RowKit
theorem tmod_pos (x m : Int) (h : 1 ≤ m) : x.tmod m = x % m ∨ x.tmod m = x % m - m := by
  rcases Int.le_total 0 x with h0 | h0
  · left; exact Int.tmod_eq_emod_of_nonneg h0
  · obtain ⟨y, rfl⟩ : ∃ y, x = -y := ⟨-x, by omega⟩
    rw [Int.neg_tmod, Int.tmod_eq_emod_of_nonneg (by omega)]
    have a := Int.mul_ediv_add_emod y m
    have b := Int.mul_ediv_add_emod (-y) m
    have c1 := Int.emod_nonneg y (show m ≠ 0 by omega)
    have c2 := Int.emod_lt_of_pos y (show 0 < m by omega)
    have c3 := Int.emod_nonneg (-y) (show m ≠ 0 by omega)
    have c4 := Int.emod_lt_of_pos (-y) (show 0 < m by omega)
    have e : m * (y / m + -y / m) = -(y % m + -y % m) := by rw [Int.mul_add]; omega
    rcases Int.lt_trichotomy (y / m + -y / m) (-1) with h | h | h
    · have : m * (y / m + -y / m) ≤ m * (-2) := Int.mul_le_mul_of_nonneg_left (by omega) (by omega)
      omega
    · rw [h] at e; right; omega
    · rcases Int.lt_or_le (y / m + -y / m) 1 with g | g
      · rw [show y / m + -y / m = 0 by omega] at e; left; omega
      · have : m * 1 ≤ m * (y / m + -y / m) := Int.mul_le_mul_of_nonneg_left g (by omega)
        omega
set_option maxHeartbeats 400000 in
theorem mod_any (x m : Int) (h0 : 1 ≤ m) (h1 : m ≤ 1000000000) (w : World) :
    Calls Try.prog 26 #[.int .i64 x, .int .i64 m] w fun e w' => e = .returned (.int .i64 (x % m)) ∧ w = w' := by
  have c1 := Int.emod_nonneg x (show m ≠ 0 by omega)
  have c2 := Int.emod_lt_of_pos x (show 0 < m by omega)
  have t := tmod_pos x m h0
  have e1 : wrap64 (x.tmod m + m) = x.tmod m + m := by rw [wrap64_eq]; omega
  have e2 : (x.tmod m + m).tmod m = x % m := by
    rw [Int.tmod_eq_emod_of_nonneg (by omega)]
    rcases t with t | t
    · rw [t, Int.add_emod_right, Int.emod_emod]
    · rw [t, Int.sub_add_cancel, Int.emod_emod]
  clear t
  have hz : (m == 0) = false := by simp; omega
  go_enter Try.func26, Try.ntmps26
  go_wp2
  go_ret
  exact ⟨rfl, rfl⟩
end Go.Proofs.Ytjdhbpgipoifkaa
