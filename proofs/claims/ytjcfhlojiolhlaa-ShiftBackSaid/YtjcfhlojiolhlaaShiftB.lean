/- What shift's Turn, Count and the document's own answers to them return, as plain numbers. Conditions: the arguments are numbers of their kinds. -/
import Derived.Test.YtjcfhlojiolhlaaShiftA
import Derived.Test.YtjcfhlojiolhlaaNumB
namespace Go.Proofs.Ytjcfhlojiolhlaa
open Go.RowKit

def turnR (v n : Int) : Int := turnI v (n % 32).toNat

set_option maxHeartbeats 400000 in
theorem turn_any (v n : Int) (hv : U32 v) (w : World) :
    Calls Try.prog 23 #[.int .u32 v, .int .i64 n] w fun e w' => e = .returned (.int .u32 (turnR v n)) ∧ w = w' := by
  have h1 := and31 n
  have h2 : 0 ≤ n % 32 := by omega
  have h3 : n % 32 < 32 := by omega
  have E := Lib.hid (show (32 - n % 32).toNat = 32 - (n % 32).toNat by omega)
  go_enter Try.func23, Try.ntmps23
  go_wp2
  go_ret
  refine ⟨ret_int ?_, rfl⟩
  rw [E.out]
  exact turn_val hv (by omega)

set_option maxHeartbeats 400000 in
theorem count_any (v : Int) (hv : U64 v) (w : World) :
    Calls Try.prog 25 #[.int .u64 v] w fun e w' => e = .returned (.int .i64 (countI v)) ∧ w = w' := by
  obtain ⟨x, rfl⟩ := Int.eq_ofNat_of_zero_le hv.1
  have H := Lib.hid (show countI (x : Int) = ((N6 x : Nat) : Int) % 128 by unfold countI; rw [Int.toNat_natCast, ← N6_mod x]; rfl)
  have h1 := ones1 x (by have := hv.2; omega)
  have h2 := ones2 x
  have h3 := ones3 x
  have h4 := ones4 x
  have h5 := ones5 x
  have h6 := ones6 x
  have h7 : ((N6 x : Nat) : Int) ≤ 800000000000000000 := by have := N6_small x; omega
  have h8 : 0 ≤ ((N6 x : Nat) : Int) := by omega
  have h9 := i64_and127 ((N6 x : Nat) : Int)
  go_enter Try.func25, Try.ntmps25
  go_wp2
  go_ret
  exact ⟨ret_int H.out.symm, rfl⟩

set_option maxHeartbeats 400000 in
theorem refCount_any (v : Int) (hv : U64 v) (w : World) :
    Calls Try.prog 26 #[.int .u64 v] w fun e w' => e = .returned (.int .i64 (countI v)) ∧ w = w' := by
  obtain ⟨x, rfl⟩ := Int.eq_ofNat_of_zero_le hv.1
  have hx : x < 2 ^ 64 := by have := hv.2; omega
  have H := Lib.hid (show countI (x : Int) = ((pcF 64 x : Nat) : Int) by unfold countI; rw [Int.toNat_natCast])
  go_enter Try.func26, Try.ntmps26
  go_wp2
  go_loop [0, 3] (fun v n => ∃ y m c : Nat, y < 2 ^ m ∧ c + m ≤ 64 ∧ c + pcF m y = pcF 64 x ∧ v = .int .u64 y ∧ n = .int .i64 c) (fun v _ => (intOf v).toNat)
  case atStart => exact ⟨x, 64, 0, hx, by omega, by omega, rfl, rfl⟩
  case round =>
    obtain ⟨y, m, c, h1, h2, h3, rfl, rfl⟩ := hrel
    have H3 := Lib.hid h3
    clear h3
    by_cases hlt : 0 < y
    · have h0 : (0 : Int) < (y : Int) := by omega
      obtain ⟨m', rfl⟩ : ∃ m', m = m' + 1 := ⟨m - 1, by cases m with | zero => simp at h1; omega | succ m => rfl⟩
      have hb : (y : Int) ≤ 18446744073709551615 := by have := Nat.pow_le_pow_right (show 2 > 0 by decide) (show m' + 1 ≤ 64 by omega); omega
      have HY := Lib.hid (show y / 2 < 2 ^ m' by rw [Nat.pow_succ] at h1; omega)
      clear h1
      go_wp2
      go_round
      case rel => exact ⟨y / 2, m', c + y % 2, HY.out, by omega, by have h3 := H3.out; rw [show pcF (m' + 1) y = y % 2 + pcF m' (y / 2) from rfl] at h3; omega, by go_num, by go_num⟩
      case measure => simp [intOf]; omega
    · have h0 : y = 0 := by omega
      subst h0
      go_wp2
      go_ret
      refine ⟨ret_int ?_, rfl⟩
      rw [H.out, ← H3.out, pcF_zero]
      rfl

set_option maxHeartbeats 400000 in
theorem refTurn_any (v n : Int) (hv : U32 v) (hn : -9223372036854775808 ≤ n) (hm : n ≤ 9223372036854775807) (w : World) :
    Calls Try.prog 24 #[.int .u32 v, .int .i64 n] w fun e w' => e = .returned (.int .u32 (turnR v n)) ∧ w = w' := by
  have hmod : (wrap64 (n.tmod 32 + 32)).tmod 32 = n % 32 := by
    have t1 : n.tmod 32 = n % 32 ∨ n.tmod 32 = n % 32 - 32 := by
      rcases Int.le_total 0 n with h | h
      · left; exact Int.tmod_eq_emod_of_nonneg h
      · obtain ⟨m, rfl⟩ : ∃ m, n = -m := ⟨-n, by omega⟩
        rw [Int.neg_tmod, Int.tmod_eq_emod_of_nonneg (by omega)]
        omega
    have t2 : wrap64 (n.tmod 32 + 32) = n.tmod 32 + 32 := by rw [wrap64_eq]; omega
    rw [t2, Int.tmod_eq_emod_of_nonneg (by omega)]
    omega
  go_enter Try.func24, Try.ntmps24
  go_wp2
  go_loop [0, 5] (fun v' i => ∃ k : Nat, k ≤ (n % 32).toNat ∧ i = .int .i64 k ∧ v' = .int .u32 (turnI v k)) (fun _ i => (n % 32).toNat - (intOf i).toNat)
  case atStart => exact ⟨0, Nat.zero_le _, rfl, by rw [turn_zero hv]⟩
  case round =>
    obtain ⟨k, hk, rfl, rfl⟩ := hrel
    by_cases hlt : (k : Int) < n % 32
    · have H := Lib.hid (turn_succ hv (show k + 1 ≤ 32 by omega))
      go_wp2
      go_round
      case rel => exact ⟨k + 1, by omega, by go_num, by rw [H.out]⟩
      case measure => simp [intOf]; omega
    · have E := Lib.hid (show (n % 32).toNat = k by omega)
      go_wp2
      go_ret
      refine ⟨ret_int ?_, rfl⟩
      unfold turnR
      rw [E.out]
end Go.Proofs.Ytjcfhlojiolhlaa
