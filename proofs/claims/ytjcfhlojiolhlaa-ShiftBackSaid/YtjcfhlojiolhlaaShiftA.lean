/- What shift's Signed, Fit, Field, With and the document's own answers to them return, as plain numbers. Conditions: the arguments are numbers of their kinds. -/
import Derived.Test.YtjcfhlojiolhlaaProg
import Derived.WalkKit
import Derived.WalkSpells
import Derived.WalkLawsBesides
import Derived.Lib.Hide
import Derived.BigQuiet
import Derived.Deep.QuietTactic
import Derived.Test.YtjcfhlojiolhlaaNum
namespace Go.Proofs.Ytjcfhlojiolhlaa
open Go.RowKit

theorem fieldI_zero (v : Int) (a : Nat) : fieldI v a 0 = 0 := by simp [fieldI, Int.emod_one]
theorem withI_zero (v : Int) (a : Nat) (f : Int) : withI v a 0 f = v := by simp [withI, fieldI_zero, Int.emod_one]

theorem ret_int {k : IntKind} {a b : Int} (h : a = b) : Ending.returned (.int k a) = .returned (.int k b) := by rw [h]

theorem quiet_eq {P : Program} {f : FuncId} {args : Array Value} {w : World} {n : Nat} {v : Value}
    (h : Calls P f args (w.drewN n) fun e w' => e = .returned v ∧ w.drewN n = w') : Calls P f args (w.drewN n) fun e w'' => e = .returned v ∧ ∃ m, w'' = w.drewN m :=
  h.mono fun _ _ ⟨he, hm⟩ => ⟨he, n, hm.symm⟩

def signedR (v n : Int) : Int := if 1 ≤ n ∧ n ≤ 64 then sgnI v n.toNat else 0
def fitR (v n : Int) : Int := if 1 ≤ n ∧ n ≤ 64 then fitI v n.toNat else 0
def InWord (a n : Int) : Prop := 0 ≤ a ∧ 0 ≤ n ∧ a ≤ 64 - n
def fieldR (v a n : Int) : Int := if 0 ≤ a ∧ 0 ≤ n ∧ a ≤ 64 - n then fieldI v a.toNat n.toNat else 0
def withR (v a n f : Int) : Int := if 0 ≤ a ∧ 0 ≤ n ∧ a ≤ 64 - n then withI v a.toNat n.toNat f else v

theorem mask_any (n : Int) (h0 : 0 ≤ n) (h1 : n ≤ 64) (w : World) :
    Calls Try.prog 33 #[.int .i64 n] w fun e w' => e = .returned (.int .u64 (ones n.toNat)) ∧ w = w' := by
  go_enter Try.func33, Try.ntmps33
  go_wp2
  go_ret
  exact ⟨ret_int (mask_val (by omega)), rfl⟩

set_option maxHeartbeats 400000 in
theorem signed_any (v n : Int) (w : World) :
    Calls Try.prog 15 #[.int .u64 v, .int .i64 n] w fun e w' => e = .returned (.int .i64 (signedR v n)) ∧ w = w' := by
  by_cases h0 : 1 ≤ n
  · by_cases h1 : n ≤ 64
    · have hfin : signedR v n = sgnI v n.toNat := if_pos ⟨h0, h1⟩
      have hn : (64 - n).toNat = 64 - n.toNat := by omega
      have H := Lib.hid hfin; clear hfin
      have HN := Lib.hid hn; clear hn
      go_enter Try.func15, Try.ntmps15
      go_wp2
      go_ret
      refine ⟨ret_int ?_, rfl⟩
      rw [H.out, HN.out]
      exact signed_val (by omega) (by omega)
    · have H := Lib.hid (show signedR v n = 0 from if_neg (by omega))
      go_enter Try.func15, Try.ntmps15
      go_wp2
      go_ret
      exact ⟨ret_int H.out.symm, rfl⟩
  · have H := Lib.hid (show signedR v n = 0 from if_neg (by omega))
    go_enter Try.func15, Try.ntmps15
    go_wp2
    go_ret
    exact ⟨ret_int H.out.symm, rfl⟩

set_option maxHeartbeats 400000 in
theorem fit_in (v n : Int) (h0 : 1 ≤ n) (h1 : n ≤ 64) (w : World) :
    Calls Try.prog 17 #[.int .i64 v, .int .i64 n] w fun e w' => e = .returned (.int .i64 (fitI v n.toNat)) ∧ w = w' := by
  have hs : IntKind.i64.signed = true := rfl
  have hP := half_pos n.toNat
  have hQ := half_le (show n.toNat ≤ 64 by omega)
  have hw := wrap64_neg_half (show n.toNat ≤ 64 by omega)
  have hx := xor_ones_i64 (x := -2 ^ (n.toNat - 1)) (by omega) (by omega)
  have H := Lib.hid (show fitI v n.toNat = if v < -2 ^ (n.toNat - 1) then -2 ^ (n.toNat - 1) else if 2 ^ (n.toNat - 1) - 1 < v then 2 ^ (n.toNat - 1) - 1 else v from rfl)
  rw [Int.neg_neg] at hx
  by_cases c1 : v < -2 ^ (n.toNat - 1)
  · have c2 : ¬ 2 ^ (n.toNat - 1) - 1 < -2 ^ (n.toNat - 1) := by omega
    go_enter Try.func17, Try.ntmps17
    go_wp2
    go_ret
    exact ⟨ret_int (by rw [H.out, if_pos c1]), rfl⟩
  · by_cases c2 : 2 ^ (n.toNat - 1) - 1 < v
    · go_enter Try.func17, Try.ntmps17
      go_wp2
      go_ret
      exact ⟨ret_int (by rw [H.out, if_neg (Int.not_lt.2 c1), if_pos c2]), rfl⟩
    · go_enter Try.func17, Try.ntmps17
      go_wp2
      go_ret
      exact ⟨ret_int (by rw [H.out, if_neg (Int.not_lt.2 c1), if_neg (Int.not_lt.2 c2)]), rfl⟩
theorem fit_any (v n : Int) (w : World) :
    Calls Try.prog 17 #[.int .i64 v, .int .i64 n] w fun e w' => e = .returned (.int .i64 (fitR v n)) ∧ w = w' := by
  by_cases h0 : 1 ≤ n
  · by_cases h1 : n ≤ 64
    · rw [show fitR v n = fitI v n.toNat from if_pos ⟨h0, h1⟩]
      exact fit_in v n h0 h1 w
    · have H := Lib.hid (show fitR v n = 0 from if_neg (by omega))
      go_enter Try.func17, Try.ntmps17
      go_wp2
      go_ret
      exact ⟨ret_int H.out.symm, rfl⟩
  · have H := Lib.hid (show fitR v n = 0 from if_neg (by omega))
    go_enter Try.func17, Try.ntmps17
    go_wp2
    go_ret
    exact ⟨ret_int H.out.symm, rfl⟩

set_option maxHeartbeats 400000 in
theorem field_any (v a n : Int) (hv : U64 v) (hn : n ≤ 9223372036854775807) (w : World) :
    Calls Try.prog 19 #[.int .u64 v, .int .i64 a, .int .i64 n] w fun e w' => e = .returned (.int .u64 (fieldR v a n)) ∧ ∃ k, w' = w.drewN k := by
  by_cases h0 : 0 ≤ a
  · by_cases h1 : 0 ≤ n
    · by_cases h2 : a ≤ 64 - n
      · have H := Lib.hid (show fieldR v a n = fieldI v a.toNat n.toNat from if_pos ⟨h0, h1, h2⟩)
        go_enter Try.func19, Try.ntmps19
        go_wp2
        go_quiet ((go_at_call 33; exact quiet_eq (mask_any _ (by omega) (by omega) _)))
        go_wp2
        go_ret
        refine ⟨ret_int ?_, ?_⟩
        · rw [H.out]; exact field_val hv _ (by omega)
        · exact ⟨_, rfl⟩
      · have H := Lib.hid (show fieldR v a n = 0 from if_neg (by omega))
        go_enter Try.func19, Try.ntmps19
        go_wp2
        go_ret
        exact ⟨ret_int H.out.symm, 0, rfl⟩
    · have H := Lib.hid (show fieldR v a n = 0 from if_neg (by omega))
      go_enter Try.func19, Try.ntmps19
      go_wp2
      go_ret
      exact ⟨ret_int H.out.symm, 0, rfl⟩
  · have H := Lib.hid (show fieldR v a n = 0 from if_neg (by omega))
    go_enter Try.func19, Try.ntmps19
    go_wp2
    go_ret
    exact ⟨ret_int H.out.symm, 0, rfl⟩

set_option maxHeartbeats 400000 in
theorem with_any (v a n f : Int) (hv : U64 v) (hf : U64 f) (hn : n ≤ 9223372036854775807) (w : World) :
    Calls Try.prog 21 #[.int .u64 v, .int .i64 a, .int .i64 n, .int .u64 f] w fun e w' => e = .returned (.int .u64 (withR v a n f)) ∧ ∃ k, w' = w.drewN k := by
  by_cases h0 : 0 ≤ a
  · by_cases h1 : 0 ≤ n
    · by_cases h2 : a ≤ 64 - n
      · have H := Lib.hid (show withR v a n f = withI v a.toNat n.toNat f from if_pos ⟨h0, h1, h2⟩)
        go_enter Try.func21, Try.ntmps21
        go_wp2_with (first | (go_at_call 33; refine (mask_any _ (by omega) (by omega) _).mono ?_; rintro e w' ⟨rfl, rfl⟩) | go_in)
        go_quiet (fail)
        go_wp2
        go_ret
        refine ⟨ret_int ?_, ?_⟩
        · rw [H.out]; exact with_val hv hf (by omega)
        · exact ⟨_, rfl⟩
      · have H := Lib.hid (show withR v a n f = v from if_neg (by omega))
        go_enter Try.func21, Try.ntmps21
        go_wp2
        go_ret
        exact ⟨ret_int H.out.symm, 0, rfl⟩
    · have H := Lib.hid (show withR v a n f = v from if_neg (by omega))
      go_enter Try.func21, Try.ntmps21
      go_wp2
      go_ret
      exact ⟨ret_int H.out.symm, 0, rfl⟩
  · have H := Lib.hid (show withR v a n f = v from if_neg (by omega))
    go_enter Try.func21, Try.ntmps21
    go_wp2
    go_ret
    exact ⟨ret_int H.out.symm, 0, rfl⟩

/-! ### the document's own answers -/
set_option maxHeartbeats 400000 in
theorem pow_any (n : Int) (h0 : 0 ≤ n) (h1 : n ≤ 63) (w : World) :
    Calls Try.prog 31 #[.int .i64 n] w fun e w' => e = .returned (.int .u64 (2 ^ n.toNat)) ∧ w = w' := by
  go_enter Try.func31, Try.ntmps31
  go_wp2
  go_loop [3, 4] (fun v i => ∃ k : Nat, k ≤ n.toNat ∧ i = .int .i64 k ∧ v = .int .u64 (2 ^ k)) (fun _ i => n.toNat - (intOf i).toNat)
  case atStart => exact ⟨0, Nat.zero_le _, rfl, rfl⟩
  case round =>
    obtain ⟨k, hk, rfl, rfl⟩ := hrel
    by_cases hlt : (k : Int) < n
    · have H := Lib.hid (show IntKind.u64.wrap (2 ^ k * 2) = 2 ^ (k + 1) by rw [show (2 : Int) ^ k * 2 = 2 ^ (k + 1) from (Int.pow_succ 2 k).symm]; exact wrapU_in (pow_U (by omega)))
      go_wp2
      go_round
      case rel => exact ⟨k + 1, by omega, by go_num, by rw [H.out]⟩
      case measure => simp [intOf]; omega
    · have e : n.toNat = k := by omega
      have H := Lib.hid e; clear e
      go_wp2
      go_ret
      exact ⟨ret_int (by rw [H.out]), rfl⟩
theorem low_any (v n : Int) (hv : U64 v) (h0 : 0 ≤ n) (h1 : n ≤ 64) (w : World) :
    Calls Try.prog 30 #[.int .u64 v, .int .i64 n] w fun e w' => e = .returned (.int .u64 (v % 2 ^ n.toNat)) ∧ w = w' := by
  by_cases h : n = 64
  · subst h
    have H := Lib.hid (show v % 2 ^ (64 : Int).toNat = v from Int.emod_eq_of_lt hv.1 (by have := hv.2; exact this))
    go_enter Try.func30, Try.ntmps30
    go_wp2
    go_ret
    exact ⟨ret_int H.out.symm, rfl⟩
  · have hb : (n == 64) = false := by simpa using h
    have hp := two_pow_pos n.toNat
    have hv0 := hv.lo
    have hnz : ((2 : Int) ^ n.toNat == 0) = false := by simp; omega
    go_enter Try.func30, Try.ntmps30
    go_wp2_with (go_at_call 31; refine (pow_any _ (by omega) (by omega) _).mono ?_; rintro e w' ⟨rfl, rfl⟩)
    go_ret
    exact ⟨rfl, rfl⟩

set_option maxHeartbeats 400000 in
theorem refSigned_any (v n : Int) (hv : U64 v) (w : World) :
    Calls Try.prog 16 #[.int .u64 v, .int .i64 n] w fun e w' => e = .returned (.int .i64 (signedR v n)) ∧ w = w' := by
  by_cases h0 : 1 ≤ n
  · by_cases h1 : n ≤ 64
    · have H := Lib.hid (show signedR v n = if v % 2 ^ n.toNat < 2 ^ (n.toNat - 1) then v % 2 ^ n.toNat else v % 2 ^ n.toNat - 2 ^ n.toNat from if_pos ⟨h0, h1⟩)
      have hP := half_pos n.toNat
      have hQ := half_le (show n.toNat ≤ 64 by omega)
      have E := Lib.hid (half_two (show 1 ≤ n.toNat by omega))
      have hx0 : 0 ≤ v % 2 ^ n.toNat := Int.emod_nonneg _ (by have := two_pow_pos n.toNat; omega)
      have hx1 : v % 2 ^ n.toNat < 2 * 2 ^ (n.toNat - 1) := by rw [← E.out]; exact Int.emod_lt_of_pos _ (by have := two_pow_pos n.toNat; omega)
      by_cases c : v % 2 ^ n.toNat < 2 ^ (n.toNat - 1)
      · go_enter Try.func16, Try.ntmps16
        go_wp2_with (first | (go_at_call 30; refine (low_any _ _ hv (by omega) (by omega) _).mono ?_; rintro e w' ⟨rfl, rfl⟩) | (go_at_call 31; refine (pow_any _ (by omega) (by omega) _).mono ?_; rintro e w' ⟨rfl, rfl⟩))
        go_ret
        refine ⟨ret_int ?_, rfl⟩
        rw [H.out, if_pos c]
      · go_enter Try.func16, Try.ntmps16
        go_wp2_with (first | (go_at_call 30; refine (low_any _ _ hv (by omega) (by omega) _).mono ?_; rintro e w' ⟨rfl, rfl⟩) | (go_at_call 31; refine (pow_any _ (by omega) (by omega) _).mono ?_; rintro e w' ⟨rfl, rfl⟩))
        go_ret
        refine ⟨ret_int ?_, rfl⟩
        rw [H.out, if_neg (Int.not_lt.2 c), E.out]
        omega
    · have H := Lib.hid (show signedR v n = 0 from if_neg (by omega))
      go_enter Try.func16, Try.ntmps16
      go_wp2
      go_ret
      exact ⟨ret_int H.out.symm, rfl⟩
  · have H := Lib.hid (show signedR v n = 0 from if_neg (by omega))
    go_enter Try.func16, Try.ntmps16
    go_wp2
    go_ret
    exact ⟨ret_int H.out.symm, rfl⟩

set_option maxHeartbeats 400000 in
theorem refFit_any (v n : Int) (w : World) :
    Calls Try.prog 18 #[.int .i64 v, .int .i64 n] w fun e w' => e = .returned (.int .i64 (fitR v n)) ∧ w = w' := by
  by_cases h0 : 1 ≤ n
  · by_cases h1 : n ≤ 64
    · have H := Lib.hid (show fitR v n = if v < -2 ^ (n.toNat - 1) then -2 ^ (n.toNat - 1) else if 2 ^ (n.toNat - 1) - 1 < v then 2 ^ (n.toNat - 1) - 1 else v from if_pos ⟨h0, h1⟩)
      have hP := half_pos n.toNat
      have hQ := half_le (show n.toNat ≤ 64 by omega)
      by_cases c1 : v < -2 ^ (n.toNat - 1)
      · have d1 : v < 2 ^ (n.toNat - 1) - 1 := by omega
        go_enter Try.func18, Try.ntmps18
        go_wp2_with ((go_at_call 31; refine (pow_any _ (by omega) (by omega) _).mono ?_; rintro e w' ⟨rfl, rfl⟩))
        go_ret
        refine ⟨ret_int ?_, rfl⟩
        rw [H.out, if_pos c1]
        omega
      · by_cases c2 : 2 ^ (n.toNat - 1) - 1 < v
        · go_enter Try.func18, Try.ntmps18
          go_wp2_with ((go_at_call 31; refine (pow_any _ (by omega) (by omega) _).mono ?_; rintro e w' ⟨rfl, rfl⟩))
          go_ret
          refine ⟨ret_int ?_, rfl⟩
          rw [H.out, if_neg (Int.not_lt.2 c1), if_pos c2]
        · go_enter Try.func18, Try.ntmps18
          go_wp2_with ((go_at_call 31; refine (pow_any _ (by omega) (by omega) _).mono ?_; rintro e w' ⟨rfl, rfl⟩))
          all_goals
            go_ret
            refine ⟨ret_int ?_, rfl⟩
            rw [H.out, if_neg (Int.not_lt.2 c1), if_neg (Int.not_lt.2 c2)]
            try omega
    · have H := Lib.hid (show fitR v n = 0 from if_neg (by omega))
      go_enter Try.func18, Try.ntmps18
      go_wp2
      go_ret
      exact ⟨ret_int H.out.symm, rfl⟩
  · have H := Lib.hid (show fitR v n = 0 from if_neg (by omega))
    go_enter Try.func18, Try.ntmps18
    go_wp2
    go_ret
    exact ⟨ret_int H.out.symm, rfl⟩

set_option maxHeartbeats 400000 in
theorem refField_in (v a n : Int) (hv : U64 v) (h0 : 0 ≤ a) (h1 : 1 ≤ n) (h2 : a ≤ 64 - n) (w : World) :
    Calls Try.prog 20 #[.int .u64 v, .int .i64 a, .int .i64 n] w fun e w' => e = .returned (.int .u64 (fieldI v a.toNat n.toNat)) ∧ w = w' := by
  have hv0 := hv.lo
  have hp := two_pow_pos a.toNat
  have hnz : ((2 : Int) ^ a.toNat == 0) = false := by simp; omega
  have hq : IntKind.u64.wrap (v.tdiv (2 ^ a.toNat)) = v / 2 ^ a.toNat := by rw [Int.tdiv_eq_ediv_of_nonneg hv.1]; exact wrapU_in (hv.ediv _)
  have hb : (n == 0) = false := by simp; omega
  go_enter Try.func20, Try.ntmps20
  go_wp2_with (first | (go_at_call 30; refine (low_any _ _ (hv.ediv a.toNat) (by omega) (by omega) _).mono ?_; rintro e w' ⟨rfl, rfl⟩) | (go_at_call 31; refine (pow_any _ (by omega) (by omega) _).mono ?_; rintro e w' ⟨rfl, rfl⟩) | go_in)
  go_ret
  exact ⟨rfl, rfl⟩
set_option maxHeartbeats 400000 in
theorem refField_any (v a n : Int) (hv : U64 v) (hn : n ≤ 9223372036854775807) (ha : a ≤ 9223372036854775807) (w : World) :
    Calls Try.prog 20 #[.int .u64 v, .int .i64 a, .int .i64 n] w fun e w' => e = .returned (.int .u64 (fieldR v a n)) ∧ w = w' := by
  by_cases h0 : 0 ≤ a
  · by_cases h1 : 0 ≤ n
    · by_cases h2 : a ≤ 64 - n
      · by_cases h3 : n = 0
        · subst h3
          have H := Lib.hid (show fieldR v a 0 = 0 from (if_pos ⟨h0, h1, h2⟩).trans (fieldI_zero _ _))
          go_enter Try.func20, Try.ntmps20
          go_wp2
          go_ret
          exact ⟨ret_int H.out.symm, rfl⟩
        · rw [show fieldR v a n = fieldI v a.toNat n.toNat from if_pos ⟨h0, h1, h2⟩]
          exact refField_in v a n hv h0 (by omega) h2 w
      · have H := Lib.hid (show fieldR v a n = 0 from if_neg (by omega))
        by_cases h4 : a ≤ 64
        · go_enter Try.func20, Try.ntmps20
          go_wp2
          go_ret
          exact ⟨ret_int H.out.symm, rfl⟩
        · go_enter Try.func20, Try.ntmps20
          go_wp2
          go_ret
          exact ⟨ret_int H.out.symm, rfl⟩
    · have H := Lib.hid (show fieldR v a n = 0 from if_neg (by omega))
      go_enter Try.func20, Try.ntmps20
      go_wp2
      go_ret
      exact ⟨ret_int H.out.symm, rfl⟩
  · have H := Lib.hid (show fieldR v a n = 0 from if_neg (by omega))
    go_enter Try.func20, Try.ntmps20
    go_wp2
    go_ret
    exact ⟨ret_int H.out.symm, rfl⟩

theorem field_part_U {v : Int} (hv : U64 v) (a n : Nat) : U64 (fieldI v a n * 2 ^ a) ∧ U64 (v - fieldI v a n * 2 ^ a) := by
  obtain ⟨x, rfl⟩ := Int.eq_ofNat_of_zero_le hv.1
  have h := nat_split3 x a n
  unfold fieldI
  rw [two_pow_cast, two_pow_cast, ← Int.natCast_ediv, ← Int.natCast_emod, ← Int.natCast_mul]
  have c1 : x / 2 ^ a % 2 ^ n * 2 ^ a = 2 ^ a * (x / 2 ^ a % 2 ^ n) := Nat.mul_comm _ _
  have := hv.2
  exact ⟨⟨by omega, by omega⟩, ⟨by omega, by omega⟩⟩

set_option maxHeartbeats 400000 in
theorem refWith_in (v a n f : Int) (hv : U64 v) (hf : U64 f) (h0 : 0 ≤ a) (h1 : 1 ≤ n) (h2 : a ≤ 64 - n) (w : World) :
    Calls Try.prog 22 #[.int .u64 v, .int .i64 a, .int .i64 n, .int .u64 f] w fun e w' => e = .returned (.int .u64 (withI v a.toNat n.toNat f)) ∧ w = w' := by
  have hv0 := hv.lo
  have hb : (n == 0) = false := by simp; omega
  go_enter Try.func22, Try.ntmps22
  go_wp2_with (first | (go_at_call 20; refine (refField_in _ _ _ hv (by omega) (by omega) (by omega) _).mono ?_; rintro e w' ⟨rfl, rfl⟩) | (go_at_call 30; refine (low_any _ _ hf (by omega) (by omega) _).mono ?_; rintro e w' ⟨rfl, rfl⟩) | (go_at_call 31; refine (pow_any _ (by omega) (by omega) _).mono ?_; rintro e w' ⟨rfl, rfl⟩) | go_in)
  go_ret
  refine ⟨ret_int ?_, rfl⟩
  have p := field_part_U hv a.toNat n.toNat
  have hw := withI_U hv (show a.toNat + n.toNat ≤ 64 by omega) hf.1
  rw [wrapU_in p.1, wrapU_in p.2, wrapU_in (low_shift_U (by omega))]
  exact wrapU_in hw
set_option maxHeartbeats 400000 in
theorem refWith_any (v a n f : Int) (hv : U64 v) (hf : U64 f) (hn : n ≤ 9223372036854775807) (ha : a ≤ 9223372036854775807) (w : World) :
    Calls Try.prog 22 #[.int .u64 v, .int .i64 a, .int .i64 n, .int .u64 f] w fun e w' => e = .returned (.int .u64 (withR v a n f)) ∧ w = w' := by
  by_cases h0 : 0 ≤ a
  · by_cases h1 : 0 ≤ n
    · by_cases h2 : a ≤ 64 - n
      · by_cases h3 : n = 0
        · subst h3
          have H := Lib.hid (show withR v a 0 f = v from (if_pos ⟨h0, h1, h2⟩).trans (withI_zero _ _ _))
          go_enter Try.func22, Try.ntmps22
          go_wp2
          go_ret
          exact ⟨ret_int H.out.symm, rfl⟩
        · rw [show withR v a n f = withI v a.toNat n.toNat f from if_pos ⟨h0, h1, h2⟩]
          exact refWith_in v a n f hv hf h0 (by omega) h2 w
      · have H := Lib.hid (show withR v a n f = v from if_neg (by omega))
        by_cases h4 : a ≤ 64
        · go_enter Try.func22, Try.ntmps22
          go_wp2
          go_ret
          exact ⟨ret_int H.out.symm, rfl⟩
        · go_enter Try.func22, Try.ntmps22
          go_wp2
          go_ret
          exact ⟨ret_int H.out.symm, rfl⟩
    · have H := Lib.hid (show withR v a n f = v from if_neg (by omega))
      go_enter Try.func22, Try.ntmps22
      go_wp2
      go_ret
      exact ⟨ret_int H.out.symm, rfl⟩
  · have H := Lib.hid (show withR v a n f = v from if_neg (by omega))
    go_enter Try.func22, Try.ntmps22
    go_wp2
    go_ret
    exact ⟨ret_int H.out.symm, rfl⟩
end Go.Proofs.Ytjcfhlojiolhlaa
