/- crc's sums under plain names, and that crc is awake: the law's own examples come out. Conditions: a text is no longer than a string may be; sums are numbers of 32 bits. -/
import Derived.Test.YtkimbhblcgbidaaCrcD
namespace Go.Proofs.Ytkimbhblcgbidaa
open Go.RowKit
def sumR (s : ByteArray) : Nat := csum s.data.toList
def moreR (x : Nat) (s : ByteArray) : Nat := cmore x s.data.toList
def joinR (a b n : Nat) : Nat := cjoin a b n
theorem sumR_lt (s : ByteArray) : sumR s < 4294967296 := csum_lt _
theorem moreR_lt {x : Nat} (h : x < 4294967296) (s : ByteArray) : moreR x s < 4294967296 := cflip_lt (cfold_lt (cflip_lt h) _)
theorem sum_r (s : ByteArray) (hs : s.size ≤ maxLen) (w : World) :
    Calls Try.prog 9 #[.string s] w fun e w' => e = .returned (.int .u32 (sumR s : Nat)) ∧ w = w' := sum_any s hs w
theorem more_r (x : Nat) (s : ByteArray) (hx : x < 4294967296) (hs : s.size ≤ maxLen) (w : World) :
    Calls Try.prog 8 #[.int .u32 x, .string s] w fun e w' => e = .returned (.int .u32 (moreR x s : Nat)) ∧ w = w' := more_any x s hx hs w
theorem join_r (a b n : Nat) (ha : a < 4294967296) (hb : b < 4294967296) (hn : n ≤ 1073741824) (w : World) :
    Calls Try.prog 10 #[.int .u32 a, .int .u32 b, .int .i64 n] w fun e w' => e = .returned (.int .u32 (joinR a b n : Nat)) ∧ Below w.heap.size w w' := join_any a b n ha hb hn w
theorem wk_sum9 (w : World) : Calls Try.prog 9 #[.string ⟨#[49, 50, 51, 52, 53, 54, 55, 56, 57]⟩] w fun e w' => e = .returned (.int .u32 3421780262) ∧ w = w' := by
  have h := sum_r ⟨#[49, 50, 51, 52, 53, 54, 55, 56, 57]⟩ (by decide) w
  rwa [show sumR ⟨#[49, 50, 51, 52, 53, 54, 55, 56, 57]⟩ = 3421780262 by decide +kernel] at h
theorem wk_sum4 (w : World) : Calls Try.prog 9 #[.string ⟨#[49, 50, 51, 52]⟩] w fun e w' => e = .returned (.int .u32 2615402659) ∧ w = w' := by
  have h := sum_r ⟨#[49, 50, 51, 52]⟩ (by decide) w
  rwa [show sumR ⟨#[49, 50, 51, 52]⟩ = 2615402659 by decide +kernel] at h
theorem wk_sum5 (w : World) : Calls Try.prog 9 #[.string ⟨#[53, 54, 55, 56, 57]⟩] w fun e w' => e = .returned (.int .u32 (320708720)) ∧ w = w' := by
  have h := sum_r ⟨#[53, 54, 55, 56, 57]⟩ (by decide) w
  rwa [show sumR ⟨#[53, 54, 55, 56, 57]⟩ = 320708720 by decide +kernel] at h
theorem wk_more (w : World) : Calls Try.prog 8 #[.int .u32 2615402659, .string ⟨#[53, 54, 55, 56, 57]⟩] w fun e w' => e = .returned (.int .u32 3421780262) ∧ w = w' := by
  have h := more_r 2615402659 ⟨#[53, 54, 55, 56, 57]⟩ (by decide) (by decide) w
  rwa [show moreR 2615402659 ⟨#[53, 54, 55, 56, 57]⟩ = 3421780262 by decide +kernel] at h
theorem wk_join (w : World) : Calls Try.prog 10 #[.int .u32 2615402659, .int .u32 320708720, .int .i64 5] w fun e w' => e = .returned (.int .u32 3421780262) ∧ Below w.heap.size w w' := by
  have h := join_r 2615402659 320708720 5 (by decide) (by decide) (by decide) w
  rwa [show joinR 2615402659 320708720 5 = 3421780262 by decide +kernel] at h
set_option maxHeartbeats 400000 in
theorem wakes_any (w : World) : Calls Try.prog 6 #[] w fun e w' => e = .returned (.bool true) ∧ Below w.heap.size w w' := by
  go_enter Try.func6, Try.ntmps6
  go_wp2_with (first | (go_at_call 9; refine (wk_sum9 _).mono ?_; rintro e w' ⟨rfl, rfl⟩) | (go_at_call 9; refine (wk_sum4 _).mono ?_; rintro e w' ⟨rfl, rfl⟩) | (go_at_call 9; refine (wk_sum5 _).mono ?_; rintro e w' ⟨rfl, rfl⟩) | (go_at_call 8; refine (wk_more _).mono ?_; rintro e w' ⟨rfl, rfl⟩) | (go_at_call 10; refine (wk_join _).mono ?_; rintro e w1 ⟨rfl, hb1⟩))
  go_ret
  exact ⟨rfl, hb1⟩
end Go.Proofs.Ytkimbhblcgbidaa
