/- That shift is awake: the law's own examples come out. No conditions. -/
import Derived.Test.YtjcfhlojiolhlaaShiftC
import Derived.Test.YtjcfhlojiolhlaaShiftD
namespace Go.Proofs.Ytjcfhlojiolhlaa
open Go.RowKit
theorem wk_get (w : World) : Calls Try.prog 11 #[.string ⟨#[1, 2, 3]⟩, .int .i64 1, .int .i64 2] w fun e w' => e = .returned (.tuple #[.int .u64 515, .bool true]) ∧ w = w' := by
  have h := get_any ⟨#[1, 2, 3]⟩ 1 2 (by decide) (by decide) (by decide) w
  rwa [show getR ⟨#[1, 2, 3]⟩ 1 2 = (515, true) by decide] at h
theorem wk_put (w : World) : Calls Try.prog 13 #[.int .u64 258, .int .i64 2] w fun e w' => e = .returned (.string ⟨#[1, 2]⟩) ∧ Below w.heap.size w w' := by
  have h := put_any 258 2 ⟨by decide, by decide⟩ w
  rwa [show putR 258 2 = ⟨#[1, 2]⟩ by decide] at h
theorem wk_signed (w : World) : Calls Try.prog 15 #[.int .u64 255, .int .i64 8] w fun e w' => e = .returned (.int .i64 (-1)) ∧ w = w' := by
  have h := signed_any 255 8 w
  rwa [show signedR 255 8 = -1 by decide] at h
theorem wk_turn (w : World) : Calls Try.prog 23 #[.int .u32 1, .int .i64 33] w fun e w' => e = .returned (.int .u32 2) ∧ w = w' := by
  have h := turn_any 1 33 ⟨by decide, by decide⟩ w
  rwa [show turnR 1 33 = 2 by decide] at h
theorem wk_field (w : World) : Calls Try.prog 19 #[.int .u64 240, .int .i64 4, .int .i64 4] w fun e w' => e = .returned (.int .u64 15) ∧ ∃ k, w' = w.drewN k := by
  have h := field_any 240 4 4 ⟨by decide, by decide⟩ (by decide) w
  rwa [show fieldR 240 4 4 = 15 by decide] at h
theorem wk_fit (w : World) : Calls Try.prog 17 #[.int .i64 300, .int .i64 8] w fun e w' => e = .returned (.int .i64 127) ∧ w = w' := by
  have h := fit_any 300 8 w
  rwa [show fitR 300 8 = 127 by decide] at h
theorem wk_count (w : World) : Calls Try.prog 25 #[.int .u64 7] w fun e w' => e = .returned (.int .i64 3) ∧ w = w' := by
  have h := count_any 7 ⟨by decide, by decide⟩ w
  rwa [show countI 7 = 3 by decide] at h
set_option maxHeartbeats 400000 in
theorem wakes_any (w : World) : Calls Try.prog 10 #[] w fun e w' => e = .returned (.bool true) ∧ Below w.heap.size w w' := by
  go_enter Try.func10, Try.ntmps10
  go_wp2_with (first | (go_at_call 11; refine (wk_get _).mono ?_; rintro e w' ⟨rfl, rfl⟩) | (go_at_call 13; refine (wk_put _).mono ?_; rintro e w1 ⟨rfl, hb1⟩) | (go_at_call 15; refine (wk_signed _).mono ?_; rintro e w' ⟨rfl, rfl⟩) | (go_at_call 23; refine (wk_turn _).mono ?_; rintro e w' ⟨rfl, rfl⟩) | (go_at_call 19; refine (wk_field _).mono ?_; rintro e w2 ⟨rfl, k, rfl⟩) | (go_at_call 17; refine (wk_fit _).mono ?_; rintro e w' ⟨rfl, rfl⟩) | (go_at_call 25; refine (wk_count _).mono ?_; rintro e w' ⟨rfl, rfl⟩))
  go_ret
  exact ⟨rfl, below_drewN hb1 _⟩
end Go.Proofs.Ytjcfhlojiolhlaa
