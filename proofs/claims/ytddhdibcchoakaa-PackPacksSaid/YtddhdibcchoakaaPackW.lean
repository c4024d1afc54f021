/- That pack is awake: the law's own examples come out; and what the calls of a packer and an unpacker that nobody made do. No conditions. -/
import Derived.Test.YtddhdibcchoakaaPackJ
namespace Go.Proofs.Ytddhdibcchoakaa
open Go.RowKit

def st0 : St := ⟨⟨#[]⟩, false⟩
theorem news_any (S : Nat → Prop) (w : World) (hs : ∀ k, S k → k < w.heap.size) :
    Calls Try.prog 9 #[] w fun e w' => e = .returned (.pointer (some ⟨w.heap.size, 0, none⟩)) ∧ PKs S w' w.heap.size st0 ∧ Below w.heap.size w w' :=
  new_any S w hs
def stW : St := (st0.num 5 2).text ⟨#[97]⟩
theorem wk_made : stW.made = ⟨#[0, 5, 0, 1, 97]⟩ := by decide +kernel
theorem wk_code : stW.code = 0 := by decide +kernel
theorem wk_n : numV (some ⟨#[0, 5, 0, 1, 97]⟩) 2 = 5 ∧ numO (some ⟨#[0, 5, 0, 1, 97]⟩) 2 = some ⟨#[0, 1, 97]⟩ := by decide +kernel
theorem wk_t : textV (some ⟨#[0, 1, 97]⟩) 9 = ⟨#[97]⟩ ∧ textO (some ⟨#[0, 1, 97]⟩) 9 = some ⟨#[]⟩ := by decide +kernel
theorem wk_done (w : World) (S : Nat → Prop) (b : Nat) (h : PKs S w b stW) :
    Calls Try.prog 15 #[.pointer (some ⟨b, 0, none⟩)] w fun e w' => e = .returned (.tuple #[.string ⟨#[0, 5, 0, 1, 97]⟩, .int .i64 0]) ∧ ∃ k, w' = w.drewN k := by
  have h' := done_any S w b _ _ h
  rwa [wk_made, wk_code] at h'
theorem wk_num (w : World) (b : Nat) (h : UK w b (some ⟨#[0, 5, 0, 1, 97]⟩)) :
    Calls Try.prog 21 #[.pointer (some ⟨b, 0, none⟩), .int .i64 2] w fun e w' => e = .returned (.int .i64 5) ∧ UK w' b (some ⟨#[0, 1, 97]⟩) ∧ Kept (fun k => k ≠ b) w w' := by
  have h' := uNum_any w b _ 2 h (by decide) (by decide)
  rwa [wk_n.1, wk_n.2] at h'
theorem wk_text (w : World) (b : Nat) (h : UK w b (some ⟨#[0, 1, 97]⟩)) :
    Calls Try.prog 19 #[.pointer (some ⟨b, 0, none⟩), .int .i64 9] w fun e w' => e = .returned (.string ⟨#[97]⟩) ∧ UK w' b (some ⟨#[]⟩) ∧ Kept (fun k => k ≠ b) w w' := by
  have h' := uText_any w b _ 9 h (by decide)
  rwa [wk_t.1, wk_t.2] at h'
theorem wk_end (w : World) (b : Nat) (h : UK w b (some ⟨#[]⟩)) :
    Calls Try.prog 25 #[.pointer (some ⟨b, 0, none⟩)] w fun e w' => e = .returned (.int .i64 0) ∧ w = w' := end_any w b _ h

set_option maxHeartbeats 1000000 in
theorem wakes_any (w : World) : Calls Try.prog 8 #[] w fun e w' => e = .returned (.bool true) ∧ Below w.heap.size w w' := by
  go_enter Try.func8, Try.ntmps8
  go_wp2_with (first | (go_at_call 9; refine (news_any (fun k => k < w.heap.size) _ (fun _ h => h)).mono ?_; rintro e w1 ⟨rfl, hp1, hb1⟩) | (go_at_call 13; refine (nums_any _ _ _ _ 5 2 hp1 (by decide)).mono ?_; rintro e w2 ⟨rfl, hp2, hk2⟩) | (go_at_call 11; refine (texts_any _ _ _ _ _ hp2 (by decide)).mono ?_; rintro e w3 ⟨rfl, hp3, hk3⟩) | (go_at_call 15; refine (wk_done _ _ _ hp3).mono ?_; rintro e w4 ⟨rfl, k, rfl⟩) | (go_at_call 17; refine (open_any _ _).mono ?_; rintro e w5 ⟨rfl, hp5, hb5⟩) | (go_at_call 21; refine (wk_num _ _ hp5).mono ?_; rintro e w6 ⟨rfl, hp6, hk6⟩) | (go_at_call 19; refine (wk_text _ _ hp6).mono ?_; rintro e w7 ⟨rfl, hp7, hk7⟩) | (go_at_call 25; refine (wk_end _ _ hp7).mono ?_; rintro e w8 ⟨rfl, rfl⟩))
  go_ret
  refine ⟨rfl, ?_⟩
  have b3 : Below w.heap.size w w3 := hb1.trans ((hk2.trans hk3).toBelow hb1.size (fun _ h => h))
  have b5 : Below w.heap.size w w5 := (below_drewN b3 k).trans (hb5.mono (by have := (below_drewN b3 k).size; exact this))
  exact b5.trans ((hk6.trans hk7).toBelow b5.size (fun j hj => by have := (below_drewN b3 k).size; omega))

theorem none_num (v n : Int) (w : World) : Calls Try.prog 13 #[.pointer none, .int .i64 v, .int .i64 n] w fun e w' => e = .returned (.tuple #[]) ∧ w = w' := by
  go_enter Try.func13, Try.ntmps13
  go_wp2
  exact bodyPost_ret (results_none rfl _ _ _) rfl ⟨rfl, rfl⟩
theorem none_text (s : ByteArray) (w : World) : Calls Try.prog 11 #[.pointer none, .string s] w fun e w' => e = .returned (.tuple #[]) ∧ w = w' := by
  go_enter Try.func11, Try.ntmps11
  go_wp2
  exact bodyPost_ret (results_none rfl _ _ _) rfl ⟨rfl, rfl⟩
theorem none_done (w : World) : Calls Try.prog 15 #[.pointer none] w fun e w' => e = .returned (.tuple #[.string ⟨#[]⟩, .int .i64 1]) ∧ w = w' := by
  go_enter Try.func15, Try.ntmps15
  go_wp2
  go_ret2
  exact ⟨rfl, rfl⟩
theorem none_unum (n : Int) (w : World) : Calls Try.prog 21 #[.pointer none, .int .i64 n] w fun e w' => e = .returned (.int .i64 0) ∧ w = w' := by
  go_enter Try.func21, Try.ntmps21
  go_wp2
  go_ret
  exact ⟨rfl, rfl⟩
theorem none_utext (n : Int) (w : World) : Calls Try.prog 19 #[.pointer none, .int .i64 n] w fun e w' => e = .returned (.string ⟨#[]⟩) ∧ w = w' := by
  go_enter Try.func19, Try.ntmps19
  go_wp2_with (go_at_call 21; refine (none_unum _ _).mono ?_; rintro e w' ⟨rfl, rfl⟩)
  go_ret
  exact ⟨rfl, rfl⟩
theorem none_left (w : World) : Calls Try.prog 23 #[.pointer none] w fun e w' => e = .returned (.int .i64 0) ∧ w = w' := by
  go_enter Try.func23, Try.ntmps23
  go_wp2
  go_ret
  exact ⟨rfl, rfl⟩
theorem none_end (w : World) : Calls Try.prog 25 #[.pointer none] w fun e w' => e = .returned (.int .i64 1) ∧ w = w' := by
  go_enter Try.func25, Try.ntmps25
  go_wp2
  go_ret
  exact ⟨rfl, rfl⟩
end Go.Proofs.Ytddhdibcchoakaa
