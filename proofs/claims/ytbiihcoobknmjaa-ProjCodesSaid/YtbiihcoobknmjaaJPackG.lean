/- What Num and Text of the document's own packer do. Conditions: its block is as QK says; sizes are such that its text is no longer than a string may be. -/
import Derived.Test.YtbiihcoobknmjaaGg
set_option linter.unusedVariables false
namespace Go.Proofs.Ytbiihcoobknmjaa
open Go.RowKit
set_option maxRecDepth 20000

/-- behind a call that makes memory, and a store of the text -/
theorem ref_stored {w w1 : World} {b : Nat} {t : St} (h : QK w b t) (hb : Below w.drew.heap.size w.drew w1) (x : ByteArray) : QK (w1.setCell ⟨b, 0, none⟩ (.string (t.s ++ x))) b (t.add x) ∧ Kept (fun k => k ≠ b) w (w1.setCell ⟨b, 0, none⟩ (.string (t.s ++ x))) :=
  have hb' : Below w.heap.size w w1 := ⟨hb.os, hb.tape, hb.output, hb.size, hb.block⟩
  ⟨two_set0 (below_heap hb' h) _, (Kept.ofBelow hb' _).setCell (fun h => h rfl) _⟩
theorem ref_spoilt {w : World} {b : Nat} {t : St} (h : QK w b t) : QK (w.setCell ⟨b, 1, none⟩ (.bool true)) b t.spoil ∧ Kept (fun k => k ≠ b) w (w.setCell ⟨b, 1, none⟩ (.bool true)) :=
  ⟨two_set1 h _, (Kept.refl _ _).setCell (fun h => h rfl) _⟩

set_option maxHeartbeats 1000000 in
theorem refNum_1 (w : World) (b : Nat) (t : St) (v : Int) (h : QK w b t) (hs : t.s.size ≤ 1099511627776) (h0 : 0 ≤ v) (h1 : v < 256) :
    Calls Try.prog 35 #[.pointer (some ⟨b, 0, none⟩), .int .i64 v, .int .i64 1] w fun r w' => r = .returned (.tuple #[]) ∧ QK w' b (t.add (putR v 1)) ∧ Kept (fun k => k ≠ b) w w' := by
  obtain ⟨c0, c1, f0, f1⟩ := two_cells h
  have hu : U64 v := ⟨by omega, by omega⟩
  have e1 : IntKind.u64.wrap v = v := wrapU_in hu
  have hp := putR_small v 1 (by decide)
  go_enter Try.func35, Try.ntmps35
  go_wp2_with (go_at_call 49; refine (refSize_any _ _).mono ?_; rintro e w' ⟨rfl, rfl⟩)
  go_region_with (go_at_call 50; refine (refPut_any v 1 hu _).mono ?_; rintro e w1 ⟨rfl, hb1⟩; have hk := two_cells (below_heap hb1 h); obtain ⟨d0, d1, g0, g1⟩ := hk)
  all_goals (go_wp2; go_end0; exact ⟨rfl, ref_stored h hb1 _⟩)
theorem refNum_1_out (w : World) (b : Nat) (t : St) (v : Int) (h : QK w b t) (hv : v < 0 ∨ 256 ≤ v) :
    Calls Try.prog 35 #[.pointer (some ⟨b, 0, none⟩), .int .i64 v, .int .i64 1] w fun r w' => r = .returned (.tuple #[]) ∧ QK w' b t.spoil ∧ Kept (fun k => k ≠ b) w w' := by
  obtain ⟨c0, c1, f0, f1⟩ := two_cells h
  by_cases h0 : v < 0
  · go_enter Try.func35, Try.ntmps35
    go_wp2_with (go_at_call 49; refine (refSize_any _ _).mono ?_; rintro e w' ⟨rfl, rfl⟩)
    exact bodyPost_ret (results_none rfl _ _ _) rfl ⟨rfl, ref_spoilt h⟩
  · have h1 : 256 ≤ v := by omega
    go_enter Try.func35, Try.ntmps35
    go_wp2_with (go_at_call 49; refine (refSize_any _ _).mono ?_; rintro e w' ⟨rfl, rfl⟩)
    exact bodyPost_ret (results_none rfl _ _ _) rfl ⟨rfl, ref_spoilt h⟩
set_option maxHeartbeats 1000000 in
theorem refNum_2 (w : World) (b : Nat) (t : St) (v : Int) (h : QK w b t) (hs : t.s.size ≤ 1099511627776) (h0 : 0 ≤ v) (h1 : v < 65536) :
    Calls Try.prog 35 #[.pointer (some ⟨b, 0, none⟩), .int .i64 v, .int .i64 2] w fun r w' => r = .returned (.tuple #[]) ∧ QK w' b (t.add (putR v 2)) ∧ Kept (fun k => k ≠ b) w w' := by
  obtain ⟨c0, c1, f0, f1⟩ := two_cells h
  have hu : U64 v := ⟨by omega, by omega⟩
  have e1 : IntKind.u64.wrap v = v := wrapU_in hu
  have hp := putR_small v 2 (by decide)
  go_enter Try.func35, Try.ntmps35
  go_wp2_with (go_at_call 49; refine (refSize_any _ _).mono ?_; rintro e w' ⟨rfl, rfl⟩)
  go_region_with (go_at_call 50; refine (refPut_any v 2 hu _).mono ?_; rintro e w1 ⟨rfl, hb1⟩; have hk := two_cells (below_heap hb1 h); obtain ⟨d0, d1, g0, g1⟩ := hk)
  all_goals (go_wp2; go_end0; exact ⟨rfl, ref_stored h hb1 _⟩)
theorem refNum_2_out (w : World) (b : Nat) (t : St) (v : Int) (h : QK w b t) (hv : v < 0 ∨ 65536 ≤ v) :
    Calls Try.prog 35 #[.pointer (some ⟨b, 0, none⟩), .int .i64 v, .int .i64 2] w fun r w' => r = .returned (.tuple #[]) ∧ QK w' b t.spoil ∧ Kept (fun k => k ≠ b) w w' := by
  obtain ⟨c0, c1, f0, f1⟩ := two_cells h
  by_cases h0 : v < 0
  · go_enter Try.func35, Try.ntmps35
    go_wp2_with (go_at_call 49; refine (refSize_any _ _).mono ?_; rintro e w' ⟨rfl, rfl⟩)
    exact bodyPost_ret (results_none rfl _ _ _) rfl ⟨rfl, ref_spoilt h⟩
  · have h1 : 65536 ≤ v := by omega
    go_enter Try.func35, Try.ntmps35
    go_wp2_with (go_at_call 49; refine (refSize_any _ _).mono ?_; rintro e w' ⟨rfl, rfl⟩)
    exact bodyPost_ret (results_none rfl _ _ _) rfl ⟨rfl, ref_spoilt h⟩
set_option maxHeartbeats 1000000 in
theorem refNum_4 (w : World) (b : Nat) (t : St) (v : Int) (h : QK w b t) (hs : t.s.size ≤ 1099511627776) (h0 : 0 ≤ v) (h1 : v < 4294967296) :
    Calls Try.prog 35 #[.pointer (some ⟨b, 0, none⟩), .int .i64 v, .int .i64 4] w fun r w' => r = .returned (.tuple #[]) ∧ QK w' b (t.add (putR v 4)) ∧ Kept (fun k => k ≠ b) w w' := by
  obtain ⟨c0, c1, f0, f1⟩ := two_cells h
  have hu : U64 v := ⟨by omega, by omega⟩
  have e1 : IntKind.u64.wrap v = v := wrapU_in hu
  have hp := putR_small v 4 (by decide)
  go_enter Try.func35, Try.ntmps35
  go_wp2_with (go_at_call 49; refine (refSize_any _ _).mono ?_; rintro e w' ⟨rfl, rfl⟩)
  go_region_with (go_at_call 50; refine (refPut_any v 4 hu _).mono ?_; rintro e w1 ⟨rfl, hb1⟩; have hk := two_cells (below_heap hb1 h); obtain ⟨d0, d1, g0, g1⟩ := hk)
  all_goals (go_wp2; go_end0; exact ⟨rfl, ref_stored h hb1 _⟩)
theorem refNum_4_out (w : World) (b : Nat) (t : St) (v : Int) (h : QK w b t) (hv : v < 0 ∨ 4294967296 ≤ v) :
    Calls Try.prog 35 #[.pointer (some ⟨b, 0, none⟩), .int .i64 v, .int .i64 4] w fun r w' => r = .returned (.tuple #[]) ∧ QK w' b t.spoil ∧ Kept (fun k => k ≠ b) w w' := by
  obtain ⟨c0, c1, f0, f1⟩ := two_cells h
  by_cases h0 : v < 0
  · go_enter Try.func35, Try.ntmps35
    go_wp2_with (go_at_call 49; refine (refSize_any _ _).mono ?_; rintro e w' ⟨rfl, rfl⟩)
    exact bodyPost_ret (results_none rfl _ _ _) rfl ⟨rfl, ref_spoilt h⟩
  · have h1 : 4294967296 ≤ v := by omega
    go_enter Try.func35, Try.ntmps35
    go_wp2_with (go_at_call 49; refine (refSize_any _ _).mono ?_; rintro e w' ⟨rfl, rfl⟩)
    exact bodyPost_ret (results_none rfl _ _ _) rfl ⟨rfl, ref_spoilt h⟩
set_option maxHeartbeats 1000000 in
theorem refNum_8 (w : World) (b : Nat) (t : St) (v : Int) (h : QK w b t) (hs : t.s.size ≤ 1099511627776) (h0 : 0 ≤ v) (h1 : v < 9223372036854775808) :
    Calls Try.prog 35 #[.pointer (some ⟨b, 0, none⟩), .int .i64 v, .int .i64 8] w fun r w' => r = .returned (.tuple #[]) ∧ QK w' b (t.add (putR v 8)) ∧ Kept (fun k => k ≠ b) w w' := by
  obtain ⟨c0, c1, f0, f1⟩ := two_cells h
  have hu : U64 v := ⟨by omega, by omega⟩
  have e1 : IntKind.u64.wrap v = v := wrapU_in hu
  have hp := putR_small v 8 (by decide)
  go_enter Try.func35, Try.ntmps35
  go_wp2_with (go_at_call 49; refine (refSize_any _ _).mono ?_; rintro e w' ⟨rfl, rfl⟩)
  go_region_with (go_at_call 50; refine (refPut_any v 8 hu _).mono ?_; rintro e w1 ⟨rfl, hb1⟩; have hk := two_cells (below_heap hb1 h); obtain ⟨d0, d1, g0, g1⟩ := hk)
  all_goals (go_wp2; go_end0; exact ⟨rfl, ref_stored h hb1 _⟩)
theorem refNum_8_out (w : World) (b : Nat) (t : St) (v : Int) (h : QK w b t) (hv : v < 0 ∨ 9223372036854775808 ≤ v) :
    Calls Try.prog 35 #[.pointer (some ⟨b, 0, none⟩), .int .i64 v, .int .i64 8] w fun r w' => r = .returned (.tuple #[]) ∧ QK w' b t.spoil ∧ Kept (fun k => k ≠ b) w w' := by
  obtain ⟨c0, c1, f0, f1⟩ := two_cells h
  by_cases h0 : v < 0
  · go_enter Try.func35, Try.ntmps35
    go_wp2_with (go_at_call 49; refine (refSize_any _ _).mono ?_; rintro e w' ⟨rfl, rfl⟩)
    exact bodyPost_ret (results_none rfl _ _ _) rfl ⟨rfl, ref_spoilt h⟩
  · have h1 : 9223372036854775808 ≤ v := by omega
    go_enter Try.func35, Try.ntmps35
    go_wp2_with (go_at_call 49; refine (refSize_any _ _).mono ?_; rintro e w' ⟨rfl, rfl⟩)
    exact bodyPost_ret (results_none rfl _ _ _) rfl ⟨rfl, ref_spoilt h⟩
theorem refNum_none (w : World) (b : Nat) (t : St) (v n : Int) (h : QK w b t) (hn : ¬ (n = 1 ∨ n = 2 ∨ n = 4 ∨ n = 8)) :
    Calls Try.prog 35 #[.pointer (some ⟨b, 0, none⟩), .int .i64 v, .int .i64 n] w fun r w' => r = .returned (.tuple #[]) ∧ QK w' b t.spoil ∧ Kept (fun k => k ≠ b) w w' := by
  obtain ⟨c0, c1, f0, f1⟩ := two_cells h
  have d1 : (n == 1) = false := by simp; omega
  have d2 : (n == 2) = false := by simp; omega
  have d4 : (n == 4) = false := by simp; omega
  have H := Lib.hid (show decide (n = 1 ∨ n = 2 ∨ n = 4 ∨ n = 8) = false by simp; omega)
  clear hn
  go_enter Try.func35, Try.ntmps35
  go_wp2_with (go_at_call 49; refine (refSize_any _ _).mono ?_; rintro e w' ⟨rfl, rfl⟩; rw [H.out])
  exact bodyPost_ret (results_none rfl _ _ _) rfl ⟨rfl, ref_spoilt h⟩

theorem refNum_any (w : World) (b : Nat) (t : St) (v n : Int) (h : QK w b t) (hs : t.s.size ≤ 1099511627776) (hv : -9223372036854775808 ≤ v ∧ v ≤ 9223372036854775807) :
    Calls Try.prog 35 #[.pointer (some ⟨b, 0, none⟩), .int .i64 v, .int .i64 n] w fun r w' => r = .returned (.tuple #[]) ∧ QK w' b (t.num v n) ∧ Kept (fun k => k ≠ b) w w' := by
  by_cases hn : n = 1 ∨ n = 2 ∨ n = 4 ∨ n = 8
  · by_cases hok : numOk v n
    · rw [show t.num v n = t.add (putR v n) from if_pos hok]
      unfold numOk at hok
      rcases hn with rfl | rfl | rfl | rfl
      · exact refNum_1 w b t v h hs (by omega) (by omega)
      · exact refNum_2 w b t v h hs (by omega) (by omega)
      · exact refNum_4 w b t v h hs (by omega) (by omega)
      · exact refNum_8 w b t v h hs (by omega) (by omega)
    · rw [show t.num v n = t.spoil from if_neg hok]
      unfold numOk at hok
      rcases hn with rfl | rfl | rfl | rfl
      · exact refNum_1_out w b t v h (by omega)
      · exact refNum_2_out w b t v h (by omega)
      · exact refNum_4_out w b t v h (by omega)
      · exact refNum_8_out w b t v h (by omega)
  · rw [show t.num v n = t.spoil from if_neg (by unfold numOk; omega)]
    exact refNum_none w b t v n h hn
end Go.Proofs.Ytbiihcoobknmjaa
