/- ShiftFields: for every two numbers and every place and count of bits, shift's Field and With tell what the document asks, and the law's examples come out. No conditions. -/
import Derived.Test.YtjcfhlojiolhlaaFrame
import Derived.Test.YtjcfhlojiolhlaaWake
import Derived.Deep.RegionHeld3
namespace Go.Proofs.Ytjcfhlojiolhlaa
open Go.ChangeShapes Go.WideShapes Go.ChangeAt Go.RowKit
open Go.ChangeMaps (open_string shut_string)
set_option linter.unusedVariables false

set_option maxHeartbeats 1000000 in
theorem shiftFields_walk (a0 a1 x2_0 x2_1 : Int) (w0 : (Lit.int .u64 a0).wf = true) (w1 : (Lit.int .u64 a1).wf = true) (w2_0 : (Lit.int .i64 x2_0).wf = true) (w2_1 : (Lit.int .i64 x2_1).wf = true) (w : World) :
    Calls Try.prog 5 #[.int .u64 a0, .int .u64 a1, .agg #[.int .i64 x2_0, .int .i64 x2_1]] w fun e w' => e = .returned (.bool true) ∧ Below w.heap.size w w' := by
  have hv : U64 a0 := U64.of_wf w0
  have hf : U64 a1 := U64.of_wf w1
  obtain ⟨m0, m1⟩ := i64_of_wf w2_0
  obtain ⟨n0, n1⟩ := i64_of_wf w2_1
  clear w0 w1 w2_0 w2_1
  go_enter Try.func5, Try.ntmps5
  go_wp2_with (fail)
  go_region_held3 (fun w' => w'.cell? ⟨w.heap.size, 0, none⟩ = some (.int .i64 x2_0) ∧ w'.cell? ⟨w.heap.size, 1, none⟩ = some (.int .i64 x2_1) ∧ Below w.heap.size w w' ∧ w.heap.size < w'.heap.size) (first | exact box2_start _ _ _ _ | exact box2_keep hb1 (by assumption))
    (first | (go_at_call 19; refine (Calls.drawn (field_any _ _ _ hv n1 _)).mono ?_; rintro e w1 ⟨rfl, hb1⟩) | (go_at_call 20; refine (Calls.same (refField_any _ _ _ hv n1 m1 _)).mono ?_; rintro e w1 ⟨rfl, hb1⟩) | (go_at_call 21; refine (Calls.drawn (with_any _ _ _ _ hv hf n1 _)).mono ?_; rintro e w1 ⟨rfl, hb1⟩) | (go_at_call 22; refine (Calls.same (refWith_any _ _ _ _ hv hf n1 m1 _)).mono ?_; rintro e w1 ⟨rfl, hb1⟩) | (go_at_call 10; refine (wakes_any _).mono ?_; rintro e w1 ⟨rfl, hb1⟩))
  go_wp2
  go_ret
  rename_i hS
  exact ⟨rfl, hS.2.2.1⟩

set_option maxRecDepth 100000 in
theorem shiftFields_lifted (os : Os) (started : os.Started) (H : Type) (enc : TypeId × Value → H) :
    ReturnsInHanded {} Try.checked os 5 .any (Rows.shiftFieldsSpec.pre6 enc Try.prog Try.f5 Rows.shiftFieldsRow.domain false) (Rows.shiftFieldsSpec.post enc Try.prog Try.f5 false true false false) := by
  refine returnsInHanded_of_change (C := Try.checked) own started (by kernel_rfl) Try.func5
    (ChangeSpec.witness6 (enc := enc) (C := Try.checked) false ⟨#[], #[.int .u64 0, .int .u64 0, .agg #[.int .i64 0, .int .i64 0]], []⟩ 8 (by kernel_rfl) (by kernel_rfl) (by kernel_rfl) (by kernel_rfl)) ?_
  intro W base args ds gs before hval0 hW hcnd _
  have hval : ∀ (j : Nat) t v, Try.f5.params[j]? = some t → args[j]? = some v → Value.okWide Try.prog W .any base t v := hval0
  have hW' := hW
  obtain ⟨p, q, hA0, hV, rfl, hfz, hnd⟩ := hW
  have hA : DataW.TrodAll enc Try.prog W 0 (fun _ => true) true Try.f5.params.toList args.toList ds p := hA0
  rw [Try.params5] at hA hval
  obtain ⟨v0, vs0, d0, ds0, p0, q0, hargs, rfl, rfl, h0, r0⟩ := trodAll_cons hA
  obtain ⟨v1, vs1, d1, ds1, p1, q1, rfl, rfl, rfl, h1, r1⟩ := trodAll_cons r0
  obtain ⟨v2, vs2, d2, ds2, p2, q2, rfl, rfl, rfl, h2, r2⟩ := trodAll_cons r1
  obtain ⟨rfl, rfl, rfl⟩ := trodAll_nil r2
  obtain rfl : args = #[v0, v1, v2] := by cases args; simp_all
  obtain ⟨rfl, rfl⟩ := trodVars_none hV
  have k0 := h0
  have lt0 : ∀ x ∈ p0, x.block < W.heap.size := by obtain ⟨m, hm⟩ := k0; exact DataW.trod_lt m _ _ _ hm
  have k1 := h1
  have lt1 : ∀ x ∈ p1, x.block < W.heap.size := by obtain ⟨m, hm⟩ := k1; exact DataW.trod_lt m _ _ _ hm
  have k2 := h2
  have lt2 : ∀ x ∈ p2, x.block < W.heap.size := by obtain ⟨m, hm⟩ := k2; exact DataW.trod_lt m _ _ _ hm
  obtain ⟨a0, rfl, rfl, rfl, w0⟩ := open_int Try.underlying22 (hval 0 22 v0 rfl rfl) h0
  obtain ⟨a1, rfl, rfl, rfl, w1⟩ := open_int Try.underlying22 (hval 1 22 v1 rfl rfl) h1
  obtain ⟨ns2, rfl, hl2, hw2⟩ := open_arr (k := .i64) Try.underlying23 Try.underlying3 (by kernel_rfl) (by kernel_rfl) (hval 2 23 v2 rfl rfl) h2
  obtain ⟨x2_0, x2_1, rfl⟩ := two_of hl2
  have w2_0 := hw2 x2_0 (by simp)
  have w2_1 := hw2 x2_1 (by simp)
  clear hA0 hval0
  refine (shiftFields_walk a0 a1 x2_0 x2_1 w0 w1 w2_0 w2_1 W).mono fun e W' ⟨he, bel⟩ => ?_
  subst he
  exact ⟨_, rfl, _, _, _, [], _, [], hW', trodAll_mk1 (shut_bool Try.underlying4 _), (trodAll_cons_mk (Below.trod laidOut (by kernel_rfl) (of_decide_eq_true (by kernel_rfl)) k0 bel lt0) (trodAll_cons_mk (Below.trod laidOut (by kernel_rfl) (of_decide_eq_true (by kernel_rfl)) k1 bel lt1) (trodAll_cons_mk (Below.trod laidOut (by kernel_rfl) (of_decide_eq_true (by kernel_rfl)) k2 bel lt2) trodAll_mk0))), rfl, bel.frame _, fun h => by cases h⟩

theorem shiftFields_over : Rows.shiftFieldsRow.holds Try.pinned (OpenSpec.ofChange Rows.shiftFieldsSpec) :=
  OpenClaim.holds_of_wide 5 Try.f5 rfl rfl rfl rfl rfl rfl rfl ⟨rfl, rfl, rfl, rfl, rfl⟩ rfl rfl rfl rfl rfl (by kernel_rfl) Try.func5 (by kernel_rfl)
    (of_decide_eq_true (by kernel_rfl)) (by unfold Func.isWrapper; first | (rw [if_pos (by decide +kernel)]; kernel_rfl) | (rw [if_neg (by decide +kernel)]; exact ⟨rfl, rfl⟩))
    (fun os started H enc _ => shiftFields_lifted os started H enc)

/-- THE STATEMENT -/
theorem shiftFields_holds : Rows.ShiftFieldsSaid := shiftFields_over
end Go.Proofs.Ytjcfhlojiolhlaa
