/- The law LayoutNone: a layout that nobody made tells nothing. Conditions: none. -/
import Derived.Test.YthfbefkddnbbcaaHb
import Derived.Test.YthfbefkddnbbcaaHc
namespace Go.Proofs.Ythfbefkddnbbcaa
open Go.ChangeShapes Go.WideShapes Go.ChangeAt Go.RowKit
open Go.ChangeMaps (open_string shut_string)
set_option linter.unusedVariables false
set_option maxRecDepth 20000

set_option maxHeartbeats 4000000 in
theorem layoutNone_walk {LG : Nat → (Nat → Prop) → World → Ly → Prop} (HS : LaySays LG) (a : Ak) (w : World) (h : AkIn w a) :
    Calls Try.prog 5 #[askV a] w fun e w' => e = .returned (.bool true) ∧ Below w.heap.size w w' := by
  have CW := Lib.hid (fun w => wakes12_any HS w)
  have HB0 := Lib.hid (below_new w (.cells (askC a).toArray 38))
  have HX := Lib.hid (show (w.alloc (.cells (askC a).toArray 38)).heap[w.heap.size]? = some (.cells (askC a).toArray 38 (0, 0)) from heap_alloc_new _ _)
  have HA := Lib.hid (h.below HB0.out)
  have CL1 := Lib.hid (largeAsk_any a _ HA.out)
  obtain ⟨k, un, ep, pg, sz, n, s, pe, L, ao, cap⟩ := a
  show Calls _ _ #[.agg #[.int .i64 k, .int .i64 un, .int .i64 ep, .int .i64 pg, .int .i64 sz, .int .i64 n, .string s, .int .i64 pe, .slice ao L.length cap]] w _
  have hfld : ∀ (q : Value) (v0 : Int) (W : World), (Instr.field 24 (.agg #[.int .i64 v0, q]) 1).run Try.prog W = .ok q W := fun q v0 W => by kernel_rfl
  cases hc : largeA ⟨k, un, ep, pg, sz, n, s, pe, L, ao, cap⟩
  · rw [hc] at CL1
    clear hc h
    have CA := Lib.hid (fun w => answer_same (anP 1 0 noL 0) none none 0 0 w (CL.nil _ _) (CL.nil _ _) ⟨by decide, fun c hc => by cases hc⟩)
    go_enter Try.func5, Try.ntmps5
    go_wp2_with fail
    refine CL1.out.mono ?_
    rintro e w1 ⟨rfl, hb1⟩
    have H1 := Lib.hid (HB0.out.trans (hb1.mono HB0.out.size))
    have A1 := Lib.hid (HA.out.below hb1)
    obtain ⟨x0, x1, x2, x3, x4, x5, x6, x7, x8⟩ := ask_cells (below_heap hb1 HX.out)
    clear hb1 HX HA
    go_wp2_with (first
      | (go_at_call 13; refine (HS.nil_ask _ _ A1.out).mono ?_; rintro e w4 ⟨rfl, hb4⟩; have H4 := Lib.hid (H1.out.trans (hb4.mono H1.out.size)); clear hb4 x0 x1 x2 x3 x4 x5 x6 x7 x8)
      | (go_at_call 12; refine (CA.out _).mono ?_; rintro e w5 ⟨rfl, hb5⟩; have H5 := Lib.hid (H4.out.trans (hb5.mono H4.out.size)); clear hb5)
      | (go_at_call 16; refine (HS.nil_now _).mono ?_; rintro e w6 ⟨ep6, v6, rfl, hO6, hb6⟩; obtain ⟨bo, cb, hv6, _⟩ := hO6.form; subst hv6; have H6 := Lib.hid (H5.out.trans (hb6.mono H5.out.size)); clear hb6 hO6)
      | (go_at_call 18; refine (HS.nil_used _).mono ?_; rintro e w7 ⟨v7, rfl, hO7, hb7⟩; obtain ⟨bp, cp, hv7, _⟩ := hO7.form; subst hv7; have H7 := Lib.hid (H6.out.trans (hb7.mono H6.out.size)); clear hb7 hO7)
      | (go_at_call 8; refine (CW.out _).mono ?_; rintro e w9 ⟨rfl, hb9⟩; have H9 := Lib.hid (H7.out.trans (hb9.mono H7.out.size)); clear hb9))
    go_ret
    exact ⟨rfl, H9.out⟩
  · rw [hc] at CL1
    clear hc h
    go_enter Try.func5, Try.ntmps5
    go_wp2_with fail
    refine CL1.out.mono ?_
    rintro e w1 ⟨rfl, hb1⟩
    have H1 := Lib.hid (HB0.out.trans (hb1.mono HB0.out.size))
    clear hb1
    go_wp2_with (go_at_call 8; refine (CW.out _).mono ?_; rintro e w9 ⟨rfl, hb9⟩; have H9 := Lib.hid (H1.out.trans (hb9.mono H1.out.size)); clear hb9)
    go_ret
    exact ⟨rfl, H9.out⟩

set_option maxRecDepth 100000 in
theorem layoutNone_lifted (os : Os) (started : os.Started) (H : Type) (enc : TypeId × Value → H) :
    ReturnsInHanded {} Try.checked os 5 .any (Rows.layoutNoneSpec.pre6 enc Try.prog Try.f5 Rows.layoutNoneRow.domain false) (Rows.layoutNoneSpec.post enc Try.prog Try.f5 false true false false) := by
  refine returnsInHanded_of_change (C := Try.checked) own started (by kernel_rfl) Try.func5
    (ChangeSpec.witness6 (enc := enc) (C := Try.checked) false ⟨#[], #[.agg #[.int .i64 0, .int .i64 0, .int .i64 0, .int .i64 0, .int .i64 0, .int .i64 0, .string ByteArray.empty, .int .i64 0, .slice none 0 0]], []⟩ 8 (by kernel_rfl) (by kernel_rfl) (by kernel_rfl) (by kernel_rfl)) ?_
  intro W base args ds gs before hval0 hW hcnd _
  have hval : ∀ (j : Nat) t v, Try.f5.params[j]? = some t → args[j]? = some v → Value.okWide Try.prog W .any base t v := hval0
  have hW' := hW
  obtain ⟨p, q, hA0, hV, rfl, hfz, hnd⟩ := hW
  have hA : DataW.TrodAll enc Try.prog W 0 (fun _ => true) true Try.f5.params.toList args.toList ds p := hA0
  rw [Try.params5] at hA hval
  obtain ⟨v0, vs0, d0, ds0, p0, q0, hargs, rfl, rfl, h0, r0⟩ := trodAll_cons hA
  obtain ⟨rfl, rfl, rfl⟩ := trodAll_nil r0
  obtain rfl : args = #[v0] := by cases args; simp_all
  obtain ⟨rfl, rfl⟩ := trodVars_none hV
  have k0 := h0
  have lt0 : ∀ x ∈ p0, x.block < W.heap.size := by obtain ⟨m, hm⟩ := k0; exact DataW.trod_lt m _ _ _ hm
  obtain ⟨a0, rfl, hF0⟩ := open_ask askT (hval 0 38 v0 rfl rfl) h0
  clear hA0 hval0
  refine (layoutNone_walk laySays a0 W hF0).mono fun e W' ⟨he, bel⟩ => ?_
  subst he
  exact ⟨_, rfl, _, _, _, [], _, [], hW', trodAll_mk1 (shut_bool Try.underlying4 _), (trodAll_cons_mk (Below.trod laidOut (by kernel_rfl) (of_decide_eq_true (by kernel_rfl)) k0 bel lt0) trodAll_mk0), rfl, bel.frame _, fun h => by cases h⟩

theorem layoutNone_over : Rows.layoutNoneRow.holds Try.pinned (OpenSpec.ofChange Rows.layoutNoneSpec) :=
  OpenClaim.holds_of_wide 5 Try.f5 rfl rfl rfl rfl rfl rfl rfl ⟨rfl, rfl, rfl, rfl, rfl⟩ rfl rfl rfl rfl rfl (by kernel_rfl) Try.func5 (by kernel_rfl)
    (of_decide_eq_true (by kernel_rfl)) (by unfold Func.isWrapper; first | (rw [if_pos (by decide +kernel)]; kernel_rfl) | (rw [if_neg (by decide +kernel)]; exact ⟨rfl, rfl⟩))
    (fun os started H enc _ => layoutNone_lifted os started H enc)

/-- THE STATEMENT -/
theorem layoutNone_holds : Rows.LayoutNoneSaid := layoutNone_over 
end Go.Proofs.Ythfbefkddnbbcaa
