/- The law UnitNone: a unit that nobody made is down, and answers nothing. No conditions. -/
import Derived.Test.YtaodmdoagngdnaaUnpH
import Derived.Test.YtaodmdoagngdnaaUniV
namespace Go.Proofs.Ytaodmdoagngdnaa
open Go.ChangeShapes Go.WideShapes Go.ChangeAt Go.RowKit
open Go.ChangeMaps (open_string shut_string)
set_option linter.unusedVariables false
set_option maxRecDepth 20000

set_option maxHeartbeats 4000000 in
theorem unitNone_walk {UG : Nat → Nat → (Nat → Prop) → World → Us → Prop} (HS : UnitSays UG) (a : Ak) (w : World) (h : AkIn w a) :
    Calls Try.prog 6 #[askV a] w fun e w' => e = .returned (.bool true) ∧ Below w.heap.size w w' := by
  have CW := Lib.hid (fun w => wakes10_any HS w)
  have HB0 := Lib.hid (show Below w.heap.size w (w.alloc (.cells (askC a).toArray 36)) from (Below.refl w.heap.size w).alloc (Nat.le_refl _) _)
  have HX := Lib.hid (show (w.alloc (.cells (askC a).toArray 36)).heap[w.heap.size]? = some (.cells (askC a).toArray 36 (0, 0)) from heap_alloc_new _ _)
  have HA := Lib.hid (h.below HB0.out)
  have CL1 := Lib.hid (largeAsk_any a _ HA.out)
  obtain ⟨k, un, ep, pg, sz, n, s, pe, L, ao, cap⟩ := a
  show Calls _ _ #[.agg #[.int .i64 k, .int .i64 un, .int .i64 ep, .int .i64 pg, .int .i64 sz, .int .i64 n, .string s, .int .i64 pe, .slice ao L.length cap]] w _
  cases hc : largeA ⟨k, un, ep, pg, sz, n, s, pe, L, ao, cap⟩
  · have HS6 := Lib.hid (show s.size ≤ 1000000 from Nat.le_trans (largeA_no hc).1 (by decide))
    rw [hc] at CL1
    clear hc h
    have CA := Lib.hid (fun w => answer_same (anP 1 0 noS 0) none none 0 0 w (CL.nil _ _) (CL.nil _ _) ⟨by decide, fun c hc => by cases hc⟩)
    go_enter Try.func6, Try.ntmps6
    go_wp2_with fail
    refine CL1.out.mono ?_
    rintro e w1 ⟨rfl, hb1⟩
    have H1 := Lib.hid (HB0.out.trans (hb1.mono HB0.out.size))
    have X1 := Lib.hid (below_heap hb1 HX.out)
    have A1 := Lib.hid (HA.out.below hb1)
    clear hb1 HX HA
    go_wp2_with (first
      | (go_at_call 14; refine (HS.nil_crash _).mono ?_; rintro e w2 ⟨rfl, hb2⟩; have H2 := Lib.hid (H1.out.trans (hb2.mono H1.out.size)); have X2 := Lib.hid (below_heap hb2 X1.out); have A2 := Lib.hid (A1.out.below hb2); clear hb2)
      | (go_at_call 15; refine (HS.nil_start _).mono ?_; rintro e w3 ⟨rfl, hb3⟩; have H3 := Lib.hid (H2.out.trans (hb3.mono H2.out.size)); have A3 := Lib.hid (A2.out.below hb3); obtain ⟨x0, x1, x2, x3, x4, x5, x6, x7, x8⟩ := ask_cells (below_heap hb3 X2.out); clear hb3)
      | (go_at_call 12; refine (HS.nil_ask _ _ A3.out HS6.out).mono ?_; rintro e w4 ⟨rfl, hb4⟩; have H4 := Lib.hid (H3.out.trans (hb4.mono H3.out.size)); clear hb4 x0 x1 x2 x3 x4 x5 x6 x7 x8; unfold anV)
      | (go_at_call 11; refine (CA.out _).mono ?_; rintro e w5 ⟨rfl, hb5⟩; have H5 := Lib.hid ((H4.out.alloc H4.out.size _).trans (hb5.mono (Nat.le_trans H4.out.size (by simp)))); clear hb5)
      | (go_at_call 16; refine (HS.nil_down _).mono ?_; rintro e w6 ⟨rfl, hb6⟩; have H6 := Lib.hid (H5.out.trans (hb6.mono H5.out.size)); clear hb6)
      | (go_at_call 17; refine (HS.nil_epoch _).mono ?_; rintro e w7 ⟨rfl, hb7⟩; have H7 := Lib.hid (H6.out.trans (hb7.mono H6.out.size)); clear hb7)
      | (go_at_call 18; refine (HS.nil_pages _).mono ?_; rintro e w8 ⟨rfl, hb8⟩; have H8 := Lib.hid (H7.out.trans (hb8.mono H7.out.size)); clear hb8)
      | (go_at_call 10; refine (CW.out _).mono ?_; rintro e w9 ⟨rfl, hb9⟩; have H9 := Lib.hid (H8.out.trans (hb9.mono H8.out.size)); clear hb9))
    go_ret
    exact ⟨rfl, H9.out⟩
  · rw [hc] at CL1
    clear hc h
    go_enter Try.func6, Try.ntmps6
    go_wp2_with fail
    refine CL1.out.mono ?_
    rintro e w1 ⟨rfl, hb1⟩
    have H1 := Lib.hid (HB0.out.trans (hb1.mono HB0.out.size))
    clear hb1
    go_wp2_with (go_at_call 10; refine (CW.out _).mono ?_; rintro e w9 ⟨rfl, hb9⟩; have H9 := Lib.hid (H1.out.trans (hb9.mono H1.out.size)); clear hb9)
    go_ret
    exact ⟨rfl, H9.out⟩

set_option maxRecDepth 100000 in
theorem unitNone_lifted (os : Os) (started : os.Started) (H : Type) (enc : TypeId × Value → H) :
    ReturnsInHanded {} Try.checked os 6 .any (Rows.unitNoneSpec.pre6 enc Try.prog Try.f6 Rows.unitNoneRow.domain false) (Rows.unitNoneSpec.post enc Try.prog Try.f6 false true false false) := by
  refine returnsInHanded_of_change (C := Try.checked) own started (by kernel_rfl) Try.func6
    (ChangeSpec.witness6 (enc := enc) (C := Try.checked) false ⟨#[], #[.agg #[.int .i64 0, .int .i64 0, .int .i64 0, .int .i64 0, .int .i64 0, .int .i64 0, .string ByteArray.empty, .int .i64 0, .slice none 0 0]], []⟩ 8 (by kernel_rfl) (by kernel_rfl) (by kernel_rfl) (by kernel_rfl)) ?_
  intro W base args ds gs before hval0 hW hcnd _
  have hval : ∀ (j : Nat) t v, Try.f6.params[j]? = some t → args[j]? = some v → Value.okWide Try.prog W .any base t v := hval0
  have hW' := hW
  obtain ⟨p, q, hA0, hV, rfl, hfz, hnd⟩ := hW
  have hA : DataW.TrodAll enc Try.prog W 0 (fun _ => true) true Try.f6.params.toList args.toList ds p := hA0
  rw [Try.params6] at hA hval
  obtain ⟨v0, vs0, d0, ds0, p0, q0, hargs, rfl, rfl, h0, r0⟩ := trodAll_cons hA
  obtain ⟨rfl, rfl, rfl⟩ := trodAll_nil r0
  obtain rfl : args = #[v0] := by cases args; simp_all
  obtain ⟨rfl, rfl⟩ := trodVars_none hV
  have k0 := h0
  have lt0 : ∀ x ∈ p0, x.block < W.heap.size := by obtain ⟨m, hm⟩ := k0; exact DataW.trod_lt m _ _ _ hm
  obtain ⟨a0, rfl, hF0⟩ := open_ask askT (hval 0 36 v0 rfl rfl) h0
  clear hA0 hval0
  refine (unitNone_walk unitSays a0 W hF0).mono fun e W' ⟨he, bel⟩ => ?_
  subst he
  exact ⟨_, rfl, _, _, _, [], _, [], hW', trodAll_mk1 (shut_bool Try.underlying4 _), (trodAll_cons_mk (Below.trod laidOut (by kernel_rfl) (of_decide_eq_true (by kernel_rfl)) k0 bel lt0) trodAll_mk0), rfl, bel.frame _, fun h => by cases h⟩

theorem unitNone_over : Rows.unitNoneRow.holds Try.pinned (OpenSpec.ofChange Rows.unitNoneSpec) :=
  OpenClaim.holds_of_wide 6 Try.f6 rfl rfl rfl rfl rfl rfl rfl ⟨rfl, rfl, rfl, rfl, rfl⟩ rfl rfl rfl rfl rfl (by kernel_rfl) Try.func6 (by kernel_rfl)
    (of_decide_eq_true (by kernel_rfl)) (by unfold Func.isWrapper; first | (rw [if_pos (by decide +kernel)]; kernel_rfl) | (rw [if_neg (by decide +kernel)]; exact ⟨rfl, rfl⟩))
    (fun os started H enc _ => unitNone_lifted os started H enc)

/-- THE STATEMENT -/
theorem unitNone_holds : Rows.UnitNoneSaid := unitNone_over 
end Go.Proofs.Ytaodmdoagngdnaa
