/- OpDecodes: the record of every text, or that there is none, is what the document's own answer says, and the law's examples come out. No conditions. -/
import Derived.Test.YthileemkiplodaaJFrame
import Derived.Test.YthileemkiplodaaHe
namespace Go.Proofs.Ythileemkiplodaa
open Go.ChangeShapes Go.WideShapes Go.ChangeAt Go.RowKit
open Go.ChangeMaps (open_string shut_string)
set_option linter.unusedVariables false
set_option maxRecDepth 20000

set_option maxHeartbeats 4000000 in
theorem opDecodes_walk (a0 : ByteArray) (w0 : a0.size ≤ maxLen) (w : World) :
    Calls Try.prog 4 #[.string a0] w fun e w' => e = .returned (.bool true) ∧ Below w.heap.size w w' := by
  clear w0
  by_cases g0 : (a0.size : Int) ≤ 20000
  · have c1 := fun w => decode_any a0 w (by omega)
    have c2 := fun w => rdecode_any a0 w (by omega)
    have hlen := Nat.le_trans (dec_len a0) (show 16 ≤ 1000000 by decide)
    have HLN := Lib.hid hlen
    clear hlen
    generalize decR a0 = x at *
    have HZ := Lib.hid (rec_info x.1)
    go_enter Try.func4, Try.ntmps4
    go_wp2_with (first | (go_at_call 16; refine (c1 _).mono ?_; rintro e w1 ⟨ao, cap, rfl, hv1, hb1⟩; have HB1 := Lib.hid hb1; have HV1 := Lib.hid hv1; clear hv1 hb1) | (refine wpList_store_row (o := ⟨none, _, _, _, _, _⟩) ?a1 24 (.tmp 3) (.tmp 14) ?a2 w1.heap.size (recA x.1 (.slice ao x.1.moves.length cap)) ?a3 ?a4 24 (recA rec0 (.slice none 0 0)) (heap_alloc_new w1 _) (HZ.out _) rfl (rec_one _ _ _ _) ?a5; (case a1 => rfl); (case a2 => rfl); (case a3 => rfl); (case a4 => rfl); generalize hW2 : World.setRow _ _ _ = w2; have hh := row_stored (o := x.1) (mv := .slice ao x.1.moves.length cap) HB1.out (rfl : w1.heap.size = w1.heap.size); have HX2 := Lib.hid (show w2.heap[w1.heap.size]? = some (.cells (recA x.1 (.slice ao x.1.moves.length cap)) 24 (0, 0)) by {rw [← hW2]; exact hh.1}); have HB2 := Lib.hid (show Below w.heap.size w w2 by {rw [← hW2]; exact hh.2.1}); have HV2 := Lib.hid (HV1.out.below (show Below w1.heap.size w1 w2 by {rw [← hW2]; exact hh.2.2})); clear hh; clear hW2) | (go_at_call 17; refine (c2 _).mono ?_; rintro e w3 ⟨ao2, cap2, rfl, hv3, hb3⟩; have HX3 := Lib.hid (below_heap hb3 HX2.out); have HV3 := Lib.hid (HV2.out.below hb3); have HU3 := Lib.hid hv3; have HB3 := Lib.hid (HB2.out.trans (hb3.mono HB2.out.size)); clear hv3 hb3) | (refine wpList_store_row (o := ⟨none, _, _, _, _, _⟩) ?b1 24 (.tmp 5) (.tmp 19) ?b2 w3.heap.size (recA x.1 (.slice ao2 x.1.moves.length cap2)) ?b3 ?b4 24 (recA rec0 (.slice none 0 0)) (heap_alloc_new w3 _) (HZ.out _) rfl (rec_one _ _ _ _) ?b5; (case b1 => rfl); (case b2 => rfl); (case b3 => rfl); (case b4 => rfl); generalize hW4 : World.setRow _ _ _ = w4; have hh := row_stored (o := x.1) (mv := .slice ao2 x.1.moves.length cap2) HB3.out (rfl : w3.heap.size = w3.heap.size); have HY4 := Lib.hid (show w4.heap[w3.heap.size]? = some (.cells (recA x.1 (.slice ao2 x.1.moves.length cap2)) 24 (0, 0)) by {rw [← hW4]; exact hh.1}); have HB4 := Lib.hid (show Below w.heap.size w w4 by {rw [← hW4]; exact hh.2.1}); have hb34 := (show Below w3.heap.size w3 w4 by {rw [← hW4]; exact hh.2.2}); have HV4 := Lib.hid (HV3.out.below hb34); have HU4 := Lib.hid (HU3.out.below hb34); have HX4 := Lib.hid (below_heap hb34 HX3.out); clear hh hb34 hW4) | (refine wpList_load_row (o := ⟨some 21, _, _, _, _, _⟩) ?d1 24 (.tmp 3) ?d2 w1.heap.size ?d3 24 (recA x.1 (.slice ao x.1.moves.length cap)) (0, 0) _ HX4.out Try.underlying24 rfl (HZ.out _) ?d4; (case d1 => rfl); (case d2 => rfl); (case d3 => rfl)) | (refine wpList_load_row (o := ⟨some 22, _, _, _, _, _⟩) ?e1 24 (.tmp 5) ?e2 w3.heap.size ?e3 24 (recA x.1 (.slice ao2 x.1.moves.length cap2)) (0, 0) _ HY4.out Try.underlying24 rfl (HZ.out _) ?e4; (case e1 => rfl); (case e2 => rfl); (case e3 => rfl)) | (go_at_call 15; refine (op_same x.1 ao ao2 cap cap2 _ HLN.out HV4.out.1 HU4.out.1).mono ?_; rintro e w5 ⟨rfl, hb5⟩; have HB5 := Lib.hid (HB4.out.trans (hb5.mono HB4.out.size)); clear hb5) | (go_at_call 9; refine (wakes_any _).mono ?_; rintro e w6 ⟨rfl, hb6⟩))
    go_ret
    exact ⟨rfl, HB5.out.trans (hb6.mono HB5.out.size)⟩
  · go_enter Try.func4, Try.ntmps4
    go_wp2_with (go_at_call 9; refine (wakes_any _).mono ?_; rintro e w1 ⟨rfl, hb1⟩)
    go_ret
    exact ⟨rfl, hb1⟩

set_option maxRecDepth 100000 in
theorem opDecodes_lifted (os : Os) (started : os.Started) (H : Type) (enc : TypeId × Value → H) :
    ReturnsInHanded {} Try.checked os 4 .any (Rows.opDecodesSpec.pre6 enc Try.prog Try.f4 Rows.opDecodesRow.domain false) (Rows.opDecodesSpec.post enc Try.prog Try.f4 false true false false) := by
  refine returnsInHanded_of_change (C := Try.checked) own started (by kernel_rfl) Try.func4
    (ChangeSpec.witness6 (enc := enc) (C := Try.checked) false ⟨#[], #[.string ByteArray.empty], []⟩ 8 (by kernel_rfl) (by kernel_rfl) (by kernel_rfl) (by kernel_rfl)) ?_
  intro W base args ds gs before hval0 hW hcnd _
  have hval : ∀ (j : Nat) t v, Try.f4.params[j]? = some t → args[j]? = some v → Value.okWide Try.prog W .any base t v := hval0
  have hW' := hW
  obtain ⟨p, q, hA0, hV, rfl, hfz, hnd⟩ := hW
  have hA : DataW.TrodAll enc Try.prog W 0 (fun _ => true) true Try.f4.params.toList args.toList ds p := hA0
  rw [Try.params4] at hA hval
  obtain ⟨v0, vs0, d0, ds0, p0, q0, hargs, rfl, rfl, h0, r0⟩ := trodAll_cons hA
  obtain ⟨rfl, rfl, rfl⟩ := trodAll_nil r0
  obtain rfl : args = #[v0] := by cases args; simp_all
  obtain ⟨rfl, rfl⟩ := trodVars_none hV
  have k0 := h0
  have lt0 : ∀ x ∈ p0, x.block < W.heap.size := by obtain ⟨m, hm⟩ := k0; exact DataW.trod_lt m _ _ _ hm
  obtain ⟨a0, rfl, rfl, rfl, w0⟩ := open_string Try.underlying9 (hval 0 9 v0 rfl rfl) h0
  clear hA0 hval0
  refine (opDecodes_walk a0 w0 W).mono fun e W' ⟨he, bel⟩ => ?_
  subst he
  exact ⟨_, rfl, _, _, _, [], _, [], hW', trodAll_mk1 (shut_bool Try.underlying4 _), (trodAll_cons_mk (Below.trod laidOut (by kernel_rfl) (of_decide_eq_true (by kernel_rfl)) k0 bel lt0) trodAll_mk0), rfl, bel.frame _, fun h => by cases h⟩

theorem opDecodes_over : Rows.opDecodesRow.holds Try.pinned (OpenSpec.ofChange Rows.opDecodesSpec) :=
  OpenClaim.holds_of_wide 4 Try.f4 rfl rfl rfl rfl rfl rfl rfl ⟨rfl, rfl, rfl, rfl, rfl⟩ rfl rfl rfl rfl rfl (by kernel_rfl) Try.func4 (by kernel_rfl)
    (of_decide_eq_true (by kernel_rfl)) (by unfold Func.isWrapper; first | (rw [if_pos (by decide +kernel)]; kernel_rfl) | (rw [if_neg (by decide +kernel)]; exact ⟨rfl, rfl⟩))
    (fun os started H enc _ => opDecodes_lifted os started H enc)

/-- THE STATEMENT -/
theorem opDecodes_holds : Rows.OpDecodesSaid := opDecodes_over
end Go.Proofs.Ythileemkiplodaa
