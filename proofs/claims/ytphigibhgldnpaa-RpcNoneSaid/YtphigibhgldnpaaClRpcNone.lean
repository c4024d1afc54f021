/- The law RpcNone: nodes that nobody made answer nothing. Conditions: none. -/
import Derived.Test.YtphigibhgldnpaaG28a
import Derived.Test.YtphigibhgldnpaaG23a
namespace Go.Proofs.Ytphigibhgldnpaa
open Go.ChangeShapes Go.WideShapes Go.ChangeAt Go.RowKit
open Go.ChangeMaps (open_string shut_string)
set_option linter.unusedVariables false
set_option maxRecDepth 20000

set_option maxHeartbeats 4000000 in
theorem rpcNone_walk {UG : Nat → Nat → (Nat → Prop) → World → Us → Prop} {OG : Nat → (Nat → Prop) → World → Od → Prop} {LG : Nat → (Nat → Prop) → World → Ly → Prop} {NG : Nat → (Nat → Prop) → World → Nd → Prop} (HS : RpcSays UG OG LG NG) (a : Ak) (w : World) (h : AkIn w a) :
    Calls Try.prog 4 #[askV a] w fun e w' => e = .returned (.bool true) ∧ Below w.heap.size w w' := by
  have CW := Lib.hid (fun w => wakes13_any HS w)
  have HB0 := Lib.hid (show Below w.heap.size w (w.alloc (.cells (askC a).toArray 37)) from (Below.refl w.heap.size w).alloc (Nat.le_refl _) _)
  have HX := Lib.hid (show (w.alloc (.cells (askC a).toArray 37)).heap[w.heap.size]? = some (.cells (askC a).toArray 37 (0, 0)) from heap_alloc_new _ _)
  have HA := Lib.hid (h.below HB0.out)
  have CL1 := Lib.hid (largeAsk_any a _ HA.out)
  have C2 := Lib.hid (fun (w1 : World) (h : AkIn w1 a) => HS.nil_ask a w1 h)
  have CA := Lib.hid (fun w => answer_same (anP 1 0 noS 0) none none 0 0 w (CL.nil _ _) (CL.nil _ _) ⟨by decide, fun c hc => by cases hc⟩)
  have CU := Lib.hid (HS.nil_unit 0)
  have CO := Lib.hid HS.nil_order
  have CY := Lib.hid HS.nil_layout
  have Z0 := Lib.hid (show i64w 0 from i64w_near3 (by omega))
  obtain ⟨k, un, ep, pg, sz, n, s, pe, L, ao, cap⟩ := a
  show Calls _ _ #[.agg #[.int .i64 k, .int .i64 un, .int .i64 ep, .int .i64 pg, .int .i64 sz, .int .i64 n, .string s, .int .i64 pe, .slice ao L.length cap]] w _
  cases hc : largeA ⟨k, un, ep, pg, sz, n, s, pe, L, ao, cap⟩
  · rw [hc] at CL1
    clear hc h
    go_enter Try.func4, Try.ntmps4
    go_wp2_with fail
    refine CL1.out.mono ?_
    rintro e w1 ⟨rfl, hb1⟩
    have H1 := Lib.hid (HB0.out.trans (hb1.mono HB0.out.size))
    have X1 := Lib.hid (below_heap hb1 HX.out)
    have A1 := Lib.hid (HA.out.below hb1)
    clear hb1
    have x0 : w1.cell? ⟨w.heap.size, 0, none⟩ = some (.int .i64 k) := cell_of X1.out 0
    have x1 : w1.cell? ⟨w.heap.size, 1, none⟩ = some (.int .i64 un) := cell_of X1.out 1
    have x2 : w1.cell? ⟨w.heap.size, 2, none⟩ = some (.int .i64 ep) := cell_of X1.out 2
    have x3 : w1.cell? ⟨w.heap.size, 3, none⟩ = some (.int .i64 pg) := cell_of X1.out 3
    have x4 : w1.cell? ⟨w.heap.size, 4, none⟩ = some (.int .i64 sz) := cell_of X1.out 4
    have x5 : w1.cell? ⟨w.heap.size, 5, none⟩ = some (.int .i64 n) := cell_of X1.out 5
    have x6 : w1.cell? ⟨w.heap.size, 6, none⟩ = some (.string s) := cell_of X1.out 6
    have x7 : w1.cell? ⟨w.heap.size, 7, none⟩ = some (.int .i64 pe) := cell_of X1.out 7
    have x8 : w1.cell? ⟨w.heap.size, 8, none⟩ = some (.slice ao L.length cap) := cell_of X1.out 8
    have lx := lt_of_block X1.out
    go_wp2_with (first
      | (go_at_call 8; refine (C2.out _ A1.out).mono ?_; unfold ansV ansC anP noS; rintro e w2 ⟨rfl, hb2⟩; have H2 := Lib.hid (H1.out.trans (hb2.mono H1.out.size)); clear hb2)
      | (go_at_call 18; refine (CA.out _).mono ?_; rintro e w3 ⟨rfl, hb3⟩; have H3 := Lib.hid (H2.out.trans (hb3.mono H2.out.size)); clear hb3)
      | (go_at_call 9; refine (CU.out _ Z0.out).mono ?_; rintro e w4 ⟨rfl, hb4⟩; have H4 := Lib.hid (H3.out.trans (hb4.mono H3.out.size)); clear hb4)
      | (go_at_call 13; refine (CO.out _).mono ?_; rintro e w5 ⟨rfl, hb5⟩; have H5 := Lib.hid (H4.out.trans (hb5.mono H4.out.size)); clear hb5)
      | (go_at_call 15; refine (CY.out _).mono ?_; rintro e w6 ⟨rfl, hb6⟩; have H6 := Lib.hid (H5.out.trans (hb6.mono H5.out.size)); clear hb6)
      | (go_at_call 7; refine (CW.out _).mono ?_; rintro e w7 ⟨rfl, hb7⟩; have H7 := Lib.hid (H6.out.trans (hb7.mono H6.out.size)); clear hb7))
    go_ret
    exact ⟨rfl, H7.out⟩
  · rw [hc] at CL1
    clear hc h
    go_enter Try.func4, Try.ntmps4
    go_wp2_with (first
      | (go_at_call 17; refine CL1.out.mono ?_; rintro e w1 ⟨rfl, hb1⟩; have H1 := Lib.hid (HB0.out.trans (hb1.mono HB0.out.size)); clear hb1)
      | (go_at_call 7; refine (CW.out _).mono ?_; rintro e w2 ⟨rfl, hb2⟩; have H2 := Lib.hid (H1.out.trans (hb2.mono H1.out.size)); clear hb2))
    go_ret
    exact ⟨rfl, H2.out⟩

set_option maxRecDepth 100000 in
theorem rpcNone_lifted (os : Os) (started : os.Started) (H : Type) (enc : TypeId × Value → H) :
    ReturnsInHanded {} Try.checked os 4 .any (Rows.rpcNoneSpec.pre6 enc Try.prog Try.f4 Rows.rpcNoneRow.domain false) (Rows.rpcNoneSpec.post enc Try.prog Try.f4 false true false false) := by
  refine returnsInHanded_of_change (C := Try.checked) own started (by kernel_rfl) Try.func4
    (ChangeSpec.witness6 (enc := enc) (C := Try.checked) false ⟨#[], #[.agg #[.int .i64 0, .int .i64 0, .int .i64 0, .int .i64 0, .int .i64 0, .int .i64 0, .string ByteArray.empty, .int .i64 0, .slice none 0 0]], []⟩ 8 (by kernel_rfl) (by kernel_rfl) (by kernel_rfl) (by kernel_rfl)) ?_
  intro W base args ds gs before hval0 hW hcnd _
  have hval : ∀ (j : Nat) t v, Try.f4.params[j]? = some t → args[j]? = some v → Value.okWide Try.prog W .any base t v := hval0
  have hW' := hW
  obtain ⟨p, q, hA0, hV, rfl, hfz, hnd⟩ := hW
  have hA : DataW.TrodAll enc Try.prog W 0 (fun _ => true) true Try.f4.params.toList args.toList ds p := hA0
  rw [Try.params4] at hA hval
  obtain ⟨v0, vs0, d0, ds0, p0, q0, hargs, rfl, rfl, h0, r0⟩ := trodAll_cons hA
  obtain ⟨rfl, rfl, rfl⟩ := trodAll_nil r0
  obtain rfl : args = #[v0] := by cases args; simp_all
  obtain ⟨rfl, rfl⟩ := trodVars_none hV
  have k0 := h0
  have lt0 : ∀ x ∈ p0, x.block < W.heap.size := by obtain ⟨m, hm⟩ := k0; exact DataW.trod_lt m _ _ _ hm
  obtain ⟨a0, rfl, hF0⟩ := open_ask askT (hval 0 37 v0 rfl rfl) h0
  clear hA0 hval0
  refine (rpcNone_walk rpcSays a0 W hF0).mono fun e W' ⟨he, bel⟩ => ?_
  subst he
  exact ⟨_, rfl, _, _, _, [], _, [], hW', trodAll_mk1 (shut_bool Try.underlying4 _), (trodAll_cons_mk (Below.trod laidOut (by kernel_rfl) (of_decide_eq_true (by kernel_rfl)) k0 bel lt0) trodAll_mk0), rfl, bel.frame _, fun h => by cases h⟩

theorem rpcNone_over : Rows.rpcNoneRow.holds Try.pinned (OpenSpec.ofChange Rows.rpcNoneSpec) :=
  OpenClaim.holds_of_wide 4 Try.f4 rfl rfl rfl rfl rfl rfl rfl ⟨rfl, rfl, rfl, rfl, rfl⟩ rfl rfl rfl rfl rfl (by kernel_rfl) Try.func4 (by kernel_rfl)
    (of_decide_eq_true (by kernel_rfl)) (by unfold Func.isWrapper; first | (rw [if_pos (by decide +kernel)]; kernel_rfl) | (rw [if_neg (by decide +kernel)]; exact ⟨rfl, rfl⟩))
    (fun os started H enc _ => rpcNone_lifted os started H enc)

/-- THE STATEMENT -/
theorem rpcNone_holds : Rows.RpcNoneSaid := rpcNone_over 
end Go.Proofs.Ytphigibhgldnpaa
