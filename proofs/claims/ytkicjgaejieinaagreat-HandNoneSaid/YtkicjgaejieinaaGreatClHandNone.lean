/- The law HandNone: a hand that nobody made, or over nothing, brings nothing. Conditions: none. -/
import Derived.Test.YtkicjgaejieinaaGreatG31a
import Derived.Test.YtkicjgaejieinaaGreatG26b
namespace Go.Proofs.YtkicjgaejieinaaGreat
open Go.ChangeShapes Go.WideShapes Go.ChangeAt Go.RowKit
open Go.ChangeMaps (open_string shut_string)
set_option linter.unusedVariables false
set_option maxRecDepth 20000

set_option maxHeartbeats 4000000 in
theorem handNone_walk {UG : Nat → Nat → (Nat → Prop) → World → Us → Prop} {OG : Nat → (Nat → Prop) → World → Od → Prop} {LG : Nat → (Nat → Prop) → World → Ly → Prop} {NG : Nat → (Nat → Prop) → World → Nd → Prop} {HG : Nat → Nat → (Nat → Prop) → World → Hd → Prop} (HS : HandSays UG OG LG NG HG) (a : Ak) (x : Int) (wx : (Lit.int .i64 x).wf = true) (w : World) (h : AkIn w a) :
    Calls Tryz.prog 6 #[askV a, .int .i64 x] w fun e w' => e = .returned (.bool true) ∧ Below w.heap.size w w' := by
  have CW := Lib.hid (fun w => wakes14_any HS w)
  have HB0 := Lib.hid (show Below w.heap.size w (w.alloc (.cells (askC a).toArray 34)) from (Below.refl w.heap.size w).alloc (Nat.le_refl _) _)
  have HX := Lib.hid (show (w.alloc (.cells (askC a).toArray 34)).heap[w.heap.size]? = some (.cells (askC a).toArray 34 (0, 0)) from heap_alloc_new _ _)
  have HA := Lib.hid (h.below HB0.out)
  have CL1 := Lib.hid (largeAsk_any a _ HA.out)
  have CN := Lib.hid (fun w => HS.new_no w)
  have CA := Lib.hid (fun (w1 : World) (h : AkIn w1 a) => HS.nil_ask a x w1 h wx)
  have CD := Lib.hid (fun w => HS.nil_do x w wx)
  have CP := Lib.hid (fun w => HS.nil_drop x w wx)
  have CH := Lib.hid HS.nil_held
  have CY := Lib.hid HS.nil_nodes
  have WX := Lib.hid (show i64w x from wx)
  clear wx
  obtain ⟨k, un, ep, pg, sz, n, s, pe, L, ao, cap⟩ := a
  show Calls _ _ #[.agg #[.int .i64 k, .int .i64 un, .int .i64 ep, .int .i64 pg, .int .i64 sz, .int .i64 n, .string s, .int .i64 pe, .slice ao L.length cap], .int .i64 x] w _
  cases hc : largeA ⟨k, un, ep, pg, sz, n, s, pe, L, ao, cap⟩
  · rw [hc] at CL1
    clear hc h
    go_enter Tryz.func6, Tryz.ntmps6
    go_wp2_with fail
    refine CL1.out.mono ?_
    rintro e w1 ⟨rfl, hb1⟩
    have H1 := Lib.hid (HB0.out.trans (hb1.mono HB0.out.size))
    have X1 := Lib.hid (below_heap hb1 HX.out)
    have A1 := Lib.hid (HA.out.below hb1)
    clear hb1
    go_wp2_with (first
      | (go_at_call 23; refine (CN.out _).mono ?_; rintro e w2 ⟨p, rfl, hb2, hp2⟩; have H2 := Lib.hid (H1.out.trans (hb2.mono H1.out.size)); have X2 := Lib.hid (below_heap hb2 X1.out); have A2 := Lib.hid (A1.out.below hb2); have P2 := Lib.hid hp2; obtain ⟨x0, x1, x2, x3, x4, x5, x6, x7, x8⟩ := ask_cells X2.out; simp only at x0 x1 x2 x3 x4 x5 x6 x7 x8; have lx := lt_of_block X2.out; clear hb2 hp2)
      | (go_at_call 11; refine ((P2.out _ L4.out).1 _ x A4.out WX.out).mono ?_; rintro e w6 ⟨he, hb6⟩; obtain rfl : e = .returned (.tuple #[.agg #[.int .i64 0, .int .i64 0, .string ⟨#[]⟩, .int .i64 0, .slice none 0 0, .int .i64 0, .int .i64 0, .int .i64 0], .bool false]) := he; have B6 := Lib.hid (hb6.trans (below_new w6 (.cells #[.int .i64 0, .int .i64 0, .string ⟨#[]⟩, .int .i64 0, .slice none 0 0, .int .i64 0, .int .i64 0, .int .i64 0] 38) |>.mono hb6.size)); have H6 := Lib.hid (H4.out.trans (B6.out.mono H4.out.size)); have L6 := Lib.hid (L4.out.trans (B6.out.mono L4.out.size)); have p0 := cell_of (below_heap B6.out P4.out) 0; have q0 := cell_of (heap_alloc_new w6 (.cells #[.int .i64 0, .int .i64 0, .string ⟨#[]⟩, .int .i64 0, .slice none 0 0, .int .i64 0, .int .i64 0, .int .i64 0] 38)) 0; have lp := Nat.lt_of_lt_of_le (lt_of_block P4.out) hb6.size; clear hb6 x0 x1 x2 x3 x4 x5 x6 x7 x8)
      | (go_at_call 11; refine (CA.out _ A2.out).mono ?_; rintro e w4 ⟨he, hb4⟩; obtain rfl : e = .returned (.tuple #[.agg #[.int .i64 0, .int .i64 0, .string ⟨#[]⟩, .int .i64 0, .slice none 0 0, .int .i64 0, .int .i64 0, .int .i64 0], .bool false]) := he; have B4 := Lib.hid (hb4.trans (below_new w4 (.cells #[.int .i64 0, .int .i64 0, .string ⟨#[]⟩, .int .i64 0, .slice none 0 0, .int .i64 0, .int .i64 0, .int .i64 0] 38) |>.mono hb4.size)); have H4 := Lib.hid (H2.out.trans (B4.out.mono H2.out.size)); have L4 := Lib.hid B4.out; have A4 := Lib.hid (A2.out.below B4.out); have P4 := Lib.hid (heap_alloc_new w4 (.cells #[.int .i64 0, .int .i64 0, .string ⟨#[]⟩, .int .i64 0, .slice none 0 0, .int .i64 0, .int .i64 0, .int .i64 0] 38)); obtain ⟨x0, x1, x2, x3, x4, x5, x6, x7, x8⟩ := ask_cells (below_heap B4.out X2.out); simp only at x0 x1 x2 x3 x4 x5 x6 x7 x8; have lx := Nat.lt_of_lt_of_le (lt_of_block X2.out) hb4.size; clear hb4)
      | (go_at_call 14; refine ((P2.out _ L8.out).2 _ WX.out).mono ?_; rintro e w9 ⟨rfl, hb9⟩; have H9 := Lib.hid (H8.out.trans (hb9.mono H8.out.size)); clear hb9)
      | (go_at_call 14; refine (CD.out _).mono ?_; rintro e w8 ⟨rfl, hb8⟩; have H8 := Lib.hid (H6.out.trans (hb8.mono H6.out.size)); have L8 := Lib.hid (L6.out.trans (hb8.mono L6.out.size)); clear hb8 p0 q0)
      | (go_at_call 16; refine (CP.out _).mono ?_; rintro e w10 ⟨rfl, hb10⟩; have H10 := Lib.hid (H9.out.trans (hb10.mono H9.out.size)); clear hb10)
      | (go_at_call 18; refine (CH.out _).mono ?_; rintro e w11 ⟨vo, vc, rfl, hb11⟩; have H11 := Lib.hid (H10.out.trans (hb11.mono H10.out.size)); clear hb11)
      | (go_at_call 21; refine (CY.out _).mono ?_; rintro e w12 ⟨rfl, hb12⟩; have H12 := Lib.hid (H11.out.trans (hb12.mono H11.out.size)); clear hb12)
      | (go_at_call 9; refine (CW.out _).mono ?_; rintro e w13 ⟨rfl, hb13⟩; have H13 := Lib.hid (H12.out.trans (hb13.mono H12.out.size)); clear hb13))
    go_ret
    exact ⟨rfl, H13.out⟩
  · rw [hc] at CL1
    clear hc h
    go_enter Tryz.func6, Tryz.ntmps6
    go_wp2_with (first
      | (go_at_call 22; refine CL1.out.mono ?_; rintro e w1 ⟨rfl, hb1⟩; have H1 := Lib.hid (HB0.out.trans (hb1.mono HB0.out.size)); clear hb1)
      | (go_at_call 9; refine (CW.out _).mono ?_; rintro e w2 ⟨rfl, hb2⟩; have H2 := Lib.hid (H1.out.trans (hb2.mono H1.out.size)); clear hb2))
    go_ret
    exact ⟨rfl, H2.out⟩

set_option maxRecDepth 100000 in
theorem handNone_lifted (os : Os) (started : os.Started) (H : Type) (enc : TypeId × Value → H) :
    ReturnsInHanded {} Tryz.checked os 6 .any (Rows.handNoneSpec.pre6 enc Tryz.prog Tryz.f6 Rows.handNoneRow.domain false) (Rows.handNoneSpec.post enc Tryz.prog Tryz.f6 false true false false) := by
  refine returnsInHanded_of_change (C := Tryz.checked) own started (by kernel_rfl) Tryz.func6
    (ChangeSpec.witness6 (enc := enc) (C := Tryz.checked) false ⟨#[], #[.agg #[.int .i64 0, .int .i64 0, .int .i64 0, .int .i64 0, .int .i64 0, .int .i64 0, .string ByteArray.empty, .int .i64 0, .slice none 0 0], .int .i64 0], []⟩ 8 (by kernel_rfl) (by kernel_rfl) (by kernel_rfl) (by kernel_rfl)) ?_
  intro W base args ds gs before hval0 hW hcnd _
  have hval : ∀ (j : Nat) t v, Tryz.f6.params[j]? = some t → args[j]? = some v → Value.okWide Tryz.prog W .any base t v := hval0
  have hW' := hW
  obtain ⟨p, q, hA0, hV, rfl, hfz, hnd⟩ := hW
  have hA : DataW.TrodAll enc Tryz.prog W 0 (fun _ => true) true Tryz.f6.params.toList args.toList ds p := hA0
  rw [Tryz.params6] at hA hval
  obtain ⟨v0, vs0, d0, ds0, p0, q0, hargs, rfl, rfl, h0, r0⟩ := trodAll_cons hA
  obtain ⟨v1, vs1, d1, ds1, p1, q1, rfl, rfl, rfl, h1, r1⟩ := trodAll_cons r0
  obtain ⟨rfl, rfl, rfl⟩ := trodAll_nil r1
  obtain rfl : args = #[v0, v1] := by cases args; simp_all
  obtain ⟨rfl, rfl⟩ := trodVars_none hV
  have k0 := h0
  have lt0 : ∀ x ∈ p0, x.block < W.heap.size := by obtain ⟨m, hm⟩ := k0; exact DataW.trod_lt m _ _ _ hm
  have k1 := h1
  have lt1 : ∀ x ∈ p1, x.block < W.heap.size := by obtain ⟨m, hm⟩ := k1; exact DataW.trod_lt m _ _ _ hm
  obtain ⟨a0, rfl, hF0⟩ := open_ask askT (hval 0 34 v0 rfl rfl) h0
  obtain ⟨a1, rfl, rfl, rfl, w1⟩ := open_int Tryz.underlying3 (hval 1 3 v1 rfl rfl) h1
  clear hA0 hval0
  refine (handNone_walk handSays a0 a1 w1 W hF0).mono fun e W' ⟨he, bel⟩ => ?_
  subst he
  exact ⟨_, rfl, _, _, _, [], _, [], hW', trodAll_mk1 (shut_bool Tryz.underlying4 _), (trodAll_cons_mk (Below.trod laidOut (by kernel_rfl) (of_decide_eq_true (by kernel_rfl)) k0 bel lt0) (trodAll_cons_mk (Below.trod laidOut (by kernel_rfl) (of_decide_eq_true (by kernel_rfl)) k1 bel lt1) trodAll_mk0)), rfl, bel.frame _, fun h => by cases h⟩

theorem handNone_over : Rows.handNoneRow.holds Tryz.pinned (OpenSpec.ofChange Rows.handNoneSpec) :=
  OpenClaim.holds_of_wide 6 Tryz.f6 rfl rfl rfl rfl rfl rfl rfl ⟨rfl, rfl, rfl, rfl, rfl⟩ rfl rfl rfl rfl rfl (by kernel_rfl) Tryz.func6 (by kernel_rfl)
    (of_decide_eq_true (by kernel_rfl)) (by unfold Func.isWrapper; first | (rw [if_pos (by decide +kernel)]; kernel_rfl) | (rw [if_neg (by decide +kernel)]; exact ⟨rfl, rfl⟩))
    (fun os started H enc _ => handNone_lifted os started H enc)

/-- THE STATEMENT -/
theorem handNone_holds : Rows.HandNoneSaid := handNone_over 
end Go.Proofs.YtkicjgaejieinaaGreat
