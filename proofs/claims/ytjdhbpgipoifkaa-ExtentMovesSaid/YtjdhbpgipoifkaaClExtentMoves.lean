/- The law ExtentMoves: any move of any parts, or that it cannot be. No conditions. -/
import Derived.Test.YtjdhbpgipoifkaaG25a
namespace Go.Proofs.Ytjdhbpgipoifkaa
open Go.ChangeShapes Go.WideShapes Go.ChangeAt Go.RowKit Go.Sort
set_option linter.unusedVariables false
set_option maxRecDepth 20000
set_option maxHeartbeats 16000000 in
theorem extentMoves_walk (ao : Option Addr) (cap : Nat) (L : List Pt) (xa xb xc xd to : Int) (wl : L.length ≤ maxLen) (wa : (Lit.int .i64 xa).wf = true) (wb : (Lit.int .i64 xb).wf = true) (wc : (Lit.int .i64 xc).wf = true) (wd : (Lit.int .i64 xd).wf = true) (wt : (Lit.int .i64 to).wf = true) (w : World) (hp : PaL w ao L) (hk : ∀ x ∈ L, PaIn w x) (hn : ao = none → cap = 0) (hc : L.length ≤ cap) :
    Calls Try.prog 6 #[.slice ao L.length cap, .agg #[.int .i64 xa, .int .i64 xb, .int .i64 xc, .int .i64 xd], .int .i64 to] w fun e w' => e = .returned (.bool true) ∧ Below w.heap.size w w' := by
  have CK := Lib.hid wakes19
  have wl' : (L.length : Int) ≤ 9223372036854775807 := by unfold maxLen at wl; omega
  clear wa wb wc wd wt hk
  obtain ⟨W0, hW0⟩ : ∃ W0, W0 = w.alloc (.cells #[.int .i64 xa, .int .i64 xb, .int .i64 xc, .int .i64 xd] 41) := ⟨_, rfl⟩
  have HB0 := Lib.hid (show Below w.heap.size w W0 from by rw [hW0]; exact blwA w _)
  have hz : w.heap.size < W0.heap.size := by rw [hW0]; simp
  have HX := Lib.hid (MvB.cells (show MvB W0 w.heap.size ⟨xa, xb, xc, xd⟩ from by rw [hW0]; exact heap_alloc_new _ _))
  have HP0 := Lib.hid (PaL.below hp HB0.out)
  clear hp
  by_cases hl : ¬ L.length ≤ 200
  · have h2 : (200 : Int) < (L.length : Int) := by omega
    clear hl HP0
    clear HX hz
    rw [hW0] at HB0
    go_enter Try.func6, Try.ntmps6
    go_wp2_with (go_at_call 10; refine (CK.out _).mono ?_; rintro e w2 ⟨rfl, hB⟩)
    go_ret
    exact ⟨rfl, blwO hB HB0.out⟩
  have hl : L.length ≤ 200 := by omega
  have h2 : (L.length : Int) ≤ 200 := by omega
  have CF := Lib.hid (lfew_any ao cap L W0 HP0.out hn hc (by omega))
  have CC := Lib.hid (fun (ao : Option Addr) (cap : Nat) (W : World) (h : PaL W ao L) => emove_any ao cap L ⟨xa, xb, xc, xd⟩ to W h wl)
  have CD := Lib.hid (fun (ao : Option Addr) (cap : Nat) (W : World) (h : PaL W ao L) => rmove_any ao cap L ⟨xa, xb, xc, xd⟩ to W h wl)
  have CP := Lib.hid kparts_same
  have HC := Lib.hid (show (moveE L ⟨xa, xb, xc, xd⟩ to).1.length ≤ maxLen from by have := moveE_len L ⟨xa, xb, xc, xd⟩ to; unfold maxLen; omega)
  generalize (moveE L ⟨xa, xb, xc, xd⟩ to).1 = cc at *
  generalize (moveE L ⟨xa, xb, xc, xd⟩ to).2 = ee at *
  clear hl
  go_enter Try.func6, Try.ntmps6
  rw [hW0] at CF
  go_wp2_with (first
    | (go_at_call 10; refine (CK.out _).mono ?_; rintro e w6 ⟨rfl, hB⟩; have HB6 := Lib.hid (blwO hB HB5.out); clear hB)
    | (go_at_call 16; refine (CP.out _ _ _ _ _ _ HI4.out HP4.out wl).mono ?_; rintro e w5 ⟨rfl, hB⟩; have HB5 := Lib.hid (blwO hB HB4.out); have HP5 := Lib.hid (PaL.below HP4.out hB); have HI5 := Lib.hid (PaL.below HI4.out hB); clear hB)
    | (go_at_call 16; refine (CP.out _ _ _ _ _ _ HU3.out HV3.out HC.out).mono ?_; rintro e w4 ⟨rfl, hB⟩; have HB4 := Lib.hid (blwO hB HB3.out); have HP4 := Lib.hid (PaL.below HP3.out hB); have HI4 := Lib.hid (PaL.below HI3.out hB); clear hB)
    | (go_at_call 24; refine (CD.out _ _ _ HP2.out).mono ?_; rintro e w3 ⟨v3, rfl, hO, hB⟩; obtain ⟨g3, q3, hv3, hr3⟩ := OPa.sl hO; subst hv3; have HV3 := Lib.hid hr3; have HB3 := Lib.hid (blwO hB HB2.out); have HP3 := Lib.hid (PaL.below HP2.out hB); have HI3 := Lib.hid (PaL.below HI2.out hB); have HJ3 := Lib.hid (HJ2.out.trans (hB.mono HJ2.out.size)); have e0_3 := cellB HJ3.out hz HX.out.1; have e1_3 := cellB HJ3.out hz HX.out.2.1; have e2_3 := cellB HJ3.out hz HX.out.2.2.1; have e3_3 := cellB HJ3.out hz HX.out.2.2.2; clear e0_2 e1_2 e2_2 e3_2; have HU3 := Lib.hid (PaL.below HV2.out hB); clear hO hB hr3)
    | (go_at_call 23; refine (CC.out _ _ _ HI1.out).mono ?_; rintro e w2 ⟨v2, rfl, hO, hB⟩; obtain ⟨g2, q2, hv2, hr2⟩ := OPa.sl hO; subst hv2; have HV2 := Lib.hid hr2; have HB2 := Lib.hid (blwO hB HB1.out); have HP2 := Lib.hid (PaL.below HP1.out hB); have HI2 := Lib.hid (PaL.below HI1.out hB); have HJ2 := Lib.hid (HJ1.out.trans (hB.mono HJ1.out.size)); have e0_2 := cellB HJ2.out hz HX.out.1; have e1_2 := cellB HJ2.out hz HX.out.2.1; have e2_2 := cellB HJ2.out hz HX.out.2.2.1; have e3_2 := cellB HJ2.out hz HX.out.2.2.2; clear e0_1 e1_1 e2_1 e3_1; clear hO hB hr2)
    | (go_at_call 11; refine CF.out.mono ?_; rw [← hW0]; rintro e w1 ⟨b1, k1, rfl, hO, hx, hy, hB⟩; have HN1 := Lib.hid hx; have HM1 := Lib.hid hy; obtain ⟨g1, q1, hv1, hr1⟩ := OPa.sl hO; cases hv1; have HI1 := Lib.hid hr1; have HB1 := Lib.hid (blwO hB HB0.out); have HP1 := Lib.hid (PaL.below HP0.out hB); have HJ1 := Lib.hid (hB); have e0_1 := cellB HJ1.out hz HX.out.1; have e1_1 := cellB HJ1.out hz HX.out.2.1; have e2_1 := cellB HJ1.out hz HX.out.2.2.1; have e3_1 := cellB HJ1.out hz HX.out.2.2.2; clear hO hB hx hy hr1))
  go_ret
  exact ⟨rfl, HB6.out⟩

set_option maxRecDepth 100000 in
theorem extentMoves_lifted (os : Os) (started : os.Started) (H : Type) (enc : TypeId × Value → H) :
    ReturnsInHanded {} Try.checked os 6 .any (Rows.extentMovesSpec.pre6 enc Try.prog Try.f6 Rows.extentMovesRow.domain false) (Rows.extentMovesSpec.post enc Try.prog Try.f6 false true false false) := by
  refine returnsInHanded_of_change (C := Try.checked) own started (by kernel_rfl) Try.func6
    (ChangeSpec.witness6 (enc := enc) (C := Try.checked) false ⟨#[], #[.slice none 0 0, .agg #[.int .i64 0, .int .i64 0, .int .i64 0, .int .i64 0], .int .i64 0], []⟩ 8 (by kernel_rfl) (by kernel_rfl) (by kernel_rfl) (by kernel_rfl)) ?_
  intro W base args ds gs before hval0 hW hcnd _
  have hval : ∀ (j : Nat) t v, Try.f6.params[j]? = some t → args[j]? = some v → Value.okWide Try.prog W .any base t v := hval0
  have hW' := hW
  obtain ⟨p, q, hA0, hV, rfl, hfz, hnd⟩ := hW
  have hA : DataW.TrodAll enc Try.prog W 0 (fun _ => true) true Try.f6.params.toList args.toList ds p := hA0
  rw [Try.params6] at hA hval
  obtain ⟨v0, vs0, d0, ds0, p0, q0, hargs, rfl, rfl, h0, r0⟩ := trodAll_cons hA
  obtain ⟨v1, vs1, d1, ds1, p1, q1, rfl, rfl, rfl, h1, r1⟩ := trodAll_cons r0
  obtain ⟨v2, vs2, d2, ds2, p2, q2, rfl, rfl, rfl, h2, r2⟩ := trodAll_cons r1
  obtain ⟨rfl, rfl, rfl⟩ := trodAll_nil r2
  obtain rfl : args = #[v0, v1, v2] := by cases args; simp_all
  obtain ⟨rfl, rfl⟩ := trodVars_none hV
  have k0 := h0
  have lt0 : ∀ x ∈ p0, x.block < W.heap.size := by obtain ⟨m, hm⟩ := k0; exact DataW.trod_lt m _ _ _ hm
  have k1 := h1
  have lt1 : ∀ x ∈ p1, x.block < W.heap.size := by obtain ⟨m, hm⟩ := k1; exact DataW.trod_lt m _ _ _ hm
  have k2 := h2
  have lt2 : ∀ x ∈ p2, x.block < W.heap.size := by obtain ⟨m, hm⟩ := k2; exact DataW.trod_lt m _ _ _ hm
  obtain ⟨ao0, cap0, L0, rfl, w0, hR0, hK0, hn0, hc0⟩ := open_rows (f := parC) (ok := PaIn) (n := 3) Try.underlying22 (by kernel_rfl) (fun m cs y hl hf => par_cs Try.underlying31 rfl rfl rfl rfl Try.underlying3 (by kernel_rfl) hl hf) (hval 0 22 v0 rfl rfl) h0
  obtain ⟨xa1, xb1, xc1, xd1, rfl, wa1, wb1, wc1, wd1⟩ := open_four Try.underlying41 (by kernel_rfl) rfl rfl rfl rfl (by kernel_rfl) Try.underlying3 (hval 1 41 v1 rfl rfl) h1
  obtain ⟨a2, rfl, rfl, rfl, w2⟩ := open_int Try.underlying3 (hval 2 3 v2 rfl rfl) h2
  clear hA0 hval0
  refine (extentMoves_walk ao0 cap0 L0 xa1 xb1 xc1 xd1 a2 w0 wa1 wb1 wc1 wd1 w2 W hR0 hK0 hn0 hc0).mono fun e W' ⟨he, bel⟩ => ?_
  subst he
  exact ⟨_, rfl, _, _, _, [], _, [], hW', trodAll_mk1 (shut_bool Try.underlying4 _), (trodAll_cons_mk (Below.trod laidOut (by kernel_rfl) (of_decide_eq_true (by kernel_rfl)) k0 bel lt0) (trodAll_cons_mk (Below.trod laidOut (by kernel_rfl) (of_decide_eq_true (by kernel_rfl)) k1 bel lt1) (trodAll_cons_mk (Below.trod laidOut (by kernel_rfl) (of_decide_eq_true (by kernel_rfl)) k2 bel lt2) trodAll_mk0))), rfl, bel.frame _, fun h => by cases h⟩

theorem extentMoves_over : Rows.extentMovesRow.holds Try.pinned (OpenSpec.ofChange Rows.extentMovesSpec) :=
  OpenClaim.holds_of_wide 6 Try.f6 rfl rfl rfl rfl rfl rfl rfl ⟨rfl, rfl, rfl, rfl, rfl⟩ rfl rfl rfl rfl rfl (by kernel_rfl) Try.func6 (by kernel_rfl)
    (of_decide_eq_true (by kernel_rfl)) (by unfold Func.isWrapper; first | (rw [if_pos (by decide +kernel)]; kernel_rfl) | (rw [if_neg (by decide +kernel)]; exact ⟨rfl, rfl⟩))
    (fun os started H enc _ => extentMoves_lifted os started H enc)

/-- THE STATEMENT -/
theorem extentMoves_holds : Rows.ExtentMovesSaid := extentMoves_over 
end Go.Proofs.Ytjdhbpgipoifkaa
