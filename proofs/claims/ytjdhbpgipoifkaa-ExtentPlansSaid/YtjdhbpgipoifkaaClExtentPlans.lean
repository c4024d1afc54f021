/- The law ExtentPlans: the pieces and the holes of any stretch of any parts. No conditions. -/
import Derived.Test.YtjdhbpgipoifkaaG25a
namespace Go.Proofs.Ytjdhbpgipoifkaa
open Go.ChangeShapes Go.WideShapes Go.ChangeAt Go.RowKit Go.Sort
set_option linter.unusedVariables false
set_option maxRecDepth 20000
set_option maxHeartbeats 16000000 in
theorem extentPlans_walk (ao : Option Addr) (cap : Nat) (L : List Pt) (off n : Int) (wl : L.length ≤ maxLen) (wo : (Lit.int .i64 off).wf = true) (wn : (Lit.int .i64 n).wf = true) (w : World) (hp : PaL w ao L) (hk : ∀ x ∈ L, PaIn w x) (hn : ao = none → cap = 0) (hc : L.length ≤ cap) :
    Calls Try.prog 5 #[.slice ao L.length cap, .int .i64 off, .int .i64 n] w fun e w' => e = .returned (.bool true) ∧ Below w.heap.size w w' := by
  have ho := i64w.of wo
  have hnn := i64w.of wn
  have CK := Lib.hid wakes19
  have wl' : (L.length : Int) ≤ 9223372036854775807 := by unfold maxLen at wl; omega
  clear wo wn hk
  have HB0 := Lib.hid (Below.refl w.heap.size w)
  have HP0 := Lib.hid hp
  clear hp
  by_cases hl : ¬ L.length ≤ 200
  · have h2 : (200 : Int) < (L.length : Int) := by omega
    clear hl HP0
    go_enter Try.func5, Try.ntmps5
    go_wp2_with (go_at_call 10; refine (CK.out _).mono ?_; rintro e w2 ⟨rfl, hB⟩)
    go_ret
    exact ⟨rfl, blwO hB HB0.out⟩
  have hl : L.length ≤ 200 := by omega
  have h2 : (L.length : Int) ≤ 200 := by omega
  have CF := Lib.hid (lfew_any ao cap L w HP0.out hn hc (by omega))
  have CC := Lib.hid (fun (ao : Option Addr) (cap : Nat) (W : World) (h : PaL W ao L) => eplan_any ao cap L off n W h wl)
  have CD := Lib.hid (fun (ao : Option Addr) (cap : Nat) (W : World) (h : PaL W ao L) => rplan_any ao cap L off n W h wl)
  have CP := Lib.hid kparts_same
  have HC := Lib.hid (show (planE L off n).length ≤ maxLen from by have := planE_len L off n; unfold maxLen; omega)
  generalize planE L off n = cc at *
  clear hl
  go_enter Try.func5, Try.ntmps5
  go_wp2_with (first
    | (go_at_call 10; refine (CK.out _).mono ?_; rintro e w6 ⟨rfl, hB⟩; have HB6 := Lib.hid (blwO hB HB5.out); clear hB)
    | (go_at_call 16; refine (CP.out _ _ _ _ _ _ HI4.out HP4.out wl).mono ?_; rintro e w5 ⟨rfl, hB⟩; have HB5 := Lib.hid (blwO hB HB4.out); have HP5 := Lib.hid (PaL.below HP4.out hB); have HI5 := Lib.hid (PaL.below HI4.out hB); clear hB)
    | (go_at_call 16; refine (CP.out _ _ _ _ _ _ HU3.out HV3.out HC.out).mono ?_; rintro e w4 ⟨rfl, hB⟩; have HB4 := Lib.hid (blwO hB HB3.out); have HP4 := Lib.hid (PaL.below HP3.out hB); have HI4 := Lib.hid (PaL.below HI3.out hB); clear hB)
    | (go_at_call 22; refine (CD.out _ _ _ HP2.out).mono ?_; rintro e w3 ⟨v3, rfl, hO, hB⟩; obtain ⟨g3, q3, hv3, hr3⟩ := OPa.sl hO; subst hv3; have HV3 := Lib.hid hr3; have HB3 := Lib.hid (blwO hB HB2.out); have HP3 := Lib.hid (PaL.below HP2.out hB); have HI3 := Lib.hid (PaL.below HI2.out hB); have HU3 := Lib.hid (PaL.below HV2.out hB); clear hO hB hr3)
    | (go_at_call 21; refine (CC.out _ _ _ HI1.out).mono ?_; rintro e w2 ⟨v2, rfl, hO, hB⟩; obtain ⟨g2, q2, hv2, hr2⟩ := OPa.sl hO; subst hv2; have HV2 := Lib.hid hr2; have HB2 := Lib.hid (blwO hB HB1.out); have HP2 := Lib.hid (PaL.below HP1.out hB); have HI2 := Lib.hid (PaL.below HI1.out hB); clear hO hB hr2)
    | (go_at_call 11; refine CF.out.mono ?_; rintro e w1 ⟨b1, k1, rfl, hO, hx, hy, hB⟩; have HN1 := Lib.hid hx; have HM1 := Lib.hid hy; obtain ⟨g1, q1, hv1, hr1⟩ := OPa.sl hO; cases hv1; have HI1 := Lib.hid hr1; have HB1 := Lib.hid (blwO hB HB0.out); have HP1 := Lib.hid (PaL.below HP0.out hB); clear hO hB hx hy hr1))
  go_ret
  exact ⟨rfl, HB6.out⟩

set_option maxRecDepth 100000 in
theorem extentPlans_lifted (os : Os) (started : os.Started) (H : Type) (enc : TypeId × Value → H) :
    ReturnsInHanded {} Try.checked os 5 .any (Rows.extentPlansSpec.pre6 enc Try.prog Try.f5 Rows.extentPlansRow.domain false) (Rows.extentPlansSpec.post enc Try.prog Try.f5 false true false false) := by
  refine returnsInHanded_of_change (C := Try.checked) own started (by kernel_rfl) Try.func5
    (ChangeSpec.witness6 (enc := enc) (C := Try.checked) false ⟨#[], #[.slice none 0 0, .int .i64 0, .int .i64 0], []⟩ 8 (by kernel_rfl) (by kernel_rfl) (by kernel_rfl) (by kernel_rfl)) ?_
  intro W base args ds gs before hval0 hW hcnd _
  have hval : ∀ (j : Nat) t v, Try.f5.params[j]? = some t → args[j]? = some v → Value.okWide Try.prog W .any base t v := hval0
  have hW' := hW
  obtain ⟨p, q, hA0, hV, rfl, hfz, hnd⟩ := hW
  have hA : DataW.TrodAll enc Try.prog W 0 (fun _ => true) true Try.f5.params.toList args.toList ds p := hA0
  rw [Try.params5] at hA hval
  obtain ⟨v0, vs0, d0, ds0, p0, q0, hargs, rfl, rfl, h0, r0⟩ := trodAll_cons hA
  obtain ⟨v1, vs1, d1, ds1, p1, q1, rfl, rfl, rfl, h1, r1⟩ := trodAll_cons r0
  obtain ⟨v2, vs2, d2, ds2, p2, q2, rfl, rfl, rfl, h2, r2⟩ := trodAll_cons r1
  obtain ⟨rfl, rfl, rfl⟩ := trodAll_nil r2
  obtain rfl : args = #[v0, v1, v2] := by cases args; simp_all
  obtain ⟨rfl, rfl⟩ := trodVars_none hV
  have k0 := h0
  have lt0 : ∀ x ∈ p0, x.block < W.heap.size := by obtain ⟨m, hm⟩ := k0; exact DataW.trod_lt m _ _ _ hm
  have k1 := h1
  have lt1 : ∀ x ∈ p1, x.block < W.heap.size := by obtain ⟨m, hm⟩ := k1; exact DataW.trod_lt m _ _ _ hm
  have k2 := h2
  have lt2 : ∀ x ∈ p2, x.block < W.heap.size := by obtain ⟨m, hm⟩ := k2; exact DataW.trod_lt m _ _ _ hm
  obtain ⟨ao0, cap0, L0, rfl, w0, hR0, hK0, hn0, hc0⟩ := open_rows (f := parC) (ok := PaIn) (n := 3) Try.underlying22 (by kernel_rfl) (fun m cs y hl hf => par_cs Try.underlying31 rfl rfl rfl rfl Try.underlying3 (by kernel_rfl) hl hf) (hval 0 22 v0 rfl rfl) h0
  obtain ⟨a1, rfl, rfl, rfl, w1⟩ := open_int Try.underlying3 (hval 1 3 v1 rfl rfl) h1
  obtain ⟨a2, rfl, rfl, rfl, w2⟩ := open_int Try.underlying3 (hval 2 3 v2 rfl rfl) h2
  clear hA0 hval0
  refine (extentPlans_walk ao0 cap0 L0 a1 a2 w0 w1 w2 W hR0 hK0 hn0 hc0).mono fun e W' ⟨he, bel⟩ => ?_
  subst he
  exact ⟨_, rfl, _, _, _, [], _, [], hW', trodAll_mk1 (shut_bool Try.underlying4 _), (trodAll_cons_mk (Below.trod laidOut (by kernel_rfl) (of_decide_eq_true (by kernel_rfl)) k0 bel lt0) (trodAll_cons_mk (Below.trod laidOut (by kernel_rfl) (of_decide_eq_true (by kernel_rfl)) k1 bel lt1) (trodAll_cons_mk (Below.trod laidOut (by kernel_rfl) (of_decide_eq_true (by kernel_rfl)) k2 bel lt2) trodAll_mk0))), rfl, bel.frame _, fun h => by cases h⟩

theorem extentPlans_over : Rows.extentPlansRow.holds Try.pinned (OpenSpec.ofChange Rows.extentPlansSpec) :=
  OpenClaim.holds_of_wide 5 Try.f5 rfl rfl rfl rfl rfl rfl rfl ⟨rfl, rfl, rfl, rfl, rfl⟩ rfl rfl rfl rfl rfl (by kernel_rfl) Try.func5 (by kernel_rfl)
    (of_decide_eq_true (by kernel_rfl)) (by unfold Func.isWrapper; first | (rw [if_pos (by decide +kernel)]; kernel_rfl) | (rw [if_neg (by decide +kernel)]; exact ⟨rfl, rfl⟩))
    (fun os started H enc _ => extentPlans_lifted os started H enc)

/-- THE STATEMENT -/
theorem extentPlans_holds : Rows.ExtentPlansSaid := extentPlans_over 
end Go.Proofs.Ytjdhbpgipoifkaa
