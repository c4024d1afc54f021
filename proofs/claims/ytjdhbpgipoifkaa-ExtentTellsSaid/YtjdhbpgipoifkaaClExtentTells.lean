/- The law ExtentTells: which parts are good, where they end, what is left below any size. No conditions. -/
import Derived.Test.YtjdhbpgipoifkaaG25a
namespace Go.Proofs.Ytjdhbpgipoifkaa
open Go.ChangeShapes Go.WideShapes Go.ChangeAt Go.RowKit Go.Sort
set_option linter.unusedVariables false
set_option maxRecDepth 20000
set_option maxHeartbeats 16000000 in
theorem extentTells_walk (ao : Option Addr) (cap : Nat) (L : List Pt) (s : Int) (wl : L.length ≤ maxLen) (ws : (Lit.int .i64 s).wf = true) (w : World) (hp : PaL w ao L) (hk : ∀ x ∈ L, PaIn w x) (hn : ao = none → cap = 0) (hc : L.length ≤ cap) :
    Calls Try.prog 3 #[.slice ao L.length cap, .int .i64 s] w fun e w' => e = .returned (.bool true) ∧ Below w.heap.size w w' := by
  have hs := i64w.of ws
  have CK := Lib.hid wakes19
  have wl' : (L.length : Int) ≤ 9223372036854775807 := by unfold maxLen at wl; omega
  clear ws hk
  have HB0 := Lib.hid (Below.refl w.heap.size w)
  have HP0 := Lib.hid hp
  clear hp
  by_cases hl : ¬ L.length ≤ 200
  · have h2 : (200 : Int) < (L.length : Int) := by omega
    clear hl HP0
    go_enter Try.func3, Try.ntmps3
    go_wp2_with (go_at_call 10; refine (CK.out _).mono ?_; rintro e w2 ⟨rfl, hB⟩)
    go_ret
    exact ⟨rfl, blwO hB HB0.out⟩
  have hl : L.length ≤ 200 := by omega
  have h2 : (L.length : Int) ≤ 200 := by omega
  have CF := Lib.hid (lfew_any ao cap L w HP0.out hn hc (by omega))
  have CG := Lib.hid (fun (ao : Option Addr) (cap : Nat) (W : World) (h : PaL W ao L) => egood_any ao cap L W h wl)
  have CH := Lib.hid (fun (ao : Option Addr) (cap : Nat) (W : World) (h : PaL W ao L) => rgoodE_any ao cap L W h wl)
  have CE := Lib.hid (fun (ao : Option Addr) (cap : Nat) (W : World) (h : PaL W ao L) => eEnd_any ao cap L W h wl)
  have CI := Lib.hid (fun (ao : Option Addr) (cap : Nat) (W : World) (h : PaL W ao L) => rEnd_any ao cap L W h wl)
  have CC := Lib.hid (fun (ao : Option Addr) (cap : Nat) (W : World) (h : PaL W ao L) => ecut_any ao cap L s hs W h wl)
  have CD := Lib.hid (fun (ao : Option Addr) (cap : Nat) (W : World) (h : PaL W ao L) => rcut_any ao cap L s hs W h wl)
  have CP := Lib.hid kparts_same
  have HC := Lib.hid (show (cutE L s).length ≤ maxLen from by have := cutE_len L s; unfold maxLen; omega)
  generalize goodE L = gg at *
  generalize endE L = ee at *
  generalize cutE L s = cc at *
  clear hl
  go_enter Try.func3, Try.ntmps3
  go_wp2_with (first
    | (go_at_call 10; refine (CK.out _).mono ?_; rintro e w10 ⟨rfl, hB⟩; have HB10 := Lib.hid (blwO hB HB9.out); clear hB)
    | (go_at_call 16; refine (CP.out _ _ _ _ _ _ HI8.out HP8.out wl).mono ?_; rintro e w9 ⟨rfl, hB⟩; have HB9 := Lib.hid (blwO hB HB8.out); have HP9 := Lib.hid (PaL.below HP8.out hB); have HI9 := Lib.hid (PaL.below HI8.out hB); clear hB)
    | (go_at_call 16; refine (CP.out _ _ _ _ _ _ HU7.out HV7.out HC.out).mono ?_; rintro e w8 ⟨rfl, hB⟩; have HB8 := Lib.hid (blwO hB HB7.out); have HP8 := Lib.hid (PaL.below HP7.out hB); have HI8 := Lib.hid (PaL.below HI7.out hB); clear hB)
    | (go_at_call 18; refine (CD.out _ _ _ HP6.out).mono ?_; rintro e w7 ⟨v7, rfl, hO, hB⟩; obtain ⟨g7, q7, hv7, hr7⟩ := OPa.sl hO; subst hv7; have HV7 := Lib.hid hr7; have HB7 := Lib.hid (blwO hB HB6.out); have HP7 := Lib.hid (PaL.below HP6.out hB); have HI7 := Lib.hid (PaL.below HI6.out hB); have HU7 := Lib.hid (PaL.below HV6.out hB); clear hO hB hr7)
    | (go_at_call 17; refine (CC.out _ _ _ HI5.out).mono ?_; rintro e w6 ⟨v6, rfl, hO, hB⟩; obtain ⟨g6, q6, hv6, hr6⟩ := OPa.sl hO; subst hv6; have HV6 := Lib.hid hr6; have HB6 := Lib.hid (blwO hB HB5.out); have HP6 := Lib.hid (PaL.below HP5.out hB); have HI6 := Lib.hid (PaL.below HI5.out hB); clear hO hB hr6)
    | (go_at_call 15; refine (CI.out _ _ _ HP4.out).mono ?_; rintro e w5 ⟨rfl, hB⟩; have HB5 := Lib.hid (blwO hB HB4.out); have HP5 := Lib.hid (PaL.below HP4.out hB); have HI5 := Lib.hid (PaL.below HI4.out hB); clear hB)
    | (go_at_call 14; refine (CE.out _ _ _ HI3.out).mono ?_; rintro e w4 ⟨rfl, hB⟩; have HB4 := Lib.hid (blwO hB HB3.out); have HP4 := Lib.hid (PaL.below HP3.out hB); have HI4 := Lib.hid (PaL.below HI3.out hB); clear hB)
    | (go_at_call 13; refine (CH.out _ _ _ HP2.out).mono ?_; rintro e w3 ⟨rfl, hB⟩; have HB3 := Lib.hid (blwO hB HB2.out); have HP3 := Lib.hid (PaL.below HP2.out hB); have HI3 := Lib.hid (PaL.below HI2.out hB); clear hB)
    | (go_at_call 12; refine (CG.out _ _ _ HI1.out).mono ?_; rintro e w2 ⟨rfl, hB⟩; have HB2 := Lib.hid (blwO hB HB1.out); have HP2 := Lib.hid (PaL.below HP1.out hB); have HI2 := Lib.hid (PaL.below HI1.out hB); clear hB)
    | (go_at_call 11; refine CF.out.mono ?_; rintro e w1 ⟨b1, k1, rfl, hO, hx, hy, hB⟩; have HN1 := Lib.hid hx; have HM1 := Lib.hid hy; obtain ⟨g1, q1, hv1, hr1⟩ := OPa.sl hO; cases hv1; have HI1 := Lib.hid hr1; have HB1 := Lib.hid (blwO hB HB0.out); have HP1 := Lib.hid (PaL.below HP0.out hB); clear hO hB hx hy hr1))
  go_ret
  exact ⟨rfl, HB10.out⟩

set_option maxRecDepth 100000 in
theorem extentTells_lifted (os : Os) (started : os.Started) (H : Type) (enc : TypeId × Value → H) :
    ReturnsInHanded {} Try.checked os 3 .any (Rows.extentTellsSpec.pre6 enc Try.prog Try.f3 Rows.extentTellsRow.domain false) (Rows.extentTellsSpec.post enc Try.prog Try.f3 false true false false) := by
  refine returnsInHanded_of_change (C := Try.checked) own started (by kernel_rfl) Try.func3
    (ChangeSpec.witness6 (enc := enc) (C := Try.checked) false ⟨#[], #[.slice none 0 0, .int .i64 0], []⟩ 8 (by kernel_rfl) (by kernel_rfl) (by kernel_rfl) (by kernel_rfl)) ?_
  intro W base args ds gs before hval0 hW hcnd _
  have hval : ∀ (j : Nat) t v, Try.f3.params[j]? = some t → args[j]? = some v → Value.okWide Try.prog W .any base t v := hval0
  have hW' := hW
  obtain ⟨p, q, hA0, hV, rfl, hfz, hnd⟩ := hW
  have hA : DataW.TrodAll enc Try.prog W 0 (fun _ => true) true Try.f3.params.toList args.toList ds p := hA0
  rw [Try.params3] at hA hval
  obtain ⟨v0, vs0, d0, ds0, p0, q0, hargs, rfl, rfl, h0, r0⟩ := trodAll_cons hA
  obtain ⟨v1, vs1, d1, ds1, p1, q1, rfl, rfl, rfl, h1, r1⟩ := trodAll_cons r0
  obtain ⟨rfl, rfl, rfl⟩ := trodAll_nil r1
  obtain rfl : args = #[v0, v1] := by cases args; simp_all
  obtain ⟨rfl, rfl⟩ := trodVars_none hV
  have k0 := h0
  have lt0 : ∀ x ∈ p0, x.block < W.heap.size := by obtain ⟨m, hm⟩ := k0; exact DataW.trod_lt m _ _ _ hm
  have k1 := h1
  have lt1 : ∀ x ∈ p1, x.block < W.heap.size := by obtain ⟨m, hm⟩ := k1; exact DataW.trod_lt m _ _ _ hm
  obtain ⟨ao0, cap0, L0, rfl, w0, hR0, hK0, hn0, hc0⟩ := open_rows (f := parC) (ok := PaIn) (n := 3) Try.underlying22 (by kernel_rfl) (fun m cs y hl hf => par_cs Try.underlying31 rfl rfl rfl rfl Try.underlying3 (by kernel_rfl) hl hf) (hval 0 22 v0 rfl rfl) h0
  obtain ⟨a1, rfl, rfl, rfl, w1⟩ := open_int Try.underlying3 (hval 1 3 v1 rfl rfl) h1
  clear hA0 hval0
  refine (extentTells_walk ao0 cap0 L0 a1 w0 w1 W hR0 hK0 hn0 hc0).mono fun e W' ⟨he, bel⟩ => ?_
  subst he
  exact ⟨_, rfl, _, _, _, [], _, [], hW', trodAll_mk1 (shut_bool Try.underlying4 _), (trodAll_cons_mk (Below.trod laidOut (by kernel_rfl) (of_decide_eq_true (by kernel_rfl)) k0 bel lt0) (trodAll_cons_mk (Below.trod laidOut (by kernel_rfl) (of_decide_eq_true (by kernel_rfl)) k1 bel lt1) trodAll_mk0)), rfl, bel.frame _, fun h => by cases h⟩

theorem extentTells_over : Rows.extentTellsRow.holds Try.pinned (OpenSpec.ofChange Rows.extentTellsSpec) :=
  OpenClaim.holds_of_wide 3 Try.f3 rfl rfl rfl rfl rfl rfl rfl ⟨rfl, rfl, rfl, rfl, rfl⟩ rfl rfl rfl rfl rfl (by kernel_rfl) Try.func3 (by kernel_rfl)
    (of_decide_eq_true (by kernel_rfl)) (by unfold Func.isWrapper; first | (rw [if_pos (by decide +kernel)]; kernel_rfl) | (rw [if_neg (by decide +kernel)]; exact ⟨rfl, rfl⟩))
    (fun os started H enc _ => extentTells_lifted os started H enc)

/-- THE STATEMENT -/
theorem extentTells_holds : Rows.ExtentTellsSaid := extentTells_over 
end Go.Proofs.Ytjdhbpgipoifkaa
