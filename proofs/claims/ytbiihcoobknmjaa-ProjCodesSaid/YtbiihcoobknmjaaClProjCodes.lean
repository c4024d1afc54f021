/- The law ProjCodes: the text of any projection, and the projection of any text, are the document's. No conditions. -/
import Derived.Test.YtbiihcoobknmjaaJPrjW
import Derived.Test.YtbiihcoobknmjaaJPjK
namespace Go.Proofs.Ytbiihcoobknmjaa
open Go.ChangeShapes Go.WideShapes Go.ChangeAt Go.RowKit
open Go.ChangeMaps (open_string shut_string)
set_option linter.unusedVariables false
set_option maxRecDepth 20000

set_option maxHeartbeats 4000000 in
theorem projCodes_walk (HS : ProgSays) (ep : Int) (ao : Option Addr) (cap : Nat) (L : List (List Int)) (s : ByteArray) (ws : s.size ≤ maxLen) (w : World) (hp : PIn w ep ao cap L) :
    Calls Try.prog 5 #[.agg #[.int .i64 ep, .slice ao L.length cap], .string s] w fun e w' => e = .returned (.bool true) ∧ Below w.heap.size w w' := by
  have HB0 := Lib.hid ((Below.refl w.heap.size w).alloc (Nat.le_refl _) (.cells #[.int .i64 ep, .slice ao L.length cap] 24))
  have HP := Lib.hid (show PB (w.alloc (.cells #[.int .i64 ep, .slice ao L.length cap] 24)) w.heap.size ep ao L.length cap from heap_alloc_new _ _)
  have HI := Lib.hid (hp.below HB0.out)
  have CL0 := Lib.hid (large_any ep ao cap L _ HI.out.1.1 HI.out.2.2.1 HI.out.2.2.2)
  have CW := Lib.hid (wakes7_any HS)
  clear hp
  unfold maxLen at ws
  have ws' : (s.size : Int) ≤ 9223372036854775807 := by omega
  by_cases hlg : largeB L = true
  · rw [hlg] at CL0
    clear hlg
    go_enter Try.func5, Try.ntmps5
    go_wp2_with (first | (go_at_call 8; refine CL0.out.mono ?_; rintro e w1 ⟨rfl, hb1⟩) | (go_at_call 9; refine (CW.out _).mono ?_; rintro e w2 ⟨rfl, hb2⟩))
    go_ret
    exact ⟨rfl, (HB0.out.trans (hb1.mono HB0.out.size)).trans (hb2.mono (Nat.le_trans HB0.out.size hb1.size))⟩
  have hlf : largeB L = false := by simpa using hlg
  rw [hlf] at CL0
  have HSM := Lib.hid (large_small hlf)
  clear hlg hlf
  by_cases hsz : 20000 < s.size
  · have hsz' : (20000 : Int) < (s.size : Int) := by omega
    clear hsz
    go_enter Try.func5, Try.ntmps5
    go_wp2_with (first | (go_at_call 8; refine CL0.out.mono ?_; rintro e w1 ⟨rfl, hb1⟩) | (go_at_call 9; refine (CW.out _).mono ?_; rintro e w2 ⟨rfl, hb2⟩))
    go_ret
    exact ⟨rfl, (HB0.out.trans (hb1.mono HB0.out.size)).trans (hb2.mono (Nat.le_trans HB0.out.size hb1.size))⟩
  have hsz' : (s.size : Int) ≤ 20000 := by omega
  have HZ := Lib.hid (show s.size ≤ 1000000 by omega)
  clear hsz ws ws'
  go_enter Try.func5, Try.ntmps5
  go_wp2_with (first
    | (go_at_call 8; refine CL0.out.mono ?_; rintro e w1 ⟨rfl, hb1⟩; have H1 := Lib.hid (HB0.out.trans (hb1.mono HB0.out.size)); have HP1 := Lib.hid (HP.out.below hb1); have HI1 := Lib.hid (HI.out.below hb1); obtain ⟨x0, x1⟩ := HP1.out.cells; clear hb1)
    | (go_at_call 10; refine (keepCopy_any ep ao cap L w1 HI1.out.1.1 (small_copy HSM.out)).mono ?_; rintro e w2 ⟨bo, cb, rfl, hc2, hn2, hl2, hb2⟩; have HT2 := Lib.hid (show Told w2 bo cb L from ⟨hc2, hn2, hl2⟩); have H2 := Lib.hid (H1.out.trans (hb2.mono H1.out.size)); have HP2 := Lib.hid (HP1.out.below hb2); have HI2 := Lib.hid (HI1.out.below hb2); clear hc2 hn2 hl2 hb2 x0 x1)
    | (go_at_call 20; refine (HS.encode ep bo cb L w2 HT2.out HSM.out HI.out.2.1).mono ?_; rintro e w3 ⟨rfl, hb3⟩; have H3 := Lib.hid (H2.out.trans (hb3.mono H2.out.size)); have HI3 := Lib.hid (HI2.out.below hb3); obtain ⟨y0, y1⟩ := (HP2.out.below hb3).cells; clear hb3)
    | (go_at_call 21; refine (renc_any ep ao cap L w3 HI3.out.1.1 HSM.out HI.out.2.1).mono ?_; rintro e w4 ⟨rfl, hb4⟩; have H4 := Lib.hid (H3.out.trans (hb4.mono H3.out.size)); clear hb4 y0 y1)
    | (go_at_call 22; refine (HS.decode s w4 HZ.out).mono ?_; rintro e w5 ⟨qo, qc, rfl, ht5, hb5⟩; have H5 := Lib.hid ((H4.out.trans (hb5.mono H4.out.size)).alloc (Nat.le_trans H4.out.size hb5.size) (.cells #[.int .i64 (decE s), .slice qo (decL s).length qc] 24)); have HQ5 := Lib.hid (ht5.below ((Below.refl _ _).alloc (Nat.le_refl _) (.cells #[.int .i64 (decE s), .slice qo (decL s).length qc] 24))); have HQB := Lib.hid (show PB (w5.alloc (.cells #[.int .i64 (decE s), .slice qo (decL s).length qc] 24)) w5.heap.size (decE s) qo (decL s).length qc from heap_alloc_new _ _); clear ht5 hb5)
    | (go_at_call 23; refine (rdec_any s HZ.out _).mono ?_; rintro e w6 ⟨ro, rc, rfl, ht6, hb6⟩; have H6 := Lib.hid (H5.out.trans (hb6.mono H5.out.size)); have HQ6 := Lib.hid (HQ5.out.below hb6); have HR6 := Lib.hid ht6; obtain ⟨z0, z1⟩ := (HQB.out.below hb6).cells; have hz6 : w5.heap.size < w6.heap.size := (by have := hb6.size; simp at this; omega); clear ht6 hb6)
    | (go_at_call 17; refine (keepProj_any (decE s) qo qc (decL s) (decE s) ro rc (decL s) (w6.alloc (.cells #[.int .i64 (decE s), .slice ro (decL s).length rc] 24)) (HQ6.out.below ((Below.refl _ _).alloc (Nat.le_refl _) _)).1 (HR6.out.below ((Below.refl _ _).alloc (Nat.le_refl _) _)).1 (small_million (dec_small s)) (small_million (dec_small s))).mono ?_; rintro e w7 ⟨rfl, hb7⟩; rw [sameP_self]; have H7 := Lib.hid (((H6.out.alloc H6.out.size (.cells #[.int .i64 (decE s), .slice ro (decL s).length rc] 24)).trans (hb7.mono (by have := H6.out.size; simp; omega)))); clear hb7)
    | (go_at_call 9; refine (CW.out _).mono ?_; rintro e w8 ⟨rfl, hb8⟩))
  go_ret
  exact ⟨rfl, H7.out.trans (hb8.mono H7.out.size)⟩

set_option maxRecDepth 100000 in
theorem projCodes_lifted (os : Os) (started : os.Started) (H : Type) (enc : TypeId × Value → H) :
    ReturnsInHanded {} Try.checked os 5 .any (Rows.projCodesSpec.pre6 enc Try.prog Try.f5 Rows.projCodesRow.domain false) (Rows.projCodesSpec.post enc Try.prog Try.f5 false true false false) := by
  refine returnsInHanded_of_change (C := Try.checked) own started (by kernel_rfl) Try.func5
    (ChangeSpec.witness6 (enc := enc) (C := Try.checked) false ⟨#[], #[.agg #[.int .i64 0, .slice none 0 0], .string ByteArray.empty], []⟩ 8 (by kernel_rfl) (by kernel_rfl) (by kernel_rfl) (by kernel_rfl)) ?_
  intro W base args ds gs before hval0 hW hcnd _
  have hval : ∀ (j : Nat) t v, Try.f5.params[j]? = some t → args[j]? = some v → Value.okWide Try.prog W .any base t v := hval0
  have hW' := hW
  obtain ⟨p, q, hA0, hV, rfl, hfz, hnd⟩ := hW
  have hA : DataW.TrodAll enc Try.prog W 0 (fun _ => true) true Try.f5.params.toList args.toList ds p := hA0
  rw [Try.params5] at hA hval
  obtain ⟨v0, vs0, d0, ds0, p0, q0, hargs, rfl, rfl, h0, r0⟩ := trodAll_cons hA
  obtain ⟨v1, vs1, d1, ds1, p1, q1, rfl, rfl, rfl, h1, r1⟩ := trodAll_cons r0
  obtain ⟨rfl, rfl, rfl⟩ := trodAll_nil r1
  obtain rfl : args = #[v0, v1] := by cases args; simp_all
  obtain ⟨rfl, rfl⟩ := trodVars_none hV
  have k0 := h0
  have lt0 : ∀ x ∈ p0, x.block < W.heap.size := by obtain ⟨m, hm⟩ := k0; exact DataW.trod_lt m _ _ _ hm
  have k1 := h1
  have lt1 : ∀ x ∈ p1, x.block < W.heap.size := by obtain ⟨m, hm⟩ := k1; exact DataW.trod_lt m _ _ _ hm
  obtain ⟨ep0, ao0, cap0, L0, rfl, wf0, hC0, hn0, hc0, hl0, hm0⟩ := open_proj Try.underlying24 (by kernel_rfl) rfl rfl (by kernel_rfl) (by kernel_rfl) Try.underlying3 Try.underlying22 Try.underlying28 (by kernel_rfl) (hval 0 24 v0 rfl rfl) h0
  have hF0 : PIn W ep0 ao0 cap0 L0 := ⟨⟨hC0, hn0, hc0⟩, i64_of_wf wf0, hl0, fun c hcm => by obtain ⟨i, hi, rfl⟩ := List.getElem_of_mem hcm; exact hm0 i hi⟩
  obtain ⟨a1, rfl, rfl, rfl, w1⟩ := open_string Try.underlying9 (hval 1 9 v1 rfl rfl) h1
  clear hA0 hval0
  refine (projCodes_walk progSays ep0 ao0 cap0 L0 a1 w1 W hF0).mono fun e W' ⟨he, bel⟩ => ?_
  subst he
  exact ⟨_, rfl, _, _, _, [], _, [], hW', trodAll_mk1 (shut_bool Try.underlying4 _), (trodAll_cons_mk (Below.trod laidOut (by kernel_rfl) (of_decide_eq_true (by kernel_rfl)) k0 bel lt0) (trodAll_cons_mk (Below.trod laidOut (by kernel_rfl) (of_decide_eq_true (by kernel_rfl)) k1 bel lt1) trodAll_mk0)), rfl, bel.frame _, fun h => by cases h⟩

theorem projCodes_over : Rows.projCodesRow.holds Try.pinned (OpenSpec.ofChange Rows.projCodesSpec) :=
  OpenClaim.holds_of_wide 5 Try.f5 rfl rfl rfl rfl rfl rfl rfl ⟨rfl, rfl, rfl, rfl, rfl⟩ rfl rfl rfl rfl rfl (by kernel_rfl) Try.func5 (by kernel_rfl)
    (of_decide_eq_true (by kernel_rfl)) (by unfold Func.isWrapper; first | (rw [if_pos (by decide +kernel)]; kernel_rfl) | (rw [if_neg (by decide +kernel)]; exact ⟨rfl, rfl⟩))
    (fun os started H enc _ => projCodes_lifted os started H enc)

/-- THE STATEMENT -/
theorem projCodes_holds : Rows.ProjCodesSaid := projCodes_over 
end Go.Proofs.Ytbiihcoobknmjaa
