/- The law ProjNexts: which projection may come next behind which is as the document says. No conditions. -/
import Derived.Test.YtbiihcoobknmjaaGl
import Derived.Test.YtbiihcoobknmjaaJPjK
namespace Go.Proofs.Ytbiihcoobknmjaa
open Go.ChangeShapes Go.WideShapes Go.ChangeAt Go.RowKit
open Go.ChangeMaps (open_string shut_string)
set_option linter.unusedVariables false
set_option maxRecDepth 20000

set_option maxHeartbeats 8000000 in
theorem projNexts_walk (HS : ProgSays) (e1 : Int) (ao1 : Option Addr) (c1 : Nat) (L1 : List (List Int)) (e2 : Int) (ao2 : Option Addr) (c2 : Nat) (L2 : List (List Int)) (w : World) (hp1 : PIn w e1 ao1 c1 L1) (hp2 : PIn w e2 ao2 c2 L2) :
    Calls Try.prog 4 #[.agg #[.int .i64 e1, .slice ao1 L1.length c1], .agg #[.int .i64 e2, .slice ao2 L2.length c2]] w fun e w' => e = .returned (.bool true) ∧ Below w.heap.size w w' := by
  have HB0 := Lib.hid (((Below.refl w.heap.size w).alloc (Nat.le_refl _) (.cells #[.int .i64 e1, .slice ao1 L1.length c1] 24)).alloc (by simp) (.cells #[.int .i64 e2, .slice ao2 L2.length c2] 24))
  have HP := Lib.hid (PB.two w e1 e2 ao1 ao2 L1.length L2.length c1 c2)
  have H1 := Lib.hid (hp1.below HB0.out)
  have H2 := Lib.hid (hp2.below HB0.out)
  have CA := Lib.hid (fun (W : World) hb => large_any e1 ao1 c1 L1 W (H1.out.below hb).1.1 H1.out.2.2.1 H1.out.2.2.2)
  have CB := Lib.hid (fun (W : World) hb => large_any e2 ao2 c2 L2 W (H2.out.below hb).1.1 H2.out.2.2.1 H2.out.2.2.2)
  have CW := Lib.hid (wakes7_any HS)
  clear hp1 hp2
  by_cases hl1 : largeB L1 = true
  · rw [hl1] at CA
    clear hl1
    go_enter Try.func4, Try.ntmps4
    go_wp2_with (first | (go_at_call 8; refine (CA.out _ (Below.refl _ _)).mono ?_; rintro e w1 ⟨rfl, hb1⟩) | (go_at_call 9; refine (CW.out _).mono ?_; rintro e w2 ⟨rfl, hb2⟩))
    go_ret
    exact ⟨rfl, (HB0.out.trans (hb1.mono HB0.out.size)).trans (hb2.mono (Nat.le_trans HB0.out.size hb1.size))⟩
  have hf1 : largeB L1 = false := by simpa using hl1
  rw [hf1] at CA
  have SM1 := Lib.hid (large_small hf1)
  clear hl1 hf1
  by_cases hl2 : largeB L2 = true
  · rw [hl2] at CB
    clear hl2
    go_enter Try.func4, Try.ntmps4
    go_wp2_with (first | (go_at_call 8; with_reducible refine (CB.out _ HR1.out).mono ?_; rintro e w2 ⟨rfl, hb2⟩; have HR2 := Lib.hid (HR1.out.trans (hb2.mono HR1.out.size)); clear hb2) | (go_at_call 8; refine (CA.out _ (Below.refl _ _)).mono ?_; rintro e w1 ⟨rfl, hb1⟩; have HR1 := Lib.hid hb1; obtain ⟨y0, y1⟩ := (HP.out.2.below hb1).cells; clear hb1) | (go_at_call 9; refine (CW.out _).mono ?_; rintro e w3 ⟨rfl, hb3⟩))
    go_ret
    exact ⟨rfl, (HB0.out.trans (HR2.out.mono HB0.out.size)).trans (hb3.mono (Nat.le_trans HB0.out.size HR2.out.size))⟩
  have hf2 : largeB L2 = false := by simpa using hl2
  rw [hf2] at CB
  have SM2 := Lib.hid (large_small hf2)
  clear hl2 hf2
  have hRR : ∀ R : Bool, (R == R) = true := fun R => by cases R <;> rfl
  have hR := hRR (nextB e1 L1 e2 L2)
  clear hRR
  generalize hnx : nextB e1 L1 e2 L2 = R at *
  have HNX := Lib.hid hnx
  clear hnx
  go_enter Try.func4, Try.ntmps4
  go_wp2_with (first | (go_at_call 8; with_reducible refine (CB.out _ HR1.out).mono ?_; rintro e w2 ⟨rfl, hb2⟩; have HR2 := Lib.hid (HR1.out.trans (hb2.mono HR1.out.size)); clear hb2) | (go_at_call 8; refine (CA.out _ (Below.refl _ _)).mono ?_; rintro e w1 ⟨rfl, hb1⟩; have HR1 := Lib.hid hb1; obtain ⟨y0, y1⟩ := (HP.out.2.below hb1).cells; clear hb1))
  have HP1 := Lib.hid (HP.out.1.below HR2.out)
  have HP2 := Lib.hid (HP.out.2.below HR2.out)
  have I1 := Lib.hid (H1.out.below HR2.out)
  have I2 := Lib.hid (H2.out.below HR2.out)
  have HW2 := Lib.hid (HB0.out.trans (HR2.out.mono HB0.out.size))
  have F1 := Lib.hid (fun (W : World) (h : Below w2.heap.size w2 W) => show CL W ao1 L1 from (I1.out.below h).1.1)
  have F2 := Lib.hid (fun (W : World) (h : Below w2.heap.size w2 W) => show CL W ao2 L2 from (I2.out.below h).1.1)
  have SC1 := Lib.hid (small_copy SM1.out)
  have SC2 := Lib.hid (small_copy SM2.out)
  clear y0 y1 CA CB HR1
  go_region_held3 (fun W => W.cell? ⟨w.heap.size, 0, none⟩ = some (.int .i64 e1) ∧ W.cell? ⟨w.heap.size, 1, none⟩ = some (.slice ao1 L1.length c1) ∧ W.cell? ⟨w.heap.size + 1, 0, none⟩ = some (.int .i64 e2) ∧ W.cell? ⟨w.heap.size + 1, 1, none⟩ = some (.slice ao2 L2.length c2) ∧ Below w2.heap.size w2 W ∧ w2.heap.size ≤ W.heap.size)
    (first | exact boxes_start HP1.out HP2.out | exact boxes_keep hb8 (by assumption) | exact boxes_keep hb7 (by assumption) | exact boxes_keep hb6 (by assumption) | exact boxes_keep hb5 (by assumption) | exact boxes_keep hb4 (by assumption))
    (first
      | (go_at_call 10; (with_reducible refine (keepCopy_any e1 ao1 c1 L1 _ (F1.out _ (boxes_below (by assumption))) SC1.out).mono ?_); rintro e w4 ⟨po, pc, rfl, hc4, hn4, hl4, hb4⟩; (try replace HTQ := Lib.hid (HTQ.out.below hb4)); have HTP := Lib.hid (show Told w4 po pc L1 from ⟨hc4, hn4, hl4⟩); clear hc4 hn4 hl4)
      | (go_at_call 10; (with_reducible refine (keepCopy_any e2 ao2 c2 L2 _ (F2.out _ (boxes_below (by assumption))) SC2.out).mono ?_); rintro e w5 ⟨qo, qc, rfl, hc5, hn5, hl5, hb5⟩; (try replace HTP := Lib.hid (HTP.out.below hb5)); have HTQ := Lib.hid (show Told w5 qo qc L2 from ⟨hc5, hn5, hl5⟩); clear hc5 hn5 hl5)
      | (go_at_call 18; refine (HS.next e1 po pc L1 e2 qo qc L2 _ HTP.out HTQ.out SM1.out SM2.out).mono ?_; rintro e w6 ⟨rfl, hb6⟩; rw [HNX.out])
      | (go_at_call 19; refine (rnext_any e1 ao1 c1 L1 e2 ao2 c2 L2 _ (F1.out _ (boxes_below (by assumption))) (F2.out _ (boxes_below (by assumption))) SM1.out SM2.out).mono ?_; rintro e w7 ⟨rfl, hb7⟩; (try replace HTP := Lib.hid (HTP.out.below hb7)); (try replace HTQ := Lib.hid (HTQ.out.below hb7)); rw [HNX.out])
      | (go_at_call 9; refine (CW.out _).mono ?_; rintro e w8 ⟨rfl, hb8⟩))
  all_goals
    go_wp2_with fail
    go_ret
    rename_i hS
    exact ⟨rfl, HW2.out.trans (hS.2.2.2.2.1.mono HW2.out.size)⟩

set_option maxRecDepth 100000 in
theorem projNexts_lifted (os : Os) (started : os.Started) (H : Type) (enc : TypeId × Value → H) :
    ReturnsInHanded {} Try.checked os 4 .any (Rows.projNextsSpec.pre6 enc Try.prog Try.f4 Rows.projNextsRow.domain false) (Rows.projNextsSpec.post enc Try.prog Try.f4 false true false false) := by
  refine returnsInHanded_of_change (C := Try.checked) own started (by kernel_rfl) Try.func4
    (ChangeSpec.witness6 (enc := enc) (C := Try.checked) false ⟨#[], #[.agg #[.int .i64 0, .slice none 0 0], .agg #[.int .i64 0, .slice none 0 0]], []⟩ 8 (by kernel_rfl) (by kernel_rfl) (by kernel_rfl) (by kernel_rfl)) ?_
  intro W base args ds gs before hval0 hW hcnd _
  have hval : ∀ (j : Nat) t v, Try.f4.params[j]? = some t → args[j]? = some v → Value.okWide Try.prog W .any base t v := hval0
  have hW' := hW
  obtain ⟨p, q, hA0, hV, rfl, hfz, hnd⟩ := hW
  have hA : DataW.TrodAll enc Try.prog W 0 (fun _ => true) true Try.f4.params.toList args.toList ds p := hA0
  rw [Try.params4] at hA hval
  obtain ⟨v0, vs0, d0, ds0, p0, q0, hargs, rfl, rfl, h0, r0⟩ := trodAll_cons hA
  obtain ⟨v1, vs1, d1, ds1, p1, q1, rfl, rfl, rfl, h1, r1⟩ := trodAll_cons r0
  obtain ⟨rfl, rfl, rfl⟩ := trodAll_nil r1
  obtain rfl : args = #[v0, v1] := by cases args; simp_all
  obtain ⟨rfl, rfl⟩ := trodVars_none hV
  have k0 := h0
  have lt0 : ∀ x ∈ p0, x.block < W.heap.size := by obtain ⟨m, hm⟩ := k0; exact DataW.trod_lt m _ _ _ hm
  have k1 := h1
  have lt1 : ∀ x ∈ p1, x.block < W.heap.size := by obtain ⟨m, hm⟩ := k1; exact DataW.trod_lt m _ _ _ hm
  obtain ⟨ep0, ao0, cap0, L0, rfl, wf0, hC0, hn0, hc0, hl0, hm0⟩ := open_proj Try.underlying24 (by kernel_rfl) rfl rfl (by kernel_rfl) (by kernel_rfl) Try.underlying3 Try.underlying22 Try.underlying28 (by kernel_rfl) (hval 0 24 v0 rfl rfl) h0
  have hF0 : PIn W ep0 ao0 cap0 L0 := ⟨⟨hC0, hn0, hc0⟩, i64_of_wf wf0, hl0, fun c hcm => by obtain ⟨i, hi, rfl⟩ := List.getElem_of_mem hcm; exact hm0 i hi⟩
  obtain ⟨ep1, ao1, cap1, L1, rfl, wf1, hC1, hn1, hc1, hl1, hm1⟩ := open_proj Try.underlying24 (by kernel_rfl) rfl rfl (by kernel_rfl) (by kernel_rfl) Try.underlying3 Try.underlying22 Try.underlying28 (by kernel_rfl) (hval 1 24 v1 rfl rfl) h1
  have hF1 : PIn W ep1 ao1 cap1 L1 := ⟨⟨hC1, hn1, hc1⟩, i64_of_wf wf1, hl1, fun c hcm => by obtain ⟨i, hi, rfl⟩ := List.getElem_of_mem hcm; exact hm1 i hi⟩
  clear hA0 hval0
  refine (projNexts_walk progSays ep0 ao0 cap0 L0 ep1 ao1 cap1 L1 W hF0 hF1).mono fun e W' ⟨he, bel⟩ => ?_
  subst he
  exact ⟨_, rfl, _, _, _, [], _, [], hW', trodAll_mk1 (shut_bool Try.underlying4 _), (trodAll_cons_mk (Below.trod laidOut (by kernel_rfl) (of_decide_eq_true (by kernel_rfl)) k0 bel lt0) (trodAll_cons_mk (Below.trod laidOut (by kernel_rfl) (of_decide_eq_true (by kernel_rfl)) k1 bel lt1) trodAll_mk0)), rfl, bel.frame _, fun h => by cases h⟩

theorem projNexts_over : Rows.projNextsRow.holds Try.pinned (OpenSpec.ofChange Rows.projNextsSpec) :=
  OpenClaim.holds_of_wide 4 Try.f4 rfl rfl rfl rfl rfl rfl rfl ⟨rfl, rfl, rfl, rfl, rfl⟩ rfl rfl rfl rfl rfl (by kernel_rfl) Try.func4 (by kernel_rfl)
    (of_decide_eq_true (by kernel_rfl)) (by unfold Func.isWrapper; first | (rw [if_pos (by decide +kernel)]; kernel_rfl) | (rw [if_neg (by decide +kernel)]; exact ⟨rfl, rfl⟩))
    (fun os started H enc _ => projNexts_lifted os started H enc)

/-- THE STATEMENT -/
theorem projNexts_holds : Rows.ProjNextsSaid := projNexts_over 
end Go.Proofs.Ytbiihcoobknmjaa
