/- PathInside: which paths lie inside which is what the document's own answer says, for all texts; each path lies in itself and in the root; and the law's examples come out. No conditions. -/
import Derived.Test.YtnladghhcghafaaFrame
import Derived.Test.YtnladghhcghafaaPathJ
namespace Go.Proofs.Ytnladghhcghafaa
open Go.ChangeShapes Go.WideShapes Go.ChangeAt Go.RowKit
open Go.ChangeMaps (open_string shut_string)
set_option linter.unusedVariables false

set_option maxHeartbeats 2000000 in
theorem pathInside_walk (a0 a1 : ByteArray) (w0 : a0.size ≤ maxLen) (w1 : a1.size ≤ maxLen) (w : World) :
    Calls Try.prog 5 #[.string a0, .string a1] w fun e w' => e = .returned (.bool true) ∧ Below w.heap.size w w' := by
  clear w0 w1
  have hb0 := Below.refl w.heap.size w
  by_cases g0 : (a0.size : Int) ≤ 20000
  · by_cases g1 : (a1.size : Int) ≤ 20000
    · have c1 := fun w => inside_any a0 a1 (by omega) (by omega) w
      have c2 := fun w => rinside_any a0 a1 (by omega) (by omega) w
      have c3 := fun w => good_any a0 (by omega) w
      have c4 := fun w => inside_any a0 a0 (by omega) (by omega) w
      have c5 := fun w => inside_any a0 ⟨#[47]⟩ (by omega) (by decide) w
      cases hg : goodR a0
      · rw [hg] at c3
        clear c4 c5 hg
        generalize insideR a0 a1 = R at *
        go_enter Try.func5, Try.ntmps5
        go_wp2_with (first | (go_at_call 19; ((with_reducible refine (c1 _).mono ?_); rintro e w3 ⟨rfl, hb3⟩; replace hb0 := hb0.trans (hb3.mono hb0.size); clear hb3)) | (go_at_call 20; refine (c2 _).mono ?_; rintro e w4 ⟨rfl, hb4⟩; replace hb0 := hb0.trans (hb4.mono hb0.size); clear hb4) | (go_at_call 14; refine (c3 _).mono ?_; rintro e w5 ⟨rfl, hb5⟩; replace hb0 := hb0.trans (hb5.mono hb0.size); clear hb5) | (go_at_call 7; refine (wakes_any _).mono ?_; rintro e w7 ⟨rfl, hb7⟩; replace hb0 := hb0.trans (hb7.mono hb0.size); clear hb7))
        go_ret
        exact ⟨rfl, hb0⟩
      · rw [hg] at c3
        rw [inside_same hg] at c4
        rw [show insideR a0 ⟨#[47]⟩ = true from inside_root hg] at c5
        clear hg
        generalize insideR a0 a1 = R at *
        go_enter Try.func5, Try.ntmps5
        go_wp2_with (first | (go_at_call 19; ((with_reducible refine (c1 _).mono ?_); rintro e w3 ⟨rfl, hb3⟩; replace hb0 := hb0.trans (hb3.mono hb0.size); clear hb3)) | (go_at_call 19; ((with_reducible refine (c4 _).mono ?_); rintro e w3 ⟨rfl, hb3⟩; replace hb0 := hb0.trans (hb3.mono hb0.size); clear hb3)) | (go_at_call 19; ((with_reducible refine (c5 _).mono ?_); rintro e w3 ⟨rfl, hb3⟩; replace hb0 := hb0.trans (hb3.mono hb0.size); clear hb3)) | (go_at_call 20; refine (c2 _).mono ?_; rintro e w4 ⟨rfl, hb4⟩; replace hb0 := hb0.trans (hb4.mono hb0.size); clear hb4) | (go_at_call 14; refine (c3 _).mono ?_; rintro e w5 ⟨rfl, hb5⟩; replace hb0 := hb0.trans (hb5.mono hb0.size); clear hb5) | (go_at_call 7; refine (wakes_any _).mono ?_; rintro e w7 ⟨rfl, hb7⟩; replace hb0 := hb0.trans (hb7.mono hb0.size); clear hb7))
        go_ret
        exact ⟨rfl, hb0⟩
    · have g1' : (20000 : Int) < a1.size := by omega
      clear g1
      go_enter Try.func5, Try.ntmps5
      go_wp2_with (go_at_call 7; refine (wakes_any _).mono ?_; rintro e w3 ⟨rfl, hb3⟩)
      go_ret
      exact ⟨rfl, hb3⟩
  · have g0' : (20000 : Int) < a0.size := by omega
    clear g0
    go_enter Try.func5, Try.ntmps5
    go_wp2_with (go_at_call 7; refine (wakes_any _).mono ?_; rintro e w3 ⟨rfl, hb3⟩)
    go_ret
    exact ⟨rfl, hb3⟩

set_option maxRecDepth 100000 in
theorem pathInside_lifted (os : Os) (started : os.Started) (H : Type) (enc : TypeId × Value → H) :
    ReturnsInHanded {} Try.checked os 5 .any (Rows.pathInsideSpec.pre6 enc Try.prog Try.f5 Rows.pathInsideRow.domain false) (Rows.pathInsideSpec.post enc Try.prog Try.f5 false true false false) := by
  refine returnsInHanded_of_change (C := Try.checked) own started (by kernel_rfl) Try.func5
    (ChangeSpec.witness6 (enc := enc) (C := Try.checked) false ⟨#[], #[.string ByteArray.empty, .string ByteArray.empty], []⟩ 8 (by kernel_rfl) (by kernel_rfl) (by kernel_rfl) (by kernel_rfl)) ?_
  intro W base args ds gs before hval0 hW hcnd _
  have hval : ∀ (j : Nat) t v, Try.f5.params[j]? = some t → args[j]? = some v → Value.okWide Try.prog W .any base t v := hval0
  have hW' := hW
  obtain ⟨p, q, hA0, hV, rfl, hfz, hnd⟩ := hW
  have hA : DataW.TrodAll enc Try.prog W 0 (fun _ => true) true Try.f5.params.toList args.toList ds p := hA0
  rw [Try.params5] at hA hval
  obtain ⟨v0, vs0, d0, ds0, p0, q0, hargs, rfl, rfl, h0, r0⟩ := trodAll_cons hA
  obtain ⟨v1, vs1, d1, ds1, p1, q1, rfl, rfl, rfl, h1, r1⟩ := trodAll_cons r0
  obtain ⟨rfl, rfl, rfl⟩ := trodAll_nil r1
  obtain rfl : args = #[v0, v1] := by cases args; simp_all
  obtain ⟨rfl, rfl⟩ := trodVars_none hV
  have k0 := h0
  have lt0 : ∀ x ∈ p0, x.block < W.heap.size := by obtain ⟨m, hm⟩ := k0; exact DataW.trod_lt m _ _ _ hm
  have k1 := h1
  have lt1 : ∀ x ∈ p1, x.block < W.heap.size := by obtain ⟨m, hm⟩ := k1; exact DataW.trod_lt m _ _ _ hm
  obtain ⟨a0, rfl, rfl, rfl, w0⟩ := open_string Try.underlying9 (hval 0 9 v0 rfl rfl) h0
  obtain ⟨a1, rfl, rfl, rfl, w1⟩ := open_string Try.underlying9 (hval 1 9 v1 rfl rfl) h1
  clear hA0 hval0
  refine (pathInside_walk a0 a1 w0 w1 W).mono fun e W' ⟨he, bel⟩ => ?_
  subst he
  exact ⟨_, rfl, _, _, _, [], _, [], hW', trodAll_mk1 (shut_bool Try.underlying4 _), (trodAll_cons_mk (Below.trod laidOut (by kernel_rfl) (of_decide_eq_true (by kernel_rfl)) k0 bel lt0) (trodAll_cons_mk (Below.trod laidOut (by kernel_rfl) (of_decide_eq_true (by kernel_rfl)) k1 bel lt1) trodAll_mk0)), rfl, bel.frame _, fun h => by cases h⟩

theorem pathInside_over : Rows.pathInsideRow.holds Try.pinned (OpenSpec.ofChange Rows.pathInsideSpec) :=
  OpenClaim.holds_of_wide 5 Try.f5 rfl rfl rfl rfl rfl rfl rfl ⟨rfl, rfl, rfl, rfl, rfl⟩ rfl rfl rfl rfl rfl (by kernel_rfl) Try.func5 (by kernel_rfl)
    (of_decide_eq_true (by kernel_rfl)) (by unfold Func.isWrapper; first | (rw [if_pos (by decide +kernel)]; kernel_rfl) | (rw [if_neg (by decide +kernel)]; exact ⟨rfl, rfl⟩))
    (fun os started H enc _ => pathInside_lifted os started H enc)

/-- THE STATEMENT -/
theorem pathInside_holds : Rows.PathInsideSaid := pathInside_over
end Go.Proofs.Ytnladghhcghafaa
