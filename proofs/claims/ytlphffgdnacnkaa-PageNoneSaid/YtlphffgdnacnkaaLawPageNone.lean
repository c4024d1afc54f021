/- The law PageNone: pages that nobody made are none. No conditions. -/
import Derived.Test.YtlphffgdnacnkaaPgpF
import Derived.Test.YtlphffgdnacnkaaPagO
namespace Go.Proofs.Ytlphffgdnacnkaa
open Go.ChangeShapes Go.WideShapes Go.ChangeAt Go.RowKit
open Go.ChangeMaps (open_string shut_string)
set_option linter.unusedVariables false
set_option maxRecDepth 20000

set_option maxHeartbeats 4000000 in
theorem pageNone_walk {PG : (Nat → Prop) → World → Nat → Ps → Prop} (HS : PageSays PG) (x y : Int) (z : ByteArray) (wx : (Lit.int .i64 x).wf = true) (wy : (Lit.int .i64 y).wf = true) (wz : z.size ≤ maxLen) (w : World) :
    Calls Try.prog 6 #[.agg #[.int .i64 x, .int .i64 y, .string z]] w fun e w' => e = .returned (.bool true) ∧ Below w.heap.size w w' := by
  obtain ⟨W0, hW0⟩ : ∃ W0, W0 = w.alloc (.cells #[.int .i64 x, .int .i64 y, .string z] 33) := ⟨_, rfl⟩
  have HB0 := Lib.hid (show Below w.heap.size w W0 from by rw [hW0]; exact (Below.refl w.heap.size w).alloc (Nat.le_refl _) _)
  have HX := Lib.hid (show W0.heap[w.heap.size]? = some (.cells #[.int .i64 x, .int .i64 y, .string z] 33 (0, 0)) from by rw [hW0]; exact heap_alloc_new _ _)
  have CW := Lib.hid (fun w => wakes9_any HS w)
  have CR := Lib.hid (HS.nil_read y W0)
  rw [hW0] at CR
  clear wx wy
  go_enter Try.func6, Try.ntmps6
  go_wp2_with (first
    | (go_at_call 17; refine CR.out.mono ?_; rw [← hW0]; rintro e w1 ⟨rfl, hb1⟩; have H1 := Lib.hid hb1; obtain ⟨a0, a1, a2, _⟩ := three_cells (below_heap hb1 HX.out); clear hb1 CR)
    | (go_at_call 11; refine (HS.nil_write y z _ wz).mono ?_; rintro e w2 ⟨rfl, hb2⟩; have H2 := Lib.hid (H1.out.trans (hb2.mono H1.out.size)); obtain ⟨b0, b1, b2, _⟩ := three_cells (below_heap H2.out HX.out); clear hb2 a0 a1 a2)
    | (go_at_call 13; refine (HS.nil_fill y _).mono ?_; rintro e w3 ⟨rfl, hb3⟩; have H3 := Lib.hid (H2.out.trans (hb3.mono H2.out.size)); obtain ⟨c0, c1, c2, _⟩ := three_cells (below_heap H3.out HX.out); clear hb3 b0 b1 b2)
    | (go_at_call 19; refine (HS.nil_kind y _).mono ?_; rintro e w4 ⟨rfl, hb4⟩; have H4 := Lib.hid (H3.out.trans (hb4.mono H3.out.size)); obtain ⟨d0, d1, d2, _⟩ := three_cells (below_heap H4.out HX.out); clear hb4 c0 c1 c2)
    | (go_at_call 15; refine (HS.nil_trim y _).mono ?_; rintro e w5 ⟨rfl, hb5⟩; have H5 := Lib.hid (H4.out.trans (hb5.mono H4.out.size)); clear hb5 d0 d1 d2)
    | (go_at_call 21; refine (HS.nil_tail _).mono ?_; rintro e w6 ⟨rfl, hb6⟩; have H6 := Lib.hid (H5.out.trans (hb6.mono H5.out.size)); clear hb6)
    | (go_at_call 23; refine (HS.nil_used _).mono ?_; rintro e w7 ⟨rfl, hb7⟩; have H7 := Lib.hid (H6.out.trans (hb7.mono H6.out.size)); clear hb7)
    | (go_at_call 25; refine (HS.nil_edge _).mono ?_; rintro e w8 ⟨rfl, hb8⟩; have H8 := Lib.hid (H7.out.trans (hb8.mono H7.out.size)); clear hb8)
    | (go_at_call 10; refine (CW.out _).mono ?_; rintro e w9 ⟨rfl, hb9⟩))
  go_ret
  exact ⟨rfl, (HB0.out.trans (H8.out.mono HB0.out.size)).trans (hb9.mono (Nat.le_trans HB0.out.size H8.out.size))⟩

set_option maxRecDepth 100000 in
theorem pageNone_lifted (os : Os) (started : os.Started) (H : Type) (enc : TypeId × Value → H) :
    ReturnsInHanded {} Try.checked os 6 .any (Rows.pageNoneSpec.pre6 enc Try.prog Try.f6 Rows.pageNoneRow.domain false) (Rows.pageNoneSpec.post enc Try.prog Try.f6 false true false false) := by
  refine returnsInHanded_of_change (C := Try.checked) own started (by kernel_rfl) Try.func6
    (ChangeSpec.witness6 (enc := enc) (C := Try.checked) false ⟨#[], #[.agg #[.int .i64 0, .int .i64 0, .string ByteArray.empty]], []⟩ 8 (by kernel_rfl) (by kernel_rfl) (by kernel_rfl) (by kernel_rfl)) ?_
  intro W base args ds gs before hval0 hW hcnd _
  have hval : ∀ (j : Nat) t v, Try.f6.params[j]? = some t → args[j]? = some v → Value.okWide Try.prog W .any base t v := hval0
  have hW' := hW
  obtain ⟨p, q, hA0, hV, rfl, hfz, hnd⟩ := hW
  have hA : DataW.TrodAll enc Try.prog W 0 (fun _ => true) true Try.f6.params.toList args.toList ds p := hA0
  rw [Try.params6] at hA hval
  obtain ⟨v0, vs0, d0, ds0, p0, q0, hargs, rfl, rfl, h0, r0⟩ := trodAll_cons hA
  obtain ⟨rfl, rfl, rfl⟩ := trodAll_nil r0
  obtain rfl : args = #[v0] := by cases args; simp_all
  obtain ⟨rfl, rfl⟩ := trodVars_none hV
  have k0 := h0
  have lt0 : ∀ x ∈ p0, x.block < W.heap.size := by obtain ⟨m, hm⟩ := k0; exact DataW.trod_lt m _ _ _ hm
  obtain ⟨x0, y0, z0, rfl, wx0, wy0, wz0⟩ := open_step Try.underlying33 (by kernel_rfl) rfl rfl rfl (by kernel_rfl) (by kernel_rfl) Try.underlying3 Try.underlying9 (hval 0 33 v0 rfl rfl) h0
  clear hA0 hval0
  refine (pageNone_walk pageSays x0 y0 z0 wx0 wy0 wz0 W).mono fun e W' ⟨he, bel⟩ => ?_
  subst he
  exact ⟨_, rfl, _, _, _, [], _, [], hW', trodAll_mk1 (shut_bool Try.underlying4 _), (trodAll_cons_mk (Below.trod laidOut (by kernel_rfl) (of_decide_eq_true (by kernel_rfl)) k0 bel lt0) trodAll_mk0), rfl, bel.frame _, fun h => by cases h⟩

theorem pageNone_over : Rows.pageNoneRow.holds Try.pinned (OpenSpec.ofChange Rows.pageNoneSpec) :=
  OpenClaim.holds_of_wide 6 Try.f6 rfl rfl rfl rfl rfl rfl rfl ⟨rfl, rfl, rfl, rfl, rfl⟩ rfl rfl rfl rfl rfl (by kernel_rfl) Try.func6 (by kernel_rfl)
    (of_decide_eq_true (by kernel_rfl)) (by unfold Func.isWrapper; first | (rw [if_pos (by decide +kernel)]; kernel_rfl) | (rw [if_neg (by decide +kernel)]; exact ⟨rfl, rfl⟩))
    (fun os started H enc _ => pageNone_lifted os started H enc)

/-- THE STATEMENT -/
theorem pageNone_holds : Rows.PageNoneSaid := pageNone_over 
end Go.Proofs.Ytlphffgdnacnkaa
