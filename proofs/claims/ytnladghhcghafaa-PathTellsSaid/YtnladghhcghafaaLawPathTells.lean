/- PathTells: which texts are names and paths, a path's names, its directory and its last name are what the document's own answer says, for every text, and the law's examples come out. No conditions. -/
import Derived.Test.YtnladghhcghafaaFrame
import Derived.Test.YtnladghhcghafaaPathJ
namespace Go.Proofs.Ytnladghhcghafaa
open Go.ChangeShapes Go.WideShapes Go.ChangeAt Go.RowKit
open Go.ChangeMaps (open_string shut_string)
set_option linter.unusedVariables false

theorem texts_same (A : List ByteArray) (ao bo : Option Addr) (ca cb : Nat) (w : World) (hA : SL w ao A) (hB : SL w bo A) (lA : A.length ≤ 1000000) :
    Calls Try.prog 16 #[.slice ao A.length ca, .slice bo A.length cb] w fun e w' => e = .returned (.bool true) ∧ ∃ n, w' = w.drewN n := by
  have h := texts_any A A ao bo ca cb w hA hB lA lA
  rwa [decide_eq_true rfl] at h
theorem place_cells {w wr : World} {d n : ByteArray} {x : Bool} (hb : Below (w.alloc (.cells #[.string d, .string n, .bool x] 32)).heap.size (w.alloc (.cells #[.string d, .string n, .bool x] 32)) wr) :
    wr.cell? ⟨w.heap.size, 0, none⟩ = some (.string d) ∧ wr.cell? ⟨w.heap.size, 1, none⟩ = some (.string n) ∧ wr.cell? ⟨w.heap.size, 2, none⟩ = some (.bool x) := by
  have h := (hb.block w.heap.size (by simp)).trans (heap_alloc_new w _)
  exact ⟨cell_of h 0, cell_of h 1, cell_of h 2⟩
set_option maxHeartbeats 2000000 in
theorem pathTells_walk (a0 : ByteArray) (w0 : a0.size ≤ maxLen) (w : World) :
    Calls Try.prog 3 #[.string a0] w fun e w' => e = .returned (.bool true) ∧ Below w.heap.size w w' := by
  clear w0
  have hb0 := Below.refl w.heap.size w
  by_cases g0 : (a0.size : Int) ≤ 20000
  · have c1 := fun w => split_any a0 (by omega) w
    have c2 := fun w => rsplit_any a0 (by omega) w
    have c3 := fun w => up_any a0 (by omega) w
    have c4 := fun w => rup_any a0 (by omega) w
    have c5 := fun w => name_any a0 w
    have c6 := fun w => rname_any a0 w
    have c7 := fun w => good_any a0 (by omega) w
    have c8 := fun w => rgood_any a0 (by omega) w
    have lk := (names_le a0).1
    generalize namesR a0 = K at *
    generalize codeR a0 = x at *
    generalize nameB a0 = B1 at *
    generalize goodR a0 = B2 at *
    generalize upR a0 = U at *
    obtain ⟨d, n, ok⟩ := U
    have e1 : (d.toList == d.toList) = true := by rw [beq_iff_eq]
    have e2 : (n.toList == n.toList) = true := by rw [beq_iff_eq]
    have HL := Lib.hid (show K.length ≤ 1000000 by omega)
    clear lk
    go_enter Try.func3, Try.ntmps3
    go_wp2_with (first | (go_at_call 8; refine (c1 _).mono ?_; rintro e w1 ⟨ao, ca, rfl, hA, hb1, _⟩; replace hb0 := hb0.trans (hb1.mono hb0.size); clear hb1) | (go_at_call 9; refine (c2 _).mono ?_; rintro e w2 ⟨bo, cb, rfl, hB, hb2, _⟩; replace hb0 := hb0.trans (hb2.mono hb0.size); replace hA := hA.below hb2; clear hb2) | (go_at_call 10; refine (c3 _).mono ?_; rintro e w3 ⟨rfl, hb3⟩; replace hb0 := hb0.trans (hb3.mono hb0.size); replace hA := hA.below hb3; replace hB := hB.below hb3; clear hb3) | (go_at_call 11; refine (c4 _).mono ?_; rintro e w4 ⟨rfl, hb4⟩; replace hb0 := hb0.trans (hb4.mono hb0.size); replace hA := hA.below hb4; replace hB := hB.below hb4; clear hb4) | (go_at_call 12; refine (c5 _).mono ?_; rintro e w5 ⟨rfl, rfl⟩) | (go_at_call 13; refine (c6 _).mono ?_; rintro e w5 ⟨rfl, rfl⟩) | (go_at_call 14; refine (c7 _).mono ?_; rintro e w5 ⟨rfl, hb5⟩) | (go_at_call 15; refine (c8 _).mono ?_; rintro e w6 ⟨rfl, hb6⟩; have hZ := hb5.trans (hb6.mono hb5.size); have hY := ((Below.refl w4.heap.size w4).alloc (Nat.le_refl _) _).trans (hZ.mono (by simp)); replace hb0 := hb0.trans (hY.mono hb0.size); replace hA := hA.below hY; replace hB := hB.below hY; clear hb5 hb6 hY) | (go_at_call 16; refine (texts_same K _ _ _ _ _ hA hB HL.out).mono ?_; rintro e w' ⟨rfl, q, rfl⟩; obtain ⟨z0, z1, z2⟩ := place_cells (below_drewN hZ q); replace hb0 := below_drewN hb0 q; clear hZ hA hB) | (go_at_call 7; refine (wakes_any _).mono ?_; rintro e w7 ⟨rfl, hb7⟩; replace hb0 := hb0.trans (hb7.mono hb0.size); clear hb7))
    go_ret
    exact ⟨rfl, hb0⟩
  · go_enter Try.func3, Try.ntmps3
    go_wp2_with (go_at_call 7; refine (wakes_any _).mono ?_; rintro e w3 ⟨rfl, hb3⟩)
    go_ret
    exact ⟨rfl, hb3⟩

set_option maxRecDepth 100000 in
theorem pathTells_lifted (os : Os) (started : os.Started) (H : Type) (enc : TypeId × Value → H) :
    ReturnsInHanded {} Try.checked os 3 .any (Rows.pathTellsSpec.pre6 enc Try.prog Try.f3 Rows.pathTellsRow.domain false) (Rows.pathTellsSpec.post enc Try.prog Try.f3 false true false false) := by
  refine returnsInHanded_of_change (C := Try.checked) own started (by kernel_rfl) Try.func3
    (ChangeSpec.witness6 (enc := enc) (C := Try.checked) false ⟨#[], #[.string ByteArray.empty], []⟩ 8 (by kernel_rfl) (by kernel_rfl) (by kernel_rfl) (by kernel_rfl)) ?_
  intro W base args ds gs before hval0 hW hcnd _
  have hval : ∀ (j : Nat) t v, Try.f3.params[j]? = some t → args[j]? = some v → Value.okWide Try.prog W .any base t v := hval0
  have hW' := hW
  obtain ⟨p, q, hA0, hV, rfl, hfz, hnd⟩ := hW
  have hA : DataW.TrodAll enc Try.prog W 0 (fun _ => true) true Try.f3.params.toList args.toList ds p := hA0
  rw [Try.params3] at hA hval
  obtain ⟨v0, vs0, d0, ds0, p0, q0, hargs, rfl, rfl, h0, r0⟩ := trodAll_cons hA
  obtain ⟨rfl, rfl, rfl⟩ := trodAll_nil r0
  obtain rfl : args = #[v0] := by cases args; simp_all
  obtain ⟨rfl, rfl⟩ := trodVars_none hV
  have k0 := h0
  have lt0 : ∀ x ∈ p0, x.block < W.heap.size := by obtain ⟨m, hm⟩ := k0; exact DataW.trod_lt m _ _ _ hm
  obtain ⟨a0, rfl, rfl, rfl, w0⟩ := open_string Try.underlying9 (hval 0 9 v0 rfl rfl) h0
  clear hA0 hval0
  refine (pathTells_walk a0 w0 W).mono fun e W' ⟨he, bel⟩ => ?_
  subst he
  exact ⟨_, rfl, _, _, _, [], _, [], hW', trodAll_mk1 (shut_bool Try.underlying4 _), (trodAll_cons_mk (Below.trod laidOut (by kernel_rfl) (of_decide_eq_true (by kernel_rfl)) k0 bel lt0) trodAll_mk0), rfl, bel.frame _, fun h => by cases h⟩

theorem pathTells_over : Rows.pathTellsRow.holds Try.pinned (OpenSpec.ofChange Rows.pathTellsSpec) :=
  OpenClaim.holds_of_wide 3 Try.f3 rfl rfl rfl rfl rfl rfl rfl ⟨rfl, rfl, rfl, rfl, rfl⟩ rfl rfl rfl rfl rfl (by kernel_rfl) Try.func3 (by kernel_rfl)
    (of_decide_eq_true (by kernel_rfl)) (by unfold Func.isWrapper; first | (rw [if_pos (by decide +kernel)]; kernel_rfl) | (rw [if_neg (by decide +kernel)]; exact ⟨rfl, rfl⟩))
    (fun os started H enc _ => pathTells_lifted os started H enc)

/-- THE STATEMENT -/
theorem pathTells_holds : Rows.PathTellsSaid := pathTells_over
end Go.Proofs.Ytnladghhcghafaa
