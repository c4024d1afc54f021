/- What the document's own layout tells of the units that were used, and whether a projection may come next. Conditions: it and the projection lie where the call was told. -/
import Derived.Test.YthfbefkddnbbcaaLayA
import Derived.Test.YthfbefkddnbbcaaPrjJ
namespace Go.Proofs.Ythfbefkddnbbcaa
set_option linter.unusedVariables false
open Go.RowKit
set_option maxRecDepth 20000
theorem six_cells {w : World} {b : Nat} {v0 v1 v2 v3 v4 v5 : Value} {t : TypeId} (h : w.heap[b]? = some (.cells #[v0, v1, v2, v3, v4, v5] t (0, 0))) :
    (w.cell? ⟨b, 0, none⟩ = some v0 ∧ w.cell? ⟨b, 1, none⟩ = some v1 ∧ w.cell? ⟨b, 2, none⟩ = some v2 ∧ w.cell? ⟨b, 3, none⟩ = some v3 ∧ w.cell? ⟨b, 4, none⟩ = some v4 ∧ w.cell? ⟨b, 5, none⟩ = some v5) ∧
    w.frozen? ⟨b, 0, none⟩ = false ∧ w.frozen? ⟨b, 1, none⟩ = false ∧ w.frozen? ⟨b, 2, none⟩ = false ∧ w.frozen? ⟨b, 3, none⟩ = false ∧ w.frozen? ⟨b, 4, none⟩ = false ∧ w.frozen? ⟨b, 5, none⟩ = false :=
  ⟨⟨cell_of h 0, cell_of h 1, cell_of h 2, cell_of h 3, cell_of h 4, cell_of h 5⟩, free_of h 0, free_of h 1, free_of h 2, free_of h 3, free_of h 4, free_of h 5⟩
/-- what the document's layout's cells hold -/
theorem RL.open {r : Nat} {G : Nat → Prop} {w : World} {y : Ly} (h : RL r G w y) : ∃ ao cap bo cb, w.heap[r]? = some (.cells #[.int .i64 y.ep, .slice ao y.L.length cap, .slice bo y.used.length cb, .int .i64 y.mark, .int .i64 y.size, .int .i64 y.n] 47 (0, 0)) ∧ CL w ao y.L ∧ NLI w bo cb y.used ∧ goodB y.ep y.L = true := by
  obtain ⟨⟨k, hk⟩, _, v, u, F, h2, h3, h4, _⟩ := h
  obtain ⟨ao, cap, rfl, h5, _⟩ := h3.cl
  obtain ⟨bo, cb, rfl, h6, _⟩ := h4
  exact ⟨ao, cap, bo, cb, h2, h5, h6, hk.good⟩
theorem good_small {ep : Int} {L : List (List Int)} (h : goodB ep L = true) : L.length ≤ 255 ∧ ∀ c ∈ L, c.length ≤ 255 := by
  obtain ⟨_, h2, h3, _⟩ := goodB_iff.1 h
  exact ⟨by omega, fun c hc => by have := (chainB_iff.1 (h3 c hc)).1; omega⟩
set_option maxHeartbeats 2000000 in
theorem rl_used (r : Nat) (G : Nat → Prop) (w : World) (y : Ly) (h : RL r G w y) (hu : y.used.length ≤ 3000) :
    Calls Try.prog 19 #[ptrL r] w fun e w' => ∃ v, e = .returned v ∧ OI w' w.heap.size v (unitsR [y.used]) ∧ Below w.heap.size w w' := by
  obtain ⟨ao, cap, bo, cb, h1, h2, h3, h4⟩ := h.open
  obtain ⟨⟨c0, c1, c2, c3, c4, c5⟩, _⟩ := six_cells h1
  have hlt := lt_of_block h1
  have HB := Lib.hid (show Below w.heap.size w ((w.alloc (.cells #[.slice bo y.used.length cb] 45)).alloc (.cells #[.int .i64 0, .slice (some ⟨w.heap.size, 0, none⟩) 1 1] 24)) from (below_new _ _).alloc (by simp) _)
  have HCL := Lib.hid (show CL ((w.alloc (.cells #[.slice bo y.used.length cb] 45)).alloc (.cells #[.int .i64 0, .slice (some ⟨w.heap.size, 0, none⟩) 1 1] 24)) (some ⟨w.heap.size, 0, none⟩) [y.used] from by
    intro i hi
    match i, hi with
    | 0, _ =>
      have hx := (two_blocks w #[.slice bo y.used.length cb] #[.int .i64 0, .slice (some ⟨w.heap.size, 0, none⟩) 1 1] 45 24).1
      exact ⟨w.heap.size, 0, bo, cb, rfl, cell_of hx 0, h3.below HB.out⟩)
  have CU := Lib.hid (refUnitsO_any 0 (some ⟨w.heap.size, 0, none⟩) 1 [y.used] _ HCL.out ⟨by simp, fun c hc => by rw [List.mem_singleton.1 hc]; exact hu⟩)
  clear h h1 h2 h3 h4 hu
  generalize y.used = U at *
  unfold ptrL
  go_enter Try.func19, Try.ntmps19
  go_wp2_with fail
  refine CU.out.mono ?_
  rintro e w1 ⟨v, rfl, hO, hb⟩
  have HO := Lib.hid (hO.lower (show w.heap.size ≤ _ from by simp; omega))
  have HB1 := Lib.hid (HB.out.trans (hb.mono HB.out.size))
  clear hO hb
  go_wp2_with fail
  go_ret
  exact ⟨_, rfl, HO.out, HB1.out⟩
end Go.Proofs.Ythfbefkddnbbcaa
