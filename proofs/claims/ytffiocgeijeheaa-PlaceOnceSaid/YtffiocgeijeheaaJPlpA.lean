/- What the program's own Of returns. Conditions: the projection lies where the call was told, and is not too large. -/
import Derived.Test.YtffiocgeijeheaaJPjB
import Derived.Test.YtffiocgeijeheaaJPlcS
set_option linter.unusedVariables false
namespace Go.Proofs.Ytffiocgeijeheaa
open Go.RowKit
set_option maxRecDepth 20000
theorem results_place {P : Program} {fn : Func} {p u : Tmp} {ty : TypeId} (h : fn.results = #[.cell p ty, .tmp u]) (tmps : Array Value) (w : World) (g : Nat) (t : TypeId) (cs : Array Value) (fr : Nat × Nat) (d : TypeDesc)
    (hp : tmps.getD p undef = .pointer (some ⟨g, 0, none⟩)) (hg : w.heap[g]? = some (.cells cs t fr))
    (hu : P.underlying ty = some d) (hd : (match d with | .struct _ | .array _ _ => true | _ => false) = true) (hi : (P.info? ty).map (·.size) = some cs.size) :
    (results fn tmps).run P w = .ok (.tuple #[.agg cs, tmps.getD u undef]) w := by
  rw [results_cell_tmp h, hp]
  simp [asAddr, Result.andThen, run_loadVar_row w g t ty cs fr d hg hu hd hi]
theorem of_ret {fn : Func} {p u : Tmp} (h : fn.results = #[.cell p 26, .tmp u]) {a : Act} {w : World} {g : Nat} {x y : Value} {c : Bool} {R : Ending → World → Prop}
    (hg : w.heap[g]? = some (.cells #[x, y] 26 (0, 0))) (hp : a.tmps.getD p undef = .pointer (some ⟨g, 0, none⟩)) (hx : a.tmps.getD u undef = .bool c) (hd : a.defers = [])
    (hR : R (.returned (.tuple #[.agg #[x, y], .bool c])) w) : bodyPost Try.prog fn R .ret a w := by
  have e := results_place (P := Try.prog) h a.tmps w g 26 #[x, y] (0, 0) _ hp hg Try.underlying26 rfl (by kernel_rfl)
  rw [hx] at e
  exact bodyPost_ret e hd hR
theorem ofV_no {ep : Int} {L : List (List Int)} {a : Int} (h : ofB ep L a = false) : ofV ep L a = .tuple #[.agg #[.int .i64 0, .int .i64 0], .bool false] := by
  unfold ofV ofC ofP
  rw [h]
  rfl
theorem ofV_is {ep : Int} {L : List (List Int)} {a : Int} (h : ofB ep L a = true) : ofV ep L a = .tuple #[.agg #[.int .i64 (a % (L.length : Int)), .int .i64 (a / (L.length : Int))], .bool true] := by
  unfold ofV ofC ofP
  rw [h]
  rfl
set_option maxHeartbeats 2000000 in
theorem pOf_any (ep : Int) (ao : Option Addr) (cap : Nat) (L : List (List Int)) (a : Int) (w : World) (h : CL w ao L) (hl : L.length ≤ 255 ∧ ∀ c ∈ L, c.length ≤ 255) :
    Calls Try.prog 11 #[.agg #[.int .i64 ep, .slice ao L.length cap], .int .i64 a] w fun e w' => e = .returned (ofV ep L a) ∧ Below w.heap.size w w' := by
  have HB0 := Lib.hid (((Below.refl w.heap.size w).alloc (Nat.le_refl _) (.cells #[.int .i64 ep, .slice ao L.length cap] 24)).alloc (by simp) (.cells #[.int .i64 0, .int .i64 0] 26))
  have HC := Lib.hid (h.below HB0.out)
  have HP := Lib.hid (show PB (((w.alloc (.cells #[.int .i64 ep, .slice ao L.length cap] 24)).alloc (.cells #[.int .i64 0, .int .i64 0] 26))) w.heap.size ep ao L.length cap from PB.below (heap_alloc_new _ _) ((Below.refl _ _).alloc (Nat.le_refl _) _))
  have HG := Lib.hid (show (((w.alloc (.cells #[.int .i64 ep, .slice ao L.length cap] 24)).alloc (.cells #[.int .i64 0, .int .i64 0] 26))).heap[w.heap.size + 1]? = some (.cells #[.int .i64 0, .int .i64 0] 26 (0, 0)) from by
    have h := heap_alloc_new (w.alloc (.cells #[.int .i64 ep, .slice ao L.length cap] 24)) (.cells #[.int .i64 0, .int .i64 0] 26)
    simpa using h)
  have CG := Lib.hid (pgood_any ep ao cap L _ HC.out hl)
  have hl' : (L.length : Int) ≤ 255 := by have := hl.1; omega
  clear h hl
  by_cases hg : goodB ep L = true
  · rw [hg] at CG
    obtain ⟨n1, n4⟩ := good_len hg
    by_cases h0 : a < 0
    · rw [ofV_no (Bool.eq_false_iff.2 (fun e => by have := (ofB_iff.1 e).2; omega))]
      clear hg
      go_enter Try.func11, Try.ntmps11
      go_wp2_with (go_at_call 25; refine CG.out.mono ?_; rintro e w1 ⟨rfl, hb1⟩; have HB1 := Lib.hid (HB0.out.trans (hb1.mono HB0.out.size)); have HG1 := Lib.hid (below_heap hb1 HG.out); obtain ⟨c0, c1, f0, f1⟩ := two_cells HG1.out; obtain ⟨b0, b1⟩ := (HP.out.below hb1).cells; clear hb1)
      exact of_ret rfl (two_set1 (two_set0 HG1.out _) _) rfl rfl rfl ⟨rfl, (HB1.out.setCell (by simp) _).setCell (by simp) _⟩
    · by_cases h1 : 16384 ≤ a
      · rw [ofV_no (Bool.eq_false_iff.2 (fun e => by have := (ofB_iff.1 e).2; omega))]
        have h0' : 0 ≤ a := by omega
        clear hg h0
        go_enter Try.func11, Try.ntmps11
        go_wp2_with (go_at_call 25; refine CG.out.mono ?_; rintro e w1 ⟨rfl, hb1⟩; have HB1 := Lib.hid (HB0.out.trans (hb1.mono HB0.out.size)); have HG1 := Lib.hid (below_heap hb1 HG.out); obtain ⟨c0, c1, f0, f1⟩ := two_cells HG1.out; obtain ⟨b0, b1⟩ := (HP.out.below hb1).cells; clear hb1)
        exact of_ret rfl (two_set1 (two_set0 HG1.out _) _) rfl rfl rfl ⟨rfl, (HB1.out.setCell (by simp) _).setCell (by simp) _⟩
      · have h0' : 0 ≤ a := by omega
        have h1' : a < 16384 := by omega
        rw [ofV_is (ofB_iff.2 ⟨hg, h0', h1'⟩)]
        obtain ⟨r1, r2, _⟩ := of_range (n := L.length) ⟨by omega, by omega⟩ ⟨h0', h1'⟩
        have e1 : IntKind.i64.wrap (a.tmod (L.length : Int)) = a % (L.length : Int) := by rw [Int.tmod_eq_emod_of_nonneg h0']; exact IntWalk.i64_in _ (by omega)
        have e2 : IntKind.i64.wrap (a.tdiv (L.length : Int)) = a / (L.length : Int) := by rw [Int.tdiv_eq_ediv_of_nonneg h0']; exact IntWalk.i64_in _ (by omega)
        have nz : ¬ (L.length : Int) = 0 := by omega
        clear hg h0 h1 r1 r2
        go_enter Try.func11, Try.ntmps11
        go_wp2_with (go_at_call 25; refine CG.out.mono ?_; rintro e w1 ⟨rfl, hb1⟩; have HB1 := Lib.hid (HB0.out.trans (hb1.mono HB0.out.size)); have HG1 := Lib.hid (below_heap hb1 HG.out); obtain ⟨c0, c1, f0, f1⟩ := two_cells HG1.out; obtain ⟨b0, b1⟩ := (HP.out.below hb1).cells; clear hb1)
        go_region
        go_wp2_with fail
        exact of_ret rfl (two_set1 (two_set0 HG1.out _) _) rfl rfl rfl ⟨rfl, ((HB1.out.setCell (by simp) _).setCell (by simp) _).drew⟩
  · have hg' : goodB ep L = false := Bool.eq_false_iff.2 hg
    rw [ofV_no (Bool.eq_false_iff.2 (fun e => hg (ofB_iff.1 e).1))]
    rw [hg'] at CG
    clear hg hg'
    go_enter Try.func11, Try.ntmps11
    go_wp2_with (go_at_call 25; refine CG.out.mono ?_; rintro e w1 ⟨rfl, hb1⟩; have HB1 := Lib.hid (HB0.out.trans (hb1.mono HB0.out.size)); have HG1 := Lib.hid (below_heap hb1 HG.out); obtain ⟨c0, c1, f0, f1⟩ := two_cells HG1.out; obtain ⟨b0, b1⟩ := (HP.out.below hb1).cells; clear hb1)
    exact of_ret rfl (two_set1 (two_set0 HG1.out _) _) rfl rfl rfl ⟨rfl, (HB1.out.setCell (by simp) _).setCell (by simp) _⟩
end Go.Proofs.Ytffiocgeijeheaa
