/- What the document's own Of and Addr return. Conditions: the projection lies where the call was told, and is not too large. -/
import Derived.Test.YtffiocgeijeheaaJPrjH
import Derived.Test.YtffiocgeijeheaaJPrjP
import Derived.Test.YtffiocgeijeheaaJPlcM
set_option linter.unusedVariables false
namespace Go.Proofs.Ytffiocgeijeheaa
open Go.RowKit
set_option maxRecDepth 20000
theorem got_ret {fn : Func} {p : Tmp} (h : fn.results = #[.cell p 33]) {a : Act} {w : World} {g : Nat} {x y z : Value} {R : Ending → World → Prop}
    (hg : w.heap[g]? = some (.cells #[x, y, z] 33 (0, 0))) (hp : a.tmps.getD p undef = .pointer (some ⟨g, 0, none⟩)) (hd : a.defers = [])
    (hR : R (.returned (.agg #[x, y, z])) w) : bodyPost Try.prog fn R .ret a w :=
  bodyPost_ret (results_cell_row h a.tmps w g 33 #[x, y, z] (0, 0) _ hp hg Try.underlying33 rfl (by kernel_rfl)) hd hR
/-- what is told of an address -/
def gotV (ep : Int) (L : List (List Int)) (a : Int) : Value := .agg #[.int .i64 (ofC ep L a), .int .i64 (ofP ep L a), .bool (ofB ep L a)]
theorem gotV_no {ep : Int} {L : List (List Int)} {a : Int} (h : ofB ep L a = false) : gotV ep L a = .agg #[.int .i64 0, .int .i64 0, .bool false] := by
  unfold gotV ofC ofP
  rw [h]
  rfl
theorem gotV_yes {ep : Int} {L : List (List Int)} {a : Int} (h : ofB ep L a = true) : gotV ep L a = .agg #[.int .i64 (a % (L.length : Int)), .int .i64 (a / (L.length : Int)), .bool true] := by
  unfold gotV ofC ofP
  rw [h]
  rfl
set_option maxHeartbeats 2000000 in
theorem refOf_any (ep : Int) (ao : Option Addr) (cap : Nat) (L : List (List Int)) (a : Int) (w : World) (h : CL w ao L) (hl : L.length ≤ 255 ∧ ∀ c ∈ L, c.length ≤ 255) :
    Calls Try.prog 12 #[.agg #[.int .i64 ep, .slice ao L.length cap], .int .i64 a] w fun e w' => e = .returned (gotV ep L a) ∧ Below w.heap.size w w' := by
  have HB0 := Lib.hid (((Below.refl w.heap.size w).alloc (Nat.le_refl _) (.cells #[.int .i64 ep, .slice ao L.length cap] 24)).alloc (by simp) (.cells #[.int .i64 0, .int .i64 0, .bool false] 33))
  have HC := Lib.hid (h.below HB0.out)
  have HP := Lib.hid (show PB (((w.alloc (.cells #[.int .i64 ep, .slice ao L.length cap] 24)).alloc (.cells #[.int .i64 0, .int .i64 0, .bool false] 33))) w.heap.size ep ao L.length cap from PB.below (heap_alloc_new _ _) ((Below.refl _ _).alloc (Nat.le_refl _) _))
  have HG := Lib.hid (show (((w.alloc (.cells #[.int .i64 ep, .slice ao L.length cap] 24)).alloc (.cells #[.int .i64 0, .int .i64 0, .bool false] 33))).heap[w.heap.size + 1]? = some (.cells #[.int .i64 0, .int .i64 0, .bool false] 33 (0, 0)) from by
    have h := heap_alloc_new (w.alloc (.cells #[.int .i64 ep, .slice ao L.length cap] 24)) (.cells #[.int .i64 0, .int .i64 0, .bool false] 33)
    simpa using h)
  have CG := Lib.hid (rgood_any ep ao cap L _ HC.out hl)
  have hl' : (L.length : Int) ≤ 255 := by have := hl.1; omega
  clear h hl
  by_cases hg : goodB ep L = true
  · rw [hg] at CG
    obtain ⟨n1, n4⟩ := good_len hg
    by_cases h0 : a < 0
    · rw [gotV_no (Bool.eq_false_iff.2 (fun e => by have := (ofB_iff.1 e).2; omega))]
      clear hg
      go_enter Try.func12, Try.ntmps12
      go_wp2_with (go_at_call 23; refine CG.out.mono ?_; rintro e w1 ⟨rfl, hb1⟩; have HB1 := Lib.hid (HB0.out.trans (hb1.mono HB0.out.size)); have HG1 := Lib.hid (below_heap hb1 HG.out); obtain ⟨c0, c1, c2, f0, f1, f2⟩ := three_cells HG1.out; clear hb1)
      exact got_ret rfl (by first | exact HG1.out | exact three_set2 (three_set1 (three_set0 HG1.out _) _) _) rfl rfl ⟨rfl, by first | exact HB1.out | exact ((HB1.out.setCell (by simp) _).setCell (by simp) _).setCell (by simp) _⟩
    · by_cases h1 : 16384 ≤ a
      · rw [gotV_no (Bool.eq_false_iff.2 (fun e => by have := (ofB_iff.1 e).2; omega))]
        have h0' : 0 ≤ a := by omega
        clear hg h0
        go_enter Try.func12, Try.ntmps12
        go_wp2_with (go_at_call 23; refine CG.out.mono ?_; rintro e w1 ⟨rfl, hb1⟩; have HB1 := Lib.hid (HB0.out.trans (hb1.mono HB0.out.size)); have HG1 := Lib.hid (below_heap hb1 HG.out); obtain ⟨c0, c1, c2, f0, f1, f2⟩ := three_cells HG1.out; clear hb1)
        exact got_ret rfl (by first | exact HG1.out | exact three_set2 (three_set1 (three_set0 HG1.out _) _) _) rfl rfl ⟨rfl, by first | exact HB1.out | exact ((HB1.out.setCell (by simp) _).setCell (by simp) _).setCell (by simp) _⟩
      · have h0' : 0 ≤ a := by omega
        have h1' : a < 16384 := by omega
        rw [gotV_yes (ofB_iff.2 ⟨hg, h0', h1'⟩)]
        obtain ⟨r1, r2, _⟩ := of_range (n := L.length) ⟨by omega, by omega⟩ ⟨h0', h1'⟩
        have e1 : IntKind.i64.wrap (a.tmod (L.length : Int)) = a % (L.length : Int) := by rw [Int.tmod_eq_emod_of_nonneg h0']; exact IntWalk.i64_in _ (by omega)
        have e2 : IntKind.i64.wrap (a.tdiv (L.length : Int)) = a / (L.length : Int) := by rw [Int.tdiv_eq_ediv_of_nonneg h0']; exact IntWalk.i64_in _ (by omega)
        have nz : ¬ (L.length : Int) = 0 := by omega
        clear hg h0 h1 r1 r2
        go_enter Try.func12, Try.ntmps12
        go_wp2_with (go_at_call 23; refine CG.out.mono ?_; rintro e w1 ⟨rfl, hb1⟩; have HB1 := Lib.hid (HB0.out.trans (hb1.mono HB0.out.size)); have HG1 := Lib.hid (below_heap hb1 HG.out); obtain ⟨c0, c1, c2, f0, f1, f2⟩ := three_cells HG1.out; obtain ⟨b0, b1⟩ := (HP.out.below hb1).cells; clear hb1)
        go_region
        go_wp2_with fail
        exact got_ret rfl (three_set2 (three_set1 (three_set0 HG1.out _) _) _) rfl rfl ⟨rfl, (((HB1.out.setCell (by simp) _).setCell (by simp) _).setCell (by simp) _).drew⟩
  · have hg' : goodB ep L = false := Bool.eq_false_iff.2 hg
    rw [gotV_no (Bool.eq_false_iff.2 (fun e => hg (ofB_iff.1 e).1))]
    rw [hg'] at CG
    clear hg hg'
    go_enter Try.func12, Try.ntmps12
    go_wp2_with (go_at_call 23; refine CG.out.mono ?_; rintro e w1 ⟨rfl, hb1⟩; have HB1 := Lib.hid (HB0.out.trans (hb1.mono HB0.out.size)); have HG1 := Lib.hid (below_heap hb1 HG.out); obtain ⟨c0, c1, c2, f0, f1, f2⟩ := three_cells HG1.out; clear hb1)
    exact got_ret rfl (by first | exact HG1.out | exact three_set2 (three_set1 (three_set0 HG1.out _) _) _) rfl rfl ⟨rfl, by first | exact HB1.out | exact ((HB1.out.setCell (by simp) _).setCell (by simp) _).setCell (by simp) _⟩
end Go.Proofs.Ytffiocgeijeheaa
