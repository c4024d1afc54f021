/- What the document's own Addr and Below return. Conditions: the projection lies where the call was told, and is not too large. -/
import Derived.Test.YtffiocgeijeheaaJPlcA
set_option linter.unusedVariables false
namespace Go.Proofs.Ytffiocgeijeheaa
open Go.RowKit
set_option maxRecDepth 20000
theorem addrR_no {ep : Int} {L : List (List Int)} {c p : Int} (h : ¬ (goodB ep L = true ∧ (0 ≤ c ∧ c < L.length) ∧ (0 ≤ p ∧ p < 16384) ∧ p * L.length + c < 16384)) : addrR ep L c p = -1 := if_neg h
theorem mul_small {p n : Int} (hp : 0 ≤ p ∧ p < 16384) (hn : 1 ≤ n ∧ n ≤ 4) : 0 ≤ p * n ∧ p * n ≤ 65536 := by
  rcases len_cases hn with rfl | rfl | rfl | rfl <;> omega
set_option maxHeartbeats 4000000 in
theorem refAddr_any (ep : Int) (ao : Option Addr) (cap : Nat) (L : List (List Int)) (c p : Int) (w : World) (h : CL w ao L) (hl : L.length ≤ 255 ∧ ∀ c ∈ L, c.length ≤ 255) :
    Calls Try.prog 14 #[.agg #[.int .i64 ep, .slice ao L.length cap], .agg #[.int .i64 c, .int .i64 p]] w fun e w' => e = .returned (.int .i64 (addrR ep L c p)) ∧ Below w.heap.size w w' := by
  have HB0 := Lib.hid (((Below.refl w.heap.size w).alloc (Nat.le_refl _) (.cells #[.int .i64 ep, .slice ao L.length cap] 24)).alloc (by simp) (.cells #[.int .i64 c, .int .i64 p] 26))
  have HC := Lib.hid (h.below HB0.out)
  have HX := Lib.hid (show (((w.alloc (.cells #[.int .i64 ep, .slice ao L.length cap] 24)).alloc (.cells #[.int .i64 c, .int .i64 p] 26))).heap[w.heap.size + 1]? = some (.cells #[.int .i64 c, .int .i64 p] 26 (0, 0)) from by
    have h := heap_alloc_new (w.alloc (.cells #[.int .i64 ep, .slice ao L.length cap] 24)) (.cells #[.int .i64 c, .int .i64 p] 26)
    simpa using h)
  have CG := Lib.hid (rgood_any ep ao cap L _ HC.out hl)
  have hl' : (L.length : Int) ≤ 255 := by have := hl.1; omega
  clear h hl
  have HNO := Lib.hid (@addrR_no ep L c p)
  by_cases hg : goodB ep L = true
  · rw [hg] at CG
    obtain ⟨n1, n4⟩ := good_len hg
    by_cases h0 : c < 0
    · rw [HNO.out (by omega)]
      clear hg
      go_enter Try.func14, Try.ntmps14
      go_wp2_with (go_at_call 23; refine CG.out.mono ?_; rintro e w1 ⟨rfl, hb1⟩; have HB1 := Lib.hid (HB0.out.trans (hb1.mono HB0.out.size)); obtain ⟨c0, c1, f0, f1⟩ := two_cells (below_heap hb1 HX.out); clear hb1)
      go_ret
      exact ⟨rfl, HB1.out⟩
    by_cases h1 : (L.length : Int) ≤ c
    · rw [HNO.out (by omega)]
      have h0' : 0 ≤ c := by omega
      clear hg h0
      go_enter Try.func14, Try.ntmps14
      go_wp2_with (go_at_call 23; refine CG.out.mono ?_; rintro e w1 ⟨rfl, hb1⟩; have HB1 := Lib.hid (HB0.out.trans (hb1.mono HB0.out.size)); obtain ⟨c0, c1, f0, f1⟩ := two_cells (below_heap hb1 HX.out); clear hb1)
      go_ret
      exact ⟨rfl, HB1.out⟩
    by_cases h2 : p < 0
    · rw [HNO.out (by omega)]
      have h0' : 0 ≤ c := by omega
      have h1' : c < (L.length : Int) := by omega
      clear hg h0 h1
      go_enter Try.func14, Try.ntmps14
      go_wp2_with (go_at_call 23; refine CG.out.mono ?_; rintro e w1 ⟨rfl, hb1⟩; have HB1 := Lib.hid (HB0.out.trans (hb1.mono HB0.out.size)); obtain ⟨c0, c1, f0, f1⟩ := two_cells (below_heap hb1 HX.out); clear hb1)
      go_ret
      exact ⟨rfl, HB1.out⟩
    by_cases h3 : 16384 ≤ p
    · rw [HNO.out (by omega)]
      have h0' : 0 ≤ c := by omega
      have h1' : c < (L.length : Int) := by omega
      have h2' : 0 ≤ p := by omega
      clear hg h0 h1 h2
      go_enter Try.func14, Try.ntmps14
      go_wp2_with (go_at_call 23; refine CG.out.mono ?_; rintro e w1 ⟨rfl, hb1⟩; have HB1 := Lib.hid (HB0.out.trans (hb1.mono HB0.out.size)); obtain ⟨c0, c1, f0, f1⟩ := two_cells (below_heap hb1 HX.out); clear hb1)
      go_ret
      exact ⟨rfl, HB1.out⟩
    have h0' : 0 ≤ c := by omega
    have h1' : c < (L.length : Int) := by omega
    have h2' : 0 ≤ p := by omega
    have h3' : p < 16384 := by omega
    have mb := mul_small (n := L.length) ⟨h2', h3'⟩ ⟨by omega, by omega⟩
    by_cases h4 : p * (L.length : Int) + c < 16384
    · have HR := Lib.hid (show addrR ep L c p = p * (L.length : Int) + c from if_pos ⟨hg, ⟨h0', h1'⟩, ⟨h2', h3'⟩, h4⟩)
      clear hg h0 h1 h2 h3
      generalize hq : p * (L.length : Int) = q at *
      go_enter Try.func14, Try.ntmps14
      go_wp2_with (go_at_call 23; refine CG.out.mono ?_; rintro e w1 ⟨rfl, hb1⟩; have HB1 := Lib.hid (HB0.out.trans (hb1.mono HB0.out.size)); obtain ⟨c0, c1, f0, f1⟩ := two_cells (below_heap hb1 HX.out); clear hb1)
      go_ret
      rw [HR.out]
      exact ⟨rfl, HB1.out⟩
    · rw [HNO.out (by omega)]
      have h4' : 16384 ≤ p * (L.length : Int) + c := by omega
      clear hg h0 h1 h2 h3 h4
      generalize hq : p * (L.length : Int) = q at *
      go_enter Try.func14, Try.ntmps14
      go_wp2_with (go_at_call 23; refine CG.out.mono ?_; rintro e w1 ⟨rfl, hb1⟩; have HB1 := Lib.hid (HB0.out.trans (hb1.mono HB0.out.size)); obtain ⟨c0, c1, f0, f1⟩ := two_cells (below_heap hb1 HX.out); clear hb1)
      go_ret
      exact ⟨rfl, HB1.out⟩
  · rw [HNO.out (fun e => hg e.1)]
    rw [Bool.eq_false_iff.2 hg] at CG
    clear hg
    go_enter Try.func14, Try.ntmps14
    go_wp2_with (go_at_call 23; refine CG.out.mono ?_; rintro e w1 ⟨rfl, hb1⟩; have HB1 := Lib.hid (HB0.out.trans (hb1.mono HB0.out.size)); obtain ⟨c0, c1, f0, f1⟩ := two_cells (below_heap hb1 HX.out); clear hb1)
    go_ret
    exact ⟨rfl, HB1.out⟩
theorem clamp_eq (a : Int) : ∃ m1 m2 : Int, (if (16384 : Int) < a then (16384 : Int) else a) = m1 ∧ (if (0 : Int) < m1 then m1 else (0 : Int)) = m2 ∧ m2 = clampA a ∧ 0 ≤ m2 ∧ m2 ≤ 16384 := by
  refine ⟨_, _, rfl, rfl, ?_, ?_, ?_⟩
  · unfold clampA
    split <;> split <;> omega
  · split <;> split <;> omega
  · split <;> split <;> omega
set_option maxHeartbeats 4000000 in
theorem refBelow_any (ep : Int) (ao : Option Addr) (cap : Nat) (L : List (List Int)) (a c : Int) (w : World) (h : CL w ao L) (hl : L.length ≤ 255 ∧ ∀ c ∈ L, c.length ≤ 255) :
    Calls Try.prog 22 #[.agg #[.int .i64 ep, .slice ao L.length cap], .int .i64 a, .int .i64 c] w fun e w' => e = .returned (.int .i64 (belowR ep L a c)) ∧ Below w.heap.size w w' := by
  have HB0 := Lib.hid ((Below.refl w.heap.size w).alloc (Nat.le_refl _) (.cells #[.int .i64 ep, .slice ao L.length cap] 24))
  have HC := Lib.hid (h.below HB0.out)
  have HP := Lib.hid (show PB (w.alloc (.cells #[.int .i64 ep, .slice ao L.length cap] 24)) w.heap.size ep ao L.length cap from heap_alloc_new _ _)
  have CG := Lib.hid (rgood_any ep ao cap L _ HC.out hl)
  have hl' : (L.length : Int) ≤ 255 := by have := hl.1; omega
  clear h hl
  by_cases hg : goodB ep L = true
  · rw [hg] at CG
    obtain ⟨n1, n4⟩ := good_len hg
    by_cases h0 : c < 0
    · rw [show belowR ep L a c = 0 from if_neg (by omega)]
      clear hg
      go_enter Try.func22, Try.ntmps22
      go_wp2_with (go_at_call 23; refine CG.out.mono ?_; rintro e w1 ⟨rfl, hb1⟩; have HB1 := Lib.hid (HB0.out.trans (hb1.mono HB0.out.size)); obtain ⟨c0, c1⟩ := (HP.out.below hb1).cells; clear hb1)
      go_ret
      exact ⟨rfl, HB1.out⟩
    by_cases h1 : (L.length : Int) ≤ c
    · rw [show belowR ep L a c = 0 from if_neg (by omega)]
      have h0' : 0 ≤ c := by omega
      clear hg h0
      go_enter Try.func22, Try.ntmps22
      go_wp2_with (go_at_call 23; refine CG.out.mono ?_; rintro e w1 ⟨rfl, hb1⟩; have HB1 := Lib.hid (HB0.out.trans (hb1.mono HB0.out.size)); obtain ⟨c0, c1⟩ := (HP.out.below hb1).cells; clear hb1)
      go_ret
      exact ⟨rfl, HB1.out⟩
    have h0' : 0 ≤ c := by omega
    have h1' : c < (L.length : Int) := by omega
    rw [show belowR ep L a c = cntB (clampA a) c L.length from if_pos ⟨hg, h0', h1'⟩]
    obtain ⟨m1, m2, q1, q2, q3, q4, q5⟩ := clamp_eq a
    rw [← q3]
    have HN := Lib.hid (show (1 : Int) ≤ L.length ∧ (L.length : Int) ≤ 4 from ⟨by omega, by omega⟩)
    have HR := Lib.hid (cntB_range (a := m2) HN.out h0' ⟨q4, q5⟩)
    have HS := Lib.hid (fun k => cntB_step (a := m2) (c := c) (n := L.length) (k := k) HN.out)
    clear hg h0 h1 q3
    generalize cntB m2 c L.length = R at *
    obtain ⟨r1, r2⟩ := HR.out
    go_enter Try.func22, Try.ntmps22
    go_wp2_with (go_at_call 23; refine CG.out.mono ?_; rintro e w1 ⟨rfl, hb1⟩; have HB1 := Lib.hid (HB0.out.trans (hb1.mono HB0.out.size)); obtain ⟨c0, c1⟩ := (HP.out.below hb1).cells; clear hb1)
    go_loop [7, 8] (fun n x => ∃ (k : Nat) (y : Int), n = .int .i64 k ∧ x = .int .i64 y ∧ (k : Int) ≤ R ∧ y ≤ 16388 ∧ 0 ≤ y ∧ Hid (y = c + k * L.length)) (fun n _ => R.toNat - (intOf n).toNat)
    case atStart => exact ⟨0, c, rfl, rfl, by omega, by omega, by omega, Lib.hid (by simp)⟩
    case round =>
      obtain ⟨k, y, rfl, rfl, hk, hy, hy0, HY⟩ := hrel
      by_cases hlt : y < m2
      · have hk2 : (k : Int) < R := (HS.out k).1 (HY.out ▸ hlt)
        have HY2 := Lib.hid (show y + (L.length : Int) = c + ((k + 1 : Nat) : Int) * L.length from by rw [HY.out]; push_cast; rw [Int.add_mul]; omega)
        go_wp2_with fail
        go_round
        case rel => exact ⟨k + 1, y + L.length, by go_num, by go_num, by omega, by omega, by omega, HY2⟩
        case measure => simp [intOf]; omega
      · have hk2 : (k : Int) = R := by
          have h6 : ¬ (k : Int) < R := fun h => hlt (by rw [HY.out]; exact (HS.out k).2 h)
          omega
        have hlt' : m2 ≤ y := by omega
        go_wp2_with fail
        go_ret
        exact ⟨rfl, HB1.out⟩
  · rw [show belowR ep L a c = 0 from if_neg (fun e => hg e.1)]
    rw [Bool.eq_false_iff.2 hg] at CG
    clear hg
    go_enter Try.func22, Try.ntmps22
    go_wp2_with (go_at_call 23; refine CG.out.mono ?_; rintro e w1 ⟨rfl, hb1⟩; have HB1 := Lib.hid (HB0.out.trans (hb1.mono HB0.out.size)); obtain ⟨c0, c1⟩ := (HP.out.below hb1).cells; clear hb1)
    go_ret
    exact ⟨rfl, HB1.out⟩
end Go.Proofs.Ytffiocgeijeheaa
