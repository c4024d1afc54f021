/- What the program's own Below and Addr return. Conditions: the projection lies where the call was told, and is not too large. -/
import Derived.Test.YtffiocgeijeheaaJPlpA
import Derived.Test.YtffiocgeijeheaaJPlcO
set_option linter.unusedVariables false
namespace Go.Proofs.Ytffiocgeijeheaa
open Go.RowKit
set_option maxRecDepth 20000
theorem clamp_max (a : Int) : ∃ m1 m2 : Int, (if a < (0 : Int) then (0 : Int) else a) = m1 ∧ (if (16384 : Int) < m1 then (16384 : Int) else m1) = m2 ∧ m2 = clampA a ∧ 0 ≤ m2 ∧ m2 ≤ 16384 := by
  refine ⟨_, _, rfl, rfl, ?_, ?_, ?_⟩
  · unfold clampA
    split <;> split <;> omega
  · split <;> split <;> omega
  · split <;> split <;> omega
theorem cnt_eq {m c n : Int} (hn : 1 ≤ n ∧ n ≤ 4) (hc : 0 ≤ c ∧ c < n) (hm : 0 ≤ m) : (m + n - 1 - c) / n = cntB m c n := by
  unfold cntB
  rcases len_cases hn with rfl | rfl | rfl | rfl <;> split <;> omega
set_option maxHeartbeats 4000000 in
theorem pBelow_any (ep : Int) (ao : Option Addr) (cap : Nat) (L : List (List Int)) (a c : Int) (w : World) (h : CL w ao L) (hl : L.length ≤ 255 ∧ ∀ c ∈ L, c.length ≤ 255) :
    Calls Try.prog 21 #[.agg #[.int .i64 ep, .slice ao L.length cap], .int .i64 a, .int .i64 c] w fun e w' => e = .returned (.int .i64 (belowR ep L a c)) ∧ Below w.heap.size w w' := by
  have HB0 := Lib.hid ((Below.refl w.heap.size w).alloc (Nat.le_refl _) (.cells #[.int .i64 ep, .slice ao L.length cap] 24))
  have HC := Lib.hid (h.below HB0.out)
  have HP := Lib.hid (show PB (w.alloc (.cells #[.int .i64 ep, .slice ao L.length cap] 24)) w.heap.size ep ao L.length cap from heap_alloc_new _ _)
  have CG := Lib.hid (pgood_any ep ao cap L _ HC.out hl)
  have hl' : (L.length : Int) ≤ 255 := by have := hl.1; omega
  clear h hl
  by_cases hg : goodB ep L = true
  · rw [hg] at CG
    obtain ⟨n1, n4⟩ := good_len hg
    by_cases h0 : c < 0
    · rw [show belowR ep L a c = 0 from if_neg (by omega)]
      clear hg
      go_enter Try.func21, Try.ntmps21
      go_wp2_with (go_at_call 25; refine CG.out.mono ?_; rintro e w1 ⟨rfl, hb1⟩; have HB1 := Lib.hid (HB0.out.trans (hb1.mono HB0.out.size)); obtain ⟨c0, c1⟩ := (HP.out.below hb1).cells; clear hb1)
      go_ret
      exact ⟨rfl, HB1.out⟩
    by_cases h1 : (L.length : Int) ≤ c
    · rw [show belowR ep L a c = 0 from if_neg (by omega)]
      have h0' : 0 ≤ c := by omega
      clear hg h0
      go_enter Try.func21, Try.ntmps21
      go_wp2_with (go_at_call 25; refine CG.out.mono ?_; rintro e w1 ⟨rfl, hb1⟩; have HB1 := Lib.hid (HB0.out.trans (hb1.mono HB0.out.size)); obtain ⟨c0, c1⟩ := (HP.out.below hb1).cells; clear hb1)
      go_ret
      exact ⟨rfl, HB1.out⟩
    have h0' : 0 ≤ c := by omega
    have h1' : c < (L.length : Int) := by omega
    rw [show belowR ep L a c = cntB (clampA a) c L.length from if_pos ⟨hg, h0', h1'⟩]
    obtain ⟨m1, m2, q1, q2, q3, q4, q5⟩ := clamp_max a
    rw [← q3]
    have HN := (show (1 : Int) ≤ L.length ∧ (L.length : Int) ≤ 4 from ⟨by omega, by omega⟩)
    have HR := cntB_range (a := m2) HN h0' ⟨q4, q5⟩
    have e1 := cnt_eq HN ⟨h0', h1'⟩ q4
    have e2 : IntKind.i64.wrap ((m2 + (L.length : Int) - 1 - c).tdiv (L.length : Int)) = cntB m2 c L.length := by
      rw [Int.tdiv_eq_ediv_of_nonneg (by omega), e1]; exact IntWalk.i64_in _ (by omega)
    have nz : ¬ (L.length : Int) = 0 := by omega
    clear hg h0 h1 q3 HR e1 HN
    generalize cntB m2 c L.length = R at *
    go_enter Try.func21, Try.ntmps21
    go_wp2_with (go_at_call 25; refine CG.out.mono ?_; rintro e w1 ⟨rfl, hb1⟩; have HB1 := Lib.hid (HB0.out.trans (hb1.mono HB0.out.size)); obtain ⟨c0, c1⟩ := (HP.out.below hb1).cells; clear hb1)
    go_ret
    exact ⟨rfl, HB1.out⟩
  · rw [show belowR ep L a c = 0 from if_neg (fun e => hg e.1)]
    rw [Bool.eq_false_iff.2 hg] at CG
    clear hg
    go_enter Try.func21, Try.ntmps21
    go_wp2_with (go_at_call 25; refine CG.out.mono ?_; rintro e w1 ⟨rfl, hb1⟩; have HB1 := Lib.hid (HB0.out.trans (hb1.mono HB0.out.size)); obtain ⟨c0, c1⟩ := (HP.out.below hb1).cells; clear hb1)
    go_ret
    exact ⟨rfl, HB1.out⟩
theorem addrV_no {ep : Int} {L : List (List Int)} {c p : Int} (h : p < 0 ∨ belowR ep L 16384 c ≤ p) : addrV ep L c p = .tuple #[.int .i64 0, .bool false] := by
  have : addrR ep L c p = -1 := by
    refine addrR_no (fun e => ?_)
    obtain ⟨h1, h2, h3, h4⟩ := e
    obtain ⟨n1, n4⟩ := good_len h1
    rcases h with h | h
    · omega
    · rw [show belowR ep L 16384 c = cntB (clampA 16384) c L.length from if_pos ⟨h1, h2⟩, show clampA 16384 = 16384 from rfl] at h
      have h5 := (cntB_step (a := 16384) (c := c) (n := L.length) (k := p.toNat) ⟨by omega, by omega⟩).1 (by rw [Int.toNat_of_nonneg h3.1]; omega)
      omega
  unfold addrV
  rw [this]
  rfl
theorem addrV_yes {ep : Int} {L : List (List Int)} {c p : Int} (h0 : 0 ≤ p) (h : p < belowR ep L 16384 c) : addrV ep L c p = .tuple #[.int .i64 (p * L.length + c), .bool true] ∧ (0 ≤ p * (L.length : Int) ∧ p * (L.length : Int) ≤ 65536) ∧ (0 ≤ c ∧ c < 4) := by
  unfold belowR at h
  split at h
  · next hg =>
    obtain ⟨h1, h2⟩ := hg
    obtain ⟨n1, n4⟩ := good_len h1
    rw [show clampA 16384 = 16384 from rfl] at h
    have h5 := (cntB_step (a := 16384) (c := c) (n := L.length) (k := p.toNat) ⟨by omega, by omega⟩).2 (by omega)
    rw [Int.toNat_of_nonneg h0] at h5
    have h6 := (cntB_range (a := 16384) (c := c) (n := L.length) ⟨by omega, by omega⟩ h2.1 ⟨by omega, by omega⟩).2
    have h7 : p < 16384 := by
      rcases len_cases (n := L.length) ⟨by omega, by omega⟩ with e | e | e | e <;> rw [e] at h5 <;> omega
    have h8 := mul_small (n := L.length) ⟨h0, h7⟩ ⟨by omega, by omega⟩
    have : addrR ep L c p = p * L.length + c := if_pos ⟨h1, h2, ⟨h0, h7⟩, by omega⟩
    refine ⟨?_, h8, by omega⟩
    unfold addrV
    rw [this, decide_eq_true (by omega), show max (p * (L.length : Int) + c) 0 = p * (L.length : Int) + c by omega]
  · omega
set_option maxHeartbeats 8000000 in
theorem pAddr_any (ep : Int) (ao : Option Addr) (cap : Nat) (L : List (List Int)) (c p : Int) (w : World) (h : CL w ao L) (hl : L.length ≤ 255 ∧ ∀ c ∈ L, c.length ≤ 255) :
    Calls Try.prog 13 #[.agg #[.int .i64 ep, .slice ao L.length cap], .agg #[.int .i64 c, .int .i64 p]] w fun e w' => e = .returned (addrV ep L c p) ∧ Below w.heap.size w w' := by
  have HB0 := Lib.hid (((Below.refl w.heap.size w).alloc (Nat.le_refl _) (.cells #[.int .i64 ep, .slice ao L.length cap] 24)).alloc (by simp) (.cells #[.int .i64 c, .int .i64 p] 26))
  have HC := Lib.hid (h.below HB0.out)
  have HP := Lib.hid (show PB (((w.alloc (.cells #[.int .i64 ep, .slice ao L.length cap] 24)).alloc (.cells #[.int .i64 c, .int .i64 p] 26))) w.heap.size ep ao L.length cap from PB.below (heap_alloc_new _ _) ((Below.refl _ _).alloc (Nat.le_refl _) _))
  have HX := Lib.hid (show XB (((w.alloc (.cells #[.int .i64 ep, .slice ao L.length cap] 24)).alloc (.cells #[.int .i64 c, .int .i64 p] 26))) (w.heap.size + 1) c p from by
    have h := heap_alloc_new (w.alloc (.cells #[.int .i64 ep, .slice ao L.length cap] 24)) (.cells #[.int .i64 c, .int .i64 p] 26)
    unfold XB
    simpa using h)
  have HM := Lib.hid hl
  have hl' : (L.length : Int) ≤ 255 := by have := hl.1; omega
  clear h hl
  obtain ⟨W0, hW0⟩ : ∃ W0, W0 = ((w.alloc (.cells #[.int .i64 ep, .slice ao L.length cap] 24)).alloc (.cells #[.int .i64 c, .int .i64 p] 26)) := ⟨_, rfl⟩
  rw [← hW0] at HB0 HC HP HX
  have CW := Lib.hid (fun (W : World) (h : Below W0.heap.size W0 W) => pBelow_any ep ao cap L 16384 c W (HC.out.below h) HM.out)
  by_cases h0 : p < 0
  · rw [addrV_no (.inl h0)]
    obtain ⟨x0, x1⟩ := HX.out.cells
    rw [hW0] at x0 x1
    go_enter Try.func13, Try.ntmps13
    go_wp2_with fail
    go_quiet (fail)
    go_wp2_with fail
    go_ret2
    rw [← hW0]
    exact ⟨rfl, below_drewN HB0.out _⟩
  have h0' : 0 ≤ p := by omega
  have hd0 : decide (p < 0) = false := decide_eq_false h0
  by_cases h1 : belowR ep L 16384 c ≤ p
  · rw [addrV_no (.inr h1)]
    clear h0
    generalize belowR ep L 16384 c = R at *
    go_enter Try.func13, Try.ntmps13
    go_wp2_with fail
    rw [← hW0]
    clear hW0
    go_region_held3 (fun W => W.cell? ⟨w.heap.size, 0, none⟩ = some (.int .i64 ep) ∧ W.cell? ⟨w.heap.size, 1, none⟩ = some (.slice ao L.length cap) ∧ W.cell? ⟨w.heap.size + 1, 0, none⟩ = some (.int .i64 c) ∧ W.cell? ⟨w.heap.size + 1, 1, none⟩ = some (.int .i64 p) ∧ Below W0.heap.size W0 W ∧ W0.heap.size ≤ W.heap.size)
      (first | exact two_start HP.out HX.out | exact two_keep hb7 (by assumption))
      (first
        | (go_at_call 21; refine (CW.out _ (two_below (by assumption))).mono ?_; rintro e w7 ⟨rfl, hb7⟩))
    all_goals
      go_wp2_with fail
      go_ret2
      rename_i hS
      exact ⟨rfl, HB0.out.trans (hS.2.2.2.2.1.mono HB0.out.size)⟩
  have h1' : p < belowR ep L 16384 c := by omega
  obtain ⟨HV, mb, cb⟩ := addrV_yes h0' h1'
  rw [HV]
  clear h0 h1 HV
  generalize belowR ep L 16384 c = R at *
  have ME := Lib.hid mb
  go_enter Try.func13, Try.ntmps13
  go_wp2_with fail
  rw [← hW0]
  clear hW0
  generalize hq : p * (L.length : Int) = q at *
  go_region_held3 (fun W => W.cell? ⟨w.heap.size, 0, none⟩ = some (.int .i64 ep) ∧ W.cell? ⟨w.heap.size, 1, none⟩ = some (.slice ao L.length cap) ∧ W.cell? ⟨w.heap.size + 1, 0, none⟩ = some (.int .i64 c) ∧ W.cell? ⟨w.heap.size + 1, 1, none⟩ = some (.int .i64 p) ∧ Below W0.heap.size W0 W ∧ W0.heap.size ≤ W.heap.size)
    (first | exact two_start HP.out HX.out | exact two_keep hb7 (by assumption))
    (first
      | (go_at_call 21; refine (CW.out _ (two_below (by assumption))).mono ?_; rintro e w7 ⟨rfl, hb7⟩))
  all_goals
    rename_i hS
    obtain ⟨s0, s1, s2, s3, s4, s5⟩ := hS
    go_wp2_with fail
    go_ret2
    exact ⟨by rw [hq]; rfl, HB0.out.trans (s4.mono HB0.out.size)⟩
end Go.Proofs.Ytffiocgeijeheaa
