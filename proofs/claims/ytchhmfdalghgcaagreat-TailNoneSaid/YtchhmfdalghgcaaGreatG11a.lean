/- What the document's own Good returns. Conditions: the projection lies where the call was told, and is not too large. -/
import Derived.Test.YtchhmfdalghgcaaGreatG10a
set_option linter.unusedVariables false
namespace Go.Proofs.YtchhmfdalghgcaaGreat
set_option linter.unusedVariables false
open Go.RowKit
set_option maxRecDepth 20000

theorem goodB_ep {ep : Int} {L : List (List Int)} (h : ep < 0 ∨ 2147483647 < ep) : goodB ep L = false := by
  rw [Bool.eq_false_iff]; intro e; have := (goodB_iff.1 e).1; omega
theorem goodB_len {ep : Int} {L : List (List Int)} (h : L.length < 1 ∨ 4 < L.length) : goodB ep L = false := by
  rw [Bool.eq_false_iff]; intro e; have := (goodB_iff.1 e).2.1; omega
theorem goodB_chain {ep : Int} {L : List (List Int)} {k : Nat} (hk : k < L.length) (h : L[k].length < 1 ∨ 4 < L[k].length) : goodB ep L = false := by
  rw [Bool.eq_false_iff]; intro e
  have := (chainB_iff.1 ((goodB_iff.1 e).2.2.1 _ (List.getElem_mem hk))).1
  omega
theorem goodB_unit {ep : Int} {L : List (List Int)} {k j : Nat} (hk : k < L.length) (hj : j < L[k].length) (h : L[k][j] < 0 ∨ 15 < L[k][j]) : goodB ep L = false := by
  rw [Bool.eq_false_iff]; intro e
  have := (chainB_iff.1 ((goodB_iff.1 e).2.2.1 _ (List.getElem_mem hk))).2 _ (List.getElem_mem hj)
  omega
theorem goodB_end {ep : Int} {L : List (List Int)} (h0 : 0 ≤ ep ∧ ep ≤ 2147483647) (h1 : 1 ≤ L.length ∧ L.length ≤ 4) (h : ∀ c ∈ L.take L.length, chainB c = true) : goodB ep L = decide ((unitsR L).length = (L.take L.length).flatten.length) := by
  rw [List.take_of_length_le (Nat.le_refl _)] at *
  rw [Bool.eq_iff_iff, goodB_iff, decide_eq_true_eq, unitsR_length]
  exact ⟨fun e => e.2.2.2, fun e => ⟨h0, h1, h, e⟩⟩
theorem flat_succ {L : List (List Int)} {k : Nat} (hk : k < L.length) : (L.take (k + 1)).flatten.length = (L.take k).flatten.length + L[k].length := by
  rw [List.take_succ_eq_append_getElem hk, List.flatten_append, List.length_append]
  simp
theorem flat_four {L : List (List Int)} {k : Nat} (hl : L.length ≤ 4) (h : ∀ c ∈ L.take k, chainB c = true) : (L.take k).flatten.length ≤ 16 := by
  have h1 := flat_le (L.take k) 4 (fun c hc => (chainB_iff.1 (h c hc)).1.2)
  have h2 : (L.take k).length ≤ 4 := by rw [List.length_take]; omega
  omega
set_option maxHeartbeats 4000000 in
theorem rgood_any (ep : Int) (ao : Option Addr) (cap : Nat) (L : List (List Int)) (w : World) (h : CL w ao L) (hl : L.length ≤ 255 ∧ ∀ c ∈ L, c.length ≤ 255) :
    Calls Tryz.prog 24 #[.agg #[.int .i64 ep, .slice ao L.length cap]] w fun e w' => e = .returned (.bool (goodB ep L)) ∧ Below w.heap.size w w' := by
  have HB0 := Lib.hid ((Below.refl w.heap.size w).alloc (Nat.le_refl _) (.cells #[.int .i64 ep, .slice ao L.length cap] 29))
  have HC := Lib.hid (h.below HB0.out)
  have hl' : (L.length : Int) ≤ 255 := by omega
  have HM := Lib.hid hl
  clear h hl
  by_cases he : ep < 0 ∨ 2147483647 < ep
  · rw [goodB_ep he]
    by_cases h0 : ep < 0
    · clear he
      go_enter Tryz.func24, Tryz.ntmps24
      go_wp2_with fail
      go_ret
      exact ⟨rfl, HB0.out⟩
    · have h1 : 2147483647 < ep := by omega
      clear he
      go_enter Tryz.func24, Tryz.ntmps24
      go_wp2_with fail
      go_ret
      exact ⟨rfl, HB0.out⟩
  have e0 : 0 ≤ ep := by omega
  have e1 : ep ≤ 2147483647 := by omega
  clear he
  by_cases hn : L.length < 1 ∨ 4 < L.length
  · rw [goodB_len hn]
    by_cases h0 : L.length < 1
    · have h2 : (L.length : Int) < 1 := by omega
      clear hn
      go_enter Tryz.func24, Tryz.ntmps24
      go_wp2_with fail
      go_ret
      exact ⟨rfl, HB0.out⟩
    · have h1 : (4 : Int) < (L.length : Int) := by omega
      have h2 : (1 : Int) ≤ (L.length : Int) := by omega
      clear hn
      go_enter Tryz.func24, Tryz.ntmps24
      go_wp2_with fail
      go_ret
      exact ⟨rfl, HB0.out⟩
  have n1 : (1 : Int) ≤ (L.length : Int) := by omega
  have n4 : (L.length : Int) ≤ 4 := by omega
  have HN4 := Lib.hid (show L.length ≤ 4 by omega)
  have HE := Lib.hid (@goodB_end ep L ⟨e0, e1⟩ (by omega))
  have HCH := Lib.hid (fun k hk => @goodB_chain ep L k hk)
  have HU := Lib.hid (fun k j hk hj => @goodB_unit ep L k j hk hj)
  clear hn hl'
  generalize goodB ep L = R at *
  go_enter Tryz.func24, Tryz.ntmps24
  go_wp2_with fail
  go_loop [3, 4] (fun s i => ∃ n m : Nat, i = .int .i64 n ∧ s = .int .i64 m ∧ n ≤ L.length ∧ m ≤ 16 ∧ Hid (m = (L.take n).flatten.length ∧ ∀ c ∈ L.take n, chainB c = true)) (fun _ i => L.length - (intOf i).toNat)
  case atStart => exact ⟨0, 0, rfl, rfl, Nat.zero_le _, Nat.zero_le _, Lib.hid ⟨rfl, by simp⟩⟩
  case round =>
    obtain ⟨n, m, rfl, rfl, hn, hm, HA⟩ := hrel
    by_cases hlt : n < L.length
    · obtain ⟨bk, off, ai, ci, hao, c0, hN⟩ := HC.out n hlt
      subst hao
      have k0 : (n : Int) < (L.length : Int) := by omega
      by_cases hc : L[n].length < 1 ∨ 4 < L[n].length
      · have HX := Lib.hid (HCH.out n hlt hc)
        have m0 := HM.out.2 _ (List.getElem_mem hlt)
        by_cases h0 : L[n].length < 1
        · have h1 : (L[n].length : Int) < 1 := by omega
          clear hc
          go_wp2_with fail
          go_ret
          rw [HX.out]
          exact ⟨rfl, HB0.out⟩
        · have h1 : (4 : Int) < (L[n].length : Int) := by omega
          have h2 : (1 : Int) ≤ (L[n].length : Int) := by omega
          clear hc
          go_wp2_with fail
          go_ret
          rw [HX.out]
          exact ⟨rfl, HB0.out⟩
      · have h1 : (1 : Int) ≤ (L[n].length : Int) := by omega
        have h2 : (L[n].length : Int) ≤ 4 := by omega
        have HL := Lib.hid (show 1 ≤ L[n].length ∧ L[n].length ≤ 4 by omega)
        have HNN := Lib.hid hN
        clear hc hN
        go_wp2_with fail
        go_loop [5] (fun k => ∃ j : Nat, k = .int .i64 j ∧ j ≤ L[n].length ∧ Hid (∀ u ∈ L[n].take j, 0 ≤ u ∧ u ≤ 15)) (fun k => L[n].length - (intOf k).toNat)
        case atStart => exact ⟨0, rfl, Nat.zero_le _, Lib.hid (by simp)⟩
        case round =>
          obtain ⟨j, rfl, hj, HJ⟩ := hrel
          by_cases hjt : j < L[n].length
          · obtain ⟨b5, o5, hai, c5⟩ := HNN.out.at j hjt
            subst hai
            have k5 : (j : Int) < (L[n].length : Int) := by omega
            by_cases hu : L[n][j] < 0 ∨ 15 < L[n][j]
            · have HX := Lib.hid (HU.out n j hlt hjt hu)
              generalize L[n][j] = u at *
              by_cases h0 : u < 0
              · clear hu
                go_wp2_with fail
                go_ret
                rw [HX.out]
                exact ⟨rfl, HB0.out⟩
              · have h3 : 15 < u := by omega
                have h4 : 0 ≤ u := by omega
                clear hu
                go_wp2_with fail
                go_ret
                rw [HX.out]
                exact ⟨rfl, HB0.out⟩
            · have h3 : 0 ≤ L[n][j] := by omega
              have h4 : L[n][j] ≤ 15 := by omega
              have HJ2 := Lib.hid (all_take_succ hjt HJ.out ⟨h3, h4⟩)
              generalize L[n][j] = u at *
              clear hu
              go_wp2_with fail
              go_round
              case rel => exact ⟨j + 1, by go_num, by omega, HJ2⟩
              case measure => simp [intOf]; omega
          · obtain rfl : j = L[n].length := by omega
            have HC2 := Lib.hid (show chainB L[n] = true from chainB_iff.2 ⟨HL.out, by have := HJ.out; rwa [List.take_of_length_le (Nat.le_refl _)] at this⟩)
            have HA2 := Lib.hid (all_take_succ hlt HA.out.2 HC2.out)
            have HF := Lib.hid (show m + L[n].length = (L.take (n + 1)).flatten.length by rw [flat_succ hlt, HA.out.1])
            have h16 := flat_four HN4.out HA2.out
            rw [← HF.out] at h16
            go_wp2_with fail
            go_round
            case rel => exact ⟨n + 1, m + L[n].length, by go_num, by go_num, by omega, h16, Lib.hid ⟨HF.out, HA2.out⟩⟩
            case measure => simp [intOf]; omega
    · obtain rfl : n = L.length := by omega
      have HX := Lib.hid (HE.out HA.out.2)
      rw [← HA.out.1] at HX
      by_cases hq : (unitsR L).length = m
      · have HR := Lib.hid (show R = true from by rw [HX.out]; exact decide_eq_true hq)
        have q1 : (((unitsR L).length : Int) == (m : Int)) = true := beq_iff_eq.2 (by omega)
        have q2 : ((unitsR L).length == m) = true := beq_iff_eq.2 hq
        clear hq
        go_wp2_with (go_at_call 36; refine (refUnits_any ep ao cap L _ HC.out HM.out).mono ?_; rintro e w1 ⟨bo, cb, rfl, _, hb1⟩)
        go_ret
        rw [HR.out]
        exact ⟨rfl, HB0.out.trans (hb1.mono HB0.out.size)⟩
      · have HR := Lib.hid (show R = false from by rw [HX.out]; exact decide_eq_false hq)
        have q1 : (((unitsR L).length : Int) == (m : Int)) = false := beq_eq_false_iff_ne.2 (by omega)
        have q2 : ((unitsR L).length == m) = false := beq_eq_false_iff_ne.2 hq
        clear hq
        go_wp2_with (go_at_call 36; refine (refUnits_any ep ao cap L _ HC.out HM.out).mono ?_; rintro e w1 ⟨bo, cb, rfl, _, hb1⟩)
        go_ret
        rw [HR.out]
        exact ⟨rfl, HB0.out.trans (hb1.mono HB0.out.size)⟩
end Go.Proofs.YtchhmfdalghgcaaGreat
