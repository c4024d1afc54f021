/- What the document's own Good returns. Conditions: the projection lies where the call was told, and is not too large. What the document's own Next returns, where the two projections don't fit by themselves. Conditions: the projections lie where the call was told, and are not too large. Plain facts on projections: units that were met so far, chain by chain. No conditions. -/
import Derived.Test.YtbiihcoobknmjaaJPrjG
import Derived.Test.YtbiihcoobknmjaaGb
set_option linter.unusedVariables false
namespace Go.Proofs.Ytbiihcoobknmjaa
open Go.RowKit
set_option maxRecDepth 20000

theorem goodB_ep {ep : Int} {L : List (List Int)} (h : ep < 0 ∨ 2147483647 < ep) : goodB ep L = false := by
  rw [Bool.eq_false_iff]; intro e; have := (goodB_iff.1 e).1; omega
theorem goodB_len {ep : Int} {L : List (List Int)} (h : L.length < 1 ∨ 4 < L.length) : goodB ep L = false := by
  rw [Bool.eq_false_iff]; intro e; have := (goodB_iff.1 e).2.1; omega
theorem goodB_chain {ep : Int} {L : List (List Int)} {k : Nat} (hk : k < L.length) (h : L[k].length < 1 ∨ 4 < L[k].length) : goodB ep L = false := by
  rw [Bool.eq_false_iff]; intro e
  have := (chainB_iff.1 ((goodB_iff.1 e).2.2.1 _ (List.getElem_mem hk))).1
  omega
theorem goodB_unit {ep : Int} {L : List (List Int)} {k j : Nat} (hk : k < L.length) (hj : j < L[k].length) (h : L[k][j] < 0 ∨ 15 < L[k][j]) : goodB ep L = false := by
  rw [Bool.eq_false_iff]; intro e
  have := (chainB_iff.1 ((goodB_iff.1 e).2.2.1 _ (List.getElem_mem hk))).2 _ (List.getElem_mem hj)
  omega
theorem goodB_end {ep : Int} {L : List (List Int)} (h0 : 0 ≤ ep ∧ ep ≤ 2147483647) (h1 : 1 ≤ L.length ∧ L.length ≤ 4) (h : ∀ c ∈ L.take L.length, chainB c = true) : goodB ep L = decide ((unitsR L).length = (L.take L.length).flatten.length) := by
  rw [List.take_of_length_le (Nat.le_refl _)] at *
  rw [Bool.eq_iff_iff, goodB_iff, decide_eq_true_eq, unitsR_length]
  exact ⟨fun e => e.2.2.2, fun e => ⟨h0, h1, h, e⟩⟩
theorem flat_succ {L : List (List Int)} {k : Nat} (hk : k < L.length) : (L.take (k + 1)).flatten.length = (L.take k).flatten.length + L[k].length := by
  rw [List.take_succ_eq_append_getElem hk, List.flatten_append, List.length_append]
  simp
theorem flat_four {L : List (List Int)} {k : Nat} (hl : L.length ≤ 4) (h : ∀ c ∈ L.take k, chainB c = true) : (L.take k).flatten.length ≤ 16 := by
  have h1 := flat_le (L.take k) 4 (fun c hc => (chainB_iff.1 (h c hc)).1.2)
  have h2 : (L.take k).length ≤ 4 := by rw [List.length_take]; omega
  omega
set_option maxHeartbeats 4000000 in
theorem rgood_any (ep : Int) (ao : Option Addr) (cap : Nat) (L : List (List Int)) (w : World) (h : CL w ao L) (hl : L.length ≤ 255 ∧ ∀ c ∈ L, c.length ≤ 255) :
    Calls Try.prog 13 #[.agg #[.int .i64 ep, .slice ao L.length cap]] w fun e w' => e = .returned (.bool (goodB ep L)) ∧ Below w.heap.size w w' := by
  have HB0 := Lib.hid ((Below.refl w.heap.size w).alloc (Nat.le_refl _) (.cells #[.int .i64 ep, .slice ao L.length cap] 24))
  have HC := Lib.hid (h.below HB0.out)
  have hl' : (L.length : Int) ≤ 255 := by omega
  have HM := Lib.hid hl
  clear h hl
  by_cases he : ep < 0 ∨ 2147483647 < ep
  · rw [goodB_ep he]
    by_cases h0 : ep < 0
    · clear he
      go_enter Try.func13, Try.ntmps13
      go_wp2_with fail
      go_ret
      exact ⟨rfl, HB0.out⟩
    · have h1 : 2147483647 < ep := by omega
      clear he
      go_enter Try.func13, Try.ntmps13
      go_wp2_with fail
      go_ret
      exact ⟨rfl, HB0.out⟩
  have e0 : 0 ≤ ep := by omega
  have e1 : ep ≤ 2147483647 := by omega
  clear he
  by_cases hn : L.length < 1 ∨ 4 < L.length
  · rw [goodB_len hn]
    by_cases h0 : L.length < 1
    · have h2 : (L.length : Int) < 1 := by omega
      clear hn
      go_enter Try.func13, Try.ntmps13
      go_wp2_with fail
      go_ret
      exact ⟨rfl, HB0.out⟩
    · have h1 : (4 : Int) < (L.length : Int) := by omega
      have h2 : (1 : Int) ≤ (L.length : Int) := by omega
      clear hn
      go_enter Try.func13, Try.ntmps13
      go_wp2_with fail
      go_ret
      exact ⟨rfl, HB0.out⟩
  have n1 : (1 : Int) ≤ (L.length : Int) := by omega
  have n4 : (L.length : Int) ≤ 4 := by omega
  have HN4 := Lib.hid (show L.length ≤ 4 by omega)
  have HE := Lib.hid (@goodB_end ep L ⟨e0, e1⟩ (by omega))
  have HCH := Lib.hid (fun k hk => @goodB_chain ep L k hk)
  have HU := Lib.hid (fun k j hk hj => @goodB_unit ep L k j hk hj)
  clear hn hl'
  generalize goodB ep L = R at *
  go_enter Try.func13, Try.ntmps13
  go_wp2_with fail
  go_loop [3, 4] (fun s i => ∃ n m : Nat, i = .int .i64 n ∧ s = .int .i64 m ∧ n ≤ L.length ∧ m ≤ 16 ∧ Hid (m = (L.take n).flatten.length ∧ ∀ c ∈ L.take n, chainB c = true)) (fun _ i => L.length - (intOf i).toNat)
  case atStart => exact ⟨0, 0, rfl, rfl, Nat.zero_le _, Nat.zero_le _, Lib.hid ⟨rfl, by simp⟩⟩
  case round =>
    obtain ⟨n, m, rfl, rfl, hn, hm, HA⟩ := hrel
    by_cases hlt : n < L.length
    · obtain ⟨bk, off, ai, ci, hao, c0, hN⟩ := HC.out n hlt
      subst hao
      have k0 : (n : Int) < (L.length : Int) := by omega
      by_cases hc : L[n].length < 1 ∨ 4 < L[n].length
      · have HX := Lib.hid (HCH.out n hlt hc)
        have m0 := HM.out.2 _ (List.getElem_mem hlt)
        by_cases h0 : L[n].length < 1
        · have h1 : (L[n].length : Int) < 1 := by omega
          clear hc
          go_wp2_with fail
          go_ret
          rw [HX.out]
          exact ⟨rfl, HB0.out⟩
        · have h1 : (4 : Int) < (L[n].length : Int) := by omega
          have h2 : (1 : Int) ≤ (L[n].length : Int) := by omega
          clear hc
          go_wp2_with fail
          go_ret
          rw [HX.out]
          exact ⟨rfl, HB0.out⟩
      · have h1 : (1 : Int) ≤ (L[n].length : Int) := by omega
        have h2 : (L[n].length : Int) ≤ 4 := by omega
        have HL := Lib.hid (show 1 ≤ L[n].length ∧ L[n].length ≤ 4 by omega)
        have HNN := Lib.hid hN
        clear hc hN
        go_wp2_with fail
        go_loop [5] (fun k => ∃ j : Nat, k = .int .i64 j ∧ j ≤ L[n].length ∧ Hid (∀ u ∈ L[n].take j, 0 ≤ u ∧ u ≤ 15)) (fun k => L[n].length - (intOf k).toNat)
        case atStart => exact ⟨0, rfl, Nat.zero_le _, Lib.hid (by simp)⟩
        case round =>
          obtain ⟨j, rfl, hj, HJ⟩ := hrel
          by_cases hjt : j < L[n].length
          · obtain ⟨b5, o5, hai, c5⟩ := HNN.out.at j hjt
            subst hai
            have k5 : (j : Int) < (L[n].length : Int) := by omega
            by_cases hu : L[n][j] < 0 ∨ 15 < L[n][j]
            · have HX := Lib.hid (HU.out n j hlt hjt hu)
              generalize L[n][j] = u at *
              by_cases h0 : u < 0
              · clear hu
                go_wp2_with fail
                go_ret
                rw [HX.out]
                exact ⟨rfl, HB0.out⟩
              · have h3 : 15 < u := by omega
                have h4 : 0 ≤ u := by omega
                clear hu
                go_wp2_with fail
                go_ret
                rw [HX.out]
                exact ⟨rfl, HB0.out⟩
            · have h3 : 0 ≤ L[n][j] := by omega
              have h4 : L[n][j] ≤ 15 := by omega
              have HJ2 := Lib.hid (all_take_succ hjt HJ.out ⟨h3, h4⟩)
              generalize L[n][j] = u at *
              clear hu
              go_wp2_with fail
              go_round
              case rel => exact ⟨j + 1, by go_num, by omega, HJ2⟩
              case measure => simp [intOf]; omega
          · obtain rfl : j = L[n].length := by omega
            have HC2 := Lib.hid (show chainB L[n] = true from chainB_iff.2 ⟨HL.out, by have := HJ.out; rwa [List.take_of_length_le (Nat.le_refl _)] at this⟩)
            have HA2 := Lib.hid (all_take_succ hlt HA.out.2 HC2.out)
            have HF := Lib.hid (show m + L[n].length = (L.take (n + 1)).flatten.length by rw [flat_succ hlt, HA.out.1])
            have h16 := flat_four HN4.out HA2.out
            rw [← HF.out] at h16
            go_wp2_with fail
            go_round
            case rel => exact ⟨n + 1, m + L[n].length, by go_num, by go_num, by omega, h16, Lib.hid ⟨HF.out, HA2.out⟩⟩
            case measure => simp [intOf]; omega
    · obtain rfl : n = L.length := by omega
      have HX := Lib.hid (HE.out HA.out.2)
      rw [← HA.out.1] at HX
      by_cases hq : (unitsR L).length = m
      · have HR := Lib.hid (show R = true from by rw [HX.out]; exact decide_eq_true hq)
        have q1 : (((unitsR L).length : Int) == (m : Int)) = true := beq_iff_eq.2 (by omega)
        have q2 : ((unitsR L).length == m) = true := beq_iff_eq.2 hq
        clear hq
        go_wp2_with (go_at_call 16; refine (refUnits_any ep ao cap L _ HC.out HM.out).mono ?_; rintro e w1 ⟨bo, cb, rfl, _, hb1⟩)
        go_ret
        rw [HR.out]
        exact ⟨rfl, HB0.out.trans (hb1.mono HB0.out.size)⟩
      · have HR := Lib.hid (show R = false from by rw [HX.out]; exact decide_eq_false hq)
        have q1 : (((unitsR L).length : Int) == (m : Int)) = false := beq_eq_false_iff_ne.2 (by omega)
        have q2 : ((unitsR L).length == m) = false := beq_eq_false_iff_ne.2 hq
        clear hq
        go_wp2_with (go_at_call 16; refine (refUnits_any ep ao cap L _ HC.out HM.out).mono ?_; rintro e w1 ⟨bo, cb, rfl, _, hb1⟩)
        go_ret
        rw [HR.out]
        exact ⟨rfl, HB0.out.trans (hb1.mono HB0.out.size)⟩
end Go.Proofs.Ytbiihcoobknmjaa
namespace Go.Proofs.Ytbiihcoobknmjaa
open Go.RowKit
set_option maxRecDepth 20000

/-- block b is a projection's -/
def PB (w : World) (b : Nat) (ep : Int) (ao : Option Addr) (n cap : Nat) : Prop := w.heap[b]? = some (.cells #[.int .i64 ep, .slice ao n cap] 24 (0, 0))
theorem PB.below {w w' : World} {b : Nat} {ep : Int} {ao : Option Addr} {n cap : Nat} (h : PB w b ep ao n cap) (hb : Below w.heap.size w w') : PB w' b ep ao n cap := below_heap hb h
theorem PB.cells {w : World} {b : Nat} {ep : Int} {ao : Option Addr} {n cap : Nat} (h : PB w b ep ao n cap) : w.cell? ⟨b, 0, none⟩ = some (.int .i64 ep) ∧ w.cell? ⟨b, 1, none⟩ = some (.slice ao n cap) := ⟨cell_of h 0, cell_of h 1⟩
theorem PB.two (w : World) (e1 e2 : Int) (a1 a2 : Option Addr) (n1 n2 c1 c2 : Nat) : PB ((w.alloc (.cells #[.int .i64 e1, .slice a1 n1 c1] 24)).alloc (.cells #[.int .i64 e2, .slice a2 n2 c2] 24)) w.heap.size e1 a1 n1 c1 ∧
    PB ((w.alloc (.cells #[.int .i64 e1, .slice a1 n1 c1] 24)).alloc (.cells #[.int .i64 e2, .slice a2 n2 c2] 24)) (w.heap.size + 1) e2 a2 n2 c2 := by
  refine ⟨PB.below (heap_alloc_new _ _) ((Below.refl _ _).alloc (Nat.le_refl _) _), ?_⟩
  have := heap_alloc_new (w.alloc (.cells #[.int .i64 e1, .slice a1 n1 c1] 24)) (.cells #[.int .i64 e2, .slice a2 n2 c2] 24)
  have e : (w.alloc (.cells #[.int .i64 e1, .slice a1 n1 c1] 24)).heap.size = w.heap.size + 1 := by simp
  rw [e] at this
  exact this
set_option maxHeartbeats 2000000 in
theorem rnext_no (e1 : Int) (ao1 : Option Addr) (c1 : Nat) (L1 : List (List Int)) (e2 : Int) (ao2 : Option Addr) (c2 : Nat) (L2 : List (List Int)) (w : World) (h1 : CL w ao1 L1) (h2 : CL w ao2 L2)
    (l1 : L1.length ≤ 255 ∧ ∀ c ∈ L1, c.length ≤ 255) (l2 : L2.length ≤ 255 ∧ ∀ c ∈ L2, c.length ≤ 255) (hno : goodB e1 L1 = false ∨ goodB e2 L2 = false ∨ e2 ≠ e1 + 1 ∨ L2.length ≠ L1.length) :
    Calls Try.prog 19 #[.agg #[.int .i64 e1, .slice ao1 L1.length c1], .agg #[.int .i64 e2, .slice ao2 L2.length c2]] w fun e w' => e = .returned (.bool false) ∧ Below w.heap.size w w' := by
  have HB0 := Lib.hid (((Below.refl w.heap.size w).alloc (Nat.le_refl _) (.cells #[.int .i64 e1, .slice ao1 L1.length c1] 24)).alloc (by simp) (.cells #[.int .i64 e2, .slice ao2 L2.length c2] 24))
  have HP := Lib.hid (PB.two w e1 e2 ao1 ao2 L1.length L2.length c1 c2)
  have H1 := Lib.hid (h1.below HB0.out)
  have H2 := Lib.hid (h2.below HB0.out)
  have M1 := Lib.hid l1
  have M2 := Lib.hid l2
  have m1 : (L1.length : Int) ≤ 255 := by omega
  have m2 : (L2.length : Int) ≤ 255 := by omega
  have CG := Lib.hid (rgood_any e1 ao1 c1 L1 _ H1.out M1.out)
  clear h1 h2 l1 l2
  by_cases g1 : goodB e1 L1 = false
  · rw [g1] at CG
    clear hno g1
    go_enter Try.func19, Try.ntmps19
    go_wp2_with (go_at_call 13; refine CG.out.mono ?_; rintro e w1 ⟨rfl, hb1⟩)
    go_ret
    exact ⟨rfl, HB0.out.trans (hb1.mono HB0.out.size)⟩
  have g1' : goodB e1 L1 = true := by simpa using g1
  obtain ⟨⟨x1, x2⟩, _⟩ := goodB_iff.1 g1'
  rw [g1'] at CG
  have CQ := Lib.hid (fun (w1 : World) hb => rgood_any e2 ao2 c2 L2 w1 (H2.out.below hb) M2.out)
  by_cases g2 : goodB e2 L2 = false
  · rw [g2] at CQ
    clear hno g1 g1' g2
    go_enter Try.func19, Try.ntmps19
    go_wp2_with (first | (go_at_call 13; with_reducible refine (CQ.out _ HBX.out).mono ?_; rintro e w2 ⟨rfl, hb2⟩) | (go_at_call 13; refine CG.out.mono ?_; rintro e w1 ⟨rfl, hb1⟩; obtain ⟨y0, y1⟩ := (HP.out.2.below hb1).cells; have HBX := Lib.hid hb1; clear hb1))
    go_ret
    exact ⟨rfl, (HB0.out.trans (HBX.out.mono HB0.out.size)).trans (hb2.mono (Nat.le_trans HB0.out.size HBX.out.size))⟩
  have g2' : goodB e2 L2 = true := by simpa using g2
  obtain ⟨⟨z1, z2⟩, _⟩ := goodB_iff.1 g2'
  rw [g2'] at CQ
  by_cases q : e2 = e1 + 1
  · have d1 : (e2 != e1 + 1) = false := bne_eq_false_iff_eq.2 q
    have hq : L2.length ≠ L1.length := by
      rcases hno with h | h | h | h
      · exact absurd h g1
      · exact absurd h g2
      · exact absurd q h
      · exact h
    have d2 : ((L2.length : Int) != (L1.length : Int)) = true := bne_iff_ne.2 (by omega)
    clear hno g1 g1' g2 g2' q hq
    go_enter Try.func19, Try.ntmps19
    go_wp2_with (first | (go_at_call 13; with_reducible refine (CQ.out _ HBX.out).mono ?_; rintro e w2 ⟨rfl, hb2⟩; obtain ⟨v0, v1⟩ := ((HP.out.1.below HBX.out).below hb2).cells; obtain ⟨v2, v3⟩ := ((HP.out.2.below HBX.out).below hb2).cells) | (go_at_call 13; refine CG.out.mono ?_; rintro e w1 ⟨rfl, hb1⟩; obtain ⟨y0, y1⟩ := (HP.out.2.below hb1).cells; have HBX := Lib.hid hb1; clear hb1))
    go_ret
    exact ⟨rfl, (HB0.out.trans (HBX.out.mono HB0.out.size)).trans (hb2.mono (Nat.le_trans HB0.out.size HBX.out.size))⟩
  · have d1 : (e2 != e1 + 1) = true := bne_iff_ne.2 q
    clear hno g1 g1' g2 g2' q
    go_enter Try.func19, Try.ntmps19
    go_wp2_with (first | (go_at_call 13; with_reducible refine (CQ.out _ HBX.out).mono ?_; rintro e w2 ⟨rfl, hb2⟩; obtain ⟨v0, v1⟩ := ((HP.out.1.below HBX.out).below hb2).cells; obtain ⟨v2, v3⟩ := ((HP.out.2.below HBX.out).below hb2).cells) | (go_at_call 13; refine CG.out.mono ?_; rintro e w1 ⟨rfl, hb1⟩; obtain ⟨y0, y1⟩ := (HP.out.2.below hb1).cells; have HBX := Lib.hid hb1; clear hb1))
    go_ret
    exact ⟨rfl, (HB0.out.trans (HBX.out.mono HB0.out.size)).trans (hb2.mono (Nat.le_trans HB0.out.size HBX.out.size))⟩
end Go.Proofs.Ytbiihcoobknmjaa
namespace Go.Proofs.Ytbiihcoobknmjaa
open Go.RowKit
/-- the units of n chains, and of k units of the next -/
def preU (L : List (List Int)) (n k : Nat) : List Int := (L.take n).flatten ++ (L.getD n []).take k
theorem preU_succ {L : List (List Int)} {n k : Nat} (hn : n < L.length) (hk : k < L[n].length) : preU L n (k + 1) = preU L n k ++ [L[n][k]] := by
  unfold preU
  have e : L.getD n [] = L[n] := by simp [hn]
  rw [e, List.take_succ_eq_append_getElem hk, List.append_assoc]
theorem preU_chain {L : List (List Int)} {n : Nat} (hn : n < L.length) : preU L n L[n].length = preU L (n + 1) 0 := by
  unfold preU
  have e : L.getD n [] = L[n] := by simp [hn]
  rw [e, List.take_of_length_le (Nat.le_refl _), List.take_zero, List.append_nil, List.take_succ_eq_append_getElem hn, List.flatten_append]
  simp
theorem preU_all (L : List (List Int)) : preU L L.length 0 = L.flatten := by
  unfold preU
  rw [List.take_zero, List.append_nil, List.take_of_length_le (Nat.le_refl _)]
theorem preU_zero (L : List (List Int)) : preU L 0 0 = [] := rfl
theorem preU_nodup {L : List (List Int)} (h : L.flatten.Nodup) {n k : Nat} (hn : n < L.length) (hk : k < L[n].length) : L[n][k] ∉ preU L n k := by
  have e : L.flatten = preU L n k ++ (L[n].drop k ++ (L.drop (n + 1)).flatten) := by
    unfold preU
    have e : L.getD n [] = L[n] := by simp [hn]
    rw [e]
    have h1 : L = L.take n ++ (L[n] :: L.drop (n + 1)) := by rw [← List.drop_eq_getElem_cons hn, List.take_append_drop]
    have h2 : L.flatten = (L.take n ++ (L[n] :: L.drop (n + 1))).flatten := congrArg List.flatten h1
    rw [h2, List.flatten_append, List.flatten_cons, List.append_assoc, ← List.append_assoc (L[n].take k), List.take_append_drop]
  rw [e, List.nodup_append] at h
  intro hin
  exact h.2.2 _ hin _ (List.mem_append_left _ (by rw [List.drop_eq_getElem_cons hk]; exact List.mem_cons_self)) rfl
theorem preU_len {L : List (List Int)} {n k : Nat} (hl : L.length ≤ 255 ∧ ∀ c ∈ L, c.length ≤ 255) (hn : n < L.length) : (preU L n k).length ≤ 70000 := by
  unfold preU
  have h2 := flat_le (L.take n) 255 (fun c hc => hl.2 c (List.mem_of_mem_take hc))
  have h3 := hl.2 L[n] (List.getElem_mem hn)
  have h4 : ((L.getD n []).take k).length ≤ L[n].length := by
    have e : L.getD n [] = L[n] := by simp [hn]
    rw [e, List.length_take]
    exact Nat.min_le_right _ _
  have h5 : (L.take n).length ≤ 255 := by rw [List.length_take]; omega
  have h6 : 255 * (L.take n).length ≤ 255 * 255 := Nat.mul_le_mul_left _ h5
  rw [List.length_append]
  omega
theorem preU_mem {L : List (List Int)} {n k : Nat} {u : Int} (h : u ∈ preU L n k) : u ∈ L.flatten := by
  unfold preU at h
  rcases List.mem_append.1 h with h | h
  · obtain ⟨c, hc, hu⟩ := List.mem_flatten.1 h
    exact List.mem_flatten.2 ⟨c, List.mem_of_mem_take hc, hu⟩
  · have h2 := List.mem_of_mem_take h
    by_cases hn : n < L.length
    · rw [show L.getD n [] = L[n] by simp [hn]] at h2
      exact List.mem_flatten.2 ⟨_, List.getElem_mem hn, h2⟩
    · rw [show L.getD n [] = [] by simp [hn]] at h2
      cases h2
theorem preU_wf {w : World} {ao : Option Addr} {L : List (List Int)} (h : CL w ao L) (n k : Nat) : ∀ u ∈ preU L n k, (Lit.int .i64 u).wf = true := by
  intro u hu
  obtain ⟨c, hc, huc⟩ := List.mem_flatten.1 (preU_mem hu)
  obtain ⟨i, hi, rfl⟩ := List.getElem_of_mem hc
  obtain ⟨_, _, _, _, _, _, hN⟩ := h i hi
  exact hN.wf u huc
theorem goodB_dup {ep : Int} {L : List (List Int)} {n k : Nat} (hn : n < L.length) (hk : k < L[n].length) (h : L[n][k] ∈ preU L n k) : goodB ep L = false := by
  rw [Bool.eq_false_iff]
  intro e
  exact preU_nodup (goodB_iff.1 e).2.2.2 hn hk h
theorem goodB_done {ep : Int} {L : List (List Int)} (h0 : 0 ≤ ep ∧ ep ≤ 2147483647) (h1 : 1 ≤ L.length ∧ L.length ≤ 4) (h : ∀ c ∈ L.take L.length, chainB c = true) (h2 : (preU L L.length 0).Nodup) : goodB ep L = true := by
  rw [List.take_of_length_le (Nat.le_refl _)] at h
  rw [preU_all] at h2
  exact goodB_iff.2 ⟨h0, h1, h, h2⟩
theorem nodup_snoc {l : List Int} {u : Int} (h : l.Nodup) (hu : u ∉ l) : (l ++ [u]).Nodup := by
  rw [List.nodup_append]
  refine ⟨h, by simp, fun a ha b hb e => ?_⟩
  rw [List.mem_singleton] at hb
  subst hb
  exact hu (e ▸ ha)
end Go.Proofs.Ytbiihcoobknmjaa
