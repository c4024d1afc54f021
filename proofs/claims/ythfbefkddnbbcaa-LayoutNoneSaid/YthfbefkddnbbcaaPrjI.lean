/- What the document's own Next returns, where the two projections don't fit by themselves. Conditions: the projections lie where the call was told, and are not too large. -/
import Derived.Test.YthfbefkddnbbcaaPrjH
import Derived.Test.YthfbefkddnbbcaaPrjP
namespace Go.Proofs.Ythfbefkddnbbcaa
set_option linter.unusedVariables false
open Go.RowKit
set_option maxRecDepth 20000

set_option maxHeartbeats 2000000 in
theorem rnext_no (e1 : Int) (ao1 : Option Addr) (c1 : Nat) (L1 : List (List Int)) (e2 : Int) (ao2 : Option Addr) (c2 : Nat) (L2 : List (List Int)) (w : World) (h1 : CL w ao1 L1) (h2 : CL w ao2 L2)
    (l1 : L1.length ≤ 255 ∧ ∀ c ∈ L1, c.length ≤ 255) (l2 : L2.length ≤ 255 ∧ ∀ c ∈ L2, c.length ≤ 255) (hno : goodB e1 L1 = false ∨ goodB e2 L2 = false ∨ e2 ≠ e1 + 1 ∨ L2.length ≠ L1.length) :
    Calls Try.prog 21 #[.agg #[.int .i64 e1, .slice ao1 L1.length c1], .agg #[.int .i64 e2, .slice ao2 L2.length c2]] w fun e w' => e = .returned (.bool false) ∧ Below w.heap.size w w' := by
  have HB0 := Lib.hid (((Below.refl w.heap.size w).alloc (Nat.le_refl _) (.cells #[.int .i64 e1, .slice ao1 L1.length c1] 24)).alloc (by simp) (.cells #[.int .i64 e2, .slice ao2 L2.length c2] 24))
  have HP := Lib.hid (PB.two w e1 e2 ao1 ao2 L1.length L2.length c1 c2)
  have H1 := Lib.hid (h1.below HB0.out)
  have H2 := Lib.hid (h2.below HB0.out)
  have M1 := Lib.hid l1
  have M2 := Lib.hid l2
  have m1 : (L1.length : Int) ≤ 255 := by omega
  have m2 : (L2.length : Int) ≤ 255 := by omega
  have CG := Lib.hid (rgood_any e1 ao1 c1 L1 _ H1.out M1.out)
  clear h1 h2 l1 l2
  by_cases g1 : goodB e1 L1 = false
  · rw [g1] at CG
    clear hno g1
    go_enter Try.func21, Try.ntmps21
    go_wp2_with (go_at_call 20; refine CG.out.mono ?_; rintro e w1 ⟨rfl, hb1⟩)
    go_ret
    exact ⟨rfl, HB0.out.trans (hb1.mono HB0.out.size)⟩
  have g1' : goodB e1 L1 = true := by simpa using g1
  obtain ⟨⟨x1, x2⟩, _⟩ := goodB_iff.1 g1'
  rw [g1'] at CG
  have CQ := Lib.hid (fun (w1 : World) hb => rgood_any e2 ao2 c2 L2 w1 (H2.out.below hb) M2.out)
  by_cases g2 : goodB e2 L2 = false
  · rw [g2] at CQ
    clear hno g1 g1' g2
    go_enter Try.func21, Try.ntmps21
    go_wp2_with (first | (go_at_call 20; with_reducible refine (CQ.out _ HBX.out).mono ?_; rintro e w2 ⟨rfl, hb2⟩) | (go_at_call 20; refine CG.out.mono ?_; rintro e w1 ⟨rfl, hb1⟩; obtain ⟨y0, y1⟩ := (HP.out.2.below hb1).cells; have HBX := Lib.hid hb1; clear hb1))
    go_ret
    exact ⟨rfl, (HB0.out.trans (HBX.out.mono HB0.out.size)).trans (hb2.mono (Nat.le_trans HB0.out.size HBX.out.size))⟩
  have g2' : goodB e2 L2 = true := by simpa using g2
  obtain ⟨⟨z1, z2⟩, _⟩ := goodB_iff.1 g2'
  rw [g2'] at CQ
  by_cases q : e2 = e1 + 1
  · have d1 : (e2 != e1 + 1) = false := bne_eq_false_iff_eq.2 q
    have hq : L2.length ≠ L1.length := by
      rcases hno with h | h | h | h
      · exact absurd h g1
      · exact absurd h g2
      · exact absurd q h
      · exact h
    have d2 : ((L2.length : Int) != (L1.length : Int)) = true := bne_iff_ne.2 (by omega)
    clear hno g1 g1' g2 g2' q hq
    go_enter Try.func21, Try.ntmps21
    go_wp2_with (first | (go_at_call 20; with_reducible refine (CQ.out _ HBX.out).mono ?_; rintro e w2 ⟨rfl, hb2⟩; obtain ⟨v0, v1⟩ := ((HP.out.1.below HBX.out).below hb2).cells; obtain ⟨v2, v3⟩ := ((HP.out.2.below HBX.out).below hb2).cells) | (go_at_call 20; refine CG.out.mono ?_; rintro e w1 ⟨rfl, hb1⟩; obtain ⟨y0, y1⟩ := (HP.out.2.below hb1).cells; have HBX := Lib.hid hb1; clear hb1))
    go_ret
    exact ⟨rfl, (HB0.out.trans (HBX.out.mono HB0.out.size)).trans (hb2.mono (Nat.le_trans HB0.out.size HBX.out.size))⟩
  · have d1 : (e2 != e1 + 1) = true := bne_iff_ne.2 q
    clear hno g1 g1' g2 g2' q
    go_enter Try.func21, Try.ntmps21
    go_wp2_with (first | (go_at_call 20; with_reducible refine (CQ.out _ HBX.out).mono ?_; rintro e w2 ⟨rfl, hb2⟩; obtain ⟨v0, v1⟩ := ((HP.out.1.below HBX.out).below hb2).cells; obtain ⟨v2, v3⟩ := ((HP.out.2.below HBX.out).below hb2).cells) | (go_at_call 20; refine CG.out.mono ?_; rintro e w1 ⟨rfl, hb1⟩; obtain ⟨y0, y1⟩ := (HP.out.2.below hb1).cells; have HBX := Lib.hid hb1; clear hb1))
    go_ret
    exact ⟨rfl, (HB0.out.trans (HBX.out.mono HB0.out.size)).trans (hb2.mono (Nat.le_trans HB0.out.size HBX.out.size))⟩
end Go.Proofs.Ythfbefkddnbbcaa
