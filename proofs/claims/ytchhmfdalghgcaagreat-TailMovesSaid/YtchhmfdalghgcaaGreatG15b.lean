/- May a projection come next? What the document's own layout tells. Conditions: it and the projection lie where the call was told; no more than 1000000 units were noted. What the program's own Next returns. Conditions: the projections lie where the call was told, and are not too large. Many things in memory, each of them in blocks of its own, as one thing whose blocks are theirs. Conditions: as each statement says. -/
import Derived.Test.YtchhmfdalghgcaaGreatG14a
import Derived.Test.YtchhmfdalghgcaaGreatG14b
set_option linter.unusedVariables false
namespace Go.Proofs.YtchhmfdalghgcaaGreat
set_option linter.unusedVariables false
open Go.RowKit
set_option maxRecDepth 20000
def mayF (N U : List Int) (u : Int) : Bool := hasB N u || !hasB U u
theorem may_no {y : Ly} {e : Int} {Q : List (List Int)} (h : nextB y.ep y.L e Q = false) : y.may e Q = false := by simp [Ly.may, h]
theorem may_yes {y : Ly} {e : Int} {Q : List (List Int)} (h : nextB y.ep y.L e Q = true) : y.may e Q = (unitsR Q).all (mayF (unitsR y.L) y.used) := by
  unfold Ly.may
  rw [h, Bool.true_and]
  rfl
theorem units_few {L : List (List Int)} (l1 : L.length ≤ 255 ∧ ∀ c ∈ L, c.length ≤ 255) : (unitsR L).length ≤ 70000 := by
  have h3 := (insAll_length [] L.flatten List.Pairwise.nil).1
  have h4 := flat_le L 255 l1.2
  have h5 : 255 * L.length ≤ 255 * 255 := Nat.mul_le_mul_left _ l1.1
  unfold unitsR
  rw [List.length_nil] at h3
  omega
section
variable {w W W' : World} {r b B : Nat} {e1 e2 : Int} {v1 v2 : Value}
theorem mw_on (h : W.cell? ⟨r, 0, none⟩ = some (.int .i64 e1) ∧ W.cell? ⟨r, 1, none⟩ = some v1 ∧ W.cell? ⟨b, 0, none⟩ = some (.int .i64 e2) ∧ W.cell? ⟨b, 1, none⟩ = some v2 ∧ Below B w W ∧ B ≤ W.heap.size) (hb : Below W.heap.size W W') :
    W'.cell? ⟨r, 0, none⟩ = some (.int .i64 e1) ∧ W'.cell? ⟨r, 1, none⟩ = some v1 ∧ W'.cell? ⟨b, 0, none⟩ = some (.int .i64 e2) ∧ W'.cell? ⟨b, 1, none⟩ = some v2 ∧ Below B w W' ∧ B ≤ W'.heap.size :=
  ⟨cellB hb (block_lt_of_cell h.1) h.1, cellB hb (block_lt_of_cell h.2.1) h.2.1, cellB hb (block_lt_of_cell h.2.2.1) h.2.2.1, cellB hb (block_lt_of_cell h.2.2.2.1) h.2.2.2.1, h.2.2.2.2.1.trans (hb.mono h.2.2.2.2.2), Nat.le_trans h.2.2.2.2.2 hb.size⟩
theorem mw_b (h : W.cell? ⟨r, 0, none⟩ = some (.int .i64 e1) ∧ W.cell? ⟨r, 1, none⟩ = some v1 ∧ W.cell? ⟨b, 0, none⟩ = some (.int .i64 e2) ∧ W.cell? ⟨b, 1, none⟩ = some v2 ∧ Below B w W ∧ B ≤ W.heap.size) : Below B w W := h.2.2.2.2.1
end
end Go.Proofs.YtchhmfdalghgcaaGreat
namespace Go.Proofs.YtchhmfdalghgcaaGreat
open Go.RowKit Go.Maps
set_option maxRecDepth 20000
set_option maxHeartbeats 2000000 in
theorem pnext_no (e1 : Int) (ao1 : Option Addr) (c1 : Nat) (L1 : List (List Int)) (e2 : Int) (ao2 : Option Addr) (c2 : Nat) (L2 : List (List Int)) (w : World) (h1 : CL w ao1 L1) (h2 : CL w ao2 L2)
    (l1 : L1.length ≤ 255 ∧ ∀ c ∈ L1, c.length ≤ 255) (l2 : L2.length ≤ 255 ∧ ∀ c ∈ L2, c.length ≤ 255) (hno : goodB e1 L1 = false ∨ goodB e2 L2 = false ∨ e2 ≠ e1 + 1 ∨ L2.length ≠ L1.length) :
    Calls Tryz.prog 147 #[.agg #[.int .i64 e1, .slice ao1 L1.length c1], .agg #[.int .i64 e2, .slice ao2 L2.length c2]] w fun e w' => e = .returned (.bool false) ∧ Below w.heap.size w w' := by
  have HB0 := Lib.hid (((Below.refl w.heap.size w).alloc (Nat.le_refl _) (.cells #[.int .i64 e1, .slice ao1 L1.length c1] 29)).alloc (by simp) (.cells #[.int .i64 e2, .slice ao2 L2.length c2] 29))
  have HP := Lib.hid (PB.two w e1 e2 ao1 ao2 L1.length L2.length c1 c2)
  have H1 := Lib.hid (h1.below HB0.out)
  have H2 := Lib.hid (h2.below HB0.out)
  have M1 := Lib.hid l1
  have M2 := Lib.hid l2
  have m1 : (L1.length : Int) ≤ 255 := by omega
  have m2 : (L2.length : Int) ≤ 255 := by omega
  have CG := Lib.hid (pgood_any e1 ao1 c1 L1 _ H1.out M1.out)
  clear h1 h2 l1 l2
  by_cases g1 : goodB e1 L1 = false
  · rw [g1] at CG
    clear hno g1
    go_enter Tryz.func147, Tryz.ntmps147
    go_wp2_with (go_at_call 32; refine CG.out.mono ?_; rintro e w1 ⟨rfl, hb1⟩)
    go_ret
    exact ⟨rfl, HB0.out.trans (hb1.mono HB0.out.size)⟩
  have g1' : goodB e1 L1 = true := by simpa using g1
  obtain ⟨⟨x1, x2⟩, _⟩ := goodB_iff.1 g1'
  rw [g1'] at CG
  have CQ := Lib.hid (fun (w1 : World) hb => pgood_any e2 ao2 c2 L2 w1 (H2.out.below hb) M2.out)
  by_cases g2 : goodB e2 L2 = false
  · rw [g2] at CQ
    clear hno g1 g1' g2
    go_enter Tryz.func147, Tryz.ntmps147
    go_wp2_with (first | (go_at_call 32; with_reducible refine (CQ.out _ HBX.out).mono ?_; rintro e w2 ⟨rfl, hb2⟩) | (go_at_call 32; refine CG.out.mono ?_; rintro e w1 ⟨rfl, hb1⟩; obtain ⟨y0, y1⟩ := (HP.out.2.below hb1).cells; have HBX := Lib.hid hb1; clear hb1))
    go_ret
    exact ⟨rfl, (HB0.out.trans (HBX.out.mono HB0.out.size)).trans (hb2.mono (Nat.le_trans HB0.out.size HBX.out.size))⟩
  have g2' : goodB e2 L2 = true := by simpa using g2
  obtain ⟨⟨z1, z2⟩, _⟩ := goodB_iff.1 g2'
  rw [g2'] at CQ
  by_cases q : e2 = e1 + 1
  · have d1 : (e2 != e1 + 1) = false := bne_eq_false_iff_eq.2 q
    have hq : L2.length ≠ L1.length := by
      rcases hno with h | h | h | h
      · exact absurd h g1
      · exact absurd h g2
      · exact absurd q h
      · exact h
    have d2 : ((L2.length : Int) != (L1.length : Int)) = true := bne_iff_ne.2 (by omega)
    clear hno g1 g1' g2 g2' q hq
    go_enter Tryz.func147, Tryz.ntmps147
    go_wp2_with (first | (go_at_call 32; with_reducible refine (CQ.out _ HBX.out).mono ?_; rintro e w2 ⟨rfl, hb2⟩; obtain ⟨v0, v1⟩ := ((HP.out.1.below HBX.out).below hb2).cells; obtain ⟨v2, v3⟩ := ((HP.out.2.below HBX.out).below hb2).cells) | (go_at_call 32; refine CG.out.mono ?_; rintro e w1 ⟨rfl, hb1⟩; obtain ⟨y0, y1⟩ := (HP.out.2.below hb1).cells; have HBX := Lib.hid hb1; clear hb1))
    go_ret
    exact ⟨rfl, (HB0.out.trans (HBX.out.mono HB0.out.size)).trans (hb2.mono (Nat.le_trans HB0.out.size HBX.out.size))⟩
  · have d1 : (e2 != e1 + 1) = true := bne_iff_ne.2 q
    clear hno g1 g1' g2 g2' q
    go_enter Tryz.func147, Tryz.ntmps147
    go_wp2_with (first | (go_at_call 32; with_reducible refine (CQ.out _ HBX.out).mono ?_; rintro e w2 ⟨rfl, hb2⟩; obtain ⟨v0, v1⟩ := ((HP.out.1.below HBX.out).below hb2).cells; obtain ⟨v2, v3⟩ := ((HP.out.2.below HBX.out).below hb2).cells) | (go_at_call 32; refine CG.out.mono ?_; rintro e w1 ⟨rfl, hb1⟩; obtain ⟨y0, y1⟩ := (HP.out.2.below hb1).cells; have HBX := Lib.hid hb1; clear hb1))
    go_ret
    exact ⟨rfl, (HB0.out.trans (HBX.out.mono HB0.out.size)).trans (hb2.mono (Nat.le_trans HB0.out.size HBX.out.size))⟩
theorem good_rows {ep : Int} {L : List (List Int)} (h : goodB ep L = true) {n : Nat} (hn : n < L.length) : ∀ i j (hi : i < L[n].length) (hj : j < L[n].length), L[n][i] = L[n][j] → i = j :=
  fun _ _ hi hj e => row_one (goodB_iff.1 h).2.2.2 hn hi hj e
set_option maxHeartbeats 4000000 in
theorem pnext_yes (e1 : Int) (ao1 : Option Addr) (c1 : Nat) (L1 : List (List Int)) (e2 : Int) (ao2 : Option Addr) (c2 : Nat) (L2 : List (List Int)) (w : World) (h1 : CL w ao1 L1) (h2 : CL w ao2 L2)
    (l1 : L1.length ≤ 255 ∧ ∀ c ∈ L1, c.length ≤ 255) (l2 : L2.length ≤ 255 ∧ ∀ c ∈ L2, c.length ≤ 255) (g1 : goodB e1 L1 = true) (g2 : goodB e2 L2 = true) (q : e2 = e1 + 1) (hq : L2.length = L1.length) :
    Calls Tryz.prog 147 #[.agg #[.int .i64 e1, .slice ao1 L1.length c1], .agg #[.int .i64 e2, .slice ao2 L2.length c2]] w fun e w' => e = .returned (.bool ((L1.zip L2).all (fun c => seqB (unitsR L1) c.1 c.2 c.1 false))) ∧ Below w.heap.size w w' := by
  have HB0 := Lib.hid (((Below.refl w.heap.size w).alloc (Nat.le_refl _) (.cells #[.int .i64 e1, .slice ao1 L1.length c1] 29)).alloc (by simp) (.cells #[.int .i64 e2, .slice ao2 L2.length c2] 29))
  have HP := Lib.hid (PB.two w e1 e2 ao1 ao2 L1.length L2.length c1 c2)
  have H1 := Lib.hid (h1.below HB0.out)
  have H2 := Lib.hid (h2.below HB0.out)
  have M1 := Lib.hid l1
  have M2 := Lib.hid l2
  have m1 : (L1.length : Int) ≤ 255 := by omega
  have m2 : (L2.length : Int) ≤ 255 := by omega
  have CG := Lib.hid (pgood_any e1 ao1 c1 L1 _ H1.out M1.out)
  have CQ := Lib.hid (fun (w1 : World) hb => pgood_any e2 ao2 c2 L2 w1 (H2.out.below hb) M2.out)
  have CM := Lib.hid (fun (w1 : World) hb => met_any e1 ao1 c1 L1 w1 (H1.out.below hb) M1.out)
  have HG1 := Lib.hid (goodB_iff.1 g1).2.2.2
  have HG2 := Lib.hid (fun n h => @good_rows e2 L2 g2 n h)
  obtain ⟨⟨x1, x2⟩, _⟩ := goodB_iff.1 g1
  rw [g1] at CG
  rw [g2] at CQ
  have d1 : (e2 != e1 + 1) = false := bne_eq_false_iff_eq.2 q
  have d2 : ((L2.length : Int) != (L1.length : Int)) = false := bne_eq_false_iff_eq.2 (by omega)
  have HQ := Lib.hid hq
  have HNO := Lib.hid (fun k h1 h2 => @zip_no L1 L2 (fun c => seqB (unitsR L1) c.1 c.2 c.1 false) k h1 h2)
  have HYES := Lib.hid (@zip_yes L1 L2 (fun c => seqB (unitsR L1) c.1 c.2 c.1 false))
  have CF := Lib.hid (fun (k : Nat) (hk1 : k < L1.length) (hk : k < L2.length) (ai : Option Addr) (ci b : Nat) (w1 : World) (hN : NLI w1 ai ci L2[k]) (hM : Mt w1 b L1 L1.flatten) => follows_any L2[k] ai ci k b L1 w1 hk1 hN hM HG1.out (HG2.out k hk) (M2.out.2 _ (List.getElem_mem hk)))
  clear h1 h2 l1 l2 g1 g2 q hq
  dsimp only at HNO HYES ⊢
  generalize (L1.zip L2).all (fun c => seqB (unitsR L1) c.1 c.2 c.1 false) = R at *
  generalize unitsR L1 = U at *
  go_enter Tryz.func147, Tryz.ntmps147
  go_wp2_with (first
    | (go_at_call 32; with_reducible refine (CQ.out _ HBX.out).mono ?_; rintro e w2 ⟨rfl, hb2⟩; have HBY := Lib.hid (HBX.out.trans (hb2.mono HBX.out.size)); obtain ⟨v0, v1⟩ := (HP.out.1.below HBY.out).cells; obtain ⟨v2, v3⟩ := (HP.out.2.below HBY.out).cells; clear hb2)
    | (go_at_call 32; refine CG.out.mono ?_; rintro e w1 ⟨rfl, hb1⟩; obtain ⟨y0, y1⟩ := (HP.out.2.below hb1).cells; have HBX := Lib.hid hb1; clear hb1)
    | (go_at_call 53; refine (CM.out _ HBY.out).mono ?_; rintro e w3 ⟨b, rfl, hb, hM, hb3⟩; have HBZ := Lib.hid (HBY.out.trans (hb3.mono HBY.out.size)); have HM := Lib.hid hM; obtain ⟨t2, t3⟩ := (HP.out.2.below HBZ.out).cells; clear v0 v1 v2 v3 hb hM hb3))
  have HW := Lib.hid (HB0.out.trans (HBZ.out.mono HB0.out.size))
  have C2 := Lib.hid (H2.out.below HBZ.out)
  clear y0 y1 CG CQ CM H1 H2 HBX HBY
  go_loopw [38] (fun i wr => ∃ k : Nat, i = .int .i64 k ∧ k ≤ L2.length ∧ Hid (Below w3.heap.size w3 wr) ∧ Hid (∀ i, i < k → ∀ (h1 : i < L1.length) (h2 : i < L2.length), seqB U L1[i] L2[i] L1[i] false = true)) (fun i _ => L2.length - (intOf i).toNat)
  case atStart => exact ⟨0, rfl, Nat.zero_le _, Lib.hid (Below.refl _ _), Lib.hid (fun i hi => absurd hi (Nat.not_lt_zero i))⟩
  case round =>
    obtain ⟨k, rfl, hk, HB, HA⟩ := hrel
    have HWR := Lib.hid (HW.out.trans (HB.out.mono HW.out.size))
    by_cases hlt : k < L2.length
    · have hlt1 : k < L1.length := by have := HQ.out; omega
      obtain ⟨bk2, off2, bi, di, hao2, c02, hN2⟩ := (C2.out.below HB.out) k hlt
      subst hao2
      have k1 : (k : Int) < (L2.length : Int) := by omega
      have HNK := Lib.hid (HNO.out k hlt1 hlt)
      have HAK := Lib.hid (show seqB U L1[k] L2[k] L1[k] false = true → ∀ i, i < k + 1 → ∀ (h1 : i < L1.length) (h2 : i < L2.length), seqB U L1[i] L2[i] L1[i] false = true from fun e i hi h1 h2 => by
        by_cases e2 : i = k
        · subst e2; exact e
        · exact HA.out i (by omega) h1 h2)
      have CK := Lib.hid (CF.out k hlt1 hlt bi di b wr hN2 (HM.out.below HB.out))
      clear hN2 d1 d2
      generalize seqB U L1[k] L2[k] L1[k] false = Ri at *
      cases Ri with
      | true =>
        have HAK2 := Lib.hid (HAK.out rfl)
        go_wp2_with (go_at_call 149; refine CK.out.mono ?_; rintro e w4 ⟨rfl, hb4⟩; have HB4 := Lib.hid (HB.out.trans (hb4.mono HB.out.size)); clear hb4)
        go_roundw
        case rel => exact ⟨k + 1, by go_num, by omega, HB4, HAK2⟩
        case measure => simp [intOf]; omega
      | false =>
        have HX := Lib.hid (HNK.out rfl)
        go_wp2_with (go_at_call 149; refine CK.out.mono ?_; rintro e w4 ⟨rfl, hb4⟩; have HB4 := Lib.hid (HWR.out.trans (hb4.mono HWR.out.size)); clear hb4)
        go_ret
        rw [HX.out]
        exact ⟨rfl, HB4.out⟩
    · obtain rfl : k = L2.length := by omega
      have HX := Lib.hid (HYES.out (fun i hi h1 h2 => HA.out i h2 h1 h2))
      go_wp2_with fail
      go_ret
      rw [HX.out]
      exact ⟨rfl, HWR.out⟩
theorem pnext_any (e1 : Int) (ao1 : Option Addr) (c1 : Nat) (L1 : List (List Int)) (e2 : Int) (ao2 : Option Addr) (c2 : Nat) (L2 : List (List Int)) (w : World) (h1 : CL w ao1 L1) (h2 : CL w ao2 L2)
    (l1 : L1.length ≤ 255 ∧ ∀ c ∈ L1, c.length ≤ 255) (l2 : L2.length ≤ 255 ∧ ∀ c ∈ L2, c.length ≤ 255) :
    Calls Tryz.prog 147 #[.agg #[.int .i64 e1, .slice ao1 L1.length c1], .agg #[.int .i64 e2, .slice ao2 L2.length c2]] w fun e w' => e = .returned (.bool (nextB e1 L1 e2 L2)) ∧ Below w.heap.size w w' := by
  by_cases hno : goodB e1 L1 = false ∨ goodB e2 L2 = false ∨ e2 ≠ e1 + 1 ∨ L2.length ≠ L1.length
  · rw [show nextB e1 L1 e2 L2 = false from by
      unfold nextB
      rcases hno with h | h | h | h
      · rw [h]; rfl
      · rw [h]; simp
      · simp [h]
      · simp [h]]
    exact pnext_no e1 ao1 c1 L1 e2 ao2 c2 L2 w h1 h2 l1 l2 hno
  · have g1 : goodB e1 L1 = true := by
      cases e : goodB e1 L1
      · exact absurd (.inl e) hno
      · rfl
    have g2 : goodB e2 L2 = true := by
      cases e : goodB e2 L2
      · exact absurd (.inr (.inl e)) hno
      · rfl
    have q : e2 = e1 + 1 := by
      by_cases e : e2 = e1 + 1
      · exact e
      · exact absurd (.inr (.inr (.inl e))) hno
    have hq : L2.length = L1.length := by
      by_cases e : L2.length = L1.length
      · exact e
      · exact absurd (.inr (.inr (.inr e))) hno
    rw [show nextB e1 L1 e2 L2 = (L1.zip L2).all (fun c => seqB (unitsR L1) c.1 c.2 c.1 false) from by
      unfold nextB
      rw [g1, g2]
      simp [q, hq]]
    exact pnext_yes e1 ao1 c1 L1 e2 ao2 c2 L2 w h1 h2 l1 l2 g1 g2 q hq
end Go.Proofs.YtchhmfdalghgcaaGreat
namespace Go.Proofs.YtchhmfdalghgcaaGreat
set_option linter.unusedVariables false
open Go.RowKit
set_option maxRecDepth 20000
/-- the things T 0 .. T (n - 1), in blocks of their own that are all of G -/
def BundG (n : Nat) (T : Nat → (Nat → Prop) → World → Prop) (G : Nat → Prop) (w : World) : Prop :=
  ∃ F : Nat → Nat → Prop, (∀ i, i < n → T i (F i) w) ∧ (∀ i j, i < n → j < n → i ≠ j → ∀ k, F i k → ¬ F j k) ∧ ∀ k, G k ↔ ∃ i, i < n ∧ F i k
section
variable {n i : Nat} {T : Nat → (Nat → Prop) → World → Prop} {U : (Nat → Prop) → World → Prop} {G C : Nat → Prop} {w w' : World}
theorem BundG.lt (hT : ∀ i, i < n → Part (T i)) (h : BundG n T G w) : ∀ k, G k → k < w.heap.size := by
  obtain ⟨F, h1, h2, h3⟩ := h
  intro k hk
  obtain ⟨i, hi, hf⟩ := (h3 k).1 hk
  exact (hT i hi).lt (h1 i hi) k hf
theorem BundG.keep (hT : ∀ i, i < n → Part (T i)) (h : BundG n T G w) {S : Nat → Prop} (hk : Kept S w w') (hS : ∀ k, G k → S k) : BundG n T G w' := by
  obtain ⟨F, h1, h2, h3⟩ := h
  exact ⟨F, fun i hi => (hT i hi).keep (h1 i hi) hk (fun k hf => hS k ((h3 k).2 ⟨i, hi, hf⟩)), h2, h3⟩
theorem BundG.same {T2 : Nat → (Nat → Prop) → World → Prop} (h : BundG n T G w) (e : ∀ i, i < n → ∀ F W, T i F W → T2 i F W) : BundG n T2 G w := by
  obtain ⟨F, h1, h2, h3⟩ := h
  exact ⟨F, fun i hi => e i hi _ _ (h1 i hi), h2, h3⟩
theorem BundG.look (h : BundG n T G w) (hi : i < n) : ∃ F, T i F w ∧ ∀ k, F k → G k := by
  obtain ⟨F, h1, h2, h3⟩ := h
  exact ⟨F i, h1 i hi, fun k hf => (h3 k).2 ⟨i, hi, hf⟩⟩
/-- one of them has turned, in its own blocks and new ones; C: new memory that was handed out besides -/
theorem bundg_turn {F : Nat → Nat → Prop} {F' : Nat → Prop} (hT : ∀ i, i < n → Part (T i)) (h1 : ∀ i, i < n → T i (F i) w) (h2 : ∀ i j, i < n → j < n → i ≠ j → ∀ k, F i k → ¬ F j k) (h3 : ∀ k, G k ↔ ∃ i, i < n ∧ F i k) (hi : i < n) (hC : ∀ k, C k → w.heap.size ≤ k)
    (r1 : U F' w') (r2 : ∀ k, C k → ¬ F' k) (r3 : Kept (fun k => ¬ F i k) w w') (r4 : ∀ k, F' k → F i k ∨ w.heap.size ≤ k) :
    ∃ G' : Nat → Prop, BundG n (swapP T i U) G' w' ∧ (∀ k, C k → ¬ G' k) ∧ Kept (fun k => ¬ G k) w w' ∧ ∀ k, G' k → G k ∨ w.heap.size ≤ k := by
  refine ⟨fun k => ∃ j, j < n ∧ (if j = i then F' else F j) k, ⟨fun j => if j = i then F' else F j, fun j hj => ?_, fun j l hj hl hne k hf hg => ?_, fun k => Iff.rfl⟩, ?_, r3.mono (fun k hn hf => hn ((h3 k).2 ⟨i, hi, hf⟩)), ?_⟩
  · unfold swapP
    by_cases e : j = i
    · simp only [e, if_true]
      exact r1
    · simp only [e, if_false]
      exact (hT j hj).keep (h1 j hj) r3 (fun k hf hg => h2 j i hj hi e k hf hg)
  · by_cases e : j = i
    · have e2 : l ≠ i := fun h => hne (e.trans h.symm)
      simp only [e, if_true] at hf
      simp only [e2, if_false] at hg
      rcases r4 k hf with h | h
      · exact h2 i l hi hl (fun h => e2 h.symm) k h hg
      · have := (hT l hl).lt (h1 l hl) k hg; omega
    · simp only [e, if_false] at hf
      by_cases e2 : l = i
      · simp only [e2, if_true] at hg
        rcases r4 k hg with h | h
        · exact h2 j i hj hi e k hf h
        · have := (hT j hj).lt (h1 j hj) k hf; omega
      · simp only [e2, if_false] at hg
        exact h2 j l hj hl hne k hf hg
  · rintro k hk ⟨j, hj, hf⟩
    by_cases e : j = i
    · simp only [e, if_true] at hf
      exact r2 k hk hf
    · simp only [e, if_false] at hf
      have := (hT j hj).lt (h1 j hj) k hf
      have := hC k hk
      omega
  · rintro k ⟨j, hj, hf⟩
    by_cases e : j = i
    · simp only [e, if_true] at hf
      rcases r4 k hf with h | h
      · exact .inl ((h3 k).2 ⟨i, hi, h⟩)
      · exact .inr h
    · simp only [e, if_false] at hf
      exact .inl ((h3 k).2 ⟨j, hj, hf⟩)
/-- a question that one of them answers, as one to all of them: S is what they are together, s' what behind it -/
theorem bundg_tells {α β : Type} {V : (Nat → Prop) → World → α → Prop} {N : (Nat → Prop) → World → β → Prop} {v' : α} {s' : β} {x : An} {P : Program} {fn : FuncId} {args : Array Value} (hT : ∀ i, i < n → Part (T i)) (h : BundG n T G w) (hi : i < n)
    (hN : ∀ G' W, BundG n (swapP T i (fun F W => V F W v')) G' W → N G' W s') (hc : ∀ F : Nat → Prop, T i F w → (∀ k, F k → G k) → Calls P fn args w fun e w' => Tells V F w v' x e w') : Calls P fn args w fun e w' => Tells N G w s' x e w' := by
  obtain ⟨F, h1, h2, h3⟩ := h
  refine (hc (F i) (h1 i hi) (fun k hf => (h3 k).2 ⟨i, hi, hf⟩)).mono ?_
  rintro e w' ⟨ao, cap, C, he, hC1, hC2, F', r1, r2, r3, r4⟩
  obtain ⟨G', s1, s2, s3, s4⟩ := bundg_turn (U := fun F W => V F W v') hT h1 h2 h3 hi (fun k hk => (hC2 k hk).1) r1 r2 r3 r4
  exact ⟨ao, cap, C, he, hC1, hC2, G', hN G' w' s1, s2, s3, s4⟩
/-- one more is made, in new memory -/
theorem BundG.more (hT : ∀ i, i < n → Part (T i)) (h : BundG n T G w) (hb : Below w.heap.size w w') {H : Nat → Prop} (hu : U H w') (hH : ∀ k, H k → w.heap.size ≤ k) : BundG (n + 1) (swapP T n U) (fun k => G k ∨ H k) w' := by
  obtain ⟨F, h1, h2, h3⟩ := h
  have hold : ∀ j, j < n → T j (F j) w' := fun j hj => (hT j hj).keep (h1 j hj) (Kept.ofBelow hb (fun _ => True)) (fun _ _ => trivial)
  refine ⟨fun j => if j = n then H else F j, fun j hj => ?_, fun j l hj hl hne k hf hg => ?_, fun k => ⟨fun hk => ?_, ?_⟩⟩
  · unfold swapP
    by_cases e : j = n
    · simp only [e, if_true]
      exact hu
    · simp only [e, if_false]
      exact hold j (by omega)
  · by_cases e : j = n
    · have e2 : l ≠ n := fun h => hne (e.trans h.symm)
      simp only [e, if_true] at hf
      simp only [e2, if_false] at hg
      have := (hT l (by omega)).lt (h1 l (by omega)) k hg
      have := hH k hf
      omega
    · simp only [e, if_false] at hf
      by_cases e2 : l = n
      · simp only [e2, if_true] at hg
        have := (hT j (by omega)).lt (h1 j (by omega)) k hf
        have := hH k hg
        omega
      · simp only [e2, if_false] at hg
        exact h2 j l (by omega) (by omega) hne k hf hg
  · rcases hk with hk | hk
    · obtain ⟨j, hj, hf⟩ := (h3 k).1 hk
      exact ⟨j, by omega, by show (if j = n then H else F j) k; rw [if_neg (by omega)]; exact hf⟩
    · exact ⟨n, by omega, by show (if n = n then H else F n) k; rw [if_pos rfl]; exact hk⟩
  · rintro ⟨j, hj, hf⟩
    by_cases e : j = n
    · rw [if_pos e] at hf
      exact .inr hf
    · rw [if_neg e] at hf
      exact .inl ((h3 k).2 ⟨j, by omega, hf⟩)
end
end Go.Proofs.YtchhmfdalghgcaaGreat
