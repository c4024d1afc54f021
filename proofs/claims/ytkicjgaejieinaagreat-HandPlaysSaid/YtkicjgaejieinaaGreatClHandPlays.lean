/- The law HandPlays: questions of any fate, and what becomes of those that are held, one behind the other: each answer, what is held, and how all nodes are. Conditions: none. -/
import Derived.Test.YtkicjgaejieinaaGreatG31a
import Derived.Test.YtkicjgaejieinaaGreatG29a
import Derived.Deep.RegionHeld3
import Derived.Deep.CutRange
import Derived.Deep.CutBlock
namespace Go.Proofs.YtkicjgaejieinaaGreat
open Go.ChangeShapes Go.WideShapes Go.ChangeAt Go.RowKit
open Go.ChangeMaps (open_string shut_string)
set_option linter.unusedVariables false
set_option maxRecDepth 20000

set_option maxHeartbeats 16000000 in
theorem handPlays_walk {UG : Nat → Nat → (Nat → Prop) → World → Us → Prop} {OG : Nat → (Nat → Prop) → World → Od → Prop} {LG : Nat → (Nat → Prop) → World → Ly → Prop} {NG : Nat → (Nat → Prop) → World → Nd → Prop} {HG : Nat → Nat → (Nat → Prop) → World → Hd → Prop} (HS : HandSays UG OG LG NG HG) (ep0 : Int) (ao0 : Option Addr) (cap0 : Nat) (L0 : List (List Int)) (ao : Option Addr) (cap : Nat) (l : List Hk) (hl : l.length ≤ maxLen) (w : World) (hP : PIn w ep0 ao0 cap0 L0) (hR : Row w ao 11 hstepC l) (hK : ∀ s ∈ l, HkIn w s) :
    Calls Tryz.prog 3 #[.agg #[.int .i64 ep0, .slice ao0 L0.length cap0], .slice ao l.length cap] w fun e w' => e = .returned (.bool true) ∧ Below w.heap.size w w' := by
  have CW := Lib.hid (fun w => wakes14_any HS w)
  have hl3 : (l.length : Int) ≤ 9223372036854775807 := by unfold maxLen at hl; omega
  have TT := Lib.hid (fun b nb => HS.thing b nb)
  have HB0 := Lib.hid (below_new w (.cells #[.int .i64 ep0, .slice ao0 L0.length cap0] 24))
  have HX0 := Lib.hid (show (w.alloc (.cells #[.int .i64 ep0, .slice ao0 L0.length cap0] 24)).heap[w.heap.size]? = some (.cells #[.int .i64 ep0, .slice ao0 L0.length cap0] 24 (0, 0)) from heap_alloc_new _ _)
  have HC := Lib.hid (hP.1.1.below HB0.out)
  have HEP := Lib.hid (show i64w ep0 from WalkArith.wf_i64 hP.2.1)
  have CL1 := Lib.hid (large_any ep0 ao0 cap0 L0 _ HC.out hP.2.2.1 hP.2.2.2)
  have HF := Lib.hid hR
  have HK := Lib.hid hK
  have HHL := Lib.hid hl
  clear hR hK hP hl
  cases hlg : largeB L0
  case true =>
    rw [hlg] at CL1
    clear hlg
    go_enter Tryz.func3, Tryz.ntmps3
    go_wp2_with (first
      | (go_at_call 7; refine CL1.out.mono ?_; rintro e w1 ⟨rfl, hb1⟩; have B1 := Lib.hid (HB0.out.trans (hb1.mono HB0.out.size)); clear hb1)
      | (go_at_call 9; refine (CW.out _).mono ?_; rintro e w6 ⟨rfl, hb6⟩))
    go_ret
    exact ⟨rfl, B1.out.trans (hb6.mono B1.out.size)⟩
  case false =>
  have HLN := Lib.hid (largeB_no hlg)
  rw [hlg] at CL1
  clear hlg
  go_enter Tryz.func3, Tryz.ntmps3
  go_wp2_with (go_at_call 7; refine CL1.out.mono ?_; rintro e w1 ⟨rfl, hb1⟩; have B1 := Lib.hid (HB0.out.trans (hb1.mono HB0.out.size)); have HC1 := Lib.hid (HC.out.below hb1); have HX1 := Lib.hid (below_heap hb1 HX0.out); clear hb1)
  refine (fair14_any ao cap l _ HHL.out (HF.out.below B1.out) (fun a ha => ⟨(HK.out a ha).1, (HK.out a ha).2.1, (HK.out a ha).2.2.below B1.out⟩)).mono ?_
  rintro e w2 ⟨⟨c, rfl, hf⟩, hb2⟩
  have B2 := Lib.hid (B1.out.trans (hb2.mono B1.out.size))
  have HC2 := Lib.hid (HC1.out.below hb2)
  have HX2 := Lib.hid (below_heap hb2 HX1.out)
  clear hb2 HX1 HC1 HX0 HC CL1
  cases c
  case false =>
    go_wp2_with (go_at_call 9; refine (CW.out _).mono ?_; rintro e w6 ⟨rfl, hb6⟩)
    go_ret
    exact ⟨rfl, B2.out.trans (hb6.mono B2.out.size)⟩
  case true =>
  have HFA := Lib.hid (hf rfl)
  clear hf
  obtain ⟨c0, c1, _, _⟩ := two_cells HX2.out
  have lx := lt_of_block HX2.out
  have H255 := Lib.hid (show fewL L0 from ⟨by have := HLN.out.1; omega, fun c hc => by have := HLN.out.2 c hc; omega⟩)
  cases hok : goodB ep0 L0
  case false =>
    have CN := Lib.hid (made14_no HS ep0 ao0 cap0 L0 40 w2 HC2.out H255.out (WalkArith.wf_i64 (n := 40) (by decide)) (fun h => by rw [hok] at h; cases h.1))
    clear hok
    go_wp2_with (first
      | (go_at_call 10; refine CN.out.mono ?_; rintro e w3 ⟨rfl, hb3⟩; have B3 := Lib.hid (B2.out.trans (hb3.mono B2.out.size)); clear hb3)
      | (go_at_call 9; refine (CW.out _).mono ?_; rintro e w6 ⟨rfl, hb6⟩))
    go_ret
    exact ⟨rfl, B3.out.trans (hb6.mono B3.out.size)⟩
  case true =>
  have CN := Lib.hid (made14_yes HS ep0 ao0 cap0 L0 40 w2 HC2.out H255.out hok (by decide) HEP.out)
  have U16 := Lib.hid (show (newN ep0 L0 40).l.used.length ≤ 16 * (0 + 1) from units_16 hok)
  clear hok
  generalize hN : newN ep0 L0 40 = N0 at *
  clear hN
  go_wp2_with (go_at_call 10; refine CN.out.mono ?_; rintro e w3 ⟨b, nb, r, rn, rfl, hs3, hb3⟩; have D3 := Lib.hid (show LookH HG w.heap.size w b nb r rn ⟨N0, []⟩ w3 from ⟨hs3.less (fun k hk => Nat.lt_of_lt_of_le hk B2.out.size), B2.out.trans (hb3.mono B2.out.size), Nat.le_trans B2.out.size hb3.size⟩); clear hs3 hb3 c0 c1)
  go_loopw [8] (fun i wr => ∃ (k : Nat) (h : Hd), i = .int .i64 k ∧ k ≤ l.length ∧ Hid (h.n.l.used.length ≤ 16 * (k + 1)) ∧ Hid (HeldIn w h) ∧ Hid (LookH HG w.heap.size w b nb r rn h wr)) (fun i _ => l.length - (intOf i).toNat)
  case atStart => exact ⟨0, ⟨N0, []⟩, rfl, Nat.zero_le _, U16, Lib.hid (fun a ha => by cases ha), D3⟩
  case round =>
    clear D3 U16 CN H255 HX2 HC2 B2 B1 HLN HB0 HEP
    obtain ⟨k, h, rfl, hk, HU, HI, HL⟩ := hrel
    by_cases hlt : k < l.length
    case neg =>
      obtain rfl : k = l.length := by omega
      go_wp2_with (go_at_call 9; refine (CW.out _).mono ?_; rintro e w6 ⟨rfl, hb6⟩)
      go_ret
      exact ⟨rfl, HL.out.2.1.trans (hb6.mono HL.out.2.2)⟩
    case pos =>
    have n0 : (k : Int) < (l.length : Int) := by omega
    have HLA := Lib.hid (HFA.out.2 _ (List.getElem_mem hlt))
    have HN150 := Lib.hid (Nat.lt_of_lt_of_le hlt HFA.out.1)
    obtain ⟨bk, off, hao, x0, x1, y0, y1, y2, y3, y4, y5, y6, y7, y8⟩ := hstep_at (HF.out.below HL.out.2.1) hlt
    subst hao
    have HA := Lib.hid (HK.out _ (List.getElem_mem hlt))
    generalize l[k] = s at *
    obtain ⟨sk, sn, a⟩ := s
    obtain ⟨kd, un, ep, pg, sz, nn, s, pe, L2, ao2, cap2⟩ := a
    simp only at x0 x1 y0 y1 y2 y3 y4 y5 y6 y7 y8
    have hbl := block_lt_of_cell x0
    go_upto_region 10 with fail
    clear x0 x1 y0 y1 y2 y3 y4 y5 y6 y7 y8 n0
    have HQ0 := Lib.hid (heap_alloc_new wr (.cells #[.int .i64 sk, .int .i64 sn, .int .i64 kd, .int .i64 un, .int .i64 ep, .int .i64 pg, .int .i64 sz, .int .i64 nn, .string s, .int .i64 pe, .slice ao2 L2.length cap2] 36))
    have SD0 := Lib.hid (show Side (HG b nb) (RH r rn) (fun k => k < w.heap.size ∨ k = wr.heap.size) (wr.alloc (.cells #[.int .i64 sk, .int .i64 sn, .int .i64 kd, .int .i64 un, .int .i64 ep, .int .i64 pg, .int .i64 sz, .int .i64 nn, .string s, .int .i64 pe, .slice ao2 L2.length cap2] 36)) h.plain h from Side.beside (TT.out b nb) (rh_thing r rn) HL.out.1 _)
    have HB0 := Lib.hid (HL.out.2.1.alloc HL.out.2.2 (.cells #[.int .i64 sk, .int .i64 sn, .int .i64 kd, .int .i64 un, .int .i64 ep, .int .i64 pg, .int .i64 sz, .int .i64 nn, .string s, .int .i64 pe, .slice ao2 L2.length cap2] 36))
    have HZ0 := Lib.hid (Nat.le_trans HL.out.2.2 (below_new wr (.cells #[.int .i64 sk, .int .i64 sn, .int .i64 kd, .int .i64 un, .int .i64 ep, .int .i64 pg, .int .i64 sz, .int .i64 nn, .string s, .int .i64 pe, .slice ao2 L2.length cap2] 36)).size)
    have HGD := Lib.hid (LookH.good HS HL.out)
    clear HL hbl
    generalize wr.alloc (.cells #[.int .i64 sk, .int .i64 sn, .int .i64 kd, .int .i64 un, .int .i64 ep, .int .i64 pg, .int .i64 sz, .int .i64 nn, .string s, .int .i64 pe, .slice ao2 L2.length cap2] 36) = W0 at *
    generalize wr.heap.size = g at *
    clear wr
    obtain ⟨z0, z1, z2, z3, z4, z5, z6, z7, z8, z9, z10⟩ : W0.cell? ⟨g, 0, none⟩ = some (.int .i64 sk) ∧ W0.cell? ⟨g, 1, none⟩ = some (.int .i64 sn) ∧ W0.cell? ⟨g, 2, none⟩ = some (.int .i64 kd) ∧ W0.cell? ⟨g, 3, none⟩ = some (.int .i64 un) ∧ W0.cell? ⟨g, 4, none⟩ = some (.int .i64 ep) ∧ W0.cell? ⟨g, 5, none⟩ = some (.int .i64 pg) ∧ W0.cell? ⟨g, 6, none⟩ = some (.int .i64 sz) ∧ W0.cell? ⟨g, 7, none⟩ = some (.int .i64 nn) ∧ W0.cell? ⟨g, 8, none⟩ = some (.string s) ∧ W0.cell? ⟨g, 9, none⟩ = some (.int .i64 pe) ∧ W0.cell? ⟨g, 10, none⟩ = some (.slice ao2 L2.length cap2) := ⟨cell_of HQ0.out 0, cell_of HQ0.out 1, cell_of HQ0.out 2, cell_of HQ0.out 3, cell_of HQ0.out 4, cell_of HQ0.out 5, cell_of HQ0.out 6, cell_of HQ0.out 7, cell_of HQ0.out 8, cell_of HQ0.out 9, cell_of HQ0.out 10⟩
    have lg := lt_of_block HQ0.out
    have HN16 := Lib.hid (show h.n.l.used.length ≤ 100000 from by have := HU.out; have := HN150.out; omega)
    have HSN := Lib.hid (show i64w sn from HA.out.2.1)
    have HAI := Lib.hid (show AkIn w ⟨kd, un, ep, pg, sz, nn, s, pe, L2, ao2, cap2⟩ from HA.out.2.2)
    clear HA
    go_upto_block 2 with fail
    go_cut [] from 44 to 130 (fun wx => ∃ h1 : Hd, Hid (h1.n.l.used.length ≤ 16 * (k + 1 + 1)) ∧ Hid (HeldIn w h1) ∧ Hid (LookH HG w.heap.size w b nb r rn h1 wx))
    case first =>
      by_cases q0 : sk = 0
      · have q0a : (sk == 0) = true := by rw [q0]; rfl
        clear q0
        have ecc : ((decide (sn = 0)) != (decide (sn = 0))) = false := by cases (decide (sn = 0)) <;> rfl
        have HASM := Lib.hid (heard_small HGD.out ⟨kd, un, ep, pg, sz, nn, s, pe, L2, ao2, cap2⟩ sn)
        have HU1 := Lib.hid (asked_used h ⟨kd, un, ep, pg, sz, nn, s, pe, L2, ao2, cap2⟩ sn (fun n => nd_used n _))
        have HI1 := Lib.hid (HI.out.asked (fate := sn) HAI.out HLA.out)
        have CX := Lib.hid (s_hask HS (fate := sn) SD0.out (fun k h => .inl h) HB0.out HZ0.out HAI.out HLA.out HN16.out HSN.out)
        have CR := Lib.hid (fun (h0 : Hd) (X : Nat → Prop) (W : World) (hs : Side (HG b nb) (RH r rn) X W h0 h) (hX : ∀ k, k < w.heap.size → X k) (hB : Below w.heap.size w W) (hZ : w.heap.size ≤ W.heap.size) => h_rask HS (fate := sn) hs hX hB hZ HAI.out HLA.out HN16.out)
        generalize h.asked ⟨kd, un, ep, pg, sz, nn, s, pe, L2, ao2, cap2⟩ sn = h' at *
        generalize h.heard ⟨kd, un, ep, pg, sz, nn, s, pe, L2, ao2, cap2⟩ sn = xa at *
        obtain ⟨xc, xn, xd, xp, xL, xm, xz, xe⟩ := xa
        simp only at HASM
        generalize decide (sn = 0) = cc at *
        go_wp2_with (first
          | (go_at_call 13; refine (answer_same ⟨xc, xn, xd, xp, xL, xm, xz, xe⟩ xo qo xcp qc _ CX2.out.here.1 CY2.out.here.1 HASM.out).mono ?_; rintro e w13 ⟨rfl, hb3⟩; have SD3 := Lib.hid (SD2.out.below (TT.out b nb) (rh_thing r rn) hb3); have HB3 := Lib.hid (HB2.out.trans (hb3.mono HZ2.out)); have HZ3 := Lib.hid (Nat.le_trans HZ2.out hb3.size); clear hb3)
          | (go_at_call 12; refine (CR.out _ _ _ SD1.out (fun k h => .inl (.inl (.inl h))) HB1.out HZ1.out).mono ?_; rintro e w12 ⟨qo, qc, C2, rfl, hC2, hD2, hk2⟩; unfold heardV heardC; have hbn := below_new w12 (.cells #[.int .i64 xc, .int .i64 xn, .string xd, .int .i64 xp, .slice qo xL.length qc, .int .i64 xm, .int .i64 xz, .int .i64 xe, .bool cc] 42); have SD2 := Lib.hid (hD2.below (TT.out b nb) (rh_thing r rn) hbn); have CX2 := Lib.hid ((CX1.out.keep hk2 (fun k hk => .inl (.inr hk))).keep (Kept.ofBelow hbn (fun _ => True)) (fun _ _ => trivial)); have CY2 := Lib.hid (hC2.keep (Kept.ofBelow hbn (fun _ => True)) (fun _ _ => trivial)); have P2 := Lib.hid (below_heap hbn (hk2.heap (b := w11.heap.size) (.inr rfl) P1.out)); have Q2 := Lib.hid (heap_alloc_new w12 (.cells #[.int .i64 xc, .int .i64 xn, .string xd, .int .i64 xp, .slice qo xL.length qc, .int .i64 xm, .int .i64 xz, .int .i64 xe, .bool cc] 42)); have lp := lt_of_block (hk2.heap (b := w11.heap.size) (.inr rfl) P1.out); have HB2 := Lib.hid ((HB1.out.trans (hk2.toBelow HZ1.out (fun k h => .inl (.inl (.inl h))))).alloc (Nat.le_trans HZ1.out hk2.size) (.cells #[.int .i64 xc, .int .i64 xn, .string xd, .int .i64 xp, .slice qo xL.length qc, .int .i64 xm, .int .i64 xz, .int .i64 xe, .bool cc] 42)); have HZ2 := Lib.hid (Nat.le_trans (Nat.le_trans HZ1.out hk2.size) hbn.size); clear hC2 hD2 hk2 hbn z0 z1 z2 z3 z4 z5 z6 z7 z8 z9 z10 lg; have p0 := cell_of P2.out 0; have p1 := cell_of P2.out 1; have p2 := cell_of P2.out 2; have p3 := cell_of P2.out 3; have p4 := cell_of P2.out 4; have p5 := cell_of P2.out 5; have p6 := cell_of P2.out 6; have p7 := cell_of P2.out 7; have q0 := cell_of Q2.out 0; have q1 := cell_of Q2.out 1; have q2 := cell_of Q2.out 2; have q3 := cell_of Q2.out 3; have q4 := cell_of Q2.out 4; have q5 := cell_of Q2.out 5; have q6 := cell_of Q2.out 6; have q7 := cell_of Q2.out 7; have q8 := cell_of Q2.out 8; clear P2 Q2)
          | (go_at_call 11; refine CX.out.mono ?_; rintro e w11 ⟨xo, xcp, C1, rfl, hC1, hD1, hk1⟩; unfold heardT ansV ansC; have hbn := below_new w11 (.cells #[.int .i64 xc, .int .i64 xn, .string xd, .int .i64 xp, .slice xo xL.length xcp, .int .i64 xm, .int .i64 xz, .int .i64 xe] 38); have SD1 := Lib.hid (Side.beside (TT.out b nb) (rh_thing r rn) hD1 (.cells #[.int .i64 xc, .int .i64 xn, .string xd, .int .i64 xp, .slice xo xL.length xcp, .int .i64 xm, .int .i64 xz, .int .i64 xe] 38)); have CX1 := Lib.hid (hC1.keep (Kept.ofBelow hbn (fun _ => True)) (fun _ _ => trivial)); have P1 := Lib.hid (heap_alloc_new w11 (.cells #[.int .i64 xc, .int .i64 xn, .string xd, .int .i64 xp, .slice xo xL.length xcp, .int .i64 xm, .int .i64 xz, .int .i64 xe] 38)); have Q1 := Lib.hid (below_heap hbn (hk1.heap (b := g) (.inr rfl) HQ0.out)); have lg1 := lt_of_block (hk1.heap (b := g) (.inr rfl) HQ0.out); have HB1 := Lib.hid ((HB0.out.trans (hk1.toBelow HZ0.out (fun k h => .inl h))).alloc (Nat.le_trans HZ0.out hk1.size) (.cells #[.int .i64 xc, .int .i64 xn, .string xd, .int .i64 xp, .slice xo xL.length xcp, .int .i64 xm, .int .i64 xz, .int .i64 xe] 38)); have HZ1 := Lib.hid (Nat.le_trans (Nat.le_trans HZ0.out hk1.size) hbn.size); clear hC1 hD1 hk1 hbn z0 z1 z2 z3 z4 z5 z6 z7 z8 z9 z10 lg; have lg := lg1; have z0 := cell_of Q1.out 0; have z1 := cell_of Q1.out 1; have z2 := cell_of Q1.out 2; have z3 := cell_of Q1.out 3; have z4 := cell_of Q1.out 4; have z5 := cell_of Q1.out 5; have z6 := cell_of Q1.out 6; have z7 := cell_of Q1.out 7; have z8 := cell_of Q1.out 8; have z9 := cell_of Q1.out 9; have z10 := cell_of Q1.out 10; clear lg1))
        go_meet
        case rel => exact ⟨h', Lib.hid (by have := HU1.out; have := HU.out; omega), HI1, Lib.hid ⟨SD3.out.less (fun k h => .inl (.inl (.inl (.inl h)))), HB3.out, HZ3.out⟩⟩
      by_cases q1 : sk = 1
      · have q1a : (sk == 0) = false := beq_eq_false_iff_ne.2 q0
        have q1b : (sk == 1) = true := by rw [q1]; rfl
        clear q0 q1
        have SD1 := Lib.hid (SD0.out.below (TT.out b nb) (rh_thing r rn) (w' := W0.drew) (Below.refl _ _).drew)
        have HB1 := Lib.hid (show Below w.heap.size w W0.drew from HB0.out.drew)
        have HZ1 := Lib.hid (show w.heap.size ≤ W0.drew.heap.size from HZ0.out)
        have HQ1 := Lib.hid (show W0.drew.heap[g]? = some (.cells #[.int .i64 sk, .int .i64 sn, .int .i64 kd, .int .i64 un, .int .i64 ep, .int .i64 pg, .int .i64 sz, .int .i64 nn, .string s, .int .i64 pe, .slice ao2 L2.length cap2] 36 (0, 0)) from HQ0.out)
        have HU1 := Lib.hid (show (h.does sn).n.l.used.length ≤ h.n.l.used.length + 16 from does_used h sn)
        have HI1 := Lib.hid (HI.out.does sn)
        have ebb : (h.has sn != h.has sn) = false := by cases h.has sn <;> rfl
        have CX := Lib.hid (s_hdo HS SD1.out HN16.out HSN.out)
        have CR := Lib.hid (fun (h0 : Hd) (X : Nat → Prop) (W : World) (hs : Side (HG b nb) (RH r rn) X W h0 h) (hX : ∀ k, k < w.heap.size → X k) (hB : Below w.heap.size w W) (hZ : w.heap.size ≤ W.heap.size) => h_rdo HS (k := sn) hs hX hB hZ HI.out HN16.out)
        generalize h.does sn = h' at *
        generalize h.has sn = cc at *
        clear z0 z2 z3 z4 z5 z6 z7 z8 z9 z10
        go_wp2_with fail
        go_region_held3 (fun W => W.cell? ⟨g, 1, none⟩ = some (.int .i64 sn))
          (first | exact cell_of HQ3.out 1 | exact cell_of HQ2.out 1 | exact cell_of HQ1.out 1)
          (first
            | (go_at_call 15; refine (CR.out _ _ _ SD2.out (fun k h => .inl h) HB2.out HZ2.out).mono ?_; rintro e w12 ⟨rfl, hD2, hk2⟩; have SD3 := Lib.hid hD2; have HB3 := Lib.hid (HB2.out.trans (hk2.toBelow HZ2.out (fun k h => .inl h))); have HZ3 := Lib.hid (Nat.le_trans HZ2.out hk2.size); have HQ3 := Lib.hid (hk2.heap (b := g) (.inr rfl) HQ2.out); clear hD2 hk2)
            | (go_at_call 14; refine CX.out.mono ?_; rintro e w11 ⟨rfl, hD1, hk1⟩; have SD2 := Lib.hid hD1; have HB2 := Lib.hid (HB1.out.trans (hk1.toBelow HZ1.out (fun k h => .inl h))); have HZ2 := Lib.hid (Nat.le_trans HZ1.out hk1.size); have HQ2 := Lib.hid (hk1.heap (b := g) (.inr rfl) HQ1.out); clear hD1 hk1))
        all_goals
          go_wp2_with fail
          go_meet
          case rel => exact ⟨h', Lib.hid (by have := HU1.out; have := HU.out; omega), HI1, Lib.hid ⟨SD3.out.less (fun k h => .inl h), HB3.out, HZ3.out⟩⟩
      by_cases q2 : sk = 2
      · have q2a : (sk == 0) = false := beq_eq_false_iff_ne.2 q0
        have q2b : (sk == 1) = false := beq_eq_false_iff_ne.2 q1
        have q2c : (sk == 2) = true := by rw [q2]; rfl
        clear q0 q1 q2
        have SD1 := Lib.hid (SD0.out.below (TT.out b nb) (rh_thing r rn) (w' := W0.drew) (Below.refl _ _).drew)
        have HB1 := Lib.hid (show Below w.heap.size w W0.drew from HB0.out.drew)
        have HZ1 := Lib.hid (show w.heap.size ≤ W0.drew.heap.size from HZ0.out)
        have HQ1 := Lib.hid (show W0.drew.heap[g]? = some (.cells #[.int .i64 sk, .int .i64 sn, .int .i64 kd, .int .i64 un, .int .i64 ep, .int .i64 pg, .int .i64 sz, .int .i64 nn, .string s, .int .i64 pe, .slice ao2 L2.length cap2] 36 (0, 0)) from HQ0.out)
        have HU1 := Lib.hid (show (h.drops sn).n.l.used.length ≤ h.n.l.used.length + 16 from by rw [drops_n]; omega)
        have HI1 := Lib.hid (HI.out.drops sn)
        have ebb : (h.has sn != h.has sn) = false := by cases h.has sn <;> rfl
        have CX := Lib.hid (s_hdrop HS SD1.out HSN.out)
        have CR := Lib.hid (fun (h0 : Hd) (X : Nat → Prop) (W : World) (hs : Side (HG b nb) (RH r rn) X W h0 h) (hX : ∀ k, k < w.heap.size → X k) (hB : Below w.heap.size w W) (hZ : w.heap.size ≤ W.heap.size) => h_rdrop HS (k := sn) hs)
        generalize h.drops sn = h' at *
        generalize h.has sn = cc at *
        clear z0 z2 z3 z4 z5 z6 z7 z8 z9 z10
        go_wp2_with fail
        go_region_held3 (fun W => W.cell? ⟨g, 1, none⟩ = some (.int .i64 sn))
          (first | exact cell_of HQ3.out 1 | exact cell_of HQ2.out 1 | exact cell_of HQ1.out 1)
          (first
            | (go_at_call 17; refine (CR.out _ _ _ SD2.out (fun k h => .inl h) HB2.out HZ2.out).mono ?_; rintro e w12 ⟨rfl, hD2, hk2⟩; have SD3 := Lib.hid hD2; have HB3 := Lib.hid (HB2.out.trans (hk2.toBelow HZ2.out (fun k h => .inl h))); have HZ3 := Lib.hid (Nat.le_trans HZ2.out hk2.size); have HQ3 := Lib.hid (hk2.heap (b := g) (.inr rfl) HQ2.out); clear hD2 hk2)
            | (go_at_call 16; refine CX.out.mono ?_; rintro e w11 ⟨rfl, hD1, hk1⟩; have SD2 := Lib.hid hD1; have HB2 := Lib.hid (HB1.out.trans (hk1.toBelow HZ1.out (fun k h => .inl h))); have HZ2 := Lib.hid (Nat.le_trans HZ1.out hk1.size); have HQ2 := Lib.hid (hk1.heap (b := g) (.inr rfl) HQ1.out); clear hD1 hk1))
        all_goals
          go_wp2_with fail
          go_meet
          case rel => exact ⟨h', Lib.hid (by have := HU1.out; have := HU.out; omega), HI1, Lib.hid ⟨SD3.out.less (fun k h => .inl h), HB3.out, HZ3.out⟩⟩
      · have q3a : (sk == 0) = false := beq_eq_false_iff_ne.2 q0
        have q3b : (sk == 1) = false := beq_eq_false_iff_ne.2 q1
        have q3c : (sk == 2) = false := beq_eq_false_iff_ne.2 q2
        clear q0 q1 q2
        go_wp2_with fail
        go_meet
        case rel => exact ⟨h, Lib.hid (by have := HU.out; omega), HI, Lib.hid ⟨SD0.out.less (fun k h => .inl h), HB0.out, HZ0.out⟩⟩
    case rest =>
      obtain ⟨h1, HU1, HI1, HL1⟩ := hcut
      clear SD0 HB0 HZ0 HQ0 HGD z0 z1 z2 z3 z4 z5 z6 z7 z8 z9 z10 lg HU HI HN16 HSN HAI HLA
      obtain ⟨ho, hcp, c0, c1, hrow, hlen, hrr⟩ := HL1.out.doc
      have HRO := Lib.hid hrow
      have HL64 := Lib.hid hlen
      have hl64 : (h1.held.length : Int) ≤ 64 := by omega
      have C01 := Lib.hid (⟨c0, c1⟩ : _ ∧ _)
      clear hrow hlen c0 c1
      go_wp2_with (go_at_call 18; refine (s_held HS HL1.out).mono ?_; rintro e w4 ⟨vo, vc, l2, rfl, hm, hrow2, hcl2, hl4, hb4⟩; have HL4 := Lib.hid hl4; have HM := Lib.hid hm; have HR2 := Lib.hid hrow2; have HC2 := Lib.hid hcl2; have HRO4 := Lib.hid (HRO.out.below hb4); have D0 := Lib.hid (cellB hb4 hrr C01.out.1); have c1 := cellB hb4 hrr C01.out.2; have D1 := Lib.hid c1; have hr4 := Nat.lt_of_lt_of_le hrr hb4.size; clear hm hrow2 hcl2 hl4 hb4)
      clear HL1 HRO C01 hrr
      go_loopw [14] (fun j wr => ∃ i : Nat, j = .int .i64 i ∧ i ≤ h1.held.length ∧ Hid (Below w4.heap.size w4 wr)) (fun j _ => h1.held.length - (intOf j).toNat)
      case atStart => exact ⟨0, rfl, Nat.zero_le _, Lib.hid (Below.refl _ _)⟩
      case round =>
        obtain ⟨i, rfl, hi, HB⟩ := hrel
        have hrz := Nat.lt_of_lt_of_le hr4 HB.out.size
        by_cases hil : i < h1.held.length
        case pos =>
          have i0 : (i : Int) < (h1.held.length : Int) := by omega
          have HBd := Lib.hid (show Below w4.heap.size w4 wr.drew from HB.out.drew)
          obtain ⟨hi2, pao, pcap, hpair⟩ := held_pair HM.out hil
          have HAL := Lib.hid (few_of (HI1.out _ (List.getElem_mem hil)).2)
          have HCA := Lib.hid (show CL wr.drew h1.held[i].ao h1.held[i].L from (HI1.out _ (List.getElem_mem hil)).1.2.below ((HL4.out.below HS HBd.out).2.1))
          have hcb : CL wr.drew pao h1.held[i].L := by
            have := (HC2.out _ (List.getElem_mem hi2)).below HBd.out
            rw [hpair] at this
            exact this
          have HCB := Lib.hid hcb
          obtain ⟨bq, oq, hqo, _⟩ := ask_at HRO4.out hil
          subst hqo
          obtain ⟨bp, op, hpo, _⟩ := ask_at HR2.out hi2
          subst hpo
          have N9 := Lib.hid (fun (W : World) (hb : Below w4.heap.size w4 W) => ask_here HRO4.out hil hb)
          have M9 := Lib.hid (fun (W : World) (hb : Below w4.heap.size w4 W) => ask_here HR2.out hi2 hb)
          rw [hpair] at M9
          clear hcb hpair
          generalize h1.held[i] = a1 at *
          obtain ⟨kd, un, ep, pg, sz, nn, s, pe, L2, qao, qcap⟩ := a1
          simp only at N9 M9
          have HA1 := Lib.hid (show L2.length ≤ 1000000 ∧ ∀ c ∈ L2, c.length ≤ 1000000 from ⟨Nat.le_trans HAL.out.1.1 (by decide), fun c hc => Nat.le_trans (HAL.out.1.2 c hc) (by decide)⟩)
          have CS := Lib.hid (ask_same ⟨kd, un, ep, pg, sz, nn, s, pe, L2, qao, qcap⟩ pao qao pcap qcap wr.drew HCB.out HCA.out HA1.out)
          have c1w := cellB HB.out hr4 D1.out
          go_wp2_with fail
          go_region_held3 (fun W => (W.cell? ⟨r, 1, none⟩ = some (.slice (some ⟨bq, oq, none⟩) h1.held.length hcp)) ∧ (W.cell? ⟨bp, op + i * 9, none⟩ = some (.int .i64 kd) ∧ W.cell? ⟨bp, op + i * 9 + 1, none⟩ = some (.int .i64 un) ∧ W.cell? ⟨bp, op + i * 9 + 2, none⟩ = some (.int .i64 ep) ∧ W.cell? ⟨bp, op + i * 9 + 3, none⟩ = some (.int .i64 pg) ∧ W.cell? ⟨bp, op + i * 9 + 4, none⟩ = some (.int .i64 sz) ∧ W.cell? ⟨bp, op + i * 9 + 5, none⟩ = some (.int .i64 nn) ∧ W.cell? ⟨bp, op + i * 9 + 6, none⟩ = some (.string s) ∧ W.cell? ⟨bp, op + i * 9 + 7, none⟩ = some (.int .i64 pe) ∧ W.cell? ⟨bp, op + i * 9 + 8, none⟩ = some (.slice pao L2.length pcap)) ∧ (W.cell? ⟨bq, oq + i * 9, none⟩ = some (.int .i64 kd) ∧ W.cell? ⟨bq, oq + i * 9 + 1, none⟩ = some (.int .i64 un) ∧ W.cell? ⟨bq, oq + i * 9 + 2, none⟩ = some (.int .i64 ep) ∧ W.cell? ⟨bq, oq + i * 9 + 3, none⟩ = some (.int .i64 pg) ∧ W.cell? ⟨bq, oq + i * 9 + 4, none⟩ = some (.int .i64 sz) ∧ W.cell? ⟨bq, oq + i * 9 + 5, none⟩ = some (.int .i64 nn) ∧ W.cell? ⟨bq, oq + i * 9 + 6, none⟩ = some (.string s) ∧ W.cell? ⟨bq, oq + i * 9 + 7, none⟩ = some (.int .i64 pe) ∧ W.cell? ⟨bq, oq + i * 9 + 8, none⟩ = some (.slice qao L2.length qcap)))
            (first | exact ⟨cellB HB5.out hr4 D1.out, M9.out _ HB5.out, N9.out _ HB5.out⟩ | exact ⟨cellB HBd.out hr4 D1.out, M9.out _ HBd.out, N9.out _ HBd.out⟩)
            (first
              | (go_at_call 19; refine CS.out.mono ?_; rintro e w5 ⟨rfl, hb5⟩; have HB5 := Lib.hid (HBd.out.trans (hb5.mono HBd.out.size)); clear hb5))
          all_goals
            go_wp2_with fail
            go_roundw
            case rel => exact ⟨i + 1, by go_num, by omega, HB5⟩
            case measure => simp [intOf]; omega
        case neg =>
          obtain rfl : i = h1.held.length := by omega
          have HL5 := Lib.hid (HL4.out.below HS (show Below w4.heap.size w4 wr.drew from HB.out.drew))
          have D5 := Lib.hid (cellB (show Below w4.heap.size w4 wr.drew from HB.out.drew) hr4 D0.out)
          have hr5 : r < wr.drew.heap.size := hrz
          go_wp2_with fail
          go_region_held3 (fun W => W.cell? ⟨r, 0, none⟩ = some (.pointer (some ⟨rn, 0, none⟩)))
            (first | exact D6.out | exact D5.out | exact (LookH.doc HL7.out).choose_spec.choose_spec.1)
            (first
              | (go_at_call 20; refine (s_same14 HS HL6.out).mono ?_; rintro e w7 ⟨rfl, hl7⟩; have HL7 := Lib.hid hl7; clear hl7)
              | (go_at_call 21; refine (s_nodes HS HL5.out).mono ?_; rintro e w6 ⟨rfl, hl6, hb6⟩; have HL6 := Lib.hid hl6; have D6 := Lib.hid (cellB hb6 hr5 D5.out); clear hl6 hb6))
          all_goals
            go_wp2_with fail
            go_roundw
            case rel => exact ⟨k + 1, h1, by go_num, by omega, HU1, HI1, HL7⟩
            case measure => simp [intOf]; omega

set_option maxRecDepth 100000 in
theorem handPlays_lifted (os : Os) (started : os.Started) (H : Type) (enc : TypeId × Value → H) :
    ReturnsInHanded {} Tryz.checked os 3 .any (Rows.handPlaysSpec.pre6 enc Tryz.prog Tryz.f3 Rows.handPlaysRow.domain false) (Rows.handPlaysSpec.post enc Tryz.prog Tryz.f3 false true false false) := by
  refine returnsInHanded_of_change (C := Tryz.checked) own started (by kernel_rfl) Tryz.func3
    (ChangeSpec.witness6 (enc := enc) (C := Tryz.checked) false ⟨#[], #[.agg #[.int .i64 0, .slice none 0 0], .slice none 0 0], []⟩ 8 (by kernel_rfl) (by kernel_rfl) (by kernel_rfl) (by kernel_rfl)) ?_
  intro W base args ds gs before hval0 hW hcnd _
  have hval : ∀ (j : Nat) t v, Tryz.f3.params[j]? = some t → args[j]? = some v → Value.okWide Tryz.prog W .any base t v := hval0
  have hW' := hW
  obtain ⟨p, q, hA0, hV, rfl, hfz, hnd⟩ := hW
  have hA : DataW.TrodAll enc Tryz.prog W 0 (fun _ => true) true Tryz.f3.params.toList args.toList ds p := hA0
  rw [Tryz.params3] at hA hval
  obtain ⟨v0, vs0, d0, ds0, p0, q0, hargs, rfl, rfl, h0, r0⟩ := trodAll_cons hA
  obtain ⟨v1, vs1, d1, ds1, p1, q1, rfl, rfl, rfl, h1, r1⟩ := trodAll_cons r0
  obtain ⟨rfl, rfl, rfl⟩ := trodAll_nil r1
  obtain rfl : args = #[v0, v1] := by cases args; simp_all
  obtain ⟨rfl, rfl⟩ := trodVars_none hV
  have k0 := h0
  have lt0 : ∀ x ∈ p0, x.block < W.heap.size := by obtain ⟨m, hm⟩ := k0; exact DataW.trod_lt m _ _ _ hm
  have k1 := h1
  have lt1 : ∀ x ∈ p1, x.block < W.heap.size := by obtain ⟨m, hm⟩ := k1; exact DataW.trod_lt m _ _ _ hm
  obtain ⟨ep0, ao0, cap0, L0, rfl, wf0, hC0, hn0, hc0, hl0, hm0⟩ := open_proj Tryz.underlying24 (by kernel_rfl) rfl rfl (by kernel_rfl) (by kernel_rfl) Tryz.underlying3 Tryz.underlying22 Tryz.underlying57 (by kernel_rfl) (hval 0 24 v0 rfl rfl) h0
  have hF0 : PIn W ep0 ao0 cap0 L0 := ⟨⟨hC0, hn0, hc0⟩, i64_of_wf wf0, hl0, fun c hcm => by obtain ⟨i, hi, rfl⟩ := List.getElem_of_mem hcm; exact hm0 i hi⟩
  obtain ⟨ao1, cap1, L1, rfl, w1, hR1, hK1, hn1, hc1⟩ := open_rows (f := hstepC) (ok := HkIn) (n := 10) Tryz.underlying25 (by kernel_rfl) (fun m cs y hl hf => hstep_cs askT Tryz.underlying36 rfl rfl rfl hl hf) (hval 1 25 v1 rfl rfl) h1
  clear hA0 hval0
  refine (handPlays_walk handSays ep0 ao0 cap0 L0 ao1 cap1 L1 w1 W hF0 hR1 hK1).mono fun e W' ⟨he, bel⟩ => ?_
  subst he
  exact ⟨_, rfl, _, _, _, [], _, [], hW', trodAll_mk1 (shut_bool Tryz.underlying4 _), (trodAll_cons_mk (Below.trod laidOut (by kernel_rfl) (of_decide_eq_true (by kernel_rfl)) k0 bel lt0) (trodAll_cons_mk (Below.trod laidOut (by kernel_rfl) (of_decide_eq_true (by kernel_rfl)) k1 bel lt1) trodAll_mk0)), rfl, bel.frame _, fun h => by cases h⟩

theorem handPlays_over : Rows.handPlaysRow.holds Tryz.pinned (OpenSpec.ofChange Rows.handPlaysSpec) :=
  OpenClaim.holds_of_wide 3 Tryz.f3 rfl rfl rfl rfl rfl rfl rfl ⟨rfl, rfl, rfl, rfl, rfl⟩ rfl rfl rfl rfl rfl (by kernel_rfl) Tryz.func3 (by kernel_rfl)
    (of_decide_eq_true (by kernel_rfl)) (by unfold Func.isWrapper; first | (rw [if_pos (by decide +kernel)]; kernel_rfl) | (rw [if_neg (by decide +kernel)]; exact ⟨rfl, rfl⟩))
    (fun os started H enc _ => handPlays_lifted os started H enc)

/-- THE STATEMENT -/
theorem handPlays_holds : Rows.HandPlaysSaid := handPlays_over 
end Go.Proofs.YtkicjgaejieinaaGreat
