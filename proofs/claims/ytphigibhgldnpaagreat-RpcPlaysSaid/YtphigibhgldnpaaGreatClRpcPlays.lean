/- The law RpcPlays: questions of any kind to any node, one behind the other, are answered as the document's own nodes answer, and all nodes are as theirs. Conditions: none. -/
import Derived.Test.YtphigibhgldnpaaGreatG28a
import Derived.Test.YtphigibhgldnpaaGreatG24b
import Derived.Test.YtphigibhgldnpaaGreatG23e
import Derived.Test.YtphigibhgldnpaaGreatG24a
import Derived.Test.YtphigibhgldnpaaGreatG11b
import Derived.Test.YtphigibhgldnpaaGreatG21a
import Derived.Deep.RegionHeld3
namespace Go.Proofs.YtphigibhgldnpaaGreat
open Go.ChangeShapes Go.WideShapes Go.ChangeAt Go.RowKit
open Go.ChangeMaps (open_string shut_string)
set_option linter.unusedVariables false
set_option maxRecDepth 20000

section
variable {α β : Type} {T : (Nat → Prop) → World → α → Prop} {U : (Nat → Prop) → World → β → Prop} {X : Nat → Prop} {w : World} {a : α} {b : β}
theorem Side.left (h : Side T U X w a b) : Solo T X w a := by
  obtain ⟨h1, F, G, h2, h3, h4, h5⟩ := h
  exact ⟨h1, F, h2, fun k hk => (h4 k hk).1⟩
theorem Side.right (h : Side T U X w a b) : Solo U X w b := h.swap.left
end
/-- the program's nodes and the document's, side by side above a bound -/
def LookN (NG : Nat → (Nat → Prop) → World → Nd → Prop) (B : Nat) (w : World) (b r : Nat) (n : Nd) (W : World) : Prop := Side (NG b) (RN r) (fun k => k < B) W n n ∧ Below B w W ∧ B ≤ W.heap.size
set_option maxHeartbeats 16000000 in
theorem rpcPlays_walk {UG : Nat → Nat → (Nat → Prop) → World → Us → Prop} {OG : Nat → (Nat → Prop) → World → Od → Prop} {LG : Nat → (Nat → Prop) → World → Ly → Prop} {NG : Nat → (Nat → Prop) → World → Nd → Prop} (HS : RpcSays UG OG LG NG) (ep0 : Int) (ao0 : Option Addr) (cap0 : Nat) (L0 : List (List Int)) (x : Int) (ao : Option Addr) (cap : Nat) (l : List Ak) (wx : (Lit.int .i64 x).wf = true) (hl : l.length ≤ maxLen) (w : World) (hP : PIn w ep0 ao0 cap0 L0) (hR : Row w ao 9 askC l) (hK : ∀ a ∈ l, AkIn w a) :
    Calls Tryz.prog 3 #[.agg #[.int .i64 ep0, .slice ao0 L0.length cap0], .int .i64 x, .slice ao l.length cap] w fun e w' => e = .returned (.bool true) ∧ Below w.heap.size w w' := by
  have CW := Lib.hid (fun w => wakes13_any HS w)
  have hl3 : (l.length : Int) ≤ 9223372036854775807 := by unfold maxLen at hl; omega
  have TT := Lib.hid (fun b => HS.thing b)
  have HB0 := Lib.hid (below_new w (.cells #[.int .i64 ep0, .slice ao0 L0.length cap0] 24))
  have HX0 := Lib.hid (show (w.alloc (.cells #[.int .i64 ep0, .slice ao0 L0.length cap0] 24)).heap[w.heap.size]? = some (.cells #[.int .i64 ep0, .slice ao0 L0.length cap0] 24 (0, 0)) from heap_alloc_new _ _)
  have HC := Lib.hid (hP.1.1.below HB0.out)
  have HEP := Lib.hid (show i64w ep0 from WalkArith.wf_i64 hP.2.1)
  have CL1 := Lib.hid (large_any ep0 ao0 cap0 L0 _ HC.out hP.2.2.1 hP.2.2.2)
  have HF := Lib.hid hR
  have HK := Lib.hid hK
  have HHL := Lib.hid hl
  have WX := Lib.hid wx
  clear hR hK hP hl wx
  cases hlg : largeB L0
  case true =>
    rw [hlg] at CL1
    clear hlg
    go_enter Tryz.func3, Tryz.ntmps3
    go_wp2_with (first
      | (go_at_call 4; refine CL1.out.mono ?_; rintro e w1 ⟨rfl, hb1⟩; have B1 := Lib.hid (HB0.out.trans (hb1.mono HB0.out.size)); clear hb1)
      | (go_at_call 6; refine (CW.out _).mono ?_; rintro e w6 ⟨rfl, hb6⟩))
    go_ret
    exact ⟨rfl, B1.out.trans (hb6.mono B1.out.size)⟩
  case false =>
  have HLN := Lib.hid (largeB_no hlg)
  rw [hlg] at CL1
  clear hlg
  go_enter Tryz.func3, Tryz.ntmps3
  go_wp2_with (go_at_call 4; refine CL1.out.mono ?_; rintro e w1 ⟨rfl, hb1⟩; have B1 := Lib.hid (HB0.out.trans (hb1.mono HB0.out.size)); have HC1 := Lib.hid (HC.out.below hb1); have HX1 := Lib.hid (below_heap hb1 HX0.out); clear hb1)
  refine (fair13_any ao cap l _ HHL.out (HF.out.below B1.out) (fun a ha => (HK.out a ha).below B1.out)).mono ?_
  rintro e w2 ⟨⟨c, rfl, hf⟩, hb2⟩
  have B2 := Lib.hid (B1.out.trans (hb2.mono B1.out.size))
  have HC2 := Lib.hid (HC1.out.below hb2)
  have HX2 := Lib.hid (below_heap hb2 HX1.out)
  clear hb2 HX1 HC1 HX0 HC CL1
  cases c
  case false =>
    go_wp2_with (go_at_call 6; refine (CW.out _).mono ?_; rintro e w6 ⟨rfl, hb6⟩)
    go_ret
    exact ⟨rfl, B2.out.trans (hb6.mono B2.out.size)⟩
  case true =>
  have HFA := Lib.hid (hf rfl)
  clear hf
  obtain ⟨c0, c1, _, _⟩ := two_cells HX2.out
  have H1000 := Lib.hid (show L0.length ≤ 1000 ∧ ∀ c ∈ L0, c.length ≤ 1000 from ⟨by have := HLN.out.1; omega, fun c hc => by have := HLN.out.2 c hc; omega⟩)
  have H255 := Lib.hid (show fewL L0 from ⟨by have := HLN.out.1; omega, fun c hc => by have := HLN.out.2 c hc; omega⟩)
  by_cases hok : goodB ep0 L0 = true ∧ 1 ≤ x ∧ x ≤ 4096
  case neg =>
    obtain ⟨ec, CN, CM⟩ : ∃ ec : Int, Hid (∀ (go : Option Addr) (gc : Nat) (w : World), CL w go L0 → Calls Tryz.prog 7 #[.agg #[.int .i64 ep0, .slice go L0.length gc], .int .i64 x] w fun e w' => e = .returned (.tuple #[.pointer none, .int .i64 ec]) ∧ Below w.heap.size w w') ∧ Hid (∀ (w : World), CL w ao0 L0 → Calls Tryz.prog 9 #[.agg #[.int .i64 ep0, .slice ao0 L0.length cap0], .int .i64 x] w fun e w' => e = .returned (.tuple #[.pointer none, .int .i64 ec]) ∧ Below w.heap.size w w') := by
      cases hg : goodB ep0 L0
      · exact ⟨11, Lib.hid (fun go gc w h => HS.new_bad ep0 go gc L0 x w h H255.out hg WX.out), Lib.hid (fun w h => rn_new_bad ep0 ao0 cap0 L0 x w h H255.out hg)⟩
      · have hr : x < 1 ∨ 4096 < x := by
          by_cases h1 : x < 1
          · exact .inl h1
          · exact .inr (Classical.byContradiction fun h2 => hok ⟨hg, by omega, by omega⟩)
        exact ⟨1, Lib.hid (fun go gc w h => HS.new_room ep0 go gc L0 x w h H255.out hg hr WX.out), Lib.hid (fun w h => rn_new_room ep0 ao0 cap0 L0 x w h H255.out hg hr)⟩
    clear hok
    go_wp2_with (first
      | (go_at_call 8; refine (keepCopyO_any ep0 ao0 cap0 L0 _ HC2.out H1000.out).mono ?_; rintro e w3 ⟨v, rfl, hO, hb3⟩; obtain ⟨go, gc, hv, hN3, _, _⟩ := hO.form; subst hv; have HN3 := Lib.hid hN3; have B3 := Lib.hid (B2.out.trans (hb3.mono B2.out.size)); have HC3 := Lib.hid (HC2.out.below hb3); have HX3 := Lib.hid (below_heap hb3 HX2.out); clear hO hN3 hb3 c0 c1)
      | (go_at_call 7; refine (CN.out go gc _ HN3.out).mono ?_; rintro e w4 ⟨rfl, hb4⟩; have B4 := Lib.hid (B3.out.trans (hb4.mono B3.out.size)); have HC4 := Lib.hid (HC3.out.below hb4); obtain ⟨c0, c1, _, _⟩ := two_cells (below_heap hb4 HX3.out); clear hb4)
      | (go_at_call 9; refine (CM.out _ HC4.out).mono ?_; rintro e w5 ⟨rfl, hb5⟩; have B5 := Lib.hid (B4.out.trans (hb5.mono B4.out.size)); clear hb5 c0 c1))
    go_loopw [11] (fun i wr => i = .int .i64 0 ∧ wr = w5) (fun i _ => l.length)
    case atStart => exact ⟨rfl, rfl⟩
    case round =>
      obtain ⟨rfl, rfl⟩ := hrel
      by_cases hlt : (0 : Int) < (l.length : Int)
      · go_wp2_with (go_at_call 6; refine (CW.out _).mono ?_; rintro e w6 ⟨rfl, hb6⟩)
        go_ret
        exact ⟨rfl, B5.out.trans (hb6.mono B5.out.size)⟩
      · have hlt' : (l.length : Int) ≤ 0 := by omega
        go_wp2_with (go_at_call 6; refine (CW.out _).mono ?_; rintro e w6 ⟨rfl, hb6⟩)
        go_ret
        exact ⟨rfl, B5.out.trans (hb6.mono B5.out.size)⟩
  case pos =>
  have HG := Lib.hid hok.1
  have HRM := Lib.hid hok.2
  have U16 := Lib.hid (show (newN ep0 L0 x).l.used.length ≤ 16 * (0 + 1) from units_16 hok.1)
  clear hok
  go_wp2_with (first
    | (go_at_call 8; refine (keepCopyO_any ep0 ao0 cap0 L0 _ HC2.out H1000.out).mono ?_; rintro e w3 ⟨v, rfl, hO, hb3⟩; obtain ⟨go, gc, hv, hN3, _, _⟩ := hO.form; subst hv; have HN3 := Lib.hid hN3; have B3 := Lib.hid (B2.out.trans (hb3.mono B2.out.size)); have HC3 := Lib.hid (HC2.out.below hb3); have HX3 := Lib.hid (below_heap hb3 HX2.out); clear hO hN3 hb3 c0 c1)
    | (go_at_call 7; refine (n_new HS HN3.out H255.out HG.out HRM.out).mono ?_; unfold ptrN; rintro e w4 ⟨b, rfl, hs4, hb4⟩; have S4 := Lib.hid (hs4.less (fun k hk => Nat.lt_of_lt_of_le hk B3.out.size)); have B4 := Lib.hid (B3.out.trans (hb4.mono B3.out.size)); have HC4 := Lib.hid (HC3.out.below hb4); obtain ⟨c0, c1, _, _⟩ := two_cells (below_heap hb4 HX3.out); clear hs4 hb4)
    | (go_at_call 9; refine (rn_new_yes ep0 ao0 cap0 L0 x _ HC4.out H255.out HG.out HRM.out HEP.out).mono ?_; rintro e w5 ⟨r, G5, rfl, hr5, hg5, hb5⟩; have D5 := Lib.hid (show LookN NG w.heap.size w b r (newN ep0 L0 x) w5 from ⟨Side.made (TT.out b) S4.out hb5 hr5 hg5, B4.out.trans (hb5.mono B4.out.size), Nat.le_trans B4.out.size hb5.size⟩); clear hr5 hg5 hb5 c0 c1))
  go_loopw [11] (fun i wr => ∃ (k : Nat) (N : Nd), i = .int .i64 k ∧ k ≤ l.length ∧ Hid (N.l.used.length ≤ 16 * (k + 1)) ∧ Hid (LookN NG w.heap.size w b r N wr)) (fun i _ => l.length - (intOf i).toNat)
  case atStart => exact ⟨0, newN ep0 L0 x, rfl, Nat.zero_le _, U16, D5⟩
  case round =>
    clear D5 S4 B4 HC4 HX3 HC3 B3 HN3 U16 HG H1000 H255 HX2 HC2 B2 B1 HLN HB0
    obtain ⟨k, N, rfl, hk, HU, HL⟩ := hrel
    by_cases hlt : k < l.length
    case neg =>
      obtain rfl : k = l.length := by omega
      go_wp2_with (go_at_call 6; refine (CW.out _).mono ?_; rintro e w6 ⟨rfl, hb6⟩)
      go_ret
      exact ⟨rfl, HL.out.2.1.trans (hb6.mono HL.out.2.2)⟩
    case pos =>
    have n0 : (k : Int) < (l.length : Int) := by omega
    have HLA := Lib.hid (largeA_no (HFA.out.2 _ (List.getElem_mem hlt)))
    have HN150 := Lib.hid (Nat.lt_of_lt_of_le hlt HFA.out.1)
    obtain ⟨bk, off, hao, x0, x1, x2, x3, x4, x5, x6, x7, x8⟩ := ask_at (HF.out.below HL.out.2.1) hlt
    subst hao
    have N9 := Lib.hid (fun (W : World) (h : Below w.heap.size w W) => ask_here HF.out hlt h)
    have HA := Lib.hid (HK.out _ (List.getElem_mem hlt))
    generalize l[k] = a at *
    obtain ⟨kd, un, ep, pg, sz, nn, s, pe, L2, ao2, cap2⟩ := a
    simp only at N9 x0 x1 x2 x3 x4 x5 x6 x7 x8
    have SD0 := Lib.hid (HL.out.1.below (TT.out b) (rn_thing r) (w' := wr.drew) (Below.refl _ _).drew)
    have HB0 := Lib.hid (show Below w.heap.size w wr.drew from HL.out.2.1.drew)
    have HZ0 := Lib.hid (show w.heap.size ≤ wr.drew.heap.size from HL.out.2.2)
    have HUS := Lib.hid (show N.l.used.length ≤ 100000 from by have := HU.out; have := HN150.out; omega)
    have H255 := Lib.hid (show fewL L2 from ⟨by have := HLA.out.2.1; simp only at this; omega, fun c hc => by have := HLA.out.2.2 c hc; omega⟩)
    have HDS := Lib.hid (show s.size ≤ 1000000 from Nat.le_trans HLA.out.1 (by decide))
    obtain ⟨_, G0, hG0, _⟩ := HL.out.1.left
    have hgood := (HS.ok hG0).2.2
    have HASM := Lib.hid (show (N.ans ⟨kd, un, ep, pg, sz, nn, s, pe, L2, ao2, cap2⟩).L.length ≤ 1000000 ∧ ∀ c ∈ (N.ans ⟨kd, un, ep, pg, sz, nn, s, pe, L2, ao2, cap2⟩).L, c.length ≤ 1000000 from ⟨Nat.le_trans (nd_small hgood _).1 (by decide), fun c hc => Nat.le_trans ((nd_small hgood _).2 c hc) (by decide)⟩)
    have HYU := Lib.hid (show (N.done ⟨kd, un, ep, pg, sz, nn, s, pe, L2, ao2, cap2⟩).l.used.length ≤ 16 * (k + 1 + 1) from by have := nd_used N ⟨kd, un, ep, pg, sz, nn, s, pe, L2, ao2, cap2⟩; have := HU.out; omega)
    have CX := Lib.hid (fun (F : Nat → Prop) (hF : NG b F wr.drew N) (hX : ∀ k, k < w.heap.size → ¬ F k) => HS.ask b F wr.drew N ⟨kd, un, ep, pg, sz, nn, s, pe, L2, ao2, cap2⟩ hF HA.out.1 H255.out HDS.out HUS.out (fun W (hk : Kept (fun k => ¬ F k) wr.drew W) => HA.out.2.below (HB0.out.trans ((hk.mono (T := fun k => k < w.heap.size) (fun k h => hX k h)).toBelow HZ0.out (fun k h => h)))))
    have CR := Lib.hid (fun (w11 : World) (F X : Nat → Prop) (hF : RN r F w11 N) (hX : ∀ k, X k → ¬ F k) (hB : Below w.heap.size w w11) (hZ : w.heap.size ≤ w11.heap.size) (hXB : ∀ k, k < w.heap.size → X k) => ndo_any r F w11 N ⟨kd, un, ep, pg, sz, nn, s, pe, L2, ao2, cap2⟩ hF HA.out.1.epoch HDS.out HUS.out (fun W hk => HA.out.2.below (hB.trans ((hk.mono (T := fun k => k < w.heap.size) (fun k h => hX k (hXB k h))).toBelow hZ (fun k h => h)))) H255.out)
    unfold ptrN at CX CR
    clear hgood hG0 HL HU HA HLA
    generalize N.done ⟨kd, un, ep, pg, sz, nn, s, pe, L2, ao2, cap2⟩ = N' at *
    generalize N.ans ⟨kd, un, ep, pg, sz, nn, s, pe, L2, ao2, cap2⟩ = xa at *
    obtain ⟨xc, xn, xd, xp, xL, xm, xz, xe⟩ := xa
    simp only at HASM
    go_wp2_with fail
    go_region_held3 (fun W => W.cell? ⟨bk, off + k * 9, none⟩ = some (.int .i64 kd) ∧ W.cell? ⟨bk, off + k * 9 + 1, none⟩ = some (.int .i64 un) ∧ W.cell? ⟨bk, off + k * 9 + 2, none⟩ = some (.int .i64 ep) ∧ W.cell? ⟨bk, off + k * 9 + 3, none⟩ = some (.int .i64 pg) ∧ W.cell? ⟨bk, off + k * 9 + 4, none⟩ = some (.int .i64 sz) ∧ W.cell? ⟨bk, off + k * 9 + 5, none⟩ = some (.int .i64 nn) ∧ W.cell? ⟨bk, off + k * 9 + 6, none⟩ = some (.string s) ∧ W.cell? ⟨bk, off + k * 9 + 7, none⟩ = some (.int .i64 pe) ∧ W.cell? ⟨bk, off + k * 9 + 8, none⟩ = some (.slice ao2 L2.length cap2))
      (first | exact N9.out _ HB4.out | exact N9.out _ HB3.out | exact N9.out _ HB2.out | exact N9.out _ HB1.out | exact N9.out _ HB0.out)
      (first
        | (go_at_call 13; refine (same13_any HS b r _ N' _ SD3.out.left SD3.out.right).mono ?_; rintro e w14 ⟨rfl, hb4⟩; have SD4 := Lib.hid (SD3.out.below (TT.out b) (rn_thing r) hb4); have HB4 := Lib.hid (HB3.out.trans (hb4.mono HZ3.out)); have HZ4 := Lib.hid (Nat.le_trans HZ3.out hb4.size); clear hb4)
        | (go_at_call 10; refine (answer_same ⟨xc, xn, xd, xp, xL, xm, xz, xe⟩ xo qo xcp qc _ CX2.out.here.1 CY2.out.here.1 HASM.out).mono ?_; rintro e w13 ⟨rfl, hb3⟩; have SD3 := Lib.hid (SD2.out.below (TT.out b) (rn_thing r) hb3); have HB3 := Lib.hid (HB2.out.trans (hb3.mono HZ2.out)); have HZ3 := Lib.hid (Nat.le_trans HZ2.out hb3.size); clear hb3)
        | (go_at_call 12; refine (side_tells_right (TT.out b) (rn_thing r) SD1.out (b' := N') (x := ⟨xc, xn, xd, xp, xL, xm, xz, xe⟩) (fun F hF hX => CR.out _ F _ hF hX HB1.out HZ1.out (fun k h => .inl h))).mono ?_; rintro e w12 ⟨qo, qc, C2, rfl, hC2, hD2, hk2⟩; have CY2 := Lib.hid hC2; have CX2 := Lib.hid (CX1.out.keep hk2 (fun k hk => .inr hk)); have SD2 := Lib.hid hD2; have HB2 := Lib.hid (HB1.out.trans (hk2.toBelow HZ1.out (fun k h => .inl h))); have HZ2 := Lib.hid (Nat.le_trans HZ1.out hk2.size); unfold ansV ansC; clear hC2 hD2 hk2)
        | (go_at_call 11; refine (side_tells (TT.out b) (rn_thing r) SD0.out (a' := N') (x := ⟨xc, xn, xd, xp, xL, xm, xz, xe⟩) CX.out).mono ?_; rintro e w11 ⟨xo, xcp, C1, rfl, hC1, hD1, hk1⟩; have CX1 := Lib.hid hC1; have SD1 := Lib.hid hD1; have HB1 := Lib.hid (HB0.out.trans (hk1.toBelow HZ0.out (fun k h => h))); have HZ1 := Lib.hid (Nat.le_trans HZ0.out hk1.size); unfold ansV ansC; clear hC1 hD1 hk1))
    all_goals
      go_wp2_with fail
      go_roundw
      case rel => exact ⟨k + 1, N', by go_num, by omega, HYU, Lib.hid ⟨SD4.out.less (fun k h => .inl (.inl h)), HB4.out, HZ4.out⟩⟩
      case measure => simp [intOf]; omega

set_option maxRecDepth 100000 in
theorem rpcPlays_lifted (os : Os) (started : os.Started) (H : Type) (enc : TypeId × Value → H) :
    ReturnsInHanded {} Tryz.checked os 3 .any (Rows.rpcPlaysSpec.pre6 enc Tryz.prog Tryz.f3 Rows.rpcPlaysRow.domain false) (Rows.rpcPlaysSpec.post enc Tryz.prog Tryz.f3 false true false false) := by
  refine returnsInHanded_of_change (C := Tryz.checked) own started (by kernel_rfl) Tryz.func3
    (ChangeSpec.witness6 (enc := enc) (C := Tryz.checked) false ⟨#[], #[.agg #[.int .i64 0, .slice none 0 0], .int .i64 0, .slice none 0 0], []⟩ 8 (by kernel_rfl) (by kernel_rfl) (by kernel_rfl) (by kernel_rfl)) ?_
  intro W base args ds gs before hval0 hW hcnd _
  have hval : ∀ (j : Nat) t v, Tryz.f3.params[j]? = some t → args[j]? = some v → Value.okWide Tryz.prog W .any base t v := hval0
  have hW' := hW
  obtain ⟨p, q, hA0, hV, rfl, hfz, hnd⟩ := hW
  have hA : DataW.TrodAll enc Tryz.prog W 0 (fun _ => true) true Tryz.f3.params.toList args.toList ds p := hA0
  rw [Tryz.params3] at hA hval
  obtain ⟨v0, vs0, d0, ds0, p0, q0, hargs, rfl, rfl, h0, r0⟩ := trodAll_cons hA
  obtain ⟨v1, vs1, d1, ds1, p1, q1, rfl, rfl, rfl, h1, r1⟩ := trodAll_cons r0
  obtain ⟨v2, vs2, d2, ds2, p2, q2, rfl, rfl, rfl, h2, r2⟩ := trodAll_cons r1
  obtain ⟨rfl, rfl, rfl⟩ := trodAll_nil r2
  obtain rfl : args = #[v0, v1, v2] := by cases args; simp_all
  obtain ⟨rfl, rfl⟩ := trodVars_none hV
  have k0 := h0
  have lt0 : ∀ x ∈ p0, x.block < W.heap.size := by obtain ⟨m, hm⟩ := k0; exact DataW.trod_lt m _ _ _ hm
  have k1 := h1
  have lt1 : ∀ x ∈ p1, x.block < W.heap.size := by obtain ⟨m, hm⟩ := k1; exact DataW.trod_lt m _ _ _ hm
  have k2 := h2
  have lt2 : ∀ x ∈ p2, x.block < W.heap.size := by obtain ⟨m, hm⟩ := k2; exact DataW.trod_lt m _ _ _ hm
  obtain ⟨ep0, ao0, cap0, L0, rfl, wf0, hC0, hn0, hc0, hl0, hm0⟩ := open_proj Tryz.underlying24 (by kernel_rfl) rfl rfl (by kernel_rfl) (by kernel_rfl) Tryz.underlying3 Tryz.underlying22 Tryz.underlying45 (by kernel_rfl) (hval 0 24 v0 rfl rfl) h0
  have hF0 : PIn W ep0 ao0 cap0 L0 := ⟨⟨hC0, hn0, hc0⟩, i64_of_wf wf0, hl0, fun c hcm => by obtain ⟨i, hi, rfl⟩ := List.getElem_of_mem hcm; exact hm0 i hi⟩
  obtain ⟨a1, rfl, rfl, rfl, w1⟩ := open_int Tryz.underlying3 (hval 1 3 v1 rfl rfl) h1
  obtain ⟨ao2, cap2, L2, rfl, w2, hR2, hK2, hn2, hc2⟩ := open_rows (f := askC) (ok := AkIn) (n := 8) Tryz.underlying25 (by kernel_rfl) (fun m cs y hl hf => ask_cs askT hl hf) (hval 2 25 v2 rfl rfl) h2
  clear hA0 hval0
  refine (rpcPlays_walk rpcSays ep0 ao0 cap0 L0 a1 ao2 cap2 L2 w1 w2 W hF0 hR2 hK2).mono fun e W' ⟨he, bel⟩ => ?_
  subst he
  exact ⟨_, rfl, _, _, _, [], _, [], hW', trodAll_mk1 (shut_bool Tryz.underlying4 _), (trodAll_cons_mk (Below.trod laidOut (by kernel_rfl) (of_decide_eq_true (by kernel_rfl)) k0 bel lt0) (trodAll_cons_mk (Below.trod laidOut (by kernel_rfl) (of_decide_eq_true (by kernel_rfl)) k1 bel lt1) (trodAll_cons_mk (Below.trod laidOut (by kernel_rfl) (of_decide_eq_true (by kernel_rfl)) k2 bel lt2) trodAll_mk0))), rfl, bel.frame _, fun h => by cases h⟩

theorem rpcPlays_over : Rows.rpcPlaysRow.holds Tryz.pinned (OpenSpec.ofChange Rows.rpcPlaysSpec) :=
  OpenClaim.holds_of_wide 3 Tryz.f3 rfl rfl rfl rfl rfl rfl rfl ⟨rfl, rfl, rfl, rfl, rfl⟩ rfl rfl rfl rfl rfl (by kernel_rfl) Tryz.func3 (by kernel_rfl)
    (of_decide_eq_true (by kernel_rfl)) (by unfold Func.isWrapper; first | (rw [if_pos (by decide +kernel)]; kernel_rfl) | (rw [if_neg (by decide +kernel)]; exact ⟨rfl, rfl⟩))
    (fun os started H enc _ => rpcPlays_lifted os started H enc)

/-- THE STATEMENT -/
theorem rpcPlays_holds : Rows.RpcPlaysSaid := rpcPlays_over 
end Go.Proofs.YtphigibhgldnpaaGreat
