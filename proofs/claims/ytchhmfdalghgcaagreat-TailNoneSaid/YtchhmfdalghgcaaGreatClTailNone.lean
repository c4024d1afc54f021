/- The law TailNone: a tail that nobody made, or with a projection that is none, asks nothing. Conditions: none. (Written by gen/gentailnone.py.) -/
import Derived.Test.YtchhmfdalghgcaaGreatG31a
import Derived.Test.YtchhmfdalghgcaaGreatG29a
import Derived.Test.YtchhmfdalghgcaaGreatG11a
import Derived.Test.YtchhmfdalghgcaaGreatG10b
namespace Go.Proofs.YtchhmfdalghgcaaGreat
open Go.ChangeShapes Go.WideShapes Go.ChangeAt Go.RowKit
open Go.ChangeMaps (open_string shut_string)
set_option linter.unusedVariables false
set_option maxRecDepth 20000

set_option maxHeartbeats 4000000 in
theorem tailNone_walk {UG : Nat → Nat → (Nat → Prop) → World → Us → Prop} {OG : Nat → (Nat → Prop) → World → Od → Prop} {LG : Nat → (Nat → Prop) → World → Ly → Prop} {NG : Nat → (Nat → Prop) → World → Nd → Prop} {HG : Nat → Nat → (Nat → Prop) → World → Hd → Prop} {TG : Nat → (Nat → Prop) → World → Tl → Prop} (HS : HandSays UG OG LG NG HG) (TS : TailSays TG)
    (ep : Int) (ao : Option Addr) (cap : Nat) (L : List (List Int)) (x : An) (xo : Option Addr) (xc : Nat) (w : World) (h : PIn w ep ao cap L) (hx : AnIn w x xo xc) :
    Calls Tryz.prog 5 #[.agg #[.int .i64 ep, .slice ao L.length cap], ansV x xo xc] w fun e w' => e = .returned (.bool true) ∧ Below w.heap.size w w' := by
  have CW := Lib.hid (fun w => wakes17_any HS TS w)
  obtain ⟨⟨hC, hn, hc⟩, hep, hl, hm⟩ := h
  obtain ⟨hp, hq⟩ := two_blocks w #[.int .i64 ep, .slice ao L.length cap] (ansC x xo xc).toArray 29 33
  have hb0 : Below w.heap.size w ((w.alloc (.cells #[.int .i64 ep, .slice ao L.length cap] 29)).alloc (.cells (ansC x xo xc).toArray 33)) := ((Below.refl _ _).alloc (Nat.le_refl _) _).alloc (by simp) _
  have HC := Lib.hid (fun W (hb : Below w.heap.size w W) => hC.below hb)
  have CL1 := Lib.hid (large_any ep ao cap L _ (hC.below hb0) hl hm)
  have CL2 := Lib.hid (fun W (hb : Below w.heap.size w W) => largeAns_any x xo xc W (hx.below hb))
  have hfld : ∀ (q : Value) (v0 : Int) (W : World), (Instr.field 29 (.agg #[.int .i64 v0, q]) 1).run Tryz.prog W = .ok q W := fun q v0 W => by kernel_rfl
  have HEP := Lib.hid (show i64w ep from WalkArith.wf_i64 hep)
  have HNC := Lib.hid (And.intro hn hc)
  obtain ⟨xcd, xn, xd, xp, xL, xm, xz, xe⟩ := x
  generalize hW0 : ((w.alloc (.cells #[.int .i64 ep, .slice ao L.length cap] 29)).alloc (.cells (ansC ⟨xcd, xn, xd, xp, xL, xm, xz, xe⟩ xo xc).toArray 33)) = W0 at *
  have EW := Lib.hid (show ((w.alloc (.cells #[.int .i64 ep, .slice ao L.length cap] 29)).alloc (.cells #[.int .i64 xcd, .int .i64 xn, .string xd, .int .i64 xp, .slice xo xL.length xc, .int .i64 xm, .int .i64 xz, .int .i64 xe] 33)) = W0 from hW0)
  have HP := Lib.hid hp
  have HQ := Lib.hid hq
  have HB0 := Lib.hid hb0
  clear hC hn hc hep hl hm hp hq hb0 hx hW0
  show Calls _ _ #[.agg #[.int .i64 ep, .slice ao L.length cap], .agg #[.int .i64 xcd, .int .i64 xn, .string xd, .int .i64 xp, .slice xo xL.length xc, .int .i64 xm, .int .i64 xz, .int .i64 xe]] w _
  cases hlp : largeB L
  · rw [hlp] at CL1
    have h50 := largeB_no hlp
    have HF := Lib.hid (show fewL L from ⟨by omega, fun c hc => Nat.le_trans (h50.2 c hc) (by decide)⟩)
    have H1000 := Lib.hid (show L.length ≤ 1000 ∧ ∀ c ∈ L, c.length ≤ 1000 from ⟨by omega, fun c hc => Nat.le_trans (h50.2 c hc) (by decide)⟩)
    clear hlp h50
    cases hlx : largeX ⟨xcd, xn, xd, xp, xL, xm, xz, xe⟩
    · rw [hlx] at CL2
      clear hlx
      cases hg : goodB ep L
      · have HNW := Lib.hid (show newTl ep L = ⟨ep, L, 3, 0, 1⟩ from by unfold newTl; rw [hg]; rfl)
        have HGD := Lib.hid hg
        clear hg
        go_enter Tryz.func5, Tryz.ntmps5
        go_wp2_with (first
          | (go_at_call 24; refine (rgood_any ep ao cap L _ (HC.out _ B10.out) HF.out).mono ?_; rw [HGD.out]; rintro e w13 ⟨rfl, hb⟩; have B13 := Lib.hid (B10.out.trans (hb.mono B10.out.size)); clear hb)
          | (go_at_call 16; refine (TS.ask ba G9 w9 _ A9.out).mono ?_; rintro e w10 ⟨he, G10, ha10, hk10, _⟩; obtain ⟨v, rfl⟩ : ∃ v, e = .returned (.tuple #[v, .bool false]) := ⟨_, he⟩; have A10 := Lib.hid ha10; have B10 := Lib.hid (B9.out.trans (hk10.toBelow B9.out.size G9L.out)); have P10 := Lib.hid (hk10.heap G9P.out P9.out); obtain ⟨p0, p1, _, _⟩ := two_cells P10.out; have pl := lt_of_block P10.out; clear ha10 hk10 he)
          | (go_at_call 15; refine (TS.new ep go gc L _ N8.out HF.out M8.out.1 M8.out.2.1 HEP.out).mono ?_; rintro e w9 ⟨ba, G9, rfl, ha9, hg9, hb9⟩; rw [HNW.out] at ha9; have A9 := Lib.hid ha9; have G9L := Lib.hid (show ∀ k, k < w.heap.size → ¬ G9 k from fun k hk hg => (by have := hg9 k hg; have := B8.out.size; omega)); have G9P := Lib.hid (show ¬ G9 w.heap.size from fun hg => (by have := hg9 _ hg; have := lt_of_block P8.out; omega)); have B9 := Lib.hid (B8.out.trans (hb9.mono B8.out.size)); have P9 := Lib.hid (below_heap hb9 P8.out); clear ha9 hg9 hb9)
          | (go_at_call 23; refine (keepCopyO_any ep ao cap L _ (HC.out _ B6.out) H1000.out).mono ?_; rintro e w8 ⟨v, rfl, hO, hb8⟩; obtain ⟨go, gc, hv, hN8, h81, h82⟩ := hO.form; subst hv; have N8 := Lib.hid hN8; have M8 := Lib.hid (And.intro h81 h82); have B8 := Lib.hid (B6.out.trans (hb8.mono B6.out.size)); have P8 := Lib.hid (below_heap hb8 P6.out); clear hO hN8 h81 h82 hb8 p0 p1 pl)
          | (go_at_call 21; rw [EW.out]; refine CL1.out.mono ?_; rintro e w1 ⟨rfl, hb1⟩; have B1 := Lib.hid (HB0.out.trans (hb1.mono HB0.out.size)); have Q1 := Lib.hid (below_heap hb1 HQ.out); have P1 := Lib.hid (below_heap hb1 HP.out); obtain ⟨⟨x0, x1, x2, x3, x4, x5, x6, x7⟩, _⟩ := eight_cells Q1.out; have xl := lt_of_block Q1.out; clear hb1)
          | (go_at_call 22; refine (CL2.out _ B1.out).mono ?_; rintro e w2 ⟨rfl, hb2⟩; have B2 := Lib.hid (B1.out.trans (hb2.mono B1.out.size)); have P2 := Lib.hid (below_heap hb2 P1.out); clear x0 x1 x2 x3 x4 x5 x6 x7 xl; obtain ⟨⟨x0, x1, x2, x3, x4, x5, x6, x7⟩, _⟩ := eight_cells (below_heap hb2 Q1.out); have xl := lt_of_block (below_heap hb2 Q1.out); clear hb2)
          | (go_at_call 17; refine (TS.nil_hear ⟨xcd, xn, xd, xp, xL, xm, xz, xe⟩ xo xc true _).mono ?_; rintro e w3 ⟨rfl, hb3⟩; have B3 := Lib.hid (B2.out.trans (hb3.mono B2.out.size)); have P3 := Lib.hid (below_heap hb3 P2.out); clear hb3 x0 x1 x2 x3 x4 x5 x6 x7 xl)
          | (go_at_call 16; refine (TS.nil_ask w3).mono ?_; rintro e w4 ⟨he, hb4⟩; obtain rfl : e = .returned (.tuple #[.agg #[.int .i64 0, .int .i64 0, .int .i64 0, .int .i64 0, .int .i64 0, .int .i64 0, .string ⟨#[]⟩, .int .i64 0, .slice none 0 0], .bool false]) := he; have D4 := Lib.hid (hb4.trans ((below_new w4 (.cells #[.int .i64 0, .int .i64 0, .int .i64 0, .int .i64 0, .int .i64 0, .int .i64 0, .string ⟨#[]⟩, .int .i64 0, .slice none 0 0] 37)).mono hb4.size)); have B4 := Lib.hid (B3.out.trans (D4.out.mono B3.out.size)); have P4 := Lib.hid (below_heap D4.out P3.out); clear hb4)
          | (go_at_call 18; refine (TS.nil_over (w4.alloc (.cells #[.int .i64 0, .int .i64 0, .int .i64 0, .int .i64 0, .int .i64 0, .int .i64 0, .string ⟨#[]⟩, .int .i64 0, .slice none 0 0] 37))).mono ?_; rintro e w5 ⟨rfl, hb5⟩; have B5 := Lib.hid (B4.out.trans (hb5.mono B4.out.size)); have P5 := Lib.hid (below_heap hb5 P4.out); clear hb5)
          | (go_at_call 20; refine (TS.nil_P _).mono ?_; rintro e w6 ⟨pe, po, pc, rfl, hb6⟩; have B6 := Lib.hid (B5.out.trans (hb6.mono B5.out.size)); have P6 := Lib.hid (below_heap hb6 P5.out); obtain ⟨p0, p1, _, _⟩ := two_cells P6.out; have pl := lt_of_block P6.out; clear hb6)
          | (go_at_call 8; refine (CW.out _).mono ?_; rintro e w12 ⟨rfl, hb12⟩; have B12 := Lib.hid (B13.out.trans (hb12.mono B13.out.size)); clear hb12))
        go_ret
        exact ⟨rfl, B12.out⟩
      · have HNW := Lib.hid (show newTl ep L = ⟨ep, L, 2, 0, 0⟩ from by unfold newTl; rw [hg]; rfl)
        have HGD := Lib.hid hg
        clear hg
        go_enter Tryz.func5, Tryz.ntmps5
        go_wp2_with (first
          | (go_at_call 24; refine (rgood_any ep ao cap L _ (HC.out _ B10.out) HF.out).mono ?_; rw [HGD.out]; rintro e w13 ⟨rfl, hb⟩; have B13 := Lib.hid (B10.out.trans (hb.mono B10.out.size)); clear hb)
          | (go_at_call 16; refine (TS.ask ba G9 w9 _ A9.out).mono ?_; rintro e w10 ⟨he, G10, ha10, hk10, _⟩; obtain ⟨v, rfl⟩ : ∃ v, e = .returned (.tuple #[v, .bool true]) := ⟨_, he⟩; have A10 := Lib.hid ha10; have B10 := Lib.hid (B9.out.trans (hk10.toBelow B9.out.size G9L.out)); have P10 := Lib.hid (hk10.heap G9P.out P9.out); obtain ⟨p0, p1, _, _⟩ := two_cells P10.out; have pl := lt_of_block P10.out; clear ha10 hk10 he)
          | (go_at_call 15; refine (TS.new ep go gc L _ N8.out HF.out M8.out.1 M8.out.2.1 HEP.out).mono ?_; rintro e w9 ⟨ba, G9, rfl, ha9, hg9, hb9⟩; rw [HNW.out] at ha9; have A9 := Lib.hid ha9; have G9L := Lib.hid (show ∀ k, k < w.heap.size → ¬ G9 k from fun k hk hg => (by have := hg9 k hg; have := B8.out.size; omega)); have G9P := Lib.hid (show ¬ G9 w.heap.size from fun hg => (by have := hg9 _ hg; have := lt_of_block P8.out; omega)); have B9 := Lib.hid (B8.out.trans (hb9.mono B8.out.size)); have P9 := Lib.hid (below_heap hb9 P8.out); clear ha9 hg9 hb9)
          | (go_at_call 23; refine (keepCopyO_any ep ao cap L _ (HC.out _ B6.out) H1000.out).mono ?_; rintro e w8 ⟨v, rfl, hO, hb8⟩; obtain ⟨go, gc, hv, hN8, h81, h82⟩ := hO.form; subst hv; have N8 := Lib.hid hN8; have M8 := Lib.hid (And.intro h81 h82); have B8 := Lib.hid (B6.out.trans (hb8.mono B6.out.size)); have P8 := Lib.hid (below_heap hb8 P6.out); clear hO hN8 h81 h82 hb8 p0 p1 pl)
          | (go_at_call 21; rw [EW.out]; refine CL1.out.mono ?_; rintro e w1 ⟨rfl, hb1⟩; have B1 := Lib.hid (HB0.out.trans (hb1.mono HB0.out.size)); have Q1 := Lib.hid (below_heap hb1 HQ.out); have P1 := Lib.hid (below_heap hb1 HP.out); obtain ⟨⟨x0, x1, x2, x3, x4, x5, x6, x7⟩, _⟩ := eight_cells Q1.out; have xl := lt_of_block Q1.out; clear hb1)
          | (go_at_call 22; refine (CL2.out _ B1.out).mono ?_; rintro e w2 ⟨rfl, hb2⟩; have B2 := Lib.hid (B1.out.trans (hb2.mono B1.out.size)); have P2 := Lib.hid (below_heap hb2 P1.out); clear x0 x1 x2 x3 x4 x5 x6 x7 xl; obtain ⟨⟨x0, x1, x2, x3, x4, x5, x6, x7⟩, _⟩ := eight_cells (below_heap hb2 Q1.out); have xl := lt_of_block (below_heap hb2 Q1.out); clear hb2)
          | (go_at_call 17; refine (TS.nil_hear ⟨xcd, xn, xd, xp, xL, xm, xz, xe⟩ xo xc true _).mono ?_; rintro e w3 ⟨rfl, hb3⟩; have B3 := Lib.hid (B2.out.trans (hb3.mono B2.out.size)); have P3 := Lib.hid (below_heap hb3 P2.out); clear hb3 x0 x1 x2 x3 x4 x5 x6 x7 xl)
          | (go_at_call 16; refine (TS.nil_ask w3).mono ?_; rintro e w4 ⟨he, hb4⟩; obtain rfl : e = .returned (.tuple #[.agg #[.int .i64 0, .int .i64 0, .int .i64 0, .int .i64 0, .int .i64 0, .int .i64 0, .string ⟨#[]⟩, .int .i64 0, .slice none 0 0], .bool false]) := he; have D4 := Lib.hid (hb4.trans ((below_new w4 (.cells #[.int .i64 0, .int .i64 0, .int .i64 0, .int .i64 0, .int .i64 0, .int .i64 0, .string ⟨#[]⟩, .int .i64 0, .slice none 0 0] 37)).mono hb4.size)); have B4 := Lib.hid (B3.out.trans (D4.out.mono B3.out.size)); have P4 := Lib.hid (below_heap D4.out P3.out); clear hb4)
          | (go_at_call 18; refine (TS.nil_over (w4.alloc (.cells #[.int .i64 0, .int .i64 0, .int .i64 0, .int .i64 0, .int .i64 0, .int .i64 0, .string ⟨#[]⟩, .int .i64 0, .slice none 0 0] 37))).mono ?_; rintro e w5 ⟨rfl, hb5⟩; have B5 := Lib.hid (B4.out.trans (hb5.mono B4.out.size)); have P5 := Lib.hid (below_heap hb5 P4.out); clear hb5)
          | (go_at_call 20; refine (TS.nil_P _).mono ?_; rintro e w6 ⟨pe, po, pc, rfl, hb6⟩; have B6 := Lib.hid (B5.out.trans (hb6.mono B5.out.size)); have P6 := Lib.hid (below_heap hb6 P5.out); obtain ⟨p0, p1, _, _⟩ := two_cells P6.out; have pl := lt_of_block P6.out; clear hb6)
          | (go_at_call 8; refine (CW.out _).mono ?_; rintro e w12 ⟨rfl, hb12⟩; have B12 := Lib.hid (B13.out.trans (hb12.mono B13.out.size)); clear hb12))
        go_ret
        exact ⟨rfl, B12.out⟩
    · rw [hlx] at CL2
      clear hlx
      go_enter Tryz.func5, Tryz.ntmps5
      go_wp2_with (first
        | (go_at_call 21; rw [EW.out]; refine CL1.out.mono ?_; rintro e w1 ⟨rfl, hb1⟩; have B1 := Lib.hid (HB0.out.trans (hb1.mono HB0.out.size)); have Q1 := Lib.hid (below_heap hb1 HQ.out); obtain ⟨⟨x0, x1, x2, x3, x4, x5, x6, x7⟩, _⟩ := eight_cells Q1.out; have xl := lt_of_block Q1.out; clear hb1)
        | (go_at_call 22; refine (CL2.out _ B1.out).mono ?_; rintro e w2 ⟨rfl, hb2⟩; have B2 := Lib.hid (B1.out.trans (hb2.mono B1.out.size)); clear hb2)
        | (go_at_call 8; refine (CW.out _).mono ?_; rintro e w3 ⟨rfl, hb3⟩; have B3 := Lib.hid (B2.out.trans (hb3.mono B2.out.size)); clear hb3))
      go_ret
      exact ⟨rfl, B3.out⟩
  · rw [hlp] at CL1
    clear hlp
    go_enter Tryz.func5, Tryz.ntmps5
    go_wp2_with (first
      | (go_at_call 21; rw [EW.out]; refine CL1.out.mono ?_; rintro e w1 ⟨rfl, hb1⟩; have B1 := Lib.hid (HB0.out.trans (hb1.mono HB0.out.size)); clear hb1)
      | (go_at_call 8; refine (CW.out _).mono ?_; rintro e w3 ⟨rfl, hb3⟩; have B3 := Lib.hid (B1.out.trans (hb3.mono B1.out.size)); clear hb3))
    go_ret
    exact ⟨rfl, B3.out⟩

set_option maxRecDepth 100000 in
theorem tailNone_lifted (os : Os) (started : os.Started) (H : Type) (enc : TypeId × Value → H) :
    ReturnsInHanded {} Tryz.checked os 5 .any (Rows.tailNoneSpec.pre6 enc Tryz.prog Tryz.f5 Rows.tailNoneRow.domain false) (Rows.tailNoneSpec.post enc Tryz.prog Tryz.f5 false true false false) := by
  refine returnsInHanded_of_change (C := Tryz.checked) own started (by kernel_rfl) Tryz.func5
    (ChangeSpec.witness6 (enc := enc) (C := Tryz.checked) false ⟨#[], #[.agg #[.int .i64 0, .slice none 0 0], .agg #[.int .i64 0, .int .i64 0, .string ByteArray.empty, .int .i64 0, .slice none 0 0, .int .i64 0, .int .i64 0, .int .i64 0]], []⟩ 8 (by kernel_rfl) (by kernel_rfl) (by kernel_rfl) (by kernel_rfl)) ?_
  intro W base args ds gs before hval0 hW hcnd _
  have hval : ∀ (j : Nat) t v, Tryz.f5.params[j]? = some t → args[j]? = some v → Value.okWide Tryz.prog W .any base t v := hval0
  have hW' := hW
  obtain ⟨p, q, hA0, hV, rfl, hfz, hnd⟩ := hW
  have hA : DataW.TrodAll enc Tryz.prog W 0 (fun _ => true) true Tryz.f5.params.toList args.toList ds p := hA0
  rw [Tryz.params5] at hA hval
  obtain ⟨v0, vs0, d0, ds0, p0, q0, hargs, rfl, rfl, h0, r0⟩ := trodAll_cons hA
  obtain ⟨v1, vs1, d1, ds1, p1, q1, rfl, rfl, rfl, h1, r1⟩ := trodAll_cons r0
  obtain ⟨rfl, rfl, rfl⟩ := trodAll_nil r1
  obtain rfl : args = #[v0, v1] := by cases args; simp_all
  obtain ⟨rfl, rfl⟩ := trodVars_none hV
  have k0 := h0
  have lt0 : ∀ x ∈ p0, x.block < W.heap.size := by obtain ⟨m, hm⟩ := k0; exact DataW.trod_lt m _ _ _ hm
  have k1 := h1
  have lt1 : ∀ x ∈ p1, x.block < W.heap.size := by obtain ⟨m, hm⟩ := k1; exact DataW.trod_lt m _ _ _ hm
  obtain ⟨ep0, ao0, cap0, L0, rfl, wf0, hC0, hn0, hc0, hl0, hm0⟩ := open_proj Tryz.underlying29 (by kernel_rfl) rfl rfl (by kernel_rfl) (by kernel_rfl) Tryz.underlying3 Tryz.underlying27 Tryz.underlying44 (by kernel_rfl) (hval 0 29 v0 rfl rfl) h0
  have hF0 : PIn W ep0 ao0 cap0 L0 := ⟨⟨hC0, hn0, hc0⟩, i64_of_wf wf0, hl0, fun c hcm => by obtain ⟨i, hi, rfl⟩ := List.getElem_of_mem hcm; exact hm0 i hi⟩
  obtain ⟨x1, xo1, xc1, rfl, hF1⟩ := open_ans ansT (hval 1 33 v1 rfl rfl) h1
  clear hA0 hval0
  refine (tailNone_walk handSays tailSays ep0 ao0 cap0 L0 x1 xo1 xc1 W hF0 hF1).mono fun e W' ⟨he, bel⟩ => ?_
  subst he
  exact ⟨_, rfl, _, _, _, [], _, [], hW', trodAll_mk1 (shut_bool Tryz.underlying4 _), (trodAll_cons_mk (Below.trod laidOut (by kernel_rfl) (of_decide_eq_true (by kernel_rfl)) k0 bel lt0) (trodAll_cons_mk (Below.trod laidOut (by kernel_rfl) (of_decide_eq_true (by kernel_rfl)) k1 bel lt1) trodAll_mk0)), rfl, bel.frame _, fun h => by cases h⟩

theorem tailNone_over : Rows.tailNoneRow.holds Tryz.pinned (OpenSpec.ofChange Rows.tailNoneSpec) :=
  OpenClaim.holds_of_wide 5 Tryz.f5 rfl rfl rfl rfl rfl rfl rfl ⟨rfl, rfl, rfl, rfl, rfl⟩ rfl rfl rfl rfl rfl (by kernel_rfl) Tryz.func5 (by kernel_rfl)
    (of_decide_eq_true (by kernel_rfl)) (by unfold Func.isWrapper; first | (rw [if_pos (by decide +kernel)]; kernel_rfl) | (rw [if_neg (by decide +kernel)]; exact ⟨rfl, rfl⟩))
    (fun os started H enc _ => tailNone_lifted os started H enc)

/-- THE STATEMENT -/
theorem tailNone_holds : Rows.TailNoneSaid := tailNone_over 
end Go.Proofs.YtchhmfdalghgcaaGreat
