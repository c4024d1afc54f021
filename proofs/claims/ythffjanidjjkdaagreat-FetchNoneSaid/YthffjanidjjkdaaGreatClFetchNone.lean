/- The law FetchNone: a fetch that nobody made, or of no address, asks nothing. Conditions: none. (Written by gen/genfetchnone.py.) -/
import Derived.Test.YthffjanidjjkdaaGreatG30a
import Derived.Test.YthffjanidjjkdaaGreatG31a
import Derived.Test.YthffjanidjjkdaaGreatG35a
import Derived.Test.YthffjanidjjkdaaGreatG12b
import Derived.Test.YthffjanidjjkdaaGreatG10b
namespace Go.Proofs.YthffjanidjjkdaaGreat
open Go.ChangeShapes Go.WideShapes Go.ChangeAt Go.RowKit
open Go.ChangeMaps (open_string shut_string)
set_option linter.unusedVariables false
set_option maxRecDepth 20000

set_option maxHeartbeats 4000000 in
theorem fetchNone_walk {UG : Nat → Nat → (Nat → Prop) → World → Us → Prop} {OG : Nat → (Nat → Prop) → World → Od → Prop} {LG : Nat → (Nat → Prop) → World → Ly → Prop} {NG : Nat → (Nat → Prop) → World → Nd → Prop} {HG : Nat → Nat → (Nat → Prop) → World → Hd → Prop} {FG : Nat → (Nat → Prop) → World → Fe → Prop} (HS : HandSays UG OG LG NG HG) (FS : FetchSays FG) (LS : LooksSays UG)
    (ep : Int) (ao : Option Addr) (cap : Nat) (L : List (List Int)) (ad : Int) (x : An) (xo : Option Addr) (xc : Nat) (ha : i64w ad) (w : World) (h : PIn w ep ao cap L) (hx : AnIn w x xo xc) :
    Calls Tryz.prog 6 #[.agg #[.int .i64 ep, .slice ao L.length cap], .int .i64 ad, ansV x xo xc] w fun e w' => e = .returned (.bool true) ∧ Below w.heap.size w w' := by
  have CW := Lib.hid (fun w => wakes16_any HS FS LS w)
  obtain ⟨⟨hC, hn, hc⟩, hep, hl, hm⟩ := h
  obtain ⟨hp, hq⟩ := two_blocks w #[.int .i64 ep, .slice ao L.length cap] (ansC x xo xc).toArray 30 58
  have hb0 : Below w.heap.size w ((w.alloc (.cells #[.int .i64 ep, .slice ao L.length cap] 30)).alloc (.cells (ansC x xo xc).toArray 58)) := ((Below.refl _ _).alloc (Nat.le_refl _) _).alloc (by simp) _
  have HC := Lib.hid (fun W (hb : Below w.heap.size w W) => hC.below hb)
  have CL1 := Lib.hid (large_any ep ao cap L _ (hC.below hb0) hl hm)
  have CL2 := Lib.hid (fun W (hb : Below w.heap.size w W) => largeAns_any x xo xc W (hx.below hb))
  have hfld : ∀ (q : Value) (v0 : Int) (W : World), (Instr.field 30 (.agg #[.int .i64 v0, q]) 1).run Tryz.prog W = .ok q W := fun q v0 W => by kernel_rfl
  have hfld2 : ∀ (a b : Int) (c : Bool) (W : World), (Instr.field 41 (.agg #[.int .i64 a, .int .i64 b, .bool c]) 1).run Tryz.prog W = .ok (.bool c) W := fun a b c W => by kernel_rfl
  have HEP := Lib.hid (show i64w ep from WalkArith.wf_i64 hep)
  have HAD := Lib.hid ha
  have HNC := Lib.hid (And.intro hn hc)
  obtain ⟨xcd, xn, xd, xp, xL, xm, xz, xe⟩ := x
  generalize hW0 : ((w.alloc (.cells #[.int .i64 ep, .slice ao L.length cap] 30)).alloc (.cells (ansC ⟨xcd, xn, xd, xp, xL, xm, xz, xe⟩ xo xc).toArray 58)) = W0 at *
  have EW := Lib.hid (show ((w.alloc (.cells #[.int .i64 ep, .slice ao L.length cap] 30)).alloc (.cells #[.int .i64 xcd, .int .i64 xn, .string xd, .int .i64 xp, .slice xo xL.length xc, .int .i64 xm, .int .i64 xz, .int .i64 xe] 58)) = W0 from hW0)
  have HP := Lib.hid hp
  have HQ := Lib.hid hq
  have HB0 := Lib.hid hb0
  clear hC hn hc hep hl hm hp hq hb0 hx hW0 ha
  show Calls _ _ #[.agg #[.int .i64 ep, .slice ao L.length cap], .int .i64 ad, .agg #[.int .i64 xcd, .int .i64 xn, .string xd, .int .i64 xp, .slice xo xL.length xc, .int .i64 xm, .int .i64 xz, .int .i64 xe]] w _
  cases hlp : largeB L
  · rw [hlp] at CL1
    have h50 := largeB_no hlp
    have HF := Lib.hid (show fewL L from ⟨by omega, fun c hc => Nat.le_trans (h50.2 c hc) (by decide)⟩)
    have H1000 := Lib.hid (show L.length ≤ 1000 ∧ ∀ c ∈ L, c.length ≤ 1000 from ⟨by omega, fun c hc => Nat.le_trans (h50.2 c hc) (by decide)⟩)
    clear hlp h50
    cases hlx : largeX ⟨xcd, xn, xd, xp, xL, xm, xz, xe⟩
    · rw [hlx] at CL2
      clear hlx
      cases hg : ofB ep L ad
      · have HGT := Lib.hid (show gotV ep L ad = .agg #[.int .i64 (ofC ep L ad), .int .i64 (ofP ep L ad), .bool false] from by unfold gotV; rw [hg])
        have HNW := Lib.hid (show newFe ep L ad true = ⟨ep, L, ad, true, 7, 0, 0, 0, noS, 1⟩ from by unfold newFe; rw [hg]; rfl)
        clear hg
        generalize ofC ep L ad = oc at *
        generalize ofP ep L ad = op at *
        go_enter Tryz.func6, Tryz.ntmps6
        go_wp2_with (first
          | (go_at_call 14; refine (refOf_any ep ao cap L ad _ (HC.out _ B11.out) HF.out).mono ?_; rw [HGT.out]; rintro e w13 ⟨rfl, hb⟩; have B13 := Lib.hid (B11.out.trans (hb.mono B11.out.size)); clear hb)
          | (go_at_call 27; refine (FS.over ba G10 w10 _ A10.out).mono ?_; rintro e w11 ⟨he, hb11⟩; obtain ⟨vk, vs, rfl⟩ : ∃ vk vs, e = .returned (.tuple #[vk, vs, .int .i64 1, .bool true]) := ⟨_, _, he⟩; have B11 := Lib.hid (B10.out.trans (hb11.mono B10.out.size)); have P11 := Lib.hid (below_heap hb11 P10.out); obtain ⟨p0, p1, _, _⟩ := two_cells P11.out; have pl := lt_of_block P11.out; clear hb11 he)
          | (go_at_call 26; refine (FS.ask ba G9 w9 _ A9.out).mono ?_; rintro e w10 ⟨he, G10, ha10, hk10, _⟩; obtain ⟨v, rfl⟩ : ∃ v, e = .returned (.tuple #[v, .bool false]) := ⟨_, he⟩; have A10 := Lib.hid ha10; have B10 := Lib.hid (B9.out.trans (hk10.toBelow B9.out.size G9L.out)); have P10 := Lib.hid (hk10.heap G9P.out P9.out); clear ha10 hk10 he)
          | (go_at_call 29; refine (FS.new ep go gc L ad true _ N8.out HF.out M8.out.1 M8.out.2.1 HEP.out HAD.out).mono ?_; rintro e w9 ⟨ba, G9, rfl, ha9, hg9, hb9⟩; rw [HNW.out] at ha9; have A9 := Lib.hid ha9; have G9L := Lib.hid (show ∀ k, k < w.heap.size → ¬ G9 k from fun k hk hg => (by have := hg9 k hg; have := B8.out.size; omega)); have G9P := Lib.hid (show ¬ G9 w.heap.size from fun hg => (by have := hg9 _ hg; have := lt_of_block P8.out; omega)); have B9 := Lib.hid (B8.out.trans (hb9.mono B8.out.size)); have P9 := Lib.hid (below_heap hb9 P8.out); clear ha9 hg9 hb9)
          | (go_at_call 30; refine (keepCopyO_any ep ao cap L _ (HC.out _ B6.out) H1000.out).mono ?_; rintro e w8 ⟨v, rfl, hO, hb8⟩; obtain ⟨go, gc, hv, hN8, h81, h82⟩ := hO.form; subst hv; have N8 := Lib.hid hN8; have M8 := Lib.hid (And.intro h81 h82); have B8 := Lib.hid (B6.out.trans (hb8.mono B6.out.size)); have P8 := Lib.hid (below_heap hb8 P6.out); clear hO hN8 h81 h82 hb8 p0 p1 pl)
          | (go_at_call 23; rw [EW.out]; refine CL1.out.mono ?_; rintro e w1 ⟨rfl, hb1⟩; have B1 := Lib.hid (HB0.out.trans (hb1.mono HB0.out.size)); have Q1 := Lib.hid (below_heap hb1 HQ.out); have P1 := Lib.hid (below_heap hb1 HP.out); obtain ⟨⟨x0, x1, x2, x3, x4, x5, x6, x7⟩, _⟩ := eight_cells Q1.out; have xl := lt_of_block Q1.out; clear hb1)
          | (go_at_call 24; refine (CL2.out _ B1.out).mono ?_; rintro e w2 ⟨rfl, hb2⟩; have B2 := Lib.hid (B1.out.trans (hb2.mono B1.out.size)); have P2 := Lib.hid (below_heap hb2 P1.out); clear x0 x1 x2 x3 x4 x5 x6 x7 xl; obtain ⟨⟨x0, x1, x2, x3, x4, x5, x6, x7⟩, _⟩ := eight_cells (below_heap hb2 Q1.out); have xl := lt_of_block (below_heap hb2 Q1.out); clear hb2)
          | (go_at_call 25; refine (FS.nil_hear ⟨xcd, xn, xd, xp, xL, xm, xz, xe⟩ xo xc true _).mono ?_; rintro e w3 ⟨rfl, hb3⟩; have B3 := Lib.hid (B2.out.trans (hb3.mono B2.out.size)); have P3 := Lib.hid (below_heap hb3 P2.out); clear hb3 x0 x1 x2 x3 x4 x5 x6 x7 xl)
          | (go_at_call 26; refine (FS.nil_ask w3).mono ?_; rintro e w4 ⟨he, hb4⟩; obtain rfl : e = .returned (.tuple #[.agg #[.int .i64 0, .int .i64 0, .int .i64 0, .int .i64 0, .int .i64 0, .int .i64 0, .string ⟨#[]⟩, .int .i64 0, .slice none 0 0], .bool false]) := he; have D4 := Lib.hid (hb4.trans ((below_new w4 (.cells #[.int .i64 0, .int .i64 0, .int .i64 0, .int .i64 0, .int .i64 0, .int .i64 0, .string ⟨#[]⟩, .int .i64 0, .slice none 0 0] 62)).mono hb4.size)); have B4 := Lib.hid (B3.out.trans (D4.out.mono B3.out.size)); have P4 := Lib.hid (below_heap D4.out P3.out); clear hb4)
          | (go_at_call 27; refine (FS.nil_over (w4.alloc (.cells #[.int .i64 0, .int .i64 0, .int .i64 0, .int .i64 0, .int .i64 0, .int .i64 0, .string ⟨#[]⟩, .int .i64 0, .slice none 0 0] 62))).mono ?_; rintro e w5 ⟨rfl, hb5⟩; have B5 := Lib.hid (B4.out.trans (hb5.mono B4.out.size)); have P5 := Lib.hid (below_heap hb5 P4.out); clear hb5)
          | (go_at_call 28; refine (FS.nil_P _).mono ?_; rintro e w6 ⟨pe, po, pc, rfl, hb6⟩; have B6 := Lib.hid (B5.out.trans (hb6.mono B5.out.size)); have P6 := Lib.hid (below_heap hb6 P5.out); obtain ⟨p0, p1, _, _⟩ := two_cells P6.out; have pl := lt_of_block P6.out; clear hb6)
          | (go_at_call 10; refine (CW.out _).mono ?_; rintro e w12 ⟨rfl, hb12⟩; have B12 := Lib.hid (B13.out.trans (hb12.mono B13.out.size)); clear hb12))
        go_ret
        exact ⟨rfl, B12.out⟩
      · have HGT := Lib.hid (show gotV ep L ad = .agg #[.int .i64 (ofC ep L ad), .int .i64 (ofP ep L ad), .bool true] from by unfold gotV; rw [hg])
        have HNW := Lib.hid (show newFe ep L ad true = ⟨ep, L, ad, true, 2, 0, 0, 0, noS, 0⟩ from by unfold newFe; rw [hg]; rfl)
        clear hg
        generalize ofC ep L ad = oc at *
        generalize ofP ep L ad = op at *
        go_enter Tryz.func6, Tryz.ntmps6
        go_wp2_with (first
          | (go_at_call 14; refine (refOf_any ep ao cap L ad _ (HC.out _ B11.out) HF.out).mono ?_; rw [HGT.out]; rintro e w13 ⟨rfl, hb⟩; have B13 := Lib.hid (B11.out.trans (hb.mono B11.out.size)); clear hb)
          | (go_at_call 27; refine (FS.over ba G10 w10 _ A10.out).mono ?_; rintro e w11 ⟨he, hb11⟩; obtain ⟨vk, vs, rfl⟩ : ∃ vk vs, e = .returned (.tuple #[vk, vs, .int .i64 0, .bool false]) := ⟨_, _, he⟩; have B11 := Lib.hid (B10.out.trans (hb11.mono B10.out.size)); have P11 := Lib.hid (below_heap hb11 P10.out); obtain ⟨p0, p1, _, _⟩ := two_cells P11.out; have pl := lt_of_block P11.out; clear hb11 he)
          | (go_at_call 26; refine (FS.ask ba G9 w9 _ A9.out).mono ?_; rintro e w10 ⟨he, G10, ha10, hk10, _⟩; obtain ⟨v, rfl⟩ : ∃ v, e = .returned (.tuple #[v, .bool true]) := ⟨_, he⟩; have A10 := Lib.hid ha10; have B10 := Lib.hid (B9.out.trans (hk10.toBelow B9.out.size G9L.out)); have P10 := Lib.hid (hk10.heap G9P.out P9.out); clear ha10 hk10 he)
          | (go_at_call 29; refine (FS.new ep go gc L ad true _ N8.out HF.out M8.out.1 M8.out.2.1 HEP.out HAD.out).mono ?_; rintro e w9 ⟨ba, G9, rfl, ha9, hg9, hb9⟩; rw [HNW.out] at ha9; have A9 := Lib.hid ha9; have G9L := Lib.hid (show ∀ k, k < w.heap.size → ¬ G9 k from fun k hk hg => (by have := hg9 k hg; have := B8.out.size; omega)); have G9P := Lib.hid (show ¬ G9 w.heap.size from fun hg => (by have := hg9 _ hg; have := lt_of_block P8.out; omega)); have B9 := Lib.hid (B8.out.trans (hb9.mono B8.out.size)); have P9 := Lib.hid (below_heap hb9 P8.out); clear ha9 hg9 hb9)
          | (go_at_call 30; refine (keepCopyO_any ep ao cap L _ (HC.out _ B6.out) H1000.out).mono ?_; rintro e w8 ⟨v, rfl, hO, hb8⟩; obtain ⟨go, gc, hv, hN8, h81, h82⟩ := hO.form; subst hv; have N8 := Lib.hid hN8; have M8 := Lib.hid (And.intro h81 h82); have B8 := Lib.hid (B6.out.trans (hb8.mono B6.out.size)); have P8 := Lib.hid (below_heap hb8 P6.out); clear hO hN8 h81 h82 hb8 p0 p1 pl)
          | (go_at_call 23; rw [EW.out]; refine CL1.out.mono ?_; rintro e w1 ⟨rfl, hb1⟩; have B1 := Lib.hid (HB0.out.trans (hb1.mono HB0.out.size)); have Q1 := Lib.hid (below_heap hb1 HQ.out); have P1 := Lib.hid (below_heap hb1 HP.out); obtain ⟨⟨x0, x1, x2, x3, x4, x5, x6, x7⟩, _⟩ := eight_cells Q1.out; have xl := lt_of_block Q1.out; clear hb1)
          | (go_at_call 24; refine (CL2.out _ B1.out).mono ?_; rintro e w2 ⟨rfl, hb2⟩; have B2 := Lib.hid (B1.out.trans (hb2.mono B1.out.size)); have P2 := Lib.hid (below_heap hb2 P1.out); clear x0 x1 x2 x3 x4 x5 x6 x7 xl; obtain ⟨⟨x0, x1, x2, x3, x4, x5, x6, x7⟩, _⟩ := eight_cells (below_heap hb2 Q1.out); have xl := lt_of_block (below_heap hb2 Q1.out); clear hb2)
          | (go_at_call 25; refine (FS.nil_hear ⟨xcd, xn, xd, xp, xL, xm, xz, xe⟩ xo xc true _).mono ?_; rintro e w3 ⟨rfl, hb3⟩; have B3 := Lib.hid (B2.out.trans (hb3.mono B2.out.size)); have P3 := Lib.hid (below_heap hb3 P2.out); clear hb3 x0 x1 x2 x3 x4 x5 x6 x7 xl)
          | (go_at_call 26; refine (FS.nil_ask w3).mono ?_; rintro e w4 ⟨he, hb4⟩; obtain rfl : e = .returned (.tuple #[.agg #[.int .i64 0, .int .i64 0, .int .i64 0, .int .i64 0, .int .i64 0, .int .i64 0, .string ⟨#[]⟩, .int .i64 0, .slice none 0 0], .bool false]) := he; have D4 := Lib.hid (hb4.trans ((below_new w4 (.cells #[.int .i64 0, .int .i64 0, .int .i64 0, .int .i64 0, .int .i64 0, .int .i64 0, .string ⟨#[]⟩, .int .i64 0, .slice none 0 0] 62)).mono hb4.size)); have B4 := Lib.hid (B3.out.trans (D4.out.mono B3.out.size)); have P4 := Lib.hid (below_heap D4.out P3.out); clear hb4)
          | (go_at_call 27; refine (FS.nil_over (w4.alloc (.cells #[.int .i64 0, .int .i64 0, .int .i64 0, .int .i64 0, .int .i64 0, .int .i64 0, .string ⟨#[]⟩, .int .i64 0, .slice none 0 0] 62))).mono ?_; rintro e w5 ⟨rfl, hb5⟩; have B5 := Lib.hid (B4.out.trans (hb5.mono B4.out.size)); have P5 := Lib.hid (below_heap hb5 P4.out); clear hb5)
          | (go_at_call 28; refine (FS.nil_P _).mono ?_; rintro e w6 ⟨pe, po, pc, rfl, hb6⟩; have B6 := Lib.hid (B5.out.trans (hb6.mono B5.out.size)); have P6 := Lib.hid (below_heap hb6 P5.out); obtain ⟨p0, p1, _, _⟩ := two_cells P6.out; have pl := lt_of_block P6.out; clear hb6)
          | (go_at_call 10; refine (CW.out _).mono ?_; rintro e w12 ⟨rfl, hb12⟩; have B12 := Lib.hid (B13.out.trans (hb12.mono B13.out.size)); clear hb12))
        go_ret
        exact ⟨rfl, B12.out⟩
    · rw [hlx] at CL2
      clear hlx
      go_enter Tryz.func6, Tryz.ntmps6
      go_wp2_with (first
        | (go_at_call 23; rw [EW.out]; refine CL1.out.mono ?_; rintro e w1 ⟨rfl, hb1⟩; have B1 := Lib.hid (HB0.out.trans (hb1.mono HB0.out.size)); have Q1 := Lib.hid (below_heap hb1 HQ.out); obtain ⟨⟨x0, x1, x2, x3, x4, x5, x6, x7⟩, _⟩ := eight_cells Q1.out; have xl := lt_of_block Q1.out; clear hb1)
        | (go_at_call 24; refine (CL2.out _ B1.out).mono ?_; rintro e w2 ⟨rfl, hb2⟩; have B2 := Lib.hid (B1.out.trans (hb2.mono B1.out.size)); clear hb2)
        | (go_at_call 10; refine (CW.out _).mono ?_; rintro e w3 ⟨rfl, hb3⟩; have B3 := Lib.hid (B2.out.trans (hb3.mono B2.out.size)); clear hb3))
      go_ret
      exact ⟨rfl, B3.out⟩
  · rw [hlp] at CL1
    clear hlp
    go_enter Tryz.func6, Tryz.ntmps6
    go_wp2_with (first
      | (go_at_call 23; rw [EW.out]; refine CL1.out.mono ?_; rintro e w1 ⟨rfl, hb1⟩; have B1 := Lib.hid (HB0.out.trans (hb1.mono HB0.out.size)); clear hb1)
      | (go_at_call 10; refine (CW.out _).mono ?_; rintro e w3 ⟨rfl, hb3⟩; have B3 := Lib.hid (B1.out.trans (hb3.mono B1.out.size)); clear hb3))
    go_ret
    exact ⟨rfl, B3.out⟩

set_option maxRecDepth 100000 in
theorem fetchNone_lifted (os : Os) (started : os.Started) (H : Type) (enc : TypeId × Value → H) :
    ReturnsInHanded {} Tryz.checked os 6 .any (Rows.fetchNoneSpec.pre6 enc Tryz.prog Tryz.f6 Rows.fetchNoneRow.domain false) (Rows.fetchNoneSpec.post enc Tryz.prog Tryz.f6 false true false false) := by
  refine returnsInHanded_of_change (C := Tryz.checked) own started (by kernel_rfl) Tryz.func6
    (ChangeSpec.witness6 (enc := enc) (C := Tryz.checked) false ⟨#[], #[.agg #[.int .i64 0, .slice none 0 0], .int .i64 0, .agg #[.int .i64 0, .int .i64 0, .string ByteArray.empty, .int .i64 0, .slice none 0 0, .int .i64 0, .int .i64 0, .int .i64 0]], []⟩ 8 (by kernel_rfl) (by kernel_rfl) (by kernel_rfl) (by kernel_rfl)) ?_
  intro W base args ds gs before hval0 hW hcnd _
  have hval : ∀ (j : Nat) t v, Tryz.f6.params[j]? = some t → args[j]? = some v → Value.okWide Tryz.prog W .any base t v := hval0
  have hW' := hW
  obtain ⟨p, q, hA0, hV, rfl, hfz, hnd⟩ := hW
  have hA : DataW.TrodAll enc Tryz.prog W 0 (fun _ => true) true Tryz.f6.params.toList args.toList ds p := hA0
  rw [Tryz.params6] at hA hval
  obtain ⟨v0, vs0, d0, ds0, p0, q0, hargs, rfl, rfl, h0, r0⟩ := trodAll_cons hA
  obtain ⟨v1, vs1, d1, ds1, p1, q1, rfl, rfl, rfl, h1, r1⟩ := trodAll_cons r0
  obtain ⟨v2, vs2, d2, ds2, p2, q2, rfl, rfl, rfl, h2, r2⟩ := trodAll_cons r1
  obtain ⟨rfl, rfl, rfl⟩ := trodAll_nil r2
  obtain rfl : args = #[v0, v1, v2] := by cases args; simp_all
  obtain ⟨rfl, rfl⟩ := trodVars_none hV
  have k0 := h0
  have lt0 : ∀ x ∈ p0, x.block < W.heap.size := by obtain ⟨m, hm⟩ := k0; exact DataW.trod_lt m _ _ _ hm
  have k1 := h1
  have lt1 : ∀ x ∈ p1, x.block < W.heap.size := by obtain ⟨m, hm⟩ := k1; exact DataW.trod_lt m _ _ _ hm
  have k2 := h2
  have lt2 : ∀ x ∈ p2, x.block < W.heap.size := by obtain ⟨m, hm⟩ := k2; exact DataW.trod_lt m _ _ _ hm
  obtain ⟨ep0, ao0, cap0, L0, rfl, wf0, hC0, hn0, hc0, hl0, hm0⟩ := open_proj Tryz.underlying30 (by kernel_rfl) rfl rfl (by kernel_rfl) (by kernel_rfl) Tryz.underlying3 Tryz.underlying28 Tryz.underlying36 (by kernel_rfl) (hval 0 30 v0 rfl rfl) h0
  have hF0 : PIn W ep0 ao0 cap0 L0 := ⟨⟨hC0, hn0, hc0⟩, i64_of_wf wf0, hl0, fun c hcm => by obtain ⟨i, hi, rfl⟩ := List.getElem_of_mem hcm; exact hm0 i hi⟩
  obtain ⟨a1, rfl, rfl, rfl, w1⟩ := open_int Tryz.underlying3 (hval 1 3 v1 rfl rfl) h1
  obtain ⟨x2, xo2, xc2, rfl, hF2⟩ := open_ans ansT (hval 2 58 v2 rfl rfl) h2
  clear hA0 hval0
  refine (fetchNone_walk handSays fetchSays looksSays ep0 ao0 cap0 L0 a1 x2 xo2 xc2 w1 W hF0 hF2).mono fun e W' ⟨he, bel⟩ => ?_
  subst he
  exact ⟨_, rfl, _, _, _, [], _, [], hW', trodAll_mk1 (shut_bool Tryz.underlying4 _), (trodAll_cons_mk (Below.trod laidOut (by kernel_rfl) (of_decide_eq_true (by kernel_rfl)) k0 bel lt0) (trodAll_cons_mk (Below.trod laidOut (by kernel_rfl) (of_decide_eq_true (by kernel_rfl)) k1 bel lt1) (trodAll_cons_mk (Below.trod laidOut (by kernel_rfl) (of_decide_eq_true (by kernel_rfl)) k2 bel lt2) trodAll_mk0))), rfl, bel.frame _, fun h => by cases h⟩

theorem fetchNone_over : Rows.fetchNoneRow.holds Tryz.pinned (OpenSpec.ofChange Rows.fetchNoneSpec) :=
  OpenClaim.holds_of_wide 6 Tryz.f6 rfl rfl rfl rfl rfl rfl rfl ⟨rfl, rfl, rfl, rfl, rfl⟩ rfl rfl rfl rfl rfl (by kernel_rfl) Tryz.func6 (by kernel_rfl)
    (of_decide_eq_true (by kernel_rfl)) (by unfold Func.isWrapper; first | (rw [if_pos (by decide +kernel)]; kernel_rfl) | (rw [if_neg (by decide +kernel)]; exact ⟨rfl, rfl⟩))
    (fun os started H enc _ => fetchNone_lifted os started H enc)

/-- THE STATEMENT -/
theorem fetchNone_holds : Rows.FetchNoneSaid := fetchNone_over 
end Go.Proofs.YthffjanidjjkdaaGreat
