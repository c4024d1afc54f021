/- The law LayoutPlays: projections that are to come next, and images that are marked, one behind the other, are answered as the document's own layout answers. Conditions: none. (Written by gen/genlayoutplays.py.) -/
import Derived.Test.YthfbefkddnbbcaaHb
import Derived.Test.YthfbefkddnbbcaaHc
import Derived.Test.YthfbefkddnbbcaaHd
import Derived.Test.YthfbefkddnbbcaaSwap
import Derived.Deep.RegionHeld3
import Derived.Deep.RegionHeldLaw
namespace Go.Proofs.Ythfbefkddnbbcaa
open Go.ChangeShapes Go.WideShapes Go.ChangeAt Go.RowKit
open Go.ChangeMaps (open_string shut_string)
set_option linter.unusedVariables false
set_option maxRecDepth 20000

section
variable {LG : Nat → (Nat → Prop) → World → Ly → Prop} {B b r : Nat} {w W W' : World} {y : Ly}
/-- the program's layout and the document's, side by side above a bound -/
def LookL (LG : Nat → (Nat → Prop) → World → Ly → Prop) (B : Nat) (w : World) (b r : Nat) (y : Ly) (W : World) : Prop := Side (LG b) (RL r) (fun k => k < B) W y y ∧ Below B w W ∧ B ≤ W.heap.size
theorem LookL.step (HS : LaySays LG) (h : LookL LG B w b r y W) (hb : Below W.heap.size W W') : LookL LG B w b r y W' :=
  ⟨h.1.below (HS.thing b) (rl_thing r) hb, h.2.1.trans (hb.mono h.2.2), Nat.le_trans h.2.2 hb.size⟩
theorem side_less {α β : Type} {T : (Nat → Prop) → World → α → Prop} {U : (Nat → Prop) → World → β → Prop} {X Y : Nat → Prop} {w : World} {a : α} {b : β} (h : Side T U X w a b) (hy : ∀ k, Y k → X k) : Side T U Y w a b := by
  obtain ⟨h1, F, G, h2, h3, h4, h5⟩ := h
  exact ⟨fun k hk => h1 k (hy k hk), F, G, h2, h3, fun k hk => h4 k (hy k hk), h5⟩
theorem side_rl {X : Nat → Prop} {x : Ly} (h : Side (LG b) (RL r) X w x y) : ∃ G, RL r G w y := by
  obtain ⟨_, F, G, _, h3, _⟩ := h
  exact ⟨G, h3⟩
theorem side_l {X : Nat → Prop} {x : Ly} (h : Side (LG b) (RL r) X w x y) : ∃ G, LG b G w x := by
  obtain ⟨_, F, G, h2, _⟩ := h
  exact ⟨F, h2⟩
/-- the cells of the document's layout that name its projection -/
theorem side_cells {X : Nat → Prop} {x : Ly} (h : Side (LG b) (RL r) X w x y) : ∃ lo lc, w.cell? ⟨r, 0, none⟩ = some (.int .i64 y.ep) ∧ w.cell? ⟨r, 1, none⟩ = some (.slice lo y.L.length lc) ∧ CL w lo y.L ∧ r < w.heap.size := by
  obtain ⟨G, h⟩ := side_rl h
  obtain ⟨lo, lc, bo, cb, h1, h2, _, _⟩ := h.open
  exact ⟨lo, lc, cell_of h1 0, cell_of h1 1, h2, lt_of_block h1⟩
end
/-- the law's own question: its projection is a copy -/
theorem local_copy {wr w1 : World} {a : Ak} {go : Option Addr} {gc : Nat} (P1 : w1.heap[wr.heap.size]? = some (.cells (askC a).toArray 38 (0, 0))) (B1 : Below wr.heap.size wr w1) (HO : OC w1 (wr.heap.size + 1) (.slice go a.L.length gc) a.L) :
    ((w1.setCell ⟨wr.heap.size, 7, none⟩ (.int .i64 a.pe)).setCell ⟨wr.heap.size, 8, none⟩ (.slice go a.L.length gc)).heap[wr.heap.size]? = some (.cells (askC ⟨a.kind, a.unit, a.epoch, a.page, a.size, a.n, a.data, a.pe, a.L, go, gc⟩).toArray 38 (0, 0)) ∧
    Below wr.heap.size wr ((w1.setCell ⟨wr.heap.size, 7, none⟩ (.int .i64 a.pe)).setCell ⟨wr.heap.size, 8, none⟩ (.slice go a.L.length gc)) ∧
    CG (fun k => wr.heap.size ≤ k ∧ k < ((w1.setCell ⟨wr.heap.size, 7, none⟩ (.int .i64 a.pe)).setCell ⟨wr.heap.size, 8, none⟩ (.slice go a.L.length gc)).heap.size) ((w1.setCell ⟨wr.heap.size, 7, none⟩ (.int .i64 a.pe)).setCell ⟨wr.heap.size, 8, none⟩ (.slice go a.L.length gc)) (.slice go a.L.length gc) a.L := by
  have hk := xkept w1 wr.heap.size 7 8 (.int .i64 a.pe) (.slice go a.L.length gc)
  have hs : ((w1.setCell ⟨wr.heap.size, 7, none⟩ (.int .i64 a.pe)).setCell ⟨wr.heap.size, 8, none⟩ (.slice go a.L.length gc)).heap.size = w1.heap.size := by simp [World.setCell]
  refine ⟨heap_setCell_same _ _ 8 _ _ _ (heap_setCell_same w1 _ 7 _ _ _ P1), B1.trans (hk.toBelow B1.size (fun k hk => by omega)), ?_⟩
  rw [hs]
  exact ((CG.of HO).keep hk (fun k hk => by omega)).mono (fun k hk => ⟨by omega, hk.2⟩)
theorem rc_on {W W2 : World} {r : Nat} {v0 v1 : Value} (h : W.cell? ⟨r, 0, none⟩ = some v0 ∧ W.cell? ⟨r, 1, none⟩ = some v1) (hb : Below W.heap.size W W2) : W2.cell? ⟨r, 0, none⟩ = some v0 ∧ W2.cell? ⟨r, 1, none⟩ = some v1 :=
  ⟨cellB hb (block_lt_of_cell h.1) h.1, cellB hb (block_lt_of_cell h.2) h.2⟩
theorem intsB_same (l : List Int) : intsB l l = true := decide_eq_true rfl
theorem sameP_same (e : Int) (L : List (List Int)) : sameP e L e L = true := decide_eq_true ⟨rfl, rfl⟩
set_option maxHeartbeats 16000000 in
theorem layoutPlays_walk {LG : Nat → (Nat → Prop) → World → Ly → Prop} (HS : LaySays LG) (ep0 : Int) (ao0 : Option Addr) (cap0 : Nat) (L0 : List (List Int)) (ao : Option Addr) (cap : Nat) (l : List Ak) (hl : l.length ≤ maxLen) (w : World) (hP : PIn w ep0 ao0 cap0 L0) (hR : Row w ao 9 askC l) (hK : ∀ a ∈ l, AkIn w a) :
    Calls Try.prog 3 #[.agg #[.int .i64 ep0, .slice ao0 L0.length cap0], .slice ao l.length cap] w fun e w' => e = .returned (.bool true) ∧ Below w.heap.size w w' := by
  have CW := Lib.hid (fun w => wakes12_any HS w)
  have hl3 : (l.length : Int) ≤ 9223372036854775807 := by unfold maxLen at hl; omega
  have TT := Lib.hid (fun b => HS.thing b)
  have HB0 := Lib.hid (below_new w (.cells #[.int .i64 ep0, .slice ao0 L0.length cap0] 24))
  have HX0 := Lib.hid (show (w.alloc (.cells #[.int .i64 ep0, .slice ao0 L0.length cap0] 24)).heap[w.heap.size]? = some (.cells #[.int .i64 ep0, .slice ao0 L0.length cap0] 24 (0, 0)) from heap_alloc_new _ _)
  have HC := Lib.hid (hP.1.1.below HB0.out)
  have CL1 := Lib.hid (large_any ep0 ao0 cap0 L0 _ HC.out hP.2.2.1 hP.2.2.2)
  have HF := Lib.hid hR
  have HK := Lib.hid hK
  have HHL := Lib.hid hl
  clear hR hK hP hl
  cases hlg : largeB L0
  case true =>
    rw [hlg] at CL1
    clear hlg
    go_enter Try.func3, Try.ntmps3
    go_wp2_with (first
      | (go_at_call 6; refine CL1.out.mono ?_; rintro e w1 ⟨rfl, hb1⟩; have B1 := Lib.hid (HB0.out.trans (hb1.mono HB0.out.size)); clear hb1)
      | (go_at_call 8; refine (CW.out _).mono ?_; rintro e w6 ⟨rfl, hb6⟩))
    go_ret
    exact ⟨rfl, B1.out.trans (hb6.mono B1.out.size)⟩
  case false =>
  have HLN := Lib.hid (largeB_no hlg)
  rw [hlg] at CL1
  clear hlg
  go_enter Try.func3, Try.ntmps3
  go_wp2_with (go_at_call 6; refine CL1.out.mono ?_; rintro e w1 ⟨rfl, hb1⟩; have B1 := Lib.hid (HB0.out.trans (hb1.mono HB0.out.size)); have HC1 := Lib.hid (HC.out.below hb1); have HX1 := Lib.hid (below_heap hb1 HX0.out); clear hb1)
  refine (fair12_any ao cap l _ HHL.out (HF.out.below B1.out) (fun a ha => (HK.out a ha).below B1.out)).mono ?_
  rintro e w2 ⟨⟨c, rfl, hf⟩, hb2⟩
  have B2 := Lib.hid (B1.out.trans (hb2.mono B1.out.size))
  have HC2 := Lib.hid (HC1.out.below hb2)
  have HX2 := Lib.hid (below_heap hb2 HX1.out)
  clear hb2 HX1 HC1 HX0 HC CL1
  cases c
  case false =>
    go_wp2_with (go_at_call 8; refine (CW.out _).mono ?_; rintro e w6 ⟨rfl, hb6⟩)
    go_ret
    exact ⟨rfl, B2.out.trans (hb6.mono B2.out.size)⟩
  case true =>
  have HFA := Lib.hid (hf rfl)
  clear hf
  obtain ⟨c0, c1, _, _⟩ := two_cells HX2.out
  have H1000 := Lib.hid (show L0.length ≤ 1000 ∧ ∀ c ∈ L0, c.length ≤ 1000 from ⟨by have := HLN.out.1; omega, fun c hc => by have := HLN.out.2 c hc; omega⟩)
  have H255 := Lib.hid (show fewL L0 from ⟨by have := HLN.out.1; omega, fun c hc => by have := HLN.out.2 c hc; omega⟩)
  cases hg : goodB ep0 L0
  case false =>
    have HG := Lib.hid hg
    clear hg
    go_wp2_with (first
      | (go_at_call 10; refine (keepCopyO_any ep0 ao0 cap0 L0 _ HC2.out H1000.out).mono ?_; rintro e w3 ⟨v, rfl, hO, hb3⟩; obtain ⟨go, gc, hv, hN3, _, _⟩ := hO.form; subst hv; have HN3 := Lib.hid hN3; have B3 := Lib.hid (B2.out.trans (hb3.mono B2.out.size)); have HC3 := Lib.hid (HC2.out.below hb3); have HX3 := Lib.hid (below_heap hb3 HX2.out); clear hO hN3 hb3 c0 c1)
      | (go_at_call 9; refine (HS.new_no ep0 go gc L0 _ HN3.out H255.out HG.out).mono ?_; rintro e w4 ⟨rfl, hb4⟩; have B4 := Lib.hid (B3.out.trans (hb4.mono B3.out.size)); have HC4 := Lib.hid (HC3.out.below hb4); obtain ⟨c0, c1, _, _⟩ := two_cells (below_heap hb4 HX3.out); clear hb4)
      | (go_at_call 11; refine (rl_new_no ep0 ao0 cap0 L0 _ HC4.out H255.out HG.out).mono ?_; rintro e w5 ⟨rfl, hb5⟩; have B5 := Lib.hid (B4.out.trans (hb5.mono B4.out.size)); clear hb5 c0 c1))
    go_loopw [9] (fun i wr => i = .int .i64 0 ∧ wr = w5) (fun i _ => l.length)
    case atStart => exact ⟨rfl, rfl⟩
    case round =>
      obtain ⟨rfl, rfl⟩ := hrel
      by_cases hlt : (0 : Int) < (l.length : Int)
      · go_wp2_with (go_at_call 8; refine (CW.out _).mono ?_; rintro e w6 ⟨rfl, hb6⟩)
        go_ret
        exact ⟨rfl, B5.out.trans (hb6.mono B5.out.size)⟩
      · have hlt' : (l.length : Int) ≤ 0 := by omega
        go_wp2_with (go_at_call 8; refine (CW.out _).mono ?_; rintro e w6 ⟨rfl, hb6⟩)
        go_ret
        exact ⟨rfl, B5.out.trans (hb6.mono B5.out.size)⟩
  case true =>
  have HG := Lib.hid hg
  have U16 := Lib.hid (show (newL ep0 L0).used.length ≤ 16 * (0 + 1) from units_16 hg)
  clear hg
  go_wp2_with (first
    | (go_at_call 10; refine (keepCopyO_any ep0 ao0 cap0 L0 _ HC2.out H1000.out).mono ?_; rintro e w3 ⟨v, rfl, hO, hb3⟩; obtain ⟨go, gc, hv, hN3, _, _⟩ := hO.form; subst hv; have HN3 := Lib.hid hN3; have B3 := Lib.hid (B2.out.trans (hb3.mono B2.out.size)); have HC3 := Lib.hid (HC2.out.below hb3); have HX3 := Lib.hid (below_heap hb3 HX2.out); clear hO hN3 hb3 c0 c1)
    | (go_at_call 9; refine (l_new HS HN3.out H255.out HG.out).mono ?_; unfold ptrL; rintro e w4 ⟨b, rfl, hs4, hb4⟩; have S4 := Lib.hid (hs4.less (fun k hk => Nat.lt_of_lt_of_le hk B3.out.size)); have B4 := Lib.hid (B3.out.trans (hb4.mono B3.out.size)); have HC4 := Lib.hid (HC3.out.below hb4); obtain ⟨c0, c1, _, _⟩ := two_cells (below_heap hb4 HX3.out); clear hs4 hb4)
    | (go_at_call 11; refine (rl_new_yes ep0 ao0 cap0 L0 _ HC4.out H255.out HG.out).mono ?_; unfold ptrL; rintro e w5 ⟨r, G5, rfl, hr5, hg5, hb5⟩; have D5 := Lib.hid (show LookL LG w.heap.size w b r (newL ep0 L0) w5 from ⟨Side.made (TT.out b) S4.out hb5 hr5 hg5, B4.out.trans (hb5.mono B4.out.size), Nat.le_trans B4.out.size hb5.size⟩); clear hr5 hg5 hb5 c0 c1))
  go_loopw [9] (fun i wr => ∃ (n : Nat) (u : Ly), i = .int .i64 n ∧ n ≤ l.length ∧ Hid (u.used.length ≤ 16 * (n + 1)) ∧ Hid (LookL LG w.heap.size w b r u wr)) (fun i _ => l.length - (intOf i).toNat)
  case atStart => exact ⟨0, newL ep0 L0, rfl, Nat.zero_le _, U16, D5⟩
  case round =>
    clear D5 S4 B4 HC4 HX3 HC3 B3 HN3 U16 HG H1000 H255 HX2 HC2 B2 B1 HLN HB0
    obtain ⟨n, u, rfl, hn, HU, HL⟩ := hrel
    by_cases hlt : n < l.length
    case neg =>
      obtain rfl : n = l.length := by omega
      go_wp2_with (go_at_call 8; refine (CW.out _).mono ?_; rintro e w6 ⟨rfl, hb6⟩)
      go_ret
      exact ⟨rfl, HL.out.2.1.trans (hb6.mono HL.out.2.2)⟩
    case pos =>
    have n0 : (n : Int) < (l.length : Int) := by omega
    have HLA := Lib.hid (HFA.out.2 _ (List.getElem_mem hlt))
    have HN100 := Lib.hid (Nat.lt_of_lt_of_le hlt HFA.out.1)
    obtain ⟨bk, off, hao, x0, x1, x2, x3, x4, x5, x6, x7, x8⟩ := ask_at (HF.out.below HL.out.2.1) hlt
    subst hao
    have N9 := Lib.hid (fun (W : World) (h : Below w.heap.size w W) => ask_here HF.out hlt h)
    have HA := Lib.hid (HK.out _ (List.getElem_mem hlt))
    generalize l[n] = a at *
    obtain ⟨kd, un, ep, pg, sz, nn, s, pe, L2, ao2, cap2⟩ := a
    simp only at N9 x0 x1 x2 x3 x4 x5 x6 x7 x8
    have HQ := Lib.hid (show ∀ W, Below w.heap.size w W → CL W ao2 L2 from fun W h => HA.out.2.below h)
    have HSM := Lib.hid (show L2.length ≤ 50 ∧ ∀ c ∈ L2, c.length ≤ 50 from (largeA_no HLA.out).2)
    clear HLA
    have hwr : w.heap.size ≤ wr.heap.size := HL.out.2.2
    go_wp2_with (go_at_call 10; refine (keepCopyO_any pe ao2 cap2 L2 _ (HQ.out _ (HL.out.2.1.alloc HL.out.2.2 _)) ⟨by have := HSM.out.1; omega, fun c hc => by have := HSM.out.2 c hc; omega⟩).mono ?_; rintro e w1 ⟨v, rfl, hO, hb1⟩; obtain ⟨go, gc, hv, _⟩ := hO.form; subst hv; have HO := Lib.hid hO; have P1 := Lib.hid (below_heap hb1 (heap_alloc_new wr (.cells #[.int .i64 kd, .int .i64 un, .int .i64 ep, .int .i64 pg, .int .i64 sz, .int .i64 nn, .string s, .int .i64 pe, .slice ao2 L2.length cap2] 38))); have hp1 := lt_of_block P1.out; have B1 := Lib.hid ((below_new wr (.cells #[.int .i64 kd, .int .i64 un, .int .i64 ep, .int .i64 pg, .int .i64 sz, .int .i64 nn, .string s, .int .i64 pe, .slice ao2 L2.length cap2] 38)).trans (hb1.mono (by simp))); have y7 := cell_of P1.out 7; have y8 := cell_of P1.out 8; have fy7 := free_of P1.out 7; have fy8 := free_of P1.out 8; clear hO hb1)
    have hlc := local_copy (a := ⟨kd, un, ep, pg, sz, nn, s, pe, L2, ao2, cap2⟩) (go := go) (gc := gc) P1.out B1.out (HO.out.lower (by simp))
    simp only at hlc
    have HOK := Lib.hid (show AkOk ⟨kd, un, ep, pg, sz, nn, s, pe, L2, go, gc⟩ from ⟨HA.out.1.kind, HA.out.1.unit, HA.out.1.epoch, HA.out.1.page, HA.out.1.size, HA.out.1.n, HA.out.1.data, HA.out.1.pe, HA.out.1.len, HA.out.1.each, hlc.2.2.here.2.1, hlc.2.2.here.2.2⟩)
    have HLC := Lib.hid hlc
    clear hlc y7 y8 fy7 fy8 P1 B1 HO hp1 x0 x1 x2 x3 x4 x5 x6 x7 x8
    generalize hW0 : World.setCell (World.setCell w1 ⟨wr.heap.size, 7, none⟩ (.int .i64 pe)) ⟨wr.heap.size, 8, none⟩ (.slice go L2.length gc) = W0 at *
    clear hW0
    have QB0 := Lib.hid (show W0.drew.heap[wr.heap.size]? = some (.cells (askC ⟨kd, un, ep, pg, sz, nn, s, pe, L2, go, gc⟩).toArray 38 (0, 0)) from HLC.out.1)
    have SD0 := Lib.hid ((HL.out.1.wider (TT.out b) (rl_thing r) HLC.out.2.1).below (TT.out b) (rl_thing r) (w' := W0.drew) (Below.refl _ _).drew)
    have HB0 := Lib.hid (show Below w.heap.size w W0.drew from HL.out.2.1.trans (HLC.out.2.1.mono hwr).drew)
    have HZ0 := Lib.hid (show w.heap.size ≤ W0.drew.heap.size from Nat.le_trans hwr HLC.out.2.1.size)
    have CQ0 := Lib.hid (show CG (fun k => wr.heap.size ≤ k ∧ k < W0.heap.size) W0.drew (.slice go L2.length gc) L2 from HLC.out.2.2)
    have HIN := Lib.hid (show wr.heap.size ≤ wr.heap.size ∧ wr.heap.size < W0.heap.size from ⟨Nat.le_refl _, lt_of_block HLC.out.1⟩)
    have H255 := Lib.hid (show fewL L2 from ⟨by have := HSM.out.1; omega, fun c hc => by have := HSM.out.2 c hc; omega⟩)
    have HBIG := Lib.hid (show L2.length ≤ 1000000 ∧ ∀ c ∈ L2, c.length ≤ 1000000 from ⟨by have := HSM.out.1; omega, fun c hc => by have := HSM.out.2 c hc; omega⟩)
    have HUS := Lib.hid (show u.used.length ≤ 100000 from by have := HU.out; have := HN100.out; omega)
    obtain ⟨G0, hG0⟩ := side_rl HL.out.1
    obtain ⟨_, _, _, _, _, _, _, hgood⟩ := hG0.open
    have HASM := Lib.hid (show (u.ans ⟨kd, un, ep, pg, sz, nn, s, pe, L2, ao2, cap2⟩).L.length ≤ 1000000 ∧ ∀ c ∈ (u.ans ⟨kd, un, ep, pg, sz, nn, s, pe, L2, ao2, cap2⟩).L, c.length ≤ 1000000 from ⟨Nat.le_trans (ans_small hgood _).1 (by decide), fun c hc => Nat.le_trans ((ans_small hgood _).2 c hc) (by decide)⟩)
    have HYG := Lib.hid (done_good hgood ⟨kd, un, ep, pg, sz, nn, s, pe, L2, ao2, cap2⟩)
    have HYU := Lib.hid (show (u.done ⟨kd, un, ep, pg, sz, nn, s, pe, L2, ao2, cap2⟩).used.length ≤ 16 * (n + 1 + 1) from by have := done_used u ⟨kd, un, ep, pg, sz, nn, s, pe, L2, ao2, cap2⟩; have := HU.out; omega)
    have CX := Lib.hid (fun (F : Nat → Prop) (hF : LG b F W0.drew u) hX => HS.ask b F W0.drew u ⟨kd, un, ep, pg, sz, nn, s, pe, L2, go, gc⟩ hF HOK.out H255.out HUS.out (fun W (hk : Kept (fun k => ¬ F k) W0.drew W) => (CQ0.out.keep (hk.mono (hX : ∀ k, (k < w.heap.size ∨ (wr.heap.size ≤ k ∧ k < W0.heap.size)) → ¬ F k)) (fun k hk => .inr hk)).here.1))
    have CR := Lib.hid (fun (w11 : World) (F X : Nat → Prop) (hF : RL r F w11 u) (hX : ∀ k, X k → ¬ F k) (hB : Below w.heap.size w w11) (hZ : w.heap.size ≤ w11.heap.size) (hXB : ∀ k, k < w.heap.size → X k) => ldo_any r F w11 u ⟨kd, un, ep, pg, sz, nn, s, pe, L2, ao2, cap2⟩ hF HUS.out (fun W hk => HQ.out W (hB.trans ((hk.mono (T := fun k => k < w.heap.size) (fun k h => hX k (hXB k h))).toBelow hZ (fun k h => h)))) H255.out)
    rw [show u.done ⟨kd, un, ep, pg, sz, nn, s, pe, L2, go, gc⟩ = u.done ⟨kd, un, ep, pg, sz, nn, s, pe, L2, ao2, cap2⟩ from rfl, show u.ans ⟨kd, un, ep, pg, sz, nn, s, pe, L2, go, gc⟩ = u.ans ⟨kd, un, ep, pg, sz, nn, s, pe, L2, ao2, cap2⟩ from rfl] at CX
    clear hgood hG0 HL HU HOK HA HLC
    generalize u.done ⟨kd, un, ep, pg, sz, nn, s, pe, L2, ao2, cap2⟩ = y' at *
    generalize u.ans ⟨kd, un, ep, pg, sz, nn, s, pe, L2, ao2, cap2⟩ = xa at *
    have HY3 := Lib.hid (show y'.used.length ≤ 3000 from by have := HYU.out; have := HN100.out; omega)
    have HUU := Lib.hid (show (unitsR [y'.used]).length ≤ 1000000 from by have h3 := (insAll_length [] [y'.used].flatten List.Pairwise.nil).1; have := HY3.out; unfold unitsR; simp at h3 ⊢; omega)
    have HYL := Lib.hid (show y'.L.length ≤ 1000000 ∧ ∀ c ∈ y'.L, c.length ≤ 1000000 from ⟨Nat.le_trans (good_small HYG.out).1 (by decide), fun c hc => Nat.le_trans ((good_small HYG.out).2 c hc) (by decide)⟩)
    have PB0 := Lib.hid (ask_cells QB0.out)
    go_region_held3 (fun W => (W.cell? ⟨bk, off + n * 9, none⟩ = some (.int .i64 kd) ∧ W.cell? ⟨bk, off + n * 9 + 1, none⟩ = some (.int .i64 un) ∧ W.cell? ⟨bk, off + n * 9 + 2, none⟩ = some (.int .i64 ep) ∧ W.cell? ⟨bk, off + n * 9 + 3, none⟩ = some (.int .i64 pg) ∧ W.cell? ⟨bk, off + n * 9 + 4, none⟩ = some (.int .i64 sz) ∧ W.cell? ⟨bk, off + n * 9 + 5, none⟩ = some (.int .i64 nn) ∧ W.cell? ⟨bk, off + n * 9 + 6, none⟩ = some (.string s) ∧ W.cell? ⟨bk, off + n * 9 + 7, none⟩ = some (.int .i64 pe) ∧ W.cell? ⟨bk, off + n * 9 + 8, none⟩ = some (.slice ao2 L2.length cap2)) ∧ (W.cell? ⟨wr.heap.size, 0, none⟩ = some (.int .i64 kd) ∧ W.cell? ⟨wr.heap.size, 1, none⟩ = some (.int .i64 un) ∧ W.cell? ⟨wr.heap.size, 2, none⟩ = some (.int .i64 ep) ∧ W.cell? ⟨wr.heap.size, 3, none⟩ = some (.int .i64 pg) ∧ W.cell? ⟨wr.heap.size, 4, none⟩ = some (.int .i64 sz) ∧ W.cell? ⟨wr.heap.size, 5, none⟩ = some (.int .i64 nn) ∧ W.cell? ⟨wr.heap.size, 6, none⟩ = some (.string s) ∧ W.cell? ⟨wr.heap.size, 7, none⟩ = some (.int .i64 pe) ∧ W.cell? ⟨wr.heap.size, 8, none⟩ = some (.slice go L2.length gc)))
      (first | exact ⟨⟨N9.out _ HB9.out, PB9.out⟩, RC9.out⟩ | exact ⟨⟨N9.out _ HB8.out, PB8.out⟩, RC8.out⟩ | exact ⟨⟨N9.out _ HB7.out, PB7.out⟩, RC7.out⟩ | exact ⟨⟨N9.out _ HB6.out, PB6.out⟩, RC6.out⟩ | exact ⟨⟨N9.out _ HB5.out, PB5.out⟩, RC5.out⟩ | exact ⟨⟨N9.out _ HB4.out, PB4.out⟩, RC4.out⟩ | exact ⟨⟨N9.out _ HB3.out, PB3.out⟩, RC3.out⟩ | exact ⟨N9.out _ HB2.out, PB2.out⟩ | exact ⟨N9.out _ HB1.out, PB1.out⟩ | exact ⟨N9.out _ HB0.out, PB0.out⟩)
      (first
        | (go_at_call 15; with_reducible refine (keepProj_any pe go gc L2 pe ao2 cap2 L2 _ (CQ8.out) (HQ.out _ HB8.out) HBIG.out HBIG.out).mono ?_; rw [sameP_same]; rintro e w19 ⟨rfl, hb9⟩; have SD9 := Lib.hid (SD8.out.below (TT.out b) (rl_thing r) hb9); have HB9 := Lib.hid (HB8.out.trans (hb9.mono HZ8.out)); have HZ9 := Lib.hid (Nat.le_trans HZ8.out hb9.size); have PB9 := Lib.hid (ask_cells (below_heap hb9 QB8.out)); have RC9 := Lib.hid (rc_on RC8.out hb9); clear hb9)
        | (go_at_call 17; refine (keepInts_any (unitsR [y'.used]) (unitsR [y'.used]) uo vo uc vc _ NU7.out NV7.out HUU.out HUU.out).mono ?_; rw [intsB_same]; rintro e w18 ⟨rfl, q8, hq8⟩; have hb8 : Below w17.heap.size w17 w18 := (by rw [hq8]; exact below_drewN (Below.refl _ _) _); clear hq8; have SD8 := Lib.hid (SD7.out.below (TT.out b) (rl_thing r) hb8); have HB8 := Lib.hid (HB7.out.trans (hb8.mono HZ7.out)); have HZ8 := Lib.hid (Nat.le_trans HZ7.out hb8.size); have RC8 := Lib.hid (rc_on RC7.out hb8); have QB8 := Lib.hid (below_heap hb8 QB7.out); have PB8 := Lib.hid (ask_cells QB8.out); have CQ8 := Lib.hid (CQ7.out.below hb8); clear hb8)
        | (go_at_call 19; obtain ⟨Gq, hGq⟩ := side_rl SD6.out; refine (rl_used r Gq _ y' hGq HY3.out).mono ?_; rintro e w17 ⟨vv, rfl, hO, hb7⟩; obtain ⟨vo, vc, hv, hN, _, _⟩ := hO.form; subst hv; have NV7 := Lib.hid hN; have NU7 := Lib.hid (NU6.out.below hb7); have SD7 := Lib.hid (SD6.out.below (TT.out b) (rl_thing r) hb7); have HB7 := Lib.hid (HB6.out.trans (hb7.mono HZ6.out)); have HZ7 := Lib.hid (Nat.le_trans HZ6.out hb7.size); have RC7 := Lib.hid (rc_on RC6.out hb7); have QB7 := Lib.hid (below_heap hb7 QB6.out); have PB7 := Lib.hid (ask_cells QB7.out); have CQ7 := Lib.hid (CQ6.out.below hb7); clear hb7 hO hN hGq)
        | (go_at_call 18; obtain ⟨Gp, hGp⟩ := side_l SD5.out; refine (HS.used b Gp _ y' hGp HY3.out).mono ?_; rintro e w16 ⟨vu, rfl, hO, hb6⟩; obtain ⟨uo, uc, hv, hN, _, _⟩ := hO.form; subst hv; have NU6 := Lib.hid hN; have SD6 := Lib.hid (SD5.out.below (TT.out b) (rl_thing r) hb6); have HB6 := Lib.hid (HB5.out.trans (hb6.mono HZ5.out)); have HZ6 := Lib.hid (Nat.le_trans HZ5.out hb6.size); have RC6 := Lib.hid (rc_on RC5.out hb6); have QB6 := Lib.hid (below_heap hb6 QB5.out); have PB6 := Lib.hid (ask_cells QB6.out); have CQ6 := Lib.hid (CQ5.out.below hb6); clear hb6 hO hN hGp)
        | (go_at_call 15; with_reducible refine (keepProj_any y'.ep no nc y'.L y'.ep lo lc y'.L _ CN4.out CP4.out HYL.out HYL.out).mono ?_; rw [sameP_same]; rintro e w15 ⟨rfl, hb5⟩; have SD5 := Lib.hid (SD4.out.below (TT.out b) (rl_thing r) hb5); have HB5 := Lib.hid (HB4.out.trans (hb5.mono HZ4.out)); have HZ5 := Lib.hid (Nat.le_trans HZ4.out hb5.size); have RC5 := Lib.hid (rc_on RC4.out hb5); have QB5 := Lib.hid (below_heap hb5 QB4.out); have PB5 := Lib.hid (ask_cells QB5.out); have CQ5 := Lib.hid (CQ4.out.below hb5); clear hb5)
        | (go_at_call 16; obtain ⟨Gp, hGp⟩ := side_l SD3.out; refine (HS.now b Gp _ y' hGp).mono ?_; rintro e w14 ⟨vn, rfl, hO, hb4⟩; obtain ⟨no, nc, hv, hN, _⟩ := hO.form; subst hv; have CN4 := Lib.hid hN; have CP4 := Lib.hid (CP3.out.below hb4); have SD4 := Lib.hid (SD3.out.below (TT.out b) (rl_thing r) hb4); have HB4 := Lib.hid (HB3.out.trans (hb4.mono HZ3.out)); have HZ4 := Lib.hid (Nat.le_trans HZ3.out hb4.size); have RC4 := Lib.hid (rc_on RC3.out hb4); have QB4 := Lib.hid (below_heap hb4 QB3.out); have PB4 := Lib.hid (ask_cells QB4.out); have CQ4 := Lib.hid (CQ3.out.below hb4); clear hb4 hO hN hGp)
        | (go_at_call 12; refine (answer_same xa xo qo xc qc _ CX2.out.here.1 CY2.out.here.1 HASM.out).mono ?_; rintro e w13 ⟨rfl, hb3⟩; have SD3 := Lib.hid (SD2.out.below (TT.out b) (rl_thing r) hb3); have HB3 := Lib.hid (HB2.out.trans (hb3.mono HZ2.out)); have HZ3 := Lib.hid (Nat.le_trans HZ2.out hb3.size); have QB3 := Lib.hid (below_heap hb3 QB2.out); have PB3 := Lib.hid (ask_cells QB3.out); have CQ3 := Lib.hid (CQ2.out.below hb3); obtain ⟨lo, lc, e0, e1, hCP, hrq⟩ := side_cells SD3.out; have CP3 := Lib.hid hCP; have RC3 := Lib.hid (show w13.cell? ⟨r, 0, none⟩ = some (.int .i64 y'.ep) ∧ w13.cell? ⟨r, 1, none⟩ = some (.slice lo y'.L.length lc) from ⟨e0, e1⟩); clear hb3 hCP e0 e1; rw [held_swap (T1 := fun W => (W.cell? ⟨bk, off + n * 9, none⟩ = some (.int .i64 kd) ∧ W.cell? ⟨bk, off + n * 9 + 1, none⟩ = some (.int .i64 un) ∧ W.cell? ⟨bk, off + n * 9 + 2, none⟩ = some (.int .i64 ep) ∧ W.cell? ⟨bk, off + n * 9 + 3, none⟩ = some (.int .i64 pg) ∧ W.cell? ⟨bk, off + n * 9 + 4, none⟩ = some (.int .i64 sz) ∧ W.cell? ⟨bk, off + n * 9 + 5, none⟩ = some (.int .i64 nn) ∧ W.cell? ⟨bk, off + n * 9 + 6, none⟩ = some (.string s) ∧ W.cell? ⟨bk, off + n * 9 + 7, none⟩ = some (.int .i64 pe) ∧ W.cell? ⟨bk, off + n * 9 + 8, none⟩ = some (.slice ao2 L2.length cap2)) ∧ (W.cell? ⟨wr.heap.size, 0, none⟩ = some (.int .i64 kd) ∧ W.cell? ⟨wr.heap.size, 1, none⟩ = some (.int .i64 un) ∧ W.cell? ⟨wr.heap.size, 2, none⟩ = some (.int .i64 ep) ∧ W.cell? ⟨wr.heap.size, 3, none⟩ = some (.int .i64 pg) ∧ W.cell? ⟨wr.heap.size, 4, none⟩ = some (.int .i64 sz) ∧ W.cell? ⟨wr.heap.size, 5, none⟩ = some (.int .i64 nn) ∧ W.cell? ⟨wr.heap.size, 6, none⟩ = some (.string s) ∧ W.cell? ⟨wr.heap.size, 7, none⟩ = some (.int .i64 pe) ∧ W.cell? ⟨wr.heap.size, 8, none⟩ = some (.slice go L2.length gc))) (fun W => ((W.cell? ⟨bk, off + n * 9, none⟩ = some (.int .i64 kd) ∧ W.cell? ⟨bk, off + n * 9 + 1, none⟩ = some (.int .i64 un) ∧ W.cell? ⟨bk, off + n * 9 + 2, none⟩ = some (.int .i64 ep) ∧ W.cell? ⟨bk, off + n * 9 + 3, none⟩ = some (.int .i64 pg) ∧ W.cell? ⟨bk, off + n * 9 + 4, none⟩ = some (.int .i64 sz) ∧ W.cell? ⟨bk, off + n * 9 + 5, none⟩ = some (.int .i64 nn) ∧ W.cell? ⟨bk, off + n * 9 + 6, none⟩ = some (.string s) ∧ W.cell? ⟨bk, off + n * 9 + 7, none⟩ = some (.int .i64 pe) ∧ W.cell? ⟨bk, off + n * 9 + 8, none⟩ = some (.slice ao2 L2.length cap2)) ∧ (W.cell? ⟨wr.heap.size, 0, none⟩ = some (.int .i64 kd) ∧ W.cell? ⟨wr.heap.size, 1, none⟩ = some (.int .i64 un) ∧ W.cell? ⟨wr.heap.size, 2, none⟩ = some (.int .i64 ep) ∧ W.cell? ⟨wr.heap.size, 3, none⟩ = some (.int .i64 pg) ∧ W.cell? ⟨wr.heap.size, 4, none⟩ = some (.int .i64 sz) ∧ W.cell? ⟨wr.heap.size, 5, none⟩ = some (.int .i64 nn) ∧ W.cell? ⟨wr.heap.size, 6, none⟩ = some (.string s) ∧ W.cell? ⟨wr.heap.size, 7, none⟩ = some (.int .i64 pe) ∧ W.cell? ⟨wr.heap.size, 8, none⟩ = some (.slice go L2.length gc))) ∧ W.cell? ⟨r, 0, none⟩ = some (.int .i64 y'.ep) ∧ W.cell? ⟨r, 1, none⟩ = some (.slice lo y'.L.length lc)) (fun W h => h.1) (by assumption)] at *)
        | (go_at_call 14; refine (side_tells_right (TT.out b) (rl_thing r) SD1.out (b' := y') (x := xa) (fun F hF hX => CR.out _ F _ hF hX HB1.out HZ1.out (fun k h => .inl (.inl h)))).mono ?_; rintro e w12 ⟨qo, qc, C2, rfl, hC2, hD2, hk2⟩; have CY2 := Lib.hid hC2; have CX2 := Lib.hid (CX1.out.keep hk2 (fun k hk => .inr hk)); have SD2 := Lib.hid hD2; have HB2 := Lib.hid (HB1.out.trans (hk2.toBelow HZ1.out (fun k h => .inl (.inl h)))); have HZ2 := Lib.hid (Nat.le_trans HZ1.out hk2.size); have QB2 := Lib.hid (hk2.heap (b := wr.heap.size) (.inl (.inr HIN.out)) QB1.out); have PB2 := Lib.hid (ask_cells QB2.out); have CQ2 := Lib.hid ((CQ1.out.keep hk2 (fun k hk => .inl (.inr hk))).here.1); clear hC2 hD2 hk2)
        | (go_at_call 13; refine (side_tells (TT.out b) (rl_thing r) SD0.out (a' := y') (x := xa) CX.out).mono ?_; rintro e w11 ⟨xo, xc, C1, rfl, hC1, hD1, hk1⟩; have CX1 := Lib.hid hC1; have SD1 := Lib.hid hD1; have HB1 := Lib.hid (HB0.out.trans (hk1.toBelow HZ0.out (fun k h => .inl h))); have HZ1 := Lib.hid (Nat.le_trans HZ0.out hk1.size); have QB1 := Lib.hid (hk1.heap (b := wr.heap.size) (.inr HIN.out) QB0.out); have PB1 := Lib.hid (ask_cells QB1.out); have CQ1 := Lib.hid (CQ0.out.keep hk1 (fun k hk => .inr hk)); clear hC1 hD1 hk1))
    all_goals
      go_wp2_with fail
      go_roundw
      case rel => exact ⟨n + 1, y', by go_num, by omega, HYU, Lib.hid ⟨side_less SD9.out (fun k h => .inl (.inl (.inl h))), HB9.out, HZ9.out⟩⟩
      case measure => simp [intOf]; omega

set_option maxRecDepth 100000 in
theorem layoutPlays_lifted (os : Os) (started : os.Started) (H : Type) (enc : TypeId × Value → H) :
    ReturnsInHanded {} Try.checked os 3 .any (Rows.layoutPlaysSpec.pre6 enc Try.prog Try.f3 Rows.layoutPlaysRow.domain false) (Rows.layoutPlaysSpec.post enc Try.prog Try.f3 false true false false) := by
  refine returnsInHanded_of_change (C := Try.checked) own started (by kernel_rfl) Try.func3
    (ChangeSpec.witness6 (enc := enc) (C := Try.checked) false ⟨#[], #[.agg #[.int .i64 0, .slice none 0 0], .slice none 0 0], []⟩ 8 (by kernel_rfl) (by kernel_rfl) (by kernel_rfl) (by kernel_rfl)) ?_
  intro W base args ds gs before hval0 hW hcnd _
  have hval : ∀ (j : Nat) t v, Try.f3.params[j]? = some t → args[j]? = some v → Value.okWide Try.prog W .any base t v := hval0
  have hW' := hW
  obtain ⟨p, q, hA0, hV, rfl, hfz, hnd⟩ := hW
  have hA : DataW.TrodAll enc Try.prog W 0 (fun _ => true) true Try.f3.params.toList args.toList ds p := hA0
  rw [Try.params3] at hA hval
  obtain ⟨v0, vs0, d0, ds0, p0, q0, hargs, rfl, rfl, h0, r0⟩ := trodAll_cons hA
  obtain ⟨v1, vs1, d1, ds1, p1, q1, rfl, rfl, rfl, h1, r1⟩ := trodAll_cons r0
  obtain ⟨rfl, rfl, rfl⟩ := trodAll_nil r1
  obtain rfl : args = #[v0, v1] := by cases args; simp_all
  obtain ⟨rfl, rfl⟩ := trodVars_none hV
  have k0 := h0
  have lt0 : ∀ x ∈ p0, x.block < W.heap.size := by obtain ⟨m, hm⟩ := k0; exact DataW.trod_lt m _ _ _ hm
  have k1 := h1
  have lt1 : ∀ x ∈ p1, x.block < W.heap.size := by obtain ⟨m, hm⟩ := k1; exact DataW.trod_lt m _ _ _ hm
  obtain ⟨ep0, ao0, cap0, L0, rfl, wf0, hC0, hn0, hc0, hl0, hm0⟩ := open_proj Try.underlying24 (by kernel_rfl) rfl rfl (by kernel_rfl) (by kernel_rfl) Try.underlying3 Try.underlying22 Try.underlying45 (by kernel_rfl) (hval 0 24 v0 rfl rfl) h0
  have hF0 : PIn W ep0 ao0 cap0 L0 := ⟨⟨hC0, hn0, hc0⟩, i64_of_wf wf0, hl0, fun c hcm => by obtain ⟨i, hi, rfl⟩ := List.getElem_of_mem hcm; exact hm0 i hi⟩
  obtain ⟨ao1, cap1, L1, rfl, w1, hR1, hK1, hn1, hc1⟩ := open_rows (f := askC) (ok := AkIn) (n := 8) Try.underlying25 (by kernel_rfl) (fun m cs y hl hf => ask_cs askT hl hf) (hval 1 25 v1 rfl rfl) h1
  clear hA0 hval0
  refine (layoutPlays_walk laySays ep0 ao0 cap0 L0 ao1 cap1 L1 w1 W hF0 hR1 hK1).mono fun e W' ⟨he, bel⟩ => ?_
  subst he
  exact ⟨_, rfl, _, _, _, [], _, [], hW', trodAll_mk1 (shut_bool Try.underlying4 _), (trodAll_cons_mk (Below.trod laidOut (by kernel_rfl) (of_decide_eq_true (by kernel_rfl)) k0 bel lt0) (trodAll_cons_mk (Below.trod laidOut (by kernel_rfl) (of_decide_eq_true (by kernel_rfl)) k1 bel lt1) trodAll_mk0)), rfl, bel.frame _, fun h => by cases h⟩

theorem layoutPlays_over : Rows.layoutPlaysRow.holds Try.pinned (OpenSpec.ofChange Rows.layoutPlaysSpec) :=
  OpenClaim.holds_of_wide 3 Try.f3 rfl rfl rfl rfl rfl rfl rfl ⟨rfl, rfl, rfl, rfl, rfl⟩ rfl rfl rfl rfl rfl (by kernel_rfl) Try.func3 (by kernel_rfl)
    (of_decide_eq_true (by kernel_rfl)) (by unfold Func.isWrapper; first | (rw [if_pos (by decide +kernel)]; kernel_rfl) | (rw [if_neg (by decide +kernel)]; exact ⟨rfl, rfl⟩))
    (fun os started H enc _ => layoutPlays_lifted os started H enc)

/-- THE STATEMENT -/
theorem layoutPlays_holds : Rows.LayoutPlaysSaid := layoutPlays_over 
end Go.Proofs.Ythfbefkddnbbcaa
