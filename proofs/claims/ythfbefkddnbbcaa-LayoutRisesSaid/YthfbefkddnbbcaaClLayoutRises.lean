/- The law LayoutRises: epochs that count rise by one, an image's Next never falls, a unit that left never comes in again. Conditions: none. (Written by gen/genlayoutrises.py.) -/
import Derived.Test.YthfbefkddnbbcaaHb
import Derived.Test.YthfbefkddnbbcaaHc
import Derived.Test.YthfbefkddnbbcaaHd
import Derived.Test.YthfbefkddnbbcaaHe
import Derived.Deep.RegionHeld3
import Derived.Deep.RegionHeldLaw
namespace Go.Proofs.Ythfbefkddnbbcaa
open Go.ChangeShapes Go.WideShapes Go.ChangeAt Go.RowKit
open Go.ChangeMaps (open_string shut_string)
set_option linter.unusedVariables false
set_option maxRecDepth 20000

section
variable {W W2 w : World} {d bk o : Nat} {e x : Int} {v : Value}
theorem s3_on (h : W.cell? ⟨d, 0, none⟩ = some (.int .i64 e) ∧ W.cell? ⟨d, 1, none⟩ = some v ∧ W.cell? ⟨bk, o, none⟩ = some (.int .i64 x) ∧ Below w.heap.size w W) (hb : Below W.heap.size W W2) :
    W2.cell? ⟨d, 0, none⟩ = some (.int .i64 e) ∧ W2.cell? ⟨d, 1, none⟩ = some v ∧ W2.cell? ⟨bk, o, none⟩ = some (.int .i64 x) ∧ Below w.heap.size w W2 :=
  ⟨cellB hb (block_lt_of_cell h.1) h.1, cellB hb (block_lt_of_cell h.2.1) h.2.1, cellB hb (block_lt_of_cell h.2.2.1) h.2.2.1, h.2.2.2.trans (hb.mono h.2.2.2.size)⟩
theorem s3_b (h : W.cell? ⟨d, 0, none⟩ = some (.int .i64 e) ∧ W.cell? ⟨d, 1, none⟩ = some v ∧ W.cell? ⟨bk, o, none⟩ = some (.int .i64 x) ∧ Below w.heap.size w W) : Below w.heap.size w W := h.2.2.2
end
set_option maxHeartbeats 16000000 in
theorem layoutRises_walk {LG : Nat → (Nat → Prop) → World → Ly → Prop} (HS : LaySays LG) (ep0 : Int) (ao0 : Option Addr) (cap0 : Nat) (L0 : List (List Int)) (ao : Option Addr) (cap : Nat) (l : List Ak) (hl : l.length ≤ maxLen) (w : World) (hP : PIn w ep0 ao0 cap0 L0) (hR : Row w ao 9 askC l) (hK : ∀ a ∈ l, AkIn w a) :
    Calls Try.prog 4 #[.agg #[.int .i64 ep0, .slice ao0 L0.length cap0], .slice ao l.length cap] w fun e w' => e = .returned (.bool true) ∧ Below w.heap.size w w' := by
  have CW := Lib.hid (fun w => wakes12_any HS w)
  have hl3 : (l.length : Int) ≤ 9223372036854775807 := by unfold maxLen at hl; omega
  have HB0 := Lib.hid (below_new w (.cells #[.int .i64 ep0, .slice ao0 L0.length cap0] 24))
  have HX0 := Lib.hid (show (w.alloc (.cells #[.int .i64 ep0, .slice ao0 L0.length cap0] 24)).heap[w.heap.size]? = some (.cells #[.int .i64 ep0, .slice ao0 L0.length cap0] 24 (0, 0)) from heap_alloc_new _ _)
  have HC := Lib.hid (hP.1.1.below HB0.out)
  have CL1 := Lib.hid (large_any ep0 ao0 cap0 L0 _ HC.out hP.2.2.1 hP.2.2.2)
  have HF := Lib.hid hR
  have HK := Lib.hid hK
  have HHL := Lib.hid hl
  clear hR hK hP hl
  cases hlg : largeB L0
  case true =>
    rw [hlg] at CL1
    clear hlg
    go_enter Try.func4, Try.ntmps4
    go_wp2_with (first
      | (go_at_call 6; refine CL1.out.mono ?_; rintro e w1 ⟨rfl, hb1⟩; have B1 := Lib.hid (HB0.out.trans (hb1.mono HB0.out.size)); clear hb1)
      | (go_at_call 8; refine (CW.out _).mono ?_; rintro e w6 ⟨rfl, hb6⟩))
    go_ret
    exact ⟨rfl, B1.out.trans (hb6.mono B1.out.size)⟩
  case false =>
  have HLN := Lib.hid (largeB_no hlg)
  rw [hlg] at CL1
  clear hlg
  go_enter Try.func4, Try.ntmps4
  go_wp2_with (go_at_call 6; refine CL1.out.mono ?_; rintro e w1 ⟨rfl, hb1⟩; have B1 := Lib.hid (HB0.out.trans (hb1.mono HB0.out.size)); have HC1 := Lib.hid (HC.out.below hb1); have HX1 := Lib.hid (below_heap hb1 HX0.out); clear hb1)
  refine (fair12_any ao cap l _ HHL.out (HF.out.below B1.out) (fun a ha => (HK.out a ha).below B1.out)).mono ?_
  rintro e w2 ⟨⟨c, rfl, hf⟩, hb2⟩
  have B2 := Lib.hid (B1.out.trans (hb2.mono B1.out.size))
  have HC2 := Lib.hid (HC1.out.below hb2)
  have HX2 := Lib.hid (below_heap hb2 HX1.out)
  clear hb2 HX1 HC1 HX0 HC CL1
  have H1000 := Lib.hid (show L0.length ≤ 1000 ∧ ∀ c ∈ L0, c.length ≤ 1000 from ⟨by have := HLN.out.1; omega, fun c hc => by have := HLN.out.2 c hc; omega⟩)
  have H255 := Lib.hid (show fewL L0 from ⟨by have := HLN.out.1; omega, fun c hc => by have := HLN.out.2 c hc; omega⟩)
  cases c
  case false =>
    go_wp2_with (go_at_call 8; refine (CW.out _).mono ?_; rintro e w6 ⟨rfl, hb6⟩)
    go_ret
    exact ⟨rfl, B2.out.trans (hb6.mono B2.out.size)⟩
  case true =>
  have HFA := Lib.hid (hf rfl)
  clear hf
  obtain ⟨c0, c1, _, _⟩ := two_cells HX2.out
  have CG7 := Lib.hid (rgood_any ep0 ao0 cap0 L0 w2 HC2.out H255.out)
  cases hg : goodB ep0 L0
  case false =>
    rw [hg] at CG7
    clear hg
    go_wp2_with (first
      | (go_at_call 20; refine CG7.out.mono ?_; rintro e w3 ⟨rfl, hb3⟩; have B3 := Lib.hid (B2.out.trans (hb3.mono B2.out.size)); clear hb3)
      | (go_at_call 8; refine (CW.out _).mono ?_; rintro e w6 ⟨rfl, hb6⟩))
    go_ret
    exact ⟨rfl, B3.out.trans (hb6.mono B3.out.size)⟩
  case true =>
  rw [hg] at CG7
  have HG := Lib.hid hg
  have U16 := Lib.hid (show (newL ep0 L0).used.length ≤ 16 * (0 + 1) from units_16 hg)
  clear hg
  go_wp2_with (first
    | (go_at_call 20; refine CG7.out.mono ?_; rintro e w3 ⟨rfl, hb3⟩; have B3 := Lib.hid (B2.out.trans (hb3.mono B2.out.size)); have HC3 := Lib.hid (HC2.out.below hb3); have HX3 := Lib.hid (below_heap hb3 HX2.out); clear hb3 c0 c1; obtain ⟨c0, c1, _, _⟩ := two_cells HX3.out)
    | (go_at_call 9; refine (l_new HS HN4.out H255.out HG.out).mono ?_; unfold ptrL; rintro e w5 ⟨b, rfl, hs5, hb5⟩; have S5 := Lib.hid (hs5.less (fun k hk => Nat.lt_of_lt_of_le hk B4.out.size)); have B5 := Lib.hid (B4.out.trans (hb5.mono B4.out.size)); have HC5 := Lib.hid (HC4.out.below hb5); obtain ⟨c0, c1, _, _⟩ := two_cells (below_heap hb5 HX4.out); clear hs5 hb5)
    | (go_at_call 10; refine (keepCopyO_any ep0 ao0 cap0 L0 _ HC5.out H1000.out).mono ?_; rintro e w6 ⟨v, rfl, hO6, hb6⟩; obtain ⟨wo, wc, hv, _⟩ := hO6.form; subst hv; have HO6 := Lib.hid hO6; have S6 := Lib.hid S5.out; have HB6 := Lib.hid hb6; clear hO6 hb6 c0 c1)
    | (go_at_call 10; refine (keepCopyO_any ep0 ao0 cap0 L0 _ HC3.out H1000.out).mono ?_; rintro e w4 ⟨v, rfl, hO, hb4⟩; obtain ⟨go, gc, hv, hN4, _, _⟩ := hO.form; subst hv; have HN4 := Lib.hid hN4; have B4 := Lib.hid (B3.out.trans (hb4.mono B3.out.size)); have HC4 := Lib.hid (HC3.out.below hb4); have HX4 := Lib.hid (below_heap hb4 HX3.out); clear hO hN4 hb4 c0 c1))
  have HR0 := Lib.hid (show Rise LG w.heap.size w b w6.heap.size (newL ep0 L0) ep0 L0 [] (.slice none 0 0) (w6.alloc (.cells #[.int .i64 ep0, .slice wo L0.length wc] 24)) from rise_start HS S5.out B5.out HO6.out HB6.out)
  have HGN := Lib.hid (gone_new ep0 L0)
  clear HO6 HB6 S6 S5 B5 HC5 HN4 B4 HC4 HX4 B3 HC3 HX3 B2 HC2 HX2 B1 H1000 H255 HLN HB0 CG7
  have hcw : w.heap.size ≤ w6.heap.size := HR0.out.low
  generalize hcc : w6.heap.size = cc at *
  generalize hWS : World.alloc w6 _ = WS at *
  clear hWS
  go_loopw [8, 9, 10] (fun vn vl vi wr => ∃ (n : Nat) (u : Ly) (lf : List Int), vi = .int .i64 n ∧ n ≤ l.length ∧ vn = .int .i64 u.n ∧ Hid (u.used.length ≤ 16 * (n + 1)) ∧ Hid (Gone u lf) ∧ Hid (lf.length ≤ 16 * n) ∧ Hid (Rise LG w.heap.size w b cc u u.ep u.L lf vl wr)) (fun _ _ vi _ => l.length - (intOf vi).toNat)
  case atStart => exact ⟨0, newL ep0 L0, [], rfl, Nat.zero_le _, rfl, U16, HGN, Lib.hid (Nat.le_refl _), HR0⟩
  case round =>
    clear HR0 U16 HGN
    obtain ⟨n, u, lf, rfl, hn, rfl, HU, HGO, HLF, HL⟩ := hrel
    by_cases hlt : n < l.length
    case neg =>
      obtain rfl : n = l.length := by omega
      go_wp2_with (go_at_call 8; refine (CW.out _).mono ?_; rintro e w9 ⟨rfl, hb9⟩)
      go_ret
      exact ⟨rfl, HL.out.bel.trans (hb9.mono HL.out.sz)⟩
    case pos =>
    have n0 : (n : Int) < (l.length : Int) := by omega
    have HLA := Lib.hid (HFA.out.2 _ (List.getElem_mem hlt))
    have HN100 := Lib.hid (Nat.lt_of_lt_of_le hlt HFA.out.1)
    obtain ⟨bk, off, hao, x0, x1, x2, x3, x4, x5, x6, x7, x8⟩ := ask_at (HF.out.below HL.out.bel) hlt
    subst hao
    have HA := Lib.hid (HK.out _ (List.getElem_mem hlt))
    generalize l[n] = a at *
    obtain ⟨kd, un, ep, pg, sz, nn, s, pe, L2, ao2, cap2⟩ := a
    simp only at x0 x1 x2 x3 x4 x5 x6 x7 x8
    have hs50 : L2.length ≤ 50 ∧ ∀ c ∈ L2, c.length ≤ 50 := (largeA_no HLA.out).2
    have HSM := Lib.hid (show fewL L2 from ⟨by have := hs50.1; omega, fun c hc => by have := hs50.2 c hc; omega⟩)
    clear hs50
    have HUS := Lib.hid (show u.used.length ≤ 100000 from by have := HU.out; have := HN100.out; omega)
    have hgood := HL.out.good HS
    have HUG := Lib.hid hgood
    have HYG := Lib.hid (done_good hgood ⟨kd, un, ep, pg, sz, nn, s, pe, L2, ao2, cap2⟩)
    have HYU := Lib.hid (show (u.done ⟨kd, un, ep, pg, sz, nn, s, pe, L2, ao2, cap2⟩).used.length ≤ 16 * (n + 1 + 1) from by have := done_used u ⟨kd, un, ep, pg, sz, nn, s, pe, L2, ao2, cap2⟩; have := HU.out; omega)
    have HYN := Lib.hid (done_n u ⟨kd, un, ep, pg, sz, nn, s, pe, L2, ao2, cap2⟩)
    have HDC := Lib.hid (done_cases u ⟨kd, un, ep, pg, sz, nn, s, pe, L2, ao2, cap2⟩)
    have CQ := Lib.hid (HL.out.ask HS (a := ⟨kd, un, ep, pg, sz, nn, s, pe, L2, ao2, cap2⟩) HA.out.1 HSM.out HUS.out (fun W h => HA.out.2.below h))
    clear HLA hgood HU HA
    generalize u.done ⟨kd, un, ep, pg, sz, nn, s, pe, L2, ao2, cap2⟩ = y at *
    generalize u.ans ⟨kd, un, ep, pg, sz, nn, s, pe, L2, ao2, cap2⟩ = xa at *
    have HYS := Lib.hid (show y.used.length ≤ 100000 from by have := HYU.out; have := HN100.out; omega)
    have HYL := Lib.hid (good_small HYG.out)
    have HUL := Lib.hid (good_small HUG.out)
    unfold ptrL at CQ
    go_wp2_with (first
      | (go_at_call 13; refine CQ.out.mono ?_; rintro e w7 ⟨xo, xc, rfl, hr7⟩; have R7 := Lib.hid hr7; have CN := Lib.hid (hr7.now HS); unfold ptrL at CN; clear hr7)
      | (go_at_call 16; refine CN.out.mono ?_; rintro e w8 ⟨v, rfl, hO, hb8⟩; obtain ⟨no, nc, hv, _⟩ := hO.form; subst hv; have RN8 := Lib.hid (R7.out.turn HS hO hb8); obtain ⟨wo, wc, hcell, hcl⟩ := (R7.out.below HS hb8).was; have HW8 := Lib.hid hcl; obtain ⟨c0, c1, _, _⟩ := two_cells hcell; have hcs := lt_of_block hcell; clear hO hcl hcell hb8))
    have HP1 := Lib.hid (show y.L.length ≤ 1000000 ∧ ∀ c ∈ y.L, c.length ≤ 1000000 from ⟨Nat.le_trans HYL.out.1 (by decide), fun c hc => Nat.le_trans (HYL.out.2 c hc) (by decide)⟩)
    have HP2 := Lib.hid (show u.L.length ≤ 1000000 ∧ ∀ c ∈ u.L, c.length ≤ 1000000 from ⟨Nat.le_trans HUL.out.1 (by decide), fun c hc => Nat.le_trans (HUL.out.2 c hc) (by decide)⟩)
    obtain ⟨_, _, _, _, _, hcn8⟩ := RN8.out.cells
    refine (keepProj_any y.ep no nc y.L u.ep wo wc u.L _ hcn8 (HW8.out.below (below_new _ _)) HP1.out HP2.out).mono ?_
    rintro e w9 ⟨rfl, hb9⟩
    clear hcn8 c0 c1 hcs x0 x1 x2 x3 x4 x5 x6 x7 x8 CQ CN R7
    rcases HDC.out with ⟨e1, e2, e3⟩ | ⟨hm, hu2⟩
    · rw [show sameP y.ep y.L u.ep u.L = true from decide_eq_true ⟨e1, e2⟩]
      have RN9 := Lib.hid (show RiseN LG w.heap.size w b cc w8.heap.size y y.ep y.L y.ep y.L lf u9 no nc w9 from by have h := RN8.out.below HS hb9; rw [← e1, ← e2] at h; exact h)
      have HGY := Lib.hid (gone_same HGO.out e2 e3)
      have HLF2 := Lib.hid (show lf.length ≤ 16 * (n + 1) from by have := HLF.out; omega)
      clear hb9 HDC e1 e2 e3
      obtain ⟨lo, lc, hvl, _⟩ := RN9.out.left.form
      have hlf3 : (lf).length ≤ 10000 := by have := HLF2.out; have := HN100.out; have := HFA.out.1; omega
      have hlf4 : ((lf).length : Int) ≤ 10000 := by omega
      subst hvl
      go_wp2_with fail
      go_loopw [14] (fun vi3 wr3 => ∃ k : Nat, vi3 = .int .i64 k ∧ k ≤ lf.length ∧ Hid (RiseN LG w.heap.size w b cc w8.heap.size y y.ep y.L y.ep y.L (lf) (.slice lo (lf).length lc) no nc wr3)) (fun vi3 _ => (lf).length - (intOf vi3).toNat)
      case atStart => exact ⟨0, rfl, Nat.zero_le _, RN9⟩
      case round =>
        obtain ⟨k, rfl, hk, HR3⟩ := hrel
        by_cases hkt : k < (lf).length
        · obtain ⟨lo2, lc2, hv2, hN2, _⟩ := HR3.out.left.form
          obtain ⟨rfl, _, rfl⟩ := Value.slice.inj hv2
          obtain ⟨b5, o5, rfl, c5⟩ := hN2.at k hkt
          obtain ⟨_, _, _, _, hd3, hcl3⟩ := HR3.out.cells
          obtain ⟨d0, d1, _, _⟩ := two_cells hd3
          have HCD := Lib.hid (show CL wr no y.L from hcl3)
          have HS0 := Lib.hid (show wr.drew.cell? ⟨w8.heap.size, 0, none⟩ = some (.int .i64 y.ep) ∧ wr.drew.cell? ⟨w8.heap.size, 1, none⟩ = some (.slice no y.L.length nc) ∧ wr.drew.cell? ⟨b5, o5 + k, none⟩ = some (.int .i64 (lf)[k]) ∧ Below wr.heap.size wr wr.drew from ⟨d0, d1, c5, (Below.refl _ _).drew⟩)
          have HFL := Lib.hid (gone_not HGY.out (List.getElem_mem hkt))
          have k0 : (k : Int) < ((lf).length : Int) := by omega
          generalize (lf)[k] = gx at *
          clear hv2 hN2 hd3 hcl3 d0 d1 c5
          go_wp2_with fail
          go_region_held3 (fun W => W.cell? ⟨w8.heap.size, 0, none⟩ = some (.int .i64 y.ep) ∧ W.cell? ⟨w8.heap.size, 1, none⟩ = some (.slice no y.L.length nc) ∧ W.cell? ⟨b5, o5 + k, none⟩ = some (.int .i64 gx) ∧ Below wr.heap.size wr W)
            (first | exact HS0.out | exact s3_on (by assumption) hb12 | assumption)
            (first
              | (go_at_call 22; refine (refUnits_any y.ep no nc y.L _ (HCD.out.below (s3_b (by assumption))) HYL.out).mono ?_; rintro e w12 ⟨uo, uc, rfl, hN12, hb12⟩)
              | (go_at_call 23; refine (refHas_any (unitsR y.L) gx uo uc _ hN12 (Nat.le_trans (units_few HYL.out) (by decide))).mono ?_; rintro e w13 ⟨rfl, rfl⟩; rw [HFL.out]))
          all_goals
            rename_i hS
            have HR4 := Lib.hid (HR3.out.below HS hS.2.2.2)
            go_wp2_with fail
            go_roundw
            case rel => exact ⟨k + 1, by go_num, by omega, HR4⟩
            case measure => simp [intOf]; omega
        · obtain rfl : k = (lf).length := by omega
          have CT := Lib.hid (HR3.out.rise.tell HS HYS.out)
          have hyn : u.n ≤ y.n := HYN.out
          go_wp2_with (go_at_call 13; refine CT.out.mono ?_; rintro e w20 ⟨ts, t0, t1, t2, t3, t4, tv, tn, tc, rfl, hr20⟩; have R20 := Lib.hid hr20; clear hr20)
          go_roundw
          case rel => exact ⟨n + 1, y, lf, by go_num, by omega, rfl, HYU, HGY, HLF2, Lib.hid (R20.out.below HS (below_new _ _))⟩
          case measure => simp [intOf]; omega
    · obtain ⟨hnx, hep, _⟩ := may_next hm
      rw [show sameP y.ep y.L u.ep u.L = false from sameP_ep (by omega)]
      have HNX := Lib.hid hnx
      have RN9 := Lib.hid (RN8.out.below HS hb9)
      have HGY0 := Lib.hid (gone_next HGO.out hm hu2)
      have hue := (goodB_iff.1 HUG.out).1
      have hne : (y.ep != u.ep + 1) = false := by rw [hep]; simp
      have HN16 := Lib.hid (units_16 HUG.out)
      obtain ⟨wo9, wc9, q1, q2, q3, q4⟩ := RN9.out.cells
      obtain ⟨c0, c1, _, _⟩ := two_cells q1
      obtain ⟨d0, d1, _, _⟩ := two_cells q3
      have hc9 := lt_of_block q1
      have hd9 := lt_of_block q3
      clear hb9 HDC hm hu2 hnx hep q1 q3
      go_wp2_with (first
        | (go_at_call 21; refine (rnext_any u.ep wo9 wc9 u.L y.ep no nc y.L _ q2 q4 HUL.out HYL.out).mono ?_; rw [HNX.out]; rintro e w10 ⟨rfl, hb10⟩; have RN10 := Lib.hid (RN9.out.below HS hb10); clear c0 c1 d0 d1 hc9 hd9 q2 q4; obtain ⟨wo10, wc10, r1, r2, r3, r4⟩ := RN10.out.cells; obtain ⟨c0, c1, _, _⟩ := two_cells r1; have hc10 := lt_of_block r1; clear r1 r3 hb10)
        | (go_at_call 22; refine (refUnitsO_any u.ep wo10 wc10 u.L _ r2 ⟨HUL.out.1, fun c hc => Nat.le_trans (HUL.out.2 c hc) (by decide)⟩).mono ?_; rintro e w11 ⟨vu, rfl, hO11, hb11⟩; obtain ⟨bo, cb, hvu, hN11, hblk, _⟩ := hO11.form; subst hvu; have RN11 := Lib.hid (RN10.out.below HS hb11); have HN11 := Lib.hid hN11; have HBK := Lib.hid hblk; have HW10 := Lib.hid hb11.size; clear hO11 hb11 hN11 hblk c0 c1 hc10 r2 r4))
      have HOW0 := Lib.hid (show ∀ j, u9.ownBlock = some j → j < w10.heap.size ∨ w11.heap.size ≤ j from fun j e => .inl (RN10.out.left.1.lt j e).2)
      have hn16 : (unitsR u.L).length ≤ 16 := HN16.out
      have HG9 := Lib.hid (show Gone y (lf ++ leftK (unitsR u.L) (unitsR y.L) (unitsR u.L).length) from by rw [leftK_all]; exact HGY0.out)
      clear HGY0 RN10 RN9 HNX hne
      generalize unitsR u.L = N at *
      have hn16' : (N.length : Int) ≤ 16 := by omega
      go_loopw [9, 13] (fun vl2 vi2 wr2 => ∃ k : Nat, vi2 = .int .i64 k ∧ k ≤ N.length ∧ Hid (RiseN LG w.heap.size w b cc w8.heap.size y u.ep u.L y.ep y.L (lf ++ leftK N (unitsR y.L) k) vl2 no nc wr2) ∧ Hid (NLI wr2 bo cb N) ∧ Hid (∀ j, vl2.ownBlock = some j → j < w10.heap.size ∨ w11.heap.size ≤ j) ∧ w11.heap.size ≤ wr2.heap.size) (fun _ vi2 _ => N.length - (intOf vi2).toNat)
      case atStart => exact ⟨0, rfl, Nat.zero_le _, Lib.hid (by rw [leftK_zero, List.append_nil]; exact RN11.out), HN11, HOW0, Nat.le_refl _⟩
      case round =>
        clear RN11 HN11 HOW0
        obtain ⟨k, rfl, hk, HR2, HNL, HOW, hsz⟩ := hrel
        by_cases hkt : k < N.length
        · obtain ⟨b5, o5, hbo, c5⟩ := HNL.out.at k hkt
          subst hbo
          obtain ⟨_, _, _, _, hd3, hcl3⟩ := HR2.out.cells
          obtain ⟨d0, d1, _, _⟩ := two_cells hd3
          have HCD := Lib.hid (show CL wr no y.L from hcl3)
          have HS0 := Lib.hid (show wr.drew.cell? ⟨w8.heap.size, 0, none⟩ = some (.int .i64 y.ep) ∧ wr.drew.cell? ⟨w8.heap.size, 1, none⟩ = some (.slice no y.L.length nc) ∧ wr.drew.cell? ⟨b5, o5 + k, none⟩ = some (.int .i64 N[k]) ∧ Below wr.heap.size wr wr.drew from ⟨d0, d1, c5, (Below.refl _ _).drew⟩)
          have k0 : (k : Int) < (N.length : Int) := by omega
          have HWF := Lib.hid (HNL.out.wf _ (List.getElem_mem hkt))
          have HIN := Lib.hid (fun h => @leftK_in N (unitsR y.L) k hkt h)
          have HOUT := Lib.hid (fun h => @leftK_out N (unitsR y.L) k hkt h)
          have HLE := Lib.hid (leftK_le N (unitsR y.L) k)
          clear hd3 hcl3 d0 d1 c5
          generalize N[k] = gx at *
          cases hh : hasB (unitsR y.L) gx
          case true =>
            have HFL := Lib.hid hh
            have HK1 := Lib.hid (HIN.out hh)
            clear hh HIN HOUT
            go_wp2_with fail
            go_region_held3 (fun W => W.cell? ⟨w8.heap.size, 0, none⟩ = some (.int .i64 y.ep) ∧ W.cell? ⟨w8.heap.size, 1, none⟩ = some (.slice no y.L.length nc) ∧ W.cell? ⟨b5, o5 + k, none⟩ = some (.int .i64 gx) ∧ Below wr.heap.size wr W)
              (first | exact HS0.out | exact s3_on (by assumption) hb12 | assumption)
              (first
                | (go_at_call 22; refine (refUnits_any y.ep no nc y.L _ (HCD.out.below (s3_b (by assumption))) HYL.out).mono ?_; rintro e w12 ⟨uo, uc, rfl, hN12, hb12⟩)
                | (go_at_call 23; refine (refHas_any (unitsR y.L) gx uo uc _ hN12 (Nat.le_trans (units_few HYL.out) (by decide))).mono ?_; rintro e w13 ⟨rfl, rfl⟩; rw [HFL.out]))
            all_goals
              rename_i hS
              have HR4 := Lib.hid (HR2.out.below HS hS.2.2.2)
              have HN4 := Lib.hid (HNL.out.below hS.2.2.2)
              have hs4 := hS.2.2.2.size
              go_wp2_with fail
              go_roundw
              case rel => exact ⟨k + 1, by go_num, by omega, Lib.hid (by rw [HK1.out]; exact HR4.out), HN4, HOW, by omega⟩
              case measure => simp [intOf]; omega
          case false =>
            have HFL := Lib.hid hh
            have HK1 := Lib.hid (HOUT.out hh)
            clear hh HIN HOUT
            go_wp2_with fail
            go_region_held3 (fun W => W.cell? ⟨w8.heap.size, 0, none⟩ = some (.int .i64 y.ep) ∧ W.cell? ⟨w8.heap.size, 1, none⟩ = some (.slice no y.L.length nc) ∧ W.cell? ⟨b5, o5 + k, none⟩ = some (.int .i64 gx) ∧ Below wr.heap.size wr W)
              (first | exact HS0.out | exact s3_on (by assumption) hb12 | assumption)
              (first
                | (go_at_call 22; refine (refUnits_any y.ep no nc y.L _ (HCD.out.below (s3_b (by assumption))) HYL.out).mono ?_; rintro e w12 ⟨uo, uc, rfl, hN12, hb12⟩)
                | (go_at_call 23; refine (refHas_any (unitsR y.L) gx uo uc _ hN12 (Nat.le_trans (units_few HYL.out) (by decide))).mono ?_; rintro e w13 ⟨rfl, rfl⟩; rw [HFL.out]))
            all_goals
              rename_i hS
              have HR4 := Lib.hid ((HR2.out.below HS hS.2.2.2).below HS (below_new _ (.cells #[.int .i64 gx] 3)))
              have HN4 := Lib.hid ((HNL.out.below hS.2.2.2).below (below_new _ (.cells #[.int .i64 gx] 3)))
              have hs4 := hS.2.2.2.size
              have c5 := hS.2.2.1
              have HLN2 := Lib.hid (show (lf ++ leftK N (unitsR y.L) k).length ≤ 10000 from by have := HLE.out; have := HLF.out; have := HN100.out; have := HFA.out.1; rw [List.length_append]; omega)
              go_wp2_with (refine wpList_app_ints (o := ⟨some 91, _, _, _, _, _⟩) rfl (.tmp 85) (.tmp 90) rfl (B := w.heap.size) (D := lf ++ leftK N (unitsR y.L) k) rfl HR4.out.left (ao := some ⟨_, 0, none⟩) (cap := 1) (l := [gx]) (m := 1) rfl rfl (NLI.made _ gx HWF.out) (by have := HLN2.out; simp at this ⊢; omega) HR4.out.sz ?_; intro v14 w14 hI hg hown; have hs14 := hg.size; have RN14 := Lib.hid (HR4.out.grew HS ((Kept.refl _ _).grown hg (fun k e hk => hk.2 e)) hI (fun j e => by rcases hown with h | h; exact .inl (h ▸ e); exact .inr (by rw [h] at e; cases e; exact Nat.le_refl _))); have HN14 := Lib.hid (HN4.out.grown hg (fun a e h => by have h1 := HBK.out a e; have h2 := HOW.out _ h; omega)); have HOW4 := Lib.hid (show ∀ j, v14.ownBlock = some j → j < w10.heap.size ∨ w11.heap.size ≤ j from fun j e => by rcases hown with h | h; exact HOW.out j (h ▸ e); rw [h] at e; cases e; right; simp; omega); clear hI hg hown)
              go_roundw
              case rel => exact ⟨k + 1, by go_num, by omega, Lib.hid (by rw [HK1.out, ← List.append_assoc]; exact RN14.out), HN14, HOW4, by simp at hs14; omega⟩
              case measure => simp [intOf]; omega
        · obtain rfl : k = N.length := by omega
          obtain ⟨wo2, wc2, h1, _, h3, _⟩ := HR2.out.cells
          obtain ⟨c0, c1, f0, f1⟩ := two_cells h1
          obtain ⟨d0, d1, _, _⟩ := two_cells h3
          have hc2 := lt_of_block h1
          have hd2 := lt_of_block h3
          have HGY := HG9
          have HLF2 := Lib.hid (show (lf ++ leftK N (unitsR y.L) N.length).length ≤ 16 * (n + 1) from by have := leftK_le N (unitsR y.L) N.length; have := HLF.out; rw [List.length_append]; omega)
          have RN9 := Lib.hid (HR2.out.note HS)
          clear h1 h3 HG9 HR2
          generalize lf ++ leftK N (unitsR y.L) N.length = lf2 at *
          obtain ⟨lo, lc, hvl, _⟩ := RN9.out.left.form
          have hlf3 : (lf2).length ≤ 10000 := by have := HLF2.out; have := HN100.out; have := HFA.out.1; omega
          have hlf4 : ((lf2).length : Int) ≤ 10000 := by omega
          subst hvl
          go_wp2_with fail
          generalize hWn : World.setCell (World.setCell _ ⟨cc, 0, none⟩ _) ⟨cc, 1, none⟩ _ = Wn at *
          clear hWn
          go_loopw [14] (fun vi3 wr3 => ∃ k : Nat, vi3 = .int .i64 k ∧ k ≤ lf2.length ∧ Hid (RiseN LG w.heap.size w b cc w8.heap.size y y.ep y.L y.ep y.L (lf2) (.slice lo (lf2).length lc) no nc wr3)) (fun vi3 _ => (lf2).length - (intOf vi3).toNat)
          case atStart => exact ⟨0, rfl, Nat.zero_le _, RN9⟩
          case round =>
            obtain ⟨k, rfl, hk, HR3⟩ := hrel
            by_cases hkt : k < (lf2).length
            · obtain ⟨lo2, lc2, hv2, hN2, _⟩ := HR3.out.left.form
              obtain ⟨rfl, _, rfl⟩ := Value.slice.inj hv2
              obtain ⟨b5, o5, rfl, c5⟩ := hN2.at k hkt
              obtain ⟨_, _, _, _, hd3, hcl3⟩ := HR3.out.cells
              obtain ⟨d0, d1, _, _⟩ := two_cells hd3
              have HCD := Lib.hid (show CL wr no y.L from hcl3)
              have HS0 := Lib.hid (show wr.drew.cell? ⟨w8.heap.size, 0, none⟩ = some (.int .i64 y.ep) ∧ wr.drew.cell? ⟨w8.heap.size, 1, none⟩ = some (.slice no y.L.length nc) ∧ wr.drew.cell? ⟨b5, o5 + k, none⟩ = some (.int .i64 (lf2)[k]) ∧ Below wr.heap.size wr wr.drew from ⟨d0, d1, c5, (Below.refl _ _).drew⟩)
              have HFL := Lib.hid (gone_not HGY.out (List.getElem_mem hkt))
              have k0 : (k : Int) < ((lf2).length : Int) := by omega
              generalize (lf2)[k] = gx at *
              clear hv2 hN2 hd3 hcl3 d0 d1 c5
              go_wp2_with fail
              go_region_held3 (fun W => W.cell? ⟨w8.heap.size, 0, none⟩ = some (.int .i64 y.ep) ∧ W.cell? ⟨w8.heap.size, 1, none⟩ = some (.slice no y.L.length nc) ∧ W.cell? ⟨b5, o5 + k, none⟩ = some (.int .i64 gx) ∧ Below wr.heap.size wr W)
                (first | exact HS0.out | exact s3_on (by assumption) hb12 | assumption)
                (first
                  | (go_at_call 22; refine (refUnits_any y.ep no nc y.L _ (HCD.out.below (s3_b (by assumption))) HYL.out).mono ?_; rintro e w12 ⟨uo, uc, rfl, hN12, hb12⟩)
                  | (go_at_call 23; refine (refHas_any (unitsR y.L) gx uo uc _ hN12 (Nat.le_trans (units_few HYL.out) (by decide))).mono ?_; rintro e w13 ⟨rfl, rfl⟩; rw [HFL.out]))
              all_goals
                rename_i hS
                have HR4 := Lib.hid (HR3.out.below HS hS.2.2.2)
                go_wp2_with fail
                go_roundw
                case rel => exact ⟨k + 1, by go_num, by omega, HR4⟩
                case measure => simp [intOf]; omega
            · obtain rfl : k = (lf2).length := by omega
              have CT := Lib.hid (HR3.out.rise.tell HS HYS.out)
              have hyn : u.n ≤ y.n := HYN.out
              go_wp2_with (go_at_call 13; refine CT.out.mono ?_; rintro e w20 ⟨ts, t0, t1, t2, t3, t4, tv, tn, tc, rfl, hr20⟩; have R20 := Lib.hid hr20; clear hr20)
              go_roundw
              case rel => exact ⟨n + 1, y, lf2, by go_num, by omega, rfl, HYU, HGY, HLF2, Lib.hid (R20.out.below HS (below_new _ _))⟩
              case measure => simp [intOf]; omega

set_option maxRecDepth 100000 in
theorem layoutRises_lifted (os : Os) (started : os.Started) (H : Type) (enc : TypeId × Value → H) :
    ReturnsInHanded {} Try.checked os 4 .any (Rows.layoutRisesSpec.pre6 enc Try.prog Try.f4 Rows.layoutRisesRow.domain false) (Rows.layoutRisesSpec.post enc Try.prog Try.f4 false true false false) := by
  refine returnsInHanded_of_change (C := Try.checked) own started (by kernel_rfl) Try.func4
    (ChangeSpec.witness6 (enc := enc) (C := Try.checked) false ⟨#[], #[.agg #[.int .i64 0, .slice none 0 0], .slice none 0 0], []⟩ 8 (by kernel_rfl) (by kernel_rfl) (by kernel_rfl) (by kernel_rfl)) ?_
  intro W base args ds gs before hval0 hW hcnd _
  have hval : ∀ (j : Nat) t v, Try.f4.params[j]? = some t → args[j]? = some v → Value.okWide Try.prog W .any base t v := hval0
  have hW' := hW
  obtain ⟨p, q, hA0, hV, rfl, hfz, hnd⟩ := hW
  have hA : DataW.TrodAll enc Try.prog W 0 (fun _ => true) true Try.f4.params.toList args.toList ds p := hA0
  rw [Try.params4] at hA hval
  obtain ⟨v0, vs0, d0, ds0, p0, q0, hargs, rfl, rfl, h0, r0⟩ := trodAll_cons hA
  obtain ⟨v1, vs1, d1, ds1, p1, q1, rfl, rfl, rfl, h1, r1⟩ := trodAll_cons r0
  obtain ⟨rfl, rfl, rfl⟩ := trodAll_nil r1
  obtain rfl : args = #[v0, v1] := by cases args; simp_all
  obtain ⟨rfl, rfl⟩ := trodVars_none hV
  have k0 := h0
  have lt0 : ∀ x ∈ p0, x.block < W.heap.size := by obtain ⟨m, hm⟩ := k0; exact DataW.trod_lt m _ _ _ hm
  have k1 := h1
  have lt1 : ∀ x ∈ p1, x.block < W.heap.size := by obtain ⟨m, hm⟩ := k1; exact DataW.trod_lt m _ _ _ hm
  obtain ⟨ep0, ao0, cap0, L0, rfl, wf0, hC0, hn0, hc0, hl0, hm0⟩ := open_proj Try.underlying24 (by kernel_rfl) rfl rfl (by kernel_rfl) (by kernel_rfl) Try.underlying3 Try.underlying22 Try.underlying45 (by kernel_rfl) (hval 0 24 v0 rfl rfl) h0
  have hF0 : PIn W ep0 ao0 cap0 L0 := ⟨⟨hC0, hn0, hc0⟩, i64_of_wf wf0, hl0, fun c hcm => by obtain ⟨i, hi, rfl⟩ := List.getElem_of_mem hcm; exact hm0 i hi⟩
  obtain ⟨ao1, cap1, L1, rfl, w1, hR1, hK1, hn1, hc1⟩ := open_rows (f := askC) (ok := AkIn) (n := 8) Try.underlying25 (by kernel_rfl) (fun m cs y hl hf => ask_cs askT hl hf) (hval 1 25 v1 rfl rfl) h1
  clear hA0 hval0
  refine (layoutRises_walk laySays ep0 ao0 cap0 L0 ao1 cap1 L1 w1 W hF0 hR1 hK1).mono fun e W' ⟨he, bel⟩ => ?_
  subst he
  exact ⟨_, rfl, _, _, _, [], _, [], hW', trodAll_mk1 (shut_bool Try.underlying4 _), (trodAll_cons_mk (Below.trod laidOut (by kernel_rfl) (of_decide_eq_true (by kernel_rfl)) k0 bel lt0) (trodAll_cons_mk (Below.trod laidOut (by kernel_rfl) (of_decide_eq_true (by kernel_rfl)) k1 bel lt1) trodAll_mk0)), rfl, bel.frame _, fun h => by cases h⟩

theorem layoutRises_over : Rows.layoutRisesRow.holds Try.pinned (OpenSpec.ofChange Rows.layoutRisesSpec) :=
  OpenClaim.holds_of_wide 4 Try.f4 rfl rfl rfl rfl rfl rfl rfl ⟨rfl, rfl, rfl, rfl, rfl⟩ rfl rfl rfl rfl rfl (by kernel_rfl) Try.func4 (by kernel_rfl)
    (of_decide_eq_true (by kernel_rfl)) (by unfold Func.isWrapper; first | (rw [if_pos (by decide +kernel)]; kernel_rfl) | (rw [if_neg (by decide +kernel)]; exact ⟨rfl, rfl⟩))
    (fun os started H enc _ => layoutRises_lifted os started H enc)

/-- THE STATEMENT -/
theorem layoutRises_holds : Rows.LayoutRisesSaid := layoutRises_over 
end Go.Proofs.Ythfbefkddnbbcaa
