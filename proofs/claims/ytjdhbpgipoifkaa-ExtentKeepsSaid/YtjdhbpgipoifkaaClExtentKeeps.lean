/- The law ExtentKeeps: what is moved is read as it was. No conditions. (Written by gen/genextkeeps.py.) -/
import Derived.Test.YtjdhbpgipoifkaaG26a
import Derived.Lib.QuietBelow
namespace Go.Proofs.Ytjdhbpgipoifkaa
open Go.ChangeShapes Go.WideShapes Go.ChangeAt Go.RowKit Go.Sort
set_option linter.unusedVariables false
set_option maxRecDepth 20000
set_option maxHeartbeats 2000000 in
theorem extentKeeps_walk (ao : Option Addr) (cap : Nat) (L : List Pt) (xa xb xc xd to : Int) (wl : L.length ≤ maxLen) (wa : (Lit.int .i64 xa).wf = true) (wb : (Lit.int .i64 xb).wf = true) (wc : (Lit.int .i64 xc).wf = true) (wd : (Lit.int .i64 xd).wf = true) (wt : (Lit.int .i64 to).wf = true) (w : World) (hp : PaL w ao L) (hk : ∀ x ∈ L, PaIn w x) (hn : ao = none → cap = 0) (hc : L.length ≤ cap) :
    Calls Try.prog 8 #[.slice ao L.length cap, .agg #[.int .i64 xa, .int .i64 xb, .int .i64 xc, .int .i64 xd], .int .i64 to] w fun e w' => e = .returned (.bool true) ∧ Below w.heap.size w w' := by
  have CK := Lib.hid wakes19
  have wl' : (L.length : Int) ≤ 9223372036854775807 := by unfold maxLen at wl; omega
  clear wa wb wc wd wt hk
  obtain ⟨W0, hW0⟩ : ∃ W0, W0 = w.alloc (.cells #[.int .i64 xa, .int .i64 xb, .int .i64 xc, .int .i64 xd] 41) := ⟨_, rfl⟩
  have HB0 := Lib.hid (show Below w.heap.size w W0 from by rw [hW0]; exact blwA w _)
  have hz : w.heap.size < W0.heap.size := by rw [hW0]; simp
  have HX := Lib.hid (MvB.cells (show MvB W0 w.heap.size ⟨xa, xb, xc, xd⟩ from by rw [hW0]; exact heap_alloc_new _ _))
  have HP0 := Lib.hid (PaL.below hp HB0.out)
  clear hp
  by_cases hl : ¬ L.length ≤ 64
  · have h2 : (64 : Int) < (L.length : Int) := by omega
    clear hl HP0 HX hz
    rw [hW0] at HB0
    clear hW0
    go_enter Try.func8, Try.ntmps8
    go_wp2_with (go_at_call 10; refine (CK.out _).mono ?_; rintro e wk ⟨rfl, hBk⟩)
    go_ret
    exact ⟨rfl, blwO hBk HB0.out⟩
  have hl : L.length ≤ 64 := by omega
  have h2 : (L.length : Int) ≤ 64 := by omega
  have CH := Lib.hid (rgoodE_any ao cap L W0 HP0.out wl)
  by_cases hg : ¬ goodE L = true
  · have hgf : goodE L = false := by simpa using hg
    rw [hgf, hW0] at CH
    clear hg hgf
    go_enter Try.func8, Try.ntmps8
    go_wp2_with (first | (go_at_call 13; refine CH.out.mono ?_; rw [← hW0]; rintro e w2 ⟨rfl, hB⟩; have HB2 := Lib.hid (blwO hB HB0.out); have HJ2 := Lib.hid hB; have HP2 := Lib.hid (PaL.below HP0.out hB); have X2 := Lib.hid (four_keep hz hB ⟨HX.out.1, HX.out.2.1, HX.out.2.2.1, HX.out.2.2.2, Below.refl _ _, Nat.le_refl _⟩); clear hB CH hW0) | (go_at_call 10; refine (CK.out _).mono ?_; rintro e wk ⟨rfl, hBk⟩))
    go_ret
    exact ⟨rfl, blwO hBk HB2.out⟩
  have hg : goodE L = true := by simpa using hg
  rw [hg, hW0] at CH
  have CF := Lib.hid (fun (W : World) (h : PaL W ao L) => lfew_any ao cap L W h hn hc (by omega))
  have CM := Lib.hid (fun (ao : Option Addr) (cap : Nat) (W : World) (h : PaL W ao L) => emove_any ao cap L ⟨xa, xb, xc, xd⟩ to W h wl)
  have HCL := Lib.hid (show (moveE L ⟨xa, xb, xc, xd⟩ to).1.length ≤ maxLen from by have := moveE_len L ⟨xa, xb, xc, xd⟩ to; unfold maxLen; omega)
  rcases move_all (m := ⟨xa, xb, xc, xd⟩) (to := to) hg with ⟨he, hm, hgk, hek, htk⟩ | ⟨c, hcc, he, hk0⟩
  rotate_left
  · rw [he, hk0] at CM
    have hc2 : (c == 0) = false := by rcases hcc with rfl | rfl <;> rfl
    have hc3 : ¬ c = 0 := by rcases hcc with rfl | rfl <;> decide
    clear he hk0 hcc hg HCL
    go_enter Try.func8, Try.ntmps8
    go_wp2_with (go_at_call 13; refine CH.out.mono ?_; rw [← hW0]; rintro e w2 ⟨rfl, hB⟩; have HB2 := Lib.hid (blwO hB HB0.out); have HJ2 := Lib.hid hB; have HP2 := Lib.hid (PaL.below HP0.out hB); have X2 := Lib.hid (four_keep hz hB ⟨HX.out.1, HX.out.2.1, HX.out.2.2.1, HX.out.2.2.2, Below.refl _ _, Nat.le_refl _⟩); clear hB CH hW0)
    have hz2 : w.heap.size < w2.heap.size := Nat.lt_of_lt_of_le hz HJ2.out.size
    go_region_held3 (fun W => W.cell? ⟨w.heap.size, 0, none⟩ = some (.int .i64 xa) ∧ W.cell? ⟨w.heap.size, 1, none⟩ = some (.int .i64 xb) ∧ W.cell? ⟨w.heap.size, 2, none⟩ = some (.int .i64 xc) ∧ W.cell? ⟨w.heap.size, 3, none⟩ = some (.int .i64 xd) ∧ Below w2.heap.size w2 W ∧ w2.heap.size ≤ W.heap.size)
      (first | exact ⟨X2.out.1, X2.out.2.1, X2.out.2.2.1, X2.out.2.2.2.1, (Below.refl _ _).drew, Nat.le_refl _⟩ | exact four_keep hz2 hB4 (by assumption) | exact four_keep hz2 hB3 (by assumption))
      (first
        | (go_at_call 23; refine (CM.out _ _ _ HI3.out).mono ?_; rintro e w4 ⟨v4, rfl, hO, hB4⟩; obtain ⟨g4, c4, hv4, hr4⟩ := OPa.sl hO; subst hv4; have HK4 := Lib.hid hr4; clear hO hr4)
        | (go_at_call 11; refine (CF.out _ (PaL.below HP2.out (four_below (by assumption)))).mono ?_; rintro e w3 ⟨b1, q1, rfl, hO, hx, hy, hB3⟩; obtain ⟨g1, q2, hv1, hr1⟩ := OPa.sl hO; cases hv1; have HI3 := Lib.hid hr1; clear hO hx hy hr1))
    all_goals
      rename_i hS
      go_wp2_with (go_at_call 10; refine (CK.out _).mono ?_; rintro e wk ⟨rfl, hBk⟩)
      go_ret
      exact ⟨rfl, blwO hBk (blwO (four_below hS) HB2.out)⟩
  · rw [he] at CM
    generalize (moveE L ⟨xa, xb, xc, xd⟩ to).1 = K at *
    have CG := Lib.hid (fun (ao : Option Addr) (cap : Nat) (W : World) (h : PaL W ao K) => egood_any ao cap K W h HCL.out)
    rw [hgk] at CG
    have CE := Lib.hid (fun (ao : Option Addr) (cap : Nat) (W : World) (h : PaL W ao K) => eEnd_any ao cap K W h HCL.out)
    rw [hek] at CE
    have CI := Lib.hid (fun (ao : Option Addr) (cap : Nat) (W : World) (h : PaL W ao L) => eEnd_any ao cap L W h wl)
    generalize endE L = en at CE CI
    have HR := Lib.hid (fun (x : Pt) (hx : x ∈ L) (j : Int) (h0 : 0 ≤ j) (h1 : j < x.len) => keep_at (goodE_iff.1 hg).2 htk hx h0 h1)
    have HO := Lib.hid (rail_one (goodE_iff.1 hg).2)
    have HKO := Lib.hid (rail_one (goodE_iff.1 hgk).2)
    obtain ⟨m1, m2, m3, m4, m5, m6, m7, m8, m9⟩ := mayB_iff.1 hm
    clear he hm hgk hek htk hg
    go_enter Try.func8, Try.ntmps8
    go_wp2_with (go_at_call 13; refine CH.out.mono ?_; rw [← hW0]; rintro e w2 ⟨rfl, hB⟩; have HB2 := Lib.hid (blwO hB HB0.out); have HJ2 := Lib.hid hB; have HP2 := Lib.hid (PaL.below HP0.out hB); have X2 := Lib.hid (four_keep hz hB ⟨HX.out.1, HX.out.2.1, HX.out.2.2.1, HX.out.2.2.2, Below.refl _ _, Nat.le_refl _⟩); clear hB CH hW0)
    have hz2 : w.heap.size < w2.heap.size := Nat.lt_of_lt_of_le hz HJ2.out.size
    go_region_held3 (fun W => W.cell? ⟨w.heap.size, 0, none⟩ = some (.int .i64 xa) ∧ W.cell? ⟨w.heap.size, 1, none⟩ = some (.int .i64 xb) ∧ W.cell? ⟨w.heap.size, 2, none⟩ = some (.int .i64 xc) ∧ W.cell? ⟨w.heap.size, 3, none⟩ = some (.int .i64 xd) ∧ Below w2.heap.size w2 W ∧ w2.heap.size ≤ W.heap.size)
      (first | exact ⟨X2.out.1, X2.out.2.1, X2.out.2.2.1, X2.out.2.2.2.1, (Below.refl _ _).drew, Nat.le_refl _⟩ | exact four_keep hz2 hB4 (by assumption) | exact four_keep hz2 hB3 (by assumption))
      (first
        | (go_at_call 23; refine (CM.out _ _ _ HI3.out).mono ?_; rintro e w4 ⟨v4, rfl, hO, hB4⟩; obtain ⟨g4, c4, hv4, hr4⟩ := OPa.sl hO; subst hv4; have HK4 := Lib.hid hr4; clear hO hr4)
        | (go_at_call 11; refine (CF.out _ (PaL.below HP2.out (four_below (by assumption)))).mono ?_; rintro e w3 ⟨b1, q1, rfl, hO, hx, hy, hB3⟩; obtain ⟨g1, q2, hv1, hr1⟩ := OPa.sl hO; cases hv1; have HI3 := Lib.hid hr1; clear hO hx hy hr1))
    all_goals
      rename_i hS
      have HS := Lib.hid hS
      clear hS
      go_wp2_with (first
        | (go_at_call 14; refine (CI.out _ _ _ HI7.out).mono ?_; rintro e w8 ⟨rfl, hB8⟩; have HS8 := Lib.hid (four_keep hz2 hB8 HS7.out); have HK8 := Lib.hid (PaL.below HK7.out hB8); clear hB8)
        | (go_at_call 11; refine (CF.out _ (PaL.below HP2.out (four_below HS6.out))).mono ?_; rintro e w7 ⟨b7, q7, rfl, hO, hx, hy, hB7⟩; obtain ⟨g7, q27, hv7, hr7⟩ := OPa.sl hO; cases hv7; have HI7 := Lib.hid hr7; have HS7 := Lib.hid (four_keep hz2 hB7 HS6.out); have HK7 := Lib.hid (PaL.below HK6.out hB7); clear hO hx hy hr7 hB7)
        | (go_at_call 14; refine (CE.out _ _ _ HK5.out).mono ?_; rintro e w6 ⟨rfl, hB6⟩; have HS6 := Lib.hid (four_keep hz2 hB6 HS5.out); have HK6 := Lib.hid (PaL.below HK5.out hB6); clear hB6)
        | (go_at_call 12; refine (CG.out _ _ _ HK4.out).mono ?_; rintro e w5 ⟨rfl, hB5⟩; have HS5 := Lib.hid (four_keep hz2 hB5 HS.out); have HK5 := Lib.hid (PaL.below HK4.out hB5); clear hB5))
      have hz8 : w.heap.size < w8.heap.size := Nat.lt_of_lt_of_le hz2 HS8.out.2.2.2.2.2
      have HB8 := Lib.hid (blwO (four_below HS8.out) HB2.out)
      have HP8 := Lib.hid (PaL.below HP2.out (four_below HS8.out))
      have X8 := Lib.hid (show w8.cell? ⟨w.heap.size, 0, none⟩ = some (.int .i64 xa) ∧ w8.cell? ⟨w.heap.size, 1, none⟩ = some (.int .i64 xb) ∧ w8.cell? ⟨w.heap.size, 2, none⟩ = some (.int .i64 xc) ∧ w8.cell? ⟨w.heap.size, 3, none⟩ = some (.int .i64 xd) ∧ Below w8.heap.size w8 w8 ∧ w8.heap.size ≤ w8.heap.size from ⟨HS8.out.1, HS8.out.2.1, HS8.out.2.2.1, HS8.out.2.2.2.1, Below.refl _ _, Nat.le_refl _⟩)
      clear HS HS5 HS6 HS7 HS8 HK4 HK5 HK6 HK7 HI7 HP2 HB2 HJ2 X2 HP0 HX HB0 HI3 CE CI CG CF CM
      go_loopw [9] (fun s wr => ∃ i : Nat, s = .int .i64 i ∧ i ≤ L.length ∧ Hid (Below w8.heap.size w8 wr)) (fun s _ => L.length - (intOf s).toNat)
      case atStart => exact ⟨0, rfl, Nat.zero_le _, Lib.hid (Below.refl _ _)⟩
      case round =>
        obtain ⟨i, rfl, hi, HBi⟩ := hrel
        by_cases hlt : i < L.length
        · have i0 : (i : Int) < (L.length : Int) := by omega
          have ob := HO.out _ (List.getElem_mem hlt)
          have HRx := Lib.hid (HR.out _ (List.getElem_mem hlt))
          obtain ⟨x, hx⟩ : ∃ x, L[i] = x := ⟨_, rfl⟩
          have hxi := Lib.hid hx
          rw [hx] at ob HRx
          clear hx
          obtain ⟨o1, o2, o3, o4, o5, o6, o7⟩ := oneB_iff.1 ob
          clear ob
          go_wp2_with fail
          go_loopw [10] (fun s wr => ∃ j : Nat, s = .int .i64 j ∧ (j : Int) ≤ x.len ∧ Hid (Below w8.heap.size w8 wr)) (fun s _ => x.len.toNat - (intOf s).toNat)
          case atStart => exact ⟨0, rfl, by omega, HBi⟩
          case round =>
            obtain ⟨j, rfl, hj, HB⟩ := hrel
            obtain ⟨bk, bo, hao, b0, b1, b2, b3⟩ := (PaL.below HP8.out HB.out).at i hlt
            subst hao
            rw [hxi.out] at b0 b1 b2 b3
            by_cases hjt : (j : Int) < x.len
            · have HA := HRx.out (j : Int) (by omega) hjt
              have s1 : IntKind.i64.wrap (x.off + (j : Int)) = x.off + (j : Int) := IntWalk.i64_in _ (by omega)
              have s2 : IntKind.i64.wrap (x.src + (j : Int)) = x.src + (j : Int) := IntWalk.i64_in _ (by omega)
              have s3 : IntKind.i64.wrap (xb + xc) = xb + xc := IntWalk.i64_in _ (by omega)
              have s4 : IntKind.i64.wrap (xd + (x.src + (j : Int))) = xd + (x.src + (j : Int)) := IntWalk.i64_in _ (by omega)
              have s5 : IntKind.i64.wrap (xd + (x.src + (j : Int)) - xb) = xd + (x.src + (j : Int)) - xb := IntWalk.i64_in _ (by omega)
              have CA := Lib.hid (fun (ao : Option Addr) (cap : Nat) (W : World) (h : PaL W ao K) => lat_any ao cap K (x.off + (j : Int)) (by omega) W h HCL.out HKO.out)
              rw [HA] at CA
              clear HA
              by_cases h1 : x.addr = xa
              · by_cases h3 : xb ≤ x.src + (j : Int)
                · by_cases h4 : x.src + (j : Int) < xb + xc
                  · have t1 : (x.addr == xa) = true := beq_iff_eq.2 h1
                    have t2 : decide (xb ≤ x.src + (j : Int)) = true := decide_eq_true h3
                    have t3 : decide (x.src + (j : Int) < xb + xc) = true := decide_eq_true h4
                    have hR : mv1 ⟨xa, xb, xc, xd⟩ to (x.addr, x.src + (j : Int)) = (to, xd + (x.src + (j : Int)) - xb) := mv1_yes h1 h3 h4
                    rw [hR] at CA
                    clear hR
                    go_wp2_with (go_at_call 25; refine (CA.out _ _ _ (PaL.below HK8.out HB.out)).mono ?_; rintro e w5 ⟨rfl, hB5⟩; have HC := Lib.hid (blwO hB5 HB.out); have Y := Lib.hid (four_keep hz8 HC.out X8.out); clear b0 b1 b2 b3 hB5; obtain ⟨bk2, bo2, hao2, b0, b1, b2, b3⟩ := (PaL.below HP8.out HC.out).at i hlt; cases hao2; rw [hxi.out] at b0 b1 b2 b3)
                    go_region
                    clear b0 b1 b2 b3
                    have d0 := Y.out.1
                    have d1 := Y.out.2.1
                    have d2 := Y.out.2.2.1
                    have d3 := Y.out.2.2.2.1
                    go_wp2_with fail
                    go_region
                    go_wp2_with fail
                    refine ⟨⟨j + 1, by go_num, by omega, Lib.hid ?_⟩, by simp [intOf]; omega⟩
                    first | exact HC.out.drew.drew | exact HC.out.drew
                  · have t1 : (x.addr == xa) = true := beq_iff_eq.2 h1
                    have t2 : decide (xb ≤ x.src + (j : Int)) = true := decide_eq_true h3
                    have t3 : decide (x.src + (j : Int) < xb + xc) = false := decide_eq_false h4
                    have hR : mv1 ⟨xa, xb, xc, xd⟩ to (x.addr, x.src + (j : Int)) = (x.addr, x.src + (j : Int)) := mv1_no (fun c => h4 c.2.2)
                    rw [hR] at CA
                    clear hR
                    go_wp2_with (go_at_call 25; refine (CA.out _ _ _ (PaL.below HK8.out HB.out)).mono ?_; rintro e w5 ⟨rfl, hB5⟩; have HC := Lib.hid (blwO hB5 HB.out); have Y := Lib.hid (four_keep hz8 HC.out X8.out); clear b0 b1 b2 b3 hB5; obtain ⟨bk2, bo2, hao2, b0, b1, b2, b3⟩ := (PaL.below HP8.out HC.out).at i hlt; cases hao2; rw [hxi.out] at b0 b1 b2 b3)
                    go_region
                    clear b0 b1 b2 b3
                    have d0 := Y.out.1
                    have d1 := Y.out.2.1
                    have d2 := Y.out.2.2.1
                    have d3 := Y.out.2.2.2.1
                    go_wp2_with fail
                    refine ⟨⟨j + 1, by go_num, by omega, Lib.hid ?_⟩, by simp [intOf]; omega⟩
                    first | exact HC.out.drew.drew | exact HC.out.drew
                · have t1 : (x.addr == xa) = true := beq_iff_eq.2 h1
                  have t2 : decide (xb ≤ x.src + (j : Int)) = false := decide_eq_false h3
                  have hR : mv1 ⟨xa, xb, xc, xd⟩ to (x.addr, x.src + (j : Int)) = (x.addr, x.src + (j : Int)) := mv1_no (fun c => h3 c.2.1)
                  rw [hR] at CA
                  clear hR
                  go_wp2_with (go_at_call 25; refine (CA.out _ _ _ (PaL.below HK8.out HB.out)).mono ?_; rintro e w5 ⟨rfl, hB5⟩; have HC := Lib.hid (blwO hB5 HB.out); have Y := Lib.hid (four_keep hz8 HC.out X8.out); clear b0 b1 b2 b3 hB5; obtain ⟨bk2, bo2, hao2, b0, b1, b2, b3⟩ := (PaL.below HP8.out HC.out).at i hlt; cases hao2; rw [hxi.out] at b0 b1 b2 b3)
                  go_region
                  clear b0 b1 b2 b3
                  have d0 := Y.out.1
                  have d1 := Y.out.2.1
                  have d2 := Y.out.2.2.1
                  have d3 := Y.out.2.2.2.1
                  go_wp2_with fail
                  refine ⟨⟨j + 1, by go_num, by omega, Lib.hid ?_⟩, by simp [intOf]; omega⟩
                  first | exact HC.out.drew.drew | exact HC.out.drew
              · have t1 : (x.addr == xa) = false := beq_eq_false_iff_ne.2 h1
                have hR : mv1 ⟨xa, xb, xc, xd⟩ to (x.addr, x.src + (j : Int)) = (x.addr, x.src + (j : Int)) := mv1_no (fun c => h1 c.1)
                rw [hR] at CA
                clear hR
                go_wp2_with (go_at_call 25; refine (CA.out _ _ _ (PaL.below HK8.out HB.out)).mono ?_; rintro e w5 ⟨rfl, hB5⟩; have HC := Lib.hid (blwO hB5 HB.out); have Y := Lib.hid (four_keep hz8 HC.out X8.out); clear b0 b1 b2 b3 hB5; obtain ⟨bk2, bo2, hao2, b0, b1, b2, b3⟩ := (PaL.below HP8.out HC.out).at i hlt; cases hao2; rw [hxi.out] at b0 b1 b2 b3)
                go_region
                clear b0 b1 b2 b3
                have d0 := Y.out.1
                have d1 := Y.out.2.1
                have d2 := Y.out.2.2.1
                have d3 := Y.out.2.2.2.1
                go_wp2_with fail
                refine ⟨⟨j + 1, by go_num, by omega, Lib.hid ?_⟩, by simp [intOf]; omega⟩
                first | exact HC.out.drew.drew | exact HC.out.drew
            · go_wp2_with fail
              go_roundw
              case rel => exact ⟨i + 1, by go_num, by omega, HB⟩
              case measure => simp [intOf]; omega
        · obtain rfl : i = L.length := by omega
          go_wp2_with (go_at_call 10; refine (CK.out _).mono ?_; rintro e wk ⟨rfl, hBk⟩)
          go_ret
          exact ⟨rfl, blwO hBk (blwO HBi.out HB8.out)⟩

set_option maxRecDepth 100000 in
theorem extentKeeps_lifted (os : Os) (started : os.Started) (H : Type) (enc : TypeId × Value → H) :
    ReturnsInHanded {} Try.checked os 8 .any (Rows.extentKeepsSpec.pre6 enc Try.prog Try.f8 Rows.extentKeepsRow.domain false) (Rows.extentKeepsSpec.post enc Try.prog Try.f8 false true false false) := by
  refine returnsInHanded_of_change (C := Try.checked) own started (by kernel_rfl) Try.func8
    (ChangeSpec.witness6 (enc := enc) (C := Try.checked) false ⟨#[], #[.slice none 0 0, .agg #[.int .i64 0, .int .i64 0, .int .i64 0, .int .i64 0], .int .i64 0], []⟩ 8 (by kernel_rfl) (by kernel_rfl) (by kernel_rfl) (by kernel_rfl)) ?_
  intro W base args ds gs before hval0 hW hcnd _
  have hval : ∀ (j : Nat) t v, Try.f8.params[j]? = some t → args[j]? = some v → Value.okWide Try.prog W .any base t v := hval0
  have hW' := hW
  obtain ⟨p, q, hA0, hV, rfl, hfz, hnd⟩ := hW
  have hA : DataW.TrodAll enc Try.prog W 0 (fun _ => true) true Try.f8.params.toList args.toList ds p := hA0
  rw [Try.params8] at hA hval
  obtain ⟨v0, vs0, d0, ds0, p0, q0, hargs, rfl, rfl, h0, r0⟩ := trodAll_cons hA
  obtain ⟨v1, vs1, d1, ds1, p1, q1, rfl, rfl, rfl, h1, r1⟩ := trodAll_cons r0
  obtain ⟨v2, vs2, d2, ds2, p2, q2, rfl, rfl, rfl, h2, r2⟩ := trodAll_cons r1
  obtain ⟨rfl, rfl, rfl⟩ := trodAll_nil r2
  obtain rfl : args = #[v0, v1, v2] := by cases args; simp_all
  obtain ⟨rfl, rfl⟩ := trodVars_none hV
  have k0 := h0
  have lt0 : ∀ x ∈ p0, x.block < W.heap.size := by obtain ⟨m, hm⟩ := k0; exact DataW.trod_lt m _ _ _ hm
  have k1 := h1
  have lt1 : ∀ x ∈ p1, x.block < W.heap.size := by obtain ⟨m, hm⟩ := k1; exact DataW.trod_lt m _ _ _ hm
  have k2 := h2
  have lt2 : ∀ x ∈ p2, x.block < W.heap.size := by obtain ⟨m, hm⟩ := k2; exact DataW.trod_lt m _ _ _ hm
  obtain ⟨ao0, cap0, L0, rfl, w0, hR0, hK0, hn0, hc0⟩ := open_rows (f := parC) (ok := PaIn) (n := 3) Try.underlying22 (by kernel_rfl) (fun m cs y hl hf => par_cs Try.underlying31 rfl rfl rfl rfl Try.underlying3 (by kernel_rfl) hl hf) (hval 0 22 v0 rfl rfl) h0
  obtain ⟨xa1, xb1, xc1, xd1, rfl, wa1, wb1, wc1, wd1⟩ := open_four Try.underlying41 (by kernel_rfl) rfl rfl rfl rfl (by kernel_rfl) Try.underlying3 (hval 1 41 v1 rfl rfl) h1
  obtain ⟨a2, rfl, rfl, rfl, w2⟩ := open_int Try.underlying3 (hval 2 3 v2 rfl rfl) h2
  clear hA0 hval0
  refine (extentKeeps_walk ao0 cap0 L0 xa1 xb1 xc1 xd1 a2 w0 wa1 wb1 wc1 wd1 w2 W hR0 hK0 hn0 hc0).mono fun e W' ⟨he, bel⟩ => ?_
  subst he
  exact ⟨_, rfl, _, _, _, [], _, [], hW', trodAll_mk1 (shut_bool Try.underlying4 _), (trodAll_cons_mk (Below.trod laidOut (by kernel_rfl) (of_decide_eq_true (by kernel_rfl)) k0 bel lt0) (trodAll_cons_mk (Below.trod laidOut (by kernel_rfl) (of_decide_eq_true (by kernel_rfl)) k1 bel lt1) (trodAll_cons_mk (Below.trod laidOut (by kernel_rfl) (of_decide_eq_true (by kernel_rfl)) k2 bel lt2) trodAll_mk0))), rfl, bel.frame _, fun h => by cases h⟩

theorem extentKeeps_over : Rows.extentKeepsRow.holds Try.pinned (OpenSpec.ofChange Rows.extentKeepsSpec) :=
  OpenClaim.holds_of_wide 8 Try.f8 rfl rfl rfl rfl rfl rfl rfl ⟨rfl, rfl, rfl, rfl, rfl⟩ rfl rfl rfl rfl rfl (by kernel_rfl) Try.func8 (by kernel_rfl)
    (of_decide_eq_true (by kernel_rfl)) (by unfold Func.isWrapper; first | (rw [if_pos (by decide +kernel)]; kernel_rfl) | (rw [if_neg (by decide +kernel)]; exact ⟨rfl, rfl⟩))
    (fun os started H enc _ => extentKeeps_lifted os started H enc)

/-- THE STATEMENT -/
theorem extentKeeps_holds : Rows.ExtentKeepsSaid := extentKeeps_over 
end Go.Proofs.Ytjdhbpgipoifkaa
