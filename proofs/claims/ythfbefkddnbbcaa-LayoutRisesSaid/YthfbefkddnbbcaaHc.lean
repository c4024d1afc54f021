/- What the program's layout makes of a projection that counts from now on. Conditions: it and the projection lie where the call was told; no more than 100000 units were noted. May a projection come next? What the program's layout tells. Conditions: it and the projection lie where the call was told; no more than 100000 units were noted. What the program's layout answers a change, one that may come next and one that may not. Conditions: it and the projection lie where the call was told; no more than 100000 units were noted. What the program's layout answers any question. Conditions: it and the question lie where the call was told; no more than 100000 units were noted. What the program's layout tells of the units that were used, and what its New makes. Conditions: it and the projection lie where the call was told. What the program's layout's New makes; all that the laws of the layout ask of the program. Conditions: the projection lies where the call was told, and is not too large. -/
import Derived.Test.YthfbefkddnbbcaaHa
import Derived.Test.YthfbefkddnbbcaaPjJ
import Derived.Test.YthfbefkddnbbcaaPjD
import Derived.Test.YthfbefkddnbbcaaHb
set_option linter.unusedVariables false
namespace Go.Proofs.Ythfbefkddnbbcaa
set_option linter.unusedVariables false
open Go.RowKit Go.Maps
set_option maxRecDepth 20000
theorem Kept.then {G H : Nat → Prop} {w W W2 : World} (hk : Kept (fun k => ¬ G k) w W) (hs : ∀ k, H k → G k ∨ w.heap.size ≤ k) (h2 : Kept (fun k => ¬ H k) W W2) : Kept (fun k => ¬ G k) w W2 := by
  refine ⟨h2.os.trans hk.os, h2.tape.trans hk.tape, h2.output.trans hk.output, Nat.le_trans hk.size h2.size, fun k hg hkl => ?_⟩
  have hn : ¬ H k := fun hf => by
    rcases hs k hf with h | h
    · exact hg h
    · omega
  rw [h2.block k hn (Nat.lt_of_lt_of_le hkl hk.size)]
  exact hk.block k hg hkl
theorem take_more {S U : List Int} {k : Nat} (hk : k < U.length) : (S ++ U.take k) ++ [U[k]] = S ++ U.take (k + 1) := by
  rw [List.take_succ_eq_append_getElem hk, List.append_assoc]
set_option maxHeartbeats 2000000 in
theorem lp_count (b : Nat) (G : Nat → Prop) (w : World) (y : Ly) (h : LB b G w y) (e : Int) (ao : Option Addr) (cap : Nat) (L : List (List Int)) (hA : ∀ W, Kept (fun k => ¬ G k) w W → CL W ao L) (hL : L.length ≤ 255 ∧ ∀ c ∈ L, c.length ≤ 255) (hu : y.used.length ≤ 100000) :
    Calls Try.prog 26 #[ptrL b, .agg #[.int .i64 e, .slice ao L.length cap]] w fun x w' => x = .returned (.tuple #[]) ∧ Leaves (LB b) G w w' ⟨e, L, y.used ++ unitsR L, y.mark, y.size, y.n⟩ := by
  have HB0 := Lib.hid (below_new w (.cells #[.int .i64 e, .slice ao L.length cap] 24))
  have HP := Lib.hid (show PB (w.alloc (.cells #[.int .i64 e, .slice ao L.length cap] 24)) w.heap.size e ao L.length cap from heap_alloc_new _ _)
  have HG := Lib.hid (fun k (hk : G k) => (lb_thing b).lt h k hk)
  have H0 := Lib.hid (h.below HB0.out)
  have HA := Lib.hid hA
  have C0 := Lib.hid (copyO_any e ao cap L _ (hA _ (Kept.ofBelow HB0.out _)) hL)
  have CU := Lib.hid (fun (W : World) (hc : CL W ao L) => punitsO_any e ao cap L W hc hL)
  have HLU := units_few hL
  have hbw := h.small
  clear h hA hL
  generalize unitsR L = U at *
  have hU : (U.length : Int) ≤ 70000 := by omega
  unfold ptrL
  go_enter Try.func26, Try.ntmps26
  go_wp2_with (first
    | (go_at_call 32; refine C0.out.mono ?_; rintro x w1 ⟨v, rfl, hO, hb1⟩; obtain ⟨vo, vc, hv, _⟩ := hO.form; subst hv; have H1 := Lib.hid (Leaves.ahead HG.out HB0.out (H0.out.chains hb1 (e := e) hO)); obtain ⟨lo, lc, mb0, h1, _⟩ := (H0.out.below hb1).open; obtain ⟨⟨c0, c1, c2, c3, c4, c5⟩, f0, f1, f2, f3, f4, f5⟩ := six_cells h1; have hb1' := lt_of_block h1; obtain ⟨p0, p1⟩ := (HP.out.below hb1).cells; have hpz := block_lt_of_cell p0; clear hO hb1 h1)
    | (go_at_call 38; obtain ⟨H2, hL2, hk2, hs2⟩ := H1.out; refine (CU.out _ (HA.out _ hk2)).mono ?_; rintro x w3 ⟨u, rfl, hO3, hb3⟩; obtain ⟨uo, uc, hu3, hN3, hA3, _⟩ := hO3.form; subst hu3; have HN3 := Lib.hid hN3; have HU3 := Lib.hid (show ∀ a, uo = some a → ¬ H2 a.block from fun a e hf => by have := (hA3 a e).1; have := (lb_thing b).lt hL2 _ hf; omega); have HL3 := Lib.hid (hL2.below hb3); have HK3 := Lib.hid (hk2.below hb3); have HS3 := Lib.hid hs2; clear hL2 hk2 hs2 hO3 hb3 hN3 hA3))
  clear c0 c1 c2 c3 c4 c5 f0 f1 f2 f3 f4 f5 p0 p1 hpz hb1' H1 C0 CU H0 HP HA HB0
  have hx3 := HL3.out.small
  go_loopw [14] (fun i wr => ∃ k : Nat, i = .int .i64 k ∧ k ≤ U.length ∧ Hid (LB b H2 wr ⟨e, L, y.used ++ U.take k, y.mark, y.size, y.n⟩) ∧ Hid (Kept (fun k => ¬ H2 k) w3 wr)) (fun i _ => U.length - (intOf i).toNat)
  case atStart => exact ⟨0, rfl, Nat.zero_le _, Lib.hid (by rw [List.take_zero, List.append_nil]; exact HL3.out), Lib.hid (Kept.refl _ _)⟩
  case round =>
    obtain ⟨k, rfl, hk, HO, HK⟩ := hrel
    by_cases hlt : k < U.length
    · have HNR := Lib.hid (HN3.out.keep HK.out (fun a e => HU3.out a e))
      obtain ⟨bk, off, hao, x0⟩ := HNR.out.at k hlt
      have hwf := HNR.out.wf _ (List.getElem_mem hlt)
      subst hao
      have k0 : (k : Int) < (U.length : Int) := by omega
      obtain ⟨lo2, lc2, mb, h1, _, hUs, _, _, hHm⟩ := HO.out.open
      obtain ⟨⟨c0, c1, c2, c3, c4, c5⟩, _⟩ := six_cells h1
      have hbr := lt_of_block h1
      have HD := Lib.hid hUs.1
      have HM := Lib.hid hHm
      have HC2 := Lib.hid c2
      have HCNT := Lib.hid (show (y.used ++ U.take k).length < maxLen from by rw [List.length_append, List.length_take]; unfold maxLen; omega)
      have HKEY := Lib.hid (lunit_key _ hwf)
      have HW := Lib.hid hwf
      have HT := Lib.hid (take_more (S := y.used) hlt)
      clear h1 hUs hwf hHm c0 c1 c3 c4 c5
      generalize U[k] = z at *
      go_wp2_with (at_mapUpdate; refine wpList_mapUpdate_own _ rfl _ _ _ 54 rfl 65 72 lunit_law Try.underlying54 (unitElem (H := Unit)) mb _ _ rfl HD.out HCNT.out _ _ _ rfl rfl HKEY.out _ [] unitElem_mk ?_; intro w5 hown hgrow; have HO5 := Lib.hid (HO.out.put HC2.out HW.out rfl hown hgrow); have HK5 := Lib.hid (HK.out.grown hgrow (fun k e hk => hk (by cases e; exact HM.out))); clear hown hgrow)
      go_roundw
      case rel => exact ⟨k + 1, by go_num, by omega, Lib.hid (by rw [← HT.out]; exact HO5.out), HK5⟩
      case measure => simp [intOf]; omega
    · obtain rfl : k = U.length := by omega
      rw [List.take_of_length_le (Nat.le_refl _)] at HO
      go_wp2_with fail
      go_end0
      exact ⟨rfl, H2, HO.out, HK3.out.then HS3.out HK.out, HS3.out⟩
end Go.Proofs.Ythfbefkddnbbcaa
namespace Go.Proofs.Ythfbefkddnbbcaa
set_option linter.unusedVariables false
open Go.RowKit Go.Maps
set_option maxRecDepth 20000
set_option maxHeartbeats 2000000 in
theorem lp_may (b : Nat) (G : Nat → Prop) (w : World) (y : Ly) (h : LB b G w y) (hy : y.L.length ≤ 255 ∧ ∀ c ∈ y.L, c.length ≤ 255) (e : Int) (ao : Option Addr) (cap : Nat) (Q : List (List Int)) (hq : CL w ao Q) (lq : Q.length ≤ 255 ∧ ∀ c ∈ Q, c.length ≤ 255) :
    Calls Try.prog 39 #[ptrL b, .agg #[.int .i64 e, .slice ao Q.length cap]] w fun x w' => x = .returned (.bool (y.may e Q)) ∧ Below w.heap.size w w' := by
  obtain ⟨lo, lc, mb0, h1, h2, _⟩ := h.open
  obtain ⟨⟨c0, c1, c2, _, _, _⟩, _⟩ := six_cells h1
  have hlt := lt_of_block h1
  have HB0 := Lib.hid (below_new w (.cells #[.int .i64 e, .slice ao Q.length cap] 24))
  have hx : PB (w.alloc (.cells #[.int .i64 e, .slice ao Q.length cap] 24)) w.heap.size e ao Q.length cap := heap_alloc_new _ _
  have HS0 := Lib.hid (show (w.alloc (.cells #[.int .i64 e, .slice ao Q.length cap] 24)).drew.cell? ⟨b, 0, none⟩ = some (.int .i64 y.ep) ∧ (w.alloc (.cells #[.int .i64 e, .slice ao Q.length cap] 24)).drew.cell? ⟨b, 1, none⟩ = some (.slice lo y.L.length lc) ∧
      (w.alloc (.cells #[.int .i64 e, .slice ao Q.length cap] 24)).drew.cell? ⟨w.heap.size, 0, none⟩ = some (.int .i64 e) ∧ (w.alloc (.cells #[.int .i64 e, .slice ao Q.length cap] 24)).drew.cell? ⟨w.heap.size, 1, none⟩ = some (.slice ao Q.length cap) ∧
      Below w.heap.size w (w.alloc (.cells #[.int .i64 e, .slice ao Q.length cap] 24)).drew ∧ w.heap.size ≤ (w.alloc (.cells #[.int .i64 e, .slice ao Q.length cap] 24)).drew.heap.size from
    ⟨cellB HB0.out.drew hlt c0, cellB HB0.out.drew hlt c1, cellB (Below.refl _ _).drew (block_lt_of_cell hx.cells.1) hx.cells.1, cellB (Below.refl _ _).drew (block_lt_of_cell hx.cells.2) hx.cells.2, HB0.out.drew, by simp⟩)
  have HC := Lib.hid h2
  have HQ := Lib.hid hq
  have SM := Lib.hid hy
  have LQ := Lib.hid lq
  have HLW := Lib.hid h
  clear c0 c1 c2 hx h h1 h2 hy hq lq
  cases hn : nextB y.ep y.L e Q
  · rw [may_no hn]
    have HN := Lib.hid hn
    clear hn
    unfold ptrL
    go_enter Try.func39, Try.ntmps39
    go_wp2_with fail
    go_region_held3 (fun W => W.cell? ⟨b, 0, none⟩ = some (.int .i64 y.ep) ∧ W.cell? ⟨b, 1, none⟩ = some (.slice lo y.L.length lc) ∧ W.cell? ⟨w.heap.size, 0, none⟩ = some (.int .i64 e) ∧ W.cell? ⟨w.heap.size, 1, none⟩ = some (.slice ao Q.length cap) ∧ Below w.heap.size w W ∧ w.heap.size ≤ W.heap.size)
      (first | exact HS0.out | exact mw_on (by assumption) hb1)
      (first | (go_at_call 44; refine (pnext_any y.ep lo lc y.L e ao cap Q _ (HC.out.below (mw_b (by assumption))) (HQ.out.below (mw_b (by assumption))) SM.out LQ.out).mono ?_; rintro x w1 ⟨rfl, hb1⟩; rw [HN.out]))
    all_goals
      go_wp2_with fail
      go_ret
      rename_i hS
      exact ⟨rfl, mw_b hS⟩
  · rw [may_yes hn]
    have HN := Lib.hid hn
    have fN := units_few SM.out
    have fU := units_few LQ.out
    have HY := Lib.hid (show (∀ u ∈ (unitsR Q).take (unitsR Q).length, mayF (unitsR y.L) y.used u = true) → (unitsR Q).all (mayF (unitsR y.L) y.used) = true from fun h => by
      rw [List.take_of_length_le (Nat.le_refl _)] at h
      exact List.all_eq_true.2 h)
    have HX := Lib.hid (fun k (hk : k < (unitsR Q).length) (h : mayF (unitsR y.L) y.used (unitsR Q)[k] = false) => show (unitsR Q).all (mayF (unitsR y.L) y.used) = false from
      List.all_eq_false.2 ⟨_, List.getElem_mem hk, by rw [h]; exact Bool.false_ne_true⟩)
    have C1 := Lib.hid (fun (W : World) (hb : Below w.heap.size w W) => punits_any y.ep lo lc y.L W (HC.out.below hb) SM.out)
    have C2 := Lib.hid (fun (W : World) (hb : Below w.heap.size w W) => punits_any e ao cap Q W (HQ.out.below hb) LQ.out)
    clear hn
    generalize (unitsR Q).all (mayF (unitsR y.L) y.used) = R at *
    generalize unitsR Q = U at *
    generalize unitsR y.L = N at *
    have mU : (U.length : Int) ≤ 70000 := by omega
    unfold ptrL
    go_enter Try.func39, Try.ntmps39
    go_wp2_with fail
    go_region_held3 (fun W => W.cell? ⟨b, 0, none⟩ = some (.int .i64 y.ep) ∧ W.cell? ⟨b, 1, none⟩ = some (.slice lo y.L.length lc) ∧ W.cell? ⟨w.heap.size, 0, none⟩ = some (.int .i64 e) ∧ W.cell? ⟨w.heap.size, 1, none⟩ = some (.slice ao Q.length cap) ∧ Below w.heap.size w W ∧ w.heap.size ≤ W.heap.size)
      (first | exact HS0.out | exact mw_on (by assumption) hb1)
      (first | (go_at_call 44; refine (pnext_any y.ep lo lc y.L e ao cap Q _ (HC.out.below (mw_b (by assumption))) (HQ.out.below (mw_b (by assumption))) SM.out LQ.out).mono ?_; rintro x w1 ⟨rfl, hb1⟩; rw [HN.out]))
    all_goals
      rename_i hS
      have H1 := Lib.hid hS
      obtain ⟨p0, p1, p2, p3, _, _⟩ := hS
      have hb1' := block_lt_of_cell p0
      clear hb1
      go_wp2_with (first
        | (go_at_call 38; refine (C2.out _ (mw_b H2.out)).mono ?_; rintro x w3 ⟨uo, uc, rfl, hN3, hb3⟩; have H3 := Lib.hid (mw_on H2.out hb3); have HNU := Lib.hid hN3; have HNN3 := Lib.hid (HNN.out.below hb3); clear hN3 hb3)
        | (go_at_call 38; refine (C1.out _ (mw_b H1.out)).mono ?_; rintro x w2 ⟨no, nc, rfl, hN2, hb2⟩; have H2 := Lib.hid (mw_on H1.out hb2); have HNN := Lib.hid hN2; obtain ⟨q0, q1, q2, q3, _, _⟩ := H2.out; have hb2' := block_lt_of_cell q0; clear hN2 hb2))
      have HW := Lib.hid (mw_b H3.out)
      have HL3 := Lib.hid (HLW.out.below HW.out)
      clear HB0 HS0 HC HQ SM LQ HN C1 C2 HNN p0 p1 p2 p3 q0 q1 q2 q3 H1 H2 H3 HLW
      go_loopw [25] (fun i wr => ∃ k : Nat, i = .int .i64 k ∧ k ≤ U.length ∧ Hid (Below w3.heap.size w3 wr) ∧ Hid (∀ u ∈ U.take k, mayF N y.used u = true)) (fun i _ => U.length - (intOf i).toNat)
      case atStart => exact ⟨0, rfl, Nat.zero_le _, Lib.hid (Below.refl _ _), Lib.hid (fun u hu => by simp at hu)⟩
      case round =>
        obtain ⟨k, rfl, hk, HB, HT⟩ := hrel
        have hWz := HW.out.size
        by_cases hlt2 : k < U.length
        · have HNR := Lib.hid (HNU.out.below HB.out)
          obtain ⟨bk, off, rfl, x0⟩ := HNR.out.at k hlt2
          have hwf := HNR.out.wf _ (List.getElem_mem hlt2)
          have k0 : (k : Int) < (U.length : Int) := by omega
          obtain ⟨lo2, lc2, mb, g1, _, hUs, _⟩ := (HL3.out.below HB.out).open
          obtain ⟨⟨c0, c1, c2, c3, c4, c5⟩, _⟩ := six_cells g1
          have hbr := lt_of_block g1
          have HD := Lib.hid hUs.1
          have HH := Lib.hid (show Maps.has (setD klU y.used) (klU U[k]) = hasB y.used U[k] from hUs.has hwf)
          have HKEY := Lib.hid (lunit_key _ hwf)
          have HB5 := Lib.hid (HB.out.alloc HB.out.size (.cells #[] 72))
          have CH := Lib.hid (lcontains_any N U[k] no nc (wr.alloc (.cells #[] 72)) (HNN3.out.below HB5.out) (by omega))
          have HT2 := Lib.hid (show mayF N y.used U[k] = true → ∀ u ∈ U.take (k + 1), mayF N y.used u = true from fun h => all_take_succ (p := fun u => mayF N y.used u = true) hlt2 HT.out h)
          have HXK := Lib.hid (HX.out k hlt2)
          have HF : mayF N y.used U[k] = (hasB N U[k] || !hasB y.used U[k]) := rfl
          rw [HF] at HT2 HXK
          clear HF g1 hUs hwf c0 c1 c3 c4 c5
          generalize U[k] = u at *
          cases hD : hasB y.used u
          · have HT3 := Lib.hid (HT2.out (by rw [hD]; simp))
            rw [hD] at HH
            clear hD HXK HT2 CH
            go_wp2_with (at_lookup; refine wpList_lookup_own_unit _ rfl _ _ 54 rfl 65 72 lunit_law Try.underlying54 (zero_none _) mb _ _ rfl HD.out _ _ rfl HKEY.out ?_; rw [HH.out])
            go_roundw
            case rel => exact ⟨k + 1, by go_num, by omega, HB5, HT3⟩
            case measure => simp [intOf]; omega
          · cases hN : hasB N u
            · have HR := Lib.hid (HXK.out (by rw [hN, hD]; rfl))
              rw [hN] at CH
              rw [hD] at HH
              clear hN hD HXK HT2
              go_wp2_with (first
                | (at_lookup; refine wpList_lookup_own_unit _ rfl _ _ 54 rfl 65 72 lunit_law Try.underlying54 (zero_none _) mb _ _ rfl HD.out _ _ rfl HKEY.out ?_; rw [HH.out])
                | (go_at_call 45; refine CH.out.mono ?_; rintro x w6 ⟨rfl, rfl⟩))
              go_ret
              rw [HR.out]
              exact ⟨rfl, HW.out.trans (HB5.out.mono HW.out.size)⟩
            · have HT3 := Lib.hid (HT2.out (by rw [hN]; rfl))
              rw [hN] at CH
              rw [hD] at HH
              clear hN hD HXK HT2
              go_wp2_with (first
                | (at_lookup; refine wpList_lookup_own_unit _ rfl _ _ 54 rfl 65 72 lunit_law Try.underlying54 (zero_none _) mb _ _ rfl HD.out _ _ rfl HKEY.out ?_; rw [HH.out])
                | (go_at_call 45; refine CH.out.mono ?_; rintro x w6 ⟨rfl, rfl⟩))
              go_roundw
              case rel => exact ⟨k + 1, by go_num, by omega, HB5, HT3⟩
              case measure => simp [intOf]; omega
        · obtain rfl : k = U.length := by omega
          have HR := Lib.hid (HY.out HT.out)
          go_wp2_with fail
          go_ret
          rw [HR.out]
          exact ⟨rfl, HW.out.trans (HB.out.mono HW.out.size)⟩
end Go.Proofs.Ythfbefkddnbbcaa
namespace Go.Proofs.Ythfbefkddnbbcaa
set_option linter.unusedVariables false
open Go.RowKit Go.Maps
set_option maxRecDepth 20000
set_option maxHeartbeats 1000000 in
theorem lp_turn (b : Nat) (G : Nat → Prop) (w : World) (y : Ly) (h : LB b G w y) (hy : y.L.length ≤ 255 ∧ ∀ c ∈ y.L, c.length ≤ 255) (e : Int) (ao : Option Addr) (cap : Nat) (L : List (List Int)) (hA : ∀ W, Kept (fun k => ¬ G k) w W → CL W ao L) (hL : L.length ≤ 255 ∧ ∀ c ∈ L, c.length ≤ 255) (hu : y.used.length ≤ 100000) (hm : y.may e L = true) :
    Calls Try.prog 29 #[ptrL b, .agg #[.int .i64 e, .slice ao L.length cap]] w fun x w' => Tells (LB b) G w ⟨e, L, y.used ++ unitsR L, y.mark, y.size, y.n⟩ (anL 0 e L) x w' := by
  have HS := Lib.hid (boxv_start (lb_thing b) h 24 41 #[.int .i64 e, .slice ao L.length cap] zeroE)
  unfold zeroE at HS
  have HA := Lib.hid hA
  have HY := Lib.hid hy
  have HL := Lib.hid hL
  have HU := Lib.hid hu
  have HM := Lib.hid hm
  have CM := Lib.hid (fun (W : World) H hH hk => lp_may b H W y hH hy e ao cap L (hA W hk) hL)
  rw [hm] at CM
  have CC := Lib.hid (fun (W : World) H hH hk => lp_count b H W y hH e ao cap L hk hL hu)
  have CN := Lib.hid (fun (W : World) H hH => lp_now b H W ⟨e, L, y.used ++ unitsR L, y.mark, y.size, y.n⟩ hH hL)
  unfold ptrL at CM CC CN
  have hbw := h.small
  clear h hA hy hL hu hm
  unfold ptrL
  go_enter Try.func29, Try.ntmps29
  go_wp2_with (first
    | (go_at_call 39; obtain ⟨H0, hH0, _⟩ := HS.out.use; refine (CM.out _ H0 hH0 HS.out.kp).mono ?_; rintro x w1 ⟨rfl, hb1⟩; have HS1 := Lib.hid (HS.out.below (lb_thing b) hb1); obtain ⟨p0, p1, _⟩ := two_cells HS1.out.ask; obtain ⟨l1, l2⟩ := HS1.out.small; clear hb1 hH0)
    | (go_at_call 26; obtain ⟨H1, hH1, hk1, hU1⟩ := HS1.out.use2; refine (CC.out _ H1 hH1 (fun W hk => HA.out W (hk1 W hk))).mono ?_; rintro x w2 ⟨rfl, hl⟩; have HS2 := Lib.hid (hU1 (LB b) _ _ hl); clear hl hH1 hk1 hU1)
    | (go_at_call 16; obtain ⟨H2, hH2, _, hU2⟩ := HS2.out.use2; refine (CN.out _ H2 hH2).mono ?_; rintro x w3 ⟨v, rfl, hO, hb3⟩; obtain ⟨vo, vc, hv, _⟩ := hO.form; subst hv; have HS3 := Lib.hid (hU2 (Chained (LB b) (fun k => w2.heap.size ≤ k ∧ k < w3.heap.size) (.slice vo L.length vc) L) _ _ (chained_new (lb_thing b) hH2 hb3 hO)); obtain ⟨⟨x0, x1, x2, x3, x4, x5, x6, x7⟩, f0, f1, f2, f3, f4, f5, f6, f7⟩ := eight_cells HS3.out.ans; obtain ⟨m1, m2⟩ := HS3.out.small; clear hO hb3 hH2 hU2))
  exact ans_ret (x := anL 0 e L) (ao := vo) (cap := vc) rfl (eight_all HS3.out.ans _ _ _ _ _ _ _ _) rfl rfl (chained_tells (x := anL 0 e L) (fun k hk => Nat.le_trans HS2.out.kp.size hk.1) (HS3.out.fin (chained_thing (lb_thing b) _ _ _) (eight_stay _ _ _ _ _ _ _ _ _ _)))
set_option maxHeartbeats 1000000 in
theorem lp_stay (b : Nat) (G : Nat → Prop) (w : World) (y : Ly) (h : LB b G w y) (hy : y.L.length ≤ 255 ∧ ∀ c ∈ y.L, c.length ≤ 255) (e : Int) (ao : Option Addr) (cap : Nat) (L : List (List Int)) (hA : ∀ W, Kept (fun k => ¬ G k) w W → CL W ao L) (hL : L.length ≤ 255 ∧ ∀ c ∈ L, c.length ≤ 255) (hm : y.may e L = false) :
    Calls Try.prog 29 #[ptrL b, .agg #[.int .i64 e, .slice ao L.length cap]] w fun x w' => Tells (LB b) G w y (anL 48 y.ep y.L) x w' := by
  have HS := Lib.hid (boxv_start (lb_thing b) h 24 41 #[.int .i64 e, .slice ao L.length cap] zeroE)
  unfold zeroE at HS
  have HA := Lib.hid hA
  have HY := Lib.hid hy
  have CM := Lib.hid (fun (W : World) H hH hk => lp_may b H W y hH hy e ao cap L (hA W hk) hL)
  rw [hm] at CM
  have CN := Lib.hid (fun (W : World) H hH => lp_now b H W y hH hy)
  unfold ptrL at CM CN
  have hbw := h.small
  clear h hA hy hL hm
  unfold ptrL
  go_enter Try.func29, Try.ntmps29
  go_wp2_with (first
    | (go_at_call 39; obtain ⟨H0, hH0, _⟩ := HS.out.use; refine (CM.out _ H0 hH0 HS.out.kp).mono ?_; rintro x w2 ⟨rfl, hb1⟩; have HS2 := Lib.hid (HS.out.below (lb_thing b) hb1); clear hb1 hH0)
    | (go_at_call 16; obtain ⟨H2, hH2, _, hU2⟩ := HS2.out.use2; refine (CN.out _ H2 hH2).mono ?_; rintro x w3 ⟨v, rfl, hO, hb3⟩; obtain ⟨vo, vc, hv, _⟩ := hO.form; subst hv; have HS3 := Lib.hid (hU2 (Chained (LB b) (fun k => w2.heap.size ≤ k ∧ k < w3.heap.size) (.slice vo y.L.length vc) y.L) _ _ (chained_new (lb_thing b) hH2 hb3 hO)); obtain ⟨⟨x0, x1, x2, x3, x4, x5, x6, x7⟩, f0, f1, f2, f3, f4, f5, f6, f7⟩ := eight_cells HS3.out.ans; obtain ⟨m1, m2⟩ := HS3.out.small; clear hO hb3 hH2 hU2))
  exact ans_ret (x := anL 48 y.ep y.L) (ao := vo) (cap := vc) rfl (eight_all HS3.out.ans _ _ _ _ _ _ _ _) rfl rfl (chained_tells (x := anL 48 y.ep y.L) (fun k hk => Nat.le_trans HS2.out.kp.size hk.1) (HS3.out.fin (chained_thing (lb_thing b) _ _ _) (eight_stay _ _ _ _ _ _ _ _ _ _)))
end Go.Proofs.Ythfbefkddnbbcaa
namespace Go.Proofs.Ythfbefkddnbbcaa
set_option linter.unusedVariables false
open Go.RowKit Go.Maps
set_option maxRecDepth 20000
/-- chains that were made behind one more block, and that block written -/
theorem chained_over {T : (Nat → Prop) → World → Ly → Prop} (hT : Thing T) {H : Nat → Prop} {w w4 W5 : World} {s : Ly} {o : Obj} {v : Value} {L : List (List Int)} (h : T H w s) (hb4 : Below (w.alloc o).heap.size (w.alloc o) w4) (hO : OC w4 (w.alloc o).heap.size v L) (hk : Kept (fun k => k ≠ w.heap.size) w4 W5) (hs : W5.heap.size = w4.heap.size) :
    Leaves (Chained T (fun k => w.heap.size < k ∧ k < w4.heap.size) v L) H w W5 s := by
  have hb0 := below_new w o
  have hz : (w.alloc o).heap.size = w.heap.size + 1 := by simp
  rw [hz] at hO
  have hH := fun k hk => hT.lt h k hk
  refine ⟨fun k => H k ∨ (w.heap.size < k ∧ k < w4.heap.size), ⟨H, ?_, ?_, fun k hk2 => by rw [hs]; exact hk2.2, fun k hk2 hf => by have := hH k hf; omega, fun k => Iff.rfl⟩, ?_, fun k hk2 => hk2.imp id (fun h => by omega)⟩
  · exact hT.keep (hT.keep (hT.keep h (Kept.ofBelow hb0 (fun _ => True)) (fun _ _ => trivial)) (Kept.ofBelow hb4 (fun _ => True)) (fun _ _ => trivial)) hk (fun k hf e => by have := hH k hf; omega)
  · exact ((CG.of hO).mono (S := fun k => w.heap.size < k ∧ k < w4.heap.size) (fun k hk2 => by omega)).keep hk (fun k hk2 => by omega)
  · have h1 := (Kept.ofBelow hb0 (fun k => ¬ H k)).below hb4
    refine ⟨hk.os.trans h1.os, hk.tape.trans h1.tape, hk.output.trans h1.output, Nat.le_trans h1.size hk.size, fun k hg hkl => ?_⟩
    rw [hk.block k (by omega) (Nat.lt_of_lt_of_le hkl h1.size)]
    exact h1.block k hg hkl
theorem two_size (W : World) (b i j : Nat) (v u : Value) : ((W.setCell ⟨b, i, none⟩ v).setCell ⟨b, j, none⟩ u).heap.size = W.heap.size := by simp [World.setCell]
theorem two_stay (W : World) (b i j : Nat) (v u : Value) : Kept (fun k => k ≠ b) W ((W.setCell ⟨b, i, none⟩ v).setCell ⟨b, j, none⟩ u) := ((Kept.refl _ W).setCell (p := ⟨b, i, none⟩) (fun h => h rfl) _).setCell (p := ⟨b, j, none⟩) (fun h => h rfl) _
set_option maxHeartbeats 1000000 in
theorem lp_do_tell (b : Nat) (G : Nat → Prop) (w : World) (y : Ly) (a : Ak) (h : LB b G w y) (hy : y.L.length ≤ 255 ∧ ∀ c ∈ y.L, c.length ≤ 255) (hk : a.kind = 9) :
    Calls Try.prog 13 #[ptrL b, askV a] w fun x w' => Tells (LB b) G w y ⟨0, y.n, noL, y.ep, y.L, y.mark, y.size, 0⟩ x w' := by
  obtain ⟨k, un, ep, pg, sz, n, s, pe, L, ao, cap⟩ := a
  simp only at hk
  have d9 : (k == 9) = true := by rw [hk]; rfl
  have HS := Lib.hid (boxv_start (lb_thing b) h 38 41 #[.int .i64 k, .int .i64 un, .int .i64 ep, .int .i64 pg, .int .i64 sz, .int .i64 n, .string s, .int .i64 pe, .slice ao L.length cap] zeroE)
  unfold zeroE at HS
  have C2 := Lib.hid (fun w => ltold_any y.mark y.size y.n w)
  have CN := Lib.hid (fun (W : World) H hH => lp_now b H W y hH hy)
  unfold ptrL at CN
  obtain ⟨H0, hH0, _⟩ := HS.out.use
  obtain ⟨lo, lc, mb, h1, _⟩ := hH0.open
  obtain ⟨⟨c0, c1, c2, c3, c4, c5⟩, _⟩ := six_cells h1
  have hb1 := lt_of_block h1
  have HC := Lib.hid (And.intro c3 (And.intro c4 c5))
  have hbw := h.small
  obtain ⟨_, _, _, g1, _⟩ := h.open
  obtain ⟨⟨e0, e1, e2, e3, e4, e5⟩, _⟩ := six_cells g1
  clear h hy hk hH0 h1 c0 c1 c2 c3 c4 c5 hb1 g1 e0 e1 e2 HC
  show Calls _ _ #[.pointer (some ⟨b, 0, none⟩), .agg #[.int .i64 k, .int .i64 un, .int .i64 ep, .int .i64 pg, .int .i64 sz, .int .i64 n, .string s, .int .i64 pe, .slice ao L.length cap]] w _
  go_enter Try.func13, Try.ntmps13
  go_wp2_with (first
    | (go_at_call 28; refine (C2.out _).mono ?_; rintro x w2 ⟨rfl, hb2⟩; have HS2 := Lib.hid (HS.out.below (lb_thing b) hb2); clear hb2)
    | (go_at_call 16; obtain ⟨H2, hH2, _, hU2⟩ := HS2.out.use2; refine (CN.out _ H2 (hH2.below (below_new _ _))).mono ?_; rintro x w4 ⟨v, rfl, hO, hb4⟩; obtain ⟨vo, vc, hv, _⟩ := hO.form; subst hv; have HX := Lib.hid (hU2 (Chained (LB b) (fun k => w2.heap.size < k ∧ k < w4.heap.size) (.slice vo y.L.length vc) y.L) _ _ (chained_over (lb_thing b) hH2 hb4 hO (two_stay w4 w2.heap.size 3 4 (.int .i64 y.ep) (.slice vo y.L.length vc)) (two_size _ _ _ _ _ _))); have HQ := Lib.hid (below_heap hb4 (heap_alloc_new w2 _)); have hq := lt_of_block HQ.out; obtain ⟨⟨q0, q1, q2, q3, q4, q5, q6, q7⟩, r0, r1, r2, r3, r4, r5, r6, r7⟩ := eight_cells HQ.out; obtain ⟨m1, m2⟩ := HS2.out.small; have HS4 := Lib.hid ((HS2.out.below (lb_thing b) (below_new w2 (.cells #[.int .i64 0, .int .i64 y.n, .string ⟨#[]⟩, .int .i64 0, .slice none 0 0, .int .i64 y.mark, .int .i64 y.size, .int .i64 0] 41))).below (lb_thing b) hb4); obtain ⟨⟨x0, x1, x2, x3, x4, x5, x6, x7⟩, f0, f1, f2, f3, f4, f5, f6, f7⟩ := eight_cells HS4.out.ans; obtain ⟨m3, m4⟩ := HS4.out.small; clear hO hb4 hH2 hU2))
  exact ans_ret (x := ⟨0, y.n, noL, y.ep, y.L, y.mark, y.size, 0⟩) (ao := vo) (cap := vc) rfl (eight_all HX.out.ans _ _ _ _ _ _ _ _) rfl rfl (chained_tells (x := ⟨0, y.n, noL, y.ep, y.L, y.mark, y.size, 0⟩) (fun k hk => Nat.le_trans HS2.out.kp.size (Nat.le_of_lt hk.1)) (HX.out.fin (chained_thing (lb_thing b) _ _ _) (eight_stay _ _ _ _ _ _ _ _ _ _)))
set_option maxHeartbeats 1000000 in
theorem lp_do_other (b : Nat) (G : Nat → Prop) (w : World) (y : Ly) (a : Ak) (h : LB b G w y) (h9 : a.kind ≠ 9) (h10 : a.kind ≠ 10) (h11 : a.kind ≠ 11) :
    Calls Try.prog 13 #[ptrL b, askV a] w fun x w' => Tells (LB b) G w y (anP 1 0 noL 0) x w' := by
  obtain ⟨k, un, ep, pg, sz, n, s, pe, L, ao, cap⟩ := a
  simp only at *
  have d9 : (k == 9) = false := beq_eq_false_iff_ne.2 h9
  have d10 : (k == 10) = false := beq_eq_false_iff_ne.2 h10
  have d11 : (k == 11) = false := beq_eq_false_iff_ne.2 h11
  have HS := Lib.hid (boxv_start (lb_thing b) h 38 41 #[.int .i64 k, .int .i64 un, .int .i64 ep, .int .i64 pg, .int .i64 sz, .int .i64 n, .string s, .int .i64 pe, .slice ao L.length cap] zeroE)
  unfold zeroE at HS
  clear h h9 h10 h11
  show Calls _ _ #[.pointer (some ⟨b, 0, none⟩), .agg #[.int .i64 k, .int .i64 un, .int .i64 ep, .int .i64 pg, .int .i64 sz, .int .i64 n, .string s, .int .i64 pe, .slice ao L.length cap]] w _
  go_enter Try.func13, Try.ntmps13
  go_wp2_with (go_at_call 27; refine (lcoded_any _ _).mono ?_; rintro x w2 ⟨rfl, hb2⟩; have HX := Lib.hid (HS.out.below (lb_thing b) hb2); obtain ⟨⟨x0, x1, x2, x3, x4, x5, x6, x7⟩, f0, f1, f2, f3, f4, f5, f6, f7⟩ := eight_cells HX.out.ans; obtain ⟨m1, m2⟩ := HX.out.small; clear hb2)
  exact ans_ret (x := anP 1 0 noL 0) (ao := none) (cap := 0) rfl (eight_all HX.out.ans _ _ _ _ _ _ _ _) rfl rfl (Tells.plain (HX.out.fin (lb_thing b) (eight_stay _ _ _ _ _ _ _ _ _ _)) rfl)
set_option maxHeartbeats 1000000 in
/-- an image is told of: whatever 'mark' makes of it, Do makes -/
theorem lp_do_mark (b : Nat) (G : Nat → Prop) (w : World) (y y' : Ly) (a : Ak) (h : LB b G w y) (hk : a.kind = 11) (c mn mp ms : Int)
    (hc : ∀ H W, LB b H W y → Calls Try.prog 30 #[ptrL b, .agg #[.int .i64 a.page, .int .i64 a.size, .int .i64 a.n]] W fun x w' => x = .returned (ansV ⟨c, mn, noL, 0, [], mp, ms, 0⟩ none 0) ∧ Leaves (LB b) H W w' y') :
    Calls Try.prog 13 #[ptrL b, askV a] w fun x w' => Tells (LB b) G w y' ⟨c, mn, noL, 0, [], mp, ms, 0⟩ x w' := by
  obtain ⟨k, un, ep, pg, sz, n, s, pe, L, ao, cap⟩ := a
  simp only at *
  have d11 : (k == 11) = true := by rw [hk]; rfl
  have d9 : (k == 9) = false := by rw [hk]; rfl
  have d10 : (k == 10) = false := by rw [hk]; rfl
  have HS := Lib.hid (boxv_start (lb_thing b) h 38 41 #[.int .i64 k, .int .i64 un, .int .i64 ep, .int .i64 pg, .int .i64 sz, .int .i64 n, .string s, .int .i64 pe, .slice ao L.length cap] zeroE)
  unfold zeroE at HS
  have CM := Lib.hid (show ∀ H W, LB b H W y → Calls Try.prog 30 #[.pointer (some ⟨b, 0, none⟩), .agg #[.int .i64 pg, .int .i64 sz, .int .i64 n]] W fun x w' => x = .returned (.agg #[.int .i64 c, .int .i64 mn, .string ⟨#[]⟩, .int .i64 0, .slice none 0 0, .int .i64 mp, .int .i64 ms, .int .i64 0]) ∧ Leaves (LB b) H W w' y' from hc)
  have hbw := h.small
  clear h hk hc
  show Calls _ _ #[.pointer (some ⟨b, 0, none⟩), .agg #[.int .i64 k, .int .i64 un, .int .i64 ep, .int .i64 pg, .int .i64 sz, .int .i64 n, .string s, .int .i64 pe, .slice ao L.length cap]] w _
  go_enter Try.func13, Try.ntmps13
  go_wp2_with (go_at_call 30; obtain ⟨H1, hH1, _, hU1⟩ := HS.out.use2; refine (CM.out H1 _ hH1).mono ?_; rintro x w2 ⟨rfl, hl⟩; have HX := Lib.hid (hU1 (LB b) _ _ hl); obtain ⟨⟨x0, x1, x2, x3, x4, x5, x6, x7⟩, f0, f1, f2, f3, f4, f5, f6, f7⟩ := eight_cells HX.out.ans; obtain ⟨m1, m2⟩ := HX.out.small; clear hl hH1 hU1)
  exact ans_ret (x := ⟨c, mn, noL, 0, [], mp, ms, 0⟩) (ao := none) (cap := 0) rfl (eight_all HX.out.ans _ _ _ _ _ _ _ _) rfl rfl (Tells.plain (HX.out.fin (lb_thing b) (eight_stay _ _ _ _ _ _ _ _ _ _)) rfl)
set_option maxHeartbeats 1000000 in
/-- a change is told of: whatever 'change' makes of it, Do makes -/
theorem lp_do_change (b : Nat) (G : Nat → Prop) (w : World) (y y' : Ly) (a : Ak) (h : LB b G w y) (hA : ∀ W, Kept (fun k => ¬ G k) w W → CL W a.ao a.L) (hk : a.kind = 10) (c e : Int) (M : List (List Int))
    (hc : ∀ H W, LB b H W y → (∀ W2, Kept (fun k => ¬ H k) W W2 → CL W2 a.ao a.L) → Calls Try.prog 29 #[ptrL b, .agg #[.int .i64 a.pe, .slice a.ao a.L.length a.cap]] W fun x w' => Tells (LB b) H W y' (anL c e M) x w') :
    Calls Try.prog 13 #[ptrL b, askV a] w fun x w' => Tells (LB b) G w y' (anL c e M) x w' := by
  obtain ⟨k, un, ep, pg, sz, n, s, pe, L, ao, cap⟩ := a
  simp only at *
  have d10 : (k == 10) = true := by rw [hk]; rfl
  have d9 : (k == 9) = false := by rw [hk]; rfl
  have HS := Lib.hid (boxv_start (lb_thing b) h 38 41 #[.int .i64 k, .int .i64 un, .int .i64 ep, .int .i64 pg, .int .i64 sz, .int .i64 n, .string s, .int .i64 pe, .slice ao L.length cap] zeroE)
  unfold zeroE at HS
  have HA := Lib.hid hA
  have CM := Lib.hid (show ∀ H W, LB b H W y → (∀ W2, Kept (fun k => ¬ H k) W W2 → CL W2 ao L) → Calls Try.prog 29 #[.pointer (some ⟨b, 0, none⟩), .agg #[.int .i64 pe, .slice ao L.length cap]] W fun x w' => ∃ (vo : Option Addr) (vc : Nat) (C : Nat → Prop), x = .returned (.agg #[.int .i64 c, .int .i64 0, .string ⟨#[]⟩, .int .i64 e, .slice vo M.length vc, .int .i64 0, .int .i64 0, .int .i64 0]) ∧ (∀ k, C k → W.heap.size ≤ k) ∧ Leaves (Chained (LB b) C (.slice vo M.length vc) M) H W w' y' from fun H W h1 h2 => (hc H W h1 h2).mono (fun x w' ht => tells_chained ht))
  have hbw := h.small
  clear h hk hc hA
  show Calls _ _ #[.pointer (some ⟨b, 0, none⟩), .agg #[.int .i64 k, .int .i64 un, .int .i64 ep, .int .i64 pg, .int .i64 sz, .int .i64 n, .string s, .int .i64 pe, .slice ao L.length cap]] w _
  go_enter Try.func13, Try.ntmps13
  go_wp2_with (go_at_call 29; obtain ⟨H1, hH1, hk1, hU1⟩ := HS.out.use2; refine (CM.out H1 _ hH1 (fun W hk => HA.out W (hk1 W hk))).mono ?_; rintro x w2 ⟨vo, vc, C, rfl, hC, hl⟩; have HC := Lib.hid hC; have HX := Lib.hid (hU1 _ _ _ hl); obtain ⟨⟨x0, x1, x2, x3, x4, x5, x6, x7⟩, f0, f1, f2, f3, f4, f5, f6, f7⟩ := eight_cells HX.out.ans; obtain ⟨m1, m2⟩ := HX.out.small; clear hl hH1 hU1 hk1 hC)
  exact ans_ret (x := anL c e M) (ao := vo) (cap := vc) rfl (eight_all HX.out.ans _ _ _ _ _ _ _ _) rfl rfl (chained_tells (x := anL c e M) (fun k hk => Nat.le_trans HS.out.kp.size (HC.out k hk)) (HX.out.fin (chained_thing (lb_thing b) _ _ _) (eight_stay _ _ _ _ _ _ _ _ _ _)))
end Go.Proofs.Ythfbefkddnbbcaa
namespace Go.Proofs.Ythfbefkddnbbcaa
set_option linter.unusedVariables false
open Go.RowKit Go.Maps
set_option maxRecDepth 20000
theorem ownsMap_size {w : World} {b n : Nat} {D : DataW Unit} {k : TypeId} {R : Value → Option (DataW Unit × List MemPlace)} (h : w.ownsMap Try.prog k R b n D) : Maps.size D ≤ n := by
  obtain ⟨es, clock, h1, h2, h3, rfl⟩ := h
  rw [size_eq, length_sorted]
  simpa using h3
theorem coll_start {D : DataW Unit} {S : List Int} (hs : ∀ u, (Lit.int .i64 u).wf = true → Maps.has D (klU u) = decide (u ∈ S)) : Coll S (Maps.has D) [] := by
  refine ⟨List.Pairwise.nil, fun u hu => ?_⟩
  rw [hs u hu]
  simp
theorem coll_step {D : DataW Unit} {S l : List Int} {left : Lit → Bool} (hs : ∀ u, (Lit.int .i64 u).wf = true → Maps.has D (klU u) = decide (u ∈ S)) (h : Coll S left l) {u : Int} {y : DataW Unit} (hu : (Lit.int .i64 u).wf = true) (hl : left (klU u) = true) (hat : ∀ z, D.atKey (klU u) z = y) :
    Coll S (fun z => left z && !z.sameKey (klU u)) (l ++ [u]) := by
  have hS : u ∈ S := by
    have h1 := has_true_of_atKey hat
    rw [hs u hu] at h1
    exact of_decide_eq_true h1
  have hn : u ∉ l := by
    intro hm
    have := ((h.2 u hu).1 hm).2
    rw [hl] at this
    cases this
  refine ⟨nodup_snoc h.1 hn, fun v hv => ?_⟩
  rw [List.mem_append, List.mem_singleton]
  by_cases e : v = u
  · subst e
    simp [hS, WideAt.sameKey_self (klU_key hu)]
  · show v ∈ l ∨ v = u ↔ v ∈ S ∧ (left (klU v) && !(klU v).sameKey (klU u)) = false
    rw [h.2 v hv, sameKey_ne (fun e2 => e (klU_inj hv hu e2))]
    simp [e]
set_option maxHeartbeats 2000000 in
theorem lp_used (b : Nat) (G : Nat → Prop) (w : World) (y : Ly) (h : LB b G w y) (hu : y.used.length ≤ 3000) :
    Calls Try.prog 18 #[ptrL b] w fun e w' => ∃ v, e = .returned v ∧ OI w' w.heap.size v (unitsR [y.used]) ∧ Below w.heap.size w w' := by
  obtain ⟨lo, lc, mb, h1, _, hUs, _⟩ := h.open
  obtain ⟨⟨c0, c1, c2, c3, c4, c5⟩, _⟩ := six_cells h1
  have hlt := lt_of_block h1
  have HMB := Lib.hid hUs.lt
  have HD := Lib.hid hUs.1
  have HHS := Lib.hid (fun u hu => hUs.has (u := u) hu)
  have HWF := Lib.hid (show ∀ u ∈ [y.used].flatten, (Lit.int .i64 u).wf = true from fun u hu => hUs.2 u (by simpa using hu))
  have HWS := Lib.hid hUs.2
  have HSZ := Lib.hid (ownsMap_size hUs.1)
  clear h h1 hUs c0 c1 c3 c4 c5
  generalize y.used = S at *
  obtain ⟨nn, hnn⟩ : ∃ nn, nn = S.length := ⟨_, rfl⟩
  rw [← hnn] at HD HSZ hu
  clear hnn
  unfold ptrL
  go_enter Try.func18, Try.ntmps18
  go_wp2_with (at_range; refine wpList_range_own _ rfl _ 54 rfl 65 72 lunit_law Try.underlying54 (unitElem (H := Unit)) mb _ _ rfl HD.out ?_; intro w2 hrg0 hg0 hs0)
  go_frame
  have HB2 := Lib.hid ((Below.refl w.heap.size w).grown hg0 (Nat.le_refl _) (fun j hj => by cases hj))
  have hbr := HMB.out
  clear hg0 c2 hlt
  go_loopw [3] (fun v wr => ∃ (left : Lit → Bool) (cnt : Nat) (l : List Int), Hid (wr.ranges Try.prog 65 (unitElem (H := Unit)) mb w.heap.size nn (setD klU S) left cnt) ∧ Hid (OI wr w2.heap.size v l) ∧ Hid (Coll S left l) ∧ Hid (l.length + cnt ≤ nn) ∧ Hid (Below w.heap.size w wr) ∧ w2.heap.size ≤ wr.heap.size) (fun _ wr => wr.rangeLeft mb w.heap.size)
  case atStart => exact ⟨_, _, [], Lib.hid hrg0, Lib.hid (OI.nil _ _), Lib.hid (coll_start HHS.out), Lib.hid ((Nat.zero_add _).symm ▸ HSZ.out), HB2, Nat.le_refl _⟩
  case round =>
    obtain ⟨left, cnt, l, HR, HO, HL, HN, HB, hsz⟩ := hrel
    clear hrg0
    go_wp2_with (at_next; refine wpList_next_ranges (α := Int) (β := Unit) _ rfl _ rfl 65 lunit_law (unitElem (H := Unit)) (fun x => .agg #[.int .i64 x]) (fun _ => .agg #[]) (fun key kl hkey => by obtain ⟨u, e, _⟩ := lunit_inv hkey; exact ⟨u, e⟩) (fun v y hv => ⟨(), (unitElem_inv hv).1⟩) mb w.heap.size _ _ _ _ rfl HR.out ?_ ?_)
    · intro hc0 hl0
      have HX := Lib.hid (sort_units (L := [S]) HL.out.1 (fun u => (HL.out.done hl0 HWS.out HO.out.2 u).trans (by simp)))
      have hlen : l.length ≤ 1000000 := by have := HN.out; omega
      have CS := Lib.hid (sort_ownO (HO.out.lower (show w.heap.size ≤ w2.heap.size by omega)) hlen HB.out.size)
      rw [HX.out] at CS
      go_wp2_with (go_at_call 33; refine CS.out.mono ?_; rintro e w3 ⟨rfl, hO3, hb3⟩; have HO3 := Lib.hid hO3; have HB3 := Lib.hid (HB.out.trans hb3); clear hO3 hb3)
      go_ret
      exact ⟨_, rfl, HO3.out, HB3.out⟩
    · intro x kl y1 y2 w3 cnt3 hkey hlk hv hat hrg3 hlt hg3 hs3 hen
      obtain ⟨u, e, hwf⟩ := lunit_inv hkey
      obtain rfl : x = u := unit_inj x u e
      obtain rfl : kl = klU x := Option.some.inj (hkey.symm.trans (lunit_key x hwf))
      have HCO := Lib.hid (coll_step HHS.out HL.out hwf hlk hat)
      have HR3 := Lib.hid hrg3
      have HO3 := Lib.hid (HO.out.kept hg3 (by
        cases e : u3.ownBlock with
        | none => exact .inl rfl
        | some k => exact .inr (fun e2 => by have := (HO.out.1.lt k e).1; have := Option.some.inj e2; omega)))
      have HB3 := Lib.hid (HB.out.grown hg3 HB.out.size (fun j hj => by cases hj; exact Nat.le_refl _))
      have hlen : l.length + 1 ≤ 1000000 := by have := HN.out; omega
      have HN3 := Lib.hid (show (l ++ [x]).length + cnt3 ≤ nn from by have := HN.out; rw [List.length_append]; simp; omega)
      have HMK := Lib.hid (show NLI ((w3.alloc (.cells #[.int .i64 x] 65)).alloc (.cells #[.int .i64 x] 3)) (some ⟨wr.heap.size + 1, 0, none⟩) 1 [x] from by
        have h1 := NLI.made (w3.alloc (.cells #[.int .i64 x] 65)) x hwf
        rw [show (w3.alloc (.cells #[.int .i64 x] 65)).heap.size = wr.heap.size + 1 from by simp [hs3]] at h1
        exact h1)
      clear e hkey hlk hv hat hrg3 hg3 hwf
      go_wp2_with (refine wpList_app_ints (o := ⟨some 20, _, _, _, _, _⟩) rfl (.tmp 16) (.tmp 19) rfl (B := w2.heap.size) (v := u3) (D := l) rfl ((HO3.out.alloc _).alloc _) (ao := some ⟨_, 0, none⟩) (cap := 1) (l := [x]) (m := 1) rfl rfl HMK.out hlen (by simp; omega) ?_; intro v7 w7 hI hg _; have HO7 := Lib.hid hI; have HR7 := Lib.hid (((HR3.out.alloc _).alloc _).kept hg (fun e => by have := (HO3.out.1.lt _ e.symm).1; omega) (fun e => by have := (HO3.out.1.lt _ e.symm).1; omega)); have HB7 := Lib.hid (((HB3.out.alloc HB3.out.size _).alloc (by have := HB3.out.size; simp; omega) _).grown hg (by have := HB3.out.size; simp; omega) (fun k e => by have := (HO3.out.1.lt k e).1; omega)); have hsz7 : w2.heap.size ≤ w7.heap.size := (by have := hg.size; simp at this; omega); clear hI hg)
      go_roundw
      case rel => exact ⟨_, cnt3, l ++ [x], HR7, HO7, HCO, HN3, HB7, hsz7⟩
      case measure => rw [HR7.out.left_eq, HR.out.left_eq]; exact hlt
end Go.Proofs.Ythfbefkddnbbcaa
namespace Go.Proofs.Ythfbefkddnbbcaa
set_option linter.unusedVariables false
open Go.RowKit Go.Maps
set_option maxRecDepth 20000
theorem lp_new_no (ep : Int) (ao : Option Addr) (cap : Nat) (L : List (List Int)) (w : World) (h : CL w ao L) (hl : L.length ≤ 255 ∧ ∀ c ∈ L, c.length ≤ 255) (hg : goodB ep L = false) :
    Calls Try.prog 9 #[.agg #[.int .i64 ep, .slice ao L.length cap]] w fun e w' => e = .returned (.tuple #[.pointer none, .int .i64 11]) ∧ Below w.heap.size w w' := by
  have HB0 := Lib.hid (below_new w (.cells #[.int .i64 ep, .slice ao L.length cap] 24))
  have CGD := Lib.hid (pgood_any ep ao cap L _ (h.below HB0.out) hl)
  rw [hg] at CGD
  clear h hl hg
  go_enter Try.func9, Try.ntmps9
  go_wp2_with (go_at_call 25; refine CGD.out.mono ?_; rintro e w1 ⟨rfl, hb1⟩; have HB1 := Lib.hid (HB0.out.trans (hb1.mono HB0.out.size)); clear hb1)
  go_ret2
  exact ⟨rfl, HB1.out⟩
theorem lb_new (w : World) : LB (w.heap.size + 1) (fun k => w.heap.size ≤ k ∧ k < w.heap.size + 2) ((w.alloc (.map #[] 0)).alloc (.cells #[.int .i64 0, .slice none 0 0, .map (some w.heap.size), .int .i64 (-1), .int .i64 0, .int .i64 (-1)] 58)) ⟨0, [], [], -1, 0, -1⟩ := by
  have h1 := heap_alloc_new (w.alloc (.map #[] 0)) (.cells #[.int .i64 0, .slice none 0 0, .map (some w.heap.size), .int .i64 (-1), .int .i64 0, .int .i64 (-1)] 58)
  rw [show (w.alloc (.map #[] 0)).heap.size = w.heap.size + 1 from by simp] at h1
  exact ⟨.slice none 0 0, w.heap.size, fun _ => False, h1, CG.no _ _, (Usd.made w).below (below_new _ _), by omega, ⟨by omega, by omega⟩, ⟨by omega, by omega⟩, fun k hk => hk.elim, fun k hk => by simp; omega⟩
set_option maxHeartbeats 1000000 in
theorem lp_new_yes (ep : Int) (ao : Option Addr) (cap : Nat) (L : List (List Int)) (w : World) (h : CL w ao L) (hl : L.length ≤ 255 ∧ ∀ c ∈ L, c.length ≤ 255) (hg : goodB ep L = true) :
    Calls Try.prog 9 #[.agg #[.int .i64 ep, .slice ao L.length cap]] w fun e w' => ∃ (b : Nat) (G : Nat → Prop), e = .returned (.tuple #[ptrL b, .int .i64 0]) ∧ LM b G w' (newL ep L) ∧ (∀ k, G k → w.heap.size ≤ k) ∧ Below w.heap.size w w' := by
  have HB0 := Lib.hid (below_new w (.cells #[.int .i64 ep, .slice ao L.length cap] 24))
  have HP := Lib.hid (show PB (w.alloc (.cells #[.int .i64 ep, .slice ao L.length cap] 24)) w.heap.size ep ao L.length cap from heap_alloc_new _ _)
  have CGD := Lib.hid (pgood_any ep ao cap L _ (h.below HB0.out) hl)
  have HGD := Lib.hid hg
  have HC := Lib.hid h
  have HL := Lib.hid hl
  rw [hg] at CGD
  have hmm := @run_makeMap Try.prog
  clear h hl hg
  go_enter Try.func9, Try.ntmps9
  go_wp2_with (first
    | (go_at_call 25; refine CGD.out.mono ?_; rintro e w1 ⟨rfl, hb1⟩; have HB1 := Lib.hid (HB0.out.trans (hb1.mono HB0.out.size)); obtain ⟨p0, p1⟩ := (HP.out.below hb1).cells; have hpz := block_lt_of_cell p0; clear hb1)
    | (go_at_call 26; have HBN := Lib.hid (show Below w.heap.size w ((w1.alloc (.map #[] 0)).alloc (.cells #[.int .i64 0, .slice none 0 0, .map (some w1.heap.size), .int .i64 (-1), .int .i64 0, .int .i64 (-1)] 58)) from (HB1.out.alloc HB1.out.size _).alloc (by have := HB1.out.size; simp; omega) _); have CQ := lp_count (w1.heap.size + 1) _ _ _ (lb_new w1) ep ao cap L (fun W hk => HC.out.below (HBN.out.trans (hk.toBelow HBN.out.size (fun k h1 h2 => by have := HB1.out.size; omega)))) HL.out (Nat.zero_le _); unfold ptrL at CQ; refine CQ.mono ?_; rintro e w2 ⟨rfl, hl⟩; have HLV := Lib.hid hl; clear hl CQ))
  go_ret2
  obtain ⟨G', r1, r2, r3⟩ := HLV.out
  have hz := HB1.out.size
  have hy := HBN.out.size
  exact ⟨w1.heap.size + 1, G', rfl, ⟨HGD.out, r1⟩, fun k hk => (r3 k hk).elim (fun h => by omega) (fun h => by omega), HBN.out.trans (r2.toBelow hy (fun k h1 h2 => by omega))⟩
theorem lp_ask (b : Nat) (G : Nat → Prop) (w : World) (y : Ly) (a : Ak) (h : LM b G w y) (hL : a.L.length ≤ 255 ∧ ∀ c ∈ a.L, c.length ≤ 255) (hu : y.used.length ≤ 100000) (hA : ∀ W, Kept (fun k => ¬ G k) w W → CL W a.ao a.L) :
    Calls Try.prog 13 #[ptrL b, askV a] w fun e w' => Tells (LM b) G w (y.done a) (y.ans a) e w' := by
  obtain ⟨hg, h⟩ := h
  have hy := good_small hg
  suffices hs : Calls Try.prog 13 #[ptrL b, askV a] w fun e w' => Tells (LB b) G w (y.done a) (y.ans a) e w' from hs.mono (fun e w' ht => ht.to (fun H W hb => ⟨done_good hg a, hb⟩))
  by_cases h9 : a.kind = 9
  · have ha : y.ans a = ⟨0, y.n, noL, y.ep, y.L, y.mark, y.size, 0⟩ := if_pos h9
    have hd : y.done a = y := by
      unfold Ly.done
      rw [if_neg (by omega), if_neg (fun h => by have := h.1; omega)]
    rw [ha, hd]
    exact lp_do_tell b G w y a h hy h9
  by_cases h10 : a.kind = 10
  · cases hm : y.may a.pe a.L
    · have ha : y.ans a = anL 48 y.ep y.L := by
        unfold Ly.ans
        rw [if_neg h9, if_pos h10, if_neg (by rw [hm]; decide)]
      have hd : y.done a = y := by
        unfold Ly.done
        rw [if_pos h10, if_neg (by rw [hm]; decide)]
      rw [ha, hd]
      exact lp_do_change b G w y y a h hA h10 48 y.ep y.L (fun H W h1 h2 => lp_stay b H W y h1 hy a.pe a.ao a.cap a.L h2 hL hm)
    · have ha : y.ans a = anL 0 a.pe a.L := by
        unfold Ly.ans
        rw [if_neg h9, if_pos h10, if_pos hm]
      have hd : y.done a = ⟨a.pe, a.L, y.used ++ unitsR a.L, y.mark, y.size, y.n⟩ := by
        unfold Ly.done
        rw [if_pos h10, if_pos hm]
      rw [ha, hd]
      exact lp_do_change b G w y _ a h hA h10 0 a.pe a.L (fun H W h1 h2 => lp_turn b H W y h1 hy a.pe a.ao a.cap a.L h2 hL hu hm)
  by_cases h11 : a.kind = 11
  · by_cases hb : badM a
    · have ha : y.ans a = anP 1 0 noL 0 := by
        unfold Ly.ans
        rw [if_neg h9, if_neg h10, if_pos h11, if_pos hb]
      have hd : y.done a = y := by
        unfold Ly.done
        rw [if_neg h10, if_neg (fun h => h.2.1 hb)]
      rw [ha, hd]
      exact lp_do_mark b G w y y a h h11 1 0 0 0 (fun H W h1 => lp_mark_no b H W y h1 a.page a.size a.n (goodI_no hb))
    by_cases hn : y.n < a.n
    · have ha : y.ans a = anM a.n a.page a.size := by
        unfold Ly.ans
        rw [if_neg h9, if_neg h10, if_pos h11, if_neg hb, if_pos hn]
      have hd : y.done a = ⟨y.ep, y.L, y.used, a.page, a.size, a.n⟩ := by
        unfold Ly.done
        rw [if_neg h10, if_pos ⟨h11, hb, hn⟩]
      rw [ha, hd]
      exact lp_do_mark b G w y _ a h h11 0 a.n a.page a.size (fun H W h1 => lp_mark_new b H W y h1 a.page a.size a.n (goodI_yes hb) hn)
    · have ha : y.ans a = anM y.n y.mark y.size := by
        unfold Ly.ans
        rw [if_neg h9, if_neg h10, if_pos h11, if_neg hb, if_neg hn]
      have hd : y.done a = y := by
        unfold Ly.done
        rw [if_neg h10, if_neg (fun h => hn h.2.2)]
      rw [ha, hd]
      exact lp_do_mark b G w y y a h h11 0 y.n y.mark y.size (fun H W h1 => lp_mark_old b H W y h1 a.page a.size a.n (goodI_yes hb) hn)
  · have ha : y.ans a = anP 1 0 noL 0 := by
      unfold Ly.ans
      rw [if_neg h9, if_neg h10, if_neg h11]
    have hd : y.done a = y := by
      unfold Ly.done
      rw [if_neg h10, if_neg (fun h => h11 h.1)]
    rw [ha, hd]
    exact lp_do_other b G w y a h h9 h10 h11
theorem laySays : LaySays LM where
  thing := lm_thing
  good := fun h => h.1
  new_no := fun ep ao cap L w h hl hg => lp_new_no ep ao cap L w h hl hg
  new_yes := fun ep ao cap L w h hl hg => lp_new_yes ep ao cap L w h hl hg
  ask := fun b G w y a h _ hL hu hA => lp_ask b G w y a h hL hu hA
  now := fun b G w y h => lp_now b G w y h.2 (good_small h.1)
  used := fun b G w y h hu => lp_used b G w y h.2 hu
  nil_ask := fun w a _ => lp_nil_ask w a
  nil_now := lp_nil_now
  nil_used := lp_nil_used
end Go.Proofs.Ythfbefkddnbbcaa
