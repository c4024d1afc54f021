/- May a projection come next? What the program's layout tells. Conditions: it and the projection lie where the call was told; no more than 100000 units were noted. -/
import Derived.Test.YtphigibhgldnpaaG19b
import Derived.Test.YtphigibhgldnpaaG15b
set_option linter.unusedVariables false
namespace Go.Proofs.Ytphigibhgldnpaa
set_option linter.unusedVariables false
open Go.RowKit Go.Maps
set_option maxRecDepth 20000
set_option maxHeartbeats 2000000 in
theorem lp_may (b : Nat) (G : Nat → Prop) (w : World) (y : Ly) (h : LB b G w y) (hy : y.L.length ≤ 255 ∧ ∀ c ∈ y.L, c.length ≤ 255) (e : Int) (ao : Option Addr) (cap : Nat) (Q : List (List Int)) (hq : CL w ao Q) (lq : Q.length ≤ 255 ∧ ∀ c ∈ Q, c.length ≤ 255) :
    Calls Try.prog 109 #[ptrL b, .agg #[.int .i64 e, .slice ao Q.length cap]] w fun x w' => x = .returned (.bool (y.may e Q)) ∧ Below w.heap.size w w' := by
  obtain ⟨lo, lc, mb0, h1, h2, _⟩ := h.open
  obtain ⟨⟨c0, c1, c2, _, _, _⟩, _⟩ := six_cells h1
  have hlt := lt_of_block h1
  have HB0 := Lib.hid (below_new w (.cells #[.int .i64 e, .slice ao Q.length cap] 30))
  have hx : PB (w.alloc (.cells #[.int .i64 e, .slice ao Q.length cap] 30)) w.heap.size e ao Q.length cap := heap_alloc_new _ _
  have HS0 := Lib.hid (show (w.alloc (.cells #[.int .i64 e, .slice ao Q.length cap] 30)).drew.cell? ⟨b, 0, none⟩ = some (.int .i64 y.ep) ∧ (w.alloc (.cells #[.int .i64 e, .slice ao Q.length cap] 30)).drew.cell? ⟨b, 1, none⟩ = some (.slice lo y.L.length lc) ∧
      (w.alloc (.cells #[.int .i64 e, .slice ao Q.length cap] 30)).drew.cell? ⟨w.heap.size, 0, none⟩ = some (.int .i64 e) ∧ (w.alloc (.cells #[.int .i64 e, .slice ao Q.length cap] 30)).drew.cell? ⟨w.heap.size, 1, none⟩ = some (.slice ao Q.length cap) ∧
      Below w.heap.size w (w.alloc (.cells #[.int .i64 e, .slice ao Q.length cap] 30)).drew ∧ w.heap.size ≤ (w.alloc (.cells #[.int .i64 e, .slice ao Q.length cap] 30)).drew.heap.size from
    ⟨cellB HB0.out.drew hlt c0, cellB HB0.out.drew hlt c1, cellB (Below.refl _ _).drew (block_lt_of_cell hx.cells.1) hx.cells.1, cellB (Below.refl _ _).drew (block_lt_of_cell hx.cells.2) hx.cells.2, HB0.out.drew, by simp⟩)
  have HC := Lib.hid h2
  have HQ := Lib.hid hq
  have SM := Lib.hid hy
  have LQ := Lib.hid lq
  have HLW := Lib.hid h
  clear c0 c1 c2 hx h h1 h2 hy hq lq
  cases hn : nextB y.ep y.L e Q
  · rw [may_no hn]
    have HN := Lib.hid hn
    clear hn
    unfold ptrL
    go_enter Try.func109, Try.ntmps109
    go_wp2_with fail
    go_region_held3 (fun W => W.cell? ⟨b, 0, none⟩ = some (.int .i64 y.ep) ∧ W.cell? ⟨b, 1, none⟩ = some (.slice lo y.L.length lc) ∧ W.cell? ⟨w.heap.size, 0, none⟩ = some (.int .i64 e) ∧ W.cell? ⟨w.heap.size, 1, none⟩ = some (.slice ao Q.length cap) ∧ Below w.heap.size w W ∧ w.heap.size ≤ W.heap.size)
      (first | exact HS0.out | exact mw_on (by assumption) hb1)
      (first | (go_at_call 111; refine (pnext_any y.ep lo lc y.L e ao cap Q _ (HC.out.below (mw_b (by assumption))) (HQ.out.below (mw_b (by assumption))) SM.out LQ.out).mono ?_; rintro x w1 ⟨rfl, hb1⟩; rw [HN.out]))
    all_goals
      go_wp2_with fail
      go_ret
      rename_i hS
      exact ⟨rfl, mw_b hS⟩
  · rw [may_yes hn]
    have HN := Lib.hid hn
    have fN := units_few SM.out
    have fU := units_few LQ.out
    have HY := Lib.hid (show (∀ u ∈ (unitsR Q).take (unitsR Q).length, mayF (unitsR y.L) y.used u = true) → (unitsR Q).all (mayF (unitsR y.L) y.used) = true from fun h => by
      rw [List.take_of_length_le (Nat.le_refl _)] at h
      exact List.all_eq_true.2 h)
    have HX := Lib.hid (fun k (hk : k < (unitsR Q).length) (h : mayF (unitsR y.L) y.used (unitsR Q)[k] = false) => show (unitsR Q).all (mayF (unitsR y.L) y.used) = false from
      List.all_eq_false.2 ⟨_, List.getElem_mem hk, by rw [h]; exact Bool.false_ne_true⟩)
    have C1 := Lib.hid (fun (W : World) (hb : Below w.heap.size w W) => punits_any y.ep lo lc y.L W (HC.out.below hb) SM.out)
    have C2 := Lib.hid (fun (W : World) (hb : Below w.heap.size w W) => punits_any e ao cap Q W (HQ.out.below hb) LQ.out)
    clear hn
    generalize (unitsR Q).all (mayF (unitsR y.L) y.used) = R at *
    generalize unitsR Q = U at *
    generalize unitsR y.L = N at *
    have mU : (U.length : Int) ≤ 70000 := by omega
    unfold ptrL
    go_enter Try.func109, Try.ntmps109
    go_wp2_with fail
    go_region_held3 (fun W => W.cell? ⟨b, 0, none⟩ = some (.int .i64 y.ep) ∧ W.cell? ⟨b, 1, none⟩ = some (.slice lo y.L.length lc) ∧ W.cell? ⟨w.heap.size, 0, none⟩ = some (.int .i64 e) ∧ W.cell? ⟨w.heap.size, 1, none⟩ = some (.slice ao Q.length cap) ∧ Below w.heap.size w W ∧ w.heap.size ≤ W.heap.size)
      (first | exact HS0.out | exact mw_on (by assumption) hb1)
      (first | (go_at_call 111; refine (pnext_any y.ep lo lc y.L e ao cap Q _ (HC.out.below (mw_b (by assumption))) (HQ.out.below (mw_b (by assumption))) SM.out LQ.out).mono ?_; rintro x w1 ⟨rfl, hb1⟩; rw [HN.out]))
    all_goals
      rename_i hS
      have H1 := Lib.hid hS
      obtain ⟨p0, p1, p2, p3, _, _⟩ := hS
      have hb1' := block_lt_of_cell p0
      clear hb1
      go_wp2_with (first
        | (go_at_call 39; refine (C2.out _ (mw_b H2.out)).mono ?_; rintro x w3 ⟨uo, uc, rfl, hN3, hb3⟩; have H3 := Lib.hid (mw_on H2.out hb3); have HNU := Lib.hid hN3; have HNN3 := Lib.hid (HNN.out.below hb3); clear hN3 hb3)
        | (go_at_call 39; refine (C1.out _ (mw_b H1.out)).mono ?_; rintro x w2 ⟨no, nc, rfl, hN2, hb2⟩; have H2 := Lib.hid (mw_on H1.out hb2); have HNN := Lib.hid hN2; obtain ⟨q0, q1, q2, q3, _, _⟩ := H2.out; have hb2' := block_lt_of_cell q0; clear hN2 hb2))
      have HW := Lib.hid (mw_b H3.out)
      have HL3 := Lib.hid (HLW.out.below HW.out)
      clear HB0 HS0 HC HQ SM LQ HN C1 C2 HNN p0 p1 p2 p3 q0 q1 q2 q3 H1 H2 H3 HLW
      go_loopw [25] (fun i wr => ∃ k : Nat, i = .int .i64 k ∧ k ≤ U.length ∧ Hid (Below w3.heap.size w3 wr) ∧ Hid (∀ u ∈ U.take k, mayF N y.used u = true)) (fun i _ => U.length - (intOf i).toNat)
      case atStart => exact ⟨0, rfl, Nat.zero_le _, Lib.hid (Below.refl _ _), Lib.hid (fun u hu => by simp at hu)⟩
      case round =>
        obtain ⟨k, rfl, hk, HB, HT⟩ := hrel
        have hWz := HW.out.size
        by_cases hlt2 : k < U.length
        · have HNR := Lib.hid (HNU.out.below HB.out)
          obtain ⟨bk, off, rfl, x0⟩ := HNR.out.at k hlt2
          have hwf := HNR.out.wf _ (List.getElem_mem hlt2)
          have k0 : (k : Int) < (U.length : Int) := by omega
          obtain ⟨lo2, lc2, mb, g1, _, hUs, _⟩ := (HL3.out.below HB.out).open
          obtain ⟨⟨c0, c1, c2, c3, c4, c5⟩, _⟩ := six_cells g1
          have hbr := lt_of_block g1
          have HD := Lib.hid hUs.1
          have HH := Lib.hid (show Maps.has (setD klU y.used) (klU U[k]) = hasB y.used U[k] from hUs.has hwf)
          have HKEY := Lib.hid (lunit_key _ hwf)
          have HB5 := Lib.hid (HB.out.alloc HB.out.size (.cells #[] 92))
          have CH := Lib.hid (lcontains_any N U[k] no nc (wr.alloc (.cells #[] 92)) (HNN3.out.below HB5.out) (by omega))
          have HT2 := Lib.hid (show mayF N y.used U[k] = true → ∀ u ∈ U.take (k + 1), mayF N y.used u = true from fun h => all_take_succ (p := fun u => mayF N y.used u = true) hlt2 HT.out h)
          have HXK := Lib.hid (HX.out k hlt2)
          have HF : mayF N y.used U[k] = (hasB N U[k] || !hasB y.used U[k]) := rfl
          rw [HF] at HT2 HXK
          clear HF g1 hUs hwf c0 c1 c3 c4 c5
          generalize U[k] = u at *
          cases hD : hasB y.used u
          · have HT3 := Lib.hid (HT2.out (by rw [hD]; simp))
            rw [hD] at HH
            clear hD HXK HT2 CH
            go_wp2_with (at_lookup; refine wpList_lookup_own_unit _ rfl _ _ 71 rfl 94 92 lunit_law Try.underlying71 (zero_none _) mb _ _ rfl HD.out _ _ rfl HKEY.out ?_; rw [HH.out])
            go_roundw
            case rel => exact ⟨k + 1, by go_num, by omega, HB5, HT3⟩
            case measure => simp [intOf]; omega
          · cases hN : hasB N u
            · have HR := Lib.hid (HXK.out (by rw [hN, hD]; rfl))
              rw [hN] at CH
              rw [hD] at HH
              clear hN hD HXK HT2
              go_wp2_with (first
                | (at_lookup; refine wpList_lookup_own_unit _ rfl _ _ 71 rfl 94 92 lunit_law Try.underlying71 (zero_none _) mb _ _ rfl HD.out _ _ rfl HKEY.out ?_; rw [HH.out])
                | (go_at_call 23; refine CH.out.mono ?_; rintro x w6 ⟨rfl, rfl⟩))
              go_ret
              rw [HR.out]
              exact ⟨rfl, HW.out.trans (HB5.out.mono HW.out.size)⟩
            · have HT3 := Lib.hid (HT2.out (by rw [hN]; rfl))
              rw [hN] at CH
              rw [hD] at HH
              clear hN hD HXK HT2
              go_wp2_with (first
                | (at_lookup; refine wpList_lookup_own_unit _ rfl _ _ 71 rfl 94 92 lunit_law Try.underlying71 (zero_none _) mb _ _ rfl HD.out _ _ rfl HKEY.out ?_; rw [HH.out])
                | (go_at_call 23; refine CH.out.mono ?_; rintro x w6 ⟨rfl, rfl⟩))
              go_roundw
              case rel => exact ⟨k + 1, by go_num, by omega, HB5, HT3⟩
              case measure => simp [intOf]; omega
        · obtain rfl : k = U.length := by omega
          have HR := Lib.hid (HY.out HT.out)
          go_wp2_with fail
          go_ret
          rw [HR.out]
          exact ⟨rfl, HW.out.trans (HB.out.mono HW.out.size)⟩
end Go.Proofs.Ytphigibhgldnpaa
