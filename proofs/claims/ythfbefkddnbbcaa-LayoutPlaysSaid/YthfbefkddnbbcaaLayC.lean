/- May a projection come next? What the document's own layout tells. Conditions: it and the projection lie where the call was told; no more than 1000000 units were noted. -/
import Derived.Test.YthfbefkddnbbcaaLayB
namespace Go.Proofs.Ythfbefkddnbbcaa
set_option linter.unusedVariables false
open Go.RowKit
set_option maxRecDepth 20000
theorem quiet_lay {P : Program} {f : FuncId} {args : Array Value} {w : World} {q n : Nat} {v : Value}
    (h : Calls P f args (w.drewN (q + n)) fun e w' => e = .returned v ∧ w.drewN (q + n) = w') : Calls P f args (w.drewN (q + n)) fun e w'' => e = .returned v ∧ ∃ m, w'' = w.drewN (q + m) :=
  h.mono fun _ _ ⟨he, hm⟩ => ⟨he, n, hm.symm⟩
def mayF (N U : List Int) (u : Int) : Bool := hasB N u || !hasB U u
theorem may_no {y : Ly} {e : Int} {Q : List (List Int)} (h : nextB y.ep y.L e Q = false) : y.may e Q = false := by simp [Ly.may, h]
theorem may_yes {y : Ly} {e : Int} {Q : List (List Int)} (h : nextB y.ep y.L e Q = true) : y.may e Q = (unitsR Q).all (mayF (unitsR y.L) y.used) := by
  unfold Ly.may
  rw [h, Bool.true_and]
  rfl
theorem units_few {L : List (List Int)} (l1 : L.length ≤ 255 ∧ ∀ c ∈ L, c.length ≤ 255) : (unitsR L).length ≤ 70000 := by
  have h3 := (insAll_length [] L.flatten List.Pairwise.nil).1
  have h4 := flat_le L 255 l1.2
  have h5 : 255 * L.length ≤ 255 * 255 := Nat.mul_le_mul_left _ l1.1
  unfold unitsR
  rw [List.length_nil] at h3
  omega
section
variable {w W W' : World} {r b B : Nat} {e1 e2 : Int} {v1 v2 : Value}
theorem mw_on (h : W.cell? ⟨r, 0, none⟩ = some (.int .i64 e1) ∧ W.cell? ⟨r, 1, none⟩ = some v1 ∧ W.cell? ⟨b, 0, none⟩ = some (.int .i64 e2) ∧ W.cell? ⟨b, 1, none⟩ = some v2 ∧ Below B w W ∧ B ≤ W.heap.size) (hb : Below W.heap.size W W') :
    W'.cell? ⟨r, 0, none⟩ = some (.int .i64 e1) ∧ W'.cell? ⟨r, 1, none⟩ = some v1 ∧ W'.cell? ⟨b, 0, none⟩ = some (.int .i64 e2) ∧ W'.cell? ⟨b, 1, none⟩ = some v2 ∧ Below B w W' ∧ B ≤ W'.heap.size :=
  ⟨cellB hb (block_lt_of_cell h.1) h.1, cellB hb (block_lt_of_cell h.2.1) h.2.1, cellB hb (block_lt_of_cell h.2.2.1) h.2.2.1, cellB hb (block_lt_of_cell h.2.2.2.1) h.2.2.2.1, h.2.2.2.2.1.trans (hb.mono h.2.2.2.2.2), Nat.le_trans h.2.2.2.2.2 hb.size⟩
theorem mw_b (h : W.cell? ⟨r, 0, none⟩ = some (.int .i64 e1) ∧ W.cell? ⟨r, 1, none⟩ = some v1 ∧ W.cell? ⟨b, 0, none⟩ = some (.int .i64 e2) ∧ W.cell? ⟨b, 1, none⟩ = some v2 ∧ Below B w W ∧ B ≤ W.heap.size) : Below B w W := h.2.2.2.2.1
end
set_option maxHeartbeats 1000000 in
theorem rl_may (r : Nat) (G : Nat → Prop) (w : World) (y : Ly) (h : RL r G w y) (hu : y.used.length ≤ 1000000) (e : Int) (ao : Option Addr) (cap : Nat) (Q : List (List Int)) (hq : CL w ao Q) (lq : Q.length ≤ 255 ∧ ∀ c ∈ Q, c.length ≤ 255) :
    Calls Try.prog 31 #[ptrL r, .agg #[.int .i64 e, .slice ao Q.length cap]] w fun x w' => x = .returned (.bool (y.may e Q)) ∧ Below w.heap.size w w' := by
  obtain ⟨lo, lc, bo, cb, h1, h2, h3, h4⟩ := h.open
  obtain ⟨⟨c0, c1, c2, _, _, _⟩, _⟩ := six_cells h1
  have hlt := lt_of_block h1
  have HB0 := Lib.hid (below_new w (.cells #[.int .i64 e, .slice ao Q.length cap] 24))
  have hx : PB (w.alloc (.cells #[.int .i64 e, .slice ao Q.length cap] 24)) w.heap.size e ao Q.length cap := heap_alloc_new _ _
  have HS0 := Lib.hid (show (w.alloc (.cells #[.int .i64 e, .slice ao Q.length cap] 24)).drew.cell? ⟨r, 0, none⟩ = some (.int .i64 y.ep) ∧ (w.alloc (.cells #[.int .i64 e, .slice ao Q.length cap] 24)).drew.cell? ⟨r, 1, none⟩ = some (.slice lo y.L.length lc) ∧
      (w.alloc (.cells #[.int .i64 e, .slice ao Q.length cap] 24)).drew.cell? ⟨w.heap.size, 0, none⟩ = some (.int .i64 e) ∧ (w.alloc (.cells #[.int .i64 e, .slice ao Q.length cap] 24)).drew.cell? ⟨w.heap.size, 1, none⟩ = some (.slice ao Q.length cap) ∧
      Below w.heap.size w (w.alloc (.cells #[.int .i64 e, .slice ao Q.length cap] 24)).drew ∧ w.heap.size ≤ (w.alloc (.cells #[.int .i64 e, .slice ao Q.length cap] 24)).drew.heap.size from
    ⟨cellB HB0.out.drew hlt c0, cellB HB0.out.drew hlt c1, cellB (Below.refl _ _).drew (block_lt_of_cell hx.cells.1) hx.cells.1, cellB (Below.refl _ _).drew (block_lt_of_cell hx.cells.2) hx.cells.2, HB0.out.drew, by simp⟩)
  have HC := Lib.hid h2
  have HQ := Lib.hid hq
  have HU := Lib.hid h3
  have SM := Lib.hid (good_small h4)
  have LQ := Lib.hid lq
  have HC2 := Lib.hid (fun (W : World) (hb : Below w.heap.size w W) => cellB hb hlt c2)
  have HLT := Lib.hid hlt
  clear c0 c1 c2 hx h h1 h2 h3 h4 hq lq
  cases hn : nextB y.ep y.L e Q
  · rw [may_no hn]
    have HN := Lib.hid hn
    clear hn
    unfold ptrL
    go_enter Try.func31, Try.ntmps31
    go_wp2_with fail
    go_region_held3 (fun W => W.cell? ⟨r, 0, none⟩ = some (.int .i64 y.ep) ∧ W.cell? ⟨r, 1, none⟩ = some (.slice lo y.L.length lc) ∧ W.cell? ⟨w.heap.size, 0, none⟩ = some (.int .i64 e) ∧ W.cell? ⟨w.heap.size, 1, none⟩ = some (.slice ao Q.length cap) ∧ Below w.heap.size w W ∧ w.heap.size ≤ W.heap.size)
      (first | exact HS0.out | exact mw_on (by assumption) hb1)
      (first | (go_at_call 21; refine (rnext_any y.ep lo lc y.L e ao cap Q _ (HC.out.below (mw_b (by assumption))) (HQ.out.below (mw_b (by assumption))) SM.out LQ.out).mono ?_; rintro x w1 ⟨rfl, hb1⟩; rw [HN.out]))
    all_goals
      go_wp2_with fail
      go_ret
      rename_i hS
      exact ⟨rfl, mw_b hS⟩
  · rw [may_yes hn]
    have HN := Lib.hid hn
    have fN := units_few SM.out
    have fU := units_few LQ.out
    have HY := Lib.hid (show (∀ u ∈ (unitsR Q).take (unitsR Q).length, mayF (unitsR y.L) y.used u = true) → (unitsR Q).all (mayF (unitsR y.L) y.used) = true from fun h => by
      rw [List.take_of_length_le (Nat.le_refl _)] at h
      exact List.all_eq_true.2 h)
    have HX := Lib.hid (fun k (hk : k < (unitsR Q).length) (h : mayF (unitsR y.L) y.used (unitsR Q)[k] = false) => show (unitsR Q).all (mayF (unitsR y.L) y.used) = false from
      List.all_eq_false.2 ⟨_, List.getElem_mem hk, by rw [h]; exact Bool.false_ne_true⟩)
    have C1 := Lib.hid (fun (W : World) (hb : Below w.heap.size w W) => refUnits_any y.ep lo lc y.L W (HC.out.below hb) SM.out)
    have C2 := Lib.hid (fun (W : World) (hb : Below w.heap.size w W) => refUnits_any e ao cap Q W (HQ.out.below hb) LQ.out)
    clear hn
    generalize (unitsR Q).all (mayF (unitsR y.L) y.used) = R at *
    generalize unitsR Q = U at *
    generalize unitsR y.L = N at *
    have mU : (U.length : Int) ≤ 70000 := by omega
    unfold ptrL
    go_enter Try.func31, Try.ntmps31
    go_wp2_with fail
    go_region_held3 (fun W => W.cell? ⟨r, 0, none⟩ = some (.int .i64 y.ep) ∧ W.cell? ⟨r, 1, none⟩ = some (.slice lo y.L.length lc) ∧ W.cell? ⟨w.heap.size, 0, none⟩ = some (.int .i64 e) ∧ W.cell? ⟨w.heap.size, 1, none⟩ = some (.slice ao Q.length cap) ∧ Below w.heap.size w W ∧ w.heap.size ≤ W.heap.size)
      (first | exact HS0.out | exact mw_on (by assumption) hb1)
      (first | (go_at_call 21; refine (rnext_any y.ep lo lc y.L e ao cap Q _ (HC.out.below (mw_b (by assumption))) (HQ.out.below (mw_b (by assumption))) SM.out LQ.out).mono ?_; rintro x w1 ⟨rfl, hb1⟩; rw [HN.out]))
    all_goals
      rename_i hS
      have H1 := Lib.hid hS
      obtain ⟨p0, p1, p2, p3, _, _⟩ := hS
      clear hb1
      go_wp2_with (first
        | (go_at_call 22; refine (C2.out _ (mw_b H2.out)).mono ?_; rintro x w3 ⟨uo, uc, rfl, hN3, hb3⟩; have H3 := Lib.hid (mw_on H2.out hb3); have HNU := Lib.hid hN3; have HNN3 := Lib.hid (HNN.out.below hb3); clear hN3 hb3)
        | (go_at_call 22; refine (C1.out _ (mw_b H1.out)).mono ?_; rintro x w2 ⟨no, nc, rfl, hN2, hb2⟩; have H2 := Lib.hid (mw_on H1.out hb2); have HNN := Lib.hid hN2; obtain ⟨q0, q1, q2, q3, _, _⟩ := H2.out; clear hN2 hb2))
      have HW := Lib.hid (mw_b H3.out)
      have HUS := Lib.hid (HU.out.below HW.out)
      have k2 := HC2.out _ HW.out
      clear HB0 HS0 HC HQ HU SM LQ HC2 HN C1 C2 HNN p0 p1 p2 p3 q0 q1 q2 q3 H1 H2 H3
      generalize y.used = used at *
      go_loopw [7] (fun i wr => ∃ k q : Nat, i = .int .i64 k ∧ k ≤ U.length ∧ wr = w3.drewN q ∧ Hid (∀ u ∈ U.take k, mayF N used u = true)) (fun i _ => U.length - (intOf i).toNat)
      case atStart => exact ⟨0, 0, rfl, Nat.zero_le _, rfl, Lib.hid (fun u hu => by simp at hu)⟩
      case round =>
        obtain ⟨k, q, rfl, hk, rfl, HT⟩ := hrel
        by_cases hlt2 : k < U.length
        · obtain ⟨bk, off, rfl, c0⟩ := HNU.out.at k hlt2
          have CH := Lib.hid (fun m => quiet_lay (q := q) (n := m) (refHas_any N U[k] no nc (w3.drewN (q + m)) (HNN3.out.below (below_drewN (Below.refl _ _) _)) (by omega)))
          have CJ := Lib.hid (fun m => quiet_lay (q := q) (n := m) (refHas_any used U[k] bo cb (w3.drewN (q + m)) (HUS.out.below (below_drewN (Below.refl _ _) _)) (by omega)))
          have HT2 := Lib.hid (show mayF N used U[k] = true → ∀ u ∈ U.take (k + 1), mayF N used u = true from fun h => all_take_succ (p := fun u => mayF N used u = true) hlt2 HT.out h)
          have HXK := Lib.hid (HX.out k hlt2)
          have HF : mayF N used U[k] = (hasB N U[k] || !hasB used U[k]) := rfl
          rw [HF] at HT2 HXK
          clear HF
          generalize U[k] = u at *
          cases hN : hasB N u
          · cases hD : hasB used u
            · have HT3 := Lib.hid (HT2.out (by rw [hN, hD]; rfl))
              rw [hN] at CH
              rw [hD] at CJ
              clear hN hD HXK HT2
              go_wp2_with fail
              go_quiet (first | (go_at_call 23; with_reducible exact CH.out _) | (go_at_call 23; with_reducible exact CJ.out _))
              go_wp2_with fail
              go_roundw
              case rel => exact ⟨k + 1, q + nq, by go_num, by omega, by first | rfl | simp, HT3⟩
              case measure => simp [intOf]; omega
            · have HR := Lib.hid (HXK.out (by rw [hN, hD]; rfl))
              rw [hN] at CH
              rw [hD] at CJ
              clear hN hD HXK HT2
              go_wp2_with fail
              go_quiet (first | (go_at_call 23; with_reducible exact CH.out _) | (go_at_call 23; with_reducible exact CJ.out _))
              go_wp2_with fail
              go_ret
              rw [HR.out]
              exact ⟨rfl, below_drewN (below_drewN HW.out _) _⟩
          · have HT3 := Lib.hid (HT2.out (by rw [hN]; rfl))
            rw [hN] at CH
            clear hN HXK HT2 CJ
            go_wp2_with fail
            go_quiet (first | (go_at_call 23; exact CH.out _))
            go_wp2_with fail
            go_roundw
            case rel => exact ⟨k + 1, q + nq, by go_num, by omega, by first | rfl | simp, HT3⟩
            case measure => simp [intOf]; omega
        · obtain rfl : k = U.length := by omega
          have HR := Lib.hid (HY.out HT.out)
          go_wp2_with fail
          go_ret
          rw [HR.out]
          exact ⟨rfl, below_drewN HW.out _⟩
end Go.Proofs.Ythfbefkddnbbcaa
