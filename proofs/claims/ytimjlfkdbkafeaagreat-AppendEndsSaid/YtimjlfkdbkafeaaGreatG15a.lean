/- What the program's own Units returns. Conditions: the projection lies where the call was told, and is not too large. May a projection come next? What the document's own layout tells. Conditions: it and the projection lie where the call was told; no more than 1000000 units were noted. What the program's own Next returns. Conditions: the projections lie where the call was told, and are not too large. The program's unit in memory, and what its New, Crash, Start, Down, Epoch, Pages and coded return. No conditions but those that the statements name. Many things in memory, each of them in blocks of its own, as one thing whose blocks are theirs. Conditions: as each statement says. What the laws of places ask of the program's functions: each one's contract, as a statement (proved where the program is spoken of); that place is awake. No conditions but those that the statements name. -/
import Derived.Test.YtimjlfkdbkafeaaGreatG14b
import Derived.Test.YtimjlfkdbkafeaaGreatG14a
import Derived.Test.YtimjlfkdbkafeaaGreatG08b
import Derived.Test.YtimjlfkdbkafeaaGreatG07a
import Derived.Test.YtimjlfkdbkafeaaGreatG13a
import Derived.Test.YtimjlfkdbkafeaaGreatG11b
set_option linter.unusedVariables false
namespace Go.Proofs.YtimjlfkdbkafeaaGreat
open Go.RowKit Go.Maps
set_option maxRecDepth 20000
theorem flat_small {L : List (List Int)} (hl : L.length ≤ 255 ∧ ∀ c ∈ L, c.length ≤ 255) : L.flatten.length ≤ 70000 := by
  have h4 := flat_le L 255 hl.2
  have h5 : 255 * L.length ≤ 255 * 255 := Nat.mul_le_mul_left _ hl.1
  omega
theorem Ms.le {L : List (List Int)} {D : DataW Unit} (h : Ms L D L.flatten) : Maps.size D ≤ L.flatten.length := by
  rw [h.size]
  have h3 := (insAll_length [] L.flatten List.Pairwise.nil).1
  simpa using h3
set_option maxHeartbeats 4000000 in
theorem punitsO_any (ep : Int) (ao : Option Addr) (cap : Nat) (L : List (List Int)) (w : World) (h : CL w ao L) (hl : L.length ≤ 255 ∧ ∀ c ∈ L, c.length ≤ 255) :
    Calls Tryz.prog 75 #[.agg #[.int .i64 ep, .slice ao L.length cap]] w fun e w' => ∃ v, e = .returned v ∧ OI w' w.heap.size v (unitsR L) ∧ Below w.heap.size w w' := by
  have HB0 := Lib.hid ((Below.refl w.heap.size w).alloc (Nat.le_refl _) (.cells #[.int .i64 ep, .slice ao L.length cap] 27))
  have HC := Lib.hid (h.below HB0.out)
  have HM := Lib.hid hl
  have CM := Lib.hid (met_any ep ao cap L _ HC.out HM.out)
  have HSM := Lib.hid (flat_small hl)
  have HWF := Lib.hid (preU_wf2 h)
  clear h hl
  go_enter Tryz.func75, Tryz.ntmps75
  go_wp2_with (first
    | (go_at_call 58; refine CM.out.mono ?_; rintro e w1 ⟨b, rfl, hb, ⟨D, hD, hMs⟩, hb1⟩; obtain ⟨nn, hnn⟩ : ∃ nn, nn = L.flatten.length := ⟨_, rfl⟩; rw [← hnn] at hD; have HNN := Lib.hid hnn; have HD := Lib.hid hD; clear hnn; have HMS := Lib.hid hMs; have HB1 := Lib.hid (HB0.out.trans (hb1.mono (by simp))); have HBL := Lib.hid hD.lt; clear hb hD hMs hb1)
    | (at_range; refine wpList_range_own _ rfl _ 129 rfl 166 164 unit_law Tryz.underlying129 spotR b _ _ rfl HD.out ?_; intro w2 hrg0 hg0 hs0))
  go_frame
  have HB2 := Lib.hid (HB1.out.grown hg0 HB1.out.size (fun j hj => by cases hj))
  have hbr := HBL.out
  have hB1 := HB1.out.size
  clear hg0
  go_loopw [3] (fun v wr => ∃ (left : Lit → Bool) (cnt : Nat) (l : List Int), Hid (wr.ranges Tryz.prog 166 spotR b w1.heap.size nn D left cnt) ∧ Hid (OI wr w2.heap.size v l) ∧ Hid (Coll L.flatten left l) ∧ Hid (l.length + cnt ≤ nn) ∧ Hid (Below w.heap.size w wr) ∧ w2.heap.size ≤ wr.heap.size) (fun _ wr => wr.rangeLeft b w1.heap.size)
  case atStart => exact ⟨_, _, [], Lib.hid hrg0, Lib.hid (OI.nil _ _), Lib.hid (Coll.start HMS.out), Lib.hid (by rw [HNN.out]; have := HMS.out.le; exact (Nat.zero_add _).symm ▸ this), HB2, Nat.le_refl _⟩
  case round =>
    obtain ⟨left, cnt, l, HR, HO, HL, HN, HB, hsz⟩ := hrel
    clear hrg0
    go_wp2_with (at_next; refine wpList_next_ranges (α := Int) (β := Int × Int) _ rfl _ rfl 166 unit_law spotR (fun x => .agg #[.int .i64 x]) (fun c => .agg #[.int .i64 c.1, .int .i64 c.2]) (fun key kl hkey => by obtain ⟨u, e, _⟩ := unit_inv hkey; exact ⟨u, e⟩) (fun v y hv => by obtain ⟨i, j, e, _⟩ := spotR_inv hv; exact ⟨(i, j), e⟩) b w1.heap.size _ _ _ _ rfl HR.out ?_ ?_)
    · intro hc0 hl0
      have HX := Lib.hid (sort_units HL.out.1 (HL.out.done hl0 HWF.out HO.out.2))
      have hlen : l.length ≤ 1000000 := by have := HN.out; have := HSM.out; have := HNN.out; omega
      have CS := Lib.hid (sort_ownO (HO.out.lower (show w.heap.size ≤ w2.heap.size by omega)) hlen HB.out.size)
      rw [HX.out] at CS
      go_wp2_with (go_at_call 80; refine CS.out.mono ?_; rintro e w3 ⟨rfl, hO3, hb3⟩; have HO3 := Lib.hid hO3; have HB3 := Lib.hid (HB.out.trans hb3); clear hO3 hb3)
      go_ret
      exact ⟨_, rfl, HO3.out, HB3.out⟩
    · intro x ci cj kl y1 y2 w3 cnt3 hkey hlk hv hat hrg3 hlt hg3 hs3 hen
      obtain ⟨u, e, hwf⟩ := unit_inv hkey
      obtain rfl : x = u := unit_inj x u e
      obtain rfl : kl = klU x := Option.some.inj (hkey.symm.trans (unit_key x hwf))
      have HCO := Lib.hid (HL.out.step HMS.out hwf hlk hat)
      have HR3 := Lib.hid hrg3
      have HW := Lib.hid hwf
      have HO3 := Lib.hid (HO.out.kept hg3 (by
        cases e : u3.ownBlock with
        | none => exact .inl rfl
        | some k => exact .inr (fun e2 => by have := (HO.out.1.lt k e).1; have := Option.some.inj e2; omega)))
      have HB3 := Lib.hid (HB.out.grown hg3 HB.out.size (fun j hj => by cases hj; exact hB1))
      have hlen : l.length + 1 ≤ 1000000 := by have := HN.out; have := HSM.out; have := HNN.out; omega
      have HN3 := Lib.hid (show (l ++ [x]).length + cnt3 ≤ nn from by have := HN.out; rw [List.length_append]; simp; omega)
      have HMK := Lib.hid (show NLI ((w3.alloc (.cells #[.int .i64 x] 166)).alloc (.cells #[.int .i64 x] 3)) (some ⟨wr.heap.size + 1, 0, none⟩) 1 [x] from by
        have h1 := NLI.made (w3.alloc (.cells #[.int .i64 x] 166)) x hwf
        rw [show (w3.alloc (.cells #[.int .i64 x] 166)).heap.size = wr.heap.size + 1 from by simp [hs3]] at h1
        exact h1)
      clear e hkey hlk hv hat hrg3 hg3 hwf
      go_wp2_with (refine wpList_app_ints (o := ⟨some 16, _, _, _, _, _⟩) rfl (.tmp 12) (.tmp 15) rfl (B := w2.heap.size) (v := u3) (D := l) rfl ((HO3.out.alloc _).alloc _) (ao := some ⟨_, 0, none⟩) (cap := 1) (l := [x]) (m := 1) rfl rfl HMK.out hlen (by simp; omega) ?_; intro v7 w7 hI hg _; have HO7 := Lib.hid hI; have HR7 := Lib.hid (((HR3.out.alloc _).alloc _).kept hg (fun e => by have := (HO3.out.1.lt _ e.symm).1; omega) (fun e => by have := (HO3.out.1.lt _ e.symm).1; omega)); have HB7 := Lib.hid (((HB3.out.alloc HB3.out.size _).alloc (by have := HB3.out.size; simp; omega) _).grown hg (by have := HB3.out.size; simp; omega) (fun k e => by have := (HO3.out.1.lt k e).1; omega)); have hsz7 : w2.heap.size ≤ w7.heap.size := (by have := hg.size; simp at this; omega); clear hI hg)
      go_roundw
      case rel => exact ⟨_, cnt3, l ++ [x], HR7, HO7, HCO, HN3, HB7, hsz7⟩
      case measure => rw [HR7.out.left_eq, HR.out.left_eq]; exact hlt
theorem punits_any (ep : Int) (ao : Option Addr) (cap : Nat) (L : List (List Int)) (w : World) (h : CL w ao L) (hl : L.length ≤ 255 ∧ ∀ c ∈ L, c.length ≤ 255) :
    Calls Tryz.prog 75 #[.agg #[.int .i64 ep, .slice ao L.length cap]] w fun e w' => ∃ bo cb, e = .returned (.slice bo (unitsR L).length cb) ∧ NLI w' bo cb (unitsR L) ∧ Below w.heap.size w w' := by
  refine (punitsO_any ep ao cap L w h hl).mono ?_
  rintro e w' ⟨v, rfl, hO, hb⟩
  obtain ⟨bo, cb, e, hN, _⟩ := hO.form
  exact ⟨bo, cb, by rw [e], hN, hb⟩
end Go.Proofs.YtimjlfkdbkafeaaGreat
namespace Go.Proofs.YtimjlfkdbkafeaaGreat
set_option linter.unusedVariables false
open Go.RowKit
set_option maxRecDepth 20000
theorem quiet_lay {P : Program} {f : FuncId} {args : Array Value} {w : World} {q n : Nat} {v : Value}
    (h : Calls P f args (w.drewN (q + n)) fun e w' => e = .returned v ∧ w.drewN (q + n) = w') : Calls P f args (w.drewN (q + n)) fun e w'' => e = .returned v ∧ ∃ m, w'' = w.drewN (q + m) :=
  h.mono fun _ _ ⟨he, hm⟩ => ⟨he, n, hm.symm⟩
def mayF (N U : List Int) (u : Int) : Bool := hasB N u || !hasB U u
theorem may_no {y : Ly} {e : Int} {Q : List (List Int)} (h : nextB y.ep y.L e Q = false) : y.may e Q = false := by simp [Ly.may, h]
theorem may_yes {y : Ly} {e : Int} {Q : List (List Int)} (h : nextB y.ep y.L e Q = true) : y.may e Q = (unitsR Q).all (mayF (unitsR y.L) y.used) := by
  unfold Ly.may
  rw [h, Bool.true_and]
  rfl
theorem units_few {L : List (List Int)} (l1 : L.length ≤ 255 ∧ ∀ c ∈ L, c.length ≤ 255) : (unitsR L).length ≤ 70000 := by
  have h3 := (insAll_length [] L.flatten List.Pairwise.nil).1
  have h4 := flat_le L 255 l1.2
  have h5 : 255 * L.length ≤ 255 * 255 := Nat.mul_le_mul_left _ l1.1
  unfold unitsR
  rw [List.length_nil] at h3
  omega
section
variable {w W W' : World} {r b B : Nat} {e1 e2 : Int} {v1 v2 : Value}
theorem mw_on (h : W.cell? ⟨r, 0, none⟩ = some (.int .i64 e1) ∧ W.cell? ⟨r, 1, none⟩ = some v1 ∧ W.cell? ⟨b, 0, none⟩ = some (.int .i64 e2) ∧ W.cell? ⟨b, 1, none⟩ = some v2 ∧ Below B w W ∧ B ≤ W.heap.size) (hb : Below W.heap.size W W') :
    W'.cell? ⟨r, 0, none⟩ = some (.int .i64 e1) ∧ W'.cell? ⟨r, 1, none⟩ = some v1 ∧ W'.cell? ⟨b, 0, none⟩ = some (.int .i64 e2) ∧ W'.cell? ⟨b, 1, none⟩ = some v2 ∧ Below B w W' ∧ B ≤ W'.heap.size :=
  ⟨cellB hb (block_lt_of_cell h.1) h.1, cellB hb (block_lt_of_cell h.2.1) h.2.1, cellB hb (block_lt_of_cell h.2.2.1) h.2.2.1, cellB hb (block_lt_of_cell h.2.2.2.1) h.2.2.2.1, h.2.2.2.2.1.trans (hb.mono h.2.2.2.2.2), Nat.le_trans h.2.2.2.2.2 hb.size⟩
theorem mw_b (h : W.cell? ⟨r, 0, none⟩ = some (.int .i64 e1) ∧ W.cell? ⟨r, 1, none⟩ = some v1 ∧ W.cell? ⟨b, 0, none⟩ = some (.int .i64 e2) ∧ W.cell? ⟨b, 1, none⟩ = some v2 ∧ Below B w W ∧ B ≤ W.heap.size) : Below B w W := h.2.2.2.2.1
end
set_option maxHeartbeats 1000000 in
theorem rl_may (r : Nat) (G : Nat → Prop) (w : World) (y : Ly) (h : RL r G w y) (hu : y.used.length ≤ 1000000) (e : Int) (ao : Option Addr) (cap : Nat) (Q : List (List Int)) (hq : CL w ao Q) (lq : Q.length ≤ 255 ∧ ∀ c ∈ Q, c.length ≤ 255) :
    Calls Tryz.prog 126 #[ptrL r, .agg #[.int .i64 e, .slice ao Q.length cap]] w fun x w' => x = .returned (.bool (y.may e Q)) ∧ Below w.heap.size w w' := by
  obtain ⟨lo, lc, bo, cb, h1, h2, h3, h4⟩ := h.open
  obtain ⟨⟨c0, c1, c2, _, _, _⟩, _⟩ := six_cells h1
  have hlt := lt_of_block h1
  have HB0 := Lib.hid (below_new w (.cells #[.int .i64 e, .slice ao Q.length cap] 27))
  have hx : PB (w.alloc (.cells #[.int .i64 e, .slice ao Q.length cap] 27)) w.heap.size e ao Q.length cap := heap_alloc_new _ _
  have HS0 := Lib.hid (show (w.alloc (.cells #[.int .i64 e, .slice ao Q.length cap] 27)).drew.cell? ⟨r, 0, none⟩ = some (.int .i64 y.ep) ∧ (w.alloc (.cells #[.int .i64 e, .slice ao Q.length cap] 27)).drew.cell? ⟨r, 1, none⟩ = some (.slice lo y.L.length lc) ∧
      (w.alloc (.cells #[.int .i64 e, .slice ao Q.length cap] 27)).drew.cell? ⟨w.heap.size, 0, none⟩ = some (.int .i64 e) ∧ (w.alloc (.cells #[.int .i64 e, .slice ao Q.length cap] 27)).drew.cell? ⟨w.heap.size, 1, none⟩ = some (.slice ao Q.length cap) ∧
      Below w.heap.size w (w.alloc (.cells #[.int .i64 e, .slice ao Q.length cap] 27)).drew ∧ w.heap.size ≤ (w.alloc (.cells #[.int .i64 e, .slice ao Q.length cap] 27)).drew.heap.size from
    ⟨cellB HB0.out.drew hlt c0, cellB HB0.out.drew hlt c1, cellB (Below.refl _ _).drew (block_lt_of_cell hx.cells.1) hx.cells.1, cellB (Below.refl _ _).drew (block_lt_of_cell hx.cells.2) hx.cells.2, HB0.out.drew, by simp⟩)
  have HC := Lib.hid h2
  have HQ := Lib.hid hq
  have HU := Lib.hid h3
  have SM := Lib.hid (good_small h4)
  have LQ := Lib.hid lq
  have HC2 := Lib.hid (fun (W : World) (hb : Below w.heap.size w W) => cellB hb hlt c2)
  have HLT := Lib.hid hlt
  clear c0 c1 c2 hx h h1 h2 h3 h4 hq lq
  cases hn : nextB y.ep y.L e Q
  · rw [may_no hn]
    have HN := Lib.hid hn
    clear hn
    unfold ptrL
    go_enter Tryz.func126, Tryz.ntmps126
    go_wp2_with fail
    go_region_held3 (fun W => W.cell? ⟨r, 0, none⟩ = some (.int .i64 y.ep) ∧ W.cell? ⟨r, 1, none⟩ = some (.slice lo y.L.length lc) ∧ W.cell? ⟨w.heap.size, 0, none⟩ = some (.int .i64 e) ∧ W.cell? ⟨w.heap.size, 1, none⟩ = some (.slice ao Q.length cap) ∧ Below w.heap.size w W ∧ w.heap.size ≤ W.heap.size)
      (first | exact HS0.out | exact mw_on (by assumption) hb1)
      (first | (go_at_call 130; refine (rnext_any y.ep lo lc y.L e ao cap Q _ (HC.out.below (mw_b (by assumption))) (HQ.out.below (mw_b (by assumption))) SM.out LQ.out).mono ?_; rintro x w1 ⟨rfl, hb1⟩; rw [HN.out]))
    all_goals
      go_wp2_with fail
      go_ret
      rename_i hS
      exact ⟨rfl, mw_b hS⟩
  · rw [may_yes hn]
    have HN := Lib.hid hn
    have fN := units_few SM.out
    have fU := units_few LQ.out
    have HY := Lib.hid (show (∀ u ∈ (unitsR Q).take (unitsR Q).length, mayF (unitsR y.L) y.used u = true) → (unitsR Q).all (mayF (unitsR y.L) y.used) = true from fun h => by
      rw [List.take_of_length_le (Nat.le_refl _)] at h
      exact List.all_eq_true.2 h)
    have HX := Lib.hid (fun k (hk : k < (unitsR Q).length) (h : mayF (unitsR y.L) y.used (unitsR Q)[k] = false) => show (unitsR Q).all (mayF (unitsR y.L) y.used) = false from
      List.all_eq_false.2 ⟨_, List.getElem_mem hk, by rw [h]; exact Bool.false_ne_true⟩)
    have C1 := Lib.hid (fun (W : World) (hb : Below w.heap.size w W) => refUnits_any y.ep lo lc y.L W (HC.out.below hb) SM.out)
    have C2 := Lib.hid (fun (W : World) (hb : Below w.heap.size w W) => refUnits_any e ao cap Q W (HQ.out.below hb) LQ.out)
    clear hn
    generalize (unitsR Q).all (mayF (unitsR y.L) y.used) = R at *
    generalize unitsR Q = U at *
    generalize unitsR y.L = N at *
    have mU : (U.length : Int) ≤ 70000 := by omega
    unfold ptrL
    go_enter Tryz.func126, Tryz.ntmps126
    go_wp2_with fail
    go_region_held3 (fun W => W.cell? ⟨r, 0, none⟩ = some (.int .i64 y.ep) ∧ W.cell? ⟨r, 1, none⟩ = some (.slice lo y.L.length lc) ∧ W.cell? ⟨w.heap.size, 0, none⟩ = some (.int .i64 e) ∧ W.cell? ⟨w.heap.size, 1, none⟩ = some (.slice ao Q.length cap) ∧ Below w.heap.size w W ∧ w.heap.size ≤ W.heap.size)
      (first | exact HS0.out | exact mw_on (by assumption) hb1)
      (first | (go_at_call 130; refine (rnext_any y.ep lo lc y.L e ao cap Q _ (HC.out.below (mw_b (by assumption))) (HQ.out.below (mw_b (by assumption))) SM.out LQ.out).mono ?_; rintro x w1 ⟨rfl, hb1⟩; rw [HN.out]))
    all_goals
      rename_i hS
      have H1 := Lib.hid hS
      obtain ⟨p0, p1, p2, p3, _, _⟩ := hS
      clear hb1
      go_wp2_with (first
        | (go_at_call 46; refine (C2.out _ (mw_b H2.out)).mono ?_; rintro x w3 ⟨uo, uc, rfl, hN3, hb3⟩; have H3 := Lib.hid (mw_on H2.out hb3); have HNU := Lib.hid hN3; have HNN3 := Lib.hid (HNN.out.below hb3); clear hN3 hb3)
        | (go_at_call 46; refine (C1.out _ (mw_b H1.out)).mono ?_; rintro x w2 ⟨no, nc, rfl, hN2, hb2⟩; have H2 := Lib.hid (mw_on H1.out hb2); have HNN := Lib.hid hN2; obtain ⟨q0, q1, q2, q3, _, _⟩ := H2.out; clear hN2 hb2))
      have HW := Lib.hid (mw_b H3.out)
      have HUS := Lib.hid (HU.out.below HW.out)
      have k2 := HC2.out _ HW.out
      clear HB0 HS0 HC HQ HU SM LQ HC2 HN C1 C2 HNN p0 p1 p2 p3 q0 q1 q2 q3 H1 H2 H3
      generalize y.used = used at *
      go_loopw [7] (fun i wr => ∃ k q : Nat, i = .int .i64 k ∧ k ≤ U.length ∧ wr = w3.drewN q ∧ Hid (∀ u ∈ U.take k, mayF N used u = true)) (fun i _ => U.length - (intOf i).toNat)
      case atStart => exact ⟨0, 0, rfl, Nat.zero_le _, rfl, Lib.hid (fun u hu => by simp at hu)⟩
      case round =>
        obtain ⟨k, q, rfl, hk, rfl, HT⟩ := hrel
        by_cases hlt2 : k < U.length
        · obtain ⟨bk, off, rfl, c0⟩ := HNU.out.at k hlt2
          have CH := Lib.hid (fun m => quiet_lay (q := q) (n := m) (refHas_any N U[k] no nc (w3.drewN (q + m)) (HNN3.out.below (below_drewN (Below.refl _ _) _)) (by omega)))
          have CJ := Lib.hid (fun m => quiet_lay (q := q) (n := m) (refHas_any used U[k] bo cb (w3.drewN (q + m)) (HUS.out.below (below_drewN (Below.refl _ _) _)) (by omega)))
          have HT2 := Lib.hid (show mayF N used U[k] = true → ∀ u ∈ U.take (k + 1), mayF N used u = true from fun h => all_take_succ (p := fun u => mayF N used u = true) hlt2 HT.out h)
          have HXK := Lib.hid (HX.out k hlt2)
          have HF : mayF N used U[k] = (hasB N U[k] || !hasB used U[k]) := rfl
          rw [HF] at HT2 HXK
          clear HF
          generalize U[k] = u at *
          cases hN : hasB N u
          · cases hD : hasB used u
            · have HT3 := Lib.hid (HT2.out (by rw [hN, hD]; rfl))
              rw [hN] at CH
              rw [hD] at CJ
              clear hN hD HXK HT2
              go_wp2_with fail
              go_quiet (first | (go_at_call 131; with_reducible exact CH.out _) | (go_at_call 131; with_reducible exact CJ.out _))
              go_wp2_with fail
              go_roundw
              case rel => exact ⟨k + 1, q + nq, by go_num, by omega, by first | rfl | simp, HT3⟩
              case measure => simp [intOf]; omega
            · have HR := Lib.hid (HXK.out (by rw [hN, hD]; rfl))
              rw [hN] at CH
              rw [hD] at CJ
              clear hN hD HXK HT2
              go_wp2_with fail
              go_quiet (first | (go_at_call 131; with_reducible exact CH.out _) | (go_at_call 131; with_reducible exact CJ.out _))
              go_wp2_with fail
              go_ret
              rw [HR.out]
              exact ⟨rfl, below_drewN (below_drewN HW.out _) _⟩
          · have HT3 := Lib.hid (HT2.out (by rw [hN]; rfl))
            rw [hN] at CH
            clear hN HXK HT2 CJ
            go_wp2_with fail
            go_quiet (first | (go_at_call 131; exact CH.out _))
            go_wp2_with fail
            go_roundw
            case rel => exact ⟨k + 1, q + nq, by go_num, by omega, by first | rfl | simp, HT3⟩
            case measure => simp [intOf]; omega
        · obtain rfl : k = U.length := by omega
          have HR := Lib.hid (HY.out HT.out)
          go_wp2_with fail
          go_ret
          rw [HR.out]
          exact ⟨rfl, below_drewN HW.out _⟩
end Go.Proofs.YtimjlfkdbkafeaaGreat
namespace Go.Proofs.YtimjlfkdbkafeaaGreat
open Go.RowKit Go.Maps
set_option maxRecDepth 20000
set_option maxHeartbeats 2000000 in
theorem pnext_no (e1 : Int) (ao1 : Option Addr) (c1 : Nat) (L1 : List (List Int)) (e2 : Int) (ao2 : Option Addr) (c2 : Nat) (L2 : List (List Int)) (w : World) (h1 : CL w ao1 L1) (h2 : CL w ao2 L2)
    (l1 : L1.length ≤ 255 ∧ ∀ c ∈ L1, c.length ≤ 255) (l2 : L2.length ≤ 255 ∧ ∀ c ∈ L2, c.length ≤ 255) (hno : goodB e1 L1 = false ∨ goodB e2 L2 = false ∨ e2 ≠ e1 + 1 ∨ L2.length ≠ L1.length) :
    Calls Tryz.prog 158 #[.agg #[.int .i64 e1, .slice ao1 L1.length c1], .agg #[.int .i64 e2, .slice ao2 L2.length c2]] w fun e w' => e = .returned (.bool false) ∧ Below w.heap.size w w' := by
  have HB0 := Lib.hid (((Below.refl w.heap.size w).alloc (Nat.le_refl _) (.cells #[.int .i64 e1, .slice ao1 L1.length c1] 27)).alloc (by simp) (.cells #[.int .i64 e2, .slice ao2 L2.length c2] 27))
  have HP := Lib.hid (PB.two w e1 e2 ao1 ao2 L1.length L2.length c1 c2)
  have H1 := Lib.hid (h1.below HB0.out)
  have H2 := Lib.hid (h2.below HB0.out)
  have M1 := Lib.hid l1
  have M2 := Lib.hid l2
  have m1 : (L1.length : Int) ≤ 255 := by omega
  have m2 : (L2.length : Int) ≤ 255 := by omega
  have CG := Lib.hid (pgood_any e1 ao1 c1 L1 _ H1.out M1.out)
  clear h1 h2 l1 l2
  by_cases g1 : goodB e1 L1 = false
  · rw [g1] at CG
    clear hno g1
    go_enter Tryz.func158, Tryz.ntmps158
    go_wp2_with (go_at_call 33; refine CG.out.mono ?_; rintro e w1 ⟨rfl, hb1⟩)
    go_ret
    exact ⟨rfl, HB0.out.trans (hb1.mono HB0.out.size)⟩
  have g1' : goodB e1 L1 = true := by simpa using g1
  obtain ⟨⟨x1, x2⟩, _⟩ := goodB_iff.1 g1'
  rw [g1'] at CG
  have CQ := Lib.hid (fun (w1 : World) hb => pgood_any e2 ao2 c2 L2 w1 (H2.out.below hb) M2.out)
  by_cases g2 : goodB e2 L2 = false
  · rw [g2] at CQ
    clear hno g1 g1' g2
    go_enter Tryz.func158, Tryz.ntmps158
    go_wp2_with (first | (go_at_call 33; with_reducible refine (CQ.out _ HBX.out).mono ?_; rintro e w2 ⟨rfl, hb2⟩) | (go_at_call 33; refine CG.out.mono ?_; rintro e w1 ⟨rfl, hb1⟩; obtain ⟨y0, y1⟩ := (HP.out.2.below hb1).cells; have HBX := Lib.hid hb1; clear hb1))
    go_ret
    exact ⟨rfl, (HB0.out.trans (HBX.out.mono HB0.out.size)).trans (hb2.mono (Nat.le_trans HB0.out.size HBX.out.size))⟩
  have g2' : goodB e2 L2 = true := by simpa using g2
  obtain ⟨⟨z1, z2⟩, _⟩ := goodB_iff.1 g2'
  rw [g2'] at CQ
  by_cases q : e2 = e1 + 1
  · have d1 : (e2 != e1 + 1) = false := bne_eq_false_iff_eq.2 q
    have hq : L2.length ≠ L1.length := by
      rcases hno with h | h | h | h
      · exact absurd h g1
      · exact absurd h g2
      · exact absurd q h
      · exact h
    have d2 : ((L2.length : Int) != (L1.length : Int)) = true := bne_iff_ne.2 (by omega)
    clear hno g1 g1' g2 g2' q hq
    go_enter Tryz.func158, Tryz.ntmps158
    go_wp2_with (first | (go_at_call 33; with_reducible refine (CQ.out _ HBX.out).mono ?_; rintro e w2 ⟨rfl, hb2⟩; obtain ⟨v0, v1⟩ := ((HP.out.1.below HBX.out).below hb2).cells; obtain ⟨v2, v3⟩ := ((HP.out.2.below HBX.out).below hb2).cells) | (go_at_call 33; refine CG.out.mono ?_; rintro e w1 ⟨rfl, hb1⟩; obtain ⟨y0, y1⟩ := (HP.out.2.below hb1).cells; have HBX := Lib.hid hb1; clear hb1))
    go_ret
    exact ⟨rfl, (HB0.out.trans (HBX.out.mono HB0.out.size)).trans (hb2.mono (Nat.le_trans HB0.out.size HBX.out.size))⟩
  · have d1 : (e2 != e1 + 1) = true := bne_iff_ne.2 q
    clear hno g1 g1' g2 g2' q
    go_enter Tryz.func158, Tryz.ntmps158
    go_wp2_with (first | (go_at_call 33; with_reducible refine (CQ.out _ HBX.out).mono ?_; rintro e w2 ⟨rfl, hb2⟩; obtain ⟨v0, v1⟩ := ((HP.out.1.below HBX.out).below hb2).cells; obtain ⟨v2, v3⟩ := ((HP.out.2.below HBX.out).below hb2).cells) | (go_at_call 33; refine CG.out.mono ?_; rintro e w1 ⟨rfl, hb1⟩; obtain ⟨y0, y1⟩ := (HP.out.2.below hb1).cells; have HBX := Lib.hid hb1; clear hb1))
    go_ret
    exact ⟨rfl, (HB0.out.trans (HBX.out.mono HB0.out.size)).trans (hb2.mono (Nat.le_trans HB0.out.size HBX.out.size))⟩
theorem good_rows {ep : Int} {L : List (List Int)} (h : goodB ep L = true) {n : Nat} (hn : n < L.length) : ∀ i j (hi : i < L[n].length) (hj : j < L[n].length), L[n][i] = L[n][j] → i = j :=
  fun _ _ hi hj e => row_one (goodB_iff.1 h).2.2.2 hn hi hj e
set_option maxHeartbeats 4000000 in
theorem pnext_yes (e1 : Int) (ao1 : Option Addr) (c1 : Nat) (L1 : List (List Int)) (e2 : Int) (ao2 : Option Addr) (c2 : Nat) (L2 : List (List Int)) (w : World) (h1 : CL w ao1 L1) (h2 : CL w ao2 L2)
    (l1 : L1.length ≤ 255 ∧ ∀ c ∈ L1, c.length ≤ 255) (l2 : L2.length ≤ 255 ∧ ∀ c ∈ L2, c.length ≤ 255) (g1 : goodB e1 L1 = true) (g2 : goodB e2 L2 = true) (q : e2 = e1 + 1) (hq : L2.length = L1.length) :
    Calls Tryz.prog 158 #[.agg #[.int .i64 e1, .slice ao1 L1.length c1], .agg #[.int .i64 e2, .slice ao2 L2.length c2]] w fun e w' => e = .returned (.bool ((L1.zip L2).all (fun c => seqB (unitsR L1) c.1 c.2 c.1 false))) ∧ Below w.heap.size w w' := by
  have HB0 := Lib.hid (((Below.refl w.heap.size w).alloc (Nat.le_refl _) (.cells #[.int .i64 e1, .slice ao1 L1.length c1] 27)).alloc (by simp) (.cells #[.int .i64 e2, .slice ao2 L2.length c2] 27))
  have HP := Lib.hid (PB.two w e1 e2 ao1 ao2 L1.length L2.length c1 c2)
  have H1 := Lib.hid (h1.below HB0.out)
  have H2 := Lib.hid (h2.below HB0.out)
  have M1 := Lib.hid l1
  have M2 := Lib.hid l2
  have m1 : (L1.length : Int) ≤ 255 := by omega
  have m2 : (L2.length : Int) ≤ 255 := by omega
  have CG := Lib.hid (pgood_any e1 ao1 c1 L1 _ H1.out M1.out)
  have CQ := Lib.hid (fun (w1 : World) hb => pgood_any e2 ao2 c2 L2 w1 (H2.out.below hb) M2.out)
  have CM := Lib.hid (fun (w1 : World) hb => met_any e1 ao1 c1 L1 w1 (H1.out.below hb) M1.out)
  have HG1 := Lib.hid (goodB_iff.1 g1).2.2.2
  have HG2 := Lib.hid (fun n h => @good_rows e2 L2 g2 n h)
  obtain ⟨⟨x1, x2⟩, _⟩ := goodB_iff.1 g1
  rw [g1] at CG
  rw [g2] at CQ
  have d1 : (e2 != e1 + 1) = false := bne_eq_false_iff_eq.2 q
  have d2 : ((L2.length : Int) != (L1.length : Int)) = false := bne_eq_false_iff_eq.2 (by omega)
  have HQ := Lib.hid hq
  have HNO := Lib.hid (fun k h1 h2 => @zip_no L1 L2 (fun c => seqB (unitsR L1) c.1 c.2 c.1 false) k h1 h2)
  have HYES := Lib.hid (@zip_yes L1 L2 (fun c => seqB (unitsR L1) c.1 c.2 c.1 false))
  have CF := Lib.hid (fun (k : Nat) (hk1 : k < L1.length) (hk : k < L2.length) (ai : Option Addr) (ci b : Nat) (w1 : World) (hN : NLI w1 ai ci L2[k]) (hM : Mt w1 b L1 L1.flatten) => follows_any L2[k] ai ci k b L1 w1 hk1 hN hM HG1.out (HG2.out k hk) (M2.out.2 _ (List.getElem_mem hk)))
  clear h1 h2 l1 l2 g1 g2 q hq
  dsimp only at HNO HYES ⊢
  generalize (L1.zip L2).all (fun c => seqB (unitsR L1) c.1 c.2 c.1 false) = R at *
  generalize unitsR L1 = U at *
  go_enter Tryz.func158, Tryz.ntmps158
  go_wp2_with (first
    | (go_at_call 33; with_reducible refine (CQ.out _ HBX.out).mono ?_; rintro e w2 ⟨rfl, hb2⟩; have HBY := Lib.hid (HBX.out.trans (hb2.mono HBX.out.size)); obtain ⟨v0, v1⟩ := (HP.out.1.below HBY.out).cells; obtain ⟨v2, v3⟩ := (HP.out.2.below HBY.out).cells; clear hb2)
    | (go_at_call 33; refine CG.out.mono ?_; rintro e w1 ⟨rfl, hb1⟩; obtain ⟨y0, y1⟩ := (HP.out.2.below hb1).cells; have HBX := Lib.hid hb1; clear hb1)
    | (go_at_call 58; refine (CM.out _ HBY.out).mono ?_; rintro e w3 ⟨b, rfl, hb, hM, hb3⟩; have HBZ := Lib.hid (HBY.out.trans (hb3.mono HBY.out.size)); have HM := Lib.hid hM; obtain ⟨t2, t3⟩ := (HP.out.2.below HBZ.out).cells; clear v0 v1 v2 v3 hb hM hb3))
  have HW := Lib.hid (HB0.out.trans (HBZ.out.mono HB0.out.size))
  have C2 := Lib.hid (H2.out.below HBZ.out)
  clear y0 y1 CG CQ CM H1 H2 HBX HBY
  go_loopw [38] (fun i wr => ∃ k : Nat, i = .int .i64 k ∧ k ≤ L2.length ∧ Hid (Below w3.heap.size w3 wr) ∧ Hid (∀ i, i < k → ∀ (h1 : i < L1.length) (h2 : i < L2.length), seqB U L1[i] L2[i] L1[i] false = true)) (fun i _ => L2.length - (intOf i).toNat)
  case atStart => exact ⟨0, rfl, Nat.zero_le _, Lib.hid (Below.refl _ _), Lib.hid (fun i hi => absurd hi (Nat.not_lt_zero i))⟩
  case round =>
    obtain ⟨k, rfl, hk, HB, HA⟩ := hrel
    have HWR := Lib.hid (HW.out.trans (HB.out.mono HW.out.size))
    by_cases hlt : k < L2.length
    · have hlt1 : k < L1.length := by have := HQ.out; omega
      obtain ⟨bk2, off2, bi, di, hao2, c02, hN2⟩ := (C2.out.below HB.out) k hlt
      subst hao2
      have k1 : (k : Int) < (L2.length : Int) := by omega
      have HNK := Lib.hid (HNO.out k hlt1 hlt)
      have HAK := Lib.hid (show seqB U L1[k] L2[k] L1[k] false = true → ∀ i, i < k + 1 → ∀ (h1 : i < L1.length) (h2 : i < L2.length), seqB U L1[i] L2[i] L1[i] false = true from fun e i hi h1 h2 => by
        by_cases e2 : i = k
        · subst e2; exact e
        · exact HA.out i (by omega) h1 h2)
      have CK := Lib.hid (CF.out k hlt1 hlt bi di b wr hN2 (HM.out.below HB.out))
      clear hN2 d1 d2
      generalize seqB U L1[k] L2[k] L1[k] false = Ri at *
      cases Ri with
      | true =>
        have HAK2 := Lib.hid (HAK.out rfl)
        go_wp2_with (go_at_call 160; refine CK.out.mono ?_; rintro e w4 ⟨rfl, hb4⟩; have HB4 := Lib.hid (HB.out.trans (hb4.mono HB.out.size)); clear hb4)
        go_roundw
        case rel => exact ⟨k + 1, by go_num, by omega, HB4, HAK2⟩
        case measure => simp [intOf]; omega
      | false =>
        have HX := Lib.hid (HNK.out rfl)
        go_wp2_with (go_at_call 160; refine CK.out.mono ?_; rintro e w4 ⟨rfl, hb4⟩; have HB4 := Lib.hid (HWR.out.trans (hb4.mono HWR.out.size)); clear hb4)
        go_ret
        rw [HX.out]
        exact ⟨rfl, HB4.out⟩
    · obtain rfl : k = L2.length := by omega
      have HX := Lib.hid (HYES.out (fun i hi h1 h2 => HA.out i h2 h1 h2))
      go_wp2_with fail
      go_ret
      rw [HX.out]
      exact ⟨rfl, HWR.out⟩
theorem pnext_any (e1 : Int) (ao1 : Option Addr) (c1 : Nat) (L1 : List (List Int)) (e2 : Int) (ao2 : Option Addr) (c2 : Nat) (L2 : List (List Int)) (w : World) (h1 : CL w ao1 L1) (h2 : CL w ao2 L2)
    (l1 : L1.length ≤ 255 ∧ ∀ c ∈ L1, c.length ≤ 255) (l2 : L2.length ≤ 255 ∧ ∀ c ∈ L2, c.length ≤ 255) :
    Calls Tryz.prog 158 #[.agg #[.int .i64 e1, .slice ao1 L1.length c1], .agg #[.int .i64 e2, .slice ao2 L2.length c2]] w fun e w' => e = .returned (.bool (nextB e1 L1 e2 L2)) ∧ Below w.heap.size w w' := by
  by_cases hno : goodB e1 L1 = false ∨ goodB e2 L2 = false ∨ e2 ≠ e1 + 1 ∨ L2.length ≠ L1.length
  · rw [show nextB e1 L1 e2 L2 = false from by
      unfold nextB
      rcases hno with h | h | h | h
      · rw [h]; rfl
      · rw [h]; simp
      · simp [h]
      · simp [h]]
    exact pnext_no e1 ao1 c1 L1 e2 ao2 c2 L2 w h1 h2 l1 l2 hno
  · have g1 : goodB e1 L1 = true := by
      cases e : goodB e1 L1
      · exact absurd (.inl e) hno
      · rfl
    have g2 : goodB e2 L2 = true := by
      cases e : goodB e2 L2
      · exact absurd (.inr (.inl e)) hno
      · rfl
    have q : e2 = e1 + 1 := by
      by_cases e : e2 = e1 + 1
      · exact e
      · exact absurd (.inr (.inr (.inl e))) hno
    have hq : L2.length = L1.length := by
      by_cases e : L2.length = L1.length
      · exact e
      · exact absurd (.inr (.inr (.inr e))) hno
    rw [show nextB e1 L1 e2 L2 = (L1.zip L2).all (fun c => seqB (unitsR L1) c.1 c.2 c.1 false) from by
      unfold nextB
      rw [g1, g2]
      simp [q, hq]]
    exact pnext_yes e1 ao1 c1 L1 e2 ao2 c2 L2 w h1 h2 l1 l2 g1 g2 q hq
end Go.Proofs.YtimjlfkdbkafeaaGreat
namespace Go.Proofs.YtimjlfkdbkafeaaGreat
set_option linter.unusedVariables false
open Go.RowKit
set_option maxRecDepth 20000
/-- block b is the program's unit, block q its pages -/
def UM (b q : Nat) (G : Nat → Prop) (w : World) (u : Us) : Prop :=
  (u.p.Ok ∧ i64w u.epoch) ∧ w.heap[b]? = some (.cells #[ptrV q, .int .i64 u.epoch, .bool u.down] 101 (0, 0)) ∧ G b ∧ ∃ F : Nat → Prop, PGm F w q u.p ∧ (∀ k, F k → G k) ∧ ¬ F b ∧ ∀ k, G k → F k ∨ k = b
theorem um_thing (b q : Nat) : Thing (UM b q) where
  lt := by
    rintro G w u ⟨_, h1, _, F, h3, _, _, h6⟩ k hk
    rcases h6 k hk with h | h
    · exact h3.lt k h
    · rw [h]; exact lt_of_block h1
  keep := by
    rintro G S w w' u ⟨h0, h1, h2, F, h3, h4, h5, h6⟩ hk hS
    exact ⟨h0, hk.heap (hS b h2) h1, h2, F, h3.keep hk (fun k hf => hS k (h4 k hf)), h4, h5, h6⟩
section
variable {w : World} {b q : Nat} {G : Nat → Prop} {u : Us}
theorem UM.cells (h : UM b q G w u) : w.heap[b]? = some (.cells #[.pointer (some ⟨q, 0, none⟩), .int .i64 u.epoch, .bool u.down] 101 (0, 0)) := h.2.1
theorem UM.small (h : UM b q G w u) : b < w.heap.size := lt_of_block h.2.1
/-- a call on the pages -/
theorem UM.ready (h : UM b q G w u) : ∃ F : Nat → Prop, PGm F w q u.p ∧ u.p.Ok ∧ ∀ W2 p', p'.Ok → Left PGm F w W2 q p' → Leaves (UM b q) G w W2 ⟨p', u.epoch, u.down⟩ := by
  obtain ⟨⟨k1, k2⟩, k3, k4, F, k5, k6, k7, k8⟩ := h
  refine ⟨F, k5, k1, fun W2 p' hok hl => ?_⟩
  obtain ⟨F', r1, r2, r3⟩ := hl
  have hb := lt_of_block k3
  refine ⟨fun k => F' k ∨ k = b, ⟨⟨hok, k2⟩, r2.heap k7 k3, .inr rfl, F', r1, fun k hk => .inl hk, fun hf => ?_, fun k hk => hk⟩, ?_, fun k hk => ?_⟩
  · rcases r3 b hf with h3 | h3
    · exact k7 h3
    · omega
  · exact ⟨r2.os, r2.tape, r2.output, r2.size, fun k hg hkl => r2.block k (fun hf => hg (k6 k hf)) hkl⟩
  · rcases hk with hk | hk
    · exact (r3 k hk).imp (fun h => k6 k h) id
    · exact .inl (hk ▸ k4)
/-- the unit's epoch is another -/
theorem UM.seal (h : UM b q G w u) {ep : Int} (he : i64w ep) : Leaves (UM b q) G w (w.setCell ⟨b, 1, none⟩ (.int .i64 ep)) ⟨u.p, ep, u.down⟩ := by
  obtain ⟨⟨k1, k2⟩, k3, k4, F, k5, k6, k7, k8⟩ := h
  have hk : Kept (fun k => k ≠ b) w (w.setCell ⟨b, 1, none⟩ (.int .i64 ep)) := (Kept.refl _ w).setCell (p := ⟨b, 1, none⟩) (fun h => h rfl) _
  exact ⟨G, ⟨⟨k1, he⟩, three_set1 k3 _, k4, F, k5.keep hk (fun k hf e => k7 (e ▸ hf)), k6, k7, k8⟩, hk.mono (fun k hg e => hg (e ▸ k4)), fun k hk => .inl hk⟩
/-- it is down, or up -/
theorem UM.turn (h : UM b q G w u) (d : Bool) : Leaves (UM b q) G w (w.setCell ⟨b, 2, none⟩ (.bool d)) ⟨u.p, u.epoch, d⟩ := by
  obtain ⟨k0, k3, k4, F, k5, k6, k7, k8⟩ := h
  have hk : Kept (fun k => k ≠ b) w (w.setCell ⟨b, 2, none⟩ (.bool d)) := (Kept.refl _ w).setCell (p := ⟨b, 2, none⟩) (fun h => h rfl) _
  exact ⟨G, ⟨k0, three_set2 k3 _, k4, F, k5.keep hk (fun k hf e => k7 (e ▸ hf)), k6, k7, k8⟩, hk.mono (fun k hg e => hg (e ▸ k4)), fun k hk => .inl hk⟩
end
theorem un_new_yes (room : Int) (w : World) (h : 1 ≤ room ∧ room ≤ 4096) :
    Calls Tryz.prog 49 #[.int .i64 room] w fun e w' => ∃ (b q : Nat) (G : Nat → Prop), e = .returned (.tuple #[ptrV b, .int .i64 0]) ∧ UM b q G w' (newU room) ∧ (∀ k, G k → w.heap.size ≤ k) ∧ Below w.heap.size w w' := by
  have CN := Lib.hid (pnew_yes room w h)
  have HN := Lib.hid (newP_ok h)
  go_enter Tryz.func49, Tryz.ntmps49
  go_wp2_with (go_at_call 68; refine CN.out.mono ?_; rintro e w1 ⟨q, F, rfl, hg1, hg2, hb1⟩; have HG := Lib.hid hg1; have HF := Lib.hid hg2; have HB := Lib.hid hb1; clear hg1 hb1 hg2)
  go_ret2
  have hlt := HG.out.lt
  have hnf : ¬ F w1.heap.size := fun hf => Nat.lt_irrefl _ (hlt _ hf)
  have hb2 : Below w1.heap.size w1 (w1.alloc (.cells #[.pointer (some ⟨q, 0, none⟩), .int .i64 0, .bool false] 101)) := (Below.refl _ _).alloc (Nat.le_refl _) _
  refine ⟨w1.heap.size, q, fun k => F k ∨ k = w1.heap.size, rfl, ⟨⟨HN.out, WalkArith.wf_i64 (n := 0) (by decide)⟩, heap_alloc_new _ _, .inr rfl, F, HG.out.keep (Kept.ofBelow hb2 (fun _ => True)) (fun _ _ => trivial), fun k hk => .inl hk, hnf, fun k hk => hk⟩, fun k hk => ?_, HB.out.alloc HB.out.size _⟩
  rcases hk with h | h
  · exact HF.out k h
  · rw [h]; exact HB.out.size
theorem un_new_no (room : Int) (w : World) (h : room < 1 ∨ 4096 < room) (hr : i64w room) :
    Calls Tryz.prog 49 #[.int .i64 room] w fun e w' => e = .returned (.tuple #[.pointer none, .int .i64 1]) ∧ Below w.heap.size w w' := by
  have CN := Lib.hid (pnew_no room w h)
  clear h
  go_enter Tryz.func49, Tryz.ntmps49
  go_wp2_with (go_at_call 68; refine CN.out.mono ?_; rintro e w1 ⟨rfl, hb1⟩; have HB := Lib.hid hb1; clear hb1)
  go_ret2
  exact ⟨rfl, HB.out⟩
theorem un_pages (b q : Nat) (G : Nat → Prop) (w : World) (u : Us) (h : UM b q G w u) :
    Calls Tryz.prog 19 #[.pointer (some ⟨b, 0, none⟩)] w fun e w' => e = .returned (ptrV q) ∧ w = w' := by
  have hb := h.small
  obtain ⟨c0, c1, c2, f0, f1, f2⟩ := three_cells h.cells
  clear h
  go_enter Tryz.func19, Tryz.ntmps19
  go_wp2
  go_ret
  exact ⟨rfl, rfl⟩
theorem un_pages_nil (w : World) : Calls Tryz.prog 19 #[.pointer none] w fun e w' => e = .returned (.pointer none) ∧ w = w' := by
  go_enter Tryz.func19, Tryz.ntmps19
  go_wp2
  go_ret
  exact ⟨rfl, rfl⟩
theorem coded_any (c : Int) (w : World) : Calls Tryz.prog 136 #[.int .i64 c] w fun e w' => e = .returned (anV c 0 noS 0) ∧ Below w.heap.size w w' := by
  go_enter Tryz.func136, Tryz.ntmps136
  go_wp2
  exact ans_ret (x := anP c 0 noS 0) (ao := none) (cap := 0) rfl (heap_alloc_new _ _) rfl rfl ⟨rfl, (Below.refl _ _).alloc (Nat.le_refl _) _⟩
end Go.Proofs.YtimjlfkdbkafeaaGreat
namespace Go.Proofs.YtimjlfkdbkafeaaGreat
set_option linter.unusedVariables false
open Go.RowKit
set_option maxRecDepth 20000
/-- the things T 0 .. T (n - 1), in blocks of their own that are all of G -/
def BundG (n : Nat) (T : Nat → (Nat → Prop) → World → Prop) (G : Nat → Prop) (w : World) : Prop :=
  ∃ F : Nat → Nat → Prop, (∀ i, i < n → T i (F i) w) ∧ (∀ i j, i < n → j < n → i ≠ j → ∀ k, F i k → ¬ F j k) ∧ ∀ k, G k ↔ ∃ i, i < n ∧ F i k
section
variable {n i : Nat} {T : Nat → (Nat → Prop) → World → Prop} {U : (Nat → Prop) → World → Prop} {G C : Nat → Prop} {w w' : World}
theorem BundG.lt (hT : ∀ i, i < n → Part (T i)) (h : BundG n T G w) : ∀ k, G k → k < w.heap.size := by
  obtain ⟨F, h1, h2, h3⟩ := h
  intro k hk
  obtain ⟨i, hi, hf⟩ := (h3 k).1 hk
  exact (hT i hi).lt (h1 i hi) k hf
theorem BundG.keep (hT : ∀ i, i < n → Part (T i)) (h : BundG n T G w) {S : Nat → Prop} (hk : Kept S w w') (hS : ∀ k, G k → S k) : BundG n T G w' := by
  obtain ⟨F, h1, h2, h3⟩ := h
  exact ⟨F, fun i hi => (hT i hi).keep (h1 i hi) hk (fun k hf => hS k ((h3 k).2 ⟨i, hi, hf⟩)), h2, h3⟩
theorem BundG.same {T2 : Nat → (Nat → Prop) → World → Prop} (h : BundG n T G w) (e : ∀ i, i < n → ∀ F W, T i F W → T2 i F W) : BundG n T2 G w := by
  obtain ⟨F, h1, h2, h3⟩ := h
  exact ⟨F, fun i hi => e i hi _ _ (h1 i hi), h2, h3⟩
theorem BundG.look (h : BundG n T G w) (hi : i < n) : ∃ F, T i F w ∧ ∀ k, F k → G k := by
  obtain ⟨F, h1, h2, h3⟩ := h
  exact ⟨F i, h1 i hi, fun k hf => (h3 k).2 ⟨i, hi, hf⟩⟩
/-- one of them has turned, in its own blocks and new ones; C: new memory that was handed out besides -/
theorem bundg_turn {F : Nat → Nat → Prop} {F' : Nat → Prop} (hT : ∀ i, i < n → Part (T i)) (h1 : ∀ i, i < n → T i (F i) w) (h2 : ∀ i j, i < n → j < n → i ≠ j → ∀ k, F i k → ¬ F j k) (h3 : ∀ k, G k ↔ ∃ i, i < n ∧ F i k) (hi : i < n) (hC : ∀ k, C k → w.heap.size ≤ k)
    (r1 : U F' w') (r2 : ∀ k, C k → ¬ F' k) (r3 : Kept (fun k => ¬ F i k) w w') (r4 : ∀ k, F' k → F i k ∨ w.heap.size ≤ k) :
    ∃ G' : Nat → Prop, BundG n (swapP T i U) G' w' ∧ (∀ k, C k → ¬ G' k) ∧ Kept (fun k => ¬ G k) w w' ∧ ∀ k, G' k → G k ∨ w.heap.size ≤ k := by
  refine ⟨fun k => ∃ j, j < n ∧ (if j = i then F' else F j) k, ⟨fun j => if j = i then F' else F j, fun j hj => ?_, fun j l hj hl hne k hf hg => ?_, fun k => Iff.rfl⟩, ?_, r3.mono (fun k hn hf => hn ((h3 k).2 ⟨i, hi, hf⟩)), ?_⟩
  · unfold swapP
    by_cases e : j = i
    · simp only [e, if_true]
      exact r1
    · simp only [e, if_false]
      exact (hT j hj).keep (h1 j hj) r3 (fun k hf hg => h2 j i hj hi e k hf hg)
  · by_cases e : j = i
    · have e2 : l ≠ i := fun h => hne (e.trans h.symm)
      simp only [e, if_true] at hf
      simp only [e2, if_false] at hg
      rcases r4 k hf with h | h
      · exact h2 i l hi hl (fun h => e2 h.symm) k h hg
      · have := (hT l hl).lt (h1 l hl) k hg; omega
    · simp only [e, if_false] at hf
      by_cases e2 : l = i
      · simp only [e2, if_true] at hg
        rcases r4 k hg with h | h
        · exact h2 j i hj hi e k hf h
        · have := (hT j hj).lt (h1 j hj) k hf; omega
      · simp only [e2, if_false] at hg
        exact h2 j l hj hl hne k hf hg
  · rintro k hk ⟨j, hj, hf⟩
    by_cases e : j = i
    · simp only [e, if_true] at hf
      exact r2 k hk hf
    · simp only [e, if_false] at hf
      have := (hT j hj).lt (h1 j hj) k hf
      have := hC k hk
      omega
  · rintro k ⟨j, hj, hf⟩
    by_cases e : j = i
    · simp only [e, if_true] at hf
      rcases r4 k hf with h | h
      · exact .inl ((h3 k).2 ⟨i, hi, h⟩)
      · exact .inr h
    · simp only [e, if_false] at hf
      exact .inl ((h3 k).2 ⟨j, hj, hf⟩)
/-- a question that one of them answers, as one to all of them: S is what they are together, s' what behind it -/
theorem bundg_tells {α β : Type} {V : (Nat → Prop) → World → α → Prop} {N : (Nat → Prop) → World → β → Prop} {v' : α} {s' : β} {x : An} {P : Program} {fn : FuncId} {args : Array Value} (hT : ∀ i, i < n → Part (T i)) (h : BundG n T G w) (hi : i < n)
    (hN : ∀ G' W, BundG n (swapP T i (fun F W => V F W v')) G' W → N G' W s') (hc : ∀ F : Nat → Prop, T i F w → (∀ k, F k → G k) → Calls P fn args w fun e w' => Tells V F w v' x e w') : Calls P fn args w fun e w' => Tells N G w s' x e w' := by
  obtain ⟨F, h1, h2, h3⟩ := h
  refine (hc (F i) (h1 i hi) (fun k hf => (h3 k).2 ⟨i, hi, hf⟩)).mono ?_
  rintro e w' ⟨ao, cap, C, he, hC1, hC2, F', r1, r2, r3, r4⟩
  obtain ⟨G', s1, s2, s3, s4⟩ := bundg_turn (U := fun F W => V F W v') hT h1 h2 h3 hi (fun k hk => (hC2 k hk).1) r1 r2 r3 r4
  exact ⟨ao, cap, C, he, hC1, hC2, G', hN G' w' s1, s2, s3, s4⟩
/-- one more is made, in new memory -/
theorem BundG.more (hT : ∀ i, i < n → Part (T i)) (h : BundG n T G w) (hb : Below w.heap.size w w') {H : Nat → Prop} (hu : U H w') (hH : ∀ k, H k → w.heap.size ≤ k) : BundG (n + 1) (swapP T n U) (fun k => G k ∨ H k) w' := by
  obtain ⟨F, h1, h2, h3⟩ := h
  have hold : ∀ j, j < n → T j (F j) w' := fun j hj => (hT j hj).keep (h1 j hj) (Kept.ofBelow hb (fun _ => True)) (fun _ _ => trivial)
  refine ⟨fun j => if j = n then H else F j, fun j hj => ?_, fun j l hj hl hne k hf hg => ?_, fun k => ⟨fun hk => ?_, ?_⟩⟩
  · unfold swapP
    by_cases e : j = n
    · simp only [e, if_true]
      exact hu
    · simp only [e, if_false]
      exact hold j (by omega)
  · by_cases e : j = n
    · have e2 : l ≠ n := fun h => hne (e.trans h.symm)
      simp only [e, if_true] at hf
      simp only [e2, if_false] at hg
      have := (hT l (by omega)).lt (h1 l (by omega)) k hg
      have := hH k hf
      omega
    · simp only [e, if_false] at hf
      by_cases e2 : l = n
      · simp only [e2, if_true] at hg
        have := (hT j (by omega)).lt (h1 j (by omega)) k hf
        have := hH k hg
        omega
      · simp only [e2, if_false] at hg
        exact h2 j l (by omega) (by omega) hne k hf hg
  · rcases hk with hk | hk
    · obtain ⟨j, hj, hf⟩ := (h3 k).1 hk
      exact ⟨j, by omega, by show (if j = n then H else F j) k; rw [if_neg (by omega)]; exact hf⟩
    · exact ⟨n, by omega, by show (if n = n then H else F n) k; rw [if_pos rfl]; exact hk⟩
  · rintro ⟨j, hj, hf⟩
    by_cases e : j = n
    · rw [if_pos e] at hf
      exact .inr hf
    · rw [if_neg e] at hf
      exact .inl ((h3 k).2 ⟨j, by omega, hf⟩)
end
end Go.Proofs.YtimjlfkdbkafeaaGreat
namespace Go.Proofs.YtimjlfkdbkafeaaGreat
open Go.RowKit
set_option maxRecDepth 20000
def i64 (a : Int) : Prop := -9223372036854775808 ≤ a ∧ a ≤ 9223372036854775807
/-- the place of an address, and whether there is one -/
def ofV (ep : Int) (L : List (List Int)) (a : Int) : Value := .tuple #[.agg #[.int .i64 (ofC ep L a), .int .i64 (ofP ep L a)], .bool (ofB ep L a)]
def addrV (ep : Int) (L : List (List Int)) (c p : Int) : Value := .tuple #[.int .i64 (max (addrR ep L c p) 0), .bool (decide (0 ≤ addrR ep L c p))]
/-- the program's functions return what is said here -/
structure PlaceSays : Prop where
  of : ∀ (ep : Int) (ao : Option Addr) (cap : Nat) (L : List (List Int)) (a : Int) (w : World), Told w ao cap L → Small L → i64 ep → i64 a →
    Calls Tryz.prog 60 #[.agg #[.int .i64 ep, .slice ao L.length cap], .int .i64 a] w fun e w' => e = .returned (ofV ep L a) ∧ Below w.heap.size w w'
  addr : ∀ (ep : Int) (ao : Option Addr) (cap : Nat) (L : List (List Int)) (c p : Int) (w : World), Told w ao cap L → Small L → i64 ep → i64 c → i64 p →
    Calls Tryz.prog 0 #[.agg #[.int .i64 ep, .slice ao L.length cap], .agg #[.int .i64 c, .int .i64 p]] w fun e w' => e = .returned (addrV ep L c p) ∧ Below w.heap.size w w'
  chain : ∀ (ep : Int) (ao : Option Addr) (cap : Nat) (L : List (List Int)) (a : Int) (w : World), Told w ao cap L → Small L → i64 ep → i64 a →
    Calls Tryz.prog 61 #[.agg #[.int .i64 ep, .slice ao L.length cap], .int .i64 a] w fun e w' => ∃ bo cb, e = .returned (.slice bo (chainR ep L a).length cb) ∧ NLI w' bo cb (chainR ep L a) ∧ Below w.heap.size w w'
  tail : ∀ (ep : Int) (ao : Option Addr) (cap : Nat) (L : List (List Int)) (b : Nat) (K : List (Int × Int)) (w : World), Told w ao cap L → Small L → i64 ep → Tm w b K → K.length ≤ 30 → (∀ e ∈ K, i64 e.1 ∧ i64 e.2) →
    Calls Tryz.prog 0 #[.agg #[.int .i64 ep, .slice ao L.length cap], .map (some b)] w fun e w' => e = .returned (.int .i64 (tailR ep L K)) ∧ Below w.heap.size w w'
  below : ∀ (ep : Int) (ao : Option Addr) (cap : Nat) (L : List (List Int)) (a c : Int) (w : World), Told w ao cap L → Small L → i64 ep → i64 a → i64 c →
    Calls Tryz.prog 0 #[.agg #[.int .i64 ep, .slice ao L.length cap], .int .i64 a, .int .i64 c] w fun e w' => e = .returned (.int .i64 (belowR ep L a c)) ∧ Below w.heap.size w w'
/-- the laws' example -/
def exL : List (List Int) := [[0, 1], [2]]
theorem exL_facts : ofV 0 exL 5 = .tuple #[.agg #[.int .i64 1, .int .i64 2], .bool true] ∧ addrV 0 exL 1 2 = .tuple #[.int .i64 5, .bool true] ∧ tailR 0 exL [(2, 3)] = 6 ∧ belowR 0 exL 5 0 = 3 := by
  have h1 : ofC 0 exL 5 = 1 ∧ ofP 0 exL 5 = 2 ∧ ofB 0 exL 5 = true ∧ addrR 0 exL 1 2 = 5 ∧ tailR 0 exL [(2, 3)] = 6 ∧ belowR 0 exL 5 0 = 3 := by decide +kernel
  obtain ⟨a, b, c, d, e, f⟩ := h1
  unfold ofV addrV
  rw [a, b, c, d]
  exact ⟨rfl, rfl, e, f⟩
theorem exL_small : Small exL := by
  unfold Small exL
  decide
theorem lay8_eq (w : World) : ((((w.alloc (.cells #[.int .i64 0, .int .i64 1] 3)).alloc (.cells #[.int .i64 2] 3)).alloc (.cells #[.slice (some ⟨w.heap.size, 0, none⟩) 2 2, .slice (some ⟨w.heap.size + 1, 0, none⟩) 1 1] 24)).alloc (.cells #[.int .i64 0, .slice (some ⟨w.heap.size + 1 + 1, 0, none⟩) 2 2] 27)) = layP w 0 [0, 1] [2] := by
  simp [layP]
theorem lay8_told (w W : World) (h : W = layP w 0 [0, 1] [2]) :
    Told W (some ⟨w.heap.size + 1 + 1, 0, none⟩) 2 exL ∧ PB W (w.heap.size + 1 + 1 + 1) 0 (some ⟨w.heap.size + 1 + 1, 0, none⟩) 2 2 ∧ Below w.heap.size w W ∧ W.heap.size = w.heap.size + 4 := by
  subst h
  obtain ⟨p1, p2⟩ := layP_told w 0 [0, 1] [2] (fun u hu => WalkArith.wf_i64 (by simp at hu; omega)) (fun u hu => WalkArith.wf_i64 (by simp at hu; omega))
  exact ⟨p1, p2, layP_below w 0 [0, 1] [2], layP_size w 0 [0, 1] [2]⟩
end Go.Proofs.YtimjlfkdbkafeaaGreat
