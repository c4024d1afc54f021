/- What the document's own Next returns. Conditions: the projections lie where the call was told, and are not too large. -/
import Derived.Test.YtphigibhgldnpaaGreatG12b
import Derived.Test.YtphigibhgldnpaaGreatG08b
set_option linter.unusedVariables false
namespace Go.Proofs.YtphigibhgldnpaaGreat
set_option linter.unusedVariables false
open Go.RowKit
set_option maxRecDepth 20000

theorem zip_no {L1 L2 : List (List Int)} {f : List Int × List Int → Bool} {k : Nat} (h1 : k < L1.length) (h2 : k < L2.length) (h : f (L1[k], L2[k]) = false) : (L1.zip L2).all f = false := by
  rw [Bool.eq_false_iff]
  intro e
  have hm : (L1[k], L2[k]) ∈ L1.zip L2 := by
    have : (L1.zip L2)[k]'(by rw [List.length_zip]; omega) = (L1[k], L2[k]) := List.getElem_zip
    rw [← this]
    exact List.getElem_mem _
  rw [List.all_eq_true.1 e _ hm] at h
  cases h
theorem zip_yes {L1 L2 : List (List Int)} {f : List Int × List Int → Bool} (h : ∀ i, i < L1.length → ∀ (h1 : i < L1.length) (h2 : i < L2.length), f (L1[i], L2[i]) = true) : (L1.zip L2).all f = true := by
  rw [List.all_eq_true]
  intro c hc
  obtain ⟨i, hi, rfl⟩ := List.getElem_of_mem hc
  rw [List.length_zip] at hi
  rw [List.getElem_zip]
  exact h i (by omega) (by omega) (by omega)
def outB (U : List Int) (l : List Int) : Bool := l.all (fun y => !decide (y ∈ U))
theorem seq_end {U old now rest : List Int} {y : Nat} (h : ¬ ∃ h : y < now.length, now[y] ∈ old) : seqB U old (now.drop y) rest (decide (0 < y)) = (decide (0 < y) && outB U (now.drop y)) := by
  by_cases hy : y < now.length
  · rw [List.drop_eq_getElem_cons hy]
    show (if now[y] ∈ old then _ else _) = _
    rw [if_neg (fun e => h ⟨hy, e⟩)]
    rfl
  · rw [List.drop_of_length_le (by omega)]
    show decide (0 < y) = _
    simp [outB]
theorem seq_step {U old now rest : List Int} {y : Nat} {m : Bool} (hy : y < now.length) (hz : now[y] ∈ old) : seqB U old (now.drop y) rest m = match rest.dropWhile (fun t => t != now[y]) with | [] => false | _ :: r => seqB U old (now.drop (y + 1)) r true := by
  rw [List.drop_eq_getElem_cons hy]
  show (if now[y] ∈ old then _ else _) = _
  rw [if_pos hz]
  rfl
theorem seq_found {U old now rest r : List Int} {y : Nat} {m : Bool} {t : Int} (hy : y < now.length) (hz : now[y] ∈ old) (h : rest.dropWhile (fun t => t != now[y]) = t :: r) : seqB U old (now.drop y) rest m = seqB U old (now.drop (y + 1)) r (decide (0 < y + 1)) := by
  rw [seq_step hy hz, h]
  simp
theorem seq_lost {U old now rest : List Int} {y : Nat} {m : Bool} (hy : y < now.length) (hz : now[y] ∈ old) (h : rest.dropWhile (fun t => t != now[y]) = []) : seqB U old (now.drop y) rest m = false := by
  rw [seq_step hy hz, h]
theorem drop_at {l : List Int} {x : Nat} (h : x < l.length) {p : Int → Bool} (e : p l[x] = true) : (l.drop x).dropWhile p = (l.drop (x + 1)).dropWhile p := by
  rw [List.drop_eq_getElem_cons h, List.dropWhile_cons_of_pos e]
theorem drop_stop {l : List Int} {x : Nat} (h : x < l.length) {p : Int → Bool} (e : p l[x] = false) : (l.drop x).dropWhile p = l[x] :: l.drop (x + 1) := by
  rw [List.drop_eq_getElem_cons h, List.dropWhile_cons_of_neg (by rw [e]; decide)]
theorem out_step {U l : List Int} {y : Nat} (h : y < l.length) (e : l[y] ∉ U) : outB U (l.drop y) = outB U (l.drop (y + 1)) := by
  rw [List.drop_eq_getElem_cons h]
  show (!decide (l[y] ∈ U) && outB U (l.drop (y + 1))) = _
  rw [decide_eq_false e]
  rfl
theorem out_no {U l : List Int} {y : Nat} (h : y < l.length) (e : l[y] ∈ U) : outB U (l.drop y) = false := by
  rw [List.drop_eq_getElem_cons h]
  show (!decide (l[y] ∈ U) && outB U (l.drop (y + 1))) = _
  rw [decide_eq_true e]
  rfl
set_option maxHeartbeats 8000000 in
theorem rnext_yes (e1 : Int) (ao1 : Option Addr) (c1 : Nat) (L1 : List (List Int)) (e2 : Int) (ao2 : Option Addr) (c2 : Nat) (L2 : List (List Int)) (w : World) (h1 : CL w ao1 L1) (h2 : CL w ao2 L2)
    (l1 : L1.length ≤ 255 ∧ ∀ c ∈ L1, c.length ≤ 255) (l2 : L2.length ≤ 255 ∧ ∀ c ∈ L2, c.length ≤ 255) (g1 : goodB e1 L1 = true) (g2 : goodB e2 L2 = true) (q : e2 = e1 + 1) (hq : L2.length = L1.length) :
    Calls Tryz.prog 71 #[.agg #[.int .i64 e1, .slice ao1 L1.length c1], .agg #[.int .i64 e2, .slice ao2 L2.length c2]] w fun e w' => e = .returned (.bool ((L1.zip L2).all (fun c => seqB (unitsR L1) c.1 c.2 c.1 false))) ∧ Below w.heap.size w w' := by
  have HB0 := Lib.hid (((Below.refl w.heap.size w).alloc (Nat.le_refl _) (.cells #[.int .i64 e1, .slice ao1 L1.length c1] 24)).alloc (by simp) (.cells #[.int .i64 e2, .slice ao2 L2.length c2] 24))
  have HP := Lib.hid (PB.two w e1 e2 ao1 ao2 L1.length L2.length c1 c2)
  have H1 := Lib.hid (h1.below HB0.out)
  have H2 := Lib.hid (h2.below HB0.out)
  have M1 := Lib.hid l1
  have M2 := Lib.hid l2
  have m1 : (L1.length : Int) ≤ 255 := by omega
  have m2 : (L2.length : Int) ≤ 255 := by omega
  have CG := Lib.hid (rgood_any e1 ao1 c1 L1 _ H1.out M1.out)
  have CQ := Lib.hid (fun (w1 : World) hb => rgood_any e2 ao2 c2 L2 w1 (H2.out.below hb) M2.out)
  obtain ⟨⟨x1, x2⟩, _⟩ := goodB_iff.1 g1
  rw [g1] at CG
  rw [g2] at CQ
  have d1 : (e2 != e1 + 1) = false := bne_eq_false_iff_eq.2 q
  have d2 : ((L2.length : Int) != (L1.length : Int)) = false := bne_eq_false_iff_eq.2 (by omega)
  have HQ := Lib.hid hq
  have HNO := Lib.hid (fun k h1 h2 => @zip_no L1 L2 (fun c => seqB (unitsR L1) c.1 c.2 c.1 false) k h1 h2)
  have HYES := Lib.hid (@zip_yes L1 L2 (fun c => seqB (unitsR L1) c.1 c.2 c.1 false))
  have HUL := Lib.hid (show (unitsR L1).length ≤ 70000 from by
    have h3 := (insAll_length [] L1.flatten List.Pairwise.nil).1
    have h4 := flat_le L1 255 l1.2
    have h5 : 255 * L1.length ≤ 255 * 255 := Nat.mul_le_mul_left _ l1.1
    unfold unitsR
    rw [List.length_nil] at h3
    omega)
  have CU := Lib.hid (fun (w1 : World) hb => refUnits_any e1 ao1 c1 L1 w1 (H1.out.below hb) M1.out)
  clear h1 h2 l1 l2 g1 g2 q hq
  dsimp only at HNO HYES ⊢
  generalize (L1.zip L2).all (fun c => seqB (unitsR L1) c.1 c.2 c.1 false) = R at *
  generalize unitsR L1 = U at *
  go_enter Tryz.func71, Tryz.ntmps71
  go_wp2_with (first
    | (go_at_call 48; with_reducible refine (CQ.out _ HBX.out).mono ?_; rintro e w2 ⟨rfl, hb2⟩; have HBY := Lib.hid (HBX.out.trans (hb2.mono HBX.out.size)); obtain ⟨v0, v1⟩ := (HP.out.1.below HBY.out).cells; obtain ⟨v2, v3⟩ := (HP.out.2.below HBY.out).cells; clear hb2)
    | (go_at_call 48; refine CG.out.mono ?_; rintro e w1 ⟨rfl, hb1⟩; obtain ⟨y0, y1⟩ := (HP.out.2.below hb1).cells; have HBX := Lib.hid hb1; clear hb1)
    | (go_at_call 49; refine (CU.out _ HBY.out).mono ?_; rintro e w3 ⟨bo, cb, rfl, hN, hb3⟩; have HBZ := Lib.hid (HBY.out.trans (hb3.mono HBY.out.size)); have HN := Lib.hid hN; obtain ⟨t0, t1⟩ := (HP.out.1.below HBZ.out).cells; obtain ⟨t2, t3⟩ := (HP.out.2.below HBZ.out).cells; clear v0 v1 v2 v3 hN hb3))
  have HW := Lib.hid (HB0.out.trans (HBZ.out.mono HB0.out.size))
  have C1 := Lib.hid (H1.out.below HBZ.out)
  have C2 := Lib.hid (H2.out.below HBZ.out)
  clear y0 y1 CG CQ CU HP H1 H2 HBX HBY
  go_loopw [6] (fun i wr => ∃ k q : Nat, i = .int .i64 k ∧ k ≤ L1.length ∧ wr = w3.drewN q ∧ Hid (∀ i, i < k → ∀ (h1 : i < L1.length) (h2 : i < L2.length), seqB U L1[i] L2[i] L1[i] false = true)) (fun i _ => L1.length - (intOf i).toNat)
  case atStart => exact ⟨0, 0, rfl, Nat.zero_le _, rfl, Lib.hid (fun i hi => absurd hi (Nat.not_lt_zero i))⟩
  case round =>
    obtain ⟨k, q, rfl, hk, rfl, HA⟩ := hrel
    by_cases hlt : k < L1.length
    · have hlt2 : k < L2.length := by have := HQ.out; omega
      obtain ⟨bk, off, ai, ci, hao, c0, hN1⟩ := C1.out k hlt
      obtain ⟨bk2, off2, bi, di, hao2, c02, hN2⟩ := C2.out k hlt2
      subst hao hao2
      have k0 : (k : Int) < (L1.length : Int) := by omega
      have k1 : (k : Int) < (L2.length : Int) := by omega
      have mo := M1.out.2 _ (List.getElem_mem hlt)
      have mn := M2.out.2 _ (List.getElem_mem hlt2)
      have HNK := Lib.hid (HNO.out k hlt hlt2)
      have HAK := Lib.hid (show seqB U L1[k] L2[k] L1[k] false = true → ∀ i, i < k + 1 → ∀ (h1 : i < L1.length) (h2 : i < L2.length), seqB U L1[i] L2[i] L1[i] false = true from fun e i hi h1 h2 => by
        by_cases e2 : i = k
        · subst e2; exact e
        · exact HA.out i (by omega) h1 h2)
      have HRI := Lib.hid (show seqB U L1[k] (L2[k].drop 0) (L1[k].drop 0) (decide (0 < 0)) = seqB U L1[k] L2[k] L1[k] false from by rw [List.drop_zero, List.drop_zero]; rfl)
      have HN1 := Lib.hid hN1
      have HN2 := Lib.hid hN2
      clear hN1 hN2 d1 d2
      generalize seqB U L1[k] L2[k] L1[k] false = Ri at *
      generalize L1[k] = old at *
      generalize L2[k] = now at *
      have mo' : (old.length : Int) ≤ 255 := by omega
      have mn' : (now.length : Int) ≤ 255 := by omega
      go_wp2_with fail
      go_quiet (fail)
      go_wp2_with fail
      go_loopw [9, 10] (fun a n wq => ∃ x y q2 : Nat, a = .int .i64 x ∧ n = .int .i64 y ∧ x ≤ old.length ∧ y ≤ now.length ∧ wq = w3.drewN q2 ∧ Hid (seqB U old (now.drop y) (old.drop x) (decide (0 < y)) = Ri)) (fun _ n _ => now.length - (intOf n).toNat)
      case atStart => exact ⟨0, 0, q + nq, rfl, rfl, Nat.zero_le _, Nat.zero_le _, by first | rfl | simp, HRI⟩
      case round =>
        obtain ⟨x, y, q2, rfl, rfl, hx, hy, rfl, HS⟩ := hrel
        clear HRI
        by_cases hyt : y < now.length
        · obtain ⟨b9, o9, hbi, c9⟩ := HN2.out.at y hyt
          subst hbi
          have y0 : (y : Int) < (now.length : Int) := by omega
          by_cases hz : now[y] ∈ old
          · have CH := Lib.hid (fun q => refHas_any old now[y] ai ci (w3.drewN q) (HN1.out.below (below_drewN (Below.refl _ _) q)) (by omega))
            rw [show hasB old now[y] = true from decide_eq_true hz] at CH
            have HF := Lib.hid (fun (r : List Int) (t : Int) (h : (old.drop x).dropWhile (fun t => t != now[y]) = t :: r) => (seq_found (U := U) (m := decide (0 < y)) hyt hz h).symm.trans HS.out)
            have HL := Lib.hid (fun (h : (old.drop x).dropWhile (fun t => t != now[y]) = []) => (seq_lost (U := U) (m := decide (0 < y)) hyt hz h).symm.trans HS.out)
            clear hz
            generalize now[y] = z at *
            go_wp2_with (go_at_call 72; refine (CH.out _).mono ?_; rintro e w' ⟨rfl, rfl⟩)
            go_loopw [9] (fun a ws => ∃ x3 q3 : Nat, a = .int .i64 x3 ∧ x3 ≤ old.length ∧ ws = w3.drewN q3 ∧ Hid ((old.drop x).dropWhile (fun t => t != z) = (old.drop x3).dropWhile (fun t => t != z))) (fun a _ => old.length - (intOf a).toNat)
            case atStart => exact ⟨x, q2, rfl, hx, rfl, Lib.hid rfl⟩
            case round =>
              obtain ⟨x3, q3, rfl, hx3, rfl, HD⟩ := hrel
              by_cases hxt : x3 < old.length
              · obtain ⟨b8, o8, hai, c8⟩ := HN1.out.at x3 hxt
                subst hai
                have z0 : (x3 : Int) < (old.length : Int) := by omega
                by_cases he : old[x3] = z
                · have HD2 := Lib.hid (HF.out (old.drop (x3 + 1)) old[x3] (HD.out.trans (drop_stop hxt (bne_eq_false_iff_eq.2 he))))
                  have b1 : (old[x3] != z) = false := bne_eq_false_iff_eq.2 he
                  have b2 : ((x3 : Int) == (old.length : Int)) = false := beq_eq_false_iff_ne.2 (by omega)
                  have b3 : (x3 == old.length) = false := beq_eq_false_iff_ne.2 (by omega)
                  generalize old[x3] = o at *
                  clear he
                  go_wp2_with fail
                  go_quiet (fail)
                  go_wp2_with fail
                  go_roundw
                  case rel => exact ⟨x3 + 1, y + 1, q3 + nq, by go_num, by go_num, by omega, by omega, by first | rfl | simp, HD2⟩
                  case measure => simp [intOf]; omega
                · have HD2 := Lib.hid (HD.out.trans (drop_at hxt (bne_iff_ne.2 he)))
                  have b1 : (old[x3] != z) = true := bne_iff_ne.2 he
                  generalize old[x3] = o at *
                  clear he
                  go_wp2_with fail
                  go_quiet (fail)
                  go_wp2_with fail
                  go_roundw
                  case rel => exact ⟨x3 + 1, q3 + nq, by go_num, by omega, by first | rfl | simp, HD2⟩
                  case measure => simp [intOf]; omega
              · have b1 : decide ((x3 : Int) < (old.length : Int)) = false := decide_eq_false (by omega)
                have b4 : decide (x3 < old.length) = false := decide_eq_false (by omega)
                have b2 : ((x3 : Int) == (old.length : Int)) = true := beq_iff_eq.2 (by omega)
                have b3 : (x3 == old.length) = true := beq_iff_eq.2 (by omega)
                have HX := Lib.hid (HNK.out ((HL.out (HD.out.trans (by rw [List.drop_of_length_le (by omega)]; rfl))).symm))
                clear hxt
                go_wp2_with fail
                go_quiet (fail)
                go_wp2_with fail
                go_ret
                rw [HX.out]
                exact ⟨rfl, below_drewN HW.out _⟩
          · have CH := Lib.hid (fun q => refHas_any old now[y] ai ci (w3.drewN q) (HN1.out.below (below_drewN (Below.refl _ _) q)) (by omega))
            rw [show hasB old now[y] = false from decide_eq_false hz] at CH
            have HE := Lib.hid ((seq_end (U := U) (rest := old.drop x) (show ¬ ∃ h : y < now.length, now[y] ∈ old from fun ⟨_, h⟩ => hz h)).symm.trans HS.out)
            clear hz
            generalize now[y] = z at *
            by_cases hy0 : y = 0
            · have HX := Lib.hid (HNK.out (HE.out.symm.trans (by rw [decide_eq_false (show ¬ 0 < y by omega)]; rfl)))
              have p0 : ((y : Int) == 0) = true := beq_iff_eq.2 (by omega)
              have p1 : (y == 0) = true := beq_iff_eq.2 hy0
              clear hy0
              go_wp2_with (go_at_call 72; refine (CH.out _).mono ?_; rintro e w' ⟨rfl, rfl⟩)
              go_ret
              rw [HX.out]
              exact ⟨rfl, below_drewN HW.out _⟩
            · have p0 : ((y : Int) == 0) = false := beq_eq_false_iff_ne.2 (by omega)
              have p1 : (y == 0) = false := beq_eq_false_iff_ne.2 hy0
              have HO := Lib.hid (show outB U (now.drop y) = Ri from by have := HE.out; rwa [decide_eq_true (show 0 < y by omega), Bool.true_and] at this)
              have CA := Lib.hid (fun u => refHas_any U u bo cb (w3.drewN q2) (HN.out.below (below_drewN (Below.refl _ _) q2)) (by have := HUL.out; omega))
              clear HE hy0
              go_wp2_with (go_at_call 72; refine (CH.out _).mono ?_; rintro e w' ⟨rfl, rfl⟩)
              go_loop [10] (fun n => ∃ y4 : Nat, n = .int .i64 y4 ∧ y4 ≤ now.length ∧ Hid (outB U (now.drop y4) = Ri)) (fun n => now.length - (intOf n).toNat)
              case atStart => exact ⟨y, rfl, hy, HO⟩
              case round =>
                obtain ⟨y4, rfl, hy4, HO4⟩ := hrel
                skip
                by_cases h4 : y4 < now.length
                · obtain ⟨b7, o7, hbi7, c7⟩ := HN2.out.at y4 h4
                  cases hbi7
                  have r0 : (y4 : Int) < (now.length : Int) := by omega
                  by_cases hin : now[y4] ∈ U
                  · have HX := Lib.hid (HNK.out (HO4.out.symm.trans (out_no h4 hin)))
                    have c4 := CA.out now[y4]
                    rw [show hasB U now[y4] = true from decide_eq_true hin] at c4
                    clear hin
                    generalize now[y4] = z4 at *
                    go_wp2_with (go_at_call 72; refine c4.mono ?_; rintro e w' ⟨rfl, rfl⟩)
                    go_ret
                    rw [HX.out]
                    exact ⟨rfl, below_drewN HW.out _⟩
                  · have HO5 := Lib.hid ((out_step h4 hin).symm.trans HO4.out)
                    have c4 := CA.out now[y4]
                    rw [show hasB U now[y4] = false from decide_eq_false hin] at c4
                    clear hin
                    generalize now[y4] = z4 at *
                    go_wp2_with (go_at_call 72; refine c4.mono ?_; rintro e w' ⟨rfl, rfl⟩)
                    go_round
                    case rel => exact ⟨y4 + 1, by go_num, by omega, HO5⟩
                    case measure => simp [intOf]; omega
                · have HT := Lib.hid (HAK.out (HO4.out.symm.trans (by rw [List.drop_of_length_le (by omega)]; rfl)))
                  go_wp2_with fail
                  go_roundw
                  case rel => exact ⟨k + 1, q2, by go_num, by omega, rfl, HT⟩
                  case measure => simp [intOf]; omega
        · have HE := Lib.hid ((seq_end (U := U) (rest := old.drop x) (show ¬ ∃ h : y < now.length, now[y] ∈ old from fun ⟨h, _⟩ => hyt h)).symm.trans HS.out)
          have y9 : decide ((y : Int) < (now.length : Int)) = false := decide_eq_false (by omega)
          have y8 : decide (y < now.length) = false := decide_eq_false (by omega)
          by_cases hy0 : y = 0
          · have HX := Lib.hid (HNK.out (HE.out.symm.trans (by rw [decide_eq_false (show ¬ 0 < y by omega)]; rfl)))
            have p0 : ((y : Int) == 0) = true := beq_iff_eq.2 (by omega)
            have p1 : (y == 0) = true := beq_iff_eq.2 hy0
            clear hy0
            go_wp2_with fail
            go_ret
            rw [HX.out]
            exact ⟨rfl, below_drewN HW.out _⟩
          · have p0 : ((y : Int) == 0) = false := beq_eq_false_iff_ne.2 (by omega)
            have p1 : (y == 0) = false := beq_eq_false_iff_ne.2 hy0
            have HO := Lib.hid (show outB U (now.drop y) = Ri from by have := HE.out; rwa [decide_eq_true (show 0 < y by omega), Bool.true_and] at this)
            have CA := Lib.hid (fun u => refHas_any U u bo cb (w3.drewN q2) (HN.out.below (below_drewN (Below.refl _ _) q2)) (by have := HUL.out; omega))
            clear HE hy0
            go_wp2_with fail
            go_loop [10] (fun n => ∃ y4 : Nat, n = .int .i64 y4 ∧ y4 ≤ now.length ∧ Hid (outB U (now.drop y4) = Ri)) (fun n => now.length - (intOf n).toNat)
            case atStart => exact ⟨y, rfl, hy, HO⟩
            case round =>
              obtain ⟨y4, rfl, hy4, HO4⟩ := hrel
              clear y8 y9
              by_cases h4 : y4 < now.length
              · obtain ⟨b7, o7, hbi7, c7⟩ := HN2.out.at y4 h4
                subst hbi7
                have r0 : (y4 : Int) < (now.length : Int) := by omega
                by_cases hin : now[y4] ∈ U
                · have HX := Lib.hid (HNK.out (HO4.out.symm.trans (out_no h4 hin)))
                  have c4 := CA.out now[y4]
                  rw [show hasB U now[y4] = true from decide_eq_true hin] at c4
                  clear hin
                  generalize now[y4] = z4 at *
                  go_wp2_with (go_at_call 72; refine c4.mono ?_; rintro e w' ⟨rfl, rfl⟩)
                  go_ret
                  rw [HX.out]
                  exact ⟨rfl, below_drewN HW.out _⟩
                · have HO5 := Lib.hid ((out_step h4 hin).symm.trans HO4.out)
                  have c4 := CA.out now[y4]
                  rw [show hasB U now[y4] = false from decide_eq_false hin] at c4
                  clear hin
                  generalize now[y4] = z4 at *
                  go_wp2_with (go_at_call 72; refine c4.mono ?_; rintro e w' ⟨rfl, rfl⟩)
                  go_round
                  case rel => exact ⟨y4 + 1, by go_num, by omega, HO5⟩
                  case measure => simp [intOf]; omega
              · have HT := Lib.hid (HAK.out (HO4.out.symm.trans (by rw [List.drop_of_length_le (by omega)]; rfl)))
                go_wp2_with fail
                go_roundw
                case rel => exact ⟨k + 1, q2, by go_num, by omega, rfl, HT⟩
                case measure => simp [intOf]; omega
    · obtain rfl : k = L1.length := by omega
      have HX := Lib.hid (HYES.out HA.out)
      go_wp2_with fail
      go_ret
      rw [HX.out]
      exact ⟨rfl, below_drewN HW.out _⟩
theorem rnext_any (e1 : Int) (ao1 : Option Addr) (c1 : Nat) (L1 : List (List Int)) (e2 : Int) (ao2 : Option Addr) (c2 : Nat) (L2 : List (List Int)) (w : World) (h1 : CL w ao1 L1) (h2 : CL w ao2 L2)
    (l1 : L1.length ≤ 255 ∧ ∀ c ∈ L1, c.length ≤ 255) (l2 : L2.length ≤ 255 ∧ ∀ c ∈ L2, c.length ≤ 255) :
    Calls Tryz.prog 71 #[.agg #[.int .i64 e1, .slice ao1 L1.length c1], .agg #[.int .i64 e2, .slice ao2 L2.length c2]] w fun e w' => e = .returned (.bool (nextB e1 L1 e2 L2)) ∧ Below w.heap.size w w' := by
  by_cases hno : goodB e1 L1 = false ∨ goodB e2 L2 = false ∨ e2 ≠ e1 + 1 ∨ L2.length ≠ L1.length
  · rw [show nextB e1 L1 e2 L2 = false from by
      unfold nextB
      rcases hno with h | h | h | h
      · rw [h]; rfl
      · rw [h]; simp
      · simp [h]
      · simp [h]]
    exact rnext_no e1 ao1 c1 L1 e2 ao2 c2 L2 w h1 h2 l1 l2 hno
  · have g1 : goodB e1 L1 = true := by
      cases e : goodB e1 L1
      · exact absurd (.inl e) hno
      · rfl
    have g2 : goodB e2 L2 = true := by
      cases e : goodB e2 L2
      · exact absurd (.inr (.inl e)) hno
      · rfl
    have q : e2 = e1 + 1 := by
      by_cases e : e2 = e1 + 1
      · exact e
      · exact absurd (.inr (.inr (.inl e))) hno
    have hq : L2.length = L1.length := by
      by_cases e : L2.length = L1.length
      · exact e
      · exact absurd (.inr (.inr (.inr e))) hno
    rw [show nextB e1 L1 e2 L2 = (L1.zip L2).all (fun c => seqB (unitsR L1) c.1 c.2 c.1 false) from by
      unfold nextB
      rw [g1, g2]
      simp [q, hq]]
    exact rnext_yes e1 ao1 c1 L1 e2 ao2 c2 L2 w h1 h2 l1 l2 g1 g2 q hq
end Go.Proofs.YtphigibhgldnpaaGreat
