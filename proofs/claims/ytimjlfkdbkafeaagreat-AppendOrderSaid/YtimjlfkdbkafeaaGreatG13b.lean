/- What the document's own Next returns. Conditions: the projections lie where the call was told, and are not too large. What the program's own Trim makes of pages. Conditions: the object lies where the call was told; its pages are as the calls make them. What the program's own 'met' returns: a map in which each unit of a projection leads to a place where it stands, and nothing else does. Conditions: the projection lies where the call was told, and is not too large. Answers that tell a projection: its chains lie in memory of their own, in no block of the thing that was asked. No conditions but those that the statements name. Chains that a statement lays out itself: one of any units, or two. Conditions: numbers of 64 bits. What the document's own Addr and Below return. Conditions: the projection lies where the call was told, and is not too large. -/
import Derived.Test.YtimjlfkdbkafeaaGreatG12a
import Derived.Test.YtimjlfkdbkafeaaGreatG08b
import Derived.Test.YtimjlfkdbkafeaaGreatG12b
import Derived.StillTailTactics
import Derived.Maps.OwnSet
import Derived.Test.YtimjlfkdbkafeaaGreatG11a
import Derived.Maps.RangeWalk
set_option linter.unusedVariables false
namespace Go.Proofs.YtimjlfkdbkafeaaGreat
set_option linter.unusedVariables false
open Go.RowKit
set_option maxRecDepth 20000

theorem zip_no {L1 L2 : List (List Int)} {f : List Int × List Int → Bool} {k : Nat} (h1 : k < L1.length) (h2 : k < L2.length) (h : f (L1[k], L2[k]) = false) : (L1.zip L2).all f = false := by
  rw [Bool.eq_false_iff]
  intro e
  have hm : (L1[k], L2[k]) ∈ L1.zip L2 := by
    have : (L1.zip L2)[k]'(by rw [List.length_zip]; omega) = (L1[k], L2[k]) := List.getElem_zip
    rw [← this]
    exact List.getElem_mem _
  rw [List.all_eq_true.1 e _ hm] at h
  cases h
theorem zip_yes {L1 L2 : List (List Int)} {f : List Int × List Int → Bool} (h : ∀ i, i < L1.length → ∀ (h1 : i < L1.length) (h2 : i < L2.length), f (L1[i], L2[i]) = true) : (L1.zip L2).all f = true := by
  rw [List.all_eq_true]
  intro c hc
  obtain ⟨i, hi, rfl⟩ := List.getElem_of_mem hc
  rw [List.length_zip] at hi
  rw [List.getElem_zip]
  exact h i (by omega) (by omega) (by omega)
def outB (U : List Int) (l : List Int) : Bool := l.all (fun y => !decide (y ∈ U))
theorem seq_end {U old now rest : List Int} {y : Nat} (h : ¬ ∃ h : y < now.length, now[y] ∈ old) : seqB U old (now.drop y) rest (decide (0 < y)) = (decide (0 < y) && outB U (now.drop y)) := by
  by_cases hy : y < now.length
  · rw [List.drop_eq_getElem_cons hy]
    show (if now[y] ∈ old then _ else _) = _
    rw [if_neg (fun e => h ⟨hy, e⟩)]
    rfl
  · rw [List.drop_of_length_le (by omega)]
    show decide (0 < y) = _
    simp [outB]
theorem seq_step {U old now rest : List Int} {y : Nat} {m : Bool} (hy : y < now.length) (hz : now[y] ∈ old) : seqB U old (now.drop y) rest m = match rest.dropWhile (fun t => t != now[y]) with | [] => false | _ :: r => seqB U old (now.drop (y + 1)) r true := by
  rw [List.drop_eq_getElem_cons hy]
  show (if now[y] ∈ old then _ else _) = _
  rw [if_pos hz]
  rfl
theorem seq_found {U old now rest r : List Int} {y : Nat} {m : Bool} {t : Int} (hy : y < now.length) (hz : now[y] ∈ old) (h : rest.dropWhile (fun t => t != now[y]) = t :: r) : seqB U old (now.drop y) rest m = seqB U old (now.drop (y + 1)) r (decide (0 < y + 1)) := by
  rw [seq_step hy hz, h]
  simp
theorem seq_lost {U old now rest : List Int} {y : Nat} {m : Bool} (hy : y < now.length) (hz : now[y] ∈ old) (h : rest.dropWhile (fun t => t != now[y]) = []) : seqB U old (now.drop y) rest m = false := by
  rw [seq_step hy hz, h]
theorem drop_at {l : List Int} {x : Nat} (h : x < l.length) {p : Int → Bool} (e : p l[x] = true) : (l.drop x).dropWhile p = (l.drop (x + 1)).dropWhile p := by
  rw [List.drop_eq_getElem_cons h, List.dropWhile_cons_of_pos e]
theorem drop_stop {l : List Int} {x : Nat} (h : x < l.length) {p : Int → Bool} (e : p l[x] = false) : (l.drop x).dropWhile p = l[x] :: l.drop (x + 1) := by
  rw [List.drop_eq_getElem_cons h, List.dropWhile_cons_of_neg (by rw [e]; decide)]
theorem out_step {U l : List Int} {y : Nat} (h : y < l.length) (e : l[y] ∉ U) : outB U (l.drop y) = outB U (l.drop (y + 1)) := by
  rw [List.drop_eq_getElem_cons h]
  show (!decide (l[y] ∈ U) && outB U (l.drop (y + 1))) = _
  rw [decide_eq_false e]
  rfl
theorem out_no {U l : List Int} {y : Nat} (h : y < l.length) (e : l[y] ∈ U) : outB U (l.drop y) = false := by
  rw [List.drop_eq_getElem_cons h]
  show (!decide (l[y] ∈ U) && outB U (l.drop (y + 1))) = _
  rw [decide_eq_true e]
  rfl
set_option maxHeartbeats 8000000 in
theorem rnext_yes (e1 : Int) (ao1 : Option Addr) (c1 : Nat) (L1 : List (List Int)) (e2 : Int) (ao2 : Option Addr) (c2 : Nat) (L2 : List (List Int)) (w : World) (h1 : CL w ao1 L1) (h2 : CL w ao2 L2)
    (l1 : L1.length ≤ 255 ∧ ∀ c ∈ L1, c.length ≤ 255) (l2 : L2.length ≤ 255 ∧ ∀ c ∈ L2, c.length ≤ 255) (g1 : goodB e1 L1 = true) (g2 : goodB e2 L2 = true) (q : e2 = e1 + 1) (hq : L2.length = L1.length) :
    Calls Tryz.prog 130 #[.agg #[.int .i64 e1, .slice ao1 L1.length c1], .agg #[.int .i64 e2, .slice ao2 L2.length c2]] w fun e w' => e = .returned (.bool ((L1.zip L2).all (fun c => seqB (unitsR L1) c.1 c.2 c.1 false))) ∧ Below w.heap.size w w' := by
  have HB0 := Lib.hid (((Below.refl w.heap.size w).alloc (Nat.le_refl _) (.cells #[.int .i64 e1, .slice ao1 L1.length c1] 27)).alloc (by simp) (.cells #[.int .i64 e2, .slice ao2 L2.length c2] 27))
  have HP := Lib.hid (PB.two w e1 e2 ao1 ao2 L1.length L2.length c1 c2)
  have H1 := Lib.hid (h1.below HB0.out)
  have H2 := Lib.hid (h2.below HB0.out)
  have M1 := Lib.hid l1
  have M2 := Lib.hid l2
  have m1 : (L1.length : Int) ≤ 255 := by omega
  have m2 : (L2.length : Int) ≤ 255 := by omega
  have CG := Lib.hid (rgood_any e1 ao1 c1 L1 _ H1.out M1.out)
  have CQ := Lib.hid (fun (w1 : World) hb => rgood_any e2 ao2 c2 L2 w1 (H2.out.below hb) M2.out)
  obtain ⟨⟨x1, x2⟩, _⟩ := goodB_iff.1 g1
  rw [g1] at CG
  rw [g2] at CQ
  have d1 : (e2 != e1 + 1) = false := bne_eq_false_iff_eq.2 q
  have d2 : ((L2.length : Int) != (L1.length : Int)) = false := bne_eq_false_iff_eq.2 (by omega)
  have HQ := Lib.hid hq
  have HNO := Lib.hid (fun k h1 h2 => @zip_no L1 L2 (fun c => seqB (unitsR L1) c.1 c.2 c.1 false) k h1 h2)
  have HYES := Lib.hid (@zip_yes L1 L2 (fun c => seqB (unitsR L1) c.1 c.2 c.1 false))
  have HUL := Lib.hid (show (unitsR L1).length ≤ 70000 from by
    have h3 := (insAll_length [] L1.flatten List.Pairwise.nil).1
    have h4 := flat_le L1 255 l1.2
    have h5 : 255 * L1.length ≤ 255 * 255 := Nat.mul_le_mul_left _ l1.1
    unfold unitsR
    rw [List.length_nil] at h3
    omega)
  have CU := Lib.hid (fun (w1 : World) hb => refUnits_any e1 ao1 c1 L1 w1 (H1.out.below hb) M1.out)
  clear h1 h2 l1 l2 g1 g2 q hq
  dsimp only at HNO HYES ⊢
  generalize (L1.zip L2).all (fun c => seqB (unitsR L1) c.1 c.2 c.1 false) = R at *
  generalize unitsR L1 = U at *
  go_enter Tryz.func130, Tryz.ntmps130
  go_wp2_with (first
    | (go_at_call 27; with_reducible refine (CQ.out _ HBX.out).mono ?_; rintro e w2 ⟨rfl, hb2⟩; have HBY := Lib.hid (HBX.out.trans (hb2.mono HBX.out.size)); obtain ⟨v0, v1⟩ := (HP.out.1.below HBY.out).cells; obtain ⟨v2, v3⟩ := (HP.out.2.below HBY.out).cells; clear hb2)
    | (go_at_call 27; refine CG.out.mono ?_; rintro e w1 ⟨rfl, hb1⟩; obtain ⟨y0, y1⟩ := (HP.out.2.below hb1).cells; have HBX := Lib.hid hb1; clear hb1)
    | (go_at_call 46; refine (CU.out _ HBY.out).mono ?_; rintro e w3 ⟨bo, cb, rfl, hN, hb3⟩; have HBZ := Lib.hid (HBY.out.trans (hb3.mono HBY.out.size)); have HN := Lib.hid hN; obtain ⟨t0, t1⟩ := (HP.out.1.below HBZ.out).cells; obtain ⟨t2, t3⟩ := (HP.out.2.below HBZ.out).cells; clear v0 v1 v2 v3 hN hb3))
  have HW := Lib.hid (HB0.out.trans (HBZ.out.mono HB0.out.size))
  have C1 := Lib.hid (H1.out.below HBZ.out)
  have C2 := Lib.hid (H2.out.below HBZ.out)
  clear y0 y1 CG CQ CU HP H1 H2 HBX HBY
  go_loopw [6] (fun i wr => ∃ k q : Nat, i = .int .i64 k ∧ k ≤ L1.length ∧ wr = w3.drewN q ∧ Hid (∀ i, i < k → ∀ (h1 : i < L1.length) (h2 : i < L2.length), seqB U L1[i] L2[i] L1[i] false = true)) (fun i _ => L1.length - (intOf i).toNat)
  case atStart => exact ⟨0, 0, rfl, Nat.zero_le _, rfl, Lib.hid (fun i hi => absurd hi (Nat.not_lt_zero i))⟩
  case round =>
    obtain ⟨k, q, rfl, hk, rfl, HA⟩ := hrel
    by_cases hlt : k < L1.length
    · have hlt2 : k < L2.length := by have := HQ.out; omega
      obtain ⟨bk, off, ai, ci, hao, c0, hN1⟩ := C1.out k hlt
      obtain ⟨bk2, off2, bi, di, hao2, c02, hN2⟩ := C2.out k hlt2
      subst hao hao2
      have k0 : (k : Int) < (L1.length : Int) := by omega
      have k1 : (k : Int) < (L2.length : Int) := by omega
      have mo := M1.out.2 _ (List.getElem_mem hlt)
      have mn := M2.out.2 _ (List.getElem_mem hlt2)
      have HNK := Lib.hid (HNO.out k hlt hlt2)
      have HAK := Lib.hid (show seqB U L1[k] L2[k] L1[k] false = true → ∀ i, i < k + 1 → ∀ (h1 : i < L1.length) (h2 : i < L2.length), seqB U L1[i] L2[i] L1[i] false = true from fun e i hi h1 h2 => by
        by_cases e2 : i = k
        · subst e2; exact e
        · exact HA.out i (by omega) h1 h2)
      have HRI := Lib.hid (show seqB U L1[k] (L2[k].drop 0) (L1[k].drop 0) (decide (0 < 0)) = seqB U L1[k] L2[k] L1[k] false from by rw [List.drop_zero, List.drop_zero]; rfl)
      have HN1 := Lib.hid hN1
      have HN2 := Lib.hid hN2
      clear hN1 hN2 d1 d2
      generalize seqB U L1[k] L2[k] L1[k] false = Ri at *
      generalize L1[k] = old at *
      generalize L2[k] = now at *
      have mo' : (old.length : Int) ≤ 255 := by omega
      have mn' : (now.length : Int) ≤ 255 := by omega
      go_wp2_with fail
      go_quiet (fail)
      go_wp2_with fail
      go_loopw [9, 10] (fun a n wq => ∃ x y q2 : Nat, a = .int .i64 x ∧ n = .int .i64 y ∧ x ≤ old.length ∧ y ≤ now.length ∧ wq = w3.drewN q2 ∧ Hid (seqB U old (now.drop y) (old.drop x) (decide (0 < y)) = Ri)) (fun _ n _ => now.length - (intOf n).toNat)
      case atStart => exact ⟨0, 0, q + nq, rfl, rfl, Nat.zero_le _, Nat.zero_le _, by first | rfl | simp, HRI⟩
      case round =>
        obtain ⟨x, y, q2, rfl, rfl, hx, hy, rfl, HS⟩ := hrel
        clear HRI
        by_cases hyt : y < now.length
        · obtain ⟨b9, o9, hbi, c9⟩ := HN2.out.at y hyt
          subst hbi
          have y0 : (y : Int) < (now.length : Int) := by omega
          by_cases hz : now[y] ∈ old
          · have CH := Lib.hid (fun q => refHas_any old now[y] ai ci (w3.drewN q) (HN1.out.below (below_drewN (Below.refl _ _) q)) (by omega))
            rw [show hasB old now[y] = true from decide_eq_true hz] at CH
            have HF := Lib.hid (fun (r : List Int) (t : Int) (h : (old.drop x).dropWhile (fun t => t != now[y]) = t :: r) => (seq_found (U := U) (m := decide (0 < y)) hyt hz h).symm.trans HS.out)
            have HL := Lib.hid (fun (h : (old.drop x).dropWhile (fun t => t != now[y]) = []) => (seq_lost (U := U) (m := decide (0 < y)) hyt hz h).symm.trans HS.out)
            clear hz
            generalize now[y] = z at *
            go_wp2_with (go_at_call 131; refine (CH.out _).mono ?_; rintro e w' ⟨rfl, rfl⟩)
            go_loopw [9] (fun a ws => ∃ x3 q3 : Nat, a = .int .i64 x3 ∧ x3 ≤ old.length ∧ ws = w3.drewN q3 ∧ Hid ((old.drop x).dropWhile (fun t => t != z) = (old.drop x3).dropWhile (fun t => t != z))) (fun a _ => old.length - (intOf a).toNat)
            case atStart => exact ⟨x, q2, rfl, hx, rfl, Lib.hid rfl⟩
            case round =>
              obtain ⟨x3, q3, rfl, hx3, rfl, HD⟩ := hrel
              by_cases hxt : x3 < old.length
              · obtain ⟨b8, o8, hai, c8⟩ := HN1.out.at x3 hxt
                subst hai
                have z0 : (x3 : Int) < (old.length : Int) := by omega
                by_cases he : old[x3] = z
                · have HD2 := Lib.hid (HF.out (old.drop (x3 + 1)) old[x3] (HD.out.trans (drop_stop hxt (bne_eq_false_iff_eq.2 he))))
                  have b1 : (old[x3] != z) = false := bne_eq_false_iff_eq.2 he
                  have b2 : ((x3 : Int) == (old.length : Int)) = false := beq_eq_false_iff_ne.2 (by omega)
                  have b3 : (x3 == old.length) = false := beq_eq_false_iff_ne.2 (by omega)
                  generalize old[x3] = o at *
                  clear he
                  go_wp2_with fail
                  go_quiet (fail)
                  go_wp2_with fail
                  go_roundw
                  case rel => exact ⟨x3 + 1, y + 1, q3 + nq, by go_num, by go_num, by omega, by omega, by first | rfl | simp, HD2⟩
                  case measure => simp [intOf]; omega
                · have HD2 := Lib.hid (HD.out.trans (drop_at hxt (bne_iff_ne.2 he)))
                  have b1 : (old[x3] != z) = true := bne_iff_ne.2 he
                  generalize old[x3] = o at *
                  clear he
                  go_wp2_with fail
                  go_quiet (fail)
                  go_wp2_with fail
                  go_roundw
                  case rel => exact ⟨x3 + 1, q3 + nq, by go_num, by omega, by first | rfl | simp, HD2⟩
                  case measure => simp [intOf]; omega
              · have b1 : decide ((x3 : Int) < (old.length : Int)) = false := decide_eq_false (by omega)
                have b4 : decide (x3 < old.length) = false := decide_eq_false (by omega)
                have b2 : ((x3 : Int) == (old.length : Int)) = true := beq_iff_eq.2 (by omega)
                have b3 : (x3 == old.length) = true := beq_iff_eq.2 (by omega)
                have HX := Lib.hid (HNK.out ((HL.out (HD.out.trans (by rw [List.drop_of_length_le (by omega)]; rfl))).symm))
                clear hxt
                go_wp2_with fail
                go_quiet (fail)
                go_wp2_with fail
                go_ret
                rw [HX.out]
                exact ⟨rfl, below_drewN HW.out _⟩
          · have CH := Lib.hid (fun q => refHas_any old now[y] ai ci (w3.drewN q) (HN1.out.below (below_drewN (Below.refl _ _) q)) (by omega))
            rw [show hasB old now[y] = false from decide_eq_false hz] at CH
            have HE := Lib.hid ((seq_end (U := U) (rest := old.drop x) (show ¬ ∃ h : y < now.length, now[y] ∈ old from fun ⟨_, h⟩ => hz h)).symm.trans HS.out)
            clear hz
            generalize now[y] = z at *
            by_cases hy0 : y = 0
            · have HX := Lib.hid (HNK.out (HE.out.symm.trans (by rw [decide_eq_false (show ¬ 0 < y by omega)]; rfl)))
              have p0 : ((y : Int) == 0) = true := beq_iff_eq.2 (by omega)
              have p1 : (y == 0) = true := beq_iff_eq.2 hy0
              clear hy0
              go_wp2_with (go_at_call 131; refine (CH.out _).mono ?_; rintro e w' ⟨rfl, rfl⟩)
              go_ret
              rw [HX.out]
              exact ⟨rfl, below_drewN HW.out _⟩
            · have p0 : ((y : Int) == 0) = false := beq_eq_false_iff_ne.2 (by omega)
              have p1 : (y == 0) = false := beq_eq_false_iff_ne.2 hy0
              have HO := Lib.hid (show outB U (now.drop y) = Ri from by have := HE.out; rwa [decide_eq_true (show 0 < y by omega), Bool.true_and] at this)
              have CA := Lib.hid (fun u => refHas_any U u bo cb (w3.drewN q2) (HN.out.below (below_drewN (Below.refl _ _) q2)) (by have := HUL.out; omega))
              clear HE hy0
              go_wp2_with (go_at_call 131; refine (CH.out _).mono ?_; rintro e w' ⟨rfl, rfl⟩)
              go_loop [10] (fun n => ∃ y4 : Nat, n = .int .i64 y4 ∧ y4 ≤ now.length ∧ Hid (outB U (now.drop y4) = Ri)) (fun n => now.length - (intOf n).toNat)
              case atStart => exact ⟨y, rfl, hy, HO⟩
              case round =>
                obtain ⟨y4, rfl, hy4, HO4⟩ := hrel
                skip
                by_cases h4 : y4 < now.length
                · obtain ⟨b7, o7, hbi7, c7⟩ := HN2.out.at y4 h4
                  cases hbi7
                  have r0 : (y4 : Int) < (now.length : Int) := by omega
                  by_cases hin : now[y4] ∈ U
                  · have HX := Lib.hid (HNK.out (HO4.out.symm.trans (out_no h4 hin)))
                    have c4 := CA.out now[y4]
                    rw [show hasB U now[y4] = true from decide_eq_true hin] at c4
                    clear hin
                    generalize now[y4] = z4 at *
                    go_wp2_with (go_at_call 131; refine c4.mono ?_; rintro e w' ⟨rfl, rfl⟩)
                    go_ret
                    rw [HX.out]
                    exact ⟨rfl, below_drewN HW.out _⟩
                  · have HO5 := Lib.hid ((out_step h4 hin).symm.trans HO4.out)
                    have c4 := CA.out now[y4]
                    rw [show hasB U now[y4] = false from decide_eq_false hin] at c4
                    clear hin
                    generalize now[y4] = z4 at *
                    go_wp2_with (go_at_call 131; refine c4.mono ?_; rintro e w' ⟨rfl, rfl⟩)
                    go_round
                    case rel => exact ⟨y4 + 1, by go_num, by omega, HO5⟩
                    case measure => simp [intOf]; omega
                · have HT := Lib.hid (HAK.out (HO4.out.symm.trans (by rw [List.drop_of_length_le (by omega)]; rfl)))
                  go_wp2_with fail
                  go_roundw
                  case rel => exact ⟨k + 1, q2, by go_num, by omega, rfl, HT⟩
                  case measure => simp [intOf]; omega
        · have HE := Lib.hid ((seq_end (U := U) (rest := old.drop x) (show ¬ ∃ h : y < now.length, now[y] ∈ old from fun ⟨h, _⟩ => hyt h)).symm.trans HS.out)
          have y9 : decide ((y : Int) < (now.length : Int)) = false := decide_eq_false (by omega)
          have y8 : decide (y < now.length) = false := decide_eq_false (by omega)
          by_cases hy0 : y = 0
          · have HX := Lib.hid (HNK.out (HE.out.symm.trans (by rw [decide_eq_false (show ¬ 0 < y by omega)]; rfl)))
            have p0 : ((y : Int) == 0) = true := beq_iff_eq.2 (by omega)
            have p1 : (y == 0) = true := beq_iff_eq.2 hy0
            clear hy0
            go_wp2_with fail
            go_ret
            rw [HX.out]
            exact ⟨rfl, below_drewN HW.out _⟩
          · have p0 : ((y : Int) == 0) = false := beq_eq_false_iff_ne.2 (by omega)
            have p1 : (y == 0) = false := beq_eq_false_iff_ne.2 hy0
            have HO := Lib.hid (show outB U (now.drop y) = Ri from by have := HE.out; rwa [decide_eq_true (show 0 < y by omega), Bool.true_and] at this)
            have CA := Lib.hid (fun u => refHas_any U u bo cb (w3.drewN q2) (HN.out.below (below_drewN (Below.refl _ _) q2)) (by have := HUL.out; omega))
            clear HE hy0
            go_wp2_with fail
            go_loop [10] (fun n => ∃ y4 : Nat, n = .int .i64 y4 ∧ y4 ≤ now.length ∧ Hid (outB U (now.drop y4) = Ri)) (fun n => now.length - (intOf n).toNat)
            case atStart => exact ⟨y, rfl, hy, HO⟩
            case round =>
              obtain ⟨y4, rfl, hy4, HO4⟩ := hrel
              clear y8 y9
              by_cases h4 : y4 < now.length
              · obtain ⟨b7, o7, hbi7, c7⟩ := HN2.out.at y4 h4
                subst hbi7
                have r0 : (y4 : Int) < (now.length : Int) := by omega
                by_cases hin : now[y4] ∈ U
                · have HX := Lib.hid (HNK.out (HO4.out.symm.trans (out_no h4 hin)))
                  have c4 := CA.out now[y4]
                  rw [show hasB U now[y4] = true from decide_eq_true hin] at c4
                  clear hin
                  generalize now[y4] = z4 at *
                  go_wp2_with (go_at_call 131; refine c4.mono ?_; rintro e w' ⟨rfl, rfl⟩)
                  go_ret
                  rw [HX.out]
                  exact ⟨rfl, below_drewN HW.out _⟩
                · have HO5 := Lib.hid ((out_step h4 hin).symm.trans HO4.out)
                  have c4 := CA.out now[y4]
                  rw [show hasB U now[y4] = false from decide_eq_false hin] at c4
                  clear hin
                  generalize now[y4] = z4 at *
                  go_wp2_with (go_at_call 131; refine c4.mono ?_; rintro e w' ⟨rfl, rfl⟩)
                  go_round
                  case rel => exact ⟨y4 + 1, by go_num, by omega, HO5⟩
                  case measure => simp [intOf]; omega
              · have HT := Lib.hid (HAK.out (HO4.out.symm.trans (by rw [List.drop_of_length_le (by omega)]; rfl)))
                go_wp2_with fail
                go_roundw
                case rel => exact ⟨k + 1, q2, by go_num, by omega, rfl, HT⟩
                case measure => simp [intOf]; omega
    · obtain rfl : k = L1.length := by omega
      have HX := Lib.hid (HYES.out HA.out)
      go_wp2_with fail
      go_ret
      rw [HX.out]
      exact ⟨rfl, below_drewN HW.out _⟩
theorem rnext_any (e1 : Int) (ao1 : Option Addr) (c1 : Nat) (L1 : List (List Int)) (e2 : Int) (ao2 : Option Addr) (c2 : Nat) (L2 : List (List Int)) (w : World) (h1 : CL w ao1 L1) (h2 : CL w ao2 L2)
    (l1 : L1.length ≤ 255 ∧ ∀ c ∈ L1, c.length ≤ 255) (l2 : L2.length ≤ 255 ∧ ∀ c ∈ L2, c.length ≤ 255) :
    Calls Tryz.prog 130 #[.agg #[.int .i64 e1, .slice ao1 L1.length c1], .agg #[.int .i64 e2, .slice ao2 L2.length c2]] w fun e w' => e = .returned (.bool (nextB e1 L1 e2 L2)) ∧ Below w.heap.size w w' := by
  by_cases hno : goodB e1 L1 = false ∨ goodB e2 L2 = false ∨ e2 ≠ e1 + 1 ∨ L2.length ≠ L1.length
  · rw [show nextB e1 L1 e2 L2 = false from by
      unfold nextB
      rcases hno with h | h | h | h
      · rw [h]; rfl
      · rw [h]; simp
      · simp [h]
      · simp [h]]
    exact rnext_no e1 ao1 c1 L1 e2 ao2 c2 L2 w h1 h2 l1 l2 hno
  · have g1 : goodB e1 L1 = true := by
      cases e : goodB e1 L1
      · exact absurd (.inl e) hno
      · rfl
    have g2 : goodB e2 L2 = true := by
      cases e : goodB e2 L2
      · exact absurd (.inr (.inl e)) hno
      · rfl
    have q : e2 = e1 + 1 := by
      by_cases e : e2 = e1 + 1
      · exact e
      · exact absurd (.inr (.inr (.inl e))) hno
    have hq : L2.length = L1.length := by
      by_cases e : L2.length = L1.length
      · exact e
      · exact absurd (.inr (.inr (.inr e))) hno
    rw [show nextB e1 L1 e2 L2 = (L1.zip L2).all (fun c => seqB (unitsR L1) c.1 c.2 c.1 false) from by
      unfold nextB
      rw [g1, g2]
      simp [q, hq]]
    exact rnext_yes e1 ao1 c1 L1 e2 ao2 c2 L2 w h1 h2 l1 l2 g1 g2 q hq
end Go.Proofs.YtimjlfkdbkafeaaGreat
namespace Go.Proofs.YtimjlfkdbkafeaaGreat
open Go.RowKit Go.Maps
set_option linter.unusedVariables false
set_option maxRecDepth 20000
theorem fromP_self {p : Ps} (h : p.Ok) {m : Int} (hm : m ≤ p.edge) : fromP p.l m = p.l := by
  unfold fromP
  rw [List.filter_eq_self]
  intro x hx
  have := (h.each x hx).1.1
  exact decide_eq_true (by omega)
theorem fromP_up (l : List Pg) (m : Int) : lessP (fromP l m) m = fromP l (m + 1) := by
  unfold lessP fromP
  rw [List.filter_filter]
  congr 1
  funext x
  by_cases h : m + 1 ≤ x.at_
  · simp [h, show m ≤ x.at_ by omega, show x.at_ ≠ m by omega]
  · by_cases h2 : x.at_ = m
    · simp [h2, show ¬ m + 1 ≤ m by omega]
    · simp [h, h2, show ¬ m ≤ x.at_ by omega]
/-- the object, between two rounds of Trim -/
def Trm (G : Nat → Prop) (w0 : World) (b mb : Nat) (p : Ps) (w : World) (m : Int) : Prop := w.heap[b]? = some (.cells #[.int .i64 p.room, .int .i64 m, .map (some mb)] 107 (0, 0)) ∧ Tp w mb (fromP p.l m) ∧ Kept (fun k => ¬ G k) w0 w
theorem Trm.drew {G : Nat → Prop} {w0 w : World} {b mb : Nat} {p : Ps} {m : Int} (h : Trm G w0 b mb p w m) : Trm G w0 b mb p w.drew m := ⟨h.1, h.2.1.keep rfl, h.2.2.drew⟩
theorem Trm.next {G : Nat → Prop} {w0 w w2 : World} {b mb n : Nat} {p : Ps} {m : Int} {D : DataW Unit} (h : Trm G w0 b mb p w m) (hne : mb ≠ b) (hb : G b) (hmb : G mb) (hM : Mp D (fromP p.l m)) (hm : (Lit.int .i64 m).wf = true)
    (hown : w2.ownsMap Tryz.prog 109 sheetR mb n (D.del (klA m))) (ht : w.mapTurned w2 mb) : Trm G w0 b mb p (w2.setCell ⟨b, 1, none⟩ (.int .i64 (m + 1))) (m + 1) := by
  obtain ⟨h1, h2, h3⟩ := h
  have hg := ht.grown
  have e1 := (hg.block b (lt_of_block h1) (fun e => hne (Option.some.inj e).symm)).trans h1
  refine ⟨three_set1 e1 _, ?_, (h3.grown hg (fun k e => by cases e; exact fun hn => hn hmb)).setCell (p := ⟨b, 1, none⟩) (fun hn => hn hb) _⟩
  have h4 := Tp.of hown (hM.del hm)
  rw [fromP_up] at h4
  exact h4.keep (Below.heap_setCell _ _ _ _ hne)
theorem Trm.done {G : Nat → Prop} {w0 w : World} {b mb : Nat} {p : Ps} {m : Int} (h : Trm G w0 b mb p w m) (hne : mb ≠ b) (hb : G b) (hmb : G mb) (hG : ∀ k, G k → k < w0.heap.size) : Left PGm G w0 w b ⟨fromP p.l m, p.room, m⟩ :=
  ⟨G, ⟨mb, h.1, h.2.1, hne, hb, hmb, fun k hk => Nat.lt_of_lt_of_le (hG k hk) h.2.2.size⟩, h.2.2, fun k hk => .inl hk⟩
set_option maxHeartbeats 8000000 in
theorem ptrim_any (G : Nat → Prop) (w : World) (b : Nat) (p : Ps) (a : Int) (h : PGm G w b p) (hok : p.Ok) (ha : -9223372036854775808 ≤ a ∧ a ≤ 9223372036854775807) :
    Calls Tryz.prog 146 #[.pointer (some ⟨b, 0, none⟩), .int .i64 a] w fun e w' => e = .returned (.int .i64 (Ps.trimE a)) ∧ Left PGm G w w' b (p.trim a) := by
  by_cases h0 : a < 0
  · have HE := Lib.hid (show Ps.trimE a = 1 from if_pos (.inl h0))
    have HP := Lib.hid (show p.trim a = p from if_neg (by rw [HE.out]; decide))
    have HS := Lib.hid (left_same h)
    clear h hok ha
    go_enter Tryz.func146, Tryz.ntmps146
    go_wp2_with fail
    go_ret
    rw [HE.out, HP.out]
    exact ⟨rfl, HS.out⟩
  have h0' : 0 ≤ a := by omega
  by_cases h1 : 4096 < a
  · have HE := Lib.hid (show Ps.trimE a = 1 from if_pos (.inr h1))
    have HP := Lib.hid (show p.trim a = p from if_neg (by rw [HE.out]; decide))
    have HS := Lib.hid (left_same h)
    clear h hok h0 ha
    go_enter Tryz.func146, Tryz.ntmps146
    go_wp2_with fail
    go_ret
    rw [HE.out, HP.out]
    exact ⟨rfl, HS.out⟩
  have h1' : a ≤ 4096 := by omega
  have HE := Lib.hid (show Ps.trimE a = 0 from if_neg (by omega))
  have HT := Lib.hid (show p.trim a = ⟨fromP p.l (max p.edge a), p.room, max p.edge a⟩ from by unfold Ps.trim; rw [if_pos HE.out]; rfl)
  obtain ⟨mb, g1, g2, g3, g4, g5, g6⟩ := h
  have HM0 := Lib.hid (show Trm G w b mb p w p.edge from ⟨g1, by rw [fromP_self hok (Int.le_refl _)]; exact g2, Kept.refl _ _⟩)
  have hed := hok.edge
  have HED := Lib.hid hed
  have HN := Lib.hid g3
  have HG1 := Lib.hid g4
  have HG2 := Lib.hid g5
  have HG3 := Lib.hid g6
  clear hok h0 h1 g1 g2 g3 g4 g5 g6 hed ha
  go_enter Tryz.func146, Tryz.ntmps146
  go_wp2_with fail
  go_loopw [] (fun wr => ∃ m : Int, p.edge ≤ m ∧ m ≤ max p.edge a ∧ Hid (Trm G w b mb p wr m)) (fun wr => (4096 - (intOf ((wr.cell? ⟨b, 1, none⟩).getD undef))).toNat)
  case atStart => exact ⟨p.edge, Int.le_refl _, by omega, HM0⟩
  case round =>
    obtain ⟨m, hm0, hm1, HM⟩ := hrel
    obtain ⟨c0, c1, c2, f0, f1, f2⟩ := three_cells HM.out.1
    have hed := HED.out
    by_cases hlt : m < a
    · have hm2 : 0 ≤ m := by omega
      have hm3 : m ≤ 4096 := by omega
      have hwf : (Lit.int .i64 m).wf = true := WalkArith.wf_i64 (by omega)
      have HMd := Lib.hid HM.out.drew
      obtain ⟨D, hD, hMp⟩ := HMd.out.2.1
      have HD := Lib.hid hD
      have HKEY := Lib.hid (pspot_key m hwf)
      have HNX := Lib.hid (fun w2 n => @Trm.next G w wr.drew w2 b mb n p m D HMd.out HN.out HG1.out HG2.out hMp hwf)
      have HBL := Lib.hid (lt_of_block HMd.out.1)
      clear hD hMp hwf
      go_wp2_with fail
      go_still_tail 9, (by kernel_rfl)
      change wpList _ _ _ _ _ wr.drew
      go_wp2_with (at_delete; refine wpList_delete_own _ rfl _ _ 105 109 rfl 104 pspot_law Tryz.underlying105 sheetR mb _ D rfl HD.out _ _ rfl HKEY.out ?_; intro w1 hown1 hturn1; have HO1 := Lib.hid hown1; have HT1 := Lib.hid hturn1; have HE1 := Lib.hid ((hturn1.grown.block b HBL.out (fun e => HN.out (Option.some.inj e).symm)).trans HMd.out.1); obtain ⟨y0, y1, y2, z0, z1, z2⟩ := three_cells HE1.out; clear hown1 hturn1 c0 c1 c2 f0 f1 f2)
      go_roundw
      case rel => exact ⟨m + 1, by omega, by omega, Lib.hid (HNX.out _ _ HO1.out HT1.out)⟩
      case measure =>
        rw [cell_of (three_set1 HE1.out (.int .i64 (m + 1))) 1, cell_of HM.out.1 1]
        simp [intOf]
        omega
    · have hmx : m = max p.edge a := by omega
      have hge : a ≤ m := by omega
      have HF := Lib.hid (HM.out.done HN.out HG1.out HG2.out HG3.out)
      clear hlt
      go_wp2_with fail
      go_ret
      rw [HE.out, HT.out, ← hmx]
      exact ⟨rfl, HF.out⟩
theorem ptrim_nil (a : Int) (w : World) : Calls Tryz.prog 146 #[.pointer none, .int .i64 a] w fun e w' => e = .returned (.int .i64 1) ∧ w = w' := by
  go_enter Tryz.func146, Tryz.ntmps146
  go_wp2_with fail
  go_ret
  exact ⟨rfl, rfl⟩
end Go.Proofs.YtimjlfkdbkafeaaGreat
namespace Go.Proofs.YtimjlfkdbkafeaaGreat
open Go.RowKit Go.Maps
set_option maxRecDepth 20000
theorem unit_key_row : (166 : TypeId) < Tryz.prog.types.size := of_decide_eq_true (by kernel_rfl)
theorem unit_law : Keyed Tryz.prog 166 := Keyed.of_law (deep_law_laid laidOut (m := 2) (by omega) unit_key_row (by kernel_rfl) (by rw [Tryz.underlying166]))
/-- a unit as a key -/
def klU (u : Int) : Lit := .string (keyBytes [.int .i64 u])
theorem types_succ : ∃ n, Tryz.prog.types.size = n + 1 := ⟨Tryz.prog.types.size - 1, by have h := Nat.lt_of_le_of_lt (Nat.zero_le _) unit_key_row; exact (Nat.succ_pred_eq_of_pos h).symm⟩
theorem unit_key (u : Int) (hu : (Lit.int .i64 u).wf = true) : keyOf Tryz.prog 166 (.agg #[.int .i64 u]) = some (klU u) := by
  obtain ⟨n, hn⟩ := types_succ
  exact key_one Tryz.underlying166 (by kernel_rfl) (by rfl) rfl (by kernel_rfl) Tryz.underlying3 (by kernel_rfl) hn hu
theorem unit_inj (u v : Int) (h : (Value.agg #[Value.int .i64 u]) = .agg #[.int .i64 v]) : u = v := by simpa using h
theorem klU_inj {u v : Int} (hu : (Lit.int .i64 u).wf = true) (hv : (Lit.int .i64 v).wf = true) (h : klU u = klU v) : u = v :=
  unit_inj u v (unit_law.inj (unit_key u hu) (h ▸ unit_key v hv))
theorem klU_key {u : Int} (hu : (Lit.int .i64 u).wf = true) : WideAt.IsKeyLit (klU u) := unit_law.key (unit_key u hu)
/-- a place: in which chain, how far behind its beginning -/
def spotD (i j : Int) : DataW Unit := .agg [.lit (.int .i64 i), .lit (.int .i64 j)]
def spotR : Value → Option (DataW Unit × List MemPlace)
  | .agg a => match a.toList with
    | [.int .i64 i, .int .i64 j] => some (spotD i j, [])
    | _ => none
  | _ => none
theorem spotR_mk (i j : Int) : spotR (.agg #[.int .i64 i, .int .i64 j]) = some (spotD i j, []) := rfl
theorem spotR_inv {v : Value} {z : DataW Unit × List MemPlace} (h : spotR v = some z) : ∃ i j, v = .agg #[.int .i64 i, .int .i64 j] ∧ z = (spotD i j, []) := by
  unfold spotR at h
  split at h
  · next a =>
    split at h
    · next i j e =>
      cases h
      refine ⟨i, j, ?_, rfl⟩
      rw [← Array.toArray_toList (xs := a), e]
    · cases h
  · cases h
theorem spotD_inj {i j k l : Int} (h : spotD i j = spotD k l) : i = k ∧ j = l := by
  unfold spotD at h
  simpa using h
theorem zero_spot (w : World) : (zeroValue 164).run Tryz.prog w = .ok (.agg #[.int .i64 0, .int .i64 0]) w := by kernel_rfl
/-- each unit of S, and nothing else, leads to a place in L where it stands -/
structure Ms (L : List (List Int)) (D : DataW Unit) (S : List Int) : Prop where
  tidy : Tidy D
  hs : ∀ u, (Lit.int .i64 u).wf = true → Maps.has D (klU u) = decide (u ∈ S)
  size : Maps.size D = (insAll [] S).length
  spot : ∀ u ∈ S, ∃ (i j : Nat) (hi : i < L.length) (hj : j < L[i].length), L[i][j] = u ∧ ∀ zd, D.atKey (klU u) zd = spotD i j
theorem Ms.nil (L : List (List Int)) : Ms L (.map []) [] := ⟨tidy_empty, fun _ _ => rfl, rfl, fun u hu => by cases hu⟩
theorem Ms.put {L : List (List Int)} {D : DataW Unit} {S : List Int} (h : Ms L D S) (hS : ∀ u ∈ S, (Lit.int .i64 u).wf = true) {i j : Nat} (hi : i < L.length) (hj : j < L[i].length) (hu : (Lit.int .i64 L[i][j]).wf = true) :
    Ms L (D.put (klU L[i][j]) (spotD i j)) (S ++ [L[i][j]]) := by
  have hk := klU_key hu
  refine ⟨h.tidy.put hk _, fun v hv => ?_, ?_, fun v hv => ?_⟩
  · by_cases e : v = L[i][j]
    · subst e
      rw [has_put_same h.tidy.isMap hk]
      exact (decide_eq_true (by simp)).symm
    · rw [has_put_other (fun e2 => e (klU_inj hv hu e2)), h.hs v hv]
      simp [e]
  · rw [size_put h.tidy, h.hs _ hu, h.size, insAll_snoc, insU_length _ _ (insAll_rises _ _ List.Pairwise.nil)]
    by_cases e : L[i][j] ∈ S
    · simp [e, insAll_mem]
    · simp [e, insAll_mem]
  · by_cases e : v = L[i][j]
    · subst e
      exact ⟨i, j, hi, hj, rfl, fun zd => atKey_put_same h.tidy.isMap hk _ _⟩
    · have hv' : v ∈ S := by
        rcases List.mem_append.1 hv with h1 | h1
        · exact h1
        · exact absurd (List.mem_singleton.1 h1) e
      obtain ⟨a, b, ha, hb, e1, e2⟩ := h.spot v hv'
      exact ⟨a, b, ha, hb, e1, fun zd => by rw [atKey_put_other (fun e3 => e (klU_inj (hS v hv') hu e3))]; exact e2 zd⟩
/-- the map at block b leads each unit of S to its place -/
def Mt (w : World) (b : Nat) (L : List (List Int)) (S : List Int) : Prop := ∃ D, w.ownsMap Tryz.prog 166 spotR b S.length D ∧ Ms L D S
theorem Mt.made (w : World) (L : List (List Int)) : Mt (w.alloc (.map #[] 0)) w.heap.size L [] := ⟨_, World.ownsMap_made _ _ _ _, Ms.nil L⟩
theorem Mt.below {w w' : World} {b : Nat} {L : List (List Int)} {S : List Int} (h : Mt w b L S) (hb : Below w.heap.size w w') : Mt w' b L S := by
  obtain ⟨D, ⟨es, clock, h1, h2⟩, h3⟩ := h
  exact ⟨D, ⟨es, clock, below_heap hb h1, h2⟩, h3⟩
theorem Mt.lt {w : World} {b : Nat} {L : List (List Int)} {S : List Int} (h : Mt w b L S) : b < w.heap.size := by
  obtain ⟨D, h1, _⟩ := h
  exact h1.lt
/-- in the map that 'met' returns, all units stand -/
theorem preU_wf2 {w : World} {ao : Option Addr} {L : List (List Int)} (h : CL w ao L) : ∀ u ∈ L.flatten, (Lit.int .i64 u).wf = true := by
  have := preU_wf h L.length 0
  rwa [preU_all] at this
set_option maxHeartbeats 4000000 in
theorem met_any (ep : Int) (ao : Option Addr) (cap : Nat) (L : List (List Int)) (w : World) (h : CL w ao L) (hl : L.length ≤ 255 ∧ ∀ c ∈ L, c.length ≤ 255) :
    Calls Tryz.prog 58 #[.agg #[.int .i64 ep, .slice ao L.length cap]] w fun e w' => ∃ b, e = .returned (.map (some b)) ∧ w.heap.size ≤ b ∧ Mt w' b L L.flatten ∧ Below w.heap.size w w' := by
  have HB0 := Lib.hid ((Below.refl w.heap.size w).alloc (Nat.le_refl _) (.cells #[.int .i64 ep, .slice ao L.length cap] 27))
  have hl' : (L.length : Int) ≤ 255 := by have := hl.1; omega
  have HT := Lib.hid h
  have HM := Lib.hid hl
  have hmm := @run_makeMap Tryz.prog
  clear h hl
  go_enter Tryz.func58, Tryz.ntmps58
  go_wp2_with fail
  go_loopw [12] (fun i wr => ∃ n : Nat, i = .int .i64 n ∧ n ≤ L.length ∧ Hid (Mt wr (w.heap.size + 1) L (preU L n 0)) ∧ Hid (Below (w.heap.size + 1) (w.alloc (.cells #[.int .i64 ep, .slice ao L.length cap] 27)) wr)) (fun i _ => L.length - (intOf i).toNat)
  case atStart => exact ⟨0, rfl, Nat.zero_le _, Lib.hid (by rw [preU_zero]; have h := Mt.made (w.alloc (.cells #[.int .i64 ep, .slice ao L.length cap] 27)) L; simpa using h), Lib.hid ((Below.refl _ _).alloc (by simp) _)⟩
  case round =>
    obtain ⟨n, rfl, hn, HO, HB⟩ := hrel
    by_cases hlt : n < L.length
    · have HWB := Lib.hid (HB0.out.trans (HB.out.mono (by omega)))
      obtain ⟨bk, off, ai, ci, hao, c0w, hN⟩ := HT.out n hlt
      subst hao
      have c0 : wr.cell? ⟨bk, off + n, none⟩ = some (.slice ai L[n].length ci) := cellB HWB.out (block_lt_of_cell c0w) c0w
      have HNN := Lib.hid hN
      have k0 : (n : Int) < (L.length : Int) := by omega
      have m0 := HM.out.2 _ (List.getElem_mem hlt)
      have m0' : (L[n].length : Int) ≤ 255 := by omega
      clear c0w hN
      go_wp2_with fail
      go_loopw [19] (fun j wq => ∃ k : Nat, j = .int .i64 k ∧ k ≤ L[n].length ∧ Hid (Mt wq (w.heap.size + 1) L (preU L n k)) ∧ Hid (Below (w.heap.size + 1) (w.alloc (.cells #[.int .i64 ep, .slice (some ⟨bk, off, none⟩) L.length cap] 27)) wq)) (fun j _ => L[n].length - (intOf j).toNat)
      case atStart => exact ⟨0, rfl, Nat.zero_le _, HO, HB⟩
      case round =>
        obtain ⟨k, rfl, hk, HO2, HB2⟩ := hrel
        clear c0
        have HWQ := Lib.hid (HB0.out.trans (HB2.out.mono (by omega)))
        by_cases hkt : k < L[n].length
        · obtain ⟨b5, o5, hai, c5⟩ := (HNN.out.below HWQ.out).at k hkt
          have hwf := HNN.out.wf _ (List.getElem_mem hkt)
          subst hai
          have k5 : (k : Int) < (L[n].length : Int) := by omega
          obtain ⟨D, hD, hMs⟩ := HO2.out
          have HD := Lib.hid hD
          have HKEY := Lib.hid (unit_key _ hwf)
          have HPUT := Lib.hid (hMs.put (preU_wf HT.out n k) hlt hkt hwf)
          have HPS := Lib.hid (preU_succ hlt hkt)
          have HCNT := Lib.hid (show (preU L n k).length < maxLen from by have := preU_len (k := k) HM.out hlt; unfold maxLen; omega)
          have hB : w.heap.size + 1 ≤ wr.heap.size := by have := HB2.out.size; simpa using this
          clear hwf hD hMs
          rw [← HPS.out] at HPUT
          generalize L[n][k] = u at *
          go_wp2_with (at_mapUpdate; refine wpList_mapUpdate_own _ rfl _ _ _ 129 rfl 166 164 unit_law Tryz.underlying129 spotR (w.heap.size + 1) _ _ rfl HD.out HCNT.out _ _ _ rfl rfl HKEY.out (spotD n k) [] (spotR_mk _ _) ?_; intro w1 hown1 hgrow1; have HO3 := Lib.hid hown1; have HB3 := Lib.hid (HB2.out.grown hgrow1 hB (fun k e => by cases e; exact Nat.le_refl _)); clear hown1 hgrow1)
          exact ⟨⟨k + 1, by go_num, by omega, Lib.hid ⟨_, by rw [show (preU L n (k + 1)).length = (preU L n k).length + 1 from by rw [HPS.out, List.length_append]; rfl]; exact HO3.out, HPUT.out⟩, HB3⟩, by simp [intOf]; omega⟩
        · obtain rfl : k = L[n].length := by omega
          have HPC := Lib.hid (preU_chain hlt)
          rw [HPC.out] at HO2
          go_wp2_with fail
          go_roundw
          case rel => exact ⟨n + 1, by go_num, by omega, HO2, HB2⟩
          case measure => simp [intOf]; omega
    · obtain rfl : n = L.length := by omega
      have HWB := Lib.hid (HB0.out.trans (HB.out.mono (by omega)))
      rw [preU_all] at HO
      go_wp2_with fail
      go_ret
      exact ⟨_, rfl, by omega, HO.out, HWB.out⟩
end Go.Proofs.YtimjlfkdbkafeaaGreat
namespace Go.Proofs.YtimjlfkdbkafeaaGreat
set_option linter.unusedVariables false
open Go.RowKit
set_option maxRecDepth 20000
/-- a call on a thing whose blocks lie in G ends so: it answers x, the thing is a' behind it; the answer's chains are new memory, and none of the thing's -/
def Tells {α : Type} (T : (Nat → Prop) → World → α → Prop) (G : Nat → Prop) (w : World) (a' : α) (x : An) (e : Ending) (w' : World) : Prop :=
  ∃ (ao : Option Addr) (cap : Nat) (F : Nat → Prop), e = .returned (ansV x ao cap) ∧ CG F w' (.slice ao x.L.length cap) x.L ∧ (∀ k, F k → w.heap.size ≤ k ∧ k < w'.heap.size) ∧
    ∃ G' : Nat → Prop, T G' w' a' ∧ (∀ k, F k → ¬ G' k) ∧ Kept (fun k => ¬ G k) w w' ∧ ∀ k, G' k → G k ∨ w.heap.size ≤ k
theorem CG.no (F : Nat → Prop) (w : World) : CG F w (.slice Option.none 0 0) [] := ⟨Option.none, 0, rfl, fun _ => rfl, Nat.le_refl _, fun a e => (by cases e), fun i h => absurd h (Nat.not_lt_zero i)⟩
section
variable {α β : Type} {T : (Nat → Prop) → World → α → Prop} {U : (Nat → Prop) → World → β → Prop} {X G : Nat → Prop} {w w' : World} {a a' : α} {b b' : β} {x : An}
theorem Tells.plain (h : Leaves T G w w' a') (hL : x.L = []) : Tells T G w a' x (.returned (ansV x Option.none 0)) w' := by
  obtain ⟨G', h1, h2, h3⟩ := h
  exact ⟨Option.none, 0, fun _ => False, rfl, by rw [hL]; exact CG.no _ _, fun k hk => hk.elim, G', h1, fun k hk => hk.elim, h2, h3⟩
/-- the chains are made last -/
theorem Tells.last (hT : Thing T) {W : World} (h : Leaves T G w W a') (hb : Below W.heap.size W w') {ao : Option Addr} {cap : Nat} (hO : OC w' W.heap.size (.slice ao x.L.length cap) x.L) : Tells T G w a' x (.returned (ansV x ao cap)) w' := by
  obtain ⟨G', h1, h2, h3⟩ := h
  exact ⟨ao, cap, fun k => W.heap.size ≤ k ∧ k < w'.heap.size, rfl, CG.of hO, fun k hk => ⟨Nat.le_trans h2.size hk.1, hk.2⟩, G', hT.keep h1 (Kept.ofBelow hb (fun _ => True)) (fun _ _ => trivial), fun k hk hg => by have := hT.lt h1 k hg; omega, h2.below hb, h3⟩
/-- all memory that was made meanwhile lies beside both -/
theorem Side.wider (hT : Thing T) (hU : Thing U) (h : Side T U X w a b) (hb : Below w.heap.size w w') : Side T U (fun k => X k ∨ (w.heap.size ≤ k ∧ k < w'.heap.size)) w' a b := by
  obtain ⟨h1, F, G, h2, h3, h4, h5⟩ := h
  refine ⟨fun k hk => ?_, F, G, hT.keep h2 (Kept.ofBelow hb (fun _ => True)) (fun _ _ => trivial), hU.keep h3 (Kept.ofBelow hb (fun _ => True)) (fun _ _ => trivial), fun k hk => ?_, h5⟩
  · rcases hk with hk | hk
    · exact Nat.lt_of_lt_of_le (h1 k hk) hb.size
    · exact hk.2
  · rcases hk with hk | hk
    · exact h4 k hk
    · exact ⟨fun hf => by have := hT.lt h2 k hf; omega, fun hg => by have := hU.lt h3 k hg; omega⟩
theorem Solo.wider (hT : Thing T) (h : Solo T X w a) (hb : Below w.heap.size w w') : Solo T (fun k => X k ∨ (w.heap.size ≤ k ∧ k < w'.heap.size)) w' a := by
  obtain ⟨h1, F, h2, h3⟩ := h
  refine ⟨fun k hk => ?_, F, hT.keep h2 (Kept.ofBelow hb (fun _ => True)) (fun _ _ => trivial), fun k hk hf => ?_⟩
  · rcases hk with hk | hk
    · exact Nat.lt_of_lt_of_le (h1 k hk) hb.size
    · exact hk.2
  · rcases hk with hk | hk
    · exact h3 k hk hf
    · have := hT.lt h2 k hf; omega
theorem CG.here {F : Nat → Prop} {w : World} {ao : Option Addr} {n cap : Nat} {L : List (List Int)} (h : CG F w (.slice ao n cap) L) : CL w ao L ∧ (ao = Option.none → cap = 0) ∧ L.length ≤ cap := by
  obtain ⟨bo, cb, e, h1, h2, h3⟩ := h.cl
  obtain ⟨rfl, _, rfl⟩ := Value.slice.inj e
  exact ⟨h1, h2, h3⟩
variable {P : Program} {fn : FuncId} {args : Array Value}
theorem side_tells (hT : Thing T) (hU : Thing U) (h : Side T U X w a b) (hc : ∀ F : Nat → Prop, T F w a → (∀ k, X k → ¬ F k) → Calls P fn args w fun e w' => Tells T F w a' x e w') :
    Calls P fn args w fun e w' => ∃ (ao : Option Addr) (cap : Nat) (F : Nat → Prop), e = .returned (ansV x ao cap) ∧ CG F w' (.slice ao x.L.length cap) x.L ∧ Side T U (fun k => X k ∨ F k) w' a' b ∧ Kept X w w' := by
  obtain ⟨h1, F, G, h2, h3, h4, h5⟩ := h
  refine (hc F h2 (fun k hk => (h4 k hk).1)).mono ?_
  rintro e w' ⟨ao, cap, C, rfl, r1, r2, F', r3, r4, r5, r6⟩
  refine ⟨ao, cap, C, rfl, r1, ⟨fun k hk => ?_, F', G, r3, hU.keep h3 r5 (fun k hg hf => h5 k hf hg), fun k hk => ?_, fun k hk hg => ?_⟩, r5.mono (fun k hk => (h4 k hk).1)⟩
  · rcases hk with hk | hk
    · exact Nat.lt_of_lt_of_le (h1 k hk) r5.size
    · exact (r2 k hk).2
  · rcases hk with hk | hk
    · refine ⟨fun hf => ?_, (h4 k hk).2⟩
      rcases r6 k hf with h | h
      · exact (h4 k hk).1 h
      · have := h1 k hk; omega
    · exact ⟨r4 k hk, fun hg => by have := hU.lt h3 k hg; have := (r2 k hk).1; omega⟩
  · rcases r6 k hk with h | h
    · exact h5 k h hg
    · have := hU.lt h3 k hg; omega
theorem side_tells_right (hT : Thing T) (hU : Thing U) (h : Side T U X w a b) (hc : ∀ F : Nat → Prop, U F w b → (∀ k, X k → ¬ F k) → Calls P fn args w fun e w' => Tells U F w b' x e w') :
    Calls P fn args w fun e w' => ∃ (ao : Option Addr) (cap : Nat) (F : Nat → Prop), e = .returned (ansV x ao cap) ∧ CG F w' (.slice ao x.L.length cap) x.L ∧ Side T U (fun k => X k ∨ F k) w' a b' ∧ Kept X w w' :=
  (side_tells hU hT h.swap hc).mono fun e w' ⟨ao, cap, F, h1, h2, h3, h4⟩ => ⟨ao, cap, F, h1, h2, h3.swap, h4⟩
theorem solo_tells (hT : Thing T) (h : Solo T X w a) (hc : ∀ F : Nat → Prop, T F w a → (∀ k, X k → ¬ F k) → Calls P fn args w fun e w' => Tells T F w a' x e w') :
    Calls P fn args w fun e w' => ∃ (ao : Option Addr) (cap : Nat) (F : Nat → Prop), e = .returned (ansV x ao cap) ∧ CG F w' (.slice ao x.L.length cap) x.L ∧ Solo T (fun k => X k ∨ F k) w' a' ∧ Kept X w w' := by
  obtain ⟨h1, F, h2, h3⟩ := h
  refine (hc F h2 h3).mono ?_
  rintro e w' ⟨ao, cap, C, rfl, r1, r2, F', r3, r4, r5, r6⟩
  refine ⟨ao, cap, C, rfl, r1, ⟨fun k hk => ?_, F', r3, fun k hk hf => ?_⟩, r5.mono h3⟩
  · rcases hk with hk | hk
    · exact Nat.lt_of_lt_of_le (h1 k hk) r5.size
    · exact (r2 k hk).2
  · rcases hk with hk | hk
    · rcases r6 k hf with h | h
      · exact h3 k hk h
      · have := h1 k hk; omega
    · exact r4 k hk hf
end
end Go.Proofs.YtimjlfkdbkafeaaGreat
namespace Go.Proofs.YtimjlfkdbkafeaaGreat
set_option linter.unusedVariables false
open Go.RowKit
set_option maxRecDepth 20000
def numA (l : List Int) : Array Value := (l.map (fun v => Value.int .i64 v)).toArray
theorem lit_nums {W : World} {b : Nat} {t : TypeId} {l : List Int} (h : W.heap[b]? = some (.cells (numA l) t (0, 0))) (hw : ∀ v ∈ l, i64w v) : NLI W (some ⟨b, 0, none⟩) l.length l := by
  refine ⟨fun j hj => ⟨⟨b, 0, rfl, ?_⟩, hw _ (List.getElem_mem hj)⟩, fun e => (by cases e), Nat.le_refl _⟩
  rw [Nat.zero_add, cell_of h j]
  simp [numA, hj]
def lit1W (w : World) (l : List Int) : World := (w.alloc (.cells (numA l) 3)).alloc (.cells #[.slice (some ⟨w.heap.size, 0, none⟩) l.length l.length] 24)
theorem lit1_size (w : World) (l : List Int) : (lit1W w l).heap.size = w.heap.size + 2 := by simp [lit1W]
theorem lit1_below (w : World) (l : List Int) : Below w.heap.size w (lit1W w l) := (below_new _ _).alloc (by simp) _
theorem lit1_chain (w : World) {l : List Int} (hw : ∀ v ∈ l, i64w v) : CG (fun k => w.heap.size ≤ k ∧ k < (lit1W w l).heap.size) (lit1W w l) (.slice (some ⟨w.heap.size + 1, 0, none⟩) 1 1) [l] := by
  obtain ⟨h1, h2⟩ := two_blocks w (numA l) #[.slice (some ⟨w.heap.size, 0, none⟩) l.length l.length] 3 24
  have hs := lit1_size w l
  refine ⟨some ⟨w.heap.size + 1, 0, none⟩, 1, rfl, fun e => (by cases e), Nat.le_refl _, fun a e => ?_, fun i hi => ?_⟩
  · cases e
    exact ⟨⟨Nat.le_succ _, by show w.heap.size + 1 < _; omega⟩, by show w.heap.size + 1 < _; omega⟩
  · match i, hi with
    | 0, _ =>
      refine ⟨w.heap.size + 1, 0, some ⟨w.heap.size, 0, none⟩, l.length, rfl, cell_of h2 0, lit_nums h1 hw, fun a e => ?_⟩
      cases e
      exact ⟨⟨Nat.le_refl _, by show w.heap.size < _; omega⟩, by show w.heap.size < _; omega⟩
def lit2W (w : World) (l m : List Int) : World := ((w.alloc (.cells (numA l) 3)).alloc (.cells (numA m) 3)).alloc (.cells #[.slice (some ⟨w.heap.size, 0, none⟩) l.length l.length, .slice (some ⟨w.heap.size + 1, 0, none⟩) m.length m.length] 24)
theorem lit2_size (w : World) (l m : List Int) : (lit2W w l m).heap.size = w.heap.size + 3 := by simp [lit2W]
theorem lit2_below (w : World) (l m : List Int) : Below w.heap.size w (lit2W w l m) := ((below_new _ _).alloc (by simp) _).alloc (by simp; omega) _
theorem lit2_chain (w : World) {l m : List Int} (hl : ∀ v ∈ l, i64w v) (hm : ∀ v ∈ m, i64w v) : CG (fun k => w.heap.size ≤ k ∧ k < (lit2W w l m).heap.size) (lit2W w l m) (.slice (some ⟨w.heap.size + 2, 0, none⟩) 2 2) [l, m] := by
  obtain ⟨h1, h2⟩ := two_blocks w (numA l) (numA m) 3 3
  have hs := lit2_size w l m
  have hb : Below ((w.alloc (.cells (numA l) 3)).alloc (.cells (numA m) 3)).heap.size ((w.alloc (.cells (numA l) 3)).alloc (.cells (numA m) 3)) (lit2W w l m) := below_new _ _
  have k1 := below_heap hb h1
  have k2 := below_heap hb h2
  have k3 : (lit2W w l m).heap[w.heap.size + 2]? = some (.cells #[.slice (some ⟨w.heap.size, 0, none⟩) l.length l.length, .slice (some ⟨w.heap.size + 1, 0, none⟩) m.length m.length] 24 (0, 0)) := by
    have := heap_alloc_new ((w.alloc (.cells (numA l) 3)).alloc (.cells (numA m) 3)) (.cells #[.slice (some ⟨w.heap.size, 0, none⟩) l.length l.length, .slice (some ⟨w.heap.size + 1, 0, none⟩) m.length m.length] 24)
    rw [show ((w.alloc (.cells (numA l) 3)).alloc (.cells (numA m) 3)).heap.size = w.heap.size + 2 by simp] at this
    exact this
  refine ⟨some ⟨w.heap.size + 2, 0, none⟩, 2, rfl, fun e => (by cases e), Nat.le_refl _, fun a e => ?_, fun i hi => ?_⟩
  · cases e
    exact ⟨⟨by show w.heap.size ≤ w.heap.size + 2; omega, by show w.heap.size + 2 < _; omega⟩, by show w.heap.size + 2 < _; omega⟩
  · match i, hi with
    | 0, _ =>
      refine ⟨w.heap.size + 2, 0, some ⟨w.heap.size, 0, none⟩, l.length, rfl, cell_of k3 0, lit_nums k1 hl, fun a e => ?_⟩
      cases e
      exact ⟨⟨Nat.le_refl _, by show w.heap.size < _; omega⟩, by show w.heap.size < _; omega⟩
    | 1, _ =>
      refine ⟨w.heap.size + 2, 0, some ⟨w.heap.size + 1, 0, none⟩, m.length, rfl, cell_of k3 1, lit_nums k2 hm, fun a e => ?_⟩
      cases e
      exact ⟨⟨by show w.heap.size ≤ w.heap.size + 1; omega, by show w.heap.size + 1 < _; omega⟩, by show w.heap.size + 1 < _; omega⟩
theorem num_small {l : List Int} (h : ∀ v ∈ l, 0 ≤ v ∧ v ≤ 20) : ∀ v ∈ l, i64w v := fun v hv => WalkArith.wf_i64 (by have := h v hv; omega)
end Go.Proofs.YtimjlfkdbkafeaaGreat
namespace Go.Proofs.YtimjlfkdbkafeaaGreat
open Go.RowKit
set_option maxRecDepth 20000
theorem addrR_no {ep : Int} {L : List (List Int)} {c p : Int} (h : ¬ (goodB ep L = true ∧ (0 ≤ c ∧ c < L.length) ∧ (0 ≤ p ∧ p < 16384) ∧ p * L.length + c < 16384)) : addrR ep L c p = -1 := if_neg h
theorem mul_small {p n : Int} (hp : 0 ≤ p ∧ p < 16384) (hn : 1 ≤ n ∧ n ≤ 4) : 0 ≤ p * n ∧ p * n ≤ 65536 := by
  rcases len_cases hn with rfl | rfl | rfl | rfl <;> omega
theorem clamp_eq (a : Int) : ∃ m1 m2 : Int, (if (16384 : Int) < a then (16384 : Int) else a) = m1 ∧ (if (0 : Int) < m1 then m1 else (0 : Int)) = m2 ∧ m2 = clampA a ∧ 0 ≤ m2 ∧ m2 ≤ 16384 := by
  refine ⟨_, _, rfl, rfl, ?_, ?_, ?_⟩
  · unfold clampA
    split <;> split <;> omega
  · split <;> split <;> omega
  · split <;> split <;> omega
end Go.Proofs.YtimjlfkdbkafeaaGreat
