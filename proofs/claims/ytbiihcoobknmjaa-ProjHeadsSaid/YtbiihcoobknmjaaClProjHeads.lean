/- The law ProjHeads: of one that may come next each chain's first unit stood in that chain ahead, units that stood elsewhere do not come in, and it may not come behind itself. No conditions. -/
import Derived.Test.YtbiihcoobknmjaaGl
import Derived.Test.YtbiihcoobknmjaaJPjK
namespace Go.Proofs.Ytbiihcoobknmjaa
open Go.ChangeShapes Go.WideShapes Go.ChangeAt Go.RowKit
open Go.ChangeMaps (open_string shut_string)
set_option linter.unusedVariables false
set_option maxRecDepth 20000

set_option maxHeartbeats 8000000 in
theorem projHeads_walk (HS : ProgSays) (e1 : Int) (ao1 : Option Addr) (c1 : Nat) (L1 : List (List Int)) (e2 : Int) (ao2 : Option Addr) (c2 : Nat) (L2 : List (List Int)) (w : World) (hp1 : PIn w e1 ao1 c1 L1) (hp2 : PIn w e2 ao2 c2 L2) :
    Calls Try.prog 7 #[.agg #[.int .i64 e1, .slice ao1 L1.length c1], .agg #[.int .i64 e2, .slice ao2 L2.length c2]] w fun e w' => e = .returned (.bool true) ∧ Below w.heap.size w w' := by
  have HB0 := Lib.hid (((Below.refl w.heap.size w).alloc (Nat.le_refl _) (.cells #[.int .i64 e1, .slice ao1 L1.length c1] 24)).alloc (by simp) (.cells #[.int .i64 e2, .slice ao2 L2.length c2] 24))
  have HP := Lib.hid (PB.two w e1 e2 ao1 ao2 L1.length L2.length c1 c2)
  have H1 := Lib.hid (hp1.below HB0.out)
  have H2 := Lib.hid (hp2.below HB0.out)
  have CA := Lib.hid (fun (W : World) hb => large_any e1 ao1 c1 L1 W (H1.out.below hb).1.1 H1.out.2.2.1 H1.out.2.2.2)
  have CB := Lib.hid (fun (W : World) hb => large_any e2 ao2 c2 L2 W (H2.out.below hb).1.1 H2.out.2.2.1 H2.out.2.2.2)
  have CW := Lib.hid (wakes7_any HS)
  clear hp1 hp2
  by_cases hl1 : largeB L1 = true
  · rw [hl1] at CA
    clear hl1
    go_enter Try.func7, Try.ntmps7
    go_wp2_with (first | (go_at_call 8; refine (CA.out _ (Below.refl _ _)).mono ?_; rintro e w1 ⟨rfl, hb1⟩) | (go_at_call 9; refine (CW.out _).mono ?_; rintro e w2 ⟨rfl, hb2⟩))
    go_ret
    exact ⟨rfl, (HB0.out.trans (hb1.mono HB0.out.size)).trans (hb2.mono (Nat.le_trans HB0.out.size hb1.size))⟩
  have hf1 : largeB L1 = false := by simpa using hl1
  rw [hf1] at CA
  have SM1 := Lib.hid (large_small hf1)
  clear hl1 hf1
  by_cases hl2 : largeB L2 = true
  · rw [hl2] at CB
    clear hl2
    go_enter Try.func7, Try.ntmps7
    go_wp2_with (first | (go_at_call 8; with_reducible refine (CB.out _ HR1.out).mono ?_; rintro e w2 ⟨rfl, hb2⟩; have HR2 := Lib.hid (HR1.out.trans (hb2.mono HR1.out.size)); clear hb2) | (go_at_call 8; refine (CA.out _ (Below.refl _ _)).mono ?_; rintro e w1 ⟨rfl, hb1⟩; have HR1 := Lib.hid hb1; obtain ⟨y0, y1⟩ := (HP.out.2.below hb1).cells; clear hb1) | (go_at_call 9; refine (CW.out _).mono ?_; rintro e w3 ⟨rfl, hb3⟩))
    go_ret
    exact ⟨rfl, (HB0.out.trans (HR2.out.mono HB0.out.size)).trans (hb3.mono (Nat.le_trans HB0.out.size HR2.out.size))⟩
  have hf2 : largeB L2 = false := by simpa using hl2
  rw [hf2] at CB
  have SM2 := Lib.hid (large_small hf2)
  clear hl2 hf2
  by_cases hnx : nextB e1 L1 e2 L2 = false
  · have HNX := Lib.hid (show nextB e1 L1 e2 L2 = false from hnx)
    have HNS := Lib.hid (next_self e2 L2)
    clear hnx
    go_enter Try.func7, Try.ntmps7
    go_wp2_with (first | (go_at_call 8; with_reducible refine (CB.out _ HR1.out).mono ?_; rintro e w2 ⟨rfl, hb2⟩; have HR2 := Lib.hid (HR1.out.trans (hb2.mono HR1.out.size)); clear hb2) | (go_at_call 8; refine (CA.out _ (Below.refl _ _)).mono ?_; rintro e w1 ⟨rfl, hb1⟩; have HR1 := Lib.hid hb1; obtain ⟨y0, y1⟩ := (HP.out.2.below hb1).cells; clear hb1))
    have HP1 := Lib.hid (HP.out.1.below HR2.out)
    have HP2 := Lib.hid (HP.out.2.below HR2.out)
    have I1 := Lib.hid (H1.out.below HR2.out)
    have I2 := Lib.hid (H2.out.below HR2.out)
    have HW2 := Lib.hid (HB0.out.trans (HR2.out.mono HB0.out.size))
    have F1 := Lib.hid (fun (W : World) (h : Below w2.heap.size w2 W) => show CL W ao1 L1 from (I1.out.below h).1.1)
    have F2 := Lib.hid (fun (W : World) (h : Below w2.heap.size w2 W) => show CL W ao2 L2 from (I2.out.below h).1.1)
    have SC1 := Lib.hid (small_copy SM1.out)
    have SC2 := Lib.hid (small_copy SM2.out)
    clear y0 y1 CA CB HR1
    go_region_held3 (fun W => W.cell? ⟨w.heap.size, 0, none⟩ = some (.int .i64 e1) ∧ W.cell? ⟨w.heap.size, 1, none⟩ = some (.slice ao1 L1.length c1) ∧ W.cell? ⟨w.heap.size + 1, 0, none⟩ = some (.int .i64 e2) ∧ W.cell? ⟨w.heap.size + 1, 1, none⟩ = some (.slice ao2 L2.length c2) ∧ Below w2.heap.size w2 W ∧ w2.heap.size ≤ W.heap.size)
        (first | exact boxes_start HP1.out HP2.out | exact boxes_keep hb8a (by assumption) | exact boxes_keep hb6a (by assumption) | exact boxes_keep hb5a (by assumption) | exact boxes_keep hb4a (by assumption))
        (first
          | (go_at_call 10; have _tk := HTAa; (refine (keepCopy_any e2 ao2 c2 L2 _ (F2.out _ (boxes_below (by assumption))) SC2.out).mono ?_); rintro e w5a ⟨qoa, qca, rfl, hc5, hn5, hl5, hb5a⟩; replace HTAa := Lib.hid (HTAa.out.below hb5a); have HTBa := Lib.hid (show Told w5a qoa qca L2 from ⟨hc5, hn5, hl5⟩); clear hc5 hn5 hl5 _tk)
          | (go_at_call 10; (refine (keepCopy_any e1 ao1 c1 L1 _ (F1.out _ (boxes_below (by assumption))) SC1.out).mono ?_); rintro e w4a ⟨poa, pca, rfl, hc4, hn4, hl4, hb4a⟩; have HTAa := Lib.hid (show Told w4a poa pca L1 from ⟨hc4, hn4, hl4⟩); clear hc4 hn4 hl4)
          | (go_at_call 18; refine (HS.next e1 poa pca L1 e2 qoa qca L2 _ HTAa.out HTBa.out SM1.out SM2.out).mono ?_; rintro e w6a ⟨rfl, hb6a⟩; rw [HNX.out])
          | (go_at_call 9; refine (CW.out _).mono ?_; rintro e w8a ⟨rfl, hb8a⟩))
    rename_i hS
    have HBB := Lib.hid (boxes_below hS)
    have HPA := Lib.hid (HP1.out.below HBB.out)
    have HPB := Lib.hid (HP2.out.below HBB.out)
    clear hS hb4a hb5a hb6a
    go_wp2_with fail
    have FA2 := Lib.hid (fun (W : World) (h : Below w6a.heap.size w6a W) => F2.out W (HBB.out.trans (h.mono HBB.out.size)))
    have HW := HW2.out.trans (HBB.out.mono HW2.out.size)
    have HSZ := HW.size
    go_region_held3 (fun W => W.cell? ⟨w.heap.size, 0, none⟩ = some (.int .i64 e1) ∧ W.cell? ⟨w.heap.size, 1, none⟩ = some (.slice ao1 L1.length c1) ∧ W.cell? ⟨w.heap.size + 1, 0, none⟩ = some (.int .i64 e2) ∧ W.cell? ⟨w.heap.size + 1, 1, none⟩ = some (.slice ao2 L2.length c2) ∧ Below w6a.heap.size w6a W ∧ w6a.heap.size ≤ W.heap.size)
        (first | exact boxes_start HPA.out HPB.out | exact boxes_keep hb8b (by assumption) | exact boxes_keep hb6b (by assumption) | exact boxes_keep hb5b (by assumption) | exact boxes_keep hb4b (by assumption))
        (first
          | (go_at_call 10; have _tk := HTAb; (refine (keepCopy_any e2 ao2 c2 L2 _ (FA2.out _ (boxes_below (by assumption))) SC2.out).mono ?_); rintro e w5b ⟨qob, qcb, rfl, hc5, hn5, hl5, hb5b⟩; replace HTAb := Lib.hid (HTAb.out.below hb5b); have HTBb := Lib.hid (show Told w5b qob qcb L2 from ⟨hc5, hn5, hl5⟩); clear hc5 hn5 hl5 _tk)
          | (go_at_call 10; (refine (keepCopy_any e2 ao2 c2 L2 _ (FA2.out _ (boxes_below (by assumption))) SC2.out).mono ?_); rintro e w4b ⟨pob, pcb, rfl, hc4, hn4, hl4, hb4b⟩; have HTAb := Lib.hid (show Told w4b pob pcb L2 from ⟨hc4, hn4, hl4⟩); clear hc4 hn4 hl4)
          | (go_at_call 18; refine (HS.next e2 pob pcb L2 e2 qob qcb L2 _ HTAb.out HTBb.out SM2.out SM2.out).mono ?_; rintro e w6b ⟨rfl, hb6b⟩; rw [HNS.out])
          | (go_at_call 9; refine (CW.out _).mono ?_; rintro e w8b ⟨rfl, hb8b⟩))
    all_goals
      go_wp2_with fail
      go_ret
      rename_i hS
      exact ⟨rfl, HW.trans (hS.2.2.2.2.1.mono HSZ)⟩
  have hnx : nextB e1 L1 e2 L2 = true := by simpa using hnx
  have HNX := Lib.hid hnx
  have HNB := Lib.hid (next_back hnx)
  have HLEN := Lib.hid (nextB_all hnx).2.2.2.1
  have HFI := Lib.hid (fun i h1 h2 => @heads_first e1 e2 L1 L2 hnx i h1 h2)
  have HRE := Lib.hid (fun i j k h1 h2 hj hne hk => @heads_rest e1 e2 L1 L2 hnx i j k h1 h2 hj hne hk)
  have m1 : (L1.length : Int) ≤ 255 := by have := SM1.out.1; omega
  have m2 : (L2.length : Int) ≤ 255 := by have := SM2.out.1; omega
  clear hnx
  go_enter Try.func7, Try.ntmps7
  go_wp2_with (first | (go_at_call 8; with_reducible refine (CB.out _ HR1.out).mono ?_; rintro e w2 ⟨rfl, hb2⟩; have HR2 := Lib.hid (HR1.out.trans (hb2.mono HR1.out.size)); clear hb2) | (go_at_call 8; refine (CA.out _ (Below.refl _ _)).mono ?_; rintro e w1 ⟨rfl, hb1⟩; have HR1 := Lib.hid hb1; obtain ⟨y0, y1⟩ := (HP.out.2.below hb1).cells; clear hb1))
  have HP1 := Lib.hid (HP.out.1.below HR2.out)
  have HP2 := Lib.hid (HP.out.2.below HR2.out)
  have I1 := Lib.hid (H1.out.below HR2.out)
  have I2 := Lib.hid (H2.out.below HR2.out)
  have HW2 := Lib.hid (HB0.out.trans (HR2.out.mono HB0.out.size))
  have F1 := Lib.hid (fun (W : World) (h : Below w2.heap.size w2 W) => show CL W ao1 L1 from (I1.out.below h).1.1)
  have F2 := Lib.hid (fun (W : World) (h : Below w2.heap.size w2 W) => show CL W ao2 L2 from (I2.out.below h).1.1)
  have SC1 := Lib.hid (small_copy SM1.out)
  have SC2 := Lib.hid (small_copy SM2.out)
  clear y0 y1 CA CB HR1
  go_region_held3 (fun W => W.cell? ⟨w.heap.size, 0, none⟩ = some (.int .i64 e1) ∧ W.cell? ⟨w.heap.size, 1, none⟩ = some (.slice ao1 L1.length c1) ∧ W.cell? ⟨w.heap.size + 1, 0, none⟩ = some (.int .i64 e2) ∧ W.cell? ⟨w.heap.size + 1, 1, none⟩ = some (.slice ao2 L2.length c2) ∧ Below w2.heap.size w2 W ∧ w2.heap.size ≤ W.heap.size)
      (first | exact boxes_start HP1.out HP2.out | exact boxes_keep hb8a (by assumption) | exact boxes_keep hb6a (by assumption) | exact boxes_keep hb5a (by assumption) | exact boxes_keep hb4a (by assumption))
      (first
        | (go_at_call 10; have _tk := HTAa; (refine (keepCopy_any e2 ao2 c2 L2 _ (F2.out _ (boxes_below (by assumption))) SC2.out).mono ?_); rintro e w5a ⟨qoa, qca, rfl, hc5, hn5, hl5, hb5a⟩; replace HTAa := Lib.hid (HTAa.out.below hb5a); have HTBa := Lib.hid (show Told w5a qoa qca L2 from ⟨hc5, hn5, hl5⟩); clear hc5 hn5 hl5 _tk)
        | (go_at_call 10; (refine (keepCopy_any e1 ao1 c1 L1 _ (F1.out _ (boxes_below (by assumption))) SC1.out).mono ?_); rintro e w4a ⟨poa, pca, rfl, hc4, hn4, hl4, hb4a⟩; have HTAa := Lib.hid (show Told w4a poa pca L1 from ⟨hc4, hn4, hl4⟩); clear hc4 hn4 hl4)
        | (go_at_call 18; refine (HS.next e1 poa pca L1 e2 qoa qca L2 _ HTAa.out HTBa.out SM1.out SM2.out).mono ?_; rintro e w6a ⟨rfl, hb6a⟩; rw [HNX.out])
        | (go_at_call 9; refine (CW.out _).mono ?_; rintro e w8a ⟨rfl, hb8a⟩))
  rename_i hS
  have HBB := Lib.hid (boxes_below hS)
  have HPA := Lib.hid (HP1.out.below HBB.out)
  have HPB := Lib.hid (HP2.out.below HBB.out)
  have FA1 := Lib.hid (fun (W : World) (h : Below w6a.heap.size w6a W) => F1.out W (HBB.out.trans (h.mono HBB.out.size)))
  have FA2 := Lib.hid (fun (W : World) (h : Below w6a.heap.size w6a W) => F2.out W (HBB.out.trans (h.mono HBB.out.size)))
  have HW := HW2.out.trans (HBB.out.mono HW2.out.size)
  have HSZ := HW.size
  clear hS hb4a hb5a hb6a
  obtain ⟨x0, x1⟩ := HPA.out.cells
  obtain ⟨x2, x3⟩ := HPB.out.cells
  go_wp2_with fail
  have C1 := Lib.hid (FA1.out w6a (Below.refl _ _))
  have C2 := Lib.hid (FA2.out w6a (Below.refl _ _))
  go_loopw [5] (fun i wr => ∃ n q : Nat, i = .int .i64 n ∧ n ≤ L2.length ∧ wr = w6a.drewN q) (fun i _ => L2.length - (intOf i).toNat)
  case atStart => exact ⟨0, 0, rfl, Nat.zero_le _, rfl⟩
  case round =>
    obtain ⟨n, q, rfl, hn, rfl⟩ := hrel
    by_cases hlt : n < L2.length
    · have hlt1 : n < L1.length := by have := HLEN.out; omega
      obtain ⟨bk, off, ai, ci, hao, c0, hN1⟩ := C1.out n hlt1
      obtain ⟨bk2, off2, bi, di, hao2, c02, hN2⟩ := C2.out n hlt
      subst hao hao2
      have k0 : (n : Int) < (L1.length : Int) := by omega
      have k1 : (n : Int) < (L2.length : Int) := by omega
      obtain ⟨h0, hfirst⟩ := HFI.out n hlt1 hlt
      obtain ⟨b5, o5, hbi, c5⟩ := hN2.at 0 h0
      subst hbi
      rw [Nat.add_zero] at c5
      have mo := SM1.out.2 _ (List.getElem_mem hlt1)
      have mn := SM2.out.2 _ (List.getElem_mem hlt)
      have mn' : (L2[n].length : Int) ≤ 255 := by omega
      have h0' : (0 : Int) < (L2[n].length : Int) := by omega
      have CH := Lib.hid (fun m => quiet_eqq (q := q) (n := m) (refHas_any L1[n] L2[n][0] ai ci (w6a.drewN (q + m)) (hN1.below (below_drewN (Below.refl _ _) _)) (by omega)))
      rw [show hasB L1[n] L2[n][0] = true from decide_eq_true hfirst] at CH
      have HN2 := Lib.hid hN2
      have HRN := Lib.hid (fun j k hj hne hk => HRE.out n j k hlt1 hlt hj hne hk)
      clear hfirst hN1 hN2
      generalize hz : L2[n][0] = z at *
      have HZ0 := Lib.hid hz
      clear hz
      go_wp2_with fail
      go_quiet ((go_at_call 24; exact CH.out _))
      go_wp2_with fail
      go_loopw [6] (fun k wq => ∃ k2 q2 : Nat, k = .int .i64 k2 ∧ k2 ≤ L2[n].length ∧ wq = w6a.drewN q2) (fun k _ => L2[n].length - (intOf k).toNat)
      case atStart => exact ⟨0, q + nq, rfl, Nat.zero_le _, by first | rfl | simp⟩
      case round =>
        obtain ⟨k, q2, rfl, hk, rfl⟩ := hrel
        clear c5
        by_cases hkt : k < L2[n].length
        · obtain ⟨b6, o6, hbi6, c6⟩ := HN2.out.at k hkt
          cases hbi6
          have k6 : (k : Int) < (L2[n].length : Int) := by omega
          have HRK := Lib.hid (fun j hj hne => HRN.out j k hj hne hkt)
          generalize L2[n][k] = u at *
          go_wp2_with fail
          go_loopw [7] (fun j ws => ∃ j2 q3 : Nat, j = .int .i64 j2 ∧ j2 ≤ L1.length ∧ ws = w6a.drewN q3) (fun j _ => L1.length - (intOf j).toNat)
          case atStart => exact ⟨0, q2, rfl, Nat.zero_le _, rfl⟩
          case round =>
            obtain ⟨j, q3, rfl, hj, rfl⟩ := hrel
            by_cases hjt : j < L1.length
            · obtain ⟨bk3, off3, aj, cj, hao3, c03, hN3⟩ := C1.out j hjt
              cases hao3
              have k7 : (j : Int) < (L1.length : Int) := by omega
              by_cases hji : j = n
              · have d1 : ((j : Int) != (n : Int)) = false := bne_eq_false_iff_eq.2 (by omega)
                have d2 : (j != n) = false := bne_eq_false_iff_eq.2 hji
                clear hji
                go_wp2_with fail
                go_quiet (fail)
                go_wp2_with fail
                go_roundw
                case rel => exact ⟨j + 1, q3 + nq, by go_num, by omega, by first | rfl | simp⟩
                case measure => simp [intOf]; omega
              · have d1 : ((j : Int) != (n : Int)) = true := bne_iff_ne.2 (by omega)
                have d2 : (j != n) = true := bne_iff_ne.2 hji
                have mj := SM1.out.2 _ (List.getElem_mem hjt)
                have CJ := Lib.hid (fun m => quiet_eqq (q := q3) (n := m) (refHas_any L1[j] u aj cj (w6a.drewN (q3 + m)) (hN3.below (below_drewN (Below.refl _ _) _)) (by omega)))
                rw [show hasB L1[j] u = false from decide_eq_false (HRK.out j hjt hji)] at CJ
                clear hji hN3
                go_wp2_with fail
                go_quiet ((go_at_call 24; exact CJ.out _))
                go_wp2_with fail
                go_roundw
                case rel => exact ⟨j + 1, q3 + nq, by go_num, by omega, by first | rfl | simp⟩
                case measure => simp [intOf]; omega
            · obtain rfl : j = L1.length := by omega
              go_wp2_with fail
              go_roundw
              case rel => exact ⟨k + 1, q3, by go_num, by omega, rfl⟩
              case measure => simp [intOf]; omega
        · obtain rfl : k = L2[n].length := by omega
          go_wp2_with fail
          go_roundw
          case rel => exact ⟨n + 1, q2, by go_num, by omega, rfl⟩
          case measure => simp [intOf]; omega
    · obtain rfl : n = L2.length := by omega
      have hbd := below_drewN (Below.refl w6a.heap.size w6a) q
      have HPC := Lib.hid (HPA.out.below hbd)
      have HPD := Lib.hid (HPB.out.below hbd)
      have HWQ := HW.trans (hbd.mono HSZ)
      have FD1 := Lib.hid (fun (W : World) (h : Below (w6a.drewN q).heap.size (w6a.drewN q) W) => FA1.out W (hbd.trans (h.mono hbd.size)))
      have FD2 := Lib.hid (fun (W : World) (h : Below (w6a.drewN q).heap.size (w6a.drewN q) W) => FA2.out W (hbd.trans (h.mono hbd.size)))
      clear hbd x0 x1 x2 x3 C1 C2
      generalize w6a.drewN q = w9 at *
      have HSQ := HWQ.size
      obtain ⟨x2, x3⟩ := HPD.out.cells
      go_wp2_with fail
      clear x2 x3
      go_region_held3 (fun W => W.cell? ⟨w.heap.size, 0, none⟩ = some (.int .i64 e1) ∧ W.cell? ⟨w.heap.size, 1, none⟩ = some (.slice ao1 L1.length c1) ∧ W.cell? ⟨w.heap.size + 1, 0, none⟩ = some (.int .i64 e2) ∧ W.cell? ⟨w.heap.size + 1, 1, none⟩ = some (.slice ao2 L2.length c2) ∧ Below w9.heap.size w9 W ∧ w9.heap.size ≤ W.heap.size)
          (first | exact boxes_start HPC.out HPD.out | exact boxes_keep hb8c (by assumption) | exact boxes_keep hb6c (by assumption) | exact boxes_keep hb5c (by assumption) | exact boxes_keep hb4c (by assumption))
          (first
            | (go_at_call 10; have _tk := HTAc; (refine (keepCopy_any e1 ao1 c1 L1 _ (FD1.out _ (boxes_below (by assumption))) SC1.out).mono ?_); rintro e w5c ⟨qoc, qcc, rfl, hc5, hn5, hl5, hb5c⟩; replace HTAc := Lib.hid (HTAc.out.below hb5c); have HTBc := Lib.hid (show Told w5c qoc qcc L1 from ⟨hc5, hn5, hl5⟩); clear hc5 hn5 hl5 _tk)
            | (go_at_call 10; (refine (keepCopy_any e2 ao2 c2 L2 _ (FD2.out _ (boxes_below (by assumption))) SC2.out).mono ?_); rintro e w4c ⟨poc, pcc, rfl, hc4, hn4, hl4, hb4c⟩; have HTAc := Lib.hid (show Told w4c poc pcc L2 from ⟨hc4, hn4, hl4⟩); clear hc4 hn4 hl4)
            | (go_at_call 18; refine (HS.next e2 poc pcc L2 e1 qoc qcc L1 _ HTAc.out HTBc.out SM2.out SM1.out).mono ?_; rintro e w6c ⟨rfl, hb6c⟩; rw [HNB.out])
            | (go_at_call 9; refine (CW.out _).mono ?_; rintro e w8c ⟨rfl, hb8c⟩))
      all_goals
        go_wp2_with fail
        go_ret
        rename_i hS
        exact ⟨rfl, HWQ.trans (hS.2.2.2.2.1.mono HSQ)⟩

set_option maxRecDepth 100000 in
theorem projHeads_lifted (os : Os) (started : os.Started) (H : Type) (enc : TypeId × Value → H) :
    ReturnsInHanded {} Try.checked os 7 .any (Rows.projHeadsSpec.pre6 enc Try.prog Try.f7 Rows.projHeadsRow.domain false) (Rows.projHeadsSpec.post enc Try.prog Try.f7 false true false false) := by
  refine returnsInHanded_of_change (C := Try.checked) own started (by kernel_rfl) Try.func7
    (ChangeSpec.witness6 (enc := enc) (C := Try.checked) false ⟨#[], #[.agg #[.int .i64 0, .slice none 0 0], .agg #[.int .i64 0, .slice none 0 0]], []⟩ 8 (by kernel_rfl) (by kernel_rfl) (by kernel_rfl) (by kernel_rfl)) ?_
  intro W base args ds gs before hval0 hW hcnd _
  have hval : ∀ (j : Nat) t v, Try.f7.params[j]? = some t → args[j]? = some v → Value.okWide Try.prog W .any base t v := hval0
  have hW' := hW
  obtain ⟨p, q, hA0, hV, rfl, hfz, hnd⟩ := hW
  have hA : DataW.TrodAll enc Try.prog W 0 (fun _ => true) true Try.f7.params.toList args.toList ds p := hA0
  rw [Try.params7] at hA hval
  obtain ⟨v0, vs0, d0, ds0, p0, q0, hargs, rfl, rfl, h0, r0⟩ := trodAll_cons hA
  obtain ⟨v1, vs1, d1, ds1, p1, q1, rfl, rfl, rfl, h1, r1⟩ := trodAll_cons r0
  obtain ⟨rfl, rfl, rfl⟩ := trodAll_nil r1
  obtain rfl : args = #[v0, v1] := by cases args; simp_all
  obtain ⟨rfl, rfl⟩ := trodVars_none hV
  have k0 := h0
  have lt0 : ∀ x ∈ p0, x.block < W.heap.size := by obtain ⟨m, hm⟩ := k0; exact DataW.trod_lt m _ _ _ hm
  have k1 := h1
  have lt1 : ∀ x ∈ p1, x.block < W.heap.size := by obtain ⟨m, hm⟩ := k1; exact DataW.trod_lt m _ _ _ hm
  obtain ⟨ep0, ao0, cap0, L0, rfl, wf0, hC0, hn0, hc0, hl0, hm0⟩ := open_proj Try.underlying24 (by kernel_rfl) rfl rfl (by kernel_rfl) (by kernel_rfl) Try.underlying3 Try.underlying22 Try.underlying28 (by kernel_rfl) (hval 0 24 v0 rfl rfl) h0
  have hF0 : PIn W ep0 ao0 cap0 L0 := ⟨⟨hC0, hn0, hc0⟩, i64_of_wf wf0, hl0, fun c hcm => by obtain ⟨i, hi, rfl⟩ := List.getElem_of_mem hcm; exact hm0 i hi⟩
  obtain ⟨ep1, ao1, cap1, L1, rfl, wf1, hC1, hn1, hc1, hl1, hm1⟩ := open_proj Try.underlying24 (by kernel_rfl) rfl rfl (by kernel_rfl) (by kernel_rfl) Try.underlying3 Try.underlying22 Try.underlying28 (by kernel_rfl) (hval 1 24 v1 rfl rfl) h1
  have hF1 : PIn W ep1 ao1 cap1 L1 := ⟨⟨hC1, hn1, hc1⟩, i64_of_wf wf1, hl1, fun c hcm => by obtain ⟨i, hi, rfl⟩ := List.getElem_of_mem hcm; exact hm1 i hi⟩
  clear hA0 hval0
  refine (projHeads_walk progSays ep0 ao0 cap0 L0 ep1 ao1 cap1 L1 W hF0 hF1).mono fun e W' ⟨he, bel⟩ => ?_
  subst he
  exact ⟨_, rfl, _, _, _, [], _, [], hW', trodAll_mk1 (shut_bool Try.underlying4 _), (trodAll_cons_mk (Below.trod laidOut (by kernel_rfl) (of_decide_eq_true (by kernel_rfl)) k0 bel lt0) (trodAll_cons_mk (Below.trod laidOut (by kernel_rfl) (of_decide_eq_true (by kernel_rfl)) k1 bel lt1) trodAll_mk0)), rfl, bel.frame _, fun h => by cases h⟩

theorem projHeads_over : Rows.projHeadsRow.holds Try.pinned (OpenSpec.ofChange Rows.projHeadsSpec) :=
  OpenClaim.holds_of_wide 7 Try.f7 rfl rfl rfl rfl rfl rfl rfl ⟨rfl, rfl, rfl, rfl, rfl⟩ rfl rfl rfl rfl rfl (by kernel_rfl) Try.func7 (by kernel_rfl)
    (of_decide_eq_true (by kernel_rfl)) (by unfold Func.isWrapper; first | (rw [if_pos (by decide +kernel)]; kernel_rfl) | (rw [if_neg (by decide +kernel)]; exact ⟨rfl, rfl⟩))
    (fun os started H enc _ => projHeads_lifted os started H enc)

/-- THE STATEMENT -/
theorem projHeads_holds : Rows.ProjHeadsSaid := projHeads_over 
end Go.Proofs.Ytbiihcoobknmjaa
