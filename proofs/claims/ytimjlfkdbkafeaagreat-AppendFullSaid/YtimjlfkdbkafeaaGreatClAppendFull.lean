/- The law AppendFull: with no room anywhere an append is over, and says whether anybody can know. Conditions: none. (Written by gen/genappfull.py.) -/
import Derived.Test.YtimjlfkdbkafeaaGreatG31a
import Derived.Test.YtimjlfkdbkafeaaGreatG37a
import Derived.Test.YtimjlfkdbkafeaaGreatG28b
namespace Go.Proofs.YtimjlfkdbkafeaaGreat
open Go.ChangeShapes Go.WideShapes Go.ChangeAt Go.RowKit
open Go.ChangeMaps (open_string shut_string)
set_option linter.unusedVariables false
set_option maxRecDepth 20000
theorem tw_used : (newL 0 twL).used.length ≤ 100000 := by decide +kernel

set_option maxHeartbeats 8000000 in
theorem appendFull_walk {UG : Nat → Nat → (Nat → Prop) → World → Us → Prop} {OG : Nat → (Nat → Prop) → World → Od → Prop} {LG : Nat → (Nat → Prop) → World → Ly → Prop} {NG : Nat → (Nat → Prop) → World → Nd → Prop} {HG : Nat → Nat → (Nat → Prop) → World → Hd → Prop} {AG : Nat → (Nat → Prop) → World → Ap → Prop} (HS : HandSays UG OG LG NG HG) (AS : AppSays AG) (RD : ReadSays UG)
    (s : ByteArray) (x : Int) (ws : s.size ≤ maxLen) (wx : (Lit.int .u8 x).wf = true) (w : World) :
    Calls Tryz.prog 5 #[.string s, .int .u8 x] w fun e w' => e = .returned (.bool true) ∧ Below w.heap.size w w' := by
  have CW := Lib.hid (fun w => wakes15_any HS AS RD w)
  have ZZ := Lib.hid (fun (x : Int) (h : 0 ≤ x ∧ x ≤ 110) => show i64w x from WalkArith.wf_i64 (by omega))
  have TT := Lib.hid (fun b nb => HS.thing b nb)
  have TA := Lib.hid (fun b => AS.thing b)
  have CT := Lib.hid two_any
  have CM := Lib.hid (fun ao w hC => made_two HS ao 1 w hC (by decide))
  have CN := Lib.hid (fun (b nb : Nat) (w' : World) (h : Hd) (hs : Solo (HG b nb) (fun k => k < w.heap.size) w' h) (ao : Option Addr) (r : ByteArray) (hr : r.size ≤ 1000000) (hC : CL w' ao [[0, 1]]) (hn : ao = none → (1 : Nat) = 0) => sa_new AS (HS.thing b nb) hs (ep := 0) (cap := 1) (L := [[0, 1]]) (rec_ := r) hC (few_two 0 1) hn (Nat.le_refl _) (i64w_small (x := 0) (by omega)) hr)
  unfold maxLen at ws
  have hs63 : (s.size : Int) ≤ 9223372036854775807 := by omega
  by_cases hs1000 : 1000 < s.size
  · have h1 : (1000 : Int) < (s.size : Int) := by omega
    clear hs1000
    go_enter Tryz.func5, Tryz.ntmps5
    go_wp2_with (go_at_call 7; refine (CW.out _).mono ?_; rintro e w1 ⟨rfl, hb1⟩)
    go_ret
    exact ⟨rfl, hb1⟩
  have h1 : ¬ (1000 : Int) < (s.size : Int) := by omega
  have hs4 : s.size ≤ 4096 := by omega
  have HS4 := Lib.hid hs4
  obtain ⟨x0, x1⟩ : 0 ≤ x ∧ x < 256 := by
    have h := wx
    simp [Lit.wf] at h
    have e1 : IntKind.u8.min = 0 := by decide
    have e2 : IntKind.u8.max = 255 := by decide
    omega
  clear wx
  obtain ⟨z, rfl⟩ : ∃ z : Nat, x = z := ⟨x.toNat, by omega⟩
  obtain ⟨m, hm, hm3⟩ : ∃ m : Nat, ((z : Int).tmod 3) = (m : Int) ∧ m < 3 := ⟨z % 3, by rw [Int.tmod_eq_emod_of_nonneg (by omega)]; omega, Nat.mod_lt _ (by decide)⟩
  clear hs1000 hs4
  go_enter Tryz.func5, Tryz.ntmps5
  go_wp2_with (first
    | (go_at_call 9; refine (CN.out _ _ _ _ S3.out _ firstS (by decide) C3.out N3.out).mono ?_; rintro e w4 ⟨ba, rfl, hs4, hb4⟩; have S4 := Lib.hid hs4; have B4 := Lib.hid (B3.out.trans (hb4.mono B3.out.size)); clear hs4 hb4)
    | (go_at_call 8; refine (CM.out _ _ C1.out).mono ?_; rintro e w2 ⟨b, nb, p, rfl, hs2, hb2⟩; have S2 := Lib.hid (hs2.less (fun k hk => Nat.lt_of_lt_of_le hk B1.out.size)); have B2 := Lib.hid (B1.out.trans (hb2.mono B1.out.size)); clear hs2 hb2)
    | (go_at_call 23; refine (CT.out w2).mono ?_; rintro e w3 ⟨ao3, rfl, hC3, hn3, hb3⟩; have S3 := Lib.hid (S2.out.below (TT.out b nb) hb3); have B3 := Lib.hid (B2.out.trans (hb3.mono B2.out.size)); have C3 := Lib.hid hC3; have N3 := Lib.hid hn3; clear hC3 hn3 hb3)
    | (go_at_call 23; refine (CT.out w).mono ?_; rintro e w1 ⟨ao1, rfl, hC1, hn1, hb1⟩; have B1 := Lib.hid hb1; have C1 := Lib.hid hC1; clear hC1 hn1 hb1))
  go_loopw [9] (fun i wr => ∃ k : Nat, i = .int .i64 k ∧ k ≤ 3 ∧ Hid (Side (HG b nb) (AG ba) (fun j => j < w.heap.size) wr (fstH k).1 (fstH k).2) ∧ Hid (Below w.heap.size w wr)) (fun i _ => 3 - (intOf i).toNat)
  case atStart => exact ⟨0, rfl, by omega, S4, B4⟩
  case round =>
    obtain ⟨k, rfl, hk, HT, HB⟩ := hrel
    by_cases hlt : k < 3
    · obtain ⟨h6, hq⟩ := fst_small k hlt
      have HU := Lib.hid (show (fstH k).1.n.l.used.length ≤ 100000 from by rw [(fst_used k hk).1]; exact tw_used)
      have HAS := Lib.hid (asks_yes h6)
      have HSQ := Lib.hid hq
      have k3 : (k : Int) < 3 := by omega
      clear h6 hq
      go_wp2_with (first
        | (go_at_call 11; refine (sa_hear AS (TT.out b nb) T2.out).mono ?_; rintro e v3 ⟨rfl, hs3, hk3⟩; have T3 := Lib.hid hs3; have V3 := Lib.hid (V2.out.trans (hk3.toBelow V2.out.size (fun j h => h))); clear hs3 hk3)
        | (go_at_call 12; refine (sa_hask HS (TA.out ba) T1.out (fate := 0) SQ.out.kind (ZZ.out _ (by have := SQ.out.unit; simp only [akN] at this; omega)) (ZZ.out _ (by have := SQ.out.epoch; simp only [akN] at this; omega)) (ZZ.out _ (by have := SQ.out.page; simp only [akN] at this; omega)) (Nat.le_trans SQ.out.data (by decide)) HU.out (ZZ.out 0 (by omega))).mono ?_; rintro e v2 ⟨xc, xn, xm, xz, xe, xd, vo, vc, c, hc, rfl, hx2, hs2, hk2⟩; obtain rfl : c = true := hc; have T2 := Lib.hid hs2; have HX2 := Lib.hid hx2; have V2 := Lib.hid (V1.out.trans (hk2.toBelow V1.out.size (fun j h => h))); clear hs2 hk2 hx2)
        | (go_at_call 10; refine (sa_ask AS (TT.out b nb) HT.out).mono ?_; rw [HAS.out]; rintro e v1 ⟨kd, un, qe, pg, qs, hq1, rfl, hs1, hk1⟩; have HQ1 := Lib.hid hq1; have SQ := Lib.hid (show SmallQ (akN kd un qe pg qs) from hq1 ▸ HSQ.out); have T1 := Lib.hid (hs1.below (TT.out b nb) (TA.out ba) (below_new v1 (.cells #[.int .i64 kd, .int .i64 un, .int .i64 qe, .int .i64 pg, .int .i64 0, .int .i64 0, .string qs, .int .i64 0, .slice none 0 0] 35))); have V0 := Lib.hid (HB.out.trans (hk1.toBelow HB.out.size (fun j h => h))); have V1 := Lib.hid (V0.out.trans ((below_new v1 (.cells #[.int .i64 kd, .int .i64 un, .int .i64 qe, .int .i64 pg, .int .i64 0, .int .i64 0, .string qs, .int .i64 0, .slice none 0 0] 35)).mono V0.out.size)); clear hq1 hs1 hk1))
      refine ⟨⟨k + 1, by go_num, by omega, Lib.hid ?_, V3⟩, by simp [intOf]; omega⟩
      show Side _ _ _ _ ((fstH k).1.asked (fstH k).2.ask 0) ((fstH k).2.hear ((fstH k).1.heard (fstH k).2.ask 0) true)
      have e : (fstH k).1.heard (akN kd un qe pg qs) 0 = ⟨xc, xn, xd, 0, [], xm, xz, xe⟩ := HX2.out
      rw [HQ1.out, e]
      exact T3.out
    · obtain rfl : k = 3 := by omega
      have HL := Lib.hid (HT.out.left)
      have HF0 := Lib.hid (FulA.start m HS4.out)
      have HR := Lib.hid (show s.size ≤ 1000000 from Nat.le_trans HS4.out (by decide))
      have HN0 := Lib.hid fst_full
      clear HT
      generalize (fstH 3).1 = h0 at *
      go_wp2_with (first
        | (go_at_call 9; refine (CN.out _ _ _ _ S5.out _ s HR.out C5.out N5.out).mono ?_; rintro e w6 ⟨bx, rfl, hs6, hb6⟩; have S6 := Lib.hid hs6; have B6 := Lib.hid (B5.out.trans (hb6.mono B5.out.size)); clear hs6 hb6)
        | (go_at_call 23; refine (CT.out _).mono ?_; rintro e w5 ⟨ao5, rfl, hC5, hn5, hb5⟩; have S5 := Lib.hid (HL.out.below (TT.out b nb) hb5); have B5 := Lib.hid (HB.out.trans (hb5.mono HB.out.size)); have C5 := Lib.hid hC5; have N5 := Lib.hid hn5; clear hC5 hn5 hb5))
      clear HB HL
      go_loopw [14] (fun i wr => ∃ (k : Nat) (h : Hd) (a : Ap), i = .int .i64 k ∧ k ≤ m + 2 ∧ Hid (FulA s m k a) ∧ Hid (FulN (fulT k) h.n) ∧ Hid (Side (HG b nb) (AG bx) (fun j => j < w.heap.size) wr h a) ∧ Hid (Below w.heap.size w wr)) (fun i _ => 10 - (intOf i).toNat)
      case atStart => exact ⟨0, h0, _, rfl, Nat.zero_le _, HF0, HN0, S6, B6⟩
      case round =>
        clear S6 B6 HF0 HN0
        obtain ⟨k, h, a, rfl, hk, HF, HN, HT, HB⟩ := hrel
        have k10 : (k : Int) < 10 := by omega
        by_cases h6 : a.at_ = 6
        · have HAS := Lib.hid (asks_no h6)
          have HE := Lib.hid (show a.overE = (if 1 ≤ m then 69 else 44) ∧ a.overB = true from by
            rcases HF.out.st with g | g | g
            · omega
            · omega
            · exact ⟨by unfold Ap.overE; rw [if_pos h6, g.2.2], decide_eq_true h6⟩)
          have EE := Lib.hid (show (m : Int) < 1 ∨ 1 ≤ (m : Int) from by omega)
          clear h6
          rcases EE.out with em | em
          · rw [if_neg (show ¬ 1 ≤ m by omega)] at HE
            go_wp2_with (first
              | (go_at_call 7; refine (CW.out _).mono ?_; rintro e v5 ⟨rfl, hb5⟩; have V5 := Lib.hid (V4.out.trans (hb5.mono V4.out.size)); clear hb5)
              | (go_at_call 14; refine (sa_over AS (TT.out b nb) T1.out).mono ?_; rw [HE.out.1, HE.out.2]; generalize a.overA = oa; rintro e v4 ⟨rfl, hs4, hb4⟩; have V4 := Lib.hid (V1.out.trans (hb4.mono V1.out.size)); clear hs4 hb4)
              | (go_at_call 10; refine (sa_ask AS (TT.out b nb) HT.out).mono ?_; rw [HAS.out]; rintro e v1 ⟨kd, un, qe, pg, qs, hq1, rfl, hs1, hk1⟩; have T1 := Lib.hid (hs1.below (TT.out b nb) (TA.out bx) (below_new v1 (.cells #[.int .i64 kd, .int .i64 un, .int .i64 qe, .int .i64 pg, .int .i64 0, .int .i64 0, .string qs, .int .i64 0, .slice none 0 0] 35))); have V0 := Lib.hid (HB.out.trans (hk1.toBelow HB.out.size (fun j h => h))); have V1 := Lib.hid (V0.out.trans ((below_new v1 (.cells #[.int .i64 kd, .int .i64 un, .int .i64 qe, .int .i64 pg, .int .i64 0, .int .i64 0, .string qs, .int .i64 0, .slice none 0 0] 35)).mono V0.out.size)); clear hq1 hs1 hk1))
            go_ret
            exact ⟨rfl, V5.out⟩
          · rw [if_pos (show 1 ≤ m by omega)] at HE
            go_wp2_with (first
              | (go_at_call 7; refine (CW.out _).mono ?_; rintro e v5 ⟨rfl, hb5⟩; have V5 := Lib.hid (V4.out.trans (hb5.mono V4.out.size)); clear hb5)
              | (go_at_call 14; refine (sa_over AS (TT.out b nb) T1.out).mono ?_; rw [HE.out.1, HE.out.2]; generalize a.overA = oa; rintro e v4 ⟨rfl, hs4, hb4⟩; have V4 := Lib.hid (V1.out.trans (hb4.mono V1.out.size)); clear hs4 hb4)
              | (go_at_call 10; refine (sa_ask AS (TT.out b nb) HT.out).mono ?_; rw [HAS.out]; rintro e v1 ⟨kd, un, qe, pg, qs, hq1, rfl, hs1, hk1⟩; have T1 := Lib.hid (hs1.below (TT.out b nb) (TA.out bx) (below_new v1 (.cells #[.int .i64 kd, .int .i64 un, .int .i64 qe, .int .i64 pg, .int .i64 0, .int .i64 0, .string qs, .int .i64 0, .slice none 0 0] 35))); have V0 := Lib.hid (HB.out.trans (hk1.toBelow HB.out.size (fun j h => h))); have V1 := Lib.hid (V0.out.trans ((below_new v1 (.cells #[.int .i64 kd, .int .i64 un, .int .i64 qe, .int .i64 pg, .int .i64 0, .int .i64 0, .string qs, .int .i64 0, .slice none 0 0] 35)).mono V0.out.size)); clear hq1 hs1 hk1))
            go_ret
            exact ⟨rfl, V5.out⟩
        · have HAS := Lib.hid (asks_yes h6)
          have HSQ := Lib.hid (HF.out.small HS4.out h6)
          have HU := Lib.hid (show h.n.l.used.length ≤ 100000 from by rw [HN.out.l]; exact tw_used)
          have HNX := Lib.hid (HF.out.turn HN.out HS4.out (by omega) h6)
          have hk1 : k + 1 ≤ m + 2 := by
            rcases HF.out.st with g | g | g
            · omega
            · omega
            · exact absurd g.2.1 h6
          clear h6
          by_cases hkd : a.ask.kind = 1
          · by_cases hkm : k ≤ m
            · have f0 : fulF m k a = 1 := if_pos ⟨hkd, hkm⟩
              rw [f0, show decide ((1 : Int) = 0) = false from rfl] at HNX
              have HKD := Lib.hid hkd
              have hkm2 : (k : Int) ≤ (m : Int) := by omega
              clear f0 hkd hkm
              go_wp2_with (first
        | (go_at_call 11; refine (sa_hear AS (TT.out b nb) T2.out).mono ?_; rintro e v3 ⟨rfl, hs3, hk3⟩; have T3 := Lib.hid hs3; have V3 := Lib.hid (V2.out.trans (hk3.toBelow V2.out.size (fun j h => h))); clear hs3 hk3)
        | (go_at_call 12; refine (sa_hask HS (TA.out bx) T1.out (fate := 1) SQ.out.kind (ZZ.out _ (by have := SQ.out.unit; simp only [akN] at this; omega)) (ZZ.out _ (by have := SQ.out.epoch; simp only [akN] at this; omega)) (ZZ.out _ (by have := SQ.out.page; simp only [akN] at this; omega)) (Nat.le_trans SQ.out.data (by decide)) HU.out (ZZ.out 1 (by omega))).mono ?_; rintro e v2 ⟨xc, xn, xm, xz, xe, xd, vo, vc, c, hc, rfl, hx2, hs2, hk2⟩; obtain rfl : c = false := hc; have T2 := Lib.hid hs2; have HX2 := Lib.hid hx2; have V2 := Lib.hid (V1.out.trans (hk2.toBelow V1.out.size (fun j h => h))); clear hs2 hk2 hx2)
        | (go_at_call 10; refine (sa_ask AS (TT.out b nb) HT.out).mono ?_; rw [HAS.out]; rintro e v1 ⟨kd, un, qe, pg, qs, hq1, rfl, hs1, hk1⟩; have hd : (kd == 1) = true := (by have := HKD.out; rw [hq1] at this; exact beq_iff_eq.2 this); have HQ1 := Lib.hid hq1; have SQ := Lib.hid (show SmallQ (akN kd un qe pg qs) from hq1 ▸ HSQ.out); have T1 := Lib.hid (hs1.below (TT.out b nb) (TA.out bx) (below_new v1 (.cells #[.int .i64 kd, .int .i64 un, .int .i64 qe, .int .i64 pg, .int .i64 0, .int .i64 0, .string qs, .int .i64 0, .slice none 0 0] 35))); have V0 := Lib.hid (HB.out.trans (hk1.toBelow HB.out.size (fun j h => h))); have V1 := Lib.hid (V0.out.trans ((below_new v1 (.cells #[.int .i64 kd, .int .i64 un, .int .i64 qe, .int .i64 pg, .int .i64 0, .int .i64 0, .string qs, .int .i64 0, .slice none 0 0] 35)).mono V0.out.size)); clear hq1 hs1 hk1))
              refine ⟨⟨k + 1, h.asked a.ask 1, a.hear (h.heard a.ask 1) false, by go_num, hk1, Lib.hid HNX.out.1, Lib.hid HNX.out.2.1, Lib.hid ?_, V3⟩, by simp [intOf]; omega⟩
              have e : h.heard (akN kd un qe pg qs) 1 = ⟨xc, xn, xd, 0, [], xm, xz, xe⟩ := HX2.out
              rw [HQ1.out, e]
              exact T3.out
            · have f0 : fulF m k a = 0 := if_neg (fun g => hkm g.2)
              rw [f0, show decide ((0 : Int) = 0) = true from rfl] at HNX
              have HKD := Lib.hid hkd
              have hkm2 : ¬ (k : Int) ≤ (m : Int) := by omega
              clear f0 hkd hkm
              go_wp2_with (first
        | (go_at_call 11; refine (sa_hear AS (TT.out b nb) T2.out).mono ?_; rintro e v3 ⟨rfl, hs3, hk3⟩; have T3 := Lib.hid hs3; have V3 := Lib.hid (V2.out.trans (hk3.toBelow V2.out.size (fun j h => h))); clear hs3 hk3)
        | (go_at_call 12; refine (sa_hask HS (TA.out bx) T1.out (fate := 0) SQ.out.kind (ZZ.out _ (by have := SQ.out.unit; simp only [akN] at this; omega)) (ZZ.out _ (by have := SQ.out.epoch; simp only [akN] at this; omega)) (ZZ.out _ (by have := SQ.out.page; simp only [akN] at this; omega)) (Nat.le_trans SQ.out.data (by decide)) HU.out (ZZ.out 0 (by omega))).mono ?_; rintro e v2 ⟨xc, xn, xm, xz, xe, xd, vo, vc, c, hc, rfl, hx2, hs2, hk2⟩; obtain rfl : c = true := hc; have T2 := Lib.hid hs2; have HX2 := Lib.hid hx2; have V2 := Lib.hid (V1.out.trans (hk2.toBelow V1.out.size (fun j h => h))); clear hs2 hk2 hx2)
        | (go_at_call 10; refine (sa_ask AS (TT.out b nb) HT.out).mono ?_; rw [HAS.out]; rintro e v1 ⟨kd, un, qe, pg, qs, hq1, rfl, hs1, hk1⟩; have hd : (kd == 1) = true := (by have := HKD.out; rw [hq1] at this; exact beq_iff_eq.2 this); have HQ1 := Lib.hid hq1; have SQ := Lib.hid (show SmallQ (akN kd un qe pg qs) from hq1 ▸ HSQ.out); have T1 := Lib.hid (hs1.below (TT.out b nb) (TA.out bx) (below_new v1 (.cells #[.int .i64 kd, .int .i64 un, .int .i64 qe, .int .i64 pg, .int .i64 0, .int .i64 0, .string qs, .int .i64 0, .slice none 0 0] 35))); have V0 := Lib.hid (HB.out.trans (hk1.toBelow HB.out.size (fun j h => h))); have V1 := Lib.hid (V0.out.trans ((below_new v1 (.cells #[.int .i64 kd, .int .i64 un, .int .i64 qe, .int .i64 pg, .int .i64 0, .int .i64 0, .string qs, .int .i64 0, .slice none 0 0] 35)).mono V0.out.size)); clear hq1 hs1 hk1))
              refine ⟨⟨k + 1, h.asked a.ask 0, a.hear (h.heard a.ask 0) true, by go_num, hk1, Lib.hid HNX.out.1, Lib.hid HNX.out.2.1, Lib.hid ?_, V3⟩, by simp [intOf]; omega⟩
              have e : h.heard (akN kd un qe pg qs) 0 = ⟨xc, xn, xd, 0, [], xm, xz, xe⟩ := HX2.out
              rw [HQ1.out, e]
              exact T3.out
          · have f0 : fulF m k a = 0 := if_neg (fun g => hkd g.1)
            rw [f0, show decide ((0 : Int) = 0) = true from rfl] at HNX
            have HKD := Lib.hid hkd
            clear f0 hkd
            go_wp2_with (first
        | (go_at_call 11; refine (sa_hear AS (TT.out b nb) T2.out).mono ?_; rintro e v3 ⟨rfl, hs3, hk3⟩; have T3 := Lib.hid hs3; have V3 := Lib.hid (V2.out.trans (hk3.toBelow V2.out.size (fun j h => h))); clear hs3 hk3)
        | (go_at_call 12; refine (sa_hask HS (TA.out bx) T1.out (fate := 0) SQ.out.kind (ZZ.out _ (by have := SQ.out.unit; simp only [akN] at this; omega)) (ZZ.out _ (by have := SQ.out.epoch; simp only [akN] at this; omega)) (ZZ.out _ (by have := SQ.out.page; simp only [akN] at this; omega)) (Nat.le_trans SQ.out.data (by decide)) HU.out (ZZ.out 0 (by omega))).mono ?_; rintro e v2 ⟨xc, xn, xm, xz, xe, xd, vo, vc, c, hc, rfl, hx2, hs2, hk2⟩; obtain rfl : c = true := hc; have T2 := Lib.hid hs2; have HX2 := Lib.hid hx2; have V2 := Lib.hid (V1.out.trans (hk2.toBelow V1.out.size (fun j h => h))); clear hs2 hk2 hx2)
        | (go_at_call 10; refine (sa_ask AS (TT.out b nb) HT.out).mono ?_; rw [HAS.out]; rintro e v1 ⟨kd, un, qe, pg, qs, hq1, rfl, hs1, hk1⟩; have hd : (kd == 1) = false := (by have := HKD.out; rw [hq1] at this; exact beq_eq_false_iff_ne.2 this); have HQ1 := Lib.hid hq1; have SQ := Lib.hid (show SmallQ (akN kd un qe pg qs) from hq1 ▸ HSQ.out); have T1 := Lib.hid (hs1.below (TT.out b nb) (TA.out bx) (below_new v1 (.cells #[.int .i64 kd, .int .i64 un, .int .i64 qe, .int .i64 pg, .int .i64 0, .int .i64 0, .string qs, .int .i64 0, .slice none 0 0] 35))); have V0 := Lib.hid (HB.out.trans (hk1.toBelow HB.out.size (fun j h => h))); have V1 := Lib.hid (V0.out.trans ((below_new v1 (.cells #[.int .i64 kd, .int .i64 un, .int .i64 qe, .int .i64 pg, .int .i64 0, .int .i64 0, .string qs, .int .i64 0, .slice none 0 0] 35)).mono V0.out.size)); clear hq1 hs1 hk1))
            refine ⟨⟨k + 1, h.asked a.ask 0, a.hear (h.heard a.ask 0) true, by go_num, hk1, Lib.hid HNX.out.1, Lib.hid HNX.out.2.1, Lib.hid ?_, V3⟩, by simp [intOf]; omega⟩
            have e : h.heard (akN kd un qe pg qs) 0 = ⟨xc, xn, xd, 0, [], xm, xz, xe⟩ := HX2.out
            rw [HQ1.out, e]
            exact T3.out

set_option maxRecDepth 100000 in
theorem appendFull_lifted (os : Os) (started : os.Started) (H : Type) (enc : TypeId × Value → H) :
    ReturnsInHanded {} Tryz.checked os 5 .any (Rows.appendFullSpec.pre6 enc Tryz.prog Tryz.f5 Rows.appendFullRow.domain false) (Rows.appendFullSpec.post enc Tryz.prog Tryz.f5 false true false false) := by
  refine returnsInHanded_of_change (C := Tryz.checked) own started (by kernel_rfl) Tryz.func5
    (ChangeSpec.witness6 (enc := enc) (C := Tryz.checked) false ⟨#[], #[.string ByteArray.empty, .int .u8 0], []⟩ 8 (by kernel_rfl) (by kernel_rfl) (by kernel_rfl) (by kernel_rfl)) ?_
  intro W base args ds gs before hval0 hW hcnd _
  have hval : ∀ (j : Nat) t v, Tryz.f5.params[j]? = some t → args[j]? = some v → Value.okWide Tryz.prog W .any base t v := hval0
  have hW' := hW
  obtain ⟨p, q, hA0, hV, rfl, hfz, hnd⟩ := hW
  have hA : DataW.TrodAll enc Tryz.prog W 0 (fun _ => true) true Tryz.f5.params.toList args.toList ds p := hA0
  rw [Tryz.params5] at hA hval
  obtain ⟨v0, vs0, d0, ds0, p0, q0, hargs, rfl, rfl, h0, r0⟩ := trodAll_cons hA
  obtain ⟨v1, vs1, d1, ds1, p1, q1, rfl, rfl, rfl, h1, r1⟩ := trodAll_cons r0
  obtain ⟨rfl, rfl, rfl⟩ := trodAll_nil r1
  obtain rfl : args = #[v0, v1] := by cases args; simp_all
  obtain ⟨rfl, rfl⟩ := trodVars_none hV
  have k0 := h0
  have lt0 : ∀ x ∈ p0, x.block < W.heap.size := by obtain ⟨m, hm⟩ := k0; exact DataW.trod_lt m _ _ _ hm
  have k1 := h1
  have lt1 : ∀ x ∈ p1, x.block < W.heap.size := by obtain ⟨m, hm⟩ := k1; exact DataW.trod_lt m _ _ _ hm
  obtain ⟨a0, rfl, rfl, rfl, w0⟩ := open_string Tryz.underlying9 (hval 0 9 v0 rfl rfl) h0
  obtain ⟨a1, rfl, rfl, rfl, w1⟩ := open_int Tryz.underlying5 (hval 1 5 v1 rfl rfl) h1
  clear hA0 hval0
  refine (appendFull_walk handSays appSays readSays a0 a1 w0 w1 W).mono fun e W' ⟨he, bel⟩ => ?_
  subst he
  exact ⟨_, rfl, _, _, _, [], _, [], hW', trodAll_mk1 (shut_bool Tryz.underlying4 _), (trodAll_cons_mk (Below.trod laidOut (by kernel_rfl) (of_decide_eq_true (by kernel_rfl)) k0 bel lt0) (trodAll_cons_mk (Below.trod laidOut (by kernel_rfl) (of_decide_eq_true (by kernel_rfl)) k1 bel lt1) trodAll_mk0)), rfl, bel.frame _, fun h => by cases h⟩

theorem appendFull_over : Rows.appendFullRow.holds Tryz.pinned (OpenSpec.ofChange Rows.appendFullSpec) :=
  OpenClaim.holds_of_wide 5 Tryz.f5 rfl rfl rfl rfl rfl rfl rfl ⟨rfl, rfl, rfl, rfl, rfl⟩ rfl rfl rfl rfl rfl (by kernel_rfl) Tryz.func5 (by kernel_rfl)
    (of_decide_eq_true (by kernel_rfl)) (by unfold Func.isWrapper; first | (rw [if_pos (by decide +kernel)]; kernel_rfl) | (rw [if_neg (by decide +kernel)]; exact ⟨rfl, rfl⟩))
    (fun os started H enc _ => appendFull_lifted os started H enc)

/-- THE STATEMENT -/
theorem appendFull_holds : Rows.AppendFullSaid := appendFull_over 
end Go.Proofs.YtimjlfkdbkafeaaGreat
