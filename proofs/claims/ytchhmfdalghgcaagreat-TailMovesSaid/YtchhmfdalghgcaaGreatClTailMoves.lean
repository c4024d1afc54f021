/- The law TailMoves: as long as the sequencer knows nothing it is asked again; the tail is found by way of the layout. Conditions: none. (Written by gen/gentailmoves.py.) -/
import Derived.Test.YtchhmfdalghgcaaGreatG31a
import Derived.Test.YtchhmfdalghgcaaGreatG29a
import Derived.Test.YtchhmfdalghgcaaGreatG32a
import Derived.Test.YtchhmfdalghgcaaGreatG08b
import Derived.Deep.RegionHeld3
namespace Go.Proofs.YtchhmfdalghgcaaGreat
open Go.ChangeShapes Go.WideShapes Go.ChangeAt Go.RowKit
open Go.ChangeMaps (open_string shut_string)
set_option linter.unusedVariables false
set_option maxRecDepth 20000
theorem new_at3 {w2 W : World} (h : W.heap.size = w2.heap.size + 2) (x : Obj) : (W.alloc x).heap[w2.heap.size + 1 + 1]? = some x := by
  rw [show w2.heap.size + 1 + 1 = W.heap.size by omega]
  exact heap_alloc_new W x
theorem two_cellsM {W : World} {g : Nat} {t : TypeId} {x y : Value} (h : W.heap[g]? = some (.cells #[x, y] t (0, 0))) : W.cell? ⟨g, 0, none⟩ = some x ∧ W.cell? ⟨g, 1, none⟩ = some y := ⟨cell_of h 0, cell_of h 1⟩
set_option maxHeartbeats 16000000 in
theorem tailMoves_walk {UG : Nat → Nat → (Nat → Prop) → World → Us → Prop} {OG : Nat → (Nat → Prop) → World → Od → Prop} {LG : Nat → (Nat → Prop) → World → Ly → Prop} {NG : Nat → (Nat → Prop) → World → Nd → Prop} {HG : Nat → Nat → (Nat → Prop) → World → Hd → Prop} {TG : Nat → (Nat → Prop) → World → Tl → Prop} (HS : HandSays UG OG LG NG HG) (TS : TailSays TG) (x : Int) (wx : (Lit.int .u16 x).wf = true) (w : World) :
    Calls Tryz.prog 4 #[.int .u16 x] w fun e w' => e = .returned (.bool true) ∧ Below w.heap.size w w' := by
  obtain ⟨x0, x1⟩ : 0 ≤ x ∧ x < 65536 := by
    have h := wx
    simp [Lit.wf] at h
    have e1 : IntKind.u16.min = 0 := by decide
    have e2 : IntKind.u16.max = 65535 := by decide
    omega
  clear wx
  obtain ⟨z, rfl⟩ : ∃ z : Nat, x = z := ⟨x.toNat, by omega⟩
  obtain ⟨n, hn, hn1⟩ : ∃ n : Nat, ((z : Int).tmod 16385) = (n : Int) ∧ n < 16385 := ⟨z % 16385, by rw [Int.tmod_eq_emod_of_nonneg (by omega)]; omega, Nat.mod_lt _ (by decide)⟩
  have CW := Lib.hid (fun w => wakes17_any HS TS w)
  have ZZ := Lib.hid (fun (x : Int) (h : 0 ≤ x ∧ x ≤ 20000) => show i64w x from WalkArith.wf_i64 (by omega))
  have TT := Lib.hid (fun b nb => HS.thing b nb)
  have TA := Lib.hid (fun b => TS.thing b)
  have CT := Lib.hid two17_any
  have CM := Lib.hid (fun ao w hC => made17_two HS ao twT 1 rfl 9 w hC few_twT (by decide +kernel) (by decide))
  obtain ⟨lxn, lxm, lxz, hml⟩ := mv3_hl (n := (n : Int)) ⟨by omega, by omega⟩
  have ML := Lib.hid hml
  have MN := Lib.hid (show (0 : Int) ≤ n ∧ (n : Int) ≤ 16384 from ⟨by omega, by omega⟩)
  clear hml
  have M3 := Lib.hid (mv3_is (n := (n : Int)) ⟨by omega, by omega⟩)
  go_enter Tryz.func4, Tryz.ntmps4
  go_wp2_with (first
    | (go_at_call 6; refine (CM.out _ _ C1.out).mono ?_; rintro e w2 ⟨b, nb, p, rfl, hs2, hb2⟩; have S2 := Lib.hid (show Solo (HG b nb) (fun k => k < w.heap.size) w2 mv0 from hs2.less (fun k hk => Nat.lt_of_lt_of_le hk B1.out.size)); have B2 := Lib.hid (B1.out.trans (hb2.mono B1.out.size)); clear hs2 hb2)
    | (go_at_call 7; refine (CT.out w).mono ?_; rintro e w1 ⟨ao1, rfl, hC1, hn1, hb1⟩; have B1 := Lib.hid hb1; have C1 := Lib.hid hC1; clear hC1 hn1 hb1))
  have HS0 := Lib.hid (show ((w2.alloc (.cells #[.int .i64 1, .int .i64 5] 3)).alloc (.cells #[.slice (some ⟨w2.heap.size, 0, none⟩) 2 2] 44)).heap.size = w2.heap.size + 2 from lit1_size w2 [1, 5])
  have HB3 := Lib.hid (show Below w2.heap.size w2 ((w2.alloc (.cells #[.int .i64 1, .int .i64 5] 3)).alloc (.cells #[.slice (some ⟨w2.heap.size, 0, none⟩) 2 2] 44)) from lit1_below w2 [1, 5])
  have HC4 := Lib.hid (show CG (fun k => w2.heap.size ≤ k ∧ k < ((w2.alloc (.cells #[.int .i64 1, .int .i64 5] 3)).alloc (.cells #[.slice (some ⟨w2.heap.size, 0, none⟩) 2 2] 44)).heap.size) (((w2.alloc (.cells #[.int .i64 1, .int .i64 5] 3)).alloc (.cells #[.slice (some ⟨w2.heap.size, 0, none⟩) 2 2] 44)).alloc (.cells #[.int .i64 1, .slice (some ⟨w2.heap.size + 1, 0, none⟩) 1 1] 29)) (.slice (some ⟨w2.heap.size + 1, 0, none⟩) 1 1) [[1, 5]] from (show CG (fun k => w2.heap.size ≤ k ∧ k < ((w2.alloc (.cells #[.int .i64 1, .int .i64 5] 3)).alloc (.cells #[.slice (some ⟨w2.heap.size, 0, none⟩) 2 2] 44)).heap.size) ((w2.alloc (.cells #[.int .i64 1, .int .i64 5] 3)).alloc (.cells #[.slice (some ⟨w2.heap.size, 0, none⟩) 2 2] 44)) (.slice (some ⟨w2.heap.size + 1, 0, none⟩) 1 1) [[1, 5]] from lit1_chain w2 (l := [1, 5]) (num_small (by simp))).keep (Kept.ofBelow (below_new ((w2.alloc (.cells #[.int .i64 1, .int .i64 5] 3)).alloc (.cells #[.slice (some ⟨w2.heap.size, 0, none⟩) 2 2] 44)) (.cells #[.int .i64 1, .slice (some ⟨w2.heap.size + 1, 0, none⟩) 1 1] 29)) (fun _ => True)) (fun _ _ => trivial))
  have HB4 := Lib.hid (HB3.out.trans ((below_new ((w2.alloc (.cells #[.int .i64 1, .int .i64 5] 3)).alloc (.cells #[.slice (some ⟨w2.heap.size, 0, none⟩) 2 2] 44)) (.cells #[.int .i64 1, .slice (some ⟨w2.heap.size + 1, 0, none⟩) 1 1] 29)).mono HB3.out.size))
  have HQ4 := Lib.hid (new_at3 HS0.out (.cells #[.int .i64 1, .slice (some ⟨w2.heap.size + 1, 0, none⟩) 1 1] 29))
  have HCS := Lib.hid (show ∀ k, (w2.heap.size ≤ k ∧ k < ((w2.alloc (.cells #[.int .i64 1, .int .i64 5] 3)).alloc (.cells #[.slice (some ⟨w2.heap.size, 0, none⟩) 2 2] 44)).heap.size) → (k < w.heap.size ∨ (w2.heap.size ≤ k ∧ k < (((w2.alloc (.cells #[.int .i64 1, .int .i64 5] 3)).alloc (.cells #[.slice (some ⟨w2.heap.size, 0, none⟩) 2 2] 44)).alloc (.cells #[.int .i64 1, .slice (some ⟨w2.heap.size + 1, 0, none⟩) 1 1] 29)).heap.size)) from fun k hk => .inr ⟨hk.1, by have := (below_new ((w2.alloc (.cells #[.int .i64 1, .int .i64 5] 3)).alloc (.cells #[.slice (some ⟨w2.heap.size, 0, none⟩) 2 2] 44)) (.cells #[.int .i64 1, .slice (some ⟨w2.heap.size + 1, 0, none⟩) 1 1] 29)).size; omega⟩)
  generalize hw3 : ((w2.alloc (.cells #[.int .i64 1, .int .i64 5] 3)).alloc (.cells #[.slice (some ⟨w2.heap.size, 0, none⟩) 2 2] 44)) = w3 at *
  generalize hw4 : w3.alloc _ = w4 at *
  have S4 := Lib.hid (S2.out.wider (TT.out b nb) HB4.out)
  have B4 := Lib.hid (B2.out.trans (HB4.out.mono B2.out.size))
  have HXQ := Lib.hid (show (fun k => k < w.heap.size ∨ (w2.heap.size ≤ k ∧ k < w4.heap.size)) (w2.heap.size + 1 + 1) from .inr ⟨by omega, lt_of_block HQ4.out⟩)
  have AKO := Lib.hid (show AkOk ⟨10, 0, 0, 0, 0, 0, ⟨#[]⟩, 1, mvL, some ⟨w2.heap.size + 1, 0, none⟩, 1⟩ from ⟨ZZ.out 10 (by omega), ZZ.out 0 (by omega), ZZ.out 0 (by omega), ZZ.out 0 (by omega), ZZ.out 0 (by omega), ZZ.out 0 (by omega), show (⟨#[]⟩ : ByteArray).size ≤ maxLen by decide, ZZ.out 1 (by omega), show mvL.length ≤ maxLen by decide, show ∀ c ∈ mvL, c.length ≤ maxLen by decide, fun e => (by cases e), Nat.le_refl _⟩)
  have FW2 := Lib.hid (show mvL.length ≤ 1000000 ∧ ∀ c ∈ mvL, c.length ≤ 1000000 from ⟨by decide, by decide⟩)
  have FWL := Lib.hid (show fewL mvL from ⟨by decide, by decide⟩)
  go_wp2_with (first
    | (go_at_call 15; refine (st_new TS (TT.out b nb) S9.out (ep := 0) (ao := ao9) (cap := 1) (L := twT) C9.out few_twT N9.out (Nat.le_refl _) (ZZ.out 0 (by omega))).mono ?_; rw [newTl_tw]; rintro e w10 ⟨bt, rfl, hs, hb⟩; have S10 := Lib.hid hs; have K10 := Lib.hid (K9.out.below hb); clear hs hb)
    | (go_at_call 7; refine (CT.out w8).mono ?_; rintro e w9 ⟨ao9, rfl, hC, hn9, hb⟩; have S9 := Lib.hid (S8.out.below (TT.out b nb) hb); have K9 := Lib.hid (K8.out.below hb); have C9 := Lib.hid hC; have N9 := Lib.hid hn9; clear hC hn9 hb)
    | (go_at_call 14; refine (HS.rpc.order_.crash bo F7 w7 _ O7.out).mono ?_; rintro e w8 ⟨rfl, hl⟩; obtain ⟨hs, hk⟩ := BK7.out _ _ hl; have S8 := Lib.hid (show Solo (HG b nb) _ w8 mv2 from hs); have K8 := Lib.hid (K7.out.trans hk); clear hs hk hl)
    | (go_at_call 13; refine (ho_order HS S6.out).mono ?_; rintro e w7 ⟨bo, rfl, hb, F7, ho, hbk⟩; have O7 := Lib.hid ho; have BK7 := Lib.hid hbk; have K7 := Lib.hid (K6.out.below hb); clear hb ho hbk)
    | (go_at_call 12; refine (ho_nodes HS S5.out).mono ?_; rintro e w6 ⟨rfl, hs, hb⟩; have S6 := Lib.hid hs; have K6 := Lib.hid (K5.out.below hb); clear hs hb)
    | (go_at_call 9; refine (ho_brings HS S4.out (a := ⟨10, 0, 0, 0, 0, 0, ⟨#[]⟩, 1, mvL, some ⟨w2.heap.size + 1, 0, none⟩, 1⟩) (fate := 0) AKO.out FWL.out (show (⟨#[]⟩ : ByteArray).size ≤ 1000000 by decide) mv_used.1 (ZZ.out 0 (by omega)) HC4.out HCS.out).mono ?_; rintro e w5 ⟨vo, vc, rfl, hs, hk⟩; have S5 := Lib.hid (show Solo (HG b nb) _ w5 mv1 from hs); have K5 := Lib.hid hk; clear hs hk))
  clear S2 B2 B1 C1 S5 K5 S6 K6 O7 BK7 K7 S8 K8 C9 N9 S9 K9 S4
  go_loopw [9] (fun i wr => ∃ k : Nat, i = .int .i64 k ∧ k ≤ 3 ∧ Hid (Side (HG b nb) (TG bt) (fun k => k < w.heap.size ∨ (w2.heap.size ≤ k ∧ k < w4.heap.size)) wr mv2 (tkM n 0)) ∧ Hid (Kept (fun k => k < w.heap.size ∨ (w2.heap.size ≤ k ∧ k < w4.heap.size)) w4 wr)) (fun i _ => 3 - (intOf i).toNat)
  case atStart => exact ⟨0, rfl, by omega, S10, K10⟩
  case round =>
    clear S10 K10
    obtain ⟨k, rfl, hk, HT, HK⟩ := hrel
    by_cases h3 : k < 3
    · have n0 : (k : Int) < 3 := by omega
      go_wp2_with (first
        | (go_at_call 17; refine (st_hear TS (TT.out b nb) T2.out).mono ?_; rintro e v3 ⟨rfl, hs3, hk3⟩; have T3 := Lib.hid hs3; have V3 := Lib.hid (V2.out.trans (hk3.mono (fun k h => .inl h))); clear hs3 hk3)
        | (go_at_call 9; refine (hs_tell HS (TA.out bt) T1.out (k := 7) (un := 0) (e := 0) (p := 0) (s := ⟨#[]⟩) (fate := 0) (ZZ.out 7 (by omega)) (ZZ.out 0 (by omega)) (ZZ.out 0 (by omega)) (ZZ.out 0 (by omega)) (by decide) mv_used.2.2 (ZZ.out 0 (by omega)) (mv2_h)).mono ?_; rintro e v2 ⟨vo, vc, C, rfl, hC, hs2, hk2⟩; have HC2 := Lib.hid hC; have T2 := Lib.hid hs2; have V2 := Lib.hid (V1.out.trans hk2); clear hs2 hk2 hC)
        | (go_at_call 16; refine (st_ask TS (TT.out b nb) HT.out).mono ?_; rw [show (tkM n 0).asks = true from rfl, show (tkM n 0).ask = akN 7 0 0 0 ⟨#[]⟩ from rfl]; rintro e v1 ⟨kd, un, qe, pg, qs, hq1, rfl, hs1, hk1⟩; obtain ⟨rfl, rfl, rfl, rfl, rfl⟩ : kd = 7 ∧ un = 0 ∧ qe = 0 ∧ pg = 0 ∧ qs = ⟨#[]⟩ := (by injection hq1 with h1 h2 h3 h4 h5 h6 h7 h8 h9 h10 h11; exact ⟨h1.symm, h2.symm, h3.symm, h4.symm, h7.symm⟩); have T1 := Lib.hid (hs1.below (TT.out b nb) (TA.out bt) (below_new v1 (.cells #[.int .i64 7, .int .i64 0, .int .i64 0, .int .i64 0, .int .i64 0, .int .i64 0, .string ⟨#[]⟩, .int .i64 0, .slice none 0 0] 37))); have V1 := Lib.hid ((HK.out.trans hk1).below (below_new v1 (.cells #[.int .i64 7, .int .i64 0, .int .i64 0, .int .i64 0, .int .i64 0, .int .i64 0, .string ⟨#[]⟩, .int .i64 0, .slice none 0 0] 37))); clear hq1 hs1 hk1))

      refine ⟨⟨k + 1, by go_num, by omega, Lib.hid ?_, V3⟩, by simp [intOf]; omega⟩
      have T4 := T3.out
      rw [tk_h47 rfl, tail_asked] at T4
      exact T4.less (fun k h => .inl h)
    · have n0 : ¬ (k : Int) < 3 := by omega
      clear hk h3
      go_wp2_with (first
        | (go_at_call 9; refine (hs_ask HS (TA.out bt) HT.out (k := 8) (un := 0) (e := 1) (p := n) (s := ⟨#[]⟩) (fate := 0) (by omega) (ZZ.out 0 (by omega)) (ZZ.out 1 (by omega)) (ZZ.out n (by omega)) (by decide) mv_used.2.2 (ZZ.out 0 (by omega))).mono ?_; rintro e w11 ⟨xc, xn, xm, xz, xe, xd, vo, vc, c, hc, rfl, hx, hs, hkk⟩; have S11 := Lib.hid (show Side (HG b nb) (TG bt) (fun k => k < w.heap.size ∨ (w2.heap.size ≤ k ∧ k < w4.heap.size)) w11 (mv3 n) (tkM n 0) from hs); have K11 := Lib.hid (HK.out.trans hkk); clear hs hkk hx hc))
      clear HT HK
      go_loopw [12] (fun i wr => ∃ k : Nat, i = .int .i64 k ∧ k ≤ 4 ∧ Hid (Side (HG b nb) (TG bt) (fun k => k < w.heap.size ∨ (w2.heap.size ≤ k ∧ k < w4.heap.size)) wr (mv3 n) (tkM n k)) ∧ Hid (Kept (fun k => k < w.heap.size ∨ (w2.heap.size ≤ k ∧ k < w4.heap.size)) w4 wr)) (fun i _ => 4 - (intOf i).toNat)
      case atStart => exact ⟨0, rfl, by omega, S11, K11⟩
      case round =>
        clear S11 K11
        obtain ⟨k, rfl, hk, HT, HK⟩ := hrel
        obtain hk0 | hk0 | hk0 | hk0 | hk0 : k = 0 ∨ k = 1 ∨ k = 2 ∨ k = 3 ∨ k = 4 := by omega
        · subst hk0
          have n1 : ((0 : Nat) : Int) < 4 := by decide
          go_wp2_with (first
            | (go_at_call 17; refine (st_hear TS (TT.out b nb) T2.out).mono ?_; rintro e v3 ⟨rfl, hs3, hk3⟩; have T3 := Lib.hid hs3; have V3 := Lib.hid (V2.out.trans (hk3.mono (fun k h => .inl h))); clear hs3 hk3)
            | (go_at_call 9; refine (hs_tell HS (TA.out bt) T1.out (k := 7) (un := 0) (e := 0) (p := 0) (s := ⟨#[]⟩) (fate := 0) (ZZ.out 7 (by omega)) (ZZ.out 0 (by omega)) (ZZ.out 0 (by omega)) (ZZ.out 0 (by omega)) (by decide) M3.out.2.2 (ZZ.out 0 (by omega)) (mv3_h0 MN.out)).mono ?_; rintro e v2 ⟨vo, vc, C, rfl, hC, hs2, hk2⟩; have HC2 := Lib.hid hC; have T2 := Lib.hid hs2; have V2 := Lib.hid (V1.out.trans hk2); clear hs2 hk2 hC)
            | (go_at_call 16; refine (st_ask TS (TT.out b nb) HT.out).mono ?_; rw [show (tkM n 0).asks = true from rfl, show (tkM n 0).ask = akN 7 0 0 0 ⟨#[]⟩ from rfl]; rintro e v1 ⟨kd, un, qe, pg, qs, hq1, rfl, hs1, hk1⟩; obtain ⟨rfl, rfl, rfl, rfl, rfl⟩ : kd = 7 ∧ un = 0 ∧ qe = 0 ∧ pg = 0 ∧ qs = ⟨#[]⟩ := (by injection hq1 with h1 h2 h3 h4 h5 h6 h7 h8 h9 h10 h11; exact ⟨h1.symm, h2.symm, h3.symm, h4.symm, h7.symm⟩); have T1 := Lib.hid (hs1.below (TT.out b nb) (TA.out bt) (below_new v1 (.cells #[.int .i64 7, .int .i64 0, .int .i64 0, .int .i64 0, .int .i64 0, .int .i64 0, .string ⟨#[]⟩, .int .i64 0, .slice none 0 0] 37))); have V1 := Lib.hid ((HK.out.trans hk1).below (below_new v1 (.cells #[.int .i64 7, .int .i64 0, .int .i64 0, .int .i64 0, .int .i64 0, .int .i64 0, .string ⟨#[]⟩, .int .i64 0, .slice none 0 0] 37))); clear hq1 hs1 hk1))
          refine ⟨⟨1, by go_num, by omega, Lib.hid ?_, V3⟩, by simp [intOf]⟩
          have T4 := T3.out
          rw [tk_h40 rfl, tail_asked] at T4
          exact T4.less (fun k h => .inl h)
        · subst hk0
          have n1 : ((1 : Nat) : Int) < 4 := by decide
          go_wp2_with (first
            | (go_at_call 17; refine (st_hearL TS (TT.out b nb) T2.out (x := ⟨0, lxn, noL, 1, mvL, lxm, lxz, 0⟩) (vo := vo) (vc := vc) FWL.out (ZZ.out 1 (by omega)) (HC2.out) (fun k h => .inr h)).mono ?_; rintro e v3 ⟨rfl, hs3, hk3⟩; have T3 := Lib.hid hs3; have V3 := Lib.hid (V2.out.trans (hk3.mono (fun k h => .inl h))); clear hs3 hk3)
            | (go_at_call 9; refine (hs_tell HS (TA.out bt) T1.out (k := 9) (un := 0) (e := 0) (p := 0) (s := ⟨#[]⟩) (fate := 0) (ZZ.out 9 (by omega)) (ZZ.out 0 (by omega)) (ZZ.out 0 (by omega)) (ZZ.out 0 (by omega)) (by decide) M3.out.2.2 (ZZ.out 0 (by omega)) (ML.out)).mono ?_; rintro e v2 ⟨vo, vc, C, rfl, hC, hs2, hk2⟩; have HC2 := Lib.hid hC; have T2 := Lib.hid hs2; have V2 := Lib.hid (V1.out.trans hk2); clear hs2 hk2 hC)
            | (go_at_call 16; refine (st_ask TS (TT.out b nb) HT.out).mono ?_; rw [show (tkM n 1).asks = true from rfl, show (tkM n 1).ask = akN 9 0 0 0 ⟨#[]⟩ from rfl]; rintro e v1 ⟨kd, un, qe, pg, qs, hq1, rfl, hs1, hk1⟩; obtain ⟨rfl, rfl, rfl, rfl, rfl⟩ : kd = 9 ∧ un = 0 ∧ qe = 0 ∧ pg = 0 ∧ qs = ⟨#[]⟩ := (by injection hq1 with h1 h2 h3 h4 h5 h6 h7 h8 h9 h10 h11; exact ⟨h1.symm, h2.symm, h3.symm, h4.symm, h7.symm⟩); have T1 := Lib.hid (hs1.below (TT.out b nb) (TA.out bt) (below_new v1 (.cells #[.int .i64 9, .int .i64 0, .int .i64 0, .int .i64 0, .int .i64 0, .int .i64 0, .string ⟨#[]⟩, .int .i64 0, .slice none 0 0] 37))); have V1 := Lib.hid ((HK.out.trans hk1).below (below_new v1 (.cells #[.int .i64 9, .int .i64 0, .int .i64 0, .int .i64 0, .int .i64 0, .int .i64 0, .string ⟨#[]⟩, .int .i64 0, .slice none 0 0] 37))); clear hq1 hs1 hk1))
          refine ⟨⟨2, by go_num, by omega, Lib.hid ?_, V3⟩, by simp [intOf]⟩
          have T4 := T3.out
          rw [tk_hlay, lay_asked] at T4
          exact T4.less (fun k h => .inl h)
        · subst hk0
          have n1 : ((2 : Nat) : Int) < 4 := by decide
          go_wp2_with (first
            | (go_at_call 17; refine (st_hear TS (TT.out b nb) T2.out).mono ?_; rintro e v3 ⟨rfl, hs3, hk3⟩; have T3 := Lib.hid hs3; have V3 := Lib.hid (V2.out.trans (hk3.mono (fun k h => .inl h))); clear hs3 hk3)
            | (go_at_call 9; refine (hs_tell HS (TA.out bt) T1.out (k := 7) (un := 0) (e := 1) (p := 0) (s := ⟨#[]⟩) (fate := 0) (ZZ.out 7 (by omega)) (ZZ.out 0 (by omega)) (ZZ.out 1 (by omega)) (ZZ.out 0 (by omega)) (by decide) M3.out.2.2 (ZZ.out 0 (by omega)) (mv3_h1 MN.out)).mono ?_; rintro e v2 ⟨vo, vc, C, rfl, hC, hs2, hk2⟩; have HC2 := Lib.hid hC; have T2 := Lib.hid hs2; have V2 := Lib.hid (V1.out.trans hk2); clear hs2 hk2 hC)
            | (go_at_call 16; refine (st_ask TS (TT.out b nb) HT.out).mono ?_; rw [show (tkM n 2).asks = true from rfl, show (tkM n 2).ask = akN 7 0 1 0 ⟨#[]⟩ from rfl]; rintro e v1 ⟨kd, un, qe, pg, qs, hq1, rfl, hs1, hk1⟩; obtain ⟨rfl, rfl, rfl, rfl, rfl⟩ : kd = 7 ∧ un = 0 ∧ qe = 1 ∧ pg = 0 ∧ qs = ⟨#[]⟩ := (by injection hq1 with h1 h2 h3 h4 h5 h6 h7 h8 h9 h10 h11; exact ⟨h1.symm, h2.symm, h3.symm, h4.symm, h7.symm⟩); have T1 := Lib.hid (hs1.below (TT.out b nb) (TA.out bt) (below_new v1 (.cells #[.int .i64 7, .int .i64 0, .int .i64 1, .int .i64 0, .int .i64 0, .int .i64 0, .string ⟨#[]⟩, .int .i64 0, .slice none 0 0] 37))); have V1 := Lib.hid ((HK.out.trans hk1).below (below_new v1 (.cells #[.int .i64 7, .int .i64 0, .int .i64 1, .int .i64 0, .int .i64 0, .int .i64 0, .string ⟨#[]⟩, .int .i64 0, .slice none 0 0] 37))); clear hq1 hs1 hk1))
          refine ⟨⟨3, by go_num, by omega, Lib.hid ?_, V3⟩, by simp [intOf]⟩
          have T4 := T3.out
          rw [tk_hok MN.out, tail_asked] at T4
          exact T4.less (fun k h => .inl h)
        · subst hk0
          have n1 : ((3 : Nat) : Int) < 4 := by decide
          go_wp2_with (go_at_call 16; refine (st_ask TS (TT.out b nb) HT.out).mono ?_; rw [show (tkM n 3).asks = false from rfl]; rintro e v1 ⟨kd, un, qe, pg, qs, hq1, rfl, hs1, hk1⟩; have T1 := Lib.hid (hs1.below (TT.out b nb) (TA.out bt) (below_new v1 (.cells #[.int .i64 kd, .int .i64 un, .int .i64 qe, .int .i64 pg, .int .i64 0, .int .i64 0, .string qs, .int .i64 0, .slice none 0 0] 37))); have V1 := Lib.hid ((HK.out.trans hk1).below (below_new v1 (.cells #[.int .i64 kd, .int .i64 un, .int .i64 qe, .int .i64 pg, .int .i64 0, .int .i64 0, .string qs, .int .i64 0, .slice none 0 0] 37))); clear hq1 hs1 hk1)
          refine ⟨⟨4, by go_num, by omega, T1, V1⟩, by simp [intOf]⟩
        · subst hk0
          have n1 : ¬ ((4 : Nat) : Int) < 4 := by decide
          go_wp2_with (go_at_call 18; refine (st_over TS (TT.out b nb) HT.out).mono ?_; rw [show (tkM n 4).overN = n from rfl, show (tkM n 4).overE = 0 from rfl, show (tkM n 4).overB = true from rfl]; rintro e w20 ⟨rfl, hs, hb⟩; have S20 := Lib.hid hs; have K20 := Lib.hid (HK.out.below hb); clear hs hb)
          have HN9 := Lib.hid (K20.out.heap HXQ.out HQ4.out)
          have D20 := Lib.hid (show Below w20.heap.size w20 w20.drew from (Below.refl w20.heap.size w20).drew)
          have SD := Lib.hid (S20.out.below (TT.out b nb) (TA.out bt) D20.out)
          have KD := Lib.hid (K20.out.below D20.out)
          have CQ := Lib.hid (fun (W : World) (hk : Kept (fun k => k < w.heap.size ∨ (w2.heap.size ≤ k ∧ k < w4.heap.size)) w4 W) => two_cellsM (hk.heap HXQ.out HQ4.out))
          have CLQ := Lib.hid (fun (W : World) (hk : Kept (fun k => k < w.heap.size ∨ (w2.heap.size ≤ k ∧ k < w4.heap.size)) w4 W) => cg_clT (HC4.out.keep hk HCS.out))
          clear S20 HN9
          go_wp2_with fail
          go_region_held3 (fun W => W.cell? ⟨w2.heap.size + 1 + 1, 0, none⟩ = some (.int .i64 1) ∧ W.cell? ⟨w2.heap.size + 1 + 1, 1, none⟩ = some (.slice (some ⟨w2.heap.size + 1, 0, none⟩) 1 1))
            (first | exact CQ.out _ K20.out | exact CQ.out _ KD.out | exact CQ.out _ K21.out | exact CQ.out _ K22.out | exact CQ.out _ K23.out)
            (first
              | (go_at_call 8; refine (CW.out _).mono ?_; rintro e w23 ⟨rfl, hb⟩; have K23 := Lib.hid (K22.out.below hb); clear hb)
              | (go_at_call 19; refine (keepProj_any 1 ao21 cap21 mvL 1 (some ⟨w2.heap.size + 1, 0, none⟩) 1 mvL w21 C21.out (CLQ.out _ K21.out) FW2.out FW2.out).mono ?_; rw [show sameP 1 mvL 1 mvL = true by decide +kernel]; rintro e w22 ⟨rfl, hb⟩; have K22 := Lib.hid (K21.out.below hb); clear hb)
              | (go_at_call 20; refine (st_p TS (TT.out b nb) SD.out).mono ?_; rw [show (tkM n 4).ep = 1 from rfl, show (tkM n 4).L = mvL from rfl]; rintro e w21 ⟨ao21, cap21, rfl, hc, hs, hb⟩; have C21 := Lib.hid hc; have K21 := Lib.hid (KD.out.below hb); clear hc hs hb))
          all_goals
            go_wp2_with fail
            go_ret
            exact ⟨rfl, B4.out.trans (K23.out.toBelow B4.out.size (fun j h => .inl h))⟩

set_option maxRecDepth 100000 in
theorem tailMoves_lifted (os : Os) (started : os.Started) (H : Type) (enc : TypeId × Value → H) :
    ReturnsInHanded {} Tryz.checked os 4 .any (Rows.tailMovesSpec.pre6 enc Tryz.prog Tryz.f4 Rows.tailMovesRow.domain false) (Rows.tailMovesSpec.post enc Tryz.prog Tryz.f4 false true false false) := by
  refine returnsInHanded_of_change (C := Tryz.checked) own started (by kernel_rfl) Tryz.func4
    (ChangeSpec.witness6 (enc := enc) (C := Tryz.checked) false ⟨#[], #[.int .u16 0], []⟩ 8 (by kernel_rfl) (by kernel_rfl) (by kernel_rfl) (by kernel_rfl)) ?_
  intro W base args ds gs before hval0 hW hcnd _
  have hval : ∀ (j : Nat) t v, Tryz.f4.params[j]? = some t → args[j]? = some v → Value.okWide Tryz.prog W .any base t v := hval0
  have hW' := hW
  obtain ⟨p, q, hA0, hV, rfl, hfz, hnd⟩ := hW
  have hA : DataW.TrodAll enc Tryz.prog W 0 (fun _ => true) true Tryz.f4.params.toList args.toList ds p := hA0
  rw [Tryz.params4] at hA hval
  obtain ⟨v0, vs0, d0, ds0, p0, q0, hargs, rfl, rfl, h0, r0⟩ := trodAll_cons hA
  obtain ⟨rfl, rfl, rfl⟩ := trodAll_nil r0
  obtain rfl : args = #[v0] := by cases args; simp_all
  obtain ⟨rfl, rfl⟩ := trodVars_none hV
  have k0 := h0
  have lt0 : ∀ x ∈ p0, x.block < W.heap.size := by obtain ⟨m, hm⟩ := k0; exact DataW.trod_lt m _ _ _ hm
  obtain ⟨a0, rfl, rfl, rfl, w0⟩ := open_int Tryz.underlying43 (hval 0 43 v0 rfl rfl) h0
  clear hA0 hval0
  refine (tailMoves_walk handSays tailSays a0 w0 W).mono fun e W' ⟨he, bel⟩ => ?_
  subst he
  exact ⟨_, rfl, _, _, _, [], _, [], hW', trodAll_mk1 (shut_bool Tryz.underlying4 _), (trodAll_cons_mk (Below.trod laidOut (by kernel_rfl) (of_decide_eq_true (by kernel_rfl)) k0 bel lt0) trodAll_mk0), rfl, bel.frame _, fun h => by cases h⟩

theorem tailMoves_over : Rows.tailMovesRow.holds Tryz.pinned (OpenSpec.ofChange Rows.tailMovesSpec) :=
  OpenClaim.holds_of_wide 4 Tryz.f4 rfl rfl rfl rfl rfl rfl rfl ⟨rfl, rfl, rfl, rfl, rfl⟩ rfl rfl rfl rfl rfl (by kernel_rfl) Tryz.func4 (by kernel_rfl)
    (of_decide_eq_true (by kernel_rfl)) (by unfold Func.isWrapper; first | (rw [if_pos (by decide +kernel)]; kernel_rfl) | (rw [if_neg (by decide +kernel)]; exact ⟨rfl, rfl⟩))
    (fun os started H enc _ => tailMoves_lifted os started H enc)

/-- THE STATEMENT -/
theorem tailMoves_holds : Rows.TailMovesSaid := tailMoves_over 
end Go.Proofs.YtchhmfdalghgcaaGreat
