/- The program's hand keeps all that the laws of a hand ask, over any nodes that keep what the laws of all nodes ask. Conditions: as each statement says. What a tail by a hand returns, whose first questions have fates. Conditions: the program's functions return what HandSays and TailSays say; the fates lie in memory that is none of the hand's. (Written by gen/gentalsee.py.) -/
import Derived.Test.YtchhmfdalghgcaaGreatG29a
import Derived.Test.YtchhmfdalghgcaaGreatG27b
import Derived.Test.YtchhmfdalghgcaaGreatG11b
set_option linter.unusedVariables false
namespace Go.Proofs.YtchhmfdalghgcaaGreat
set_option linter.unusedVariables false
open Go.RowKit
set_option maxRecDepth 20000
section
variable {UG : Nat → Nat → (Nat → Prop) → World → Us → Prop} {OG : Nat → (Nat → Prop) → World → Od → Prop} {LG : Nat → (Nat → Prop) → World → Ly → Prop} {NG : Nat → (Nat → Prop) → World → Nd → Prop}
/-- a hand over no nodes -/
def NoH (b : Nat) (w : World) : Prop := w.heap[b]? = some (.cells #[.pointer none, .slice none 0 0] 71 (0, 0))
theorem nodes_noh {b : Nat} {w : World} (h : NoH b w) : Calls Tryz.prog 12 #[.pointer (some ⟨b, 0, none⟩)] w fun e w' => e = .returned (.pointer none) ∧ w = w' := by
  have c0 := cell_of h 0
  have hb := lt_of_block h
  clear h
  go_enter Tryz.func12, Tryz.ntmps12
  go_wp2_with fail
  go_ret
  exact ⟨rfl, rfl⟩
theorem ask_none (p : Option Addr) (a : Ak) (fate : Int) (w : World) (h : ∀ W, Below w.heap.size w W → Calls Tryz.prog 12 #[.pointer p] W fun e w' => e = .returned (.pointer none) ∧ W = w') :
    Calls Tryz.prog 9 #[.pointer p, askV a, .int .i64 fate] w fun e w' => e = .returned (heardT zeroX false none 0) ∧ Below w.heap.size w w' := by
  obtain ⟨k, un, ep, pg, sz, nn, s, pe, L, ao, cap⟩ := a
  have hb : Below w.heap.size w ((w.alloc (.cells #[.int .i64 k, .int .i64 un, .int .i64 ep, .int .i64 pg, .int .i64 sz, .int .i64 nn, .string s, .int .i64 pe, .slice ao L.length cap] 37)).alloc (.cells zero8 33)) := ((Below.refl _ _).alloc (Nat.le_refl _) _).alloc (by simp) _
  have hq := (two_blocks w #[.int .i64 k, .int .i64 un, .int .i64 ep, .int .i64 pg, .int .i64 sz, .int .i64 nn, .string s, .int .i64 pe, .slice ao L.length cap] zero8 37 33).2
  generalize hW0 : ((w.alloc (.cells #[.int .i64 k, .int .i64 un, .int .i64 ep, .int .i64 pg, .int .i64 sz, .int .i64 nn, .string s, .int .i64 pe, .slice ao L.length cap] 37)).alloc (.cells zero8 33)) = W0 at *
  have EW := Lib.hid (show ((w.alloc (.cells #[.int .i64 k, .int .i64 un, .int .i64 ep, .int .i64 pg, .int .i64 sz, .int .i64 nn, .string s, .int .i64 pe, .slice ao L.length cap] 37)).alloc (.cells #[.int .i64 0, .int .i64 0, .string ⟨#[]⟩, .int .i64 0, .slice none 0 0, .int .i64 0, .int .i64 0, .int .i64 0] 33)) = W0 from hW0)
  have HN := Lib.hid (h W0 hb)
  have HQ := Lib.hid hq
  have HB := Lib.hid hb
  have hl := lt_of_block hq
  obtain ⟨⟨ny0, ny1, ny2, ny3, ny4, ny5, ny6, ny7⟩, nf0, nf1, nf2, nf3, nf4, nf5, nf6, nf7⟩ := eight_cells hq
  clear hW0 hq hb h
  show Calls _ _ #[.pointer p, .agg #[.int .i64 k, .int .i64 un, .int .i64 ep, .int .i64 pg, .int .i64 sz, .int .i64 nn, .string s, .int .i64 pe, .slice ao L.length cap], .int .i64 fate] w _
  go_enter Tryz.func9, Tryz.ntmps9
  go_wp2_with (go_at_call 12; rw [EW.out]; refine HN.out.mono ?_; rintro e w1 ⟨rfl, rfl⟩)
  exact ans_ret2 (x := zeroX) (ao := none) (cap := 0) (c := false) rfl (hp_eight HQ.out (.int .i64 0) (.int .i64 0) (.string ⟨#[]⟩) (.int .i64 0) (.slice none 0 0) (.int .i64 0) (.int .i64 0) (.int .i64 0)) rfl rfl rfl ⟨rfl, HB.out.trans (((hp_eight_kept W0 (w.heap.size + 1) (.int .i64 0) (.int .i64 0) (.string ⟨#[]⟩) (.int .i64 0) (.slice none 0 0) (.int .i64 0) (.int .i64 0) (.int .i64 0)).mono (T := fun j => j < w.heap.size) (fun j h => by omega)).toBelow (by omega) (fun j h => h))⟩
theorem take_noh {b : Nat} {w : World} (h : NoH b w) (k : Int) : Calls Tryz.prog 30 #[.pointer (some ⟨b, 0, none⟩), .int .i64 k] w fun e w' => e = .returned (.tuple #[askV zeroQ, .bool false]) ∧ Below w.heap.size w w' := by
  have HQ := Lib.hid (heap_alloc_new w (.cells #[.int .i64 0, .int .i64 0, .int .i64 0, .int .i64 0, .int .i64 0, .int .i64 0, .string ⟨#[]⟩, .int .i64 0, .slice none 0 0] 37))
  have HB := Lib.hid (below_new w (.cells #[.int .i64 0, .int .i64 0, .int .i64 0, .int .i64 0, .int .i64 0, .int .i64 0, .string ⟨#[]⟩, .int .i64 0, .slice none 0 0] 37))
  have hb := lt_of_block h
  obtain ⟨_, c1, _, _⟩ := two_cells h
  clear h
  by_cases h0 : k < 0
  · go_enter Tryz.func30, Tryz.ntmps30
    go_wp2_with fail
    exact ask_ret2 (x := zeroQ) (c := false) rfl HQ.out rfl rfl rfl ⟨rfl, HB.out⟩
  · have h2 : 0 ≤ k := by omega
    clear h0
    go_enter Tryz.func30, Tryz.ntmps30
    go_wp2_with fail
    exact ask_ret2 (x := zeroQ) (c := false) rfl HQ.out rfl rfl rfl ⟨rfl, HB.out⟩
theorem do_noh {b : Nat} {w : World} (h : NoH b w) (k : Int) : Calls Tryz.prog 11 #[.pointer (some ⟨b, 0, none⟩), .int .i64 k] w fun e w' => e = .returned (.bool false) ∧ Below w.heap.size w w' := by
  have HT := Lib.hid (take_noh h k)
  clear h
  go_enter Tryz.func11, Tryz.ntmps11
  go_wp2_with (go_at_call 30; refine HT.out.mono ?_; rintro e w1 ⟨he, hb1⟩; obtain rfl : e = .returned (.tuple #[.agg #[.int .i64 0, .int .i64 0, .int .i64 0, .int .i64 0, .int .i64 0, .int .i64 0, .string ⟨#[]⟩, .int .i64 0, .slice none 0 0], .bool false]) := he)
  go_ret
  exact ⟨rfl, hb1.trans (below_new w1 _ |>.mono hb1.size)⟩
theorem hnew_no (w : World) : Calls Tryz.prog 27 #[.pointer none] w fun e w' => ∃ b : Nat, e = .returned (.pointer (some ⟨b, 0, none⟩)) ∧ NoH b w' ∧ Below w.heap.size w w' := by
  have HP := Lib.hid (heap_alloc_new w (.cells #[.pointer none, .slice none 0 0] 71))
  have HB := Lib.hid (below_new w (.cells #[.pointer none, .slice none 0 0] 71))
  go_enter Tryz.func27, Tryz.ntmps27
  go_wp2_with fail
  go_ret
  exact ⟨w.heap.size, rfl, HP.out, HB.out⟩
end
end Go.Proofs.YtchhmfdalghgcaaGreat
namespace Go.Proofs.YtchhmfdalghgcaaGreat
set_option linter.unusedVariables false
open Go.RowKit
set_option maxRecDepth 20000
def twT : List (List Int) := [[0, 1]]
theorem few_twT : fewL twT := ⟨by decide, by decide⟩
set_option maxHeartbeats 16000000 in
theorem see_any {UG : Nat → Nat → (Nat → Prop) → World → Us → Prop} {OG : Nat → (Nat → Prop) → World → Od → Prop} {LG : Nat → (Nat → Prop) → World → Ly → Prop} {NG : Nat → (Nat → Prop) → World → Nd → Prop} {HG : Nat → Nat → (Nat → Prop) → World → Hd → Prop} {TG : Nat → (Nat → Prop) → World → Tl → Prop} (HS : HandSays UG OG LG NG HG) (TS : TailSays TG)
    (b nb : Nat) (X : Nat → Prop) (w : World) (h0 : Hd) (hs : Solo (HG b nb) X w h0) (n : Nat) (hn : n ≤ 16384) (hT : TkS h0 n)
    (ao : Option Addr) (cap : Nat) (hC : CL w ao twT) (hno : ao = none → cap = 0) (hc : 1 ≤ cap) (fo : Option Addr) (fc : Nat) (fl : List Int) (hl : fl.length ≤ 60) (hR : ∀ W, Kept X w W → Row W fo 1 byteC fl) (hK : ∀ x ∈ fl, 0 ≤ x ∧ x < 256) :
    Calls Tryz.prog 10 #[.pointer (some ⟨b, 0, none⟩), .agg #[.int .i64 0, .slice ao 1 cap], .slice fo fl.length fc] w fun e w' => ∃ h' : Hd, e = .returned (.tuple #[.int .i64 n, .int .i64 0, .bool true]) ∧ Solo (HG b nb) X w' h' ∧ Kept X w w' ∧ TkS h' n := by
  have ZZ := Lib.hid (fun (x : Int) (h : 0 ≤ x ∧ x ≤ 300) => show i64w x from WalkArith.wf_i64 (by omega))
  have TT := Lib.hid (fun b nb => HS.thing b nb)
  have TA := Lib.hid (fun b => TS.thing b)
  have HB := Lib.hid (below_new w (.cells #[.int .i64 0, .slice ao 1 cap] 29))
  have HP := Lib.hid (heap_alloc_new w (.cells #[.int .i64 0, .slice ao 1 cap] 29))
  have HC := Lib.hid (hC.below HB.out)
  have S1 := Lib.hid (hs.below (TT.out b nb) HB.out)
  have H0 := Lib.hid (show SeeP n fl.length 0 h0 (newTl 0 twT) from ⟨hT, .inl ⟨by unfold newTl; rw [if_pos (by decide +kernel)], by unfold newTl; rw [if_pos (by decide +kernel)], Nat.zero_le _⟩⟩)
  have HR := Lib.hid hR
  have HK := Lib.hid hK
  have HNC := Lib.hid hno
  have HCP := Lib.hid hc
  have HN := Lib.hid hn
  obtain ⟨p0, p1, _, _⟩ := two_cells HP.out
  have hl' : (fl.length : Int) ≤ 60 := by omega
  have k41 : IntKind.i64.wrap ((fl.length : Int) + 20) = (fl.length : Int) + 20 := IntWalk.i64_in _ (by omega)
  clear hs hT hC hn hc hR hK hno
  go_enter Tryz.func10, Tryz.ntmps10
  go_wp2_with (first
    | (go_at_call 15; refine (st_new TS (TT.out b nb) S1.out (ep := 0) (ao := ao) (cap := cap) (L := twT) HC.out few_twT HNC.out HCP.out (ZZ.out 0 (by omega))).mono ?_; rintro e w2 ⟨bf, rfl, hs2, hb2⟩; have S2 := Lib.hid hs2; have K2 := Lib.hid (Kept.ofBelow (HB.out.trans (hb2.mono HB.out.size)) X); clear hs2 hb2))
  clear p0 p1
  go_loopw [10] (fun i wr => ∃ (k : Nat) (h : Hd) (f : Tl), i = .int .i64 k ∧ Hid (SeeP n fl.length k h f) ∧ Hid (Side (HG b nb) (TG bf) X wr h f) ∧ Hid (Kept X w wr)) (fun i _ => fl.length + 20 - (intOf i).toNat)
  case atStart => exact ⟨0, h0, newTl 0 twT, rfl, H0, S2, K2⟩
  case round =>
    clear S1 S2 K2 H0
    obtain ⟨k, h, f, rfl, HV, HT, HB⟩ := hrel
    have hmo : k < fl.length + 20 := by
      rcases HV.out.2 with g | g <;> omega
    have k40 : (k : Int) < (fl.length : Int) + 20 := by omega
    by_cases h7 : f.at_ = 3
    · have HAS := Lib.hid (show f.asks = false from decide_eq_false (fun g => g h7))
      have key : f.overN = n ∧ f.overE = 0 ∧ f.overB = true := by
        rcases HV.out.2 with g | g
        · omega
        · exact ⟨by unfold Tl.overN; rw [if_pos h7]; exact g.2.1, by unfold Tl.overE; rw [if_pos h7]; exact g.2.2.1, decide_eq_true h7⟩
      obtain ⟨o1, o2, o3⟩ := key
      have O1 := Lib.hid o1
      have O2 := Lib.hid o2
      have O3 := Lib.hid o3
      clear h7 o1 o2 o3
      go_wp2_with (first
        | (go_at_call 18; refine (st_over TS (TT.out b nb) T1.out).mono ?_; rw [O1.out, O2.out, O3.out]; rintro e w4 ⟨rfl, hs4, hb4⟩; have T4 := Lib.hid hs4; have V4 := Lib.hid (V1.out.below hb4); clear hs4 hb4)
        | (go_at_call 16; refine (st_ask TS (TT.out b nb) HT.out).mono ?_; rw [HAS.out]; rintro e v1 ⟨kd, un, qe, pg, qs, hq1, rfl, hs1, hk1⟩; have T1 := Lib.hid (hs1.below (TT.out b nb) (TA.out bf) (below_new v1 (.cells #[.int .i64 kd, .int .i64 un, .int .i64 qe, .int .i64 pg, .int .i64 0, .int .i64 0, .string qs, .int .i64 0, .slice none 0 0] 37))); have V1 := Lib.hid ((HB.out.trans hk1).below (below_new v1 (.cells #[.int .i64 kd, .int .i64 un, .int .i64 qe, .int .i64 pg, .int .i64 0, .int .i64 0, .string qs, .int .i64 0, .slice none 0 0] 37))); clear hq1 hs1 hk1))
      go_ret3
      exact ⟨h, rfl, T4.out.left, V4.out, HV.out.1⟩
    · have HAS := Lib.hid (show f.asks = true from decide_eq_true h7)
      have HTN := Lib.hid (fun m hm => HV.out.step HN.out h7 m hm)
      have HQ := Lib.hid (HV.out.step HN.out h7 0 (fun _ => rfl)).1
      have HU := Lib.hid HV.out.1.used
      clear h7
      by_cases hkl : k < fl.length
      · have n1 : (k : Int) < (fl.length : Int) := by omega
        obtain ⟨bk, off, hao, c0⟩ := byte_at (HR.out _ HB.out) hkl
        have CB := Lib.hid (fun W (hk : Kept X w W) => (show ∃ bk2 off2, fo = some ⟨bk2, off2, none⟩ ∧ W.cell? ⟨bk2, off2 + k, none⟩ = some (.int .u8 fl[k]) from byte_at (HR.out W hk) hkl))
        have hv := HK.out _ (List.getElem_mem hkl)
        generalize fl[k] = v at *
        subst hao
        obtain ⟨v0, v1⟩ := hv
        obtain ⟨m, hm, hm4⟩ : ∃ m : Nat, v.tmod 4 = (m : Int) ∧ m < 4 := ⟨(v % 4).toNat, by rw [Int.tmod_eq_emod_of_nonneg v0]; omega, by omega⟩
        have hm0 : (0 : Int) ≤ (m : Int) ∧ (m : Int) ≤ 300 := by omega
        go_wp2_with (first
          | (go_at_call 17; refine (st_hear TS (TT.out b nb) T2.out).mono ?_; rintro e v3 ⟨rfl, hs3, hk3⟩; have T3 := Lib.hid hs3; have V3 := Lib.hid (V2.out.trans hk3); clear hs3 hk3)
          | (go_at_call 9; refine (hs_ask HS (TA.out bf) T1.out (k := 7) (un := 0) (e := 0) (p := 0) (s := ⟨#[]⟩) (fate := (m : Int)) (by omega) (ZZ.out 0 (by omega)) (ZZ.out 0 (by omega)) (ZZ.out 0 (by omega)) (by decide) HU.out (ZZ.out (m : Int) (by omega))).mono ?_; rintro e v2 ⟨xc, xn, xm, xz, xe, xd, vo, vc, c, hc, rfl, hx2, hs2, hk2⟩; have HX2 := Lib.hid hx2; have HCC := Lib.hid hc; clear hc; have T2 := Lib.hid hs2; have V2 := Lib.hid (V1.out.trans hk2); clear hs2 hk2 hx2)
          | (go_at_call 16; refine (st_ask TS (TT.out b nb) HT.out).mono ?_; rw [HAS.out, HQ.out]; rintro e v1 ⟨kd, un, qe, pg, qs, hq1, rfl, hs1, hk1⟩; obtain ⟨rfl, rfl, rfl, rfl, rfl⟩ := askTl_is hq1; have T1 := Lib.hid (hs1.below (TT.out b nb) (TA.out bf) (below_new v1 (.cells #[.int .i64 7, .int .i64 0, .int .i64 0, .int .i64 0, .int .i64 0, .int .i64 0, .string ⟨#[]⟩, .int .i64 0, .slice none 0 0] 37))); have V1 := Lib.hid ((HB.out.trans hk1).below (below_new v1 (.cells #[.int .i64 7, .int .i64 0, .int .i64 0, .int .i64 0, .int .i64 0, .int .i64 0, .string ⟨#[]⟩, .int .i64 0, .slice none 0 0] 37))); obtain ⟨bk2, off2, hao2, c9⟩ := CB.out _ V1.out; obtain ⟨rfl, rfl⟩ : bk2 = bk ∧ off2 = off := (by simpa using hao2.symm); have hbk := block_lt_of_cell c9; clear hq1 hs1 hk1))
        refine ⟨⟨k + 1, h.asked f.ask (m : Int), f.hear (h.heard f.ask (m : Int)) (decide ((m : Int) = 0)), by go_num, Lib.hid (HTN.out (m : Int) (fun g => absurd hkl g)).2, Lib.hid ?_, V3⟩, by simp [intOf]; omega⟩
        have e : h.heard (akN 7 0 0 0 ⟨#[]⟩) (m : Int) = ⟨xc, xn, xd, 0, [], xm, xz, xe⟩ := HX2.out
        rw [HQ.out, show askTl 0 = akN 7 0 0 0 ⟨#[]⟩ from rfl, e, ← HCC.out]
        exact T3.out
      · have n1 : ¬ (k : Int) < (fl.length : Int) := by omega
        go_wp2_with (first
          | (go_at_call 17; refine (st_hear TS (TT.out b nb) T2.out).mono ?_; rintro e v3 ⟨rfl, hs3, hk3⟩; have T3 := Lib.hid hs3; have V3 := Lib.hid (V2.out.trans hk3); clear hs3 hk3)
          | (go_at_call 9; refine (hs_ask HS (TA.out bf) T1.out (k := 7) (un := 0) (e := 0) (p := 0) (s := ⟨#[]⟩) (fate := 0) (by omega) (ZZ.out 0 (by omega)) (ZZ.out 0 (by omega)) (ZZ.out 0 (by omega)) (by decide) HU.out (ZZ.out 0 (by omega))).mono ?_; rintro e v2 ⟨xc, xn, xm, xz, xe, xd, vo, vc, c, hc, rfl, hx2, hs2, hk2⟩; have HX2 := Lib.hid hx2; obtain rfl : c = true := hc; have T2 := Lib.hid hs2; have V2 := Lib.hid (V1.out.trans hk2); clear hs2 hk2 hx2)
          | (go_at_call 16; refine (st_ask TS (TT.out b nb) HT.out).mono ?_; rw [HAS.out, HQ.out]; rintro e v1 ⟨kd, un, qe, pg, qs, hq1, rfl, hs1, hk1⟩; obtain ⟨rfl, rfl, rfl, rfl, rfl⟩ := askTl_is hq1; have T1 := Lib.hid (hs1.below (TT.out b nb) (TA.out bf) (below_new v1 (.cells #[.int .i64 7, .int .i64 0, .int .i64 0, .int .i64 0, .int .i64 0, .int .i64 0, .string ⟨#[]⟩, .int .i64 0, .slice none 0 0] 37))); have V1 := Lib.hid ((HB.out.trans hk1).below (below_new v1 (.cells #[.int .i64 7, .int .i64 0, .int .i64 0, .int .i64 0, .int .i64 0, .int .i64 0, .string ⟨#[]⟩, .int .i64 0, .slice none 0 0] 37))); clear hq1 hs1 hk1))
        refine ⟨⟨k + 1, h.asked f.ask 0, f.hear (h.heard f.ask 0) true, by go_num, Lib.hid (HTN.out 0 (fun _ => rfl)).2, Lib.hid ?_, V3⟩, by simp [intOf]; omega⟩
        have e : h.heard (akN 7 0 0 0 ⟨#[]⟩) 0 = ⟨xc, xn, xd, 0, [], xm, xz, xe⟩ := HX2.out
        rw [HQ.out, show askTl 0 = akN 7 0 0 0 ⟨#[]⟩ from rfl, e]
        exact T3.out
end Go.Proofs.YtchhmfdalghgcaaGreat
