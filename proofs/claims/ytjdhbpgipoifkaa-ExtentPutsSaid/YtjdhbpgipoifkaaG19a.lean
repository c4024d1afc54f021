/- What the program's own Cut and Plan return. Conditions: the parts lie where the call was told; numbers of 64 bits. -/
import Derived.Test.YtjdhbpgipoifkaaG18a
set_option linter.unusedVariables false
namespace Go.Proofs.Ytjdhbpgipoifkaa
open Go.RowKit Go.Sort
set_option linter.unusedVariables false
set_option maxRecDepth 20000
theorem cutE_bad {l : List Pt} {s : Int} (h : goodE l = false) : cutE l s = [] := if_neg (by rw [h]; decide)
theorem cutE_few {l : List Pt} {s : Int} (h : goodE l = true) : cutE l s = gatE (cutF (spF l) (max s 0)) 8192 ∧ fewE (gatE (cutF (spF l) (max s 0)) 8192) = (gatE (cutF (spF l) (max s 0)) 8192, 0) := by
  obtain ⟨h1, h2⟩ := goodE_iff.1 h
  refine ⟨if_pos h, fewE_yes ?_⟩
  rw [cut_is h2]
  exact Nat.le_trans (cutL_len _ _) h1
set_option maxHeartbeats 8000000 in
theorem ecut_any (ao : Option Addr) (cap : Nat) (l : List Pt) (s : Int) (hs : -9223372036854775808 ≤ s ∧ s ≤ 9223372036854775807) (w : World) (h : PaL w ao l) (hlen : l.length ≤ maxLen) :
    Calls Try.prog 17 #[.slice ao l.length cap, .int .i64 s] w fun e w' => ∃ v, e = .returned v ∧ OPa w' w.heap.size v (cutE l s) ∧ Below w.heap.size w w' := by
  have CG := Lib.hid (egood_any ao cap l w h hlen)
  have HP := Lib.hid h
  have HLN := Lib.hid hlen
  cases hg : goodE l
  · rw [cutE_bad hg]
    rw [hg] at CG
    clear hg h hlen
    go_enter Try.func17, Try.ntmps17
    go_wp2_with (go_at_call 12; refine CG.out.mono ?_; rintro e w1 ⟨rfl, hb1⟩; have HB1 := Lib.hid hb1; clear hb1)
    go_ret
    exact ⟨_, rfl, OR.nil _ _, HB1.out⟩
  rw [hg] at CG
  obtain ⟨hg1, hg2⟩ := goodE_iff.1 hg
  obtain ⟨q1, q2⟩ := @cutE_few l s hg
  rw [q1]
  have HEQ := Lib.hid (@cut_parts l hg2 s (min (endL l) s).toNat rfl)
  have HSG := Lib.hid (show soundG (clipG 0 s (laidE l)) from soundG.clip (by rw [laid_rail hg2]; exact rail_sound hg2) 0 s)
  obtain ⟨⟨r1, r2⟩, _⟩ := rail_end hg2
  have HEL := Lib.hid (show endE l = endL l from if_pos hg)
  have CE := Lib.hid (fun (W : World) (hb : Below w.heap.size w W) => eEnd_any ao cap l W (HP.out.below hb) HLN.out)
  rw [HEL.out] at CE
  have CPP := Lib.hid (fun (W : World) (b : Nat) (hF : FE W b 100000 (clipG 0 s (laidE l))) => eparts_any W b 100000 _ (min (endL l) s) (min (endL l) s).toNat (by simp) (by omega) (by omega) HSG.out hF)
  rw [HEQ.out, q2] at CPP
  have CLY := Lib.hid (fun (W : World) (hb : Below w.heap.size w W) => elay_any ao cap l 0 s W (HP.out.below hb) (by omega) (rail_one hg2) ⟨by decide, by decide⟩ (by omega))
  generalize gatE (cutF (spF l) (max s 0)) 8192 = R at *
  generalize clipG 0 s (laidE l) = G at *
  generalize endL l = el at *
  clear hg h hlen hg1 hg2 q1 q2
  go_enter Try.func17, Try.ntmps17
  go_wp2_with (first
    | (go_at_call 32; refine (CPP.out _ _ HF3.out).mono ?_; rintro e w4 ⟨v4, rfl, hO, hB⟩; have HB4 := Lib.hid (blwO hB HB3.out); have HO4 := Lib.hid (OPa.lower hO HB3.out.size); obtain ⟨a4, c4, hv4, _⟩ := OR.form par_rows hO; subst hv4; clear hO hB)
    | (go_at_call 14; refine (CE.out _ HB2.out).mono ?_; rintro e w3 ⟨rfl, hB⟩; have HB3 := Lib.hid (blwO hB HB2.out); have HF3 := Lib.hid (HF2.out.below hB); clear hB)
    | (go_at_call 31; refine (CLY.out _ HB1.out).mono ?_; rintro e w2 ⟨b, rfl, hb4, hF, hB⟩; have HB2 := Lib.hid (blwO hB HB1.out); have HF2 := Lib.hid hF; clear hF hB)
    | (go_at_call 12; refine CG.out.mono ?_; rintro e w1 ⟨rfl, hb1⟩; have HB1 := Lib.hid hb1; clear hb1))
  go_ret
  exact ⟨_, rfl, HO4.out, HB4.out⟩
theorem planB_parts (off n : Int) : planB off n = (betB n 1 8192 && betB off 0 (8192 - n)) := by
  rw [Bool.eq_iff_iff, planB_iff, Bool.and_eq_true, betB_iff, betB_iff]
  omega
theorem planE_no {l : List Pt} {off n : Int} (h : ¬ (goodE l = true ∧ planB off n = true)) : planE l off n = [] := if_neg h
set_option maxHeartbeats 8000000 in
theorem eplan_any (ao : Option Addr) (cap : Nat) (l : List Pt) (off n : Int) (w : World) (h : PaL w ao l) (hlen : l.length ≤ maxLen) :
    Calls Try.prog 21 #[.slice ao l.length cap, .int .i64 off, .int .i64 n] w fun e w' => ∃ v, e = .returned v ∧ OPa w' w.heap.size v (planE l off n) ∧ Below w.heap.size w w' := by
  have CG := Lib.hid (egood_any ao cap l w h hlen)
  have HP := Lib.hid h
  have C1 := Lib.hid (fun w => ewithin_any n 1 8192 w)
  have C2 := Lib.hid (fun w => ewithin_any off 0 (8192 - n) w)
  have HNO := Lib.hid (@planE_no l off n)
  have HPB := Lib.hid (planB_parts off n)
  cases hg : goodE l
  · rw [HNO.out (by rw [hg]; exact fun e => by cases e.1)]
    rw [hg] at CG
    clear hg h hlen
    go_enter Try.func21, Try.ntmps21
    go_wp2_with (go_at_call 12; refine CG.out.mono ?_; rintro e w1 ⟨rfl, hb1⟩; have HB1 := Lib.hid hb1; clear hb1)
    go_ret
    exact ⟨_, rfl, OR.nil _ _, HB1.out⟩
  rw [hg] at CG
  cases e1 : betB n 1 8192
  · rw [HNO.out (by rw [HPB.out, e1]; exact fun e => by cases e.2)]
    rw [e1] at C1
    clear hg h hlen e1
    go_enter Try.func21, Try.ntmps21
    go_wp2_with (first
      | (go_at_call 37; (with_reducible refine (C1.out _).mono ?_); rintro e w1 ⟨rfl, rfl⟩)
      | (go_at_call 12; refine CG.out.mono ?_; rintro e w1 ⟨rfl, hb1⟩; have HB1 := Lib.hid hb1; clear hb1))
    go_ret
    exact ⟨_, rfl, OR.nil _ _, HB1.out⟩
  obtain ⟨n1, n2⟩ := betB_iff.1 e1
  rw [e1] at C1
  cases e2 : betB off 0 (8192 - n)
  · rw [HNO.out (by rw [HPB.out, e1, e2]; exact fun e => by cases e.2)]
    rw [e2] at C2
    clear hg h hlen e1 e2
    go_enter Try.func21, Try.ntmps21
    go_wp2_with (first
      | (go_at_call 37; first | ((with_reducible refine (C1.out _).mono ?_); rintro e w1 ⟨rfl, rfl⟩) | ((with_reducible refine (C2.out _).mono ?_); rintro e w1 ⟨rfl, rfl⟩))
      | (go_at_call 12; refine CG.out.mono ?_; rintro e w1 ⟨rfl, hb1⟩; have HB1 := Lib.hid hb1; clear hb1))
    go_ret
    exact ⟨_, rfl, OR.nil _ _, HB1.out⟩
  obtain ⟨o1, o2⟩ := betB_iff.1 e2
  rw [e2] at C2
  obtain ⟨hg1, hg2⟩ := goodE_iff.1 hg
  rw [show planE l off n = planL off (off + n) l off from if_pos ⟨hg, by rw [HPB.out, e1, e2]; rfl⟩]
  obtain ⟨o, rfl⟩ : ∃ o : Nat, off = o := ⟨off.toNat, by omega⟩
  obtain ⟨m, rfl⟩ : ∃ m : Nat, n = m := ⟨n.toNat, by omega⟩
  have HEQ := Lib.hid (show pcsE (bytG (clipG o ((o : Int) + m) (laidE l))) o m = planL o ((o : Int) + m) l o from plan_pcs hg2 o m (fun i h1 h2 => by rw [clip_in (by omega), laid_rail hg2]; rfl))
  have HSG := Lib.hid (show soundG (clipG o ((o : Int) + m) (laidE l)) from soundG.clip (by rw [laid_rail hg2]; exact rail_sound hg2) _ _)
  have CPP := Lib.hid (fun (W : World) (b : Nat) (hF : FE W b 100000 (clipG o ((o : Int) + m) (laidE l))) => epieces_any W b 100000 _ o ((o : Int) + m) m (by omega) (by omega) (by omega) HSG.out hF)
  rw [HEQ.out] at CPP
  have CLY := Lib.hid (fun (W : World) (hb : Below w.heap.size w W) => elay_any ao cap l o ((o : Int) + m) W (HP.out.below hb) (by omega) (rail_one hg2) ⟨by omega, by omega⟩ (by omega))
  generalize planL o ((o : Int) + m) l o = R at *
  generalize clipG o ((o : Int) + m) (laidE l) = G at *
  clear hg h hlen hg1 hg2 e1 e2
  go_enter Try.func21, Try.ntmps21
  go_wp2_with (first
    | (go_at_call 38; refine (CPP.out _ _ HF2.out).mono ?_; rintro e w4 ⟨v4, rfl, hO, hB⟩; have HB4 := Lib.hid (blwO hB HB2.out); have HO4 := Lib.hid (OPa.lower hO HB2.out.size); obtain ⟨a4, c4, hv4, _⟩ := OR.form par_rows hO; subst hv4; clear hO hB)
    | (go_at_call 31; refine (CLY.out _ HB1.out).mono ?_; rintro e w2 ⟨b, rfl, hb4, hF, hB⟩; have HB2 := Lib.hid (blwO hB HB1.out); have HF2 := Lib.hid hF; clear hF hB)
    | (go_at_call 37; first | ((with_reducible refine (C1.out _).mono ?_); rintro e w1 ⟨rfl, rfl⟩) | ((with_reducible refine (C2.out _).mono ?_); rintro e w1 ⟨rfl, rfl⟩))
    | (go_at_call 12; refine CG.out.mono ?_; rintro e w1 ⟨rfl, hb1⟩; have HB1 := Lib.hid hb1; clear hb1))
  go_ret
  exact ⟨_, rfl, HO4.out, HB4.out⟩
end Go.Proofs.Ytjdhbpgipoifkaa
