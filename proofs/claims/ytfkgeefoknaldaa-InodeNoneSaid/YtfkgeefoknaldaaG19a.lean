/- What the program's own Cut and Plan return. Conditions: the parts lie where the call was told; numbers of 64 bits. -/
import Derived.Test.YtfkgeefoknaldaaG18a
set_option linter.unusedVariables false
namespace Go.Proofs.Ytfkgeefoknaldaa
open Go.RowKit Go.Sort
set_option linter.unusedVariables false
set_option maxRecDepth 20000
theorem cutE_bad {l : List Pt} {s : Int} (h : goodE l = false) : cutE l s = [] := if_neg (by rw [h]; decide)
theorem cutE_few {l : List Pt} {s : Int} (h : goodE l = true) : cutE l s = gatE (cutF (spF l) (max s 0)) 8192 ∧ fewE (gatE (cutF (spF l) (max s 0)) 8192) = (gatE (cutF (spF l) (max s 0)) 8192, 0) := by
  obtain ⟨h1, h2⟩ := goodE_iff.1 h
  refine ⟨if_pos h, fewE_yes ?_⟩
  rw [cut_is h2]
  exact Nat.le_trans (cutL_len _ _) h1
set_option maxHeartbeats 8000000 in
theorem ecut_any (ao : Option Addr) (cap : Nat) (l : List Pt) (s : Int) (hs : -9223372036854775808 ≤ s ∧ s ≤ 9223372036854775807) (w : World) (h : PaL w ao l) (hlen : l.length ≤ maxLen) :
    Calls Try.prog 47 #[.slice ao l.length cap, .int .i64 s] w fun e w' => ∃ v, e = .returned v ∧ OPa w' w.heap.size v (cutE l s) ∧ Below w.heap.size w w' := by
  have CG := Lib.hid (egood_any ao cap l w h hlen)
  have HP := Lib.hid h
  have HLN := Lib.hid hlen
  cases hg : goodE l
  · rw [cutE_bad hg]
    rw [hg] at CG
    clear hg h hlen
    go_enter Try.func47, Try.ntmps47
    go_wp2_with (go_at_call 59; refine CG.out.mono ?_; rintro e w1 ⟨rfl, hb1⟩; have HB1 := Lib.hid hb1; clear hb1)
    go_ret
    exact ⟨_, rfl, OR.nil _ _, HB1.out⟩
  rw [hg] at CG
  obtain ⟨hg1, hg2⟩ := goodE_iff.1 hg
  obtain ⟨q1, q2⟩ := @cutE_few l s hg
  rw [q1]
  have HEQ := Lib.hid (@cut_parts l hg2 s (min (endL l) s).toNat rfl)
  have HSG := Lib.hid (show soundG (clipG 0 s (laidE l)) from soundG.clip (by rw [laid_rail hg2]; exact rail_sound hg2) 0 s)
  obtain ⟨⟨r1, r2⟩, _⟩ := rail_end hg2
  have HEL := Lib.hid (show endE l = endL l from if_pos hg)
  have CE := Lib.hid (fun (W : World) (hb : Below w.heap.size w W) => eEnd_any ao cap l W (HP.out.below hb) HLN.out)
  rw [HEL.out] at CE
  have CPP := Lib.hid (fun (W : World) (b : Nat) (hF : FE W b 100000 (clipG 0 s (laidE l))) => eparts_any W b 100000 _ (min (endL l) s) (min (endL l) s).toNat (by simp) (by omega) (by omega) HSG.out hF)
  rw [HEQ.out, q2] at CPP
  have CLY := Lib.hid (fun (W : World) (hb : Below w.heap.size w W) => elay_any ao cap l 0 s W (HP.out.below hb) (by omega) (rail_one hg2) ⟨by decide, by decide⟩ (by omega))
  generalize gatE (cutF (spF l) (max s 0)) 8192 = R at *
  generalize clipG 0 s (laidE l) = G at *
  generalize endL l = el at *
  clear hg h hlen hg1 hg2 q1 q2
  go_enter Try.func47, Try.ntmps47
  go_wp2_with (first
    | (go_at_call 63; refine (CPP.out _ _ HF3.out).mono ?_; rintro e w4 ⟨v4, rfl, hO, hB⟩; have HB4 := Lib.hid (blwO hB HB3.out); have HO4 := Lib.hid (OPa.lower hO HB3.out.size); obtain ⟨a4, c4, hv4, _⟩ := OR.form par_rows hO; subst hv4; clear hO hB)
    | (go_at_call 64; refine (CE.out _ HB2.out).mono ?_; rintro e w3 ⟨rfl, hB⟩; have HB3 := Lib.hid (blwO hB HB2.out); have HF3 := Lib.hid (HF2.out.below hB); clear hB)
    | (go_at_call 62; refine (CLY.out _ HB1.out).mono ?_; rintro e w2 ⟨b, rfl, hb4, hF, hB⟩; have HB2 := Lib.hid (blwO hB HB1.out); have HF2 := Lib.hid hF; clear hF hB)
    | (go_at_call 59; refine CG.out.mono ?_; rintro e w1 ⟨rfl, hb1⟩; have HB1 := Lib.hid hb1; clear hb1))
  go_ret
  exact ⟨_, rfl, HO4.out, HB4.out⟩
theorem planB_parts (off n : Int) : planB off n = (betB n 1 8192 && betB off 0 (8192 - n)) := by
  rw [Bool.eq_iff_iff, planB_iff, Bool.and_eq_true, betB_iff, betB_iff]
  omega
theorem planE_no {l : List Pt} {off n : Int} (h : ¬ (goodE l = true ∧ planB off n = true)) : planE l off n = [] := if_neg h
end Go.Proofs.Ytfkgeefoknaldaa
