/- The law ProjBack: what was encoded is decoded as it was; what was decoded is encoded as it stood. No conditions. -/
import Derived.Test.YtbiihcoobknmjaaJPrjW
import Derived.Test.YtbiihcoobknmjaaJPjK
namespace Go.Proofs.Ytbiihcoobknmjaa
open Go.ChangeShapes Go.WideShapes Go.ChangeAt Go.RowKit
open Go.ChangeMaps (open_string shut_string)
set_option linter.unusedVariables false
set_option maxRecDepth 20000

set_option maxHeartbeats 8000000 in
theorem projBack_walk (HS : ProgSays) (ep : Int) (ao : Option Addr) (cap : Nat) (L : List (List Int)) (s : ByteArray) (ws : s.size ≤ maxLen) (w : World) (hp : PIn w ep ao cap L) :
    Calls Try.prog 6 #[.agg #[.int .i64 ep, .slice ao L.length cap], .string s] w fun e w' => e = .returned (.bool true) ∧ Below w.heap.size w w' := by
  have HB0 := Lib.hid ((Below.refl w.heap.size w).alloc (Nat.le_refl _) (.cells #[.int .i64 ep, .slice ao L.length cap] 24))
  have HP := Lib.hid (show PB (w.alloc (.cells #[.int .i64 ep, .slice ao L.length cap] 24)) w.heap.size ep ao L.length cap from heap_alloc_new _ _)
  have HI := Lib.hid (hp.below HB0.out)
  have CL0 := Lib.hid (large_any ep ao cap L _ HI.out.1.1 HI.out.2.2.1 HI.out.2.2.2)
  have CW := Lib.hid (wakes7_any HS)
  have HEW := Lib.hid (show -9223372036854775808 ≤ ep ∧ ep ≤ 9223372036854775807 from hp.2.1)
  clear hp
  unfold maxLen at ws
  have ws' : (s.size : Int) ≤ 9223372036854775807 := by omega
  by_cases hlg : largeB L = true
  · rw [hlg] at CL0
    clear hlg
    go_enter Try.func6, Try.ntmps6
    go_wp2_with (first | (go_at_call 8; refine CL0.out.mono ?_; rintro e w1 ⟨rfl, hb1⟩) | (go_at_call 9; refine (CW.out _).mono ?_; rintro e w2 ⟨rfl, hb2⟩))
    go_ret
    exact ⟨rfl, (HB0.out.trans (hb1.mono HB0.out.size)).trans (hb2.mono (Nat.le_trans HB0.out.size hb1.size))⟩
  have hlf : largeB L = false := by simpa using hlg
  rw [hlf] at CL0
  have HSM := Lib.hid (large_small hlf)
  clear hlg hlf
  by_cases hsz : 20000 < s.size
  · have hsz' : (20000 : Int) < (s.size : Int) := by omega
    clear hsz
    go_enter Try.func6, Try.ntmps6
    go_wp2_with (first | (go_at_call 8; refine CL0.out.mono ?_; rintro e w1 ⟨rfl, hb1⟩) | (go_at_call 9; refine (CW.out _).mono ?_; rintro e w2 ⟨rfl, hb2⟩))
    go_ret
    exact ⟨rfl, (HB0.out.trans (hb1.mono HB0.out.size)).trans (hb2.mono (Nat.le_trans HB0.out.size hb1.size))⟩
  have hsz' : (s.size : Int) ≤ 20000 := by omega
  have HZ := Lib.hid (show s.size ≤ 1000000 by omega)
  clear hsz ws ws'
  by_cases hg : goodB ep L = true
  · by_cases hc : codeB s = true
    · have EN := Lib.hid (show encB ep L = projB ep L ∧ encC ep L = 0 from ⟨if_pos hg, if_pos hg⟩)
      have DT := Lib.hid (show decE (projB ep L) = ep ∧ decL (projB ep L) = L ∧ decC (projB ep L) = 0 from ⟨(if_pos (code_back hg)).trans (open_back hg).1, (if_pos (code_back hg)).trans (open_back hg).2.1, if_pos (code_back hg)⟩)
      have HTZ := Lib.hid (show (projB ep L).size ≤ 1000000 from by have := projB_size hg; omega)
      generalize projB ep L = t at *
      have DS := Lib.hid (show decE s = openE s ∧ decL s = openC s ∧ decC s = 0 from ⟨if_pos hc, if_pos hc, if_pos hc⟩)
      have ES := Lib.hid (show encB (openE s) (openC s) = s ∧ encC (openE s) (openC s) = 0 from ⟨(if_pos (code_forth hc).1).trans (code_forth hc).2, if_pos (code_forth hc).1⟩)
      have SS := Lib.hid (show Small (openC s) from by have := dec_small s; rwa [DS.out.2.1] at this)
      have EW := Lib.hid (show -9223372036854775808 ≤ openE s ∧ openE s ≤ 9223372036854775807 from by have := (goodB_iff.1 (code_forth hc).1).1; omega)
      have hss : (s.toList == s.toList) = true := beq_self_eq_true _
      clear hg hc
      go_enter Try.func6, Try.ntmps6
      go_wp2_with (first
          | (go_at_call 8; refine CL0.out.mono ?_; rintro e w1 ⟨rfl, hb1⟩; have HR := Lib.hid (HB0.out.trans (hb1.mono HB0.out.size)); have HP1 := Lib.hid (HP.out.below hb1); have HI1 := Lib.hid (HI.out.below hb1); obtain ⟨x0, x1⟩ := HP1.out.cells; clear hb1)
          | (go_at_call 10; refine (keepCopy_any ep ao cap L w1 HI1.out.1.1 (small_copy HSM.out)).mono ?_; rintro e w2 ⟨bo, cb, rfl, hc2, hn2, hl2, hb2⟩; have HT2 := Lib.hid (show Told w2 bo cb L from ⟨hc2, hn2, hl2⟩); replace HR := Lib.hid (HR.out.trans (hb2.mono HR.out.size)); replace HP1 := Lib.hid (HP1.out.below hb2); replace HI1 := Lib.hid (HI1.out.below hb2); clear hc2 hn2 hl2 hb2 x0 x1)
          | (go_at_call 20; with_reducible refine (HS.encode (openE s) so sc (openC s) _ HQ2.out SS.out EW.out).mono ?_; rintro e w6 ⟨rfl, hb6⟩; replace HR := Lib.hid (HR.out.trans (hb6.mono HR.out.size)); rw [ES.out.1, ES.out.2]; clear hb6)
          | (go_at_call 20; with_reducible refine (HS.encode ep bo cb L w2 HT2.out HSM.out HEW.out).mono ?_; rintro e w3 ⟨rfl, hb3⟩; replace HR := Lib.hid (HR.out.trans (hb3.mono HR.out.size)); replace HP1 := Lib.hid (HP1.out.below hb3); replace HI1 := Lib.hid (HI1.out.below hb3); rw [EN.out.1, EN.out.2]; clear hb3)
          | (go_at_call 22; with_reducible refine (HS.decode s w7 HZ.out).mono ?_; rintro e w5 ⟨so, sc, rfl, ht5, hb5⟩; rw [DS.out.1, DS.out.2.2]; rw [DS.out.2.1] at ht5 ⊢; replace HR := Lib.hid (HR.out.trans (hb5.mono HR.out.size)); replace HR := Lib.hid (HR.out.alloc HR.out.size (.cells #[.int .i64 (openE s), .slice so (openC s).length sc] 24)); have HQ2 := Lib.hid (ht5.below ((Below.refl _ _).alloc (Nat.le_refl _) (.cells #[.int .i64 (openE s), .slice so (openC s).length sc] 24))); clear ht5 hb5)
          | (go_at_call 22; with_reducible refine (HS.decode t w3 HTZ.out).mono ?_; rintro e w4 ⟨qo, qc, rfl, ht4, hb4⟩; rw [DT.out.1, DT.out.2.2]; rw [DT.out.2.1] at ht4 ⊢; have hzp : w.heap.size < w4.heap.size := Nat.lt_of_lt_of_le HP1.out.lt hb4.size; obtain ⟨y0, y1⟩ := (HP1.out.below hb4).cells; replace HR := Lib.hid (HR.out.trans (hb4.mono HR.out.size)); replace HR := Lib.hid (HR.out.alloc HR.out.size (.cells #[.int .i64 ep, .slice qo L.length qc] 24)); replace HI1 := Lib.hid ((HI1.out.below hb4).below ((Below.refl _ _).alloc (Nat.le_refl _) (.cells #[.int .i64 ep, .slice qo L.length qc] 24))); have HQ1 := Lib.hid (ht4.below ((Below.refl _ _).alloc (Nat.le_refl _) (.cells #[.int .i64 ep, .slice qo L.length qc] 24))); clear ht4 hb4)
          | (go_at_call 17; refine (keepProj_any ep ao cap L ep qo qc L _ HI1.out.1.1 HQ1.out.1 (small_million HSM.out) (small_million HSM.out)).mono ?_; rintro e w7 ⟨rfl, hb7⟩; rw [sameP_self]; replace HR := Lib.hid (HR.out.trans (hb7.mono HR.out.size)); clear hb7 y0 y1)
          | (go_at_call 9; refine (CW.out _).mono ?_; rintro e w8 ⟨rfl, hb8⟩))
      go_ret
      exact ⟨rfl, HR.out.trans (hb8.mono HR.out.size)⟩
    · have EN := Lib.hid (show encB ep L = projB ep L ∧ encC ep L = 0 from ⟨if_pos hg, if_pos hg⟩)
      have DT := Lib.hid (show decE (projB ep L) = ep ∧ decL (projB ep L) = L ∧ decC (projB ep L) = 0 from ⟨(if_pos (code_back hg)).trans (open_back hg).1, (if_pos (code_back hg)).trans (open_back hg).2.1, if_pos (code_back hg)⟩)
      have HTZ := Lib.hid (show (projB ep L).size ≤ 1000000 from by have := projB_size hg; omega)
      generalize projB ep L = t at *
      have DS := Lib.hid (show decE s = 0 ∧ decL s = [] ∧ decC s = 11 from ⟨if_neg hc, if_neg hc, if_neg hc⟩)
      clear hg hc
      go_enter Try.func6, Try.ntmps6
      go_wp2_with (first
          | (go_at_call 8; refine CL0.out.mono ?_; rintro e w1 ⟨rfl, hb1⟩; have HR := Lib.hid (HB0.out.trans (hb1.mono HB0.out.size)); have HP1 := Lib.hid (HP.out.below hb1); have HI1 := Lib.hid (HI.out.below hb1); obtain ⟨x0, x1⟩ := HP1.out.cells; clear hb1)
          | (go_at_call 10; refine (keepCopy_any ep ao cap L w1 HI1.out.1.1 (small_copy HSM.out)).mono ?_; rintro e w2 ⟨bo, cb, rfl, hc2, hn2, hl2, hb2⟩; have HT2 := Lib.hid (show Told w2 bo cb L from ⟨hc2, hn2, hl2⟩); replace HR := Lib.hid (HR.out.trans (hb2.mono HR.out.size)); replace HP1 := Lib.hid (HP1.out.below hb2); replace HI1 := Lib.hid (HI1.out.below hb2); clear hc2 hn2 hl2 hb2 x0 x1)
          | (go_at_call 20; with_reducible refine (HS.encode ep bo cb L w2 HT2.out HSM.out HEW.out).mono ?_; rintro e w3 ⟨rfl, hb3⟩; replace HR := Lib.hid (HR.out.trans (hb3.mono HR.out.size)); replace HP1 := Lib.hid (HP1.out.below hb3); replace HI1 := Lib.hid (HI1.out.below hb3); rw [EN.out.1, EN.out.2]; clear hb3)
          | (go_at_call 22; with_reducible refine (HS.decode s w7 HZ.out).mono ?_; rintro e w5 ⟨so, sc, rfl, ht5, hb5⟩; rw [DS.out.1, DS.out.2.1, DS.out.2.2]; rw [DS.out.2.1] at ht5; replace HR := Lib.hid (HR.out.trans (hb5.mono HR.out.size)); replace HR := Lib.hid (HR.out.alloc HR.out.size (.cells #[.int .i64 0, .slice so 0 sc] 24)); have HQ2 := Lib.hid (ht5.below ((Below.refl _ _).alloc (Nat.le_refl _) (.cells #[.int .i64 0, .slice so 0 sc] 24))); clear ht5 hb5)
          | (go_at_call 22; with_reducible refine (HS.decode t w3 HTZ.out).mono ?_; rintro e w4 ⟨qo, qc, rfl, ht4, hb4⟩; rw [DT.out.1, DT.out.2.2]; rw [DT.out.2.1] at ht4 ⊢; have hzp : w.heap.size < w4.heap.size := Nat.lt_of_lt_of_le HP1.out.lt hb4.size; obtain ⟨y0, y1⟩ := (HP1.out.below hb4).cells; replace HR := Lib.hid (HR.out.trans (hb4.mono HR.out.size)); replace HR := Lib.hid (HR.out.alloc HR.out.size (.cells #[.int .i64 ep, .slice qo L.length qc] 24)); replace HI1 := Lib.hid ((HI1.out.below hb4).below ((Below.refl _ _).alloc (Nat.le_refl _) (.cells #[.int .i64 ep, .slice qo L.length qc] 24))); have HQ1 := Lib.hid (ht4.below ((Below.refl _ _).alloc (Nat.le_refl _) (.cells #[.int .i64 ep, .slice qo L.length qc] 24))); clear ht4 hb4)
          | (go_at_call 17; refine (keepProj_any ep ao cap L ep qo qc L _ HI1.out.1.1 HQ1.out.1 (small_million HSM.out) (small_million HSM.out)).mono ?_; rintro e w7 ⟨rfl, hb7⟩; rw [sameP_self]; replace HR := Lib.hid (HR.out.trans (hb7.mono HR.out.size)); clear hb7 y0 y1)
          | (go_at_call 9; refine (CW.out _).mono ?_; rintro e w8 ⟨rfl, hb8⟩))
      go_ret
      exact ⟨rfl, HR.out.trans (hb8.mono HR.out.size)⟩
  · by_cases hc : codeB s = true
    · have EN := Lib.hid (show encB ep L = ⟨#[]⟩ ∧ encC ep L = 11 from ⟨if_neg hg, if_neg hg⟩)
      have DS := Lib.hid (show decE s = openE s ∧ decL s = openC s ∧ decC s = 0 from ⟨if_pos hc, if_pos hc, if_pos hc⟩)
      have ES := Lib.hid (show encB (openE s) (openC s) = s ∧ encC (openE s) (openC s) = 0 from ⟨(if_pos (code_forth hc).1).trans (code_forth hc).2, if_pos (code_forth hc).1⟩)
      have SS := Lib.hid (show Small (openC s) from by have := dec_small s; rwa [DS.out.2.1] at this)
      have EW := Lib.hid (show -9223372036854775808 ≤ openE s ∧ openE s ≤ 9223372036854775807 from by have := (goodB_iff.1 (code_forth hc).1).1; omega)
      have hss : (s.toList == s.toList) = true := beq_self_eq_true _
      clear hg hc
      go_enter Try.func6, Try.ntmps6
      go_wp2_with (first
          | (go_at_call 8; refine CL0.out.mono ?_; rintro e w1 ⟨rfl, hb1⟩; have HR := Lib.hid (HB0.out.trans (hb1.mono HB0.out.size)); have HP1 := Lib.hid (HP.out.below hb1); have HI1 := Lib.hid (HI.out.below hb1); obtain ⟨x0, x1⟩ := HP1.out.cells; clear hb1)
          | (go_at_call 10; refine (keepCopy_any ep ao cap L w1 HI1.out.1.1 (small_copy HSM.out)).mono ?_; rintro e w2 ⟨bo, cb, rfl, hc2, hn2, hl2, hb2⟩; have HT2 := Lib.hid (show Told w2 bo cb L from ⟨hc2, hn2, hl2⟩); replace HR := Lib.hid (HR.out.trans (hb2.mono HR.out.size)); replace HP1 := Lib.hid (HP1.out.below hb2); replace HI1 := Lib.hid (HI1.out.below hb2); clear hc2 hn2 hl2 hb2 x0 x1)
          | (go_at_call 20; with_reducible refine (HS.encode (openE s) so sc (openC s) _ HQ2.out SS.out EW.out).mono ?_; rintro e w6 ⟨rfl, hb6⟩; replace HR := Lib.hid (HR.out.trans (hb6.mono HR.out.size)); rw [ES.out.1, ES.out.2]; clear hb6)
          | (go_at_call 20; with_reducible refine (HS.encode ep bo cb L w2 HT2.out HSM.out HEW.out).mono ?_; rintro e w3 ⟨rfl, hb3⟩; replace HR := Lib.hid (HR.out.trans (hb3.mono HR.out.size)); replace HP1 := Lib.hid (HP1.out.below hb3); replace HI1 := Lib.hid (HI1.out.below hb3); rw [EN.out.1, EN.out.2]; clear hb3)
          | (go_at_call 22; with_reducible refine (HS.decode s w3 HZ.out).mono ?_; rintro e w5 ⟨so, sc, rfl, ht5, hb5⟩; rw [DS.out.1, DS.out.2.2]; rw [DS.out.2.1] at ht5 ⊢; replace HR := Lib.hid (HR.out.trans (hb5.mono HR.out.size)); replace HR := Lib.hid (HR.out.alloc HR.out.size (.cells #[.int .i64 (openE s), .slice so (openC s).length sc] 24)); have HQ2 := Lib.hid (ht5.below ((Below.refl _ _).alloc (Nat.le_refl _) (.cells #[.int .i64 (openE s), .slice so (openC s).length sc] 24))); clear ht5 hb5)
          | (go_at_call 9; refine (CW.out _).mono ?_; rintro e w8 ⟨rfl, hb8⟩))
      go_ret
      exact ⟨rfl, HR.out.trans (hb8.mono HR.out.size)⟩
    · have EN := Lib.hid (show encB ep L = ⟨#[]⟩ ∧ encC ep L = 11 from ⟨if_neg hg, if_neg hg⟩)
      have DS := Lib.hid (show decE s = 0 ∧ decL s = [] ∧ decC s = 11 from ⟨if_neg hc, if_neg hc, if_neg hc⟩)
      clear hg hc
      go_enter Try.func6, Try.ntmps6
      go_wp2_with (first
          | (go_at_call 8; refine CL0.out.mono ?_; rintro e w1 ⟨rfl, hb1⟩; have HR := Lib.hid (HB0.out.trans (hb1.mono HB0.out.size)); have HP1 := Lib.hid (HP.out.below hb1); have HI1 := Lib.hid (HI.out.below hb1); obtain ⟨x0, x1⟩ := HP1.out.cells; clear hb1)
          | (go_at_call 10; refine (keepCopy_any ep ao cap L w1 HI1.out.1.1 (small_copy HSM.out)).mono ?_; rintro e w2 ⟨bo, cb, rfl, hc2, hn2, hl2, hb2⟩; have HT2 := Lib.hid (show Told w2 bo cb L from ⟨hc2, hn2, hl2⟩); replace HR := Lib.hid (HR.out.trans (hb2.mono HR.out.size)); replace HP1 := Lib.hid (HP1.out.below hb2); replace HI1 := Lib.hid (HI1.out.below hb2); clear hc2 hn2 hl2 hb2 x0 x1)
          | (go_at_call 20; with_reducible refine (HS.encode ep bo cb L w2 HT2.out HSM.out HEW.out).mono ?_; rintro e w3 ⟨rfl, hb3⟩; replace HR := Lib.hid (HR.out.trans (hb3.mono HR.out.size)); replace HP1 := Lib.hid (HP1.out.below hb3); replace HI1 := Lib.hid (HI1.out.below hb3); rw [EN.out.1, EN.out.2]; clear hb3)
          | (go_at_call 22; with_reducible refine (HS.decode s w3 HZ.out).mono ?_; rintro e w5 ⟨so, sc, rfl, ht5, hb5⟩; rw [DS.out.1, DS.out.2.1, DS.out.2.2]; rw [DS.out.2.1] at ht5; replace HR := Lib.hid (HR.out.trans (hb5.mono HR.out.size)); replace HR := Lib.hid (HR.out.alloc HR.out.size (.cells #[.int .i64 0, .slice so 0 sc] 24)); have HQ2 := Lib.hid (ht5.below ((Below.refl _ _).alloc (Nat.le_refl _) (.cells #[.int .i64 0, .slice so 0 sc] 24))); clear ht5 hb5)
          | (go_at_call 9; refine (CW.out _).mono ?_; rintro e w8 ⟨rfl, hb8⟩))
      go_ret
      exact ⟨rfl, HR.out.trans (hb8.mono HR.out.size)⟩

set_option maxRecDepth 100000 in
theorem projBack_lifted (os : Os) (started : os.Started) (H : Type) (enc : TypeId × Value → H) :
    ReturnsInHanded {} Try.checked os 6 .any (Rows.projBackSpec.pre6 enc Try.prog Try.f6 Rows.projBackRow.domain false) (Rows.projBackSpec.post enc Try.prog Try.f6 false true false false) := by
  refine returnsInHanded_of_change (C := Try.checked) own started (by kernel_rfl) Try.func6
    (ChangeSpec.witness6 (enc := enc) (C := Try.checked) false ⟨#[], #[.agg #[.int .i64 0, .slice none 0 0], .string ByteArray.empty], []⟩ 8 (by kernel_rfl) (by kernel_rfl) (by kernel_rfl) (by kernel_rfl)) ?_
  intro W base args ds gs before hval0 hW hcnd _
  have hval : ∀ (j : Nat) t v, Try.f6.params[j]? = some t → args[j]? = some v → Value.okWide Try.prog W .any base t v := hval0
  have hW' := hW
  obtain ⟨p, q, hA0, hV, rfl, hfz, hnd⟩ := hW
  have hA : DataW.TrodAll enc Try.prog W 0 (fun _ => true) true Try.f6.params.toList args.toList ds p := hA0
  rw [Try.params6] at hA hval
  obtain ⟨v0, vs0, d0, ds0, p0, q0, hargs, rfl, rfl, h0, r0⟩ := trodAll_cons hA
  obtain ⟨v1, vs1, d1, ds1, p1, q1, rfl, rfl, rfl, h1, r1⟩ := trodAll_cons r0
  obtain ⟨rfl, rfl, rfl⟩ := trodAll_nil r1
  obtain rfl : args = #[v0, v1] := by cases args; simp_all
  obtain ⟨rfl, rfl⟩ := trodVars_none hV
  have k0 := h0
  have lt0 : ∀ x ∈ p0, x.block < W.heap.size := by obtain ⟨m, hm⟩ := k0; exact DataW.trod_lt m _ _ _ hm
  have k1 := h1
  have lt1 : ∀ x ∈ p1, x.block < W.heap.size := by obtain ⟨m, hm⟩ := k1; exact DataW.trod_lt m _ _ _ hm
  obtain ⟨ep0, ao0, cap0, L0, rfl, wf0, hC0, hn0, hc0, hl0, hm0⟩ := open_proj Try.underlying24 (by kernel_rfl) rfl rfl (by kernel_rfl) (by kernel_rfl) Try.underlying3 Try.underlying22 Try.underlying28 (by kernel_rfl) (hval 0 24 v0 rfl rfl) h0
  have hF0 : PIn W ep0 ao0 cap0 L0 := ⟨⟨hC0, hn0, hc0⟩, i64_of_wf wf0, hl0, fun c hcm => by obtain ⟨i, hi, rfl⟩ := List.getElem_of_mem hcm; exact hm0 i hi⟩
  obtain ⟨a1, rfl, rfl, rfl, w1⟩ := open_string Try.underlying9 (hval 1 9 v1 rfl rfl) h1
  clear hA0 hval0
  refine (projBack_walk progSays ep0 ao0 cap0 L0 a1 w1 W hF0).mono fun e W' ⟨he, bel⟩ => ?_
  subst he
  exact ⟨_, rfl, _, _, _, [], _, [], hW', trodAll_mk1 (shut_bool Try.underlying4 _), (trodAll_cons_mk (Below.trod laidOut (by kernel_rfl) (of_decide_eq_true (by kernel_rfl)) k0 bel lt0) (trodAll_cons_mk (Below.trod laidOut (by kernel_rfl) (of_decide_eq_true (by kernel_rfl)) k1 bel lt1) trodAll_mk0)), rfl, bel.frame _, fun h => by cases h⟩

theorem projBack_over : Rows.projBackRow.holds Try.pinned (OpenSpec.ofChange Rows.projBackSpec) :=
  OpenClaim.holds_of_wide 6 Try.f6 rfl rfl rfl rfl rfl rfl rfl ⟨rfl, rfl, rfl, rfl, rfl⟩ rfl rfl rfl rfl rfl (by kernel_rfl) Try.func6 (by kernel_rfl)
    (of_decide_eq_true (by kernel_rfl)) (by unfold Func.isWrapper; first | (rw [if_pos (by decide +kernel)]; kernel_rfl) | (rw [if_neg (by decide +kernel)]; exact ⟨rfl, rfl⟩))
    (fun os started H enc _ => projBack_lifted os started H enc)

/-- THE STATEMENT -/
theorem projBack_holds : Rows.ProjBackSaid := projBack_over 
end Go.Proofs.Ytbiihcoobknmjaa
