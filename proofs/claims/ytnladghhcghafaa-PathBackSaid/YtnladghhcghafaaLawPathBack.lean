/- PathBack: names that were joined are split as they were; a path that was split is joined as it was; it is its directory's path and its last name; for every list of texts and every text; and the law's examples come out. No conditions. -/
import Derived.Test.YtnladghhcghafaaFrame
import Derived.Test.YtnladghhcghafaaStrsIn
import Derived.Test.YtnladghhcghafaaPathJ
namespace Go.Proofs.Ytnladghhcghafaa
open Go.ChangeShapes Go.WideShapes Go.ChangeAt Go.RowKit
open Go.ChangeMaps (open_string shut_string)
set_option linter.unusedVariables false

theorem texts_same (A : List ByteArray) (ao bo : Option Addr) (ca cb : Nat) (w : World) (hA : SL w ao A) (hB : SL w bo A) (lA : A.length ≤ 1000000) :
    Calls Try.prog 16 #[.slice ao A.length ca, .slice bo A.length cb] w fun e w' => e = .returned (.bool true) ∧ ∃ n, w' = w.drewN n := by
  have h := texts_any A A ao bo ca cb w hA hB lA lA
  rwa [decide_eq_true rfl] at h
theorem pathL_size {L : List ByteArray} (h : fit L = true) : (pathL L).size ≤ 72 := by
  unfold pathL
  split
  · decide
  · have := joinL_size_le L ((fit_iff L).1 h).2
    have := ((fit_iff L).1 h).1
    omega
/-- what was joined is split as it was -/
theorem split_joined {L : List ByteArray} (h : fit L = true) (w : World) :
    Calls Try.prog 8 #[.string (pathL L)] w (Splits w L 0) := by
  have hz := pathL_size h
  have c := split_any (pathL L) (by omega) w
  rwa [(fit_good L h).2, codeR_yes (fit_good L h).1] at c
theorem join_split {p : ByteArray} (h : goodR p = true) : joinR (namesR p) = (p, 0) := by
  rw [joinR_yes (good_fit p h).1, (good_fit p h).2]
theorem up_joins {p s : ByteArray} {I : List ByteArray} (hg : goodR p = true) (h : namesR p = I ++ [s]) : joinL I ++ ⟨#[47]⟩ ++ s = p := by
  have hp := (good_fit p hg).2
  rw [h] at hp
  apply lof_inj
  rw [← hp, pathL_eq _ (by simp), joinC_app, lof_app, lof_app, joinL_list]
  simp [joinC, lof]
theorem joinL_root {I : List ByteArray} (h : I.all nameB = true) : joinL I ≠ slashB := by
  intro e
  have h2 := congrArg lof e
  rw [joinL_list, lof_slash] at h2
  cases I with
  | nil => cases h2
  | cons s l =>
    rw [List.all_cons, Bool.and_eq_true] at h
    have h3 := ((nameB_iff s).1 h.1).1
    rw [lof_size] at h3
    have h4 := congrArg List.length h2
    simp only [joinC, List.length_cons, List.length_append, List.length_nil] at h4
    omega
set_option maxHeartbeats 4000000 in
theorem pathBack_in (ao : Option Addr) (cap : Nat) (L : List ByteArray) (a1 : ByteArray) (g0 : L.length ≤ 100) (g1 : a1.size ≤ 20000) (w : World) (h : SLI w ao cap L) :
    Calls Try.prog 6 #[.slice ao L.length cap, .string a1] w fun e w' => e = .returned (.bool true) ∧ Below w.heap.size w w' := by
  have hb0 := Below.refl w.heap.size w
  have g0' : (L.length : Int) ≤ 100 := by omega
  have g1' : (a1.size : Int) ≤ 20000 := by omega
  have H := Lib.hid h
  have H1 := Lib.hid (show L.length ≤ 1000000 by omega)
  have H2 := Lib.hid (show (namesR a1).length ≤ 1000000 by have := (names_le a1).1; omega)
  have H3 := Lib.hid (show a1.size ≤ 1099511627776 by omega)
  have HA := Lib.hid (fun (w1 : World) (hb : Below w.heap.size w w1) => H.out.1.below hb)
  have hK8 := (names_le a1).1
  have hK8' : ((namesR a1).length : Int) ≤ 8 := by omega
  clear h g0 g1
  have cs := fun w => split_any a1 H3.out w
  have cg := fun w => good_any a1 H3.out w
  cases hg : goodR a1
  · rw [codeR_no hg, names_none hg] at cs
    rw [hg] at cg
    clear hg H2 hK8 hK8'
    cases hf : fit L
    · have HJ := Lib.hid (joinR_no hf)
      clear hf
      go_enter Try.func6, Try.ntmps6
      go_wp2_with (first | (refine wpList_copy_strs (o := ⟨some 28, _, _, _, _, _⟩) ?k1_1 (.tmp 26) (.tmp 27) ?k1_2 w.heap.size ?k1_3 (heap_alloc_new _ _) ao cap L ?k1_4 ⟨HA.out _ ((Below.refl _ _).alloc (Nat.le_refl _) _), H.out.2⟩ H1.out w.heap.size w (Nat.le_refl _) ((Below.refl _ _).alloc (Nat.le_refl _) _) ?k1_5; (case k1_1 => rfl); (case k1_2 => rfl); (case k1_3 => rfl); (case k1_4 => rfl); intro ao1 cap1 w1 hs1 hb1; replace hb0 := hb1; clear hb1) | (go_at_call 17; ((with_reducible refine (join_any L _ _ _ hs1 H1.out).mono ?_); rintro e w2 ⟨rfl, hb2⟩; rw [HJ.out]; replace hb0 := hb0.trans (hb2.mono hb0.size); clear hb2 hs1)) | (go_at_call 8; ((with_reducible refine (cs _).mono ?_); rintro e w4 ⟨co, cc, rfl, hC, hb4, _⟩; replace hb0 := hb0.trans (hb4.mono hb0.size); clear hb4)) | (go_at_call 14; refine (cg _).mono ?_; rintro e w5 ⟨rfl, hb5⟩; replace hb0 := hb0.trans (hb5.mono hb0.size); clear hb5) | (go_at_call 7; refine (wakes_any _).mono ?_; rintro e w8 ⟨rfl, hb8⟩; replace hb0 := hb0.trans (hb8.mono hb0.size); clear hb8))
      go_ret
      exact ⟨rfl, hb0⟩
    · have HJ := Lib.hid (joinR_yes hf)
      have HF := Lib.hid hf
      have hpz : (pathL L).size ≤ 72 := pathL_size hf
      clear hf
      go_enter Try.func6, Try.ntmps6
      go_wp2_with (first | (refine wpList_copy_strs (o := ⟨some 28, _, _, _, _, _⟩) ?k2_1 (.tmp 26) (.tmp 27) ?k2_2 w.heap.size ?k2_3 (heap_alloc_new _ _) ao cap L ?k2_4 ⟨HA.out _ ((Below.refl _ _).alloc (Nat.le_refl _) _), H.out.2⟩ H1.out w.heap.size w (Nat.le_refl _) ((Below.refl _ _).alloc (Nat.le_refl _) _) ?k2_5; (case k2_1 => rfl); (case k2_2 => rfl); (case k2_3 => rfl); (case k2_4 => rfl); intro ao1 cap1 w1 hs1 hb1; replace hb0 := hb1; clear hb1) | (go_at_call 17; ((with_reducible refine (join_any L _ _ _ hs1 H1.out).mono ?_); rintro e w2 ⟨rfl, hb2⟩; rw [HJ.out]; replace hb0 := hb0.trans (hb2.mono hb0.size); clear hb2 hs1)) | (go_at_call 8; ((with_reducible refine (split_joined HF.out _).mono ?_); rintro e w3 ⟨bo, cb, rfl, hB, hb3, _⟩; replace hb0 := hb0.trans (hb3.mono hb0.size); clear hb3)) | (go_at_call 16; refine (texts_same L _ _ _ _ _ hB (HA.out _ hb0) H1.out).mono ?_; rintro e w' ⟨rfl, q, rfl⟩; replace hb0 := below_drewN hb0 q; clear hB) | (go_at_call 8; ((with_reducible refine (cs _).mono ?_); rintro e w4 ⟨co, cc, rfl, hC, hb4, _⟩; replace hb0 := hb0.trans (hb4.mono hb0.size); clear hb4)) | (go_at_call 14; refine (cg _).mono ?_; rintro e w5 ⟨rfl, hb5⟩; replace hb0 := hb0.trans (hb5.mono hb0.size); clear hb5) | (go_at_call 7; refine (wakes_any _).mono ?_; rintro e w8 ⟨rfl, hb8⟩; replace hb0 := hb0.trans (hb8.mono hb0.size); clear hb8))
      go_ret
      exact ⟨rfl, hb0⟩
  have ci := fun w => inside_any a1 ⟨#[47]⟩ H3.out (by decide) w
  rw [show insideR a1 ⟨#[47]⟩ = true from inside_root hg] at ci
  have cu := fun w => up_any a1 H3.out w
  rw [codeR_yes hg] at cs
  have HK := Lib.hid (join_split hg)
  by_cases hr : a1 = slashB
  · subst hr
    rw [upR_none namesR_root] at cu
    rw [namesR_root] at *
    unfold slashB at *
    generalize hK : ([] : List ByteArray) = K at *
    clear hg hK
    cases hf : fit L
    · have HJ := Lib.hid (joinR_no hf)
      clear hf
      go_enter Try.func6, Try.ntmps6
      go_wp2_with (first | (refine wpList_copy_strs (o := ⟨some 28, _, _, _, _, _⟩) ?k3_1 (.tmp 26) (.tmp 27) ?k3_2 w.heap.size ?k3_3 (heap_alloc_new _ _) ao cap L ?k3_4 ⟨HA.out _ ((Below.refl _ _).alloc (Nat.le_refl _) _), H.out.2⟩ H1.out w.heap.size w (Nat.le_refl _) ((Below.refl _ _).alloc (Nat.le_refl _) _) ?k3_5; (case k3_1 => rfl); (case k3_2 => rfl); (case k3_3 => rfl); (case k3_4 => rfl); intro ao1 cap1 w1 hs1 hb1; replace hb0 := hb1; clear hb1) | (go_at_call 17; ((with_reducible refine (join_any L _ _ _ hs1 H1.out).mono ?_); rintro e w2 ⟨rfl, hb2⟩; rw [HJ.out]; replace hb0 := hb0.trans (hb2.mono hb0.size); clear hb2 hs1)) | (go_at_call 8; ((with_reducible refine (cs _).mono ?_); rintro e w4 ⟨co, cc, rfl, hC, hb4, _⟩; replace hb0 := hb0.trans (hb4.mono hb0.size); clear hb4)) | (go_at_call 17; ((with_reducible refine (join_any K _ _ _ hC H2.out).mono ?_); rintro e w5 ⟨rfl, hb5⟩; rw [HK.out]; replace hb0 := hb0.trans (hb5.mono hb0.size); clear hb5 hC)) | (go_at_call 10; refine (cu _).mono ?_; rintro e w6 ⟨rfl, hb6⟩; replace hb0 := hb0.trans (hb6.mono hb0.size); clear hb6) | (go_at_call 7; refine (wakes_any _).mono ?_; rintro e w8 ⟨rfl, hb8⟩; replace hb0 := hb0.trans (hb8.mono hb0.size); clear hb8))
      go_ret
      exact ⟨rfl, hb0⟩
    · have HJ := Lib.hid (joinR_yes hf)
      have HF := Lib.hid hf
      have hpz : (pathL L).size ≤ 72 := pathL_size hf
      clear hf
      go_enter Try.func6, Try.ntmps6
      go_wp2_with (first | (refine wpList_copy_strs (o := ⟨some 28, _, _, _, _, _⟩) ?k4_1 (.tmp 26) (.tmp 27) ?k4_2 w.heap.size ?k4_3 (heap_alloc_new _ _) ao cap L ?k4_4 ⟨HA.out _ ((Below.refl _ _).alloc (Nat.le_refl _) _), H.out.2⟩ H1.out w.heap.size w (Nat.le_refl _) ((Below.refl _ _).alloc (Nat.le_refl _) _) ?k4_5; (case k4_1 => rfl); (case k4_2 => rfl); (case k4_3 => rfl); (case k4_4 => rfl); intro ao1 cap1 w1 hs1 hb1; replace hb0 := hb1; clear hb1) | (go_at_call 17; ((with_reducible refine (join_any L _ _ _ hs1 H1.out).mono ?_); rintro e w2 ⟨rfl, hb2⟩; rw [HJ.out]; replace hb0 := hb0.trans (hb2.mono hb0.size); clear hb2 hs1)) | (go_at_call 8; ((with_reducible refine (split_joined HF.out _).mono ?_); rintro e w3 ⟨bo, cb, rfl, hB, hb3, _⟩; replace hb0 := hb0.trans (hb3.mono hb0.size); clear hb3)) | (go_at_call 16; refine (texts_same L _ _ _ _ _ hB (HA.out _ hb0) H1.out).mono ?_; rintro e w' ⟨rfl, q, rfl⟩; replace hb0 := below_drewN hb0 q; clear hB) | (go_at_call 8; ((with_reducible refine (cs _).mono ?_); rintro e w4 ⟨co, cc, rfl, hC, hb4, _⟩; replace hb0 := hb0.trans (hb4.mono hb0.size); clear hb4)) | (go_at_call 17; ((with_reducible refine (join_any K _ _ _ hC H2.out).mono ?_); rintro e w5 ⟨rfl, hb5⟩; rw [HK.out]; replace hb0 := hb0.trans (hb5.mono hb0.size); clear hb5 hC)) | (go_at_call 10; refine (cu _).mono ?_; rintro e w6 ⟨rfl, hb6⟩; replace hb0 := hb0.trans (hb6.mono hb0.size); clear hb6) | (go_at_call 7; refine (wakes_any _).mono ?_; rintro e w8 ⟨rfl, hb8⟩; replace hb0 := hb0.trans (hb8.mono hb0.size); clear hb8))
      go_ret
      exact ⟨rfl, hb0⟩
  have d0 := rootB hr
  obtain ⟨I, s, hi⟩ := split_last _ (good_names hg hr).1
  have hfit := (good_fit a1 hg).1
  rw [hi] at hfit
  obtain ⟨hI, hs⟩ := fit_init hfit
  have hs8 : s.size ≤ 8 := ((nameB_iff s).1 hs).2.1
  have hj8 := joinL_size_le I ((fit_iff I).1 hI).2
  have hI8 := ((fit_iff I).1 hI).1
  have hjz : (joinL I).size ≤ 72 := by omega
  have hu := up_joins hg hi
  have hn := joinL_root ((fit_iff I).1 hI).2
  rw [upR_some I s hi] at cu
  generalize namesR a1 = K at *
  have e2 : (a1.toList == a1.toList) = true := by rw [beq_iff_eq]
  clear hr hi hfit hI hs hj8 hI8 hg
  by_cases h0 : I = []
  · subst h0
    rw [show pathL [] = ⟨#[47]⟩ from rfl] at cu
    rw [show joinL [] = ⟨#[]⟩ from rfl] at hu hjz
    have e1 : (((⟨#[]⟩ : ByteArray) ++ ⟨#[47]⟩ ++ s).toList == a1.toList) = true := by rw [hu, beq_iff_eq]
    clear hu hn
    cases hf : fit L
    · have HJ := Lib.hid (joinR_no hf)
      clear hf
      go_enter Try.func6, Try.ntmps6
      go_wp2_with (first | (refine wpList_copy_strs (o := ⟨some 28, _, _, _, _, _⟩) ?k5_1 (.tmp 26) (.tmp 27) ?k5_2 w.heap.size ?k5_3 (heap_alloc_new _ _) ao cap L ?k5_4 ⟨HA.out _ ((Below.refl _ _).alloc (Nat.le_refl _) _), H.out.2⟩ H1.out w.heap.size w (Nat.le_refl _) ((Below.refl _ _).alloc (Nat.le_refl _) _) ?k5_5; (case k5_1 => rfl); (case k5_2 => rfl); (case k5_3 => rfl); (case k5_4 => rfl); intro ao1 cap1 w1 hs1 hb1; replace hb0 := hb1; clear hb1) | (go_at_call 17; ((with_reducible refine (join_any L _ _ _ hs1 H1.out).mono ?_); rintro e w2 ⟨rfl, hb2⟩; rw [HJ.out]; replace hb0 := hb0.trans (hb2.mono hb0.size); clear hb2 hs1)) | (go_at_call 8; ((with_reducible refine (cs _).mono ?_); rintro e w4 ⟨co, cc, rfl, hC, hb4, _⟩; replace hb0 := hb0.trans (hb4.mono hb0.size); clear hb4)) | (go_at_call 17; ((with_reducible refine (join_any K _ _ _ hC H2.out).mono ?_); rintro e w5 ⟨rfl, hb5⟩; rw [HK.out]; replace hb0 := hb0.trans (hb5.mono hb0.size); clear hb5 hC)) | (go_at_call 10; refine (cu _).mono ?_; rintro e w6 ⟨rfl, hb6⟩; replace hb0 := hb0.trans (hb6.mono hb0.size); clear hb6) | (go_at_call 19; refine (ci _).mono ?_; rintro e w7 ⟨rfl, hb7⟩; replace hb0 := hb0.trans (hb7.mono hb0.size); clear hb7) | (go_at_call 7; refine (wakes_any _).mono ?_; rintro e w8 ⟨rfl, hb8⟩; replace hb0 := hb0.trans (hb8.mono hb0.size); clear hb8))
      go_ret
      exact ⟨rfl, hb0⟩
    · have HJ := Lib.hid (joinR_yes hf)
      have HF := Lib.hid hf
      have hpz : (pathL L).size ≤ 72 := pathL_size hf
      clear hf
      go_enter Try.func6, Try.ntmps6
      go_wp2_with (first | (refine wpList_copy_strs (o := ⟨some 28, _, _, _, _, _⟩) ?k6_1 (.tmp 26) (.tmp 27) ?k6_2 w.heap.size ?k6_3 (heap_alloc_new _ _) ao cap L ?k6_4 ⟨HA.out _ ((Below.refl _ _).alloc (Nat.le_refl _) _), H.out.2⟩ H1.out w.heap.size w (Nat.le_refl _) ((Below.refl _ _).alloc (Nat.le_refl _) _) ?k6_5; (case k6_1 => rfl); (case k6_2 => rfl); (case k6_3 => rfl); (case k6_4 => rfl); intro ao1 cap1 w1 hs1 hb1; replace hb0 := hb1; clear hb1) | (go_at_call 17; ((with_reducible refine (join_any L _ _ _ hs1 H1.out).mono ?_); rintro e w2 ⟨rfl, hb2⟩; rw [HJ.out]; replace hb0 := hb0.trans (hb2.mono hb0.size); clear hb2 hs1)) | (go_at_call 8; ((with_reducible refine (split_joined HF.out _).mono ?_); rintro e w3 ⟨bo, cb, rfl, hB, hb3, _⟩; replace hb0 := hb0.trans (hb3.mono hb0.size); clear hb3)) | (go_at_call 16; refine (texts_same L _ _ _ _ _ hB (HA.out _ hb0) H1.out).mono ?_; rintro e w' ⟨rfl, q, rfl⟩; replace hb0 := below_drewN hb0 q; clear hB) | (go_at_call 8; ((with_reducible refine (cs _).mono ?_); rintro e w4 ⟨co, cc, rfl, hC, hb4, _⟩; replace hb0 := hb0.trans (hb4.mono hb0.size); clear hb4)) | (go_at_call 17; ((with_reducible refine (join_any K _ _ _ hC H2.out).mono ?_); rintro e w5 ⟨rfl, hb5⟩; rw [HK.out]; replace hb0 := hb0.trans (hb5.mono hb0.size); clear hb5 hC)) | (go_at_call 10; refine (cu _).mono ?_; rintro e w6 ⟨rfl, hb6⟩; replace hb0 := hb0.trans (hb6.mono hb0.size); clear hb6) | (go_at_call 19; refine (ci _).mono ?_; rintro e w7 ⟨rfl, hb7⟩; replace hb0 := hb0.trans (hb7.mono hb0.size); clear hb7) | (go_at_call 7; refine (wakes_any _).mono ?_; rintro e w8 ⟨rfl, hb8⟩; replace hb0 := hb0.trans (hb8.mono hb0.size); clear hb8))
      go_ret
      exact ⟨rfl, hb0⟩
  · rw [show pathL I = joinL I from if_neg h0] at cu
    have d1 := rootB hn
    generalize joinL I = D at *
    have e1 : ((D ++ ⟨#[47]⟩ ++ s).toList == a1.toList) = true := by rw [hu, beq_iff_eq]
    clear hu hn h0
    cases hf : fit L
    · have HJ := Lib.hid (joinR_no hf)
      clear hf
      go_enter Try.func6, Try.ntmps6
      go_wp2_with (first | (refine wpList_copy_strs (o := ⟨some 28, _, _, _, _, _⟩) ?k7_1 (.tmp 26) (.tmp 27) ?k7_2 w.heap.size ?k7_3 (heap_alloc_new _ _) ao cap L ?k7_4 ⟨HA.out _ ((Below.refl _ _).alloc (Nat.le_refl _) _), H.out.2⟩ H1.out w.heap.size w (Nat.le_refl _) ((Below.refl _ _).alloc (Nat.le_refl _) _) ?k7_5; (case k7_1 => rfl); (case k7_2 => rfl); (case k7_3 => rfl); (case k7_4 => rfl); intro ao1 cap1 w1 hs1 hb1; replace hb0 := hb1; clear hb1) | (go_at_call 17; ((with_reducible refine (join_any L _ _ _ hs1 H1.out).mono ?_); rintro e w2 ⟨rfl, hb2⟩; rw [HJ.out]; replace hb0 := hb0.trans (hb2.mono hb0.size); clear hb2 hs1)) | (go_at_call 8; ((with_reducible refine (cs _).mono ?_); rintro e w4 ⟨co, cc, rfl, hC, hb4, _⟩; replace hb0 := hb0.trans (hb4.mono hb0.size); clear hb4)) | (go_at_call 17; ((with_reducible refine (join_any K _ _ _ hC H2.out).mono ?_); rintro e w5 ⟨rfl, hb5⟩; rw [HK.out]; replace hb0 := hb0.trans (hb5.mono hb0.size); clear hb5 hC)) | (go_at_call 10; refine (cu _).mono ?_; rintro e w6 ⟨rfl, hb6⟩; replace hb0 := hb0.trans (hb6.mono hb0.size); clear hb6) | (go_at_call 19; refine (ci _).mono ?_; rintro e w7 ⟨rfl, hb7⟩; replace hb0 := hb0.trans (hb7.mono hb0.size); clear hb7) | (go_at_call 7; refine (wakes_any _).mono ?_; rintro e w8 ⟨rfl, hb8⟩; replace hb0 := hb0.trans (hb8.mono hb0.size); clear hb8))
      go_ret
      exact ⟨rfl, hb0⟩
    · have HJ := Lib.hid (joinR_yes hf)
      have HF := Lib.hid hf
      have hpz : (pathL L).size ≤ 72 := pathL_size hf
      clear hf
      go_enter Try.func6, Try.ntmps6
      go_wp2_with (first | (refine wpList_copy_strs (o := ⟨some 28, _, _, _, _, _⟩) ?k8_1 (.tmp 26) (.tmp 27) ?k8_2 w.heap.size ?k8_3 (heap_alloc_new _ _) ao cap L ?k8_4 ⟨HA.out _ ((Below.refl _ _).alloc (Nat.le_refl _) _), H.out.2⟩ H1.out w.heap.size w (Nat.le_refl _) ((Below.refl _ _).alloc (Nat.le_refl _) _) ?k8_5; (case k8_1 => rfl); (case k8_2 => rfl); (case k8_3 => rfl); (case k8_4 => rfl); intro ao1 cap1 w1 hs1 hb1; replace hb0 := hb1; clear hb1) | (go_at_call 17; ((with_reducible refine (join_any L _ _ _ hs1 H1.out).mono ?_); rintro e w2 ⟨rfl, hb2⟩; rw [HJ.out]; replace hb0 := hb0.trans (hb2.mono hb0.size); clear hb2 hs1)) | (go_at_call 8; ((with_reducible refine (split_joined HF.out _).mono ?_); rintro e w3 ⟨bo, cb, rfl, hB, hb3, _⟩; replace hb0 := hb0.trans (hb3.mono hb0.size); clear hb3)) | (go_at_call 16; refine (texts_same L _ _ _ _ _ hB (HA.out _ hb0) H1.out).mono ?_; rintro e w' ⟨rfl, q, rfl⟩; replace hb0 := below_drewN hb0 q; clear hB) | (go_at_call 8; ((with_reducible refine (cs _).mono ?_); rintro e w4 ⟨co, cc, rfl, hC, hb4, _⟩; replace hb0 := hb0.trans (hb4.mono hb0.size); clear hb4)) | (go_at_call 17; ((with_reducible refine (join_any K _ _ _ hC H2.out).mono ?_); rintro e w5 ⟨rfl, hb5⟩; rw [HK.out]; replace hb0 := hb0.trans (hb5.mono hb0.size); clear hb5 hC)) | (go_at_call 10; refine (cu _).mono ?_; rintro e w6 ⟨rfl, hb6⟩; replace hb0 := hb0.trans (hb6.mono hb0.size); clear hb6) | (go_at_call 19; refine (ci _).mono ?_; rintro e w7 ⟨rfl, hb7⟩; replace hb0 := hb0.trans (hb7.mono hb0.size); clear hb7) | (go_at_call 7; refine (wakes_any _).mono ?_; rintro e w8 ⟨rfl, hb8⟩; replace hb0 := hb0.trans (hb8.mono hb0.size); clear hb8))
      go_ret
      exact ⟨rfl, hb0⟩
theorem pathBack_walk (ao : Option Addr) (cap : Nat) (L : List ByteArray) (a1 : ByteArray) (hl : L.length ≤ maxLen) (w1 : a1.size ≤ maxLen) (w : World) (h : SLI w ao cap L) :
    Calls Try.prog 6 #[.slice ao L.length cap, .string a1] w fun e w' => e = .returned (.bool true) ∧ Below w.heap.size w w' := by
  unfold maxLen at hl w1
  by_cases g0 : L.length ≤ 100
  · by_cases g1 : a1.size ≤ 20000
    · exact pathBack_in ao cap L a1 g0 g1 w h
    · have g0' : (L.length : Int) ≤ 100 := by omega
      have g1' : (20000 : Int) < a1.size := by omega
      clear g0 g1 h
      go_enter Try.func6, Try.ntmps6
      go_wp2_with (go_at_call 7; refine (wakes_any _).mono ?_; rintro e w3 ⟨rfl, hb3⟩)
      go_ret
      exact ⟨rfl, hb3⟩
  · have g0' : (100 : Int) < L.length := by omega
    clear g0 h
    go_enter Try.func6, Try.ntmps6
    go_wp2_with (go_at_call 7; refine (wakes_any _).mono ?_; rintro e w3 ⟨rfl, hb3⟩)
    go_ret
    exact ⟨rfl, hb3⟩

set_option maxRecDepth 100000 in
theorem pathBack_lifted (os : Os) (started : os.Started) (H : Type) (enc : TypeId × Value → H) :
    ReturnsInHanded {} Try.checked os 6 .any (Rows.pathBackSpec.pre6 enc Try.prog Try.f6 Rows.pathBackRow.domain false) (Rows.pathBackSpec.post enc Try.prog Try.f6 false true false false) := by
  refine returnsInHanded_of_change (C := Try.checked) own started (by kernel_rfl) Try.func6
    (ChangeSpec.witness6 (enc := enc) (C := Try.checked) false ⟨#[], #[.slice none 0 0, .string ByteArray.empty], []⟩ 8 (by kernel_rfl) (by kernel_rfl) (by kernel_rfl) (by kernel_rfl)) ?_
  intro W base args ds gs before hval0 hW hcnd _
  have hval : ∀ (j : Nat) t v, Try.f6.params[j]? = some t → args[j]? = some v → Value.okWide Try.prog W .any base t v := hval0
  have hW' := hW
  obtain ⟨p, q, hA0, hV, rfl, hfz, hnd⟩ := hW
  have hA : DataW.TrodAll enc Try.prog W 0 (fun _ => true) true Try.f6.params.toList args.toList ds p := hA0
  rw [Try.params6] at hA hval
  obtain ⟨v0, vs0, d0, ds0, p0, q0, hargs, rfl, rfl, h0, r0⟩ := trodAll_cons hA
  obtain ⟨v1, vs1, d1, ds1, p1, q1, rfl, rfl, rfl, h1, r1⟩ := trodAll_cons r0
  obtain ⟨rfl, rfl, rfl⟩ := trodAll_nil r1
  obtain rfl : args = #[v0, v1] := by cases args; simp_all
  obtain ⟨rfl, rfl⟩ := trodVars_none hV
  have k0 := h0
  have lt0 : ∀ x ∈ p0, x.block < W.heap.size := by obtain ⟨m, hm⟩ := k0; exact DataW.trod_lt m _ _ _ hm
  have k1 := h1
  have lt1 : ∀ x ∈ p1, x.block < W.heap.size := by obtain ⟨m, hm⟩ := k1; exact DataW.trod_lt m _ _ _ hm
  obtain ⟨ao0, cap0, L0, rfl, w0, hF0⟩ := open_strs Try.underlying23 Try.underlying9 (by kernel_rfl) (hval 0 23 v0 rfl rfl) h0
  obtain ⟨a1, rfl, rfl, rfl, w1⟩ := open_string Try.underlying9 (hval 1 9 v1 rfl rfl) h1
  clear hA0 hval0
  refine (pathBack_walk ao0 cap0 L0 a1 w0 w1 W hF0).mono fun e W' ⟨he, bel⟩ => ?_
  subst he
  exact ⟨_, rfl, _, _, _, [], _, [], hW', trodAll_mk1 (shut_bool Try.underlying4 _), (trodAll_cons_mk (Below.trod laidOut (by kernel_rfl) (of_decide_eq_true (by kernel_rfl)) k0 bel lt0) (trodAll_cons_mk (Below.trod laidOut (by kernel_rfl) (of_decide_eq_true (by kernel_rfl)) k1 bel lt1) trodAll_mk0)), rfl, bel.frame _, fun h => by cases h⟩

theorem pathBack_over : Rows.pathBackRow.holds Try.pinned (OpenSpec.ofChange Rows.pathBackSpec) :=
  OpenClaim.holds_of_wide 6 Try.f6 rfl rfl rfl rfl rfl rfl rfl ⟨rfl, rfl, rfl, rfl, rfl⟩ rfl rfl rfl rfl rfl (by kernel_rfl) Try.func6 (by kernel_rfl)
    (of_decide_eq_true (by kernel_rfl)) (by unfold Func.isWrapper; first | (rw [if_pos (by decide +kernel)]; kernel_rfl) | (rw [if_neg (by decide +kernel)]; exact ⟨rfl, rfl⟩))
    (fun os started H enc _ => pathBack_lifted os started H enc)

/-- THE STATEMENT -/
theorem pathBack_holds : Rows.PathBackSaid := pathBack_over
end Go.Proofs.Ytnladghhcghafaa
