/- What the document's own Fill makes of pages. Conditions: the object lies where the call was told; its pages are as the calls make them. -/
import Derived.Test.YtimjlfkdbkafeaaGreatG07a
set_option linter.unusedVariables false
namespace Go.Proofs.YtimjlfkdbkafeaaGreat
open Go.RowKit
set_option maxRecDepth 20000
set_option maxHeartbeats 4000000 in
theorem rfill_any (G : Nat → Prop) (w : World) (b : Nat) (p : Ps) (a : Int) (h : RG G w b p) (hok : p.Ok) :
    Calls Tryz.prog 123 #[.pointer (some ⟨b, 0, none⟩), .int .i64 a] w fun e w' => e = .returned (.int .i64 (p.fillE a)) ∧ Left RG G w w' b (p.fill a) := by
  have CT := Lib.hid (rthere_any a w)
  have CK := Lib.hid (rkind_any G w b p a h (by have := hok.small; omega))
  have HNO := Lib.hid (show (p.fillE a ≠ 0 ∨ p.kind a = 2) → ∀ q, Left RG G w (w.drewN q) b (p.fill a) from fun hc q => by
    unfold Ps.fill
    rw [if_neg (fun e => hc.elim (fun h => h e.1) e.2)]
    exact Left.same h q)
  by_cases ht : thereB a = true
  · rw [ht] at CT
    have ht' : ¬ thereB a = false := by rw [ht]; decide
    have hks := hok.kinds a
    by_cases h3 : p.kind a = 3
    · have HE := Lib.hid (show p.fillE a = 43 from by unfold Ps.fillE; rw [if_neg ht', if_pos h3])
      rw [h3] at CK
      clear h hok h3 hks ht ht'
      go_enter Tryz.func123, Tryz.ntmps123
      go_wp2_with (first | (go_at_call 127; refine CT.out.mono ?_; rintro e w1 ⟨rfl, rfl⟩) | (go_at_call 128; refine CK.out.mono ?_; rintro e w2 ⟨rfl, rfl⟩))
      go_ret
      rw [HE.out]
      exact ⟨rfl, HNO.out (Or.inl (by rw [HE.out]; decide)) 0⟩
    by_cases h2 : p.kind a = 2
    · have HE := Lib.hid (show p.fillE a = 0 from by unfold Ps.fillE; rw [if_neg ht', if_neg h3, if_pos h2])
      have HK2 := Lib.hid h2
      rw [h2] at CK
      clear h hok h3 h2 hks ht ht'
      go_enter Tryz.func123, Tryz.ntmps123
      go_wp2_with (first | (go_at_call 127; refine CT.out.mono ?_; rintro e w1 ⟨rfl, rfl⟩) | (go_at_call 128; refine CK.out.mono ?_; rintro e w2 ⟨rfl, rfl⟩))
      go_ret
      rw [HE.out]
      exact ⟨rfl, HNO.out (.inr HK2.out) 0⟩
    by_cases h1 : p.kind a = 1
    · have HE := Lib.hid (show p.fillE a = 41 from by unfold Ps.fillE; rw [if_neg ht', if_neg h3, if_neg h2, if_pos h1])
      rw [h1] at CK
      clear h hok h3 h2 h1 hks ht ht'
      go_enter Tryz.func123, Tryz.ntmps123
      go_wp2_with (first | (go_at_call 127; refine CT.out.mono ?_; rintro e w1 ⟨rfl, rfl⟩) | (go_at_call 128; refine CK.out.mono ?_; rintro e w2 ⟨rfl, rfl⟩))
      go_ret
      rw [HE.out]
      exact ⟨rfl, HNO.out (Or.inl (by rw [HE.out]; decide)) 0⟩
    have h0 : p.kind a = 0 := by omega
    rw [h0] at CK
    obtain ⟨v, g1, g2, g3, g4, g5⟩ := h
    obtain ⟨ao, cap, rfl, hP, hcap, hn⟩ := g2.form
    have HR := Lib.hid (show RG G w b p from ⟨_, g1, g2, g3, g4, g5⟩)
    obtain ⟨c0, c1, c2, f0, f1, f2⟩ := three_cells g1
    have hl' : (p.l.length : Int) ≤ 4096 := by have := hok.small; omega
    by_cases hr : p.room ≤ p.l.length
    · have HE := Lib.hid (show p.fillE a = 44 from by unfold Ps.fillE; rw [if_neg ht', if_neg h3, if_neg h2, if_neg h1, if_pos hr])
      have d5 : decide (p.room ≤ (p.l.length : Int)) = true := decide_eq_true hr
      clear hok h3 h2 h1 h0 hks ht ht' g1 g2 g3 g4 g5 hP hcap hn
      go_enter Tryz.func123, Tryz.ntmps123
      go_wp2_with (first | (go_at_call 127; refine CT.out.mono ?_; rintro e w1 ⟨rfl, rfl⟩) | (go_at_call 128; refine CK.out.mono ?_; rintro e w2 ⟨rfl, rfl⟩))
      go_quiet (fail)
      go_wp2_with fail
      go_ret
      rw [HE.out]
      exact ⟨rfl, HNO.out (Or.inl (by rw [HE.out]; decide)) _⟩
    · have HE := Lib.hid (show p.fillE a = 0 from by unfold Ps.fillE; rw [if_neg ht', if_neg h3, if_neg h2, if_neg h1, if_neg hr])
      have HW := Lib.hid (show p.fill a = ⟨p.l ++ [⟨a, 2, ⟨#[]⟩⟩], p.room, p.edge⟩ from if_pos ⟨HE.out, h2⟩)
      have d5 : decide (p.room ≤ (p.l.length : Int)) = false := decide_eq_false hr
      have HB0 := Lib.hid (fun q => below_drewN (Below.refl w.heap.size w) q)
      have HP := Lib.hid hP
      have HBL := Lib.hid (g5 b g4)
      have HG1 := Lib.hid g1
      have hl2 : p.l.length ≤ 4096 := hok.small
      clear hok h3 h2 h1 h0 hks ht ht' g1 g2 g3 g4 g5 hP hr
      go_enter Tryz.func123, Tryz.ntmps123
      go_wp2_with (first | (go_at_call 127; refine CT.out.mono ?_; rintro e w1 ⟨rfl, rfl⟩) | (go_at_call 128; refine CK.out.mono ?_; rintro e w2 ⟨rfl, rfl⟩))
      go_quiet (fail)
      have hqs : w.heap.size ≤ (w.drewN nq).heap.size := (HB0.out nq).size
      have HBQ := Lib.hid (HB0.out nq)
      have gq := below_heap (HB0.out nq) HG1.out
      have HPQ := Lib.hid (HP.out.below (HB0.out nq))
      clear c0 c1 c2 f0 f1 f2
      generalize w.drewN nq = wq at *
      obtain ⟨c0, c1, c2, f0, f1, f2⟩ := three_cells gq
      have hbl : b < wq.heap.size := lt_of_block gq
      have HM := Lib.hid (OG.made wq (B := w.heap.size) (n := wq.heap.size) rfl hqs)
      have HPM := Lib.hid (HPQ.out.below ((Below.refl _ _).alloc (Nat.le_refl _) (.cells #[] 220)))
      have HB1 := Lib.hid (HBQ.out.alloc hqs (.cells #[] 220))
      go_wp2_with (first
        | (refine wpList_app_pages (o := ⟨some 41, _, _, _, _, _⟩) rfl (.tmp 36) (.tmp 40) rfl (B := w.heap.size) (v := .slice (some ⟨wq.heap.size, 0, none⟩) 0 0) (D := []) rfl HM.out (ao := ao) (cap := cap) (l := p.l) rfl rfl HPM.out hn hcap (by simp; omega) (by simp; omega) ?_; intro v1 w1 hO1 hg1 _; rw [List.nil_append] at hO1; have HO1 := Lib.hid hO1; have HB2 := Lib.hid (HB1.out.grown hg1 (by simp; omega) (fun k e => by have e2 : wq.heap.size = k := Option.some.inj e; omega)); have HX := Lib.hid (PgL.made w1 rfl ⟨a, 2, ⟨#[]⟩⟩); clear hO1 hg1)
        | (refine wpList_app_pages (o := ⟨some 45, _, _, _, _, _⟩) rfl (.tmp 41) (.tmp 44) rfl (B := w.heap.size) (v := v1) (D := p.l) rfl (HO1.out.below ((Below.refl _ _).alloc (Nat.le_refl _) _)) (ao := some ⟨w1.heap.size, 0, none⟩) (cap := 1) (l := [⟨a, 2, ⟨#[]⟩⟩]) (m := 1) rfl rfl HX.out (fun e => by cases e) (Nat.le_refl _) (by simp; omega) (by have := HB2.out.size; simp; omega) ?_; intro v2 w2 hO2 hg2 _; obtain ⟨a2, k2, hv2, _, _, _⟩ := hO2.form; rw [show (p.l ++ [(⟨a, 2, ⟨#[]⟩⟩ : Pg)]).length = p.l.length + 1 from by simp] at hv2; subst hv2; have HO2 := Lib.hid hO2; have HB3 := Lib.hid ((HB2.out.alloc HB2.out.size _).grown hg2 (by have := HB2.out.size; simp; omega) (fun k e => (HO1.out.lt k e).1)); obtain ⟨y0, y1, y2, z0, z1, z2⟩ := three_cells (below_heap HB3.out HG1.out); clear hO2 hg2))
      go_ret
      rw [HE.out, HW.out]
      exact ⟨rfl, left_store HR.out HB3.out HO2.out⟩
  · have ht' : thereB a = false := Bool.eq_false_iff.2 ht
    have HE := Lib.hid (show p.fillE a = 1 from by unfold Ps.fillE; rw [if_pos ht'])
    rw [ht'] at CT
    clear h hok ht ht'
    go_enter Tryz.func123, Tryz.ntmps123
    go_wp2_with (go_at_call 127; refine CT.out.mono ?_; rintro e w1 ⟨rfl, rfl⟩)
    go_ret
    rw [HE.out]
    exact ⟨rfl, HNO.out (Or.inl (by rw [HE.out]; decide)) 0⟩
end Go.Proofs.YtimjlfkdbkafeaaGreat
