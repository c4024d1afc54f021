/- What the document's own Write and Fill make of pages. Conditions: the object lies where the call was told; its pages are as the calls make them. -/
import Derived.Test.YtkicjgaejieinaaGreatG06a
set_option linter.unusedVariables false
namespace Go.Proofs.YtkicjgaejieinaaGreat
open Go.RowKit
set_option maxRecDepth 20000
/-- what a call leaves of an object whose blocks lie in G: it, in blocks of G or new ones; all else as it was -/
def Left (R : (Nat → Prop) → World → Nat → Ps → Prop) (G : Nat → Prop) (w w' : World) (b : Nat) (p : Ps) : Prop := ∃ G' : Nat → Prop, R G' w' b p ∧ Kept (fun k => ¬ G k) w w' ∧ ∀ k, G' k → G k ∨ w.heap.size ≤ k
theorem Left.same {G : Nat → Prop} {w : World} {b : Nat} {p : Ps} (h : RG G w b p) (q : Nat) : Left RG G w (w.drewN q) b p :=
  ⟨G, h.below (below_drewN (Below.refl _ _) q), (Kept.refl _ w).drewN q, fun _ hk => .inl hk⟩
/-- a row made anew is laid into the object -/
theorem left_store {G : Nat → Prop} {w w2 : World} {b : Nat} {p : Ps} {v2 : Value} {l : List Pg} (h : RG G w b p) (hb : Below w.heap.size w w2) (hO : OG w2 w.heap.size v2 l) : Left RG G w (w2.setCell ⟨b, 0, none⟩ v2) b ⟨l, p.room, p.edge⟩ := by
  obtain ⟨v, h1, h2, h3, h4, h5⟩ := h
  have hbl := h5 b h4
  have hk : Kept (fun k => ¬ G k) w (w2.setCell ⟨b, 0, none⟩ v2) := (Kept.ofBelow hb (fun k => ¬ G k)).setCell (p := ⟨b, 0, none⟩) (fun h => h h4) v2
  have hs : (w2.setCell ⟨b, 0, none⟩ v2).heap.size = w2.heap.size := by simp [World.setCell]
  refine ⟨fun k => k = b ∨ (w.heap.size ≤ k ∧ k < w2.heap.size), ⟨v2, three_set0 (below_heap hb h1) v2, ?_, fun k e => ?_, .inl rfl, fun k hk => ?_⟩, hk, fun k hk => ?_⟩
  · refine (hO.keep ((Kept.refl (fun k => k ≠ b) w2).setCell (p := ⟨b, 0, none⟩) (fun h => h rfl) v2) (fun k e => ?_)).lower (Nat.zero_le _)
    have := (hO.lt k e).1
    omega
  · have := hO.lt k e
    exact ⟨.inr this, by omega⟩
  · rw [hs]
    rcases hk with rfl | hk
    · exact Nat.lt_of_lt_of_le hbl hb.size
    · exact hk.2
  · rcases hk with rfl | hk
    · exact .inl h4
    · exact .inr hk.1
set_option maxHeartbeats 4000000 in
theorem rwrite_any (G : Nat → Prop) (w : World) (b : Nat) (p : Ps) (a : Int) (s : ByteArray) (h : RG G w b p) (hok : p.Ok) (hs : s.size ≤ 1000000) :
    Calls Tryz.prog 72 #[.pointer (some ⟨b, 0, none⟩), .int .i64 a, .string s] w fun e w' => e = .returned (.int .i64 (p.writeE a s)) ∧ Left RG G w w' b (p.write a s) := by
  have CT := Lib.hid (rthere_any a w)
  have CK := Lib.hid (rkind_any G w b p a h (by have := hok.small; omega))
  have HNO := Lib.hid (show ∀ c, p.writeE a s = c → c ≠ 0 → ∀ q, Left RG G w (w.drewN q) b (p.write a s) from fun c e hc q => by
    unfold Ps.write
    rw [if_neg (by rw [e]; exact hc)]
    exact Left.same h q)
  by_cases ht : thereB a = true
  · rw [ht] at CT
    have ht' : ¬ thereB a = false := by rw [ht]; decide
    by_cases hz : 4096 < s.size
    · have HE := Lib.hid (show p.writeE a s = 2 from by unfold Ps.writeE; rw [if_neg ht', if_pos hz])
      have hz' : (4096 : Int) < (s.size : Int) := by omega
      clear h hok hz ht ht'
      go_enter Tryz.func72, Tryz.ntmps72
      go_wp2_with (go_at_call 87; refine CT.out.mono ?_; rintro e w1 ⟨rfl, rfl⟩)
      go_ret
      rw [HE.out]
      exact ⟨rfl, HNO.out 2 HE.out (by decide) 0⟩
    have hz' : (s.size : Int) ≤ 4096 := by omega
    by_cases h3 : p.kind a = 3
    · have HE := Lib.hid (show p.writeE a s = 43 from by unfold Ps.writeE; rw [if_neg ht', if_neg hz, if_pos h3])
      rw [h3] at CK
      clear h hok h3 hz ht ht'
      go_enter Tryz.func72, Tryz.ntmps72
      go_wp2_with (first | (go_at_call 87; refine CT.out.mono ?_; rintro e w1 ⟨rfl, rfl⟩) | (go_at_call 88; refine CK.out.mono ?_; rintro e w2 ⟨rfl, rfl⟩))
      go_ret
      rw [HE.out]
      exact ⟨rfl, HNO.out 43 HE.out (by decide) 0⟩
    have d3 : (p.kind a == 3) = false := beq_eq_false_iff_ne.2 h3
    by_cases h0 : p.kind a = 0
    · rw [h0] at CK
      obtain ⟨v, g1, g2, g3, g4, g5⟩ := h
      obtain ⟨ao, cap, rfl, hP, hcap, hn⟩ := g2.form
      have HR := Lib.hid (show RG G w b p from ⟨_, g1, g2, g3, g4, g5⟩)
      obtain ⟨c0, c1, c2, f0, f1, f2⟩ := three_cells g1
      have hl' : (p.l.length : Int) ≤ 4096 := by have := hok.small; omega
      by_cases hr : p.room ≤ p.l.length
      · have HE := Lib.hid (show p.writeE a s = 44 from by unfold Ps.writeE; rw [if_neg ht', if_neg hz, if_neg h3, if_neg (by rw [h0]; decide), if_pos hr])
        have d5 : decide (p.room ≤ (p.l.length : Int)) = true := decide_eq_true hr
        clear hok h3 h0 hz ht ht' g1 g2 g3 g4 g5 hP hcap hn d3
        go_enter Tryz.func72, Tryz.ntmps72
        go_wp2_with (first | (go_at_call 87; refine CT.out.mono ?_; rintro e w1 ⟨rfl, rfl⟩) | (go_at_call 88; refine CK.out.mono ?_; rintro e w2 ⟨rfl, rfl⟩))
        go_quiet (fail)
        go_wp2_with fail
        go_ret
        rw [HE.out]
        exact ⟨rfl, HNO.out 44 HE.out (by decide) _⟩
      · have HE := Lib.hid (show p.writeE a s = 0 from by unfold Ps.writeE; rw [if_neg ht', if_neg hz, if_neg h3, if_neg (by rw [h0]; decide), if_neg hr])
        have HW := Lib.hid (show p.write a s = ⟨p.l ++ [⟨a, 1, s⟩], p.room, p.edge⟩ from if_pos HE.out)
        have d5 : decide (p.room ≤ (p.l.length : Int)) = false := decide_eq_false hr
        have HB0 := Lib.hid (fun q => below_drewN (Below.refl w.heap.size w) q)
        have HP := Lib.hid hP
        have HBL := Lib.hid (g5 b g4)
        have HG1 := Lib.hid g1
        have hl2 : p.l.length ≤ 4096 := hok.small
        clear hok h3 h0 hz ht ht' g1 g2 g3 g4 g5 hP d3 hr
        go_enter Tryz.func72, Tryz.ntmps72
        go_wp2_with (first | (go_at_call 87; refine CT.out.mono ?_; rintro e w1 ⟨rfl, rfl⟩) | (go_at_call 88; refine CK.out.mono ?_; rintro e w2 ⟨rfl, rfl⟩))
        go_quiet (fail)
        have hqs : w.heap.size ≤ (w.drewN nq).heap.size := (HB0.out nq).size
        have HBQ := Lib.hid (HB0.out nq)
        have gq := below_heap (HB0.out nq) HG1.out
        have HPQ := Lib.hid (HP.out.below (HB0.out nq))
        clear c0 c1 c2 f0 f1 f2
        generalize w.drewN nq = wq at *
        obtain ⟨c0, c1, c2, f0, f1, f2⟩ := three_cells gq
        have hbl : b < wq.heap.size := lt_of_block gq
        have HM := Lib.hid (OG.made wq (B := w.heap.size) (n := wq.heap.size) rfl hqs)
        have HPM := Lib.hid (HPQ.out.below ((Below.refl _ _).alloc (Nat.le_refl _) (.cells #[] 130)))
        have HB1 := Lib.hid (HBQ.out.alloc hqs (.cells #[] 130))
        go_wp2_with (first
          | (refine wpList_app_pages (o := ⟨some 42, _, _, _, _, _⟩) rfl (.tmp 37) (.tmp 41) rfl (B := w.heap.size) (v := .slice (some ⟨wq.heap.size, 0, none⟩) 0 0) (D := []) rfl HM.out (ao := ao) (cap := cap) (l := p.l) rfl rfl HPM.out hn hcap (by simp; omega) (by simp; omega) ?_; intro v1 w1 hO1 hg1 _; rw [List.nil_append] at hO1; have HO1 := Lib.hid hO1; have HB2 := Lib.hid (HB1.out.grown hg1 (by simp; omega) (fun k e => by have e2 : wq.heap.size = k := Option.some.inj e; omega)); have HX := Lib.hid (PgL.made w1 rfl ⟨a, 1, s⟩); clear hO1 hg1)
          | (refine wpList_app_pages (o := ⟨some 47, _, _, _, _, _⟩) rfl (.tmp 42) (.tmp 46) rfl (B := w.heap.size) (v := v1) (D := p.l) rfl (HO1.out.below ((Below.refl _ _).alloc (Nat.le_refl _) _)) (ao := some ⟨w1.heap.size, 0, none⟩) (cap := 1) (l := [⟨a, 1, s⟩]) (m := 1) rfl rfl HX.out (fun e => by cases e) (Nat.le_refl _) (by simp; omega) (by have := HB2.out.size; simp; omega) ?_; intro v2 w2 hO2 hg2 _; obtain ⟨a2, k2, hv2, _, _, _⟩ := hO2.form; rw [show (p.l ++ [(⟨a, 1, s⟩ : Pg)]).length = p.l.length + 1 from by simp] at hv2; subst hv2; have HO2 := Lib.hid hO2; have HB3 := Lib.hid ((HB2.out.alloc HB2.out.size _).grown hg2 (by have := HB2.out.size; simp; omega) (fun k e => (HO1.out.lt k e).1)); obtain ⟨y0, y1, y2, z0, z1, z2⟩ := three_cells (below_heap HB3.out HG1.out); clear hO2 hg2))
        go_ret
        rw [HE.out, HW.out]
        exact ⟨rfl, left_store HR.out HB3.out HO2.out⟩
    · have HE := Lib.hid (show p.writeE a s = 41 from by unfold Ps.writeE; rw [if_neg ht', if_neg hz, if_neg h3, if_pos h0])
      have d0 : (p.kind a != 0) = true := bne_iff_ne.2 h0
      clear h hok h3 h0 hz ht ht'
      generalize p.kind a = kd at *
      go_enter Tryz.func72, Tryz.ntmps72
      go_wp2_with (first | (go_at_call 87; refine CT.out.mono ?_; rintro e w1 ⟨rfl, rfl⟩) | (go_at_call 88; refine CK.out.mono ?_; rintro e w2 ⟨rfl, rfl⟩))
      go_ret
      rw [HE.out]
      exact ⟨rfl, HNO.out 41 HE.out (by decide) 0⟩
  · have ht' : thereB a = false := Bool.eq_false_iff.2 ht
    have HE := Lib.hid (show p.writeE a s = 1 from by unfold Ps.writeE; rw [if_pos ht'])
    rw [ht'] at CT
    clear h hok ht ht'
    go_enter Tryz.func72, Tryz.ntmps72
    go_wp2_with (go_at_call 87; refine CT.out.mono ?_; rintro e w1 ⟨rfl, rfl⟩)
    go_ret
    rw [HE.out]
    exact ⟨rfl, HNO.out 1 HE.out (by decide) 0⟩
end Go.Proofs.YtkicjgaejieinaaGreat
