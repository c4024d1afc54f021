/- What the document's own layout answers, asked for a change that may come next. Conditions: it and the question lie where the call was told; no more than 100000 units were noted. -/
import Derived.Test.YtimjlfkdbkafeaaGreatG18a
import Derived.Deep.RegionLaw
import Derived.Deep.RegionWith
set_option linter.unusedVariables false
namespace Go.Proofs.YtimjlfkdbkafeaaGreat
set_option linter.unusedVariables false
open Go.RowKit
set_option maxRecDepth 20000
theorem may_good {y : Ly} {e : Int} {Q : List (List Int)} (h : y.may e Q = true) : goodB e Q = true := by
  unfold Ly.may nextB at h
  simp only [Bool.and_eq_true] at h
  exact h.1.2.1
set_option maxHeartbeats 8000000 in
theorem ldo_turn (r : Nat) (G : Nat → Prop) (w : World) (y : Ly) (a : Ak) (h : RL r G w y) (hu : y.used.length ≤ 100000) (hk : a.kind = 10) (hA : ∀ W, Kept (fun k => ¬ G k) w W → CL W a.ao a.L) (hL : a.L.length ≤ 255 ∧ ∀ c ∈ a.L, c.length ≤ 255) (hm : y.may a.pe a.L = true) :
    Calls Tryz.prog 120 #[ptrL r, askV a] w fun e w' => Tells (RL r) G w (y.done a) (y.ans a) e w' := by
  have ha : y.ans a = anL 0 a.pe a.L := by
    unfold Ly.ans
    rw [if_neg (by omega), if_pos hk, if_pos hm]
  have hd : y.done a = ⟨a.pe, a.L, y.used ++ unitsR a.L, y.mark, y.size, y.n⟩ := by
    unfold Ly.done
    rw [if_pos hk, if_pos hm]
  have HGD := Lib.hid (may_good hm)
  have hC := hA w (Kept.refl _ w)
  have HA := Lib.hid hA
  clear hA
  rw [ha, hd]
  clear ha hd
  obtain ⟨k, un, ep, pg, sz, n, s, pe, L, ao, cap⟩ := a
  simp only at *
  have HS := Lib.hid (show LdW w (((w.alloc (.cells #[.int .i64 k, .int .i64 un, .int .i64 ep, .int .i64 pg, .int .i64 sz, .int .i64 n, .string s, .int .i64 pe, .slice ao L.length cap] 35)).alloc (.cells #[.int .i64 0, .int .i64 0, .string ⟨#[]⟩, .int .i64 0, .slice none 0 0, .int .i64 0, .int .i64 0, .int .i64 0] 40)).alloc (.cells #[.int .i64 0, .int .i64 0, .string ⟨#[]⟩, .int .i64 0, .slice none 0 0, .int .i64 0, .int .i64 0, .int .i64 0] 40)) r G G y ⟨k, un, ep, pg, sz, n, s, pe, L, ao, cap⟩ zeroA (some zeroA) from (ld_start h ⟨k, un, ep, pg, sz, n, s, pe, L, ao, cap⟩).more (three_blocks w _ _ (.cells #[] 0)) zeroA)
  have d10 : (k == 10) = true := by rw [hk]; rfl
  have d9 : (k == 9) = false := by rw [hk]; rfl
  have HB00 := Lib.hid (show Below w.heap.size w (((w.alloc (.cells #[.int .i64 k, .int .i64 un, .int .i64 ep, .int .i64 pg, .int .i64 sz, .int .i64 n, .string s, .int .i64 pe, .slice ao L.length cap] 35)).alloc (.cells #[.int .i64 0, .int .i64 0, .string ⟨#[]⟩, .int .i64 0, .slice none 0 0, .int .i64 0, .int .i64 0, .int .i64 0] 40)).alloc (.cells #[.int .i64 0, .int .i64 0, .string ⟨#[]⟩, .int .i64 0, .slice none 0 0, .int .i64 0, .int .i64 0, .int .i64 0] 40)) from ((below_new _ _).alloc (by simp) _).alloc (by simp; omega) _)
  have HQ := Lib.hid hC
  have HL := Lib.hid hL
  have HU := Lib.hid hu
  have CM := Lib.hid (rl_may r G (((w.alloc (.cells #[.int .i64 k, .int .i64 un, .int .i64 ep, .int .i64 pg, .int .i64 sz, .int .i64 n, .string s, .int .i64 pe, .slice ao L.length cap] 35)).alloc (.cells #[.int .i64 0, .int .i64 0, .string ⟨#[]⟩, .int .i64 0, .slice none 0 0, .int .i64 0, .int .i64 0, .int .i64 0] 40)).alloc (.cells #[.int .i64 0, .int .i64 0, .string ⟨#[]⟩, .int .i64 0, .slice none 0 0, .int .i64 0, .int .i64 0, .int .i64 0] 40)) y HS.out.rl (by omega) pe ao cap L (hC.below HB00.out) hL)
  rw [hm] at CM
  clear hk h hC hL hm hu
  show Calls _ _ #[.pointer (some ⟨r, 0, none⟩), .agg #[.int .i64 k, .int .i64 un, .int .i64 ep, .int .i64 pg, .int .i64 sz, .int .i64 n, .string s, .int .i64 pe, .slice ao L.length cap]] w _
  go_enter Tryz.func120, Tryz.ntmps120
  unfold ptrL at CM
  go_wp2_with (first
    | (go_at_call 126; refine CM.out.mono ?_; rintro e w1 ⟨rfl, hb1⟩; have HS1 := Lib.hid (HS.out.below hb1); have HQ1 := Lib.hid ((HQ.out.below HB00.out).below hb1); obtain ⟨l1, l2, l3⟩ := HS1.out.small; have x7 : w1.cell? ⟨w.heap.size, 7, none⟩ = some (.int .i64 pe) := cell_of HS1.out.ask 7; have x8 : w1.cell? ⟨w.heap.size, 8, none⟩ = some (.slice ao L.length cap) := cell_of HS1.out.ask 8; clear hb1)
    | (go_at_call 28; refine (keepCopyO_any pe ao cap L _ HQ1.out ⟨Nat.le_trans HL.out.1 (by decide), fun c hc => Nat.le_trans (HL.out.2 c hc) (by decide)⟩).mono ?_; rintro e w2 ⟨v, rfl, hO, hb2⟩; have HO2 := Lib.hid hO; obtain ⟨qo, qc, hv, _⟩ := hO.form; subst hv; have HB2 := Lib.hid hb2; have HS2 := Lib.hid (HS1.out.below hb2); have HQ2 := Lib.hid (HQ1.out.below hb2); obtain ⟨lo, lc, bo, cb, g1, g2, g3, g4⟩ := HS2.out.rl.open; obtain ⟨⟨c0, c1, c2, c3, c4, c5⟩, f0, f1, f2, f3, f4, f5⟩ := six_cells g1; have hr2 := lt_of_block g1; clear g1 g2 g3 g4 hO hb2 x7 x8 l1 l2 l3))
  obtain ⟨H', ht⟩ := HS1.out.turn ((Kept.ofBelow HB2.out (fun k => k ≠ r)).trans (xkept w2 r 0 1 (.int .i64 pe) (.slice qo L.length qc))) (RL.chains HS1.out.rl HB2.out HO2.out HGD.out)
  have HT := Lib.hid ht
  have HQ7 := Lib.hid (HA.out _ HT.out.kp)
  clear ht c0 c1 c2 c3 c4 c5 f0 f1 f2 f3 f4 f5 hr2 HS1 HS2 HB2 HO2 HQ2 HQ1 CM HS
  generalize hW7 : World.setCell (World.setCell w2 ⟨r, 0, none⟩ (.int .i64 pe)) ⟨r, 1, none⟩ (.slice qo L.length qc) = W7 at *
  clear hW7
  obtain ⟨lo', lc', uo, uc, g1, g2, g3, g4⟩ := HT.out.rl.open
  obtain ⟨⟨c0, c1, c2, c3, c4, c5⟩, f0, f1, f2, f3, f4, f5⟩ := six_cells g1
  have HU7 := Lib.hid g3
  have HG1 := Lib.hid g1
  have x7 : W7.cell? ⟨w.heap.size, 7, none⟩ = some (.int .i64 pe) := cell_of HT.out.ask 7
  have x8 : W7.cell? ⟨w.heap.size, 8, none⟩ = some (.slice ao L.length cap) := cell_of HT.out.ask 8
  obtain ⟨l1, l2, l3⟩ := HT.out.small
  have hr7 : r < W7.heap.size := lt_of_block g1
  have HBA := Lib.hid (show Below W7.heap.size W7 (W7.drew.alloc (.cells #[] 24)) from (Below.refl _ _).drew.alloc (Nat.le_refl _) _)
  clear g1 g2 g3 g4 c0 c1 c3 c4 c5 f0 f1 f3 f4 f5
  go_region_law (first
    | (refine step_app_ints rfl (.tmp 42) (.tmp 46) rfl (B := W7.heap.size) (v := .slice (some ⟨W7.heap.size, 0, none⟩) 0 0) (D := []) rfl (OI.made W7.drew (Nat.le_refl _)) (ao := uo) (cap := uc) (l := y.used) rfl rfl (HU7.out.below ((Below.refl _ _).drew.alloc (Nat.le_refl _) _)) (by have := HU.out; simp; omega) (by simp) ?_; intro v1 w3 hI hg _; rw [List.nil_append] at hI; have hb3 : Below W7.heap.size W7 w3 := ((Below.refl _ _).drew.alloc (Nat.le_refl _) _).grown hg (by simp) (fun k e => by cases e; exact Nat.le_refl _); obtain ⟨a1, k1, hv1, _, _, _⟩ := hI.form; subst hv1; have y7 := cellB hb3 l1 x7; have y8 := cellB hb3 l1 x8; have HI3 := Lib.hid hI; have HB3 := Lib.hid hb3; have HQ3 := Lib.hid (HQ7.out.below hb3); clear hI hg hb3)
    | (refine step_app_ints rfl (.tmp 47) (.tmp 50) rfl (B := W7.heap.size) (D := y.used) rfl HI4.out (ao := bu) (cap := cu) (l := unitsR L) rfl rfl HN4.out (by have := HU.out; have := units_few HL.out; omega) HB4.out.size ?_; intro v5 w5 hI hg _; have hb5 : Below W7.heap.size W7 w5 := HB4.out.grown hg HB4.out.size (fun k e => (HI4.out.1.lt k e).1); obtain ⟨a5, k5, hv5, _, _, _⟩ := hI.form; rw [List.length_append] at hv5; subst hv5; have HI5 := Lib.hid hI; have HB5 := Lib.hid hb5; have q2 := cell_of (below_heap hb5 HG1.out) 2; have qf := free_of (below_heap hb5 HG1.out) 2; have qr := Nat.lt_of_lt_of_le hr7 hb5.size; clear hI hg hb5)
    | (go_simp; go_at_call 46; refine (refUnitsO_any pe ao cap L _ HQ3.out ⟨HL.out.1, fun c hc => Nat.le_trans (HL.out.2 c hc) (by decide)⟩).mono ?_; rintro e w4 ⟨u, rfl, hU4, hb4⟩; obtain ⟨bu, cu, hu4, hN4, _, _⟩ := hU4.form; subst hu4; have HN4 := Lib.hid hN4; have HI4 := Lib.hid (HI3.out.below hb4); have HB4 := Lib.hid (HB3.out.trans (hb4.mono HB3.out.size)); clear hU4 hb4 hN4; try go_wp2_with fail))
  all_goals
    obtain ⟨H2, ht2⟩ := HT.out.turn ((Kept.ofBelow HB5.out (fun k => k ≠ r)).trans ((Kept.refl (fun k => k ≠ r) w5).setCell (p := ⟨r, 2, none⟩) (fun h => h rfl) (.slice a5 (y.used.length + (unitsR L).length) k5))) (RL.more HT.out.rl HB5.out HI5.out)
    have HT2 := Lib.hid ht2
    clear ht2 HT HB5 HI5 HB4 HI4 HN4 HB3 HI3 HQ3 HBA HU7 HG1 HQ7 HA q2 qf qr y7 y8 x7 x8 c2 f2 hr7 l1 l2 l3
    generalize hW8 : World.setCell w5 ⟨r, 2, none⟩ (.slice a5 (y.used.length + (unitsR L).length) k5) = W8 at *
    clear hW8
    obtain ⟨lo2, lc2, uo2, uc2, e1, e2, _, e4⟩ := HT2.out.rl.open
    simp only at e1 e2 e4
    obtain ⟨⟨c0, c1, c2, c3, c4, c5⟩, _⟩ := six_cells e1
    have HCL := Lib.hid e2
    have HM := Lib.hid (show L.length ≤ 1000 ∧ ∀ c ∈ L, c.length ≤ 1000 from ⟨by have := (good_small e4).1; omega, fun c hc => by have := (good_small e4).2 c hc; omega⟩)
    have HLT := Lib.hid (fun k hk => (rl_thing r).lt HT2.out.rl k hk)
    have HB := Lib.hid (show w.heap.size + 1 + 1 < W8.heap.size from lt_of_block HT2.out.xcells)
    clear e1 e2 e4 c2 c3 c4 c5
    go_wp2_with (go_at_call 28; refine (keepCopyO_any pe lo2 lc2 L _ HCL.out HM.out).mono ?_; rintro e w6 ⟨v, rfl, hO, hb6⟩; have HO := Lib.hid hO; obtain ⟨go, gc, hv, _⟩ := hO.form; subst hv; have HS3 := Lib.hid (HT2.out.below hb6); obtain ⟨nl1, nl2, _⟩ := HS3.out.small; have lx := lt_of_block HS3.out.xcells; obtain ⟨⟨x0, x1, x2, x3, x4, x5, x6, x7⟩, fx0, fx1, fx2, fx3, fx4, fx5, fx6, fx7⟩ := eight_cells HS3.out.xcells; obtain ⟨⟨z0, z1, z2, z3, z4, z5, z6, z7⟩, fz0, fz1, fz2, fz3, fz4, fz5, fz6, fz7⟩ := eight_cells HS3.out.zero; clear hO hb6)
    have H4 := Lib.hid ((ld_any8 (HS3.out.putx34 (.int .i64 pe) (.slice go L.length gc))).eight (.int .i64 0) (.int .i64 0) (.string ⟨#[]⟩) (.int .i64 pe) (.slice go L.length gc) (.int .i64 0) (.int .i64 0) (.int .i64 0))
    exact ans_ret (x := anL 0 pe L) (ao := go) (cap := gc) rfl H4.out.zero rfl rfl (H4.out.tells (x := anL 0 pe L) (by have := HB.out; omega) HLT.out (CG.behind HO.out (((xkept _ _ _ _ _ _).mono (T := fun k => k ≠ w.heap.size + 1 + 1 ∧ k ≠ w.heap.size + 1) (fun k hk => hk.1)).trans ((eight_kept _ _ _ _ _ _ _ _ _ _).mono (T := fun k => k ≠ w.heap.size + 1 + 1 ∧ k ≠ w.heap.size + 1) (fun k hk => hk.2))) (fun k hk => by have := HB.out; omega) ((eight_size _ _ _ _ _ _ _ _ _ _).trans (by simp [World.setCell]))))
end Go.Proofs.YtimjlfkdbkafeaaGreat
