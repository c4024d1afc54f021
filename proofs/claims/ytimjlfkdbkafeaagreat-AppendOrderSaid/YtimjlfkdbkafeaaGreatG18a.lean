/- What the document's own layout answers, asked to mark an image, or asked what it does not know. Conditions: it and the question lie where the call was told. (Written by gen/genlayf.py.) What the document's own layout answers, asked to mark an image, or asked what it does not know. Conditions: it and the question lie where the call was told. (Written by gen/genlayf.py.) What the document's own layout answers, asked for a change that may not come next. Conditions: it and the question lie where the call was told; no more than 1000000 units were noted. The document's own hand in memory: its nodes, the row of what is held. No conditions. The document's own nodes while they are made, unit by unit. Conditions: as each statement says. -/
import Derived.Test.YtimjlfkdbkafeaaGreatG17a
import Derived.Test.YtimjlfkdbkafeaaGreatG09b
import Derived.Test.YtimjlfkdbkafeaaGreatG07a
set_option linter.unusedVariables false
namespace Go.Proofs.YtimjlfkdbkafeaaGreat
set_option linter.unusedVariables false
open Go.RowKit
set_option maxRecDepth 20000
set_option maxHeartbeats 8000000 in
theorem ldo_new (r : Nat) (G : Nat → Prop) (w : World) (y : Ly) (a : Ak) (h : RL r G w y) (hk : a.kind = 11) (hb : ¬ badM a) (hn : y.n < a.n) :
    Calls Tryz.prog 120 #[ptrL r, askV a] w fun e w' => Tells (RL r) G w (y.done a) (y.ans a) e w' := by
  have ha : y.ans a = anM a.n a.page a.size := by unfold Ly.ans; rw [if_neg (by omega), if_neg (by omega), if_pos hk, if_neg hb, if_pos hn]
  have hd : y.done a = ⟨y.ep, y.L, y.used, a.page, a.size, a.n⟩ := by unfold Ly.done; rw [if_neg (by omega), if_pos ⟨hk, hb, hn⟩]
  rw [ha, hd]
  clear ha hd
  obtain ⟨k, un, ep, pg, sz, n, s, pe, L, ao, cap⟩ := a
  simp only at *
  have HS := Lib.hid (show LdW w ((w.alloc (.cells #[.int .i64 k, .int .i64 un, .int .i64 ep, .int .i64 pg, .int .i64 sz, .int .i64 n, .string s, .int .i64 pe, .slice ao L.length cap] 35)).alloc (.cells #[.int .i64 0, .int .i64 0, .string ⟨#[]⟩, .int .i64 0, .slice none 0 0, .int .i64 0, .int .i64 0, .int .i64 0] 40)) r G G y ⟨k, un, ep, pg, sz, n, s, pe, L, ao, cap⟩ zeroA none from ld_start h ⟨k, un, ep, pg, sz, n, s, pe, L, ao, cap⟩)
  have d11 : (k == 11) = true := by rw [hk]; rfl
  have d9 : (k == 9) = false := by rw [hk]; rfl
  have d10 : (k == 10) = false := by rw [hk]; rfl
  have dn : decide (y.n < n) = true := decide_eq_true hn
  unfold badM at hb
  simp only at hb
  have g0 : 0 ≤ pg := by omega
  have g1 : pg < 16384 := by omega
  have g2 : 1 ≤ sz := by omega
  have g3 : sz ≤ 65536 := by omega
  have g4 : 0 ≤ n := by omega
  have g5 : n ≤ 16384 := by omega
  clear h hk hb hn
  show Calls _ _ #[.pointer (some ⟨r, 0, none⟩), .agg #[.int .i64 k, .int .i64 un, .int .i64 ep, .int .i64 pg, .int .i64 sz, .int .i64 n, .string s, .int .i64 pe, .slice ao L.length cap]] w _
  go_enter Tryz.func120, Tryz.ntmps120
  go_wp2_with fail
  generalize hW0 : ((w.alloc (.cells #[.int .i64 k, .int .i64 un, .int .i64 ep, .int .i64 pg, .int .i64 sz, .int .i64 n, .string s, .int .i64 pe, .slice ao L.length cap] 35)).alloc (.cells #[.int .i64 0, .int .i64 0, .string ⟨#[]⟩, .int .i64 0, .slice none 0 0, .int .i64 0, .int .i64 0, .int .i64 0] 40)) = W0 at *
  clear hW0
  obtain ⟨lo, lc, bo, cb, h1, _, _, _⟩ := HS.out.rl.open
  obtain ⟨⟨c0, c1, c2, c3, c4, c5⟩, f0, f1, f2, f3, f4, f5⟩ := six_cells h1
  have hr := lt_of_block h1
  have x3 : W0.cell? ⟨w.heap.size, 3, none⟩ = some (.int .i64 pg) := cell_of HS.out.ask 3
  have x4 : W0.cell? ⟨w.heap.size, 4, none⟩ = some (.int .i64 sz) := cell_of HS.out.ask 4
  have x5 : W0.cell? ⟨w.heap.size, 5, none⟩ = some (.int .i64 n) := cell_of HS.out.ask 5
  have HN := Lib.hid (fun q => HS.out.drewN q)
  go_quiet (fail)
  have HX := Lib.hid (HN.out nq)
  clear HN HS c0 c1 c2 c3 c4 c5 f0 f1 f2 f3 f4 f5 x3 x4 x5 hr h1
  generalize World.drewN W0 nq = W1 at *
  obtain ⟨loa, lca, boa, cba, h1a, _, _, _⟩ := HX.out.rl.open
  obtain ⟨⟨c0a, c1a, c2a, c3a, c4a, c5a⟩, f0a, f1a, f2a, f3a, f4a, f5a⟩ := six_cells h1a
  have hra := lt_of_block h1a
  have x3 : W1.cell? ⟨w.heap.size, 3, none⟩ = some (.int .i64 pg) := cell_of HX.out.ask 3
  have x4 : W1.cell? ⟨w.heap.size, 4, none⟩ = some (.int .i64 sz) := cell_of HX.out.ask 4
  have x5 : W1.cell? ⟨w.heap.size, 5, none⟩ = some (.int .i64 n) := cell_of HX.out.ask 5
  go_wp2_with fail
  go_region
  all_goals
    obtain ⟨H', ht⟩ := HX.out.turn ((((Kept.refl _ W1).setCell (p := ⟨r, 3, none⟩) (fun h => h rfl) (.int .i64 pg)).setCell (p := ⟨r, 4, none⟩) (fun h => h rfl) (.int .i64 sz)).setCell (p := ⟨r, 5, none⟩) (fun h => h rfl) (.int .i64 n)) (RL.mark HX.out.rl (m := pg) (z := sz) (n := n) ⟨g0, g1⟩ ⟨g2, g3⟩ ⟨g4, g5⟩)
    have HT := Lib.hid ht.drew
    clear ht HX c0a c1a c2a c3a c4a c5a f0a f1a f2a f3a f4a f5a x3 x4 x5 hra h1a
    generalize hW2 : World.drew (World.setCell (World.setCell (World.setCell W1 ⟨r, 3, none⟩ (.int .i64 pg)) ⟨r, 4, none⟩ (.int .i64 sz)) ⟨r, 5, none⟩ (.int .i64 n)) = W2 at *
    clear hW2
    obtain ⟨lob, lcb, bob, cbb, h1b, _, _, _⟩ := HT.out.rl.open
    obtain ⟨⟨c0b, c1b, c2b, c3b, c4b, c5b⟩, f0b, f1b, f2b, f3b, f4b, f5b⟩ := six_cells h1b
    have hrb := lt_of_block h1b
    obtain ⟨l1, l2, l3⟩ := HT.out.small
    obtain ⟨⟨z0, z1, z2, z3, z4, z5, z6, z7⟩, fz0, fz1, fz2, fz3, fz4, fz5, fz6, fz7⟩ := eight_cells HT.out.zero
    go_wp2_with fail
    go_region
    have H9 := Lib.hid (HT.out.any.eight (.int .i64 0) (.int .i64 n) (.string ⟨#[]⟩) (.int .i64 0) (.slice none 0 0) (.int .i64 pg) (.int .i64 sz) (.int .i64 0)).drew
    go_wp2_with fail
    exact ans_ret (x := anM n pg sz) (ao := none) (cap := 0) rfl H9.out.zero rfl rfl (H9.out.plain rfl)
end Go.Proofs.YtimjlfkdbkafeaaGreat
namespace Go.Proofs.YtimjlfkdbkafeaaGreat
set_option linter.unusedVariables false
open Go.RowKit
set_option maxRecDepth 20000
set_option maxHeartbeats 8000000 in
theorem ldo_old (r : Nat) (G : Nat → Prop) (w : World) (y : Ly) (a : Ak) (h : RL r G w y) (hk : a.kind = 11) (hb : ¬ badM a) (hn : ¬ y.n < a.n) :
    Calls Tryz.prog 120 #[ptrL r, askV a] w fun e w' => Tells (RL r) G w (y.done a) (y.ans a) e w' := by
  have ha : y.ans a = anM y.n y.mark y.size := by unfold Ly.ans; rw [if_neg (by omega), if_neg (by omega), if_pos hk, if_neg hb, if_neg hn]
  have hd : y.done a = y := by unfold Ly.done; rw [if_neg (by omega), if_neg (fun h => hn h.2.2)]
  rw [ha, hd]
  clear ha hd
  obtain ⟨k, un, ep, pg, sz, n, s, pe, L, ao, cap⟩ := a
  simp only at *
  have HS := Lib.hid (show LdW w ((w.alloc (.cells #[.int .i64 k, .int .i64 un, .int .i64 ep, .int .i64 pg, .int .i64 sz, .int .i64 n, .string s, .int .i64 pe, .slice ao L.length cap] 35)).alloc (.cells #[.int .i64 0, .int .i64 0, .string ⟨#[]⟩, .int .i64 0, .slice none 0 0, .int .i64 0, .int .i64 0, .int .i64 0] 40)) r G G y ⟨k, un, ep, pg, sz, n, s, pe, L, ao, cap⟩ zeroA none from ld_start h ⟨k, un, ep, pg, sz, n, s, pe, L, ao, cap⟩)
  have d11 : (k == 11) = true := by rw [hk]; rfl
  have d9 : (k == 9) = false := by rw [hk]; rfl
  have d10 : (k == 10) = false := by rw [hk]; rfl
  have dn : decide (y.n < n) = false := decide_eq_false hn
  unfold badM at hb
  simp only at hb
  have g0 : 0 ≤ pg := by omega
  have g1 : pg < 16384 := by omega
  have g2 : 1 ≤ sz := by omega
  have g3 : sz ≤ 65536 := by omega
  have g4 : 0 ≤ n := by omega
  have g5 : n ≤ 16384 := by omega
  clear h hk hb hn
  show Calls _ _ #[.pointer (some ⟨r, 0, none⟩), .agg #[.int .i64 k, .int .i64 un, .int .i64 ep, .int .i64 pg, .int .i64 sz, .int .i64 n, .string s, .int .i64 pe, .slice ao L.length cap]] w _
  go_enter Tryz.func120, Tryz.ntmps120
  go_wp2_with fail
  generalize hW0 : ((w.alloc (.cells #[.int .i64 k, .int .i64 un, .int .i64 ep, .int .i64 pg, .int .i64 sz, .int .i64 n, .string s, .int .i64 pe, .slice ao L.length cap] 35)).alloc (.cells #[.int .i64 0, .int .i64 0, .string ⟨#[]⟩, .int .i64 0, .slice none 0 0, .int .i64 0, .int .i64 0, .int .i64 0] 40)) = W0 at *
  clear hW0
  obtain ⟨lo, lc, bo, cb, h1, _, _, _⟩ := HS.out.rl.open
  obtain ⟨⟨c0, c1, c2, c3, c4, c5⟩, f0, f1, f2, f3, f4, f5⟩ := six_cells h1
  have hr := lt_of_block h1
  have x3 : W0.cell? ⟨w.heap.size, 3, none⟩ = some (.int .i64 pg) := cell_of HS.out.ask 3
  have x4 : W0.cell? ⟨w.heap.size, 4, none⟩ = some (.int .i64 sz) := cell_of HS.out.ask 4
  have x5 : W0.cell? ⟨w.heap.size, 5, none⟩ = some (.int .i64 n) := cell_of HS.out.ask 5
  have HN := Lib.hid (fun q => HS.out.drewN q)
  go_quiet (fail)
  have HX := Lib.hid (HN.out nq)
  clear HN HS c0 c1 c2 c3 c4 c5 f0 f1 f2 f3 f4 f5 x3 x4 x5 hr h1
  generalize World.drewN W0 nq = W1 at *
  obtain ⟨loa, lca, boa, cba, h1a, _, _, _⟩ := HX.out.rl.open
  obtain ⟨⟨c0a, c1a, c2a, c3a, c4a, c5a⟩, f0a, f1a, f2a, f3a, f4a, f5a⟩ := six_cells h1a
  have hra := lt_of_block h1a
  obtain ⟨l1, l2, l3⟩ := HX.out.small
  obtain ⟨⟨z0, z1, z2, z3, z4, z5, z6, z7⟩, fz0, fz1, fz2, fz3, fz4, fz5, fz6, fz7⟩ := eight_cells HX.out.zero
  go_wp2_with fail
  go_region
  have H9 := Lib.hid (HX.out.any.eight (.int .i64 0) (.int .i64 y.n) (.string ⟨#[]⟩) (.int .i64 0) (.slice none 0 0) (.int .i64 y.mark) (.int .i64 y.size) (.int .i64 0)).drew
  go_wp2_with fail
  exact ans_ret (x := anM y.n y.mark y.size) (ao := none) (cap := 0) rfl H9.out.zero rfl rfl (H9.out.plain rfl)
end Go.Proofs.YtimjlfkdbkafeaaGreat
namespace Go.Proofs.YtimjlfkdbkafeaaGreat
set_option linter.unusedVariables false
open Go.RowKit
set_option maxRecDepth 20000
theorem ld_any8 {w W : World} {r : Nat} {G H : Nat → Prop} {y : Ly} {a : Ak} {u0 u1 u2 u3 u4 u5 u6 u7 : Value} {X : Option (Array Value)} (h : LdW w W r G H y a #[u0, u1, u2, u3, u4, u5, u6, u7] X) : LdE w W r G H y a X := ⟨_, _, _, _, _, _, _, _, h⟩
theorem three_blocks (w : World) (x y z : Obj) : ((w.alloc x).alloc y).heap.size = w.heap.size + 1 + 1 := by simp
set_option maxHeartbeats 8000000 in
theorem ldo_stay (r : Nat) (G : Nat → Prop) (w : World) (y : Ly) (a : Ak) (h : RL r G w y) (hu : y.used.length ≤ 1000000) (hk : a.kind = 10) (hC : CL w a.ao a.L) (hL : a.L.length ≤ 255 ∧ ∀ c ∈ a.L, c.length ≤ 255) (hm : y.may a.pe a.L = false) :
    Calls Tryz.prog 120 #[ptrL r, askV a] w fun e w' => Tells (RL r) G w (y.done a) (y.ans a) e w' := by
  have ha : y.ans a = anL 48 y.ep y.L := by
    unfold Ly.ans
    rw [if_neg (by omega), if_pos hk, if_neg (by rw [hm]; decide)]
  have hd : y.done a = y := by
    unfold Ly.done
    rw [if_pos hk, if_neg (by rw [hm]; decide)]
  rw [ha, hd]
  clear ha hd
  obtain ⟨k, un, ep, pg, sz, n, s, pe, L, ao, cap⟩ := a
  simp only at *
  have HS := Lib.hid (show LdW w (((w.alloc (.cells #[.int .i64 k, .int .i64 un, .int .i64 ep, .int .i64 pg, .int .i64 sz, .int .i64 n, .string s, .int .i64 pe, .slice ao L.length cap] 35)).alloc (.cells #[.int .i64 0, .int .i64 0, .string ⟨#[]⟩, .int .i64 0, .slice none 0 0, .int .i64 0, .int .i64 0, .int .i64 0] 40)).alloc (.cells #[.int .i64 0, .int .i64 0, .string ⟨#[]⟩, .int .i64 0, .slice none 0 0, .int .i64 0, .int .i64 0, .int .i64 0] 40)) r G G y ⟨k, un, ep, pg, sz, n, s, pe, L, ao, cap⟩ zeroA (some zeroA) from (ld_start h ⟨k, un, ep, pg, sz, n, s, pe, L, ao, cap⟩).more (three_blocks w _ _ (.cells #[] 0)) zeroA)
  have d10 : (k == 10) = true := by rw [hk]; rfl
  have d9 : (k == 9) = false := by rw [hk]; rfl
  have CM := Lib.hid (rl_may r G (((w.alloc (.cells #[.int .i64 k, .int .i64 un, .int .i64 ep, .int .i64 pg, .int .i64 sz, .int .i64 n, .string s, .int .i64 pe, .slice ao L.length cap] 35)).alloc (.cells #[.int .i64 0, .int .i64 0, .string ⟨#[]⟩, .int .i64 0, .slice none 0 0, .int .i64 0, .int .i64 0, .int .i64 0] 40)).alloc (.cells #[.int .i64 0, .int .i64 0, .string ⟨#[]⟩, .int .i64 0, .slice none 0 0, .int .i64 0, .int .i64 0, .int .i64 0] 40)) y HS.out.rl hu pe ao cap L (hC.below (((below_new _ _).alloc (by simp) _).alloc (by simp; omega) _)) hL)
  rw [hm] at CM
  clear hk h hC hL hm hu
  show Calls _ _ #[.pointer (some ⟨r, 0, none⟩), .agg #[.int .i64 k, .int .i64 un, .int .i64 ep, .int .i64 pg, .int .i64 sz, .int .i64 n, .string s, .int .i64 pe, .slice ao L.length cap]] w _
  go_enter Tryz.func120, Tryz.ntmps120
  unfold ptrL at CM
  go_wp2_with (first
    | (go_at_call 126; refine CM.out.mono ?_; rintro e w1 ⟨rfl, hb1⟩; have HS1 := Lib.hid (HS.out.below hb1); obtain ⟨l1, l2, l3⟩ := HS1.out.small; obtain ⟨lo, lc, bo, cb, g1, g2, g3, g4⟩ := HS1.out.rl.open; obtain ⟨⟨c0, c1, c2, c3, c4, c5⟩, _⟩ := six_cells g1; obtain ⟨⟨x0, x1, x2, x3, x4, x5, x6, x7⟩, fx0, fx1, fx2, fx3, fx4, fx5, fx6, fx7⟩ := eight_cells (HS1.out.xs _ rfl); have lx := lt_of_block (HS1.out.xs _ rfl); have HS2 := Lib.hid (HS1.out.putx0 (.int .i64 48)); have hne : r ≠ w.heap.size + 1 + 1 := (by omega); have HCL := Lib.hid (HS2.out.rl.cl (cellK ((Kept.refl (fun k => k ≠ w.heap.size + 1 + 1) w1).setCell (p := ⟨w.heap.size + 1 + 1, 0, none⟩) (fun h => h rfl) (.int .i64 48)) hne c1)); have HM := Lib.hid (show y.L.length ≤ 1000 ∧ ∀ c ∈ y.L, c.length ≤ 1000 from ⟨by have := (good_small g4).1; omega, fun c hc => by have := (good_small g4).2 c hc; omega⟩); clear g1 g2 g3 g4 hb1 c2 c3 c4 c5)
    | (go_at_call 28; refine (keepCopyO_any y.ep lo lc y.L _ HCL.out HM.out).mono ?_; rintro e w2 ⟨v, rfl, hO, hb2⟩; have HO := Lib.hid hO; obtain ⟨go, gc, hv, _⟩ := hO.form; subst hv; have HS3 := Lib.hid (HS2.out.below hb2); have HLT := Lib.hid (fun k hk => (rl_thing r).lt HS2.out.rl k hk); obtain ⟨l1', l2', _⟩ := HS2.out.small; have HB := Lib.hid (show w.heap.size + 1 + 1 < (w1.setCell ⟨w.heap.size + 1 + 1, 0, none⟩ (.int .i64 48)).heap.size from lt_of_block HS2.out.xcells); obtain ⟨nl1, nl2, _⟩ := HS3.out.small; have lx := lt_of_block HS3.out.xcells; clear x0 x1 x2 x3 x4 x5 x6 x7 fx0 fx1 fx2 fx3 fx4 fx5 fx6 fx7; obtain ⟨⟨x0, x1, x2, x3, x4, x5, x6, x7⟩, fx0, fx1, fx2, fx3, fx4, fx5, fx6, fx7⟩ := eight_cells HS3.out.xcells; obtain ⟨⟨z0, z1, z2, z3, z4, z5, z6, z7⟩, fz0, fz1, fz2, fz3, fz4, fz5, fz6, fz7⟩ := eight_cells HS3.out.zero; clear hO hb2 l1' l2'))
  have H4 := Lib.hid ((ld_any8 (HS3.out.putx34 (.int .i64 y.ep) (.slice go y.L.length gc))).eight (.int .i64 48) (.int .i64 0) (.string ⟨#[]⟩) (.int .i64 y.ep) (.slice go y.L.length gc) (.int .i64 0) (.int .i64 0) (.int .i64 0))
  exact ans_ret (x := anL 48 y.ep y.L) (ao := go) (cap := gc) rfl H4.out.zero rfl rfl (H4.out.tells (x := anL 48 y.ep y.L) (by have := HB.out; omega) HLT.out (CG.behind HO.out (((xkept _ _ _ _ _ _).mono (S := fun k => k ≠ w.heap.size + 1 + 1) (fun k hk => hk.1)).trans ((eight_kept _ _ _ _ _ _ _ _ _ _).mono (T := fun k => k ≠ w.heap.size + 1 + 1 ∧ k ≠ w.heap.size + 1) (fun k hk => hk.2))) (fun k hk => by have := HB.out; omega) ((eight_size _ _ _ _ _ _ _ _ _ _).trans (by simp [World.setCell]))))
end Go.Proofs.YtimjlfkdbkafeaaGreat
namespace Go.Proofs.YtimjlfkdbkafeaaGreat
set_option linter.unusedVariables false
open Go.RowKit
set_option maxRecDepth 20000
/-- block r is the document's hand, block rn its nodes -/
def RH (r rn : Nat) (G : Nat → Prop) (w : World) (h : Hd) : Prop :=
  h.held.length ≤ 64 ∧ ∃ (v : Value) (F : Nat → Prop), w.heap[r]? = some (.cells #[.pointer (some ⟨rn, 0, none⟩), v] 82 (0, 0)) ∧ OR 35 9 askC w 0 v h.held ∧ RN rn F w h.n ∧ G r ∧ ¬ F r ∧ (∀ k, F k → G k) ∧ (∀ k, v.ownBlock = some k → G k ∧ ¬ F k ∧ k ≠ r) ∧ ∀ k, G k → k < w.heap.size
theorem rh_thing (r rn : Nat) : Thing (RH r rn) where
  lt := by
    rintro G w h ⟨_, v, F, _, _, _, _, _, _, _, h1⟩
    exact h1
  keep := by
    rintro G S w w' h ⟨h0, v, F, h1, h2, h3, h4, h5, h6, h7, h8⟩ hk hS
    exact ⟨h0, v, F, hk.heap (hS r h4) h1, h2.keep hk (fun k e => hS k (h7 k e).1), (rn_thing rn).keep h3 hk (fun k hf => hS k (h6 k hf)), h4, h5, h6, h7, fun k hg => Nat.lt_of_lt_of_le (h8 k hg) hk.size⟩
section
variable {r rn : Nat} {G : Nat → Prop} {w : World} {h : Hd}
/-- a call on the nodes: what it leaves of the hand; C: memory that it handed out -/
theorem RH.turn (hh : RH r rn G w h) : ∃ F : Nat → Prop, RN rn F w h.n ∧ (∀ k, F k → G k) ∧ ∀ (C : Nat → Prop) (v : Value) (L : List (List Int)) W n', (∀ k, C k → w.heap.size ≤ k) → Leaves (Chained (RN rn) C v L) F w W n' → Leaves (Chained (RH r rn) C v L) G w W ⟨n', h.held⟩ := by
  obtain ⟨h0, v, F, h1, h2, h3, h4, h5, h6, h7, h8⟩ := hh
  refine ⟨F, h3, h6, fun C v2 L W n' hC hl => ?_⟩
  obtain ⟨H, ⟨H1, k1, k2, k3, k4, k5⟩, r2, r3⟩ := hl
  have hn : ∀ k, H1 k → F k ∨ w.heap.size ≤ k := fun k hk => r3 k ((k5 k).2 (.inl hk))
  have hsz := r2.size
  refine ⟨fun k => ((G k ∧ ¬ F k) ∨ H1 k) ∨ C k, ⟨fun k => (G k ∧ ¬ F k) ∨ H1 k, ⟨h0, v, H1, r2.heap h5 h1, h2.keep r2 (fun k e => (h7 k e).2.1), k1, .inl ⟨h4, h5⟩, fun hr => ?_, fun k hk => .inr hk, fun k e => ⟨.inl ⟨(h7 k e).1, (h7 k e).2.1⟩, fun hk => ?_, (h7 k e).2.2⟩, fun k hk => ?_⟩, k2, k3, fun k hk hg => ?_, fun k => Iff.rfl⟩, r2.mono (fun k hg hf => hg (h6 k hf)), fun k hk => ?_⟩
  · rcases hn r hr with h | h
    · exact h5 h
    · have := h8 r h4; omega
  · rcases hn k hk with h | h
    · exact (h7 k e).2.1 h
    · have := h8 k (h7 k e).1; omega
  · rcases hk with hk | hk
    · exact Nat.lt_of_lt_of_le (h8 k hk.1) hsz
    · exact (rn_thing rn).lt k1 k hk
  · rcases hg with hg | hg
    · have := h8 k hg.1; have := hC k hk; omega
    · exact k4 k hk hg
  · rcases hk with (hk | hk) | hk
    · exact .inl hk.1
    · exact (hn k hk).imp (h6 k) id
    · exact .inr (hC k hk)
theorem RH.cells (hh : RH r rn G w h) : ∃ v, w.heap[r]? = some (.cells #[.pointer (some ⟨rn, 0, none⟩), v] 82 (0, 0)) ∧ OR 35 9 askC w 0 v h.held := by
  obtain ⟨h0, v, F, h1, h2, _⟩ := hh
  exact ⟨v, h1, h2⟩
theorem RH.small (hh : RH r rn G w h) : r < w.heap.size := by
  obtain ⟨v, h1, _⟩ := hh.cells
  exact lt_of_block h1
/-- a row that was made anew is laid into the hand -/
theorem RH.lay (hh : RH r rn G w h) {w2 : World} (hb : Below w.heap.size w w2) {v2 : Value} {l : List Ak} (hO : OR 35 9 askC w2 w.heap.size v2 l) (hl : l.length ≤ 64) : Leaves (RH r rn) G w (w2.setCell ⟨r, 1, none⟩ v2) ⟨h.n, l⟩ := by
  obtain ⟨h0, v, F, h1, h2, h3, h4, h5, h6, h7, h8⟩ := hh
  have hlt := h8 r h4
  have hz := hb.size
  have hs : (w2.setCell ⟨r, 1, none⟩ v2).heap.size = w2.heap.size := by simp [World.setCell]
  have hk1 : Kept (fun k => k ≠ r) w2 (w2.setCell ⟨r, 1, none⟩ v2) := (Kept.refl _ w2).setCell (p := ⟨r, 1, none⟩) (fun h => h rfl) _
  have hk : Kept (fun k => ¬ G k) w (w2.setCell ⟨r, 1, none⟩ v2) := (Kept.ofBelow hb (fun k => ¬ G k)).setCell (p := ⟨r, 1, none⟩) (fun h => h h4) v2
  have hown : ∀ k, v2.ownBlock = some k → w.heap.size ≤ k ∧ k < w2.heap.size := fun k e => hO.lt k e
  refine ⟨fun k => G k ∨ (w.heap.size ≤ k ∧ k < w2.heap.size), ⟨hl, v2, F, two_set1 (below_heap hb h1) v2, (hO.keep hk1 (fun k e => ?_)).lower (Nat.zero_le _), (rn_thing rn).keep ((rn_thing rn).keep h3 (Kept.ofBelow hb (fun _ => True)) (fun _ _ => trivial)) hk1 (fun k hf e => h5 (e ▸ hf)), .inl h4, h5, fun k hf => .inl (h6 k hf), fun k e => ⟨.inr (hown k e), fun hf => ?_, ?_⟩, fun k hk => ?_⟩, hk, fun k hk => ?_⟩
  · have := hown k e; omega
  · have := h8 k (h6 k hf); have := hown k e; omega
  · have := hown k e; omega
  · rw [hs]
    rcases hk with hk | hk
    · exact Nat.lt_of_lt_of_le (h8 k hk) hz
    · exact hk.2
  · rcases hk with hk | hk
    · exact .inl hk
    · exact .inr hk.1
end
end Go.Proofs.YtimjlfkdbkafeaaGreat
namespace Go.Proofs.YtimjlfkdbkafeaaGreat
set_option linter.unusedVariables false
open Go.RowKit
set_option maxRecDepth 20000
/-- the first i units are there -/
def MkN (w0 : World) (r : Nat) (N : Nd) (i : Nat) (W : World) : Prop :=
  ∃ (A : Array Value) (ro rl : Nat) (B : Nat → Nat × Nat) (G : Nat → Prop), Tab A i B ro rl ∧ BundG (i + 3) (nodeT r A ro rl B N) G W ∧ (∀ k, G k → w0.heap.size ≤ k) ∧ Below w0.heap.size w0 W
theorem mkn_start {w0 w1 w2 : World} {rl ro : Nat} {G1 G2 : Nat → Prop} {N : Nd} {A : Array Value} {B : Nat → Nat × Nat} (h1 : RL rl G1 w1 N.l) (g1 : ∀ k, G1 k → w0.heap.size ≤ k) (b1 : Below w0.heap.size w0 w1) (h2 : RO ro G2 w2 N.o) (g2 : ∀ k, G2 k → w1.heap.size ≤ k) (b2 : Below w1.heap.size w1 w2) (hT : Tab A 0 B ro rl) :
    MkN w0 w2.heap.size N 0 (w2.alloc (.cells A 124)) := by
  have hp := fun i (_ : i < 0) => nodeT_part w2.heap.size A ro rl B N i
  have q0 : BundG 0 (nodeT w2.heap.size A ro rl B N) (fun _ => False) w0 := ⟨fun _ _ => False, fun i hi => absurd hi (Nat.not_lt_zero i), fun i j hi => absurd hi (Nat.not_lt_zero i), fun k => ⟨fun h => h.elim, fun ⟨i, hi, _⟩ => absurd hi (Nat.not_lt_zero i)⟩⟩
  have q1 := (q0.more (fun i _ => nodeT_part w2.heap.size A ro rl B N i) b1 (U := fun F W => RL rl F W N.l) h1 g1).same (T2 := nodeT w2.heap.size A ro rl B N) (fun i hi F W hF => by
    match i, hi, hF with
    | 0, _, hF => exact hF
    | j + 1, hi, _ => omega)
  have q2 := (q1.more (fun i _ => nodeT_part w2.heap.size A ro rl B N i) b2 (U := fun F W => RO ro F W N.o) h2 g2).same (T2 := nodeT w2.heap.size A ro rl B N) (fun i hi F W hF => by
    match i, hi, hF with
    | 0, _, hF => exact hF
    | 1, _, hF => exact hF
    | j + 2, hi, _ => omega)
  have b3 : Below w2.heap.size w2 (w2.alloc (.cells A 124)) := (Below.refl _ _).alloc (Nat.le_refl _) _
  have q3 := (q2.more (fun i _ => nodeT_part w2.heap.size A ro rl B N i) b3 (U := fun F W => W.heap[w2.heap.size]? = some (.cells A 124 (0, 0)) ∧ ∀ k, F k ↔ k = w2.heap.size) (H := fun k => k = w2.heap.size) ⟨heap_alloc_new _ _, fun k => Iff.rfl⟩ (fun k hk => by omega)).same (T2 := nodeT w2.heap.size A ro rl B N) (fun i hi F W hF => by
    match i, hi, hF with
    | 0, _, hF => exact hF
    | 1, _, hF => exact hF
    | 2, _, hF => exact hF
    | j + 3, hi, _ => omega)
  have z1 := b1.size
  have z2 := b2.size
  refine ⟨A, ro, rl, B, _, hT, q3, fun k hk => ?_, (b1.trans (b2.mono z1)).alloc (by omega) _⟩
  rcases hk with ((hk | hk) | hk) | hk
  · exact hk.elim
  · exact g1 k hk
  · have := g2 k hk; omega
  · omega
theorem MkN.step {w0 W w2 : World} {r i r2 q2 : Nat} {N : Nd} {G2 : Nat → Prop} (h : MkN w0 r N i W) (hi : i < 16) (hb : Below W.heap.size W w2) (hu : RU r2 q2 G2 w2 (N.u i)) (hg : ∀ k, G2 k → W.heap.size ≤ k) : MkN w0 r N (i + 1) (w2.setCell ⟨r, i, none⟩ (ptrU r2)) := by
  obtain ⟨A, ro, rl, B, G, hT, hB, hG, hb0⟩ := h
  have q1 := (hB.more (fun i _ => nodeT_part r A ro rl B N i) hb (U := fun F W => RU r2 q2 F W (N.u i)) hu hg).same (T2 := nodeT r A ro rl (fun j => if j = i then (r2, q2) else B j) N) (fun k hk F W hF => by
    unfold swapP at hF
    match k, hk, hF with
    | 0, _, hF => rw [if_neg (by omega)] at hF; exact hF
    | 1, _, hF => rw [if_neg (by omega)] at hF; exact hF
    | 2, _, hF => rw [if_neg (by omega)] at hF; exact hF
    | j + 3, _, hF =>
      by_cases e : j = i
      · subst e
        rw [if_pos rfl] at hF
        show RU (if j = j then (r2, q2) else B j).1 (if j = j then (r2, q2) else B j).2 F W (N.u j)
        rw [if_pos rfl]
        exact hF
      · rw [if_neg (by omega)] at hF
        show RU (if j = i then (r2, q2) else B j).1 (if j = i then (r2, q2) else B j).2 F W (N.u j)
        rw [if_neg e]
        exact hF)
  obtain ⟨F, h2f, hFG, huse⟩ := q1.use (fun i _ => nodeT_part r A ro rl _ N i) (i := 2) (by omega)
  have hA : w2.heap[r]? = some (.cells A 124 (0, 0)) := h2f.1
  have hF2 : ∀ k, F k ↔ k = r := h2f.2
  have hrG := hFG r ((hF2 r).2 rfl)
  have hk : Kept (fun k => k ≠ r) w2 (w2.setCell ⟨r, i, none⟩ (ptrU r2)) := (Kept.refl _ w2).setCell (p := ⟨r, i, none⟩) (fun h => h rfl) _
  have hl : Leaves (fun (F : Nat → Prop) (W : World) (_ : Unit) => W.heap[r]? = some (.cells (A.setIfInBounds i (ptrU r2)) 124 (0, 0)) ∧ ∀ k, F k ↔ k = r) F w2 (w2.setCell ⟨r, i, none⟩ (ptrU r2)) () :=
    ⟨F, ⟨heap_setCell_same w2 r i A _ _ hA, hF2⟩, hk.mono (fun k hn e => hn ((hF2 k).2 e)), fun k hk => .inl hk⟩
  obtain ⟨G', s1, s2, s3⟩ := huse _ (fun (G' : Nat → Prop) (W : World) (_ : Unit) => BundG (i + 1 + 3) (nodeT r (A.setIfInBounds i (ptrU r2)) ro rl (fun j => if j = i then (r2, q2) else B j) N) G' W) _ () () (fun G' W h => BundG.same (n := i + 1 + 3) (show BundG (i + 1 + 3) _ G' W from (by rw [show i + 1 + 3 = i + 3 + 1 by omega]; exact h)) (fun k _ F W hF => by
    match k, hF with
    | 0, hF => exact hF
    | 1, hF => exact hF
    | 2, hF => exact hF
    | j + 3, hF => exact hF)) hl
  have z0 := hb0.size
  have z1 := hb.size
  refine ⟨_, ro, rl, _, G', hT.put hi (r2, q2), s1, fun k hk => ?_, ?_⟩
  · rcases s3 k hk with (h | h) | h
    · exact hG k h
    · have := hg k h; omega
    · omega
  · refine (hb0.trans (hb.mono z0)).trans (hk.toBelow (by omega) (fun k hk e => ?_))
    rcases hrG with h | h
    · have := hG r h; omega
    · have := hg r h; omega
end Go.Proofs.YtimjlfkdbkafeaaGreat
