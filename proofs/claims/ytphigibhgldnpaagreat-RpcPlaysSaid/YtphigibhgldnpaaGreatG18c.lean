/- What the document's own layout answers, asked to mark an image, or asked what it does not know. Conditions: it and the question lie where the call was told. (Written by gen/genlayf.py.) What the document's own layout answers, asked for a change that may not come next. Conditions: it and the question lie where the call was told; no more than 1000000 units were noted. -/
import Derived.Test.YtphigibhgldnpaaGreatG17a
set_option linter.unusedVariables false
namespace Go.Proofs.YtphigibhgldnpaaGreat
set_option linter.unusedVariables false
open Go.RowKit
set_option maxRecDepth 20000
set_option maxHeartbeats 8000000 in
theorem ldo_new (r : Nat) (G : Nat → Prop) (w : World) (y : Ly) (a : Ak) (h : RL r G w y) (hk : a.kind = 11) (hb : ¬ badM a) (hn : y.n < a.n) :
    Calls Tryz.prog 32 #[ptrL r, askV a] w fun e w' => Tells (RL r) G w (y.done a) (y.ans a) e w' := by
  have ha : y.ans a = anM a.n a.page a.size := by unfold Ly.ans; rw [if_neg (by omega), if_neg (by omega), if_pos hk, if_neg hb, if_pos hn]
  have hd : y.done a = ⟨y.ep, y.L, y.used, a.page, a.size, a.n⟩ := by unfold Ly.done; rw [if_neg (by omega), if_pos ⟨hk, hb, hn⟩]
  rw [ha, hd]
  clear ha hd
  obtain ⟨k, un, ep, pg, sz, n, s, pe, L, ao, cap⟩ := a
  simp only at *
  have HS := Lib.hid (show LdW w ((w.alloc (.cells #[.int .i64 k, .int .i64 un, .int .i64 ep, .int .i64 pg, .int .i64 sz, .int .i64 n, .string s, .int .i64 pe, .slice ao L.length cap] 42)).alloc (.cells #[.int .i64 0, .int .i64 0, .string ⟨#[]⟩, .int .i64 0, .slice none 0 0, .int .i64 0, .int .i64 0, .int .i64 0] 39)) r G G y ⟨k, un, ep, pg, sz, n, s, pe, L, ao, cap⟩ zeroA none from ld_start h ⟨k, un, ep, pg, sz, n, s, pe, L, ao, cap⟩)
  have d11 : (k == 11) = true := by rw [hk]; rfl
  have d9 : (k == 9) = false := by rw [hk]; rfl
  have d10 : (k == 10) = false := by rw [hk]; rfl
  have dn : decide (y.n < n) = true := decide_eq_true hn
  unfold badM at hb
  simp only at hb
  have g0 : 0 ≤ pg := by omega
  have g1 : pg < 16384 := by omega
  have g2 : 1 ≤ sz := by omega
  have g3 : sz ≤ 65536 := by omega
  have g4 : 0 ≤ n := by omega
  have g5 : n ≤ 16384 := by omega
  clear h hk hb hn
  show Calls _ _ #[.pointer (some ⟨r, 0, none⟩), .agg #[.int .i64 k, .int .i64 un, .int .i64 ep, .int .i64 pg, .int .i64 sz, .int .i64 n, .string s, .int .i64 pe, .slice ao L.length cap]] w _
  go_enter Tryz.func32, Tryz.ntmps32
  go_wp2_with fail
  generalize hW0 : ((w.alloc (.cells #[.int .i64 k, .int .i64 un, .int .i64 ep, .int .i64 pg, .int .i64 sz, .int .i64 n, .string s, .int .i64 pe, .slice ao L.length cap] 42)).alloc (.cells #[.int .i64 0, .int .i64 0, .string ⟨#[]⟩, .int .i64 0, .slice none 0 0, .int .i64 0, .int .i64 0, .int .i64 0] 39)) = W0 at *
  clear hW0
  obtain ⟨lo, lc, bo, cb, h1, _, _, _⟩ := HS.out.rl.open
  obtain ⟨⟨c0, c1, c2, c3, c4, c5⟩, f0, f1, f2, f3, f4, f5⟩ := six_cells h1
  have hr := lt_of_block h1
  have x3 : W0.cell? ⟨w.heap.size, 3, none⟩ = some (.int .i64 pg) := cell_of HS.out.ask 3
  have x4 : W0.cell? ⟨w.heap.size, 4, none⟩ = some (.int .i64 sz) := cell_of HS.out.ask 4
  have x5 : W0.cell? ⟨w.heap.size, 5, none⟩ = some (.int .i64 n) := cell_of HS.out.ask 5
  have HN := Lib.hid (fun q => HS.out.drewN q)
  go_quiet (fail)
  have HX := Lib.hid (HN.out nq)
  clear HN HS c0 c1 c2 c3 c4 c5 f0 f1 f2 f3 f4 f5 x3 x4 x5 hr h1
  generalize World.drewN W0 nq = W1 at *
  obtain ⟨loa, lca, boa, cba, h1a, _, _, _⟩ := HX.out.rl.open
  obtain ⟨⟨c0a, c1a, c2a, c3a, c4a, c5a⟩, f0a, f1a, f2a, f3a, f4a, f5a⟩ := six_cells h1a
  have hra := lt_of_block h1a
  have x3 : W1.cell? ⟨w.heap.size, 3, none⟩ = some (.int .i64 pg) := cell_of HX.out.ask 3
  have x4 : W1.cell? ⟨w.heap.size, 4, none⟩ = some (.int .i64 sz) := cell_of HX.out.ask 4
  have x5 : W1.cell? ⟨w.heap.size, 5, none⟩ = some (.int .i64 n) := cell_of HX.out.ask 5
  go_wp2_with fail
  go_region
  all_goals
    obtain ⟨H', ht⟩ := HX.out.turn ((((Kept.refl _ W1).setCell (p := ⟨r, 3, none⟩) (fun h => h rfl) (.int .i64 pg)).setCell (p := ⟨r, 4, none⟩) (fun h => h rfl) (.int .i64 sz)).setCell (p := ⟨r, 5, none⟩) (fun h => h rfl) (.int .i64 n)) (RL.mark HX.out.rl (m := pg) (z := sz) (n := n) ⟨g0, g1⟩ ⟨g2, g3⟩ ⟨g4, g5⟩)
    have HT := Lib.hid ht.drew
    clear ht HX c0a c1a c2a c3a c4a c5a f0a f1a f2a f3a f4a f5a x3 x4 x5 hra h1a
    generalize hW2 : World.drew (World.setCell (World.setCell (World.setCell W1 ⟨r, 3, none⟩ (.int .i64 pg)) ⟨r, 4, none⟩ (.int .i64 sz)) ⟨r, 5, none⟩ (.int .i64 n)) = W2 at *
    clear hW2
    obtain ⟨lob, lcb, bob, cbb, h1b, _, _, _⟩ := HT.out.rl.open
    obtain ⟨⟨c0b, c1b, c2b, c3b, c4b, c5b⟩, f0b, f1b, f2b, f3b, f4b, f5b⟩ := six_cells h1b
    have hrb := lt_of_block h1b
    obtain ⟨l1, l2, l3⟩ := HT.out.small
    obtain ⟨⟨z0, z1, z2, z3, z4, z5, z6, z7⟩, fz0, fz1, fz2, fz3, fz4, fz5, fz6, fz7⟩ := eight_cells HT.out.zero
    go_wp2_with fail
    go_region
    have H9 := Lib.hid (HT.out.any.eight (.int .i64 0) (.int .i64 n) (.string ⟨#[]⟩) (.int .i64 0) (.slice none 0 0) (.int .i64 pg) (.int .i64 sz) (.int .i64 0)).drew
    go_wp2_with fail
    exact ans_ret (x := anM n pg sz) (ao := none) (cap := 0) rfl H9.out.zero rfl rfl (H9.out.plain rfl)
end Go.Proofs.YtphigibhgldnpaaGreat
namespace Go.Proofs.YtphigibhgldnpaaGreat
set_option linter.unusedVariables false
open Go.RowKit
set_option maxRecDepth 20000
theorem ld_any8 {w W : World} {r : Nat} {G H : Nat → Prop} {y : Ly} {a : Ak} {u0 u1 u2 u3 u4 u5 u6 u7 : Value} {X : Option (Array Value)} (h : LdW w W r G H y a #[u0, u1, u2, u3, u4, u5, u6, u7] X) : LdE w W r G H y a X := ⟨_, _, _, _, _, _, _, _, h⟩
theorem three_blocks (w : World) (x y z : Obj) : ((w.alloc x).alloc y).heap.size = w.heap.size + 1 + 1 := by simp
set_option maxHeartbeats 8000000 in
theorem ldo_stay (r : Nat) (G : Nat → Prop) (w : World) (y : Ly) (a : Ak) (h : RL r G w y) (hu : y.used.length ≤ 1000000) (hk : a.kind = 10) (hC : CL w a.ao a.L) (hL : a.L.length ≤ 255 ∧ ∀ c ∈ a.L, c.length ≤ 255) (hm : y.may a.pe a.L = false) :
    Calls Tryz.prog 32 #[ptrL r, askV a] w fun e w' => Tells (RL r) G w (y.done a) (y.ans a) e w' := by
  have ha : y.ans a = anL 48 y.ep y.L := by
    unfold Ly.ans
    rw [if_neg (by omega), if_pos hk, if_neg (by rw [hm]; decide)]
  have hd : y.done a = y := by
    unfold Ly.done
    rw [if_pos hk, if_neg (by rw [hm]; decide)]
  rw [ha, hd]
  clear ha hd
  obtain ⟨k, un, ep, pg, sz, n, s, pe, L, ao, cap⟩ := a
  simp only at *
  have HS := Lib.hid (show LdW w (((w.alloc (.cells #[.int .i64 k, .int .i64 un, .int .i64 ep, .int .i64 pg, .int .i64 sz, .int .i64 n, .string s, .int .i64 pe, .slice ao L.length cap] 42)).alloc (.cells #[.int .i64 0, .int .i64 0, .string ⟨#[]⟩, .int .i64 0, .slice none 0 0, .int .i64 0, .int .i64 0, .int .i64 0] 39)).alloc (.cells #[.int .i64 0, .int .i64 0, .string ⟨#[]⟩, .int .i64 0, .slice none 0 0, .int .i64 0, .int .i64 0, .int .i64 0] 39)) r G G y ⟨k, un, ep, pg, sz, n, s, pe, L, ao, cap⟩ zeroA (some zeroA) from (ld_start h ⟨k, un, ep, pg, sz, n, s, pe, L, ao, cap⟩).more (three_blocks w _ _ (.cells #[] 0)) zeroA)
  have d10 : (k == 10) = true := by rw [hk]; rfl
  have d9 : (k == 9) = false := by rw [hk]; rfl
  have CM := Lib.hid (rl_may r G (((w.alloc (.cells #[.int .i64 k, .int .i64 un, .int .i64 ep, .int .i64 pg, .int .i64 sz, .int .i64 n, .string s, .int .i64 pe, .slice ao L.length cap] 42)).alloc (.cells #[.int .i64 0, .int .i64 0, .string ⟨#[]⟩, .int .i64 0, .slice none 0 0, .int .i64 0, .int .i64 0, .int .i64 0] 39)).alloc (.cells #[.int .i64 0, .int .i64 0, .string ⟨#[]⟩, .int .i64 0, .slice none 0 0, .int .i64 0, .int .i64 0, .int .i64 0] 39)) y HS.out.rl hu pe ao cap L (hC.below (((below_new _ _).alloc (by simp) _).alloc (by simp; omega) _)) hL)
  rw [hm] at CM
  clear hk h hC hL hm hu
  show Calls _ _ #[.pointer (some ⟨r, 0, none⟩), .agg #[.int .i64 k, .int .i64 un, .int .i64 ep, .int .i64 pg, .int .i64 sz, .int .i64 n, .string s, .int .i64 pe, .slice ao L.length cap]] w _
  go_enter Tryz.func32, Tryz.ntmps32
  unfold ptrL at CM
  go_wp2_with (first
    | (go_at_call 57; refine CM.out.mono ?_; rintro e w1 ⟨rfl, hb1⟩; have HS1 := Lib.hid (HS.out.below hb1); obtain ⟨l1, l2, l3⟩ := HS1.out.small; obtain ⟨lo, lc, bo, cb, g1, g2, g3, g4⟩ := HS1.out.rl.open; obtain ⟨⟨c0, c1, c2, c3, c4, c5⟩, _⟩ := six_cells g1; obtain ⟨⟨x0, x1, x2, x3, x4, x5, x6, x7⟩, fx0, fx1, fx2, fx3, fx4, fx5, fx6, fx7⟩ := eight_cells (HS1.out.xs _ rfl); have lx := lt_of_block (HS1.out.xs _ rfl); have HS2 := Lib.hid (HS1.out.putx0 (.int .i64 48)); have hne : r ≠ w.heap.size + 1 + 1 := (by omega); have HCL := Lib.hid (HS2.out.rl.cl (cellK ((Kept.refl (fun k => k ≠ w.heap.size + 1 + 1) w1).setCell (p := ⟨w.heap.size + 1 + 1, 0, none⟩) (fun h => h rfl) (.int .i64 48)) hne c1)); have HM := Lib.hid (show y.L.length ≤ 1000 ∧ ∀ c ∈ y.L, c.length ≤ 1000 from ⟨by have := (good_small g4).1; omega, fun c hc => by have := (good_small g4).2 c hc; omega⟩); clear g1 g2 g3 g4 hb1 c2 c3 c4 c5)
    | (go_at_call 8; refine (keepCopyO_any y.ep lo lc y.L _ HCL.out HM.out).mono ?_; rintro e w2 ⟨v, rfl, hO, hb2⟩; have HO := Lib.hid hO; obtain ⟨go, gc, hv, _⟩ := hO.form; subst hv; have HS3 := Lib.hid (HS2.out.below hb2); have HLT := Lib.hid (fun k hk => (rl_thing r).lt HS2.out.rl k hk); obtain ⟨l1', l2', _⟩ := HS2.out.small; have HB := Lib.hid (show w.heap.size + 1 + 1 < (w1.setCell ⟨w.heap.size + 1 + 1, 0, none⟩ (.int .i64 48)).heap.size from lt_of_block HS2.out.xcells); obtain ⟨nl1, nl2, _⟩ := HS3.out.small; have lx := lt_of_block HS3.out.xcells; clear x0 x1 x2 x3 x4 x5 x6 x7 fx0 fx1 fx2 fx3 fx4 fx5 fx6 fx7; obtain ⟨⟨x0, x1, x2, x3, x4, x5, x6, x7⟩, fx0, fx1, fx2, fx3, fx4, fx5, fx6, fx7⟩ := eight_cells HS3.out.xcells; obtain ⟨⟨z0, z1, z2, z3, z4, z5, z6, z7⟩, fz0, fz1, fz2, fz3, fz4, fz5, fz6, fz7⟩ := eight_cells HS3.out.zero; clear hO hb2 l1' l2'))
  have H4 := Lib.hid ((ld_any8 (HS3.out.putx34 (.int .i64 y.ep) (.slice go y.L.length gc))).eight (.int .i64 48) (.int .i64 0) (.string ⟨#[]⟩) (.int .i64 y.ep) (.slice go y.L.length gc) (.int .i64 0) (.int .i64 0) (.int .i64 0))
  exact ans_ret (x := anL 48 y.ep y.L) (ao := go) (cap := gc) rfl H4.out.zero rfl rfl (H4.out.tells (x := anL 48 y.ep y.L) (by have := HB.out; omega) HLT.out (CG.behind HO.out (((xkept _ _ _ _ _ _).mono (S := fun k => k ≠ w.heap.size + 1 + 1) (fun k hk => hk.1)).trans ((eight_kept _ _ _ _ _ _ _ _ _ _).mono (T := fun k => k ≠ w.heap.size + 1 + 1 ∧ k ≠ w.heap.size + 1) (fun k hk => hk.2))) (fun k hk => by have := HB.out; omega) ((eight_size _ _ _ _ _ _ _ _ _ _).trans (by simp [World.setCell]))))
end Go.Proofs.YtphigibhgldnpaaGreat
