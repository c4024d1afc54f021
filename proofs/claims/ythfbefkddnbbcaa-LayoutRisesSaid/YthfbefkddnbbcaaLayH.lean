/- What the document's own layout answers, asked to mark an image, or asked what it does not know. Conditions: it and the question lie where the call was told. (Written by gen/genlayf.py.) -/
import Derived.Test.YthfbefkddnbbcaaLayE
namespace Go.Proofs.Ythfbefkddnbbcaa
set_option linter.unusedVariables false
open Go.RowKit
set_option maxRecDepth 20000
set_option maxHeartbeats 8000000 in
theorem ldo_new (r : Nat) (G : Nat → Prop) (w : World) (y : Ly) (a : Ak) (h : RL r G w y) (hk : a.kind = 11) (hb : ¬ badM a) (hn : y.n < a.n) :
    Calls Try.prog 14 #[ptrL r, askV a] w fun e w' => Tells (RL r) G w (y.done a) (y.ans a) e w' := by
  have ha : y.ans a = anM a.n a.page a.size := by unfold Ly.ans; rw [if_neg (by omega), if_neg (by omega), if_pos hk, if_neg hb, if_pos hn]
  have hd : y.done a = ⟨y.ep, y.L, y.used, a.page, a.size, a.n⟩ := by unfold Ly.done; rw [if_neg (by omega), if_pos ⟨hk, hb, hn⟩]
  rw [ha, hd]
  clear ha hd
  obtain ⟨k, un, ep, pg, sz, n, s, pe, L, ao, cap⟩ := a
  simp only at *
  have HS := Lib.hid (show LdW w ((w.alloc (.cells #[.int .i64 k, .int .i64 un, .int .i64 ep, .int .i64 pg, .int .i64 sz, .int .i64 n, .string s, .int .i64 pe, .slice ao L.length cap] 38)).alloc (.cells #[.int .i64 0, .int .i64 0, .string ⟨#[]⟩, .int .i64 0, .slice none 0 0, .int .i64 0, .int .i64 0, .int .i64 0] 41)) r G G y ⟨k, un, ep, pg, sz, n, s, pe, L, ao, cap⟩ zeroA none from ld_start h ⟨k, un, ep, pg, sz, n, s, pe, L, ao, cap⟩)
  have d11 : (k == 11) = true := by rw [hk]; rfl
  have d9 : (k == 9) = false := by rw [hk]; rfl
  have d10 : (k == 10) = false := by rw [hk]; rfl
  have dn : decide (y.n < n) = true := decide_eq_true hn
  unfold badM at hb
  simp only at hb
  have g0 : 0 ≤ pg := by omega
  have g1 : pg < 16384 := by omega
  have g2 : 1 ≤ sz := by omega
  have g3 : sz ≤ 65536 := by omega
  have g4 : 0 ≤ n := by omega
  have g5 : n ≤ 16384 := by omega
  clear h hk hb hn
  show Calls _ _ #[.pointer (some ⟨r, 0, none⟩), .agg #[.int .i64 k, .int .i64 un, .int .i64 ep, .int .i64 pg, .int .i64 sz, .int .i64 n, .string s, .int .i64 pe, .slice ao L.length cap]] w _
  go_enter Try.func14, Try.ntmps14
  go_wp2_with fail
  generalize hW0 : ((w.alloc (.cells #[.int .i64 k, .int .i64 un, .int .i64 ep, .int .i64 pg, .int .i64 sz, .int .i64 n, .string s, .int .i64 pe, .slice ao L.length cap] 38)).alloc (.cells #[.int .i64 0, .int .i64 0, .string ⟨#[]⟩, .int .i64 0, .slice none 0 0, .int .i64 0, .int .i64 0, .int .i64 0] 41)) = W0 at *
  clear hW0
  obtain ⟨lo, lc, bo, cb, h1, _, _, _⟩ := HS.out.rl.open
  obtain ⟨⟨c0, c1, c2, c3, c4, c5⟩, f0, f1, f2, f3, f4, f5⟩ := six_cells h1
  have hr := lt_of_block h1
  have x3 : W0.cell? ⟨w.heap.size, 3, none⟩ = some (.int .i64 pg) := cell_of HS.out.ask 3
  have x4 : W0.cell? ⟨w.heap.size, 4, none⟩ = some (.int .i64 sz) := cell_of HS.out.ask 4
  have x5 : W0.cell? ⟨w.heap.size, 5, none⟩ = some (.int .i64 n) := cell_of HS.out.ask 5
  have HN := Lib.hid (fun q => HS.out.drewN q)
  go_quiet (fail)
  have HX := Lib.hid (HN.out nq)
  clear HN HS c0 c1 c2 c3 c4 c5 f0 f1 f2 f3 f4 f5 x3 x4 x5 hr h1
  generalize World.drewN W0 nq = W1 at *
  obtain ⟨loa, lca, boa, cba, h1a, _, _, _⟩ := HX.out.rl.open
  obtain ⟨⟨c0a, c1a, c2a, c3a, c4a, c5a⟩, f0a, f1a, f2a, f3a, f4a, f5a⟩ := six_cells h1a
  have hra := lt_of_block h1a
  have x3 : W1.cell? ⟨w.heap.size, 3, none⟩ = some (.int .i64 pg) := cell_of HX.out.ask 3
  have x4 : W1.cell? ⟨w.heap.size, 4, none⟩ = some (.int .i64 sz) := cell_of HX.out.ask 4
  have x5 : W1.cell? ⟨w.heap.size, 5, none⟩ = some (.int .i64 n) := cell_of HX.out.ask 5
  go_wp2_with fail
  go_region
  all_goals
    obtain ⟨H', ht⟩ := HX.out.turn ((((Kept.refl _ W1).setCell (p := ⟨r, 3, none⟩) (fun h => h rfl) (.int .i64 pg)).setCell (p := ⟨r, 4, none⟩) (fun h => h rfl) (.int .i64 sz)).setCell (p := ⟨r, 5, none⟩) (fun h => h rfl) (.int .i64 n)) (RL.mark HX.out.rl (m := pg) (z := sz) (n := n) ⟨g0, g1⟩ ⟨g2, g3⟩ ⟨g4, g5⟩)
    have HT := Lib.hid ht.drew
    clear ht HX c0a c1a c2a c3a c4a c5a f0a f1a f2a f3a f4a f5a x3 x4 x5 hra h1a
    generalize hW2 : World.drew (World.setCell (World.setCell (World.setCell W1 ⟨r, 3, none⟩ (.int .i64 pg)) ⟨r, 4, none⟩ (.int .i64 sz)) ⟨r, 5, none⟩ (.int .i64 n)) = W2 at *
    clear hW2
    obtain ⟨lob, lcb, bob, cbb, h1b, _, _, _⟩ := HT.out.rl.open
    obtain ⟨⟨c0b, c1b, c2b, c3b, c4b, c5b⟩, f0b, f1b, f2b, f3b, f4b, f5b⟩ := six_cells h1b
    have hrb := lt_of_block h1b
    obtain ⟨l1, l2, l3⟩ := HT.out.small
    obtain ⟨⟨z0, z1, z2, z3, z4, z5, z6, z7⟩, fz0, fz1, fz2, fz3, fz4, fz5, fz6, fz7⟩ := eight_cells HT.out.zero
    go_wp2_with fail
    go_region
    have H9 := Lib.hid (HT.out.any.eight (.int .i64 0) (.int .i64 n) (.string ⟨#[]⟩) (.int .i64 0) (.slice none 0 0) (.int .i64 pg) (.int .i64 sz) (.int .i64 0)).drew
    go_wp2_with fail
    exact ans_ret (x := anM n pg sz) (ao := none) (cap := 0) rfl H9.out.zero rfl rfl (H9.out.plain rfl)
end Go.Proofs.Ythfbefkddnbbcaa
