/- What the document's own layout answers, asked to mark an image, or asked what it does not know. Conditions: it and the question lie where the call was told. (Written by gen/genlayf.py.) What the document's own layout answers, asked to mark an image, or asked what it does not know. Conditions: it and the question lie where the call was told. (Written by gen/genlayf.py.) -/
import Derived.Test.YtkicjgaejieinaaGreatG17a
set_option linter.unusedVariables false
namespace Go.Proofs.YtkicjgaejieinaaGreat
set_option linter.unusedVariables false
open Go.RowKit
set_option maxRecDepth 20000
set_option maxHeartbeats 8000000 in
theorem ldo_other (r : Nat) (G : Nat → Prop) (w : World) (y : Ly) (a : Ak) (h : RL r G w y) (h9 : a.kind ≠ 9) (h10 : a.kind ≠ 10) (h11 : a.kind ≠ 11) :
    Calls Tryz.prog 59 #[ptrL r, askV a] w fun e w' => Tells (RL r) G w (y.done a) (y.ans a) e w' := by
  have ha : y.ans a = anP 1 0 noL 0 := by unfold Ly.ans; rw [if_neg h9, if_neg h10, if_neg h11]
  have hd : y.done a = y := by unfold Ly.done; rw [if_neg h10, if_neg (fun h => h11 h.1)]
  rw [ha, hd]
  clear ha hd
  obtain ⟨k, un, ep, pg, sz, n, s, pe, L, ao, cap⟩ := a
  simp only at *
  have HS := Lib.hid (show LdW w ((w.alloc (.cells #[.int .i64 k, .int .i64 un, .int .i64 ep, .int .i64 pg, .int .i64 sz, .int .i64 n, .string s, .int .i64 pe, .slice ao L.length cap] 34)).alloc (.cells #[.int .i64 0, .int .i64 0, .string ⟨#[]⟩, .int .i64 0, .slice none 0 0, .int .i64 0, .int .i64 0, .int .i64 0] 38)) r G G y ⟨k, un, ep, pg, sz, n, s, pe, L, ao, cap⟩ zeroA none from ld_start h ⟨k, un, ep, pg, sz, n, s, pe, L, ao, cap⟩)
  have H1 := Lib.hid (show LdW w ((w.alloc (.cells #[.int .i64 k, .int .i64 un, .int .i64 ep, .int .i64 pg, .int .i64 sz, .int .i64 n, .string s, .int .i64 pe, .slice ao L.length cap] 34)).alloc (.cells #[.int .i64 1, .int .i64 0, .string ⟨#[]⟩, .int .i64 0, .slice none 0 0, .int .i64 0, .int .i64 0, .int .i64 0] 38)) r G G y ⟨k, un, ep, pg, sz, n, s, pe, L, ao, cap⟩ #[.int .i64 1, .int .i64 0, .string ⟨#[]⟩, .int .i64 0, .slice none 0 0, .int .i64 0, .int .i64 0, .int .i64 0] none from ld_startY h ⟨k, un, ep, pg, sz, n, s, pe, L, ao, cap⟩ _)
  have d9 : (k == 9) = false := beq_eq_false_iff_ne.2 h9
  have d10 : (k == 10) = false := beq_eq_false_iff_ne.2 h10
  have d11 : (k == 11) = false := beq_eq_false_iff_ne.2 h11
  clear h h9 h10 h11
  show Calls _ _ #[.pointer (some ⟨r, 0, none⟩), .agg #[.int .i64 k, .int .i64 un, .int .i64 ep, .int .i64 pg, .int .i64 sz, .int .i64 n, .string s, .int .i64 pe, .slice ao L.length cap]] w _
  go_enter Tryz.func59, Tryz.ntmps59
  go_wp2_with fail
  exact ans_ret (x := anP 1 0 noL 0) (ao := none) (cap := 0) rfl H1.out.zero rfl rfl (H1.out.plain rfl)
set_option maxHeartbeats 8000000 in
theorem ldo_bad (r : Nat) (G : Nat → Prop) (w : World) (y : Ly) (a : Ak) (h : RL r G w y) (hk : a.kind = 11) (hb : badM a) :
    Calls Tryz.prog 59 #[ptrL r, askV a] w fun e w' => Tells (RL r) G w (y.done a) (y.ans a) e w' := by
  have ha : y.ans a = anP 1 0 noL 0 := by unfold Ly.ans; rw [if_neg (by omega), if_neg (by omega), if_pos hk, if_pos hb]
  have hd : y.done a = y := by unfold Ly.done; rw [if_neg (by omega), if_neg (fun h => h.2.1 hb)]
  rw [ha, hd]
  clear ha hd
  obtain ⟨k, un, ep, pg, sz, n, s, pe, L, ao, cap⟩ := a
  simp only at *
  have HS := Lib.hid (show LdW w ((w.alloc (.cells #[.int .i64 k, .int .i64 un, .int .i64 ep, .int .i64 pg, .int .i64 sz, .int .i64 n, .string s, .int .i64 pe, .slice ao L.length cap] 34)).alloc (.cells #[.int .i64 0, .int .i64 0, .string ⟨#[]⟩, .int .i64 0, .slice none 0 0, .int .i64 0, .int .i64 0, .int .i64 0] 38)) r G G y ⟨k, un, ep, pg, sz, n, s, pe, L, ao, cap⟩ zeroA none from ld_start h ⟨k, un, ep, pg, sz, n, s, pe, L, ao, cap⟩)
  have d11 : (k == 11) = true := by rw [hk]; rfl
  have d9 : (k == 9) = false := by rw [hk]; rfl
  have d10 : (k == 10) = false := by rw [hk]; rfl
  unfold badM at hb
  simp only at hb
  have H1 := Lib.hid (show LdW w ((w.alloc (.cells #[.int .i64 k, .int .i64 un, .int .i64 ep, .int .i64 pg, .int .i64 sz, .int .i64 n, .string s, .int .i64 pe, .slice ao L.length cap] 34)).alloc (.cells #[.int .i64 1, .int .i64 0, .string ⟨#[]⟩, .int .i64 0, .slice none 0 0, .int .i64 0, .int .i64 0, .int .i64 0] 38)) r G G y ⟨k, un, ep, pg, sz, n, s, pe, L, ao, cap⟩ #[.int .i64 1, .int .i64 0, .string ⟨#[]⟩, .int .i64 0, .slice none 0 0, .int .i64 0, .int .i64 0, .int .i64 0] none from ld_startY h ⟨k, un, ep, pg, sz, n, s, pe, L, ao, cap⟩ _)
  by_cases g0 : pg < 0
  · clear h hk hb
    show Calls _ _ #[.pointer (some ⟨r, 0, none⟩), .agg #[.int .i64 k, .int .i64 un, .int .i64 ep, .int .i64 pg, .int .i64 sz, .int .i64 n, .string s, .int .i64 pe, .slice ao L.length cap]] w _
    go_enter Tryz.func59, Tryz.ntmps59
    go_wp2_with fail
    exact ans_ret (x := anP 1 0 noL 0) (ao := none) (cap := 0) rfl H1.out.zero rfl rfl (H1.out.plain rfl)
  have g0 : 0 ≤ pg := by omega
  by_cases g1 : 16384 ≤ pg
  · clear h hk hb
    show Calls _ _ #[.pointer (some ⟨r, 0, none⟩), .agg #[.int .i64 k, .int .i64 un, .int .i64 ep, .int .i64 pg, .int .i64 sz, .int .i64 n, .string s, .int .i64 pe, .slice ao L.length cap]] w _
    go_enter Tryz.func59, Tryz.ntmps59
    go_wp2_with fail
    exact ans_ret (x := anP 1 0 noL 0) (ao := none) (cap := 0) rfl H1.out.zero rfl rfl (H1.out.plain rfl)
  have g1 : pg < 16384 := by omega
  by_cases g2 : sz < 1
  · clear h hk hb
    show Calls _ _ #[.pointer (some ⟨r, 0, none⟩), .agg #[.int .i64 k, .int .i64 un, .int .i64 ep, .int .i64 pg, .int .i64 sz, .int .i64 n, .string s, .int .i64 pe, .slice ao L.length cap]] w _
    go_enter Tryz.func59, Tryz.ntmps59
    go_wp2_with fail
    exact ans_ret (x := anP 1 0 noL 0) (ao := none) (cap := 0) rfl H1.out.zero rfl rfl (H1.out.plain rfl)
  have g2 : 1 ≤ sz := by omega
  by_cases g3 : 65536 < sz
  · clear h hk hb
    show Calls _ _ #[.pointer (some ⟨r, 0, none⟩), .agg #[.int .i64 k, .int .i64 un, .int .i64 ep, .int .i64 pg, .int .i64 sz, .int .i64 n, .string s, .int .i64 pe, .slice ao L.length cap]] w _
    go_enter Tryz.func59, Tryz.ntmps59
    go_wp2_with fail
    exact ans_ret (x := anP 1 0 noL 0) (ao := none) (cap := 0) rfl H1.out.zero rfl rfl (H1.out.plain rfl)
  have g3 : sz ≤ 65536 := by omega
  by_cases g4 : n < 0
  · clear h hk hb
    show Calls _ _ #[.pointer (some ⟨r, 0, none⟩), .agg #[.int .i64 k, .int .i64 un, .int .i64 ep, .int .i64 pg, .int .i64 sz, .int .i64 n, .string s, .int .i64 pe, .slice ao L.length cap]] w _
    go_enter Tryz.func59, Tryz.ntmps59
    go_wp2_with fail
    exact ans_ret (x := anP 1 0 noL 0) (ao := none) (cap := 0) rfl H1.out.zero rfl rfl (H1.out.plain rfl)
  have g4 : 0 ≤ n := by omega
  by_cases g5 : 16384 < n
  · clear h hk hb
    show Calls _ _ #[.pointer (some ⟨r, 0, none⟩), .agg #[.int .i64 k, .int .i64 un, .int .i64 ep, .int .i64 pg, .int .i64 sz, .int .i64 n, .string s, .int .i64 pe, .slice ao L.length cap]] w _
    go_enter Tryz.func59, Tryz.ntmps59
    go_wp2_with fail
    exact ans_ret (x := anP 1 0 noL 0) (ao := none) (cap := 0) rfl H1.out.zero rfl rfl (H1.out.plain rfl)
  have g5 : n ≤ 16384 := by omega
  exfalso
  rcases hb with h | h | h | h | h | h <;> omega
end Go.Proofs.YtkicjgaejieinaaGreat
namespace Go.Proofs.YtkicjgaejieinaaGreat
set_option linter.unusedVariables false
open Go.RowKit
set_option maxRecDepth 20000
set_option maxHeartbeats 8000000 in
theorem ldo_old (r : Nat) (G : Nat → Prop) (w : World) (y : Ly) (a : Ak) (h : RL r G w y) (hk : a.kind = 11) (hb : ¬ badM a) (hn : ¬ y.n < a.n) :
    Calls Tryz.prog 59 #[ptrL r, askV a] w fun e w' => Tells (RL r) G w (y.done a) (y.ans a) e w' := by
  have ha : y.ans a = anM y.n y.mark y.size := by unfold Ly.ans; rw [if_neg (by omega), if_neg (by omega), if_pos hk, if_neg hb, if_neg hn]
  have hd : y.done a = y := by unfold Ly.done; rw [if_neg (by omega), if_neg (fun h => hn h.2.2)]
  rw [ha, hd]
  clear ha hd
  obtain ⟨k, un, ep, pg, sz, n, s, pe, L, ao, cap⟩ := a
  simp only at *
  have HS := Lib.hid (show LdW w ((w.alloc (.cells #[.int .i64 k, .int .i64 un, .int .i64 ep, .int .i64 pg, .int .i64 sz, .int .i64 n, .string s, .int .i64 pe, .slice ao L.length cap] 34)).alloc (.cells #[.int .i64 0, .int .i64 0, .string ⟨#[]⟩, .int .i64 0, .slice none 0 0, .int .i64 0, .int .i64 0, .int .i64 0] 38)) r G G y ⟨k, un, ep, pg, sz, n, s, pe, L, ao, cap⟩ zeroA none from ld_start h ⟨k, un, ep, pg, sz, n, s, pe, L, ao, cap⟩)
  have d11 : (k == 11) = true := by rw [hk]; rfl
  have d9 : (k == 9) = false := by rw [hk]; rfl
  have d10 : (k == 10) = false := by rw [hk]; rfl
  have dn : decide (y.n < n) = false := decide_eq_false hn
  unfold badM at hb
  simp only at hb
  have g0 : 0 ≤ pg := by omega
  have g1 : pg < 16384 := by omega
  have g2 : 1 ≤ sz := by omega
  have g3 : sz ≤ 65536 := by omega
  have g4 : 0 ≤ n := by omega
  have g5 : n ≤ 16384 := by omega
  clear h hk hb hn
  show Calls _ _ #[.pointer (some ⟨r, 0, none⟩), .agg #[.int .i64 k, .int .i64 un, .int .i64 ep, .int .i64 pg, .int .i64 sz, .int .i64 n, .string s, .int .i64 pe, .slice ao L.length cap]] w _
  go_enter Tryz.func59, Tryz.ntmps59
  go_wp2_with fail
  generalize hW0 : ((w.alloc (.cells #[.int .i64 k, .int .i64 un, .int .i64 ep, .int .i64 pg, .int .i64 sz, .int .i64 n, .string s, .int .i64 pe, .slice ao L.length cap] 34)).alloc (.cells #[.int .i64 0, .int .i64 0, .string ⟨#[]⟩, .int .i64 0, .slice none 0 0, .int .i64 0, .int .i64 0, .int .i64 0] 38)) = W0 at *
  clear hW0
  obtain ⟨lo, lc, bo, cb, h1, _, _, _⟩ := HS.out.rl.open
  obtain ⟨⟨c0, c1, c2, c3, c4, c5⟩, f0, f1, f2, f3, f4, f5⟩ := six_cells h1
  have hr := lt_of_block h1
  have x3 : W0.cell? ⟨w.heap.size, 3, none⟩ = some (.int .i64 pg) := cell_of HS.out.ask 3
  have x4 : W0.cell? ⟨w.heap.size, 4, none⟩ = some (.int .i64 sz) := cell_of HS.out.ask 4
  have x5 : W0.cell? ⟨w.heap.size, 5, none⟩ = some (.int .i64 n) := cell_of HS.out.ask 5
  have HN := Lib.hid (fun q => HS.out.drewN q)
  go_quiet (fail)
  have HX := Lib.hid (HN.out nq)
  clear HN HS c0 c1 c2 c3 c4 c5 f0 f1 f2 f3 f4 f5 x3 x4 x5 hr h1
  generalize World.drewN W0 nq = W1 at *
  obtain ⟨loa, lca, boa, cba, h1a, _, _, _⟩ := HX.out.rl.open
  obtain ⟨⟨c0a, c1a, c2a, c3a, c4a, c5a⟩, f0a, f1a, f2a, f3a, f4a, f5a⟩ := six_cells h1a
  have hra := lt_of_block h1a
  obtain ⟨l1, l2, l3⟩ := HX.out.small
  obtain ⟨⟨z0, z1, z2, z3, z4, z5, z6, z7⟩, fz0, fz1, fz2, fz3, fz4, fz5, fz6, fz7⟩ := eight_cells HX.out.zero
  go_wp2_with fail
  go_region
  have H9 := Lib.hid (HX.out.any.eight (.int .i64 0) (.int .i64 y.n) (.string ⟨#[]⟩) (.int .i64 0) (.slice none 0 0) (.int .i64 y.mark) (.int .i64 y.size) (.int .i64 0)).drew
  go_wp2_with fail
  exact ans_ret (x := anM y.n y.mark y.size) (ao := none) (cap := 0) rfl H9.out.zero rfl rfl (H9.out.plain rfl)
end Go.Proofs.YtkicjgaejieinaaGreat
