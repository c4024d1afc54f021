/- What the document's own unit answers a question of one kind, and is behind it. Conditions: it and the question lie where the call was told; the question's data are not too long. (Written by gen/genunib.py.) What the document's own unit answers a question of one kind, and is behind it. Conditions: it and the question lie where the call was told; the question's data are not too long. (Written by gen/genunib.py.) -/
import Derived.Test.YtphigibhgldnpaaGreatG10b
import Derived.Deep.RegionHeld3
import Derived.Deep.RegionHeldLaw
set_option linter.unusedVariables false
namespace Go.Proofs.YtphigibhgldnpaaGreat
set_option linter.unusedVariables false
open Go.RowKit
set_option maxRecDepth 20000
set_option maxHeartbeats 8000000 in
theorem rdo_seal (r q : Nat) (G : Nat → Prop) (w : World) (u : Us) (a : Ak) (h : RU r q G w u) (hd : u.down = false) (hk : a.kind = 5) (he : ¬ a.epoch < u.epoch) (hw : i64w a.epoch) :
    Calls Tryz.prog 31 #[ptrU r, askV a] w fun e w' => e = .returned (ansV (u.ans a) none 0) ∧ Leaves (RU r q) G w w' (u.done a) := by
  rw [show u.ans a = anP 0 u.p.tail noS a.epoch from by unfold Us.ans; rw [if_neg (by rw [hd]; decide), if_neg (by omega), if_neg he, if_pos hk], show u.done a = ⟨u.p, a.epoch, u.down⟩ from by unfold Us.done; rw [if_neg (by rw [hd]; simp; omega), if_pos hk]]
  obtain ⟨k, un, ep, pg, sz, n, s, pe, L, ao, cap⟩ := a
  obtain ⟨p, ue, dn⟩ := u
  simp only at *
  subst hd
  have HS := Lib.hid (show DoW w (((w.alloc (.cells #[.int .i64 k, .int .i64 un, .int .i64 ep, .int .i64 pg, .int .i64 sz, .int .i64 n, .string s, .int .i64 pe, .slice ao L.length cap] 42)).alloc (.cells #[.int .i64 0, .int .i64 0, .string ⟨#[]⟩, .int .i64 0, .slice none 0 0, .int .i64 0, .int .i64 0, .int .i64 0] 39)).alloc (.cells #[.int .i64 0, .int .i64 0, .string ⟨#[]⟩, .int .i64 0, .slice none 0 0, .int .i64 0, .int .i64 0, .int .i64 ue] 39)) r q G ⟨p, ue, false⟩ ⟨k, un, ep, pg, sz, n, s, pe, L, ao, cap⟩ #[.int .i64 0, .int .i64 0, .string ⟨#[]⟩, .int .i64 0, .slice none 0 0, .int .i64 0, .int .i64 0, .int .i64 ue] from do_start h ⟨k, un, ep, pg, sz, n, s, pe, L, ao, cap⟩ #[.int .i64 0, .int .i64 0, .string ⟨#[]⟩, .int .i64 0, .slice none 0 0, .int .i64 0, .int .i64 0, .int .i64 ue])
  have he' : ue ≤ ep := by omega
  have hk1 : 1 ≤ k := by omega
  have hk5 : k ≤ 5 := by omega
  have d5 : (k == 5) = true := by rw [hk]; rfl
  clear hk he
  have HR := Lib.hid h
  obtain ⟨h0, h1, h2, _⟩ := h
  simp only at h1
  have hlt := lt_of_block h1
  obtain ⟨c0, c1, c2, _⟩ := three_cells h1
  clear h0 h1 h2
  show Calls _ _ #[.pointer (some ⟨r, 0, none⟩), .agg #[.int .i64 k, .int .i64 un, .int .i64 ep, .int .i64 pg, .int .i64 sz, .int .i64 n, .string s, .int .i64 pe, .slice ao L.length cap]] w _
  go_enter Tryz.func31, Tryz.ntmps31
  go_wp2_with fail
  generalize hW0 : ((w.alloc (.cells #[.int .i64 k, .int .i64 un, .int .i64 ep, .int .i64 pg, .int .i64 sz, .int .i64 n, .string s, .int .i64 pe, .slice ao L.length cap] 42)).alloc (.cells #[.int .i64 0, .int .i64 0, .string ⟨#[]⟩, .int .i64 0, .slice none 0 0, .int .i64 0, .int .i64 0, .int .i64 0] 39)).alloc (.cells #[.int .i64 0, .int .i64 0, .string ⟨#[]⟩, .int .i64 0, .slice none 0 0, .int .i64 0, .int .i64 0, .int .i64 ue] 39) = W0 at *
  clear c0 c1 c2 hlt hW0
  obtain ⟨l1, l2, l3, l4⟩ := HS.out.small
  have x2 : W0.cell? ⟨w.heap.size, 2, none⟩ = some (.int .i64 ep) := cell_of HS.out.ask 2
  obtain ⟨c0, c1, c2, _⟩ := three_cells HS.out.unit
  have hr := lt_of_block HS.out.unit
  have HSN := Lib.hid (fun n => HS.out.drewN n)
  clear HS
  go_quiet (fail)
  have HT := Lib.hid (HSN.out nq)
  generalize hW1 : World.drewN W0 nq = W1 at *
  clear hW1 HSN x2 c0 c1 c2 hr l1 l2 l3 l4
  obtain ⟨l1, l2, l3, l4⟩ := HT.out.small
  obtain ⟨⟨y0, y1, y2, y3, y4, y5, y6, y7⟩, fy0, fy1, fy2, fy3, fy4, fy5, fy6, fy7⟩ := eight_cells HT.out.ans
  obtain ⟨⟨z0, z1, z2, z3, z4, z5, z6, z7⟩, fz0, fz1, fz2, fz3, fz4, fz5, fz6, fz7⟩ := eight_cells HT.out.zero
  obtain ⟨c0, c1, c2, f0, f1, f2⟩ := three_cells HT.out.unit
  have x0 : W1.cell? ⟨w.heap.size, 0, none⟩ = some (.int .i64 k) := cell_of HT.out.ask 0
  have x2 : W1.cell? ⟨w.heap.size, 2, none⟩ = some (.int .i64 ep) := cell_of HT.out.ask 2
  have x3 : W1.cell? ⟨w.heap.size, 3, none⟩ = some (.int .i64 pg) := cell_of HT.out.ask 3
  have x6 : W1.cell? ⟨w.heap.size, 6, none⟩ = some (.string s) := cell_of HT.out.ask 6
  go_wp2_with fail
  have HT2 := Lib.hid (HT.out.seal hw)
  clear y0 y1 y2 y3 y4 y5 y6 y7 fy0 fy1 fy2 fy3 fy4 fy5 fy6 fy7 z0 z1 z2 z3 z4 z5 z6 z7 fz0 fz1 fz2 fz3 fz4 fz5 fz6 fz7 c0 c1 c2 f0 f1 f2 x0 x2 x3 x6 l1 l2 l3 l4
  generalize hW2 : World.setCell W1 _ _ = W2 at *
  clear hW2 HT
  obtain ⟨l1, l2, l3, l4⟩ := HT2.out.small
  obtain ⟨⟨y0, y1, y2, y3, y4, y5, y6, y7⟩, fy0, fy1, fy2, fy3, fy4, fy5, fy6, fy7⟩ := eight_cells HT2.out.ans
  obtain ⟨⟨z0, z1, z2, z3, z4, z5, z6, z7⟩, fz0, fz1, fz2, fz3, fz4, fz5, fz6, fz7⟩ := eight_cells HT2.out.zero
  obtain ⟨c0, c1, c2, f0, f1, f2⟩ := three_cells HT2.out.unit
  have x0 : W2.cell? ⟨w.heap.size, 0, none⟩ = some (.int .i64 k) := cell_of HT2.out.ask 0
  have x2 : W2.cell? ⟨w.heap.size, 2, none⟩ = some (.int .i64 ep) := cell_of HT2.out.ask 2
  have x3 : W2.cell? ⟨w.heap.size, 3, none⟩ = some (.int .i64 pg) := cell_of HT2.out.ask 3
  have x6 : W2.cell? ⟨w.heap.size, 6, none⟩ = some (.string s) := cell_of HT2.out.ask 6
  obtain ⟨F, hF, hok, _⟩ := (HT2.out.drewN 1).ready
  have HT3 := Lib.hid (HT2.out.drewN 1)
  go_region_held3 (fun W => W.cell? ⟨w.heap.size, 2, none⟩ = some (.int .i64 ep) ∧ W.cell? ⟨r, 0, none⟩ = some (.pointer (some ⟨q, 0, none⟩)))
    (first | exact ⟨x2, c0⟩ | assumption | exact ⟨cell_of (HT3.out.put 7 _).ask 2, (three_cells (HT3.out.put 7 _).unit).1⟩ | exact ⟨cell_of ((HT3.out.put 7 _).put 1 _).ask 2, (three_cells ((HT3.out.put 7 _).put 1 _).unit).1⟩)
    (first | (go_at_call 37; refine (rtail_any F _ q p hF hok).mono ?_; rintro e w' ⟨rfl, rfl⟩))
  all_goals
    go_wp2_with fail
    exact ans_ret (x := anP 0 p.tail noS ep) (ao := none) (cap := 0) rfl ((HT3.out.put 7 (.int .i64 ep)).put 1 (.int .i64 p.tail)).fin.1 rfl rfl ⟨rfl, ((HT3.out.put 7 (.int .i64 ep)).put 1 (.int .i64 p.tail)).fin.2⟩
end Go.Proofs.YtphigibhgldnpaaGreat
namespace Go.Proofs.YtphigibhgldnpaaGreat
set_option linter.unusedVariables false
open Go.RowKit
set_option maxRecDepth 20000
set_option maxHeartbeats 8000000 in
theorem rdo_trim (r q : Nat) (G : Nat → Prop) (w : World) (u : Us) (a : Ak) (h : RU r q G w u) (hd : u.down = false) (hk : a.kind = 4) (he : ¬ a.epoch < u.epoch) :
    Calls Tryz.prog 31 #[ptrU r, askV a] w fun e w' => e = .returned (ansV (u.ans a) none 0) ∧ Leaves (RU r q) G w w' (u.done a) := by
  rw [show u.ans a = anP (Ps.trimE a.page) 0 noS u.epoch from by unfold Us.ans; rw [if_neg (by rw [hd]; decide), if_neg (by omega), if_neg he, if_neg (by omega), if_neg (by omega)]; unfold Us.pageE; rw [if_neg (by omega), if_neg (by omega), if_neg (by omega)], show u.done a = ⟨u.p.trim a.page, u.epoch, u.down⟩ from by unfold Us.done; rw [if_neg (by rw [hd]; simp; omega), if_neg (by omega)]; unfold Us.pageP; rw [if_neg (by omega), if_neg (by omega), if_neg (by omega)]]
  obtain ⟨k, un, ep, pg, sz, n, s, pe, L, ao, cap⟩ := a
  obtain ⟨p, ue, dn⟩ := u
  simp only at *
  subst hd
  have HS := Lib.hid (show DoW w (((w.alloc (.cells #[.int .i64 k, .int .i64 un, .int .i64 ep, .int .i64 pg, .int .i64 sz, .int .i64 n, .string s, .int .i64 pe, .slice ao L.length cap] 42)).alloc (.cells #[.int .i64 0, .int .i64 0, .string ⟨#[]⟩, .int .i64 0, .slice none 0 0, .int .i64 0, .int .i64 0, .int .i64 0] 39)).alloc (.cells #[.int .i64 0, .int .i64 0, .string ⟨#[]⟩, .int .i64 0, .slice none 0 0, .int .i64 0, .int .i64 0, .int .i64 ue] 39)) r q G ⟨p, ue, false⟩ ⟨k, un, ep, pg, sz, n, s, pe, L, ao, cap⟩ #[.int .i64 0, .int .i64 0, .string ⟨#[]⟩, .int .i64 0, .slice none 0 0, .int .i64 0, .int .i64 0, .int .i64 ue] from do_start h ⟨k, un, ep, pg, sz, n, s, pe, L, ao, cap⟩ #[.int .i64 0, .int .i64 0, .string ⟨#[]⟩, .int .i64 0, .slice none 0 0, .int .i64 0, .int .i64 0, .int .i64 ue])
  have he' : ue ≤ ep := by omega
  have hk1 : 1 ≤ k := by omega
  have hk5 : k ≤ 5 := by omega
  have d5 : (k == 5) = false := beq_eq_false_iff_ne.2 (by omega)
  have d1 : (k == 1) = false := beq_eq_false_iff_ne.2 (by omega)
  have d2 : (k == 2) = false := beq_eq_false_iff_ne.2 (by omega)
  have d3 : (k == 3) = false := beq_eq_false_iff_ne.2 (by omega)
  have d4 : (k == 4) = true := by rw [hk]; rfl
  clear hk he
  have HR := Lib.hid h
  obtain ⟨h0, h1, h2, _⟩ := h
  simp only at h1
  have hlt := lt_of_block h1
  obtain ⟨c0, c1, c2, _⟩ := three_cells h1
  clear h0 h1 h2
  show Calls _ _ #[.pointer (some ⟨r, 0, none⟩), .agg #[.int .i64 k, .int .i64 un, .int .i64 ep, .int .i64 pg, .int .i64 sz, .int .i64 n, .string s, .int .i64 pe, .slice ao L.length cap]] w _
  go_enter Tryz.func31, Tryz.ntmps31
  go_wp2_with fail
  generalize hW0 : ((w.alloc (.cells #[.int .i64 k, .int .i64 un, .int .i64 ep, .int .i64 pg, .int .i64 sz, .int .i64 n, .string s, .int .i64 pe, .slice ao L.length cap] 42)).alloc (.cells #[.int .i64 0, .int .i64 0, .string ⟨#[]⟩, .int .i64 0, .slice none 0 0, .int .i64 0, .int .i64 0, .int .i64 0] 39)).alloc (.cells #[.int .i64 0, .int .i64 0, .string ⟨#[]⟩, .int .i64 0, .slice none 0 0, .int .i64 0, .int .i64 0, .int .i64 ue] 39) = W0 at *
  clear c0 c1 c2 hlt hW0
  obtain ⟨l1, l2, l3, l4⟩ := HS.out.small
  have x2 : W0.cell? ⟨w.heap.size, 2, none⟩ = some (.int .i64 ep) := cell_of HS.out.ask 2
  obtain ⟨c0, c1, c2, _⟩ := three_cells HS.out.unit
  have hr := lt_of_block HS.out.unit
  have HSN := Lib.hid (fun n => HS.out.drewN n)
  clear HS
  go_quiet (fail)
  have HT := Lib.hid (HSN.out nq)
  generalize hW1 : World.drewN W0 nq = W1 at *
  clear hW1 HSN x2 c0 c1 c2 hr l1 l2 l3 l4
  obtain ⟨l1, l2, l3, l4⟩ := HT.out.small
  obtain ⟨⟨y0, y1, y2, y3, y4, y5, y6, y7⟩, fy0, fy1, fy2, fy3, fy4, fy5, fy6, fy7⟩ := eight_cells HT.out.ans
  obtain ⟨⟨z0, z1, z2, z3, z4, z5, z6, z7⟩, fz0, fz1, fz2, fz3, fz4, fz5, fz6, fz7⟩ := eight_cells HT.out.zero
  obtain ⟨c0, c1, c2, f0, f1, f2⟩ := three_cells HT.out.unit
  have x0 : W1.cell? ⟨w.heap.size, 0, none⟩ = some (.int .i64 k) := cell_of HT.out.ask 0
  have x2 : W1.cell? ⟨w.heap.size, 2, none⟩ = some (.int .i64 ep) := cell_of HT.out.ask 2
  have x3 : W1.cell? ⟨w.heap.size, 3, none⟩ = some (.int .i64 pg) := cell_of HT.out.ask 3
  have x6 : W1.cell? ⟨w.heap.size, 6, none⟩ = some (.string s) := cell_of HT.out.ask 6
  go_wp2_with fail
  obtain ⟨F, hF, hok, hnx⟩ := (HT.out.drewN 1).ready
  have HNX := Lib.hid hnx
  clear hnx
  go_region_held3 (fun W => W.cell? ⟨w.heap.size, 3, none⟩ = some (.int .i64 pg) ∧ W.cell? ⟨w.heap.size, 6, none⟩ = some (.string s) ∧ W.cell? ⟨r, 0, none⟩ = some (.pointer (some ⟨q, 0, none⟩)))
    (first | exact ⟨x3, x6, c0⟩ | exact ⟨cell_of HT2.out.ask 3, cell_of HT2.out.ask 6, (three_cells HT2.out.unit).1⟩ | exact ⟨cell_of (HT2.out.put 0 _).ask 3, cell_of (HT2.out.put 0 _).ask 6, (three_cells (HT2.out.put 0 _).unit).1⟩)
    (first | (go_at_call 56; refine (rtrim_any F _ q p pg hF hok).mono ?_; rintro e w2 ⟨rfl, hl⟩; have HT2 := Lib.hid (HNX.out _ _ (hok.trim pg) hl); clear hl; obtain ⟨nl1, nl2, nl3, nl4⟩ := HT2.out.small; obtain ⟨⟨ny0, ny1, ny2, ny3, ny4, ny5, ny6, ny7⟩, nfy0, nfy1, nfy2, nfy3, nfy4, nfy5, nfy6, nfy7⟩ := eight_cells HT2.out.ans; obtain ⟨⟨nz0, nz1, nz2, nz3, nz4, nz5, nz6, nz7⟩, nfz0, nfz1, nfz2, nfz3, nfz4, nfz5, nfz6, nfz7⟩ := eight_cells HT2.out.zero))
  all_goals
    go_wp2_with fail
    exact ans_ret (x := anP (Ps.trimE pg) 0 noS ue) (ao := none) (cap := 0) rfl (HT2.out.put 0 (.int .i64 (Ps.trimE pg))).fin.1 rfl rfl ⟨rfl, (HT2.out.put 0 (.int .i64 (Ps.trimE pg))).fin.2⟩
end Go.Proofs.YtphigibhgldnpaaGreat
