/- What the document's own sequencer answers a question, and is behind it. Conditions: it and the question lie where the call was told. (Written by gen/genord.py.) What the statements' own small functions LargeAsk and Answer return. Conditions: what is handed over lies where the call was told; the two answers are alike. What the laws of the sequencer ask of the program's functions: each one's contract, as a statement (proved where the program is spoken of); that order is awake. No conditions but those that the statements name. -/
import Derived.Test.YtphigibhgldnpaaGreatG08b
import Derived.Deep.RegionHeld3
import Derived.Deep.RegionHeldLaw
import Derived.Test.YtphigibhgldnpaaGreatG07b
set_option linter.unusedVariables false
namespace Go.Proofs.YtphigibhgldnpaaGreat
set_option linter.unusedVariables false
open Go.RowKit
set_option maxRecDepth 20000
set_option maxHeartbeats 8000000 in
theorem odo_next_other (r : Nat) (G : Nat → Prop) (w : World) (o : Od) (a : Ak) (h : RO r G w o) (hk : a.kind = 6) (he : a.epoch ≠ o.epoch) :
    Calls Tryz.prog 25 #[ptrO r, askV a] w fun e w' => e = .returned (ansV (o.ans a) none 0) ∧ Leaves (RO r) G w w' (o.done a) := by
  have ha : o.ans a = anP 40 0 noT o.epoch := by
    unfold Od.ans; rw [if_neg (by omega), if_pos (by omega), if_pos he]
  have hd : o.done a = o := by
    unfold Od.done; rw [if_neg (fun h => by have := h.1; omega), if_neg (fun h => by exact he h.2.1)]
  rw [ha, hd]
  clear ha hd
  obtain ⟨k, un, ep, pg, sz, n, s, pe, L, ao, cap⟩ := a
  obtain ⟨oe, ot, ok⟩ := o
  simp only at *
  have HS := Lib.hid (show OdW w (((w.alloc (.cells #[.int .i64 k, .int .i64 un, .int .i64 ep, .int .i64 pg, .int .i64 sz, .int .i64 n, .string s, .int .i64 pe, .slice ao L.length cap] 42)).alloc (.cells #[.int .i64 0, .int .i64 0, .string ⟨#[]⟩, .int .i64 0, .slice none 0 0, .int .i64 0, .int .i64 0, .int .i64 0] 39)).alloc (.cells #[.int .i64 0, .int .i64 0, .string ⟨#[]⟩, .int .i64 0, .slice none 0 0, .int .i64 0, .int .i64 0, .int .i64 oe] 39)) r ⟨oe, ot, ok⟩ ⟨k, un, ep, pg, sz, n, s, pe, L, ao, cap⟩ #[.int .i64 0, .int .i64 0, .string ⟨#[]⟩, .int .i64 0, .slice none 0 0, .int .i64 0, .int .i64 0, .int .i64 oe] from od_start h ⟨k, un, ep, pg, sz, n, s, pe, L, ao, cap⟩ #[.int .i64 0, .int .i64 0, .string ⟨#[]⟩, .int .i64 0, .slice none 0 0, .int .i64 0, .int .i64 0, .int .i64 oe])
  have d8 : (k == 8) = false := beq_eq_false_iff_ne.2 (by omega)
  have d6 : (k == 6) = true := by rw [hk]; rfl
  have d7 : (k == 7) = false := beq_eq_false_iff_ne.2 (by omega)
  clear hk
  have de : (ep != oe) = true := bne_iff_ne.2 he
  clear he
  have HR := Lib.hid h
  have HOK := Lib.hid h.1
  have HG := Lib.hid h.2.2
  obtain ⟨h0, h1, h2⟩ := h
  simp only at h1
  have hlt := lt_of_block h1
  obtain ⟨c0, c1, c2, _⟩ := three_cells h1
  clear h0 h1 h2
  show Calls _ _ #[.pointer (some ⟨r, 0, none⟩), .agg #[.int .i64 k, .int .i64 un, .int .i64 ep, .int .i64 pg, .int .i64 sz, .int .i64 n, .string s, .int .i64 pe, .slice ao L.length cap]] w _
  go_enter Tryz.func25, Tryz.ntmps25
  go_wp2_with fail
  generalize hW0 : ((w.alloc (.cells #[.int .i64 k, .int .i64 un, .int .i64 ep, .int .i64 pg, .int .i64 sz, .int .i64 n, .string s, .int .i64 pe, .slice ao L.length cap] 42)).alloc (.cells #[.int .i64 0, .int .i64 0, .string ⟨#[]⟩, .int .i64 0, .slice none 0 0, .int .i64 0, .int .i64 0, .int .i64 0] 39)).alloc (.cells #[.int .i64 0, .int .i64 0, .string ⟨#[]⟩, .int .i64 0, .slice none 0 0, .int .i64 0, .int .i64 0, .int .i64 oe] 39) = W0 at *
  clear c0 c1 c2 hlt hW0
  obtain ⟨l1, l2, l3, l4⟩ := HS.out.small
  have x2 : W0.cell? ⟨w.heap.size, 2, none⟩ = some (.int .i64 ep) := cell_of HS.out.ask 2
  obtain ⟨c0, c1, c2, _⟩ := three_cells HS.out.ob
  have hr := lt_of_block HS.out.ob
  have HSN := Lib.hid (fun n => HS.out.drewN n)
  clear HS
  go_quiet (fail)
  have HT := Lib.hid (HSN.out nq)
  generalize hW1 : World.drewN W0 nq = W1 at *
  clear hW1 HSN x2 c0 c1 c2 hr l1 l2 l3 l4
  obtain ⟨l1, l2, l3, l4⟩ := HT.out.small
  obtain ⟨⟨y0, y1, y2, y3, y4, y5, y6, y7⟩, fy0, fy1, fy2, fy3, fy4, fy5, fy6, fy7⟩ := eight_cells HT.out.ans
  obtain ⟨⟨z0, z1, z2, z3, z4, z5, z6, z7⟩, fz0, fz1, fz2, fz3, fz4, fz5, fz6, fz7⟩ := eight_cells HT.out.zero
  obtain ⟨c0, c1, c2, f0, f1, f2⟩ := three_cells HT.out.ob
  have x0 : W1.cell? ⟨w.heap.size, 0, none⟩ = some (.int .i64 k) := cell_of HT.out.ask 0
  have x2 : W1.cell? ⟨w.heap.size, 2, none⟩ = some (.int .i64 ep) := cell_of HT.out.ask 2
  have x3 : W1.cell? ⟨w.heap.size, 3, none⟩ = some (.int .i64 pg) := cell_of HT.out.ask 3
  go_wp2_with fail
  exact ans_ret (x := anP 40 0 noT oe) (ao := none) (cap := 0) rfl ((HT.out.put 0 (.int .i64 40)).fin HOK.out HG.out).1 rfl rfl ⟨rfl, ((HT.out.put 0 (.int .i64 40)).fin HOK.out HG.out).2⟩
set_option maxHeartbeats 8000000 in
theorem odo_next_dumb (r : Nat) (G : Nat → Prop) (w : World) (o : Od) (a : Ak) (h : RO r G w o) (hk : a.kind = 6) (he : a.epoch = o.epoch) (hn : o.knows = false) :
    Calls Tryz.prog 25 #[ptrO r, askV a] w fun e w' => e = .returned (ansV (o.ans a) none 0) ∧ Leaves (RO r) G w w' (o.done a) := by
  have ha : o.ans a = anP 47 0 noT o.epoch := by
    unfold Od.ans; rw [if_neg (by omega), if_pos (by omega), if_neg (fun h => h he), if_pos hn]
  have hd : o.done a = o := by
    unfold Od.done; rw [if_neg (fun h => by have := h.1; omega), if_neg (fun h => by rw [hn] at h; exact absurd h.2.2.1 (by decide))]
  rw [ha, hd]
  clear ha hd
  obtain ⟨k, un, ep, pg, sz, n, s, pe, L, ao, cap⟩ := a
  obtain ⟨oe, ot, ok⟩ := o
  simp only at *
  have HS := Lib.hid (show OdW w (((w.alloc (.cells #[.int .i64 k, .int .i64 un, .int .i64 ep, .int .i64 pg, .int .i64 sz, .int .i64 n, .string s, .int .i64 pe, .slice ao L.length cap] 42)).alloc (.cells #[.int .i64 0, .int .i64 0, .string ⟨#[]⟩, .int .i64 0, .slice none 0 0, .int .i64 0, .int .i64 0, .int .i64 0] 39)).alloc (.cells #[.int .i64 0, .int .i64 0, .string ⟨#[]⟩, .int .i64 0, .slice none 0 0, .int .i64 0, .int .i64 0, .int .i64 oe] 39)) r ⟨oe, ot, ok⟩ ⟨k, un, ep, pg, sz, n, s, pe, L, ao, cap⟩ #[.int .i64 0, .int .i64 0, .string ⟨#[]⟩, .int .i64 0, .slice none 0 0, .int .i64 0, .int .i64 0, .int .i64 oe] from od_start h ⟨k, un, ep, pg, sz, n, s, pe, L, ao, cap⟩ #[.int .i64 0, .int .i64 0, .string ⟨#[]⟩, .int .i64 0, .slice none 0 0, .int .i64 0, .int .i64 0, .int .i64 oe])
  have d8 : (k == 8) = false := beq_eq_false_iff_ne.2 (by omega)
  have d6 : (k == 6) = true := by rw [hk]; rfl
  have d7 : (k == 7) = false := beq_eq_false_iff_ne.2 (by omega)
  clear hk
  have de : (ep != oe) = false := bne_eq_false_iff_eq.2 he
  clear he
  subst hn
  have HR := Lib.hid h
  have HOK := Lib.hid h.1
  have HG := Lib.hid h.2.2
  obtain ⟨h0, h1, h2⟩ := h
  simp only at h1
  have hlt := lt_of_block h1
  obtain ⟨c0, c1, c2, _⟩ := three_cells h1
  clear h0 h1 h2
  show Calls _ _ #[.pointer (some ⟨r, 0, none⟩), .agg #[.int .i64 k, .int .i64 un, .int .i64 ep, .int .i64 pg, .int .i64 sz, .int .i64 n, .string s, .int .i64 pe, .slice ao L.length cap]] w _
  go_enter Tryz.func25, Tryz.ntmps25
  go_wp2_with fail
  generalize hW0 : ((w.alloc (.cells #[.int .i64 k, .int .i64 un, .int .i64 ep, .int .i64 pg, .int .i64 sz, .int .i64 n, .string s, .int .i64 pe, .slice ao L.length cap] 42)).alloc (.cells #[.int .i64 0, .int .i64 0, .string ⟨#[]⟩, .int .i64 0, .slice none 0 0, .int .i64 0, .int .i64 0, .int .i64 0] 39)).alloc (.cells #[.int .i64 0, .int .i64 0, .string ⟨#[]⟩, .int .i64 0, .slice none 0 0, .int .i64 0, .int .i64 0, .int .i64 oe] 39) = W0 at *
  clear c0 c1 c2 hlt hW0
  obtain ⟨l1, l2, l3, l4⟩ := HS.out.small
  have x2 : W0.cell? ⟨w.heap.size, 2, none⟩ = some (.int .i64 ep) := cell_of HS.out.ask 2
  obtain ⟨c0, c1, c2, _⟩ := three_cells HS.out.ob
  have hr := lt_of_block HS.out.ob
  have HSN := Lib.hid (fun n => HS.out.drewN n)
  clear HS
  go_quiet (fail)
  have HT := Lib.hid (HSN.out nq)
  generalize hW1 : World.drewN W0 nq = W1 at *
  clear hW1 HSN x2 c0 c1 c2 hr l1 l2 l3 l4
  obtain ⟨l1, l2, l3, l4⟩ := HT.out.small
  obtain ⟨⟨y0, y1, y2, y3, y4, y5, y6, y7⟩, fy0, fy1, fy2, fy3, fy4, fy5, fy6, fy7⟩ := eight_cells HT.out.ans
  obtain ⟨⟨z0, z1, z2, z3, z4, z5, z6, z7⟩, fz0, fz1, fz2, fz3, fz4, fz5, fz6, fz7⟩ := eight_cells HT.out.zero
  obtain ⟨c0, c1, c2, f0, f1, f2⟩ := three_cells HT.out.ob
  have x0 : W1.cell? ⟨w.heap.size, 0, none⟩ = some (.int .i64 k) := cell_of HT.out.ask 0
  have x2 : W1.cell? ⟨w.heap.size, 2, none⟩ = some (.int .i64 ep) := cell_of HT.out.ask 2
  have x3 : W1.cell? ⟨w.heap.size, 3, none⟩ = some (.int .i64 pg) := cell_of HT.out.ask 3
  go_wp2_with fail
  exact ans_ret (x := anP 47 0 noT oe) (ao := none) (cap := 0) rfl ((HT.out.put 0 (.int .i64 47)).fin HOK.out HG.out).1 rfl rfl ⟨rfl, ((HT.out.put 0 (.int .i64 47)).fin HOK.out HG.out).2⟩
set_option maxHeartbeats 8000000 in
theorem odo_tail_other (r : Nat) (G : Nat → Prop) (w : World) (o : Od) (a : Ak) (h : RO r G w o) (hk : a.kind = 7) (he : a.epoch ≠ o.epoch) :
    Calls Tryz.prog 25 #[ptrO r, askV a] w fun e w' => e = .returned (ansV (o.ans a) none 0) ∧ Leaves (RO r) G w w' (o.done a) := by
  have ha : o.ans a = anP 40 0 noT o.epoch := by
    unfold Od.ans; rw [if_neg (by omega), if_pos (by omega), if_pos he]
  have hd : o.done a = o := by
    unfold Od.done; rw [if_neg (fun h => by have := h.1; omega), if_neg (fun h => by have := h.1; omega)]
  rw [ha, hd]
  clear ha hd
  obtain ⟨k, un, ep, pg, sz, n, s, pe, L, ao, cap⟩ := a
  obtain ⟨oe, ot, ok⟩ := o
  simp only at *
  have HS := Lib.hid (show OdW w (((w.alloc (.cells #[.int .i64 k, .int .i64 un, .int .i64 ep, .int .i64 pg, .int .i64 sz, .int .i64 n, .string s, .int .i64 pe, .slice ao L.length cap] 42)).alloc (.cells #[.int .i64 0, .int .i64 0, .string ⟨#[]⟩, .int .i64 0, .slice none 0 0, .int .i64 0, .int .i64 0, .int .i64 0] 39)).alloc (.cells #[.int .i64 0, .int .i64 0, .string ⟨#[]⟩, .int .i64 0, .slice none 0 0, .int .i64 0, .int .i64 0, .int .i64 oe] 39)) r ⟨oe, ot, ok⟩ ⟨k, un, ep, pg, sz, n, s, pe, L, ao, cap⟩ #[.int .i64 0, .int .i64 0, .string ⟨#[]⟩, .int .i64 0, .slice none 0 0, .int .i64 0, .int .i64 0, .int .i64 oe] from od_start h ⟨k, un, ep, pg, sz, n, s, pe, L, ao, cap⟩ #[.int .i64 0, .int .i64 0, .string ⟨#[]⟩, .int .i64 0, .slice none 0 0, .int .i64 0, .int .i64 0, .int .i64 oe])
  have d8 : (k == 8) = false := beq_eq_false_iff_ne.2 (by omega)
  have d6 : (k == 6) = false := beq_eq_false_iff_ne.2 (by omega)
  have d7 : (k == 7) = true := by rw [hk]; rfl
  clear hk
  have de : (ep != oe) = true := bne_iff_ne.2 he
  clear he
  have HR := Lib.hid h
  have HOK := Lib.hid h.1
  have HG := Lib.hid h.2.2
  obtain ⟨h0, h1, h2⟩ := h
  simp only at h1
  have hlt := lt_of_block h1
  obtain ⟨c0, c1, c2, _⟩ := three_cells h1
  clear h0 h1 h2
  show Calls _ _ #[.pointer (some ⟨r, 0, none⟩), .agg #[.int .i64 k, .int .i64 un, .int .i64 ep, .int .i64 pg, .int .i64 sz, .int .i64 n, .string s, .int .i64 pe, .slice ao L.length cap]] w _
  go_enter Tryz.func25, Tryz.ntmps25
  go_wp2_with fail
  generalize hW0 : ((w.alloc (.cells #[.int .i64 k, .int .i64 un, .int .i64 ep, .int .i64 pg, .int .i64 sz, .int .i64 n, .string s, .int .i64 pe, .slice ao L.length cap] 42)).alloc (.cells #[.int .i64 0, .int .i64 0, .string ⟨#[]⟩, .int .i64 0, .slice none 0 0, .int .i64 0, .int .i64 0, .int .i64 0] 39)).alloc (.cells #[.int .i64 0, .int .i64 0, .string ⟨#[]⟩, .int .i64 0, .slice none 0 0, .int .i64 0, .int .i64 0, .int .i64 oe] 39) = W0 at *
  clear c0 c1 c2 hlt hW0
  obtain ⟨l1, l2, l3, l4⟩ := HS.out.small
  have x2 : W0.cell? ⟨w.heap.size, 2, none⟩ = some (.int .i64 ep) := cell_of HS.out.ask 2
  obtain ⟨c0, c1, c2, _⟩ := three_cells HS.out.ob
  have hr := lt_of_block HS.out.ob
  have HSN := Lib.hid (fun n => HS.out.drewN n)
  clear HS
  go_quiet (fail)
  have HT := Lib.hid (HSN.out nq)
  generalize hW1 : World.drewN W0 nq = W1 at *
  clear hW1 HSN x2 c0 c1 c2 hr l1 l2 l3 l4
  obtain ⟨l1, l2, l3, l4⟩ := HT.out.small
  obtain ⟨⟨y0, y1, y2, y3, y4, y5, y6, y7⟩, fy0, fy1, fy2, fy3, fy4, fy5, fy6, fy7⟩ := eight_cells HT.out.ans
  obtain ⟨⟨z0, z1, z2, z3, z4, z5, z6, z7⟩, fz0, fz1, fz2, fz3, fz4, fz5, fz6, fz7⟩ := eight_cells HT.out.zero
  obtain ⟨c0, c1, c2, f0, f1, f2⟩ := three_cells HT.out.ob
  have x0 : W1.cell? ⟨w.heap.size, 0, none⟩ = some (.int .i64 k) := cell_of HT.out.ask 0
  have x2 : W1.cell? ⟨w.heap.size, 2, none⟩ = some (.int .i64 ep) := cell_of HT.out.ask 2
  have x3 : W1.cell? ⟨w.heap.size, 3, none⟩ = some (.int .i64 pg) := cell_of HT.out.ask 3
  go_wp2_with fail
  exact ans_ret (x := anP 40 0 noT oe) (ao := none) (cap := 0) rfl ((HT.out.put 0 (.int .i64 40)).fin HOK.out HG.out).1 rfl rfl ⟨rfl, ((HT.out.put 0 (.int .i64 40)).fin HOK.out HG.out).2⟩
set_option maxHeartbeats 8000000 in
theorem odo_tail_dumb (r : Nat) (G : Nat → Prop) (w : World) (o : Od) (a : Ak) (h : RO r G w o) (hk : a.kind = 7) (he : a.epoch = o.epoch) (hn : o.knows = false) :
    Calls Tryz.prog 25 #[ptrO r, askV a] w fun e w' => e = .returned (ansV (o.ans a) none 0) ∧ Leaves (RO r) G w w' (o.done a) := by
  have ha : o.ans a = anP 47 0 noT o.epoch := by
    unfold Od.ans; rw [if_neg (by omega), if_pos (by omega), if_neg (fun h => h he), if_pos hn]
  have hd : o.done a = o := by
    unfold Od.done; rw [if_neg (fun h => by have := h.1; omega), if_neg (fun h => by have := h.1; omega)]
  rw [ha, hd]
  clear ha hd
  obtain ⟨k, un, ep, pg, sz, n, s, pe, L, ao, cap⟩ := a
  obtain ⟨oe, ot, ok⟩ := o
  simp only at *
  have HS := Lib.hid (show OdW w (((w.alloc (.cells #[.int .i64 k, .int .i64 un, .int .i64 ep, .int .i64 pg, .int .i64 sz, .int .i64 n, .string s, .int .i64 pe, .slice ao L.length cap] 42)).alloc (.cells #[.int .i64 0, .int .i64 0, .string ⟨#[]⟩, .int .i64 0, .slice none 0 0, .int .i64 0, .int .i64 0, .int .i64 0] 39)).alloc (.cells #[.int .i64 0, .int .i64 0, .string ⟨#[]⟩, .int .i64 0, .slice none 0 0, .int .i64 0, .int .i64 0, .int .i64 oe] 39)) r ⟨oe, ot, ok⟩ ⟨k, un, ep, pg, sz, n, s, pe, L, ao, cap⟩ #[.int .i64 0, .int .i64 0, .string ⟨#[]⟩, .int .i64 0, .slice none 0 0, .int .i64 0, .int .i64 0, .int .i64 oe] from od_start h ⟨k, un, ep, pg, sz, n, s, pe, L, ao, cap⟩ #[.int .i64 0, .int .i64 0, .string ⟨#[]⟩, .int .i64 0, .slice none 0 0, .int .i64 0, .int .i64 0, .int .i64 oe])
  have d8 : (k == 8) = false := beq_eq_false_iff_ne.2 (by omega)
  have d6 : (k == 6) = false := beq_eq_false_iff_ne.2 (by omega)
  have d7 : (k == 7) = true := by rw [hk]; rfl
  clear hk
  have de : (ep != oe) = false := bne_eq_false_iff_eq.2 he
  clear he
  subst hn
  have HR := Lib.hid h
  have HOK := Lib.hid h.1
  have HG := Lib.hid h.2.2
  obtain ⟨h0, h1, h2⟩ := h
  simp only at h1
  have hlt := lt_of_block h1
  obtain ⟨c0, c1, c2, _⟩ := three_cells h1
  clear h0 h1 h2
  show Calls _ _ #[.pointer (some ⟨r, 0, none⟩), .agg #[.int .i64 k, .int .i64 un, .int .i64 ep, .int .i64 pg, .int .i64 sz, .int .i64 n, .string s, .int .i64 pe, .slice ao L.length cap]] w _
  go_enter Tryz.func25, Tryz.ntmps25
  go_wp2_with fail
  generalize hW0 : ((w.alloc (.cells #[.int .i64 k, .int .i64 un, .int .i64 ep, .int .i64 pg, .int .i64 sz, .int .i64 n, .string s, .int .i64 pe, .slice ao L.length cap] 42)).alloc (.cells #[.int .i64 0, .int .i64 0, .string ⟨#[]⟩, .int .i64 0, .slice none 0 0, .int .i64 0, .int .i64 0, .int .i64 0] 39)).alloc (.cells #[.int .i64 0, .int .i64 0, .string ⟨#[]⟩, .int .i64 0, .slice none 0 0, .int .i64 0, .int .i64 0, .int .i64 oe] 39) = W0 at *
  clear c0 c1 c2 hlt hW0
  obtain ⟨l1, l2, l3, l4⟩ := HS.out.small
  have x2 : W0.cell? ⟨w.heap.size, 2, none⟩ = some (.int .i64 ep) := cell_of HS.out.ask 2
  obtain ⟨c0, c1, c2, _⟩ := three_cells HS.out.ob
  have hr := lt_of_block HS.out.ob
  have HSN := Lib.hid (fun n => HS.out.drewN n)
  clear HS
  go_quiet (fail)
  have HT := Lib.hid (HSN.out nq)
  generalize hW1 : World.drewN W0 nq = W1 at *
  clear hW1 HSN x2 c0 c1 c2 hr l1 l2 l3 l4
  obtain ⟨l1, l2, l3, l4⟩ := HT.out.small
  obtain ⟨⟨y0, y1, y2, y3, y4, y5, y6, y7⟩, fy0, fy1, fy2, fy3, fy4, fy5, fy6, fy7⟩ := eight_cells HT.out.ans
  obtain ⟨⟨z0, z1, z2, z3, z4, z5, z6, z7⟩, fz0, fz1, fz2, fz3, fz4, fz5, fz6, fz7⟩ := eight_cells HT.out.zero
  obtain ⟨c0, c1, c2, f0, f1, f2⟩ := three_cells HT.out.ob
  have x0 : W1.cell? ⟨w.heap.size, 0, none⟩ = some (.int .i64 k) := cell_of HT.out.ask 0
  have x2 : W1.cell? ⟨w.heap.size, 2, none⟩ = some (.int .i64 ep) := cell_of HT.out.ask 2
  have x3 : W1.cell? ⟨w.heap.size, 3, none⟩ = some (.int .i64 pg) := cell_of HT.out.ask 3
  go_wp2_with fail
  exact ans_ret (x := anP 47 0 noT oe) (ao := none) (cap := 0) rfl ((HT.out.put 0 (.int .i64 47)).fin HOK.out HG.out).1 rfl rfl ⟨rfl, ((HT.out.put 0 (.int .i64 47)).fin HOK.out HG.out).2⟩
end Go.Proofs.YtphigibhgldnpaaGreat
namespace Go.Proofs.YtphigibhgldnpaaGreat
set_option linter.unusedVariables false
open Go.RowKit
set_option maxRecDepth 20000
/-- is a question too large to be gone through? -/
def largeA (a : Ak) : Bool := decide (6000 < a.data.size) || largeB a.L
theorem largeA_no {a : Ak} (h : largeA a = false) : a.data.size ≤ 6000 ∧ a.L.length ≤ 50 ∧ ∀ c ∈ a.L, c.length ≤ 50 := by
  unfold largeA at h
  rw [Bool.or_eq_false_iff] at h
  have h1 := of_decide_eq_false h.1
  exact ⟨by omega, largeB_no h.2⟩
set_option maxHeartbeats 2000000 in
theorem largeAsk_any (a : Ak) (w : World) (h : AkIn w a) :
    Calls Tryz.prog 14 #[askV a] w fun e w' => e = .returned (.bool (largeA a)) ∧ Below w.heap.size w w' := by
  obtain ⟨⟨_, _, _, _, _, _, hd, _, hl, hm, _, _⟩, hC⟩ := h
  obtain ⟨k, u, ep, pg, sz, n, s, pe, L, ao, cap⟩ := a
  simp only at hd hl hm hC
  have HB0 := Lib.hid ((Below.refl w.heap.size w).alloc (Nat.le_refl _) (.cells #[.int .i64 k, .int .i64 u, .int .i64 ep, .int .i64 pg, .int .i64 sz, .int .i64 n, .string s, .int .i64 pe, .slice ao L.length cap] 42))
  have CL1 := Lib.hid (large_any pe ao cap L _ (hC.below HB0.out) hl hm)
  unfold maxLen at hd
  have hs' : (s.size : Int) ≤ 9223372036854775807 := by omega
  show Calls _ _ #[.agg #[.int .i64 k, .int .i64 u, .int .i64 ep, .int .i64 pg, .int .i64 sz, .int .i64 n, .string s, .int .i64 pe, .slice ao L.length cap]] w _
  by_cases hb : 6000 < s.size
  · have hb' : (6000 : Int) < (s.size : Int) := by omega
    rw [show largeA ⟨k, u, ep, pg, sz, n, s, pe, L, ao, cap⟩ = true from by unfold largeA; rw [decide_eq_true hb]; rfl]
    clear hl hm hC hd hb
    go_enter Tryz.func14, Tryz.ntmps14
    go_wp2_with fail
    go_ret
    exact ⟨rfl, HB0.out⟩
  · have hb' : decide ((6000 : Int) < (s.size : Int)) = false := decide_eq_false (by omega)
    rw [show largeA ⟨k, u, ep, pg, sz, n, s, pe, L, ao, cap⟩ = largeB L from by unfold largeA; rw [decide_eq_false hb]; rfl]
    clear hl hm hC hd hb
    go_enter Tryz.func14, Tryz.ntmps14
    go_wp2_with (go_at_call 4; refine CL1.out.mono ?_; rintro e w1 ⟨rfl, hb1⟩)
    go_ret
    exact ⟨rfl, HB0.out.trans (hb1.mono HB0.out.size)⟩
set_option maxHeartbeats 4000000 in
theorem answer_same (x : An) (ao bo : Option Addr) (ca cb : Nat) (w : World) (hA : CL w ao x.L) (hB : CL w bo x.L) (hl : x.L.length ≤ 1000000 ∧ ∀ c ∈ x.L, c.length ≤ 1000000) :
    Calls Tryz.prog 10 #[ansV x ao ca, ansV x bo cb] w fun e w' => e = .returned (.bool true) ∧ Below w.heap.size w w' := by
  obtain ⟨c, n, s, pe, L, mk, sz, ep⟩ := x
  simp only at hA hB hl
  have HB0 := Lib.hid (((Below.refl w.heap.size w).alloc (Nat.le_refl _) (.cells #[.int .i64 c, .int .i64 n, .string s, .int .i64 pe, .slice ao L.length ca, .int .i64 mk, .int .i64 sz, .int .i64 ep] 39)).alloc (by simp) (.cells #[.int .i64 c, .int .i64 n, .string s, .int .i64 pe, .slice bo L.length cb, .int .i64 mk, .int .i64 sz, .int .i64 ep] 39))
  have CP := Lib.hid (keepProj_any pe ao ca L pe bo cb L _ (hA.below HB0.out) (hB.below HB0.out) hl hl)
  have HS := Lib.hid (show sameP pe L pe L = true from decide_eq_true ⟨rfl, rfl⟩)
  rw [HS.out] at CP
  have HX := Lib.hid (two_blocks w #[.int .i64 c, .int .i64 n, .string s, .int .i64 pe, .slice ao L.length ca, .int .i64 mk, .int .i64 sz, .int .i64 ep] #[.int .i64 c, .int .i64 n, .string s, .int .i64 pe, .slice bo L.length cb, .int .i64 mk, .int .i64 sz, .int .i64 ep] 39 39)
  clear hA hB hl
  show Calls _ _ #[.agg #[.int .i64 c, .int .i64 n, .string s, .int .i64 pe, .slice ao L.length ca, .int .i64 mk, .int .i64 sz, .int .i64 ep], .agg #[.int .i64 c, .int .i64 n, .string s, .int .i64 pe, .slice bo L.length cb, .int .i64 mk, .int .i64 sz, .int .i64 ep]] w _
  go_enter Tryz.func10, Tryz.ntmps10
  go_wp2_with (go_at_call 26; refine CP.out.mono ?_; rintro e w1 ⟨rfl, hb1⟩; have X1 := below_heap hb1 HX.out.1; have X2 := below_heap hb1 HX.out.2; have HB1 := Lib.hid (HB0.out.trans (hb1.mono HB0.out.size)); have a5 := cell_of X1 5; have a6 := cell_of X1 6; have a7 := cell_of X1 7; have b5 := cell_of X2 5; have b6 := cell_of X2 6; have b7 := cell_of X2 7; clear X1 X2 hb1)
  go_ret
  exact ⟨rfl, HB1.out⟩
end Go.Proofs.YtphigibhgldnpaaGreat
namespace Go.Proofs.YtphigibhgldnpaaGreat
set_option linter.unusedVariables false
open Go.RowKit
set_option maxRecDepth 20000
/-- OG b G w o: in world w block b is the program's sequencer o; it and all that it owns lie in G. The program's functions return what is said here -/
structure OrderSays (OG : Nat → (Nat → Prop) → World → Od → Prop) : Prop where
  thing : ∀ b, Thing (OG b)
  ok : ∀ {b : Nat} {G : Nat → Prop} {w : World} {o : Od}, OG b G w o → o.Ok
  new : ∀ (w : World), Calls Tryz.prog 19 #[] w fun e w' => ∃ (b : Nat) (G : Nat → Prop), e = .returned (ptrO b) ∧ OG b G w' newO ∧ (∀ k, G k → w.heap.size ≤ k) ∧ Below w.heap.size w w'
  ask : ∀ (b : Nat) (G : Nat → Prop) (w : World) (o : Od) (a : Ak), OG b G w o → AkIn w a → Calls Tryz.prog 21 #[ptrO b, askV a] w fun e w' => e = .returned (anW (o.ans a).code (o.ans a).n (o.ans a).data (o.ans a).epoch) ∧ Leaves (OG b) G w w' (o.done a)
  epoch : ∀ (b : Nat) (G : Nat → Prop) (w : World) (o : Od), OG b G w o → Calls Tryz.prog 40 #[ptrO b] w fun e w' => e = .returned (.int .i64 o.epoch) ∧ Below w.heap.size w w'
  knows : ∀ (b : Nat) (G : Nat → Prop) (w : World) (o : Od), OG b G w o → Calls Tryz.prog 41 #[ptrO b] w fun e w' => e = .returned (.bool o.knows) ∧ Below w.heap.size w w'
section
variable {OG : Nat → (Nat → Prop) → World → Od → Prop} {X : Nat → Prop} {w : World} {b : Nat} {o : Od}
theorem o_new (HS : OrderSays OG) (w : World) : Calls Tryz.prog 19 #[] w fun e w' => ∃ b, e = .returned (ptrO b) ∧ Solo (OG b) (fun k => k < w.heap.size) w' newO ∧ Below w.heap.size w w' := by
  refine (HS.new w).mono ?_
  rintro e w' ⟨b, G, he, h1, h2, h3⟩
  exact ⟨b, he, ⟨fun k hk => Nat.lt_of_lt_of_le hk h3.size, G, h1, fun k hk hg => by have := h2 k hg; omega⟩, h3⟩
theorem o_ask (HS : OrderSays OG) (h : Solo (OG b) X w o) {a : Ak} (ha : AkIn w a) : Calls Tryz.prog 21 #[ptrO b, askV a] w fun e w' => e = .returned (anW (o.ans a).code (o.ans a).n (o.ans a).data (o.ans a).epoch) ∧ Solo (OG b) X w' (o.done a) ∧ Kept X w w' :=
  solo_call (R := fun e => e = .returned (anW (o.ans a).code (o.ans a).n (o.ans a).data (o.ans a).epoch)) (HS.thing b) h (fun F hF => HS.ask b F w o a hF ha)
theorem o_look {v : Value} {fn : FuncId} {args : Array Value} (HS : OrderSays OG) (h : Solo (OG b) X w o) (hc : ∀ G : Nat → Prop, OG b G w o → Calls Tryz.prog fn args w fun e w' => e = .returned v ∧ Below w.heap.size w w') : Calls Tryz.prog fn args w fun e w' => e = .returned v ∧ Solo (OG b) X w' o ∧ Kept X w w' := by
  obtain ⟨F, hF, _⟩ := h.2
  refine (hc F hF).mono ?_
  rintro e w' ⟨he, hb⟩
  exact ⟨he, h.below (HS.thing b) hb, Kept.ofBelow hb X⟩
end
/-- a question without a projection and without data -/
def akO (kind epoch page : Int) : Ak := ⟨kind, 0, epoch, page, 0, 0, ⟨#[]⟩, 0, [], none, 0⟩
theorem akO_in (w : World) {k e p : Int} (hk : i64w k) (he : i64w e) (hp : i64w p) : AkIn w (akO k e p) :=
  ⟨⟨hk, WalkArith.wf_i64 (n := 0) (by decide), he, hp, WalkArith.wf_i64 (n := 0) (by decide), WalkArith.wf_i64 (n := 0) (by decide), Nat.zero_le _, WalkArith.wf_i64 (n := 0) (by decide), Nat.zero_le _, (fun c hc => by cases hc), fun _ => rfl, Nat.le_refl _⟩, CL.nil _ _⟩
theorem i64w_near {x : Int} (h : -1000000000000 ≤ x ∧ x ≤ 1000000000000) : i64w x := WalkArith.wf_i64 (by omega)
theorem o_askO {OG : Nat → (Nat → Prop) → World → Od → Prop} {X : Nat → Prop} {w : World} {b : Nat} {o : Od} (HS : OrderSays OG) (h : Solo (OG b) X w o) {k e p : Int} (hk : i64w k) (he : i64w e) (hp : i64w p) :
    Calls Tryz.prog 21 #[.pointer (some ⟨b, 0, none⟩), .agg #[.int .i64 k, .int .i64 0, .int .i64 e, .int .i64 p, .int .i64 0, .int .i64 0, .string ⟨#[]⟩, .int .i64 0, .slice none 0 0]] w fun e2 w' =>
      e2 = .returned (.agg #[.int .i64 (o.ans (akO k e p)).code, .int .i64 (o.ans (akO k e p)).n, .string (o.ans (akO k e p)).data, .int .i64 0, .slice none 0 0, .int .i64 0, .int .i64 0, .int .i64 (o.ans (akO k e p)).epoch]) ∧ Solo (OG b) X w' (o.done (akO k e p)) ∧ Kept X w w' :=
  o_ask HS h (a := akO k e p) (akO_in w hk he hp)
/-- the laws' example -/
def exO1 : Od := newO.done (akO 8 0 5)
def exO2 : Od := exO1.done (akO 6 0 0)
def exO3 : Od := exO2.done (akO 7 0 0)
def exO4 : Od := ⟨exO3.epoch, exO3.tail, false⟩
theorem exO_facts : (newO.ans (akO 8 0 5)).code = 0 ∧ (exO1.ans (akO 6 0 0)).n = 5 ∧ (exO2.ans (akO 7 0 0)).n = 6 ∧ (exO4.ans (akO 6 0 0)).code = 47 ∧ (exO4.done (akO 6 0 0)).knows = false := by decide +kernel
end Go.Proofs.YtphigibhgldnpaaGreat
