/- What the document's own sequencer answers a question, and is behind it. Conditions: it and the question lie where the call was told. (Written by gen/genord.py.) What the document's own sequencer answers a question, and is behind it. Conditions: it and the question lie where the call was told. (Written by gen/genord.py.) What the statements' own small functions LargeAsk and Answer return. Conditions: what is handed over lies where the call was told; the two answers are alike. The document's own unit in memory, and what its New makes. No conditions but those that the statements name. Plain facts on a hand: what becomes of questions of each fate, of those that are held. No conditions. What the laws of the sequencer ask of the program's functions: each one's contract, as a statement (proved where the program is spoken of); that order is awake. No conditions but those that the statements name. -/
import Derived.Test.YthffjanidjjkdaaGreatG08b
import Derived.Deep.RegionHeld3
import Derived.Deep.RegionHeldLaw
import Derived.Test.YthffjanidjjkdaaGreatG07a
import Derived.Test.YthffjanidjjkdaaGreatG03a
import Derived.Test.YthffjanidjjkdaaGreatG08a
set_option linter.unusedVariables false
namespace Go.Proofs.YthffjanidjjkdaaGreat
set_option linter.unusedVariables false
open Go.RowKit
set_option maxRecDepth 20000
set_option maxHeartbeats 8000000 in
theorem odo_next_other (r : Nat) (G : Nat → Prop) (w : World) (o : Od) (a : Ak) (h : RO r G w o) (hk : a.kind = 6) (he : a.epoch ≠ o.epoch) :
    Calls Tryz.prog 56 #[ptrO r, askV a] w fun e w' => e = .returned (ansV (o.ans a) none 0) ∧ Leaves (RO r) G w w' (o.done a) := by
  have ha : o.ans a = anP 40 0 noT o.epoch := by
    unfold Od.ans; rw [if_neg (by omega), if_pos (by omega), if_pos he]
  have hd : o.done a = o := by
    unfold Od.done; rw [if_neg (fun h => by have := h.1; omega), if_neg (fun h => by exact he h.2.1)]
  rw [ha, hd]
  clear ha hd
  obtain ⟨k, un, ep, pg, sz, n, s, pe, L, ao, cap⟩ := a
  obtain ⟨oe, ot, ok⟩ := o
  simp only at *
  have HS := Lib.hid (show OdW w (((w.alloc (.cells #[.int .i64 k, .int .i64 un, .int .i64 ep, .int .i64 pg, .int .i64 sz, .int .i64 n, .string s, .int .i64 pe, .slice ao L.length cap] 62)).alloc (.cells #[.int .i64 0, .int .i64 0, .string ⟨#[]⟩, .int .i64 0, .slice none 0 0, .int .i64 0, .int .i64 0, .int .i64 0] 58)).alloc (.cells #[.int .i64 0, .int .i64 0, .string ⟨#[]⟩, .int .i64 0, .slice none 0 0, .int .i64 0, .int .i64 0, .int .i64 oe] 58)) r ⟨oe, ot, ok⟩ ⟨k, un, ep, pg, sz, n, s, pe, L, ao, cap⟩ #[.int .i64 0, .int .i64 0, .string ⟨#[]⟩, .int .i64 0, .slice none 0 0, .int .i64 0, .int .i64 0, .int .i64 oe] from od_start h ⟨k, un, ep, pg, sz, n, s, pe, L, ao, cap⟩ #[.int .i64 0, .int .i64 0, .string ⟨#[]⟩, .int .i64 0, .slice none 0 0, .int .i64 0, .int .i64 0, .int .i64 oe])
  have d8 : (k == 8) = false := beq_eq_false_iff_ne.2 (by omega)
  have d6 : (k == 6) = true := by rw [hk]; rfl
  have d7 : (k == 7) = false := beq_eq_false_iff_ne.2 (by omega)
  clear hk
  have de : (ep != oe) = true := bne_iff_ne.2 he
  clear he
  have HR := Lib.hid h
  have HOK := Lib.hid h.1
  have HG := Lib.hid h.2.2
  obtain ⟨h0, h1, h2⟩ := h
  simp only at h1
  have hlt := lt_of_block h1
  obtain ⟨c0, c1, c2, _⟩ := three_cells h1
  clear h0 h1 h2
  show Calls _ _ #[.pointer (some ⟨r, 0, none⟩), .agg #[.int .i64 k, .int .i64 un, .int .i64 ep, .int .i64 pg, .int .i64 sz, .int .i64 n, .string s, .int .i64 pe, .slice ao L.length cap]] w _
  go_enter Tryz.func56, Tryz.ntmps56
  go_wp2_with fail
  generalize hW0 : ((w.alloc (.cells #[.int .i64 k, .int .i64 un, .int .i64 ep, .int .i64 pg, .int .i64 sz, .int .i64 n, .string s, .int .i64 pe, .slice ao L.length cap] 62)).alloc (.cells #[.int .i64 0, .int .i64 0, .string ⟨#[]⟩, .int .i64 0, .slice none 0 0, .int .i64 0, .int .i64 0, .int .i64 0] 58)).alloc (.cells #[.int .i64 0, .int .i64 0, .string ⟨#[]⟩, .int .i64 0, .slice none 0 0, .int .i64 0, .int .i64 0, .int .i64 oe] 58) = W0 at *
  clear c0 c1 c2 hlt hW0
  obtain ⟨l1, l2, l3, l4⟩ := HS.out.small
  have x2 : W0.cell? ⟨w.heap.size, 2, none⟩ = some (.int .i64 ep) := cell_of HS.out.ask 2
  obtain ⟨c0, c1, c2, _⟩ := three_cells HS.out.ob
  have hr := lt_of_block HS.out.ob
  have HSN := Lib.hid (fun n => HS.out.drewN n)
  clear HS
  go_quiet (fail)
  have HT := Lib.hid (HSN.out nq)
  generalize hW1 : World.drewN W0 nq = W1 at *
  clear hW1 HSN x2 c0 c1 c2 hr l1 l2 l3 l4
  obtain ⟨l1, l2, l3, l4⟩ := HT.out.small
  obtain ⟨⟨y0, y1, y2, y3, y4, y5, y6, y7⟩, fy0, fy1, fy2, fy3, fy4, fy5, fy6, fy7⟩ := eight_cells HT.out.ans
  obtain ⟨⟨z0, z1, z2, z3, z4, z5, z6, z7⟩, fz0, fz1, fz2, fz3, fz4, fz5, fz6, fz7⟩ := eight_cells HT.out.zero
  obtain ⟨c0, c1, c2, f0, f1, f2⟩ := three_cells HT.out.ob
  have x0 : W1.cell? ⟨w.heap.size, 0, none⟩ = some (.int .i64 k) := cell_of HT.out.ask 0
  have x2 : W1.cell? ⟨w.heap.size, 2, none⟩ = some (.int .i64 ep) := cell_of HT.out.ask 2
  have x3 : W1.cell? ⟨w.heap.size, 3, none⟩ = some (.int .i64 pg) := cell_of HT.out.ask 3
  go_wp2_with fail
  exact ans_ret (x := anP 40 0 noT oe) (ao := none) (cap := 0) rfl ((HT.out.put 0 (.int .i64 40)).fin HOK.out HG.out).1 rfl rfl ⟨rfl, ((HT.out.put 0 (.int .i64 40)).fin HOK.out HG.out).2⟩
set_option maxHeartbeats 8000000 in
theorem odo_next_dumb (r : Nat) (G : Nat → Prop) (w : World) (o : Od) (a : Ak) (h : RO r G w o) (hk : a.kind = 6) (he : a.epoch = o.epoch) (hn : o.knows = false) :
    Calls Tryz.prog 56 #[ptrO r, askV a] w fun e w' => e = .returned (ansV (o.ans a) none 0) ∧ Leaves (RO r) G w w' (o.done a) := by
  have ha : o.ans a = anP 47 0 noT o.epoch := by
    unfold Od.ans; rw [if_neg (by omega), if_pos (by omega), if_neg (fun h => h he), if_pos hn]
  have hd : o.done a = o := by
    unfold Od.done; rw [if_neg (fun h => by have := h.1; omega), if_neg (fun h => by rw [hn] at h; exact absurd h.2.2.1 (by decide))]
  rw [ha, hd]
  clear ha hd
  obtain ⟨k, un, ep, pg, sz, n, s, pe, L, ao, cap⟩ := a
  obtain ⟨oe, ot, ok⟩ := o
  simp only at *
  have HS := Lib.hid (show OdW w (((w.alloc (.cells #[.int .i64 k, .int .i64 un, .int .i64 ep, .int .i64 pg, .int .i64 sz, .int .i64 n, .string s, .int .i64 pe, .slice ao L.length cap] 62)).alloc (.cells #[.int .i64 0, .int .i64 0, .string ⟨#[]⟩, .int .i64 0, .slice none 0 0, .int .i64 0, .int .i64 0, .int .i64 0] 58)).alloc (.cells #[.int .i64 0, .int .i64 0, .string ⟨#[]⟩, .int .i64 0, .slice none 0 0, .int .i64 0, .int .i64 0, .int .i64 oe] 58)) r ⟨oe, ot, ok⟩ ⟨k, un, ep, pg, sz, n, s, pe, L, ao, cap⟩ #[.int .i64 0, .int .i64 0, .string ⟨#[]⟩, .int .i64 0, .slice none 0 0, .int .i64 0, .int .i64 0, .int .i64 oe] from od_start h ⟨k, un, ep, pg, sz, n, s, pe, L, ao, cap⟩ #[.int .i64 0, .int .i64 0, .string ⟨#[]⟩, .int .i64 0, .slice none 0 0, .int .i64 0, .int .i64 0, .int .i64 oe])
  have d8 : (k == 8) = false := beq_eq_false_iff_ne.2 (by omega)
  have d6 : (k == 6) = true := by rw [hk]; rfl
  have d7 : (k == 7) = false := beq_eq_false_iff_ne.2 (by omega)
  clear hk
  have de : (ep != oe) = false := bne_eq_false_iff_eq.2 he
  clear he
  subst hn
  have HR := Lib.hid h
  have HOK := Lib.hid h.1
  have HG := Lib.hid h.2.2
  obtain ⟨h0, h1, h2⟩ := h
  simp only at h1
  have hlt := lt_of_block h1
  obtain ⟨c0, c1, c2, _⟩ := three_cells h1
  clear h0 h1 h2
  show Calls _ _ #[.pointer (some ⟨r, 0, none⟩), .agg #[.int .i64 k, .int .i64 un, .int .i64 ep, .int .i64 pg, .int .i64 sz, .int .i64 n, .string s, .int .i64 pe, .slice ao L.length cap]] w _
  go_enter Tryz.func56, Tryz.ntmps56
  go_wp2_with fail
  generalize hW0 : ((w.alloc (.cells #[.int .i64 k, .int .i64 un, .int .i64 ep, .int .i64 pg, .int .i64 sz, .int .i64 n, .string s, .int .i64 pe, .slice ao L.length cap] 62)).alloc (.cells #[.int .i64 0, .int .i64 0, .string ⟨#[]⟩, .int .i64 0, .slice none 0 0, .int .i64 0, .int .i64 0, .int .i64 0] 58)).alloc (.cells #[.int .i64 0, .int .i64 0, .string ⟨#[]⟩, .int .i64 0, .slice none 0 0, .int .i64 0, .int .i64 0, .int .i64 oe] 58) = W0 at *
  clear c0 c1 c2 hlt hW0
  obtain ⟨l1, l2, l3, l4⟩ := HS.out.small
  have x2 : W0.cell? ⟨w.heap.size, 2, none⟩ = some (.int .i64 ep) := cell_of HS.out.ask 2
  obtain ⟨c0, c1, c2, _⟩ := three_cells HS.out.ob
  have hr := lt_of_block HS.out.ob
  have HSN := Lib.hid (fun n => HS.out.drewN n)
  clear HS
  go_quiet (fail)
  have HT := Lib.hid (HSN.out nq)
  generalize hW1 : World.drewN W0 nq = W1 at *
  clear hW1 HSN x2 c0 c1 c2 hr l1 l2 l3 l4
  obtain ⟨l1, l2, l3, l4⟩ := HT.out.small
  obtain ⟨⟨y0, y1, y2, y3, y4, y5, y6, y7⟩, fy0, fy1, fy2, fy3, fy4, fy5, fy6, fy7⟩ := eight_cells HT.out.ans
  obtain ⟨⟨z0, z1, z2, z3, z4, z5, z6, z7⟩, fz0, fz1, fz2, fz3, fz4, fz5, fz6, fz7⟩ := eight_cells HT.out.zero
  obtain ⟨c0, c1, c2, f0, f1, f2⟩ := three_cells HT.out.ob
  have x0 : W1.cell? ⟨w.heap.size, 0, none⟩ = some (.int .i64 k) := cell_of HT.out.ask 0
  have x2 : W1.cell? ⟨w.heap.size, 2, none⟩ = some (.int .i64 ep) := cell_of HT.out.ask 2
  have x3 : W1.cell? ⟨w.heap.size, 3, none⟩ = some (.int .i64 pg) := cell_of HT.out.ask 3
  go_wp2_with fail
  exact ans_ret (x := anP 47 0 noT oe) (ao := none) (cap := 0) rfl ((HT.out.put 0 (.int .i64 47)).fin HOK.out HG.out).1 rfl rfl ⟨rfl, ((HT.out.put 0 (.int .i64 47)).fin HOK.out HG.out).2⟩
set_option maxHeartbeats 8000000 in
theorem odo_tail_other (r : Nat) (G : Nat → Prop) (w : World) (o : Od) (a : Ak) (h : RO r G w o) (hk : a.kind = 7) (he : a.epoch ≠ o.epoch) :
    Calls Tryz.prog 56 #[ptrO r, askV a] w fun e w' => e = .returned (ansV (o.ans a) none 0) ∧ Leaves (RO r) G w w' (o.done a) := by
  have ha : o.ans a = anP 40 0 noT o.epoch := by
    unfold Od.ans; rw [if_neg (by omega), if_pos (by omega), if_pos he]
  have hd : o.done a = o := by
    unfold Od.done; rw [if_neg (fun h => by have := h.1; omega), if_neg (fun h => by have := h.1; omega)]
  rw [ha, hd]
  clear ha hd
  obtain ⟨k, un, ep, pg, sz, n, s, pe, L, ao, cap⟩ := a
  obtain ⟨oe, ot, ok⟩ := o
  simp only at *
  have HS := Lib.hid (show OdW w (((w.alloc (.cells #[.int .i64 k, .int .i64 un, .int .i64 ep, .int .i64 pg, .int .i64 sz, .int .i64 n, .string s, .int .i64 pe, .slice ao L.length cap] 62)).alloc (.cells #[.int .i64 0, .int .i64 0, .string ⟨#[]⟩, .int .i64 0, .slice none 0 0, .int .i64 0, .int .i64 0, .int .i64 0] 58)).alloc (.cells #[.int .i64 0, .int .i64 0, .string ⟨#[]⟩, .int .i64 0, .slice none 0 0, .int .i64 0, .int .i64 0, .int .i64 oe] 58)) r ⟨oe, ot, ok⟩ ⟨k, un, ep, pg, sz, n, s, pe, L, ao, cap⟩ #[.int .i64 0, .int .i64 0, .string ⟨#[]⟩, .int .i64 0, .slice none 0 0, .int .i64 0, .int .i64 0, .int .i64 oe] from od_start h ⟨k, un, ep, pg, sz, n, s, pe, L, ao, cap⟩ #[.int .i64 0, .int .i64 0, .string ⟨#[]⟩, .int .i64 0, .slice none 0 0, .int .i64 0, .int .i64 0, .int .i64 oe])
  have d8 : (k == 8) = false := beq_eq_false_iff_ne.2 (by omega)
  have d6 : (k == 6) = false := beq_eq_false_iff_ne.2 (by omega)
  have d7 : (k == 7) = true := by rw [hk]; rfl
  clear hk
  have de : (ep != oe) = true := bne_iff_ne.2 he
  clear he
  have HR := Lib.hid h
  have HOK := Lib.hid h.1
  have HG := Lib.hid h.2.2
  obtain ⟨h0, h1, h2⟩ := h
  simp only at h1
  have hlt := lt_of_block h1
  obtain ⟨c0, c1, c2, _⟩ := three_cells h1
  clear h0 h1 h2
  show Calls _ _ #[.pointer (some ⟨r, 0, none⟩), .agg #[.int .i64 k, .int .i64 un, .int .i64 ep, .int .i64 pg, .int .i64 sz, .int .i64 n, .string s, .int .i64 pe, .slice ao L.length cap]] w _
  go_enter Tryz.func56, Tryz.ntmps56
  go_wp2_with fail
  generalize hW0 : ((w.alloc (.cells #[.int .i64 k, .int .i64 un, .int .i64 ep, .int .i64 pg, .int .i64 sz, .int .i64 n, .string s, .int .i64 pe, .slice ao L.length cap] 62)).alloc (.cells #[.int .i64 0, .int .i64 0, .string ⟨#[]⟩, .int .i64 0, .slice none 0 0, .int .i64 0, .int .i64 0, .int .i64 0] 58)).alloc (.cells #[.int .i64 0, .int .i64 0, .string ⟨#[]⟩, .int .i64 0, .slice none 0 0, .int .i64 0, .int .i64 0, .int .i64 oe] 58) = W0 at *
  clear c0 c1 c2 hlt hW0
  obtain ⟨l1, l2, l3, l4⟩ := HS.out.small
  have x2 : W0.cell? ⟨w.heap.size, 2, none⟩ = some (.int .i64 ep) := cell_of HS.out.ask 2
  obtain ⟨c0, c1, c2, _⟩ := three_cells HS.out.ob
  have hr := lt_of_block HS.out.ob
  have HSN := Lib.hid (fun n => HS.out.drewN n)
  clear HS
  go_quiet (fail)
  have HT := Lib.hid (HSN.out nq)
  generalize hW1 : World.drewN W0 nq = W1 at *
  clear hW1 HSN x2 c0 c1 c2 hr l1 l2 l3 l4
  obtain ⟨l1, l2, l3, l4⟩ := HT.out.small
  obtain ⟨⟨y0, y1, y2, y3, y4, y5, y6, y7⟩, fy0, fy1, fy2, fy3, fy4, fy5, fy6, fy7⟩ := eight_cells HT.out.ans
  obtain ⟨⟨z0, z1, z2, z3, z4, z5, z6, z7⟩, fz0, fz1, fz2, fz3, fz4, fz5, fz6, fz7⟩ := eight_cells HT.out.zero
  obtain ⟨c0, c1, c2, f0, f1, f2⟩ := three_cells HT.out.ob
  have x0 : W1.cell? ⟨w.heap.size, 0, none⟩ = some (.int .i64 k) := cell_of HT.out.ask 0
  have x2 : W1.cell? ⟨w.heap.size, 2, none⟩ = some (.int .i64 ep) := cell_of HT.out.ask 2
  have x3 : W1.cell? ⟨w.heap.size, 3, none⟩ = some (.int .i64 pg) := cell_of HT.out.ask 3
  go_wp2_with fail
  exact ans_ret (x := anP 40 0 noT oe) (ao := none) (cap := 0) rfl ((HT.out.put 0 (.int .i64 40)).fin HOK.out HG.out).1 rfl rfl ⟨rfl, ((HT.out.put 0 (.int .i64 40)).fin HOK.out HG.out).2⟩
set_option maxHeartbeats 8000000 in
theorem odo_tail_dumb (r : Nat) (G : Nat → Prop) (w : World) (o : Od) (a : Ak) (h : RO r G w o) (hk : a.kind = 7) (he : a.epoch = o.epoch) (hn : o.knows = false) :
    Calls Tryz.prog 56 #[ptrO r, askV a] w fun e w' => e = .returned (ansV (o.ans a) none 0) ∧ Leaves (RO r) G w w' (o.done a) := by
  have ha : o.ans a = anP 47 0 noT o.epoch := by
    unfold Od.ans; rw [if_neg (by omega), if_pos (by omega), if_neg (fun h => h he), if_pos hn]
  have hd : o.done a = o := by
    unfold Od.done; rw [if_neg (fun h => by have := h.1; omega), if_neg (fun h => by have := h.1; omega)]
  rw [ha, hd]
  clear ha hd
  obtain ⟨k, un, ep, pg, sz, n, s, pe, L, ao, cap⟩ := a
  obtain ⟨oe, ot, ok⟩ := o
  simp only at *
  have HS := Lib.hid (show OdW w (((w.alloc (.cells #[.int .i64 k, .int .i64 un, .int .i64 ep, .int .i64 pg, .int .i64 sz, .int .i64 n, .string s, .int .i64 pe, .slice ao L.length cap] 62)).alloc (.cells #[.int .i64 0, .int .i64 0, .string ⟨#[]⟩, .int .i64 0, .slice none 0 0, .int .i64 0, .int .i64 0, .int .i64 0] 58)).alloc (.cells #[.int .i64 0, .int .i64 0, .string ⟨#[]⟩, .int .i64 0, .slice none 0 0, .int .i64 0, .int .i64 0, .int .i64 oe] 58)) r ⟨oe, ot, ok⟩ ⟨k, un, ep, pg, sz, n, s, pe, L, ao, cap⟩ #[.int .i64 0, .int .i64 0, .string ⟨#[]⟩, .int .i64 0, .slice none 0 0, .int .i64 0, .int .i64 0, .int .i64 oe] from od_start h ⟨k, un, ep, pg, sz, n, s, pe, L, ao, cap⟩ #[.int .i64 0, .int .i64 0, .string ⟨#[]⟩, .int .i64 0, .slice none 0 0, .int .i64 0, .int .i64 0, .int .i64 oe])
  have d8 : (k == 8) = false := beq_eq_false_iff_ne.2 (by omega)
  have d6 : (k == 6) = false := beq_eq_false_iff_ne.2 (by omega)
  have d7 : (k == 7) = true := by rw [hk]; rfl
  clear hk
  have de : (ep != oe) = false := bne_eq_false_iff_eq.2 he
  clear he
  subst hn
  have HR := Lib.hid h
  have HOK := Lib.hid h.1
  have HG := Lib.hid h.2.2
  obtain ⟨h0, h1, h2⟩ := h
  simp only at h1
  have hlt := lt_of_block h1
  obtain ⟨c0, c1, c2, _⟩ := three_cells h1
  clear h0 h1 h2
  show Calls _ _ #[.pointer (some ⟨r, 0, none⟩), .agg #[.int .i64 k, .int .i64 un, .int .i64 ep, .int .i64 pg, .int .i64 sz, .int .i64 n, .string s, .int .i64 pe, .slice ao L.length cap]] w _
  go_enter Tryz.func56, Tryz.ntmps56
  go_wp2_with fail
  generalize hW0 : ((w.alloc (.cells #[.int .i64 k, .int .i64 un, .int .i64 ep, .int .i64 pg, .int .i64 sz, .int .i64 n, .string s, .int .i64 pe, .slice ao L.length cap] 62)).alloc (.cells #[.int .i64 0, .int .i64 0, .string ⟨#[]⟩, .int .i64 0, .slice none 0 0, .int .i64 0, .int .i64 0, .int .i64 0] 58)).alloc (.cells #[.int .i64 0, .int .i64 0, .string ⟨#[]⟩, .int .i64 0, .slice none 0 0, .int .i64 0, .int .i64 0, .int .i64 oe] 58) = W0 at *
  clear c0 c1 c2 hlt hW0
  obtain ⟨l1, l2, l3, l4⟩ := HS.out.small
  have x2 : W0.cell? ⟨w.heap.size, 2, none⟩ = some (.int .i64 ep) := cell_of HS.out.ask 2
  obtain ⟨c0, c1, c2, _⟩ := three_cells HS.out.ob
  have hr := lt_of_block HS.out.ob
  have HSN := Lib.hid (fun n => HS.out.drewN n)
  clear HS
  go_quiet (fail)
  have HT := Lib.hid (HSN.out nq)
  generalize hW1 : World.drewN W0 nq = W1 at *
  clear hW1 HSN x2 c0 c1 c2 hr l1 l2 l3 l4
  obtain ⟨l1, l2, l3, l4⟩ := HT.out.small
  obtain ⟨⟨y0, y1, y2, y3, y4, y5, y6, y7⟩, fy0, fy1, fy2, fy3, fy4, fy5, fy6, fy7⟩ := eight_cells HT.out.ans
  obtain ⟨⟨z0, z1, z2, z3, z4, z5, z6, z7⟩, fz0, fz1, fz2, fz3, fz4, fz5, fz6, fz7⟩ := eight_cells HT.out.zero
  obtain ⟨c0, c1, c2, f0, f1, f2⟩ := three_cells HT.out.ob
  have x0 : W1.cell? ⟨w.heap.size, 0, none⟩ = some (.int .i64 k) := cell_of HT.out.ask 0
  have x2 : W1.cell? ⟨w.heap.size, 2, none⟩ = some (.int .i64 ep) := cell_of HT.out.ask 2
  have x3 : W1.cell? ⟨w.heap.size, 3, none⟩ = some (.int .i64 pg) := cell_of HT.out.ask 3
  go_wp2_with fail
  exact ans_ret (x := anP 47 0 noT oe) (ao := none) (cap := 0) rfl ((HT.out.put 0 (.int .i64 47)).fin HOK.out HG.out).1 rfl rfl ⟨rfl, ((HT.out.put 0 (.int .i64 47)).fin HOK.out HG.out).2⟩
end Go.Proofs.YthffjanidjjkdaaGreat
namespace Go.Proofs.YthffjanidjjkdaaGreat
set_option linter.unusedVariables false
open Go.RowKit
set_option maxRecDepth 20000
set_option maxHeartbeats 8000000 in
theorem odo_tail (r : Nat) (G : Nat → Prop) (w : World) (o : Od) (a : Ak) (h : RO r G w o) (hk : a.kind = 7) (he : a.epoch = o.epoch) (hn : o.knows = true) :
    Calls Tryz.prog 56 #[ptrO r, askV a] w fun e w' => e = .returned (ansV (o.ans a) none 0) ∧ Leaves (RO r) G w w' (o.done a) := by
  have ha : o.ans a = anP 0 o.tail noT o.epoch := by
    unfold Od.ans; rw [if_neg (by omega), if_pos (by omega), if_neg (fun h => h he), if_neg (by rw [hn]; decide), if_pos hk]
  have hd : o.done a = o := by
    unfold Od.done; rw [if_neg (fun h => by have := h.1; omega), if_neg (fun h => by have := h.1; omega)]
  rw [ha, hd]
  clear ha hd
  obtain ⟨k, un, ep, pg, sz, n, s, pe, L, ao, cap⟩ := a
  obtain ⟨oe, ot, ok⟩ := o
  simp only at *
  have HS := Lib.hid (show OdW w (((w.alloc (.cells #[.int .i64 k, .int .i64 un, .int .i64 ep, .int .i64 pg, .int .i64 sz, .int .i64 n, .string s, .int .i64 pe, .slice ao L.length cap] 62)).alloc (.cells #[.int .i64 0, .int .i64 0, .string ⟨#[]⟩, .int .i64 0, .slice none 0 0, .int .i64 0, .int .i64 0, .int .i64 0] 58)).alloc (.cells #[.int .i64 0, .int .i64 0, .string ⟨#[]⟩, .int .i64 0, .slice none 0 0, .int .i64 0, .int .i64 0, .int .i64 oe] 58)) r ⟨oe, ot, ok⟩ ⟨k, un, ep, pg, sz, n, s, pe, L, ao, cap⟩ #[.int .i64 0, .int .i64 0, .string ⟨#[]⟩, .int .i64 0, .slice none 0 0, .int .i64 0, .int .i64 0, .int .i64 oe] from od_start h ⟨k, un, ep, pg, sz, n, s, pe, L, ao, cap⟩ #[.int .i64 0, .int .i64 0, .string ⟨#[]⟩, .int .i64 0, .slice none 0 0, .int .i64 0, .int .i64 0, .int .i64 oe])
  have d8 : (k == 8) = false := beq_eq_false_iff_ne.2 (by omega)
  have d6 : (k == 6) = false := beq_eq_false_iff_ne.2 (by omega)
  have d7 : (k == 7) = true := by rw [hk]; rfl
  clear hk
  have de : (ep != oe) = false := bne_eq_false_iff_eq.2 he
  clear he
  subst hn
  have HR := Lib.hid h
  have HOK := Lib.hid h.1
  have HG := Lib.hid h.2.2
  obtain ⟨h0, h1, h2⟩ := h
  simp only at h1
  have hlt := lt_of_block h1
  obtain ⟨c0, c1, c2, _⟩ := three_cells h1
  clear h0 h1 h2
  show Calls _ _ #[.pointer (some ⟨r, 0, none⟩), .agg #[.int .i64 k, .int .i64 un, .int .i64 ep, .int .i64 pg, .int .i64 sz, .int .i64 n, .string s, .int .i64 pe, .slice ao L.length cap]] w _
  go_enter Tryz.func56, Tryz.ntmps56
  go_wp2_with fail
  generalize hW0 : ((w.alloc (.cells #[.int .i64 k, .int .i64 un, .int .i64 ep, .int .i64 pg, .int .i64 sz, .int .i64 n, .string s, .int .i64 pe, .slice ao L.length cap] 62)).alloc (.cells #[.int .i64 0, .int .i64 0, .string ⟨#[]⟩, .int .i64 0, .slice none 0 0, .int .i64 0, .int .i64 0, .int .i64 0] 58)).alloc (.cells #[.int .i64 0, .int .i64 0, .string ⟨#[]⟩, .int .i64 0, .slice none 0 0, .int .i64 0, .int .i64 0, .int .i64 oe] 58) = W0 at *
  clear c0 c1 c2 hlt hW0
  obtain ⟨l1, l2, l3, l4⟩ := HS.out.small
  have x2 : W0.cell? ⟨w.heap.size, 2, none⟩ = some (.int .i64 ep) := cell_of HS.out.ask 2
  obtain ⟨c0, c1, c2, _⟩ := three_cells HS.out.ob
  have hr := lt_of_block HS.out.ob
  have HSN := Lib.hid (fun n => HS.out.drewN n)
  clear HS
  go_quiet (fail)
  have HT := Lib.hid (HSN.out nq)
  generalize hW1 : World.drewN W0 nq = W1 at *
  clear hW1 HSN x2 c0 c1 c2 hr l1 l2 l3 l4
  obtain ⟨l1, l2, l3, l4⟩ := HT.out.small
  obtain ⟨⟨y0, y1, y2, y3, y4, y5, y6, y7⟩, fy0, fy1, fy2, fy3, fy4, fy5, fy6, fy7⟩ := eight_cells HT.out.ans
  obtain ⟨⟨z0, z1, z2, z3, z4, z5, z6, z7⟩, fz0, fz1, fz2, fz3, fz4, fz5, fz6, fz7⟩ := eight_cells HT.out.zero
  obtain ⟨c0, c1, c2, f0, f1, f2⟩ := three_cells HT.out.ob
  have x0 : W1.cell? ⟨w.heap.size, 0, none⟩ = some (.int .i64 k) := cell_of HT.out.ask 0
  have x2 : W1.cell? ⟨w.heap.size, 2, none⟩ = some (.int .i64 ep) := cell_of HT.out.ask 2
  have x3 : W1.cell? ⟨w.heap.size, 3, none⟩ = some (.int .i64 pg) := cell_of HT.out.ask 3
  go_wp2_with fail
  exact ans_ret (x := anP 0 ot noT oe) (ao := none) (cap := 0) rfl ((HT.out.put 1 (.int .i64 ot)).fin HOK.out HG.out).1 rfl rfl ⟨rfl, ((HT.out.put 1 (.int .i64 ot)).fin HOK.out HG.out).2⟩
set_option maxHeartbeats 8000000 in
theorem odo_full (r : Nat) (G : Nat → Prop) (w : World) (o : Od) (a : Ak) (h : RO r G w o) (hk : a.kind = 6) (he : a.epoch = o.epoch) (hn : o.knows = true) (ht : o.tail = 16384) :
    Calls Tryz.prog 56 #[ptrO r, askV a] w fun e w' => e = .returned (ansV (o.ans a) none 0) ∧ Leaves (RO r) G w w' (o.done a) := by
  have ha : o.ans a = anP 44 0 noT o.epoch := by
    unfold Od.ans; rw [if_neg (by omega), if_pos (by omega), if_neg (fun h => h he), if_neg (by rw [hn]; decide), if_neg (by omega), if_pos ht]
  have hd : o.done a = o := by
    unfold Od.done; rw [if_neg (fun h => by have := h.1; omega), if_neg (fun h => h.2.2.2 ht)]
  rw [ha, hd]
  clear ha hd
  obtain ⟨k, un, ep, pg, sz, n, s, pe, L, ao, cap⟩ := a
  obtain ⟨oe, ot, ok⟩ := o
  simp only at *
  have HS := Lib.hid (show OdW w (((w.alloc (.cells #[.int .i64 k, .int .i64 un, .int .i64 ep, .int .i64 pg, .int .i64 sz, .int .i64 n, .string s, .int .i64 pe, .slice ao L.length cap] 62)).alloc (.cells #[.int .i64 0, .int .i64 0, .string ⟨#[]⟩, .int .i64 0, .slice none 0 0, .int .i64 0, .int .i64 0, .int .i64 0] 58)).alloc (.cells #[.int .i64 0, .int .i64 0, .string ⟨#[]⟩, .int .i64 0, .slice none 0 0, .int .i64 0, .int .i64 0, .int .i64 oe] 58)) r ⟨oe, ot, ok⟩ ⟨k, un, ep, pg, sz, n, s, pe, L, ao, cap⟩ #[.int .i64 0, .int .i64 0, .string ⟨#[]⟩, .int .i64 0, .slice none 0 0, .int .i64 0, .int .i64 0, .int .i64 oe] from od_start h ⟨k, un, ep, pg, sz, n, s, pe, L, ao, cap⟩ #[.int .i64 0, .int .i64 0, .string ⟨#[]⟩, .int .i64 0, .slice none 0 0, .int .i64 0, .int .i64 0, .int .i64 oe])
  have d8 : (k == 8) = false := beq_eq_false_iff_ne.2 (by omega)
  have d6 : (k == 6) = true := by rw [hk]; rfl
  have d7 : (k == 7) = false := beq_eq_false_iff_ne.2 (by omega)
  clear hk
  have de : (ep != oe) = false := bne_eq_false_iff_eq.2 he
  clear he
  subst hn
  have dt : (ot == 16384) = true := by rw [ht]; rfl
  clear ht
  have HR := Lib.hid h
  have HOK := Lib.hid h.1
  have HG := Lib.hid h.2.2
  obtain ⟨h0, h1, h2⟩ := h
  simp only at h1
  have hlt := lt_of_block h1
  obtain ⟨c0, c1, c2, _⟩ := three_cells h1
  clear h0 h1 h2
  show Calls _ _ #[.pointer (some ⟨r, 0, none⟩), .agg #[.int .i64 k, .int .i64 un, .int .i64 ep, .int .i64 pg, .int .i64 sz, .int .i64 n, .string s, .int .i64 pe, .slice ao L.length cap]] w _
  go_enter Tryz.func56, Tryz.ntmps56
  go_wp2_with fail
  generalize hW0 : ((w.alloc (.cells #[.int .i64 k, .int .i64 un, .int .i64 ep, .int .i64 pg, .int .i64 sz, .int .i64 n, .string s, .int .i64 pe, .slice ao L.length cap] 62)).alloc (.cells #[.int .i64 0, .int .i64 0, .string ⟨#[]⟩, .int .i64 0, .slice none 0 0, .int .i64 0, .int .i64 0, .int .i64 0] 58)).alloc (.cells #[.int .i64 0, .int .i64 0, .string ⟨#[]⟩, .int .i64 0, .slice none 0 0, .int .i64 0, .int .i64 0, .int .i64 oe] 58) = W0 at *
  clear c0 c1 c2 hlt hW0
  obtain ⟨l1, l2, l3, l4⟩ := HS.out.small
  have x2 : W0.cell? ⟨w.heap.size, 2, none⟩ = some (.int .i64 ep) := cell_of HS.out.ask 2
  obtain ⟨c0, c1, c2, _⟩ := three_cells HS.out.ob
  have hr := lt_of_block HS.out.ob
  have HSN := Lib.hid (fun n => HS.out.drewN n)
  clear HS
  go_quiet (fail)
  have HT := Lib.hid (HSN.out nq)
  generalize hW1 : World.drewN W0 nq = W1 at *
  clear hW1 HSN x2 c0 c1 c2 hr l1 l2 l3 l4
  obtain ⟨l1, l2, l3, l4⟩ := HT.out.small
  obtain ⟨⟨y0, y1, y2, y3, y4, y5, y6, y7⟩, fy0, fy1, fy2, fy3, fy4, fy5, fy6, fy7⟩ := eight_cells HT.out.ans
  obtain ⟨⟨z0, z1, z2, z3, z4, z5, z6, z7⟩, fz0, fz1, fz2, fz3, fz4, fz5, fz6, fz7⟩ := eight_cells HT.out.zero
  obtain ⟨c0, c1, c2, f0, f1, f2⟩ := three_cells HT.out.ob
  have x0 : W1.cell? ⟨w.heap.size, 0, none⟩ = some (.int .i64 k) := cell_of HT.out.ask 0
  have x2 : W1.cell? ⟨w.heap.size, 2, none⟩ = some (.int .i64 ep) := cell_of HT.out.ask 2
  have x3 : W1.cell? ⟨w.heap.size, 3, none⟩ = some (.int .i64 pg) := cell_of HT.out.ask 3
  go_wp2_with fail
  exact ans_ret (x := anP 44 0 noT oe) (ao := none) (cap := 0) rfl ((HT.out.put 0 (.int .i64 44)).fin HOK.out HG.out).1 rfl rfl ⟨rfl, ((HT.out.put 0 (.int .i64 44)).fin HOK.out HG.out).2⟩
set_option maxHeartbeats 8000000 in
theorem odo_next (r : Nat) (G : Nat → Prop) (w : World) (o : Od) (a : Ak) (h : RO r G w o) (hk : a.kind = 6) (he : a.epoch = o.epoch) (hn : o.knows = true) (ht : o.tail ≠ 16384) :
    Calls Tryz.prog 56 #[ptrO r, askV a] w fun e w' => e = .returned (ansV (o.ans a) none 0) ∧ Leaves (RO r) G w w' (o.done a) := by
  have ha : o.ans a = anP 0 o.tail noT o.epoch := by
    unfold Od.ans; rw [if_neg (by omega), if_pos (by omega), if_neg (fun h => h he), if_neg (by rw [hn]; decide), if_neg (by omega), if_neg ht]
  have hd : o.done a = ⟨o.epoch, o.tail + 1, o.knows⟩ := by
    unfold Od.done; rw [if_neg (fun h => by have := h.1; omega), if_pos ⟨hk, he, hn, ht⟩]
  rw [ha, hd]
  clear ha hd
  obtain ⟨k, un, ep, pg, sz, n, s, pe, L, ao, cap⟩ := a
  obtain ⟨oe, ot, ok⟩ := o
  simp only at *
  have HS := Lib.hid (show OdW w (((w.alloc (.cells #[.int .i64 k, .int .i64 un, .int .i64 ep, .int .i64 pg, .int .i64 sz, .int .i64 n, .string s, .int .i64 pe, .slice ao L.length cap] 62)).alloc (.cells #[.int .i64 0, .int .i64 0, .string ⟨#[]⟩, .int .i64 0, .slice none 0 0, .int .i64 0, .int .i64 0, .int .i64 0] 58)).alloc (.cells #[.int .i64 0, .int .i64 0, .string ⟨#[]⟩, .int .i64 0, .slice none 0 0, .int .i64 0, .int .i64 0, .int .i64 oe] 58)) r ⟨oe, ot, ok⟩ ⟨k, un, ep, pg, sz, n, s, pe, L, ao, cap⟩ #[.int .i64 0, .int .i64 0, .string ⟨#[]⟩, .int .i64 0, .slice none 0 0, .int .i64 0, .int .i64 0, .int .i64 oe] from od_start h ⟨k, un, ep, pg, sz, n, s, pe, L, ao, cap⟩ #[.int .i64 0, .int .i64 0, .string ⟨#[]⟩, .int .i64 0, .slice none 0 0, .int .i64 0, .int .i64 0, .int .i64 oe])
  have d8 : (k == 8) = false := beq_eq_false_iff_ne.2 (by omega)
  have d6 : (k == 6) = true := by rw [hk]; rfl
  have d7 : (k == 7) = false := beq_eq_false_iff_ne.2 (by omega)
  clear hk
  have de : (ep != oe) = false := bne_eq_false_iff_eq.2 he
  clear he
  subst hn
  have dt : (ot == 16384) = false := beq_eq_false_iff_ne.2 ht
  have t0 := h.1.tail
  simp only at t0
  obtain ⟨t0, t1⟩ := t0
  have HK2 := Lib.hid (show (⟨oe, ot + 1, true⟩ : Od).Ok from ⟨h.1.epoch, by show 0 ≤ ot + 1 ∧ ot + 1 ≤ 16384; omega⟩)
  clear ht
  have HR := Lib.hid h
  have HOK := Lib.hid h.1
  have HG := Lib.hid h.2.2
  obtain ⟨h0, h1, h2⟩ := h
  simp only at h1
  have hlt := lt_of_block h1
  obtain ⟨c0, c1, c2, _⟩ := three_cells h1
  clear h0 h1 h2
  show Calls _ _ #[.pointer (some ⟨r, 0, none⟩), .agg #[.int .i64 k, .int .i64 un, .int .i64 ep, .int .i64 pg, .int .i64 sz, .int .i64 n, .string s, .int .i64 pe, .slice ao L.length cap]] w _
  go_enter Tryz.func56, Tryz.ntmps56
  go_wp2_with fail
  generalize hW0 : ((w.alloc (.cells #[.int .i64 k, .int .i64 un, .int .i64 ep, .int .i64 pg, .int .i64 sz, .int .i64 n, .string s, .int .i64 pe, .slice ao L.length cap] 62)).alloc (.cells #[.int .i64 0, .int .i64 0, .string ⟨#[]⟩, .int .i64 0, .slice none 0 0, .int .i64 0, .int .i64 0, .int .i64 0] 58)).alloc (.cells #[.int .i64 0, .int .i64 0, .string ⟨#[]⟩, .int .i64 0, .slice none 0 0, .int .i64 0, .int .i64 0, .int .i64 oe] 58) = W0 at *
  clear c0 c1 c2 hlt hW0
  obtain ⟨l1, l2, l3, l4⟩ := HS.out.small
  have x2 : W0.cell? ⟨w.heap.size, 2, none⟩ = some (.int .i64 ep) := cell_of HS.out.ask 2
  obtain ⟨c0, c1, c2, _⟩ := three_cells HS.out.ob
  have hr := lt_of_block HS.out.ob
  have HSN := Lib.hid (fun n => HS.out.drewN n)
  clear HS
  go_quiet (fail)
  have HT := Lib.hid (HSN.out nq)
  generalize hW1 : World.drewN W0 nq = W1 at *
  clear hW1 HSN x2 c0 c1 c2 hr l1 l2 l3 l4
  obtain ⟨l1, l2, l3, l4⟩ := HT.out.small
  obtain ⟨⟨y0, y1, y2, y3, y4, y5, y6, y7⟩, fy0, fy1, fy2, fy3, fy4, fy5, fy6, fy7⟩ := eight_cells HT.out.ans
  obtain ⟨⟨z0, z1, z2, z3, z4, z5, z6, z7⟩, fz0, fz1, fz2, fz3, fz4, fz5, fz6, fz7⟩ := eight_cells HT.out.zero
  obtain ⟨c0, c1, c2, f0, f1, f2⟩ := three_cells HT.out.ob
  have x0 : W1.cell? ⟨w.heap.size, 0, none⟩ = some (.int .i64 k) := cell_of HT.out.ask 0
  have x2 : W1.cell? ⟨w.heap.size, 2, none⟩ = some (.int .i64 ep) := cell_of HT.out.ask 2
  have x3 : W1.cell? ⟨w.heap.size, 3, none⟩ = some (.int .i64 pg) := cell_of HT.out.ask 3
  go_wp2_with fail
  exact ans_ret (x := anP 0 ot noT oe) (ao := none) (cap := 0) rfl (((HT.out.put 1 (.int .i64 ot)).set1 (ot + 1)).fin HK2.out HG.out).1 rfl rfl ⟨rfl, (((HT.out.put 1 (.int .i64 ot)).set1 (ot + 1)).fin HK2.out HG.out).2⟩
end Go.Proofs.YthffjanidjjkdaaGreat
namespace Go.Proofs.YthffjanidjjkdaaGreat
set_option linter.unusedVariables false
open Go.RowKit
set_option maxRecDepth 20000
end Go.Proofs.YthffjanidjjkdaaGreat
namespace Go.Proofs.YthffjanidjjkdaaGreat
set_option linter.unusedVariables false
open Go.RowKit
set_option maxRecDepth 20000
def ptrU (b : Nat) : Value := .pointer (some ⟨b, 0, none⟩)
/-- block r is the document's unit, block q its pages -/
def RU (r q : Nat) (G : Nat → Prop) (w : World) (u : Us) : Prop :=
  (u.p.Ok ∧ i64w u.epoch) ∧ w.heap[r]? = some (.cells #[ptrU q, .int .i64 u.epoch, .bool u.down] 160 (0, 0)) ∧ G r ∧ ∃ F : Nat → Prop, RG F w q u.p ∧ (∀ k, F k → G k) ∧ ¬ F r ∧ ∀ k, G k → F k ∨ k = r
theorem rg_lt {G : Nat → Prop} {w : World} {b : Nat} {p : Ps} (h : RG G w b p) : ∀ k, G k → k < w.heap.size := by
  obtain ⟨v, _, _, _, _, h5⟩ := h
  exact h5
theorem ru_thing (r q : Nat) : Thing (RU r q) where
  lt := by
    rintro G w u ⟨_, h1, _, F, h3, _, _, h6⟩ k hk
    rcases h6 k hk with h | h
    · exact rg_lt h3 k h
    · rw [h]; exact lt_of_block h1
  keep := by
    rintro G S w w' u ⟨h0, h1, h2, F, h3, h4, h5, h6⟩ hk hS
    exact ⟨h0, hk.heap (hS r h2) h1, h2, F, h3.keep hk (fun k hf => hS k (h4 k hf)), h4, h5, h6⟩
theorem ru_new_yes (room : Int) (w : World) (h : 1 ≤ room ∧ room ≤ 4096) :
    Calls Tryz.prog 55 #[.int .i64 room] w fun e w' => ∃ (r q : Nat) (G : Nat → Prop), e = .returned (.tuple #[ptrU r, .int .i64 0]) ∧ RU r q G w' (newU room) ∧ (∀ k, G k → w.heap.size ≤ k) ∧ Below w.heap.size w w' := by
  have CN := Lib.hid (rnew_yes room w h)
  have HN := Lib.hid (newP_ok h)
  go_enter Tryz.func55, Tryz.ntmps55
  go_wp2_with (go_at_call 70; refine CN.out.mono ?_; rintro e w1 ⟨rfl, hg1, hb1⟩; have HG := Lib.hid hg1; have HB := Lib.hid hb1; clear hg1 hb1)
  go_ret2
  have hlt := rg_lt HG.out w.heap.size rfl
  have hb2 : Below w1.heap.size w1 (w1.alloc (.cells #[.pointer (some ⟨w.heap.size, 0, none⟩), .int .i64 0, .bool false] 160)) := (Below.refl _ _).alloc (Nat.le_refl _) _
  refine ⟨w1.heap.size, w.heap.size, fun k => k = w.heap.size ∨ k = w1.heap.size, rfl, ⟨⟨HN.out, WalkArith.wf_i64 (n := 0) (by decide)⟩, heap_alloc_new _ _, .inr rfl, fun k => k = w.heap.size, HG.out.below hb2, fun k hk => .inl hk, by omega, fun k hk => hk⟩, fun k hk => by rcases hk with h | h <;> omega, HB.out.alloc HB.out.size _⟩
end Go.Proofs.YthffjanidjjkdaaGreat
namespace Go.Proofs.YthffjanidjjkdaaGreat
set_option linter.unusedVariables false
open Go.RowKit
/-- a hand: the nodes, what is held -/
structure Hd where
  n : Nd
  held : List Ak
def zeroX : An := anP 0 0 noS 0
/-- a question less where its chains lie -/
def Ak.plain (a : Ak) : Ak := ⟨a.kind, a.unit, a.epoch, a.page, a.size, a.n, a.data, a.pe, a.L, none, 0⟩
theorem plain_done (n : Nd) (a : Ak) : n.done a.plain = n.done a := rfl
def lessK (l : List Ak) (k : Nat) : List Ak := l.take k ++ l.drop (k + 1)
def Hd.heard (h : Hd) (a : Ak) (fate : Int) : An := if fate = 0 then h.n.ans a else zeroX
def Hd.asked (h : Hd) (a : Ak) (fate : Int) : Hd :=
  if fate = 0 ∨ fate = 2 then ⟨h.n.done a, h.held⟩ else if fate = 3 ∧ h.held.length < 64 then ⟨h.n, h.held ++ [a]⟩ else h
/-- is there a k-th? -/
def Hd.has (h : Hd) (k : Int) : Bool := decide (0 ≤ k) && decide (k < h.held.length)
def Hd.does (h : Hd) (k : Int) : Hd := if hk : 0 ≤ k ∧ k < h.held.length then ⟨h.n.done (h.held[k.toNat]'(by omega)), lessK h.held k.toNat⟩ else h
theorem lessK_length {l : List Ak} {k : Nat} (h : k < l.length) : (lessK l k).length + 1 = l.length := by
  unfold lessK
  rw [List.length_append, List.length_take, List.length_drop]
  omega
theorem lessK_mem {l : List Ak} {k : Nat} {a : Ak} (h : a ∈ lessK l k) : a ∈ l := by
  unfold lessK at h
  rcases List.mem_append.1 h with h | h
  · exact List.mem_of_mem_take h
  · exact List.mem_of_mem_drop h
end Go.Proofs.YthffjanidjjkdaaGreat
namespace Go.Proofs.YthffjanidjjkdaaGreat
set_option linter.unusedVariables false
open Go.RowKit
set_option maxRecDepth 20000
/-- OG b G w o: in world w block b is the program's sequencer o; it and all that it owns lie in G. The program's functions return what is said here -/
structure OrderSays (OG : Nat → (Nat → Prop) → World → Od → Prop) : Prop where
  thing : ∀ b, Thing (OG b)
  ok : ∀ {b : Nat} {G : Nat → Prop} {w : World} {o : Od}, OG b G w o → o.Ok
  new : ∀ (w : World), Calls Tryz.prog 50 #[] w fun e w' => ∃ (b : Nat) (G : Nat → Prop), e = .returned (ptrO b) ∧ OG b G w' newO ∧ (∀ k, G k → w.heap.size ≤ k) ∧ Below w.heap.size w w'
  ask : ∀ (b : Nat) (G : Nat → Prop) (w : World) (o : Od) (a : Ak), OG b G w o → AkIn w a → Calls Tryz.prog 52 #[ptrO b, askV a] w fun e w' => e = .returned (anW (o.ans a).code (o.ans a).n (o.ans a).data (o.ans a).epoch) ∧ Leaves (OG b) G w w' (o.done a)
section
variable {OG : Nat → (Nat → Prop) → World → Od → Prop} {X : Nat → Prop} {w : World} {b : Nat} {o : Od}
end
end Go.Proofs.YthffjanidjjkdaaGreat
