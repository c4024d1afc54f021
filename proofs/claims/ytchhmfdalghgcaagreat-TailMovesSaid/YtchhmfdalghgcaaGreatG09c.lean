/- What the document's own sequencer answers a question, and is behind it. Conditions: it and the question lie where the call was told. (Written by gen/genord.py.) What the document's own sequencer answers a question, and is behind it. Conditions: it and the question lie where the call was told. (Written by gen/genord.py.) What the laws of pages ask of the program's functions: each one's contract, as a statement (proved where the program is spoken of). No conditions but those that the statements name. -/
import Derived.Test.YtchhmfdalghgcaaGreatG08b
import Derived.Deep.RegionHeld3
import Derived.Deep.RegionHeldLaw
import Derived.Test.YtchhmfdalghgcaaGreatG08a
set_option linter.unusedVariables false
namespace Go.Proofs.YtchhmfdalghgcaaGreat
set_option linter.unusedVariables false
open Go.RowKit
set_option maxRecDepth 20000
set_option maxHeartbeats 8000000 in
theorem odo_tail (r : Nat) (G : Nat → Prop) (w : World) (o : Od) (a : Ak) (h : RO r G w o) (hk : a.kind = 7) (he : a.epoch = o.epoch) (hn : o.knows = true) :
    Calls Tryz.prog 44 #[ptrO r, askV a] w fun e w' => e = .returned (ansV (o.ans a) none 0) ∧ Leaves (RO r) G w w' (o.done a) := by
  have ha : o.ans a = anP 0 o.tail noT o.epoch := by
    unfold Od.ans; rw [if_neg (by omega), if_pos (by omega), if_neg (fun h => h he), if_neg (by rw [hn]; decide), if_pos hk]
  have hd : o.done a = o := by
    unfold Od.done; rw [if_neg (fun h => by have := h.1; omega), if_neg (fun h => by have := h.1; omega)]
  rw [ha, hd]
  clear ha hd
  obtain ⟨k, un, ep, pg, sz, n, s, pe, L, ao, cap⟩ := a
  obtain ⟨oe, ot, ok⟩ := o
  simp only at *
  have HS := Lib.hid (show OdW w (((w.alloc (.cells #[.int .i64 k, .int .i64 un, .int .i64 ep, .int .i64 pg, .int .i64 sz, .int .i64 n, .string s, .int .i64 pe, .slice ao L.length cap] 37)).alloc (.cells #[.int .i64 0, .int .i64 0, .string ⟨#[]⟩, .int .i64 0, .slice none 0 0, .int .i64 0, .int .i64 0, .int .i64 0] 33)).alloc (.cells #[.int .i64 0, .int .i64 0, .string ⟨#[]⟩, .int .i64 0, .slice none 0 0, .int .i64 0, .int .i64 0, .int .i64 oe] 33)) r ⟨oe, ot, ok⟩ ⟨k, un, ep, pg, sz, n, s, pe, L, ao, cap⟩ #[.int .i64 0, .int .i64 0, .string ⟨#[]⟩, .int .i64 0, .slice none 0 0, .int .i64 0, .int .i64 0, .int .i64 oe] from od_start h ⟨k, un, ep, pg, sz, n, s, pe, L, ao, cap⟩ #[.int .i64 0, .int .i64 0, .string ⟨#[]⟩, .int .i64 0, .slice none 0 0, .int .i64 0, .int .i64 0, .int .i64 oe])
  have d8 : (k == 8) = false := beq_eq_false_iff_ne.2 (by omega)
  have d6 : (k == 6) = false := beq_eq_false_iff_ne.2 (by omega)
  have d7 : (k == 7) = true := by rw [hk]; rfl
  clear hk
  have de : (ep != oe) = false := bne_eq_false_iff_eq.2 he
  clear he
  subst hn
  have HR := Lib.hid h
  have HOK := Lib.hid h.1
  have HG := Lib.hid h.2.2
  obtain ⟨h0, h1, h2⟩ := h
  simp only at h1
  have hlt := lt_of_block h1
  obtain ⟨c0, c1, c2, _⟩ := three_cells h1
  clear h0 h1 h2
  show Calls _ _ #[.pointer (some ⟨r, 0, none⟩), .agg #[.int .i64 k, .int .i64 un, .int .i64 ep, .int .i64 pg, .int .i64 sz, .int .i64 n, .string s, .int .i64 pe, .slice ao L.length cap]] w _
  go_enter Tryz.func44, Tryz.ntmps44
  go_wp2_with fail
  generalize hW0 : ((w.alloc (.cells #[.int .i64 k, .int .i64 un, .int .i64 ep, .int .i64 pg, .int .i64 sz, .int .i64 n, .string s, .int .i64 pe, .slice ao L.length cap] 37)).alloc (.cells #[.int .i64 0, .int .i64 0, .string ⟨#[]⟩, .int .i64 0, .slice none 0 0, .int .i64 0, .int .i64 0, .int .i64 0] 33)).alloc (.cells #[.int .i64 0, .int .i64 0, .string ⟨#[]⟩, .int .i64 0, .slice none 0 0, .int .i64 0, .int .i64 0, .int .i64 oe] 33) = W0 at *
  clear c0 c1 c2 hlt hW0
  obtain ⟨l1, l2, l3, l4⟩ := HS.out.small
  have x2 : W0.cell? ⟨w.heap.size, 2, none⟩ = some (.int .i64 ep) := cell_of HS.out.ask 2
  obtain ⟨c0, c1, c2, _⟩ := three_cells HS.out.ob
  have hr := lt_of_block HS.out.ob
  have HSN := Lib.hid (fun n => HS.out.drewN n)
  clear HS
  go_quiet (fail)
  have HT := Lib.hid (HSN.out nq)
  generalize hW1 : World.drewN W0 nq = W1 at *
  clear hW1 HSN x2 c0 c1 c2 hr l1 l2 l3 l4
  obtain ⟨l1, l2, l3, l4⟩ := HT.out.small
  obtain ⟨⟨y0, y1, y2, y3, y4, y5, y6, y7⟩, fy0, fy1, fy2, fy3, fy4, fy5, fy6, fy7⟩ := eight_cells HT.out.ans
  obtain ⟨⟨z0, z1, z2, z3, z4, z5, z6, z7⟩, fz0, fz1, fz2, fz3, fz4, fz5, fz6, fz7⟩ := eight_cells HT.out.zero
  obtain ⟨c0, c1, c2, f0, f1, f2⟩ := three_cells HT.out.ob
  have x0 : W1.cell? ⟨w.heap.size, 0, none⟩ = some (.int .i64 k) := cell_of HT.out.ask 0
  have x2 : W1.cell? ⟨w.heap.size, 2, none⟩ = some (.int .i64 ep) := cell_of HT.out.ask 2
  have x3 : W1.cell? ⟨w.heap.size, 3, none⟩ = some (.int .i64 pg) := cell_of HT.out.ask 3
  go_wp2_with fail
  exact ans_ret (x := anP 0 ot noT oe) (ao := none) (cap := 0) rfl ((HT.out.put 1 (.int .i64 ot)).fin HOK.out HG.out).1 rfl rfl ⟨rfl, ((HT.out.put 1 (.int .i64 ot)).fin HOK.out HG.out).2⟩
set_option maxHeartbeats 8000000 in
theorem odo_full (r : Nat) (G : Nat → Prop) (w : World) (o : Od) (a : Ak) (h : RO r G w o) (hk : a.kind = 6) (he : a.epoch = o.epoch) (hn : o.knows = true) (ht : o.tail = 16384) :
    Calls Tryz.prog 44 #[ptrO r, askV a] w fun e w' => e = .returned (ansV (o.ans a) none 0) ∧ Leaves (RO r) G w w' (o.done a) := by
  have ha : o.ans a = anP 44 0 noT o.epoch := by
    unfold Od.ans; rw [if_neg (by omega), if_pos (by omega), if_neg (fun h => h he), if_neg (by rw [hn]; decide), if_neg (by omega), if_pos ht]
  have hd : o.done a = o := by
    unfold Od.done; rw [if_neg (fun h => by have := h.1; omega), if_neg (fun h => h.2.2.2 ht)]
  rw [ha, hd]
  clear ha hd
  obtain ⟨k, un, ep, pg, sz, n, s, pe, L, ao, cap⟩ := a
  obtain ⟨oe, ot, ok⟩ := o
  simp only at *
  have HS := Lib.hid (show OdW w (((w.alloc (.cells #[.int .i64 k, .int .i64 un, .int .i64 ep, .int .i64 pg, .int .i64 sz, .int .i64 n, .string s, .int .i64 pe, .slice ao L.length cap] 37)).alloc (.cells #[.int .i64 0, .int .i64 0, .string ⟨#[]⟩, .int .i64 0, .slice none 0 0, .int .i64 0, .int .i64 0, .int .i64 0] 33)).alloc (.cells #[.int .i64 0, .int .i64 0, .string ⟨#[]⟩, .int .i64 0, .slice none 0 0, .int .i64 0, .int .i64 0, .int .i64 oe] 33)) r ⟨oe, ot, ok⟩ ⟨k, un, ep, pg, sz, n, s, pe, L, ao, cap⟩ #[.int .i64 0, .int .i64 0, .string ⟨#[]⟩, .int .i64 0, .slice none 0 0, .int .i64 0, .int .i64 0, .int .i64 oe] from od_start h ⟨k, un, ep, pg, sz, n, s, pe, L, ao, cap⟩ #[.int .i64 0, .int .i64 0, .string ⟨#[]⟩, .int .i64 0, .slice none 0 0, .int .i64 0, .int .i64 0, .int .i64 oe])
  have d8 : (k == 8) = false := beq_eq_false_iff_ne.2 (by omega)
  have d6 : (k == 6) = true := by rw [hk]; rfl
  have d7 : (k == 7) = false := beq_eq_false_iff_ne.2 (by omega)
  clear hk
  have de : (ep != oe) = false := bne_eq_false_iff_eq.2 he
  clear he
  subst hn
  have dt : (ot == 16384) = true := by rw [ht]; rfl
  clear ht
  have HR := Lib.hid h
  have HOK := Lib.hid h.1
  have HG := Lib.hid h.2.2
  obtain ⟨h0, h1, h2⟩ := h
  simp only at h1
  have hlt := lt_of_block h1
  obtain ⟨c0, c1, c2, _⟩ := three_cells h1
  clear h0 h1 h2
  show Calls _ _ #[.pointer (some ⟨r, 0, none⟩), .agg #[.int .i64 k, .int .i64 un, .int .i64 ep, .int .i64 pg, .int .i64 sz, .int .i64 n, .string s, .int .i64 pe, .slice ao L.length cap]] w _
  go_enter Tryz.func44, Tryz.ntmps44
  go_wp2_with fail
  generalize hW0 : ((w.alloc (.cells #[.int .i64 k, .int .i64 un, .int .i64 ep, .int .i64 pg, .int .i64 sz, .int .i64 n, .string s, .int .i64 pe, .slice ao L.length cap] 37)).alloc (.cells #[.int .i64 0, .int .i64 0, .string ⟨#[]⟩, .int .i64 0, .slice none 0 0, .int .i64 0, .int .i64 0, .int .i64 0] 33)).alloc (.cells #[.int .i64 0, .int .i64 0, .string ⟨#[]⟩, .int .i64 0, .slice none 0 0, .int .i64 0, .int .i64 0, .int .i64 oe] 33) = W0 at *
  clear c0 c1 c2 hlt hW0
  obtain ⟨l1, l2, l3, l4⟩ := HS.out.small
  have x2 : W0.cell? ⟨w.heap.size, 2, none⟩ = some (.int .i64 ep) := cell_of HS.out.ask 2
  obtain ⟨c0, c1, c2, _⟩ := three_cells HS.out.ob
  have hr := lt_of_block HS.out.ob
  have HSN := Lib.hid (fun n => HS.out.drewN n)
  clear HS
  go_quiet (fail)
  have HT := Lib.hid (HSN.out nq)
  generalize hW1 : World.drewN W0 nq = W1 at *
  clear hW1 HSN x2 c0 c1 c2 hr l1 l2 l3 l4
  obtain ⟨l1, l2, l3, l4⟩ := HT.out.small
  obtain ⟨⟨y0, y1, y2, y3, y4, y5, y6, y7⟩, fy0, fy1, fy2, fy3, fy4, fy5, fy6, fy7⟩ := eight_cells HT.out.ans
  obtain ⟨⟨z0, z1, z2, z3, z4, z5, z6, z7⟩, fz0, fz1, fz2, fz3, fz4, fz5, fz6, fz7⟩ := eight_cells HT.out.zero
  obtain ⟨c0, c1, c2, f0, f1, f2⟩ := three_cells HT.out.ob
  have x0 : W1.cell? ⟨w.heap.size, 0, none⟩ = some (.int .i64 k) := cell_of HT.out.ask 0
  have x2 : W1.cell? ⟨w.heap.size, 2, none⟩ = some (.int .i64 ep) := cell_of HT.out.ask 2
  have x3 : W1.cell? ⟨w.heap.size, 3, none⟩ = some (.int .i64 pg) := cell_of HT.out.ask 3
  go_wp2_with fail
  exact ans_ret (x := anP 44 0 noT oe) (ao := none) (cap := 0) rfl ((HT.out.put 0 (.int .i64 44)).fin HOK.out HG.out).1 rfl rfl ⟨rfl, ((HT.out.put 0 (.int .i64 44)).fin HOK.out HG.out).2⟩
set_option maxHeartbeats 8000000 in
theorem odo_next (r : Nat) (G : Nat → Prop) (w : World) (o : Od) (a : Ak) (h : RO r G w o) (hk : a.kind = 6) (he : a.epoch = o.epoch) (hn : o.knows = true) (ht : o.tail ≠ 16384) :
    Calls Tryz.prog 44 #[ptrO r, askV a] w fun e w' => e = .returned (ansV (o.ans a) none 0) ∧ Leaves (RO r) G w w' (o.done a) := by
  have ha : o.ans a = anP 0 o.tail noT o.epoch := by
    unfold Od.ans; rw [if_neg (by omega), if_pos (by omega), if_neg (fun h => h he), if_neg (by rw [hn]; decide), if_neg (by omega), if_neg ht]
  have hd : o.done a = ⟨o.epoch, o.tail + 1, o.knows⟩ := by
    unfold Od.done; rw [if_neg (fun h => by have := h.1; omega), if_pos ⟨hk, he, hn, ht⟩]
  rw [ha, hd]
  clear ha hd
  obtain ⟨k, un, ep, pg, sz, n, s, pe, L, ao, cap⟩ := a
  obtain ⟨oe, ot, ok⟩ := o
  simp only at *
  have HS := Lib.hid (show OdW w (((w.alloc (.cells #[.int .i64 k, .int .i64 un, .int .i64 ep, .int .i64 pg, .int .i64 sz, .int .i64 n, .string s, .int .i64 pe, .slice ao L.length cap] 37)).alloc (.cells #[.int .i64 0, .int .i64 0, .string ⟨#[]⟩, .int .i64 0, .slice none 0 0, .int .i64 0, .int .i64 0, .int .i64 0] 33)).alloc (.cells #[.int .i64 0, .int .i64 0, .string ⟨#[]⟩, .int .i64 0, .slice none 0 0, .int .i64 0, .int .i64 0, .int .i64 oe] 33)) r ⟨oe, ot, ok⟩ ⟨k, un, ep, pg, sz, n, s, pe, L, ao, cap⟩ #[.int .i64 0, .int .i64 0, .string ⟨#[]⟩, .int .i64 0, .slice none 0 0, .int .i64 0, .int .i64 0, .int .i64 oe] from od_start h ⟨k, un, ep, pg, sz, n, s, pe, L, ao, cap⟩ #[.int .i64 0, .int .i64 0, .string ⟨#[]⟩, .int .i64 0, .slice none 0 0, .int .i64 0, .int .i64 0, .int .i64 oe])
  have d8 : (k == 8) = false := beq_eq_false_iff_ne.2 (by omega)
  have d6 : (k == 6) = true := by rw [hk]; rfl
  have d7 : (k == 7) = false := beq_eq_false_iff_ne.2 (by omega)
  clear hk
  have de : (ep != oe) = false := bne_eq_false_iff_eq.2 he
  clear he
  subst hn
  have dt : (ot == 16384) = false := beq_eq_false_iff_ne.2 ht
  have t0 := h.1.tail
  simp only at t0
  obtain ⟨t0, t1⟩ := t0
  have HK2 := Lib.hid (show (⟨oe, ot + 1, true⟩ : Od).Ok from ⟨h.1.epoch, by show 0 ≤ ot + 1 ∧ ot + 1 ≤ 16384; omega⟩)
  clear ht
  have HR := Lib.hid h
  have HOK := Lib.hid h.1
  have HG := Lib.hid h.2.2
  obtain ⟨h0, h1, h2⟩ := h
  simp only at h1
  have hlt := lt_of_block h1
  obtain ⟨c0, c1, c2, _⟩ := three_cells h1
  clear h0 h1 h2
  show Calls _ _ #[.pointer (some ⟨r, 0, none⟩), .agg #[.int .i64 k, .int .i64 un, .int .i64 ep, .int .i64 pg, .int .i64 sz, .int .i64 n, .string s, .int .i64 pe, .slice ao L.length cap]] w _
  go_enter Tryz.func44, Tryz.ntmps44
  go_wp2_with fail
  generalize hW0 : ((w.alloc (.cells #[.int .i64 k, .int .i64 un, .int .i64 ep, .int .i64 pg, .int .i64 sz, .int .i64 n, .string s, .int .i64 pe, .slice ao L.length cap] 37)).alloc (.cells #[.int .i64 0, .int .i64 0, .string ⟨#[]⟩, .int .i64 0, .slice none 0 0, .int .i64 0, .int .i64 0, .int .i64 0] 33)).alloc (.cells #[.int .i64 0, .int .i64 0, .string ⟨#[]⟩, .int .i64 0, .slice none 0 0, .int .i64 0, .int .i64 0, .int .i64 oe] 33) = W0 at *
  clear c0 c1 c2 hlt hW0
  obtain ⟨l1, l2, l3, l4⟩ := HS.out.small
  have x2 : W0.cell? ⟨w.heap.size, 2, none⟩ = some (.int .i64 ep) := cell_of HS.out.ask 2
  obtain ⟨c0, c1, c2, _⟩ := three_cells HS.out.ob
  have hr := lt_of_block HS.out.ob
  have HSN := Lib.hid (fun n => HS.out.drewN n)
  clear HS
  go_quiet (fail)
  have HT := Lib.hid (HSN.out nq)
  generalize hW1 : World.drewN W0 nq = W1 at *
  clear hW1 HSN x2 c0 c1 c2 hr l1 l2 l3 l4
  obtain ⟨l1, l2, l3, l4⟩ := HT.out.small
  obtain ⟨⟨y0, y1, y2, y3, y4, y5, y6, y7⟩, fy0, fy1, fy2, fy3, fy4, fy5, fy6, fy7⟩ := eight_cells HT.out.ans
  obtain ⟨⟨z0, z1, z2, z3, z4, z5, z6, z7⟩, fz0, fz1, fz2, fz3, fz4, fz5, fz6, fz7⟩ := eight_cells HT.out.zero
  obtain ⟨c0, c1, c2, f0, f1, f2⟩ := three_cells HT.out.ob
  have x0 : W1.cell? ⟨w.heap.size, 0, none⟩ = some (.int .i64 k) := cell_of HT.out.ask 0
  have x2 : W1.cell? ⟨w.heap.size, 2, none⟩ = some (.int .i64 ep) := cell_of HT.out.ask 2
  have x3 : W1.cell? ⟨w.heap.size, 3, none⟩ = some (.int .i64 pg) := cell_of HT.out.ask 3
  go_wp2_with fail
  exact ans_ret (x := anP 0 ot noT oe) (ao := none) (cap := 0) rfl (((HT.out.put 1 (.int .i64 ot)).set1 (ot + 1)).fin HK2.out HG.out).1 rfl rfl ⟨rfl, (((HT.out.put 1 (.int .i64 ot)).set1 (ot + 1)).fin HK2.out HG.out).2⟩
end Go.Proofs.YtchhmfdalghgcaaGreat
namespace Go.Proofs.YtchhmfdalghgcaaGreat
set_option linter.unusedVariables false
open Go.RowKit
set_option maxRecDepth 20000
set_option maxHeartbeats 8000000 in
theorem odo_start (r : Nat) (G : Nat → Prop) (w : World) (o : Od) (a : Ak) (h : RO r G w o) (hk : a.kind = 8) (he : o.epoch < a.epoch) (hp : 0 ≤ a.page ∧ a.page ≤ 16384) (hw : i64w a.epoch) :
    Calls Tryz.prog 44 #[ptrO r, askV a] w fun e w' => e = .returned (ansV (o.ans a) none 0) ∧ Leaves (RO r) G w w' (o.done a) := by
  have ha : o.ans a = anP 0 0 noT a.epoch := by
    unfold Od.ans; rw [if_pos hk, if_neg (by omega), if_neg (by omega)]
  have hd : o.done a = ⟨a.epoch, a.page, true⟩ := by
    unfold Od.done; rw [if_pos ⟨hk, he, hp⟩]
  rw [ha, hd]
  clear ha hd
  obtain ⟨k, un, ep, pg, sz, n, s, pe, L, ao, cap⟩ := a
  obtain ⟨oe, ot, ok⟩ := o
  simp only at *
  have HS := Lib.hid (show OdW w (((w.alloc (.cells #[.int .i64 k, .int .i64 un, .int .i64 ep, .int .i64 pg, .int .i64 sz, .int .i64 n, .string s, .int .i64 pe, .slice ao L.length cap] 37)).alloc (.cells #[.int .i64 0, .int .i64 0, .string ⟨#[]⟩, .int .i64 0, .slice none 0 0, .int .i64 0, .int .i64 0, .int .i64 0] 33)).alloc (.cells #[.int .i64 0, .int .i64 0, .string ⟨#[]⟩, .int .i64 0, .slice none 0 0, .int .i64 0, .int .i64 0, .int .i64 oe] 33)) r ⟨oe, ot, ok⟩ ⟨k, un, ep, pg, sz, n, s, pe, L, ao, cap⟩ #[.int .i64 0, .int .i64 0, .string ⟨#[]⟩, .int .i64 0, .slice none 0 0, .int .i64 0, .int .i64 0, .int .i64 oe] from od_start h ⟨k, un, ep, pg, sz, n, s, pe, L, ao, cap⟩ #[.int .i64 0, .int .i64 0, .string ⟨#[]⟩, .int .i64 0, .slice none 0 0, .int .i64 0, .int .i64 0, .int .i64 oe])
  have d8 : (k == 8) = true := by rw [hk]; rfl
  clear hk
  obtain ⟨hp0, hp1⟩ := hp
  have HP := Lib.hid (show 0 ≤ pg ∧ pg ≤ 16384 from ⟨hp0, hp1⟩)
  have HW := Lib.hid hw
  clear hw
  have HR := Lib.hid h
  have HOK := Lib.hid h.1
  have HG := Lib.hid h.2.2
  obtain ⟨h0, h1, h2⟩ := h
  simp only at h1
  have hlt := lt_of_block h1
  obtain ⟨c0, c1, c2, _⟩ := three_cells h1
  clear h0 h1 h2
  show Calls _ _ #[.pointer (some ⟨r, 0, none⟩), .agg #[.int .i64 k, .int .i64 un, .int .i64 ep, .int .i64 pg, .int .i64 sz, .int .i64 n, .string s, .int .i64 pe, .slice ao L.length cap]] w _
  go_enter Tryz.func44, Tryz.ntmps44
  go_wp2_with fail
  generalize hW0 : ((w.alloc (.cells #[.int .i64 k, .int .i64 un, .int .i64 ep, .int .i64 pg, .int .i64 sz, .int .i64 n, .string s, .int .i64 pe, .slice ao L.length cap] 37)).alloc (.cells #[.int .i64 0, .int .i64 0, .string ⟨#[]⟩, .int .i64 0, .slice none 0 0, .int .i64 0, .int .i64 0, .int .i64 0] 33)).alloc (.cells #[.int .i64 0, .int .i64 0, .string ⟨#[]⟩, .int .i64 0, .slice none 0 0, .int .i64 0, .int .i64 0, .int .i64 oe] 33) = W0 at *
  clear c0 c1 c2 hlt hW0
  obtain ⟨l1, l2, l3, l4⟩ := HS.out.small
  have x2 : W0.cell? ⟨w.heap.size, 2, none⟩ = some (.int .i64 ep) := cell_of HS.out.ask 2
  obtain ⟨c0, c1, c2, _⟩ := three_cells HS.out.ob
  have hr := lt_of_block HS.out.ob
  have HSN := Lib.hid (fun n => HS.out.drewN n)
  clear HS
  go_quiet (fail)
  have HT := Lib.hid (HSN.out nq)
  generalize hW1 : World.drewN W0 nq = W1 at *
  clear hW1 HSN x2 c0 c1 c2 hr l1 l2 l3 l4
  obtain ⟨l1, l2, l3, l4⟩ := HT.out.small
  obtain ⟨⟨y0, y1, y2, y3, y4, y5, y6, y7⟩, fy0, fy1, fy2, fy3, fy4, fy5, fy6, fy7⟩ := eight_cells HT.out.ans
  obtain ⟨⟨z0, z1, z2, z3, z4, z5, z6, z7⟩, fz0, fz1, fz2, fz3, fz4, fz5, fz6, fz7⟩ := eight_cells HT.out.zero
  obtain ⟨c0, c1, c2, f0, f1, f2⟩ := three_cells HT.out.ob
  have x0 : W1.cell? ⟨w.heap.size, 0, none⟩ = some (.int .i64 k) := cell_of HT.out.ask 0
  have x2 : W1.cell? ⟨w.heap.size, 2, none⟩ = some (.int .i64 ep) := cell_of HT.out.ask 2
  have x3 : W1.cell? ⟨w.heap.size, 3, none⟩ = some (.int .i64 pg) := cell_of HT.out.ask 3
  go_wp2_with fail
  have HE := Lib.hid ((((HT.out.set0 ep).set1 pg).set2 true).put 7 (.int .i64 ep))
  go_region
  go_wp2_with fail
  exact ans_ret (x := anP 0 0 noT ep) (ao := none) (cap := 0) rfl (below_heap (Below.refl _ _).drew (HE.out.fin ⟨HW.out, HP.out⟩ HG.out).1) rfl rfl ⟨rfl, (HE.out.fin ⟨HW.out, HP.out⟩ HG.out).2.below (ro_thing r) (Below.refl _ _).drew⟩
end Go.Proofs.YtchhmfdalghgcaaGreat
namespace Go.Proofs.YtchhmfdalghgcaaGreat
open Go.RowKit
set_option maxRecDepth 20000
def ptrP (b : Nat) : Value := .pointer (some ⟨b, 0, none⟩)
def wide (a : Int) : Prop := -9223372036854775808 ≤ a ∧ a ≤ 9223372036854775807
/-- PG G w b p: in world w block b is the program's object of the pages p; it and all that it owns lie in G. The program's functions return what is said here -/
structure PageSays (PG : (Nat → Prop) → World → Nat → Ps → Prop) : Prop where
  lt : ∀ {G : Nat → Prop} {w : World} {b : Nat} {p : Ps}, PG G w b p → ∀ k, G k → k < w.heap.size
  keep : ∀ {G T : Nat → Prop} {w w' : World} {b : Nat} {p : Ps}, PG G w b p → Kept T w w' → (∀ k, G k → T k) → PG G w' b p
  new_yes : ∀ (room : Int) (w : World), 1 ≤ room ∧ room ≤ 4096 → Calls Tryz.prog 55 #[.int .i64 room] w fun e w' => ∃ (b : Nat) (G : Nat → Prop), e = .returned (.tuple #[ptrP b, .int .i64 0]) ∧ PG G w' b (newP room) ∧ (∀ k, G k → w.heap.size ≤ k) ∧ Below w.heap.size w w'
  new_no : ∀ (room : Int) (w : World), room < 1 ∨ 4096 < room → wide room → Calls Tryz.prog 55 #[.int .i64 room] w fun e w' => e = .returned (.tuple #[.pointer none, .int .i64 1]) ∧ Below w.heap.size w w'
  write : ∀ (G : Nat → Prop) (w : World) (b : Nat) (p : Ps) (a : Int) (s : ByteArray), PG G w b p → p.Ok → wide a → s.size ≤ 1000000 → Calls Tryz.prog 131 #[ptrP b, .int .i64 a, .string s] w fun e w' => e = .returned (.int .i64 (p.writeE a s)) ∧ Left PG G w w' b (p.write a s)
  fill : ∀ (G : Nat → Prop) (w : World) (b : Nat) (p : Ps) (a : Int), PG G w b p → p.Ok → wide a → Calls Tryz.prog 132 #[ptrP b, .int .i64 a] w fun e w' => e = .returned (.int .i64 (p.fillE a)) ∧ Left PG G w w' b (p.fill a)
  trim : ∀ (G : Nat → Prop) (w : World) (b : Nat) (p : Ps) (a : Int), PG G w b p → p.Ok → wide a → Calls Tryz.prog 134 #[ptrP b, .int .i64 a] w fun e w' => e = .returned (.int .i64 (Ps.trimE a)) ∧ Left PG G w w' b (p.trim a)
  read : ∀ (G : Nat → Prop) (w : World) (b : Nat) (p : Ps) (a : Int), PG G w b p → p.Ok → wide a → Calls Tryz.prog 133 #[ptrP b, .int .i64 a] w fun e w' => e = .returned (.tuple #[.string (p.readS a), .int .i64 (p.readE a)]) ∧ Below w.heap.size w w'
  kind : ∀ (G : Nat → Prop) (w : World) (b : Nat) (p : Ps) (a : Int), PG G w b p → p.Ok → wide a → Calls Tryz.prog 136 #[ptrP b, .int .i64 a] w fun e w' => e = .returned (.int .i64 (p.kind a)) ∧ Below w.heap.size w w'
  tail : ∀ (G : Nat → Prop) (w : World) (b : Nat) (p : Ps), PG G w b p → p.Ok → Calls Tryz.prog 135 #[ptrP b] w fun e w' => e = .returned (.int .i64 p.tail) ∧ Below w.heap.size w w'
  nil_write : ∀ (a : Int) (s : ByteArray) (w : World), s.size ≤ maxLen → Calls Tryz.prog 131 #[.pointer none, .int .i64 a, .string s] w fun e w' => e = .returned (.int .i64 1) ∧ Below w.heap.size w w'
  nil_fill : ∀ (a : Int) (w : World), Calls Tryz.prog 132 #[.pointer none, .int .i64 a] w fun e w' => e = .returned (.int .i64 1) ∧ Below w.heap.size w w'
  nil_trim : ∀ (a : Int) (w : World), Calls Tryz.prog 134 #[.pointer none, .int .i64 a] w fun e w' => e = .returned (.int .i64 1) ∧ Below w.heap.size w w'
  nil_read : ∀ (a : Int) (w : World), Calls Tryz.prog 133 #[.pointer none, .int .i64 a] w fun e w' => e = .returned (.tuple #[.string ⟨#[]⟩, .int .i64 1]) ∧ Below w.heap.size w w'
  nil_kind : ∀ (a : Int) (w : World), Calls Tryz.prog 136 #[.pointer none, .int .i64 a] w fun e w' => e = .returned (.int .i64 0) ∧ Below w.heap.size w w'
  nil_tail : ∀ (w : World), Calls Tryz.prog 135 #[.pointer none] w fun e w' => e = .returned (.int .i64 0) ∧ Below w.heap.size w w'
/-- the object, and that it lies above a bound: what a law carries along -/
def Up (PG : (Nat → Prop) → World → Nat → Ps → Prop) (B : Nat) (w0 w : World) (b : Nat) (p : Ps) : Prop := p.Ok ∧ Below B w0 w ∧ B ≤ w.heap.size ∧ ∃ G : Nat → Prop, PG G w b p ∧ ∀ k, G k → B ≤ k
theorem Up.below {PG : (Nat → Prop) → World → Nat → Ps → Prop} (HS : PageSays PG) {B : Nat} {w0 w w' : World} {b : Nat} {p : Ps} (h : Up PG B w0 w b p) (hb : Below w.heap.size w w') : Up PG B w0 w' b p := by
  obtain ⟨h1, h2, h3, G, h4, h5⟩ := h
  exact ⟨h1, h2.trans (hb.mono h3), Nat.le_trans h3 hb.size, G, HS.keep h4 (Kept.ofBelow hb (fun _ => True)) (fun _ _ => trivial), h5⟩
section
variable {PG : (Nat → Prop) → World → Nat → Ps → Prop} {B : Nat} {w0 w : World} {b : Nat} {p : Ps}
end
end Go.Proofs.YtchhmfdalghgcaaGreat
