/- What the document's own sequencer answers a question, and is behind it. Conditions: it and the question lie where the call was told. (Written by gen/genord.py.) -/
import Derived.Test.YtjckjffmjmcknaaOrdA
import Derived.Deep.RegionHeld3
import Derived.Deep.RegionHeldLaw
namespace Go.Proofs.Ytjckjffmjmcknaa
set_option linter.unusedVariables false
open Go.RowKit
set_option maxRecDepth 20000
set_option maxHeartbeats 8000000 in
theorem odo_start (r : Nat) (G : Nat → Prop) (w : World) (o : Od) (a : Ak) (h : RO r G w o) (hk : a.kind = 8) (he : o.epoch < a.epoch) (hp : 0 ≤ a.page ∧ a.page ≤ 16384) (hw : i64w a.epoch) :
    Calls Try.prog 13 #[ptrO r, askV a] w fun e w' => e = .returned (ansV (o.ans a) none 0) ∧ Leaves (RO r) G w w' (o.done a) := by
  have ha : o.ans a = anP 0 0 noT a.epoch := by
    unfold Od.ans; rw [if_pos hk, if_neg (by omega), if_neg (by omega)]
  have hd : o.done a = ⟨a.epoch, a.page, true⟩ := by
    unfold Od.done; rw [if_pos ⟨hk, he, hp⟩]
  rw [ha, hd]
  clear ha hd
  obtain ⟨k, un, ep, pg, sz, n, s, pe, L, ao, cap⟩ := a
  obtain ⟨oe, ot, ok⟩ := o
  simp only at *
  have HS := Lib.hid (show OdW w (((w.alloc (.cells #[.int .i64 k, .int .i64 un, .int .i64 ep, .int .i64 pg, .int .i64 sz, .int .i64 n, .string s, .int .i64 pe, .slice ao L.length cap] 32)).alloc (.cells #[.int .i64 0, .int .i64 0, .string ⟨#[]⟩, .int .i64 0, .slice none 0 0, .int .i64 0, .int .i64 0, .int .i64 0] 40)).alloc (.cells #[.int .i64 0, .int .i64 0, .string ⟨#[]⟩, .int .i64 0, .slice none 0 0, .int .i64 0, .int .i64 0, .int .i64 oe] 40)) r ⟨oe, ot, ok⟩ ⟨k, un, ep, pg, sz, n, s, pe, L, ao, cap⟩ #[.int .i64 0, .int .i64 0, .string ⟨#[]⟩, .int .i64 0, .slice none 0 0, .int .i64 0, .int .i64 0, .int .i64 oe] from od_start h ⟨k, un, ep, pg, sz, n, s, pe, L, ao, cap⟩ #[.int .i64 0, .int .i64 0, .string ⟨#[]⟩, .int .i64 0, .slice none 0 0, .int .i64 0, .int .i64 0, .int .i64 oe])
  have d8 : (k == 8) = true := by rw [hk]; rfl
  clear hk
  obtain ⟨hp0, hp1⟩ := hp
  have HP := Lib.hid (show 0 ≤ pg ∧ pg ≤ 16384 from ⟨hp0, hp1⟩)
  have HW := Lib.hid hw
  clear hw
  have HR := Lib.hid h
  have HOK := Lib.hid h.1
  have HG := Lib.hid h.2.2
  obtain ⟨h0, h1, h2⟩ := h
  simp only at h1
  have hlt := lt_of_block h1
  obtain ⟨c0, c1, c2, _⟩ := three_cells h1
  clear h0 h1 h2
  show Calls _ _ #[.pointer (some ⟨r, 0, none⟩), .agg #[.int .i64 k, .int .i64 un, .int .i64 ep, .int .i64 pg, .int .i64 sz, .int .i64 n, .string s, .int .i64 pe, .slice ao L.length cap]] w _
  go_enter Try.func13, Try.ntmps13
  go_wp2_with fail
  generalize hW0 : ((w.alloc (.cells #[.int .i64 k, .int .i64 un, .int .i64 ep, .int .i64 pg, .int .i64 sz, .int .i64 n, .string s, .int .i64 pe, .slice ao L.length cap] 32)).alloc (.cells #[.int .i64 0, .int .i64 0, .string ⟨#[]⟩, .int .i64 0, .slice none 0 0, .int .i64 0, .int .i64 0, .int .i64 0] 40)).alloc (.cells #[.int .i64 0, .int .i64 0, .string ⟨#[]⟩, .int .i64 0, .slice none 0 0, .int .i64 0, .int .i64 0, .int .i64 oe] 40) = W0 at *
  clear c0 c1 c2 hlt hW0
  obtain ⟨l1, l2, l3, l4⟩ := HS.out.small
  have x2 : W0.cell? ⟨w.heap.size, 2, none⟩ = some (.int .i64 ep) := cell_of HS.out.ask 2
  obtain ⟨c0, c1, c2, _⟩ := three_cells HS.out.ob
  have hr := lt_of_block HS.out.ob
  have HSN := Lib.hid (fun n => HS.out.drewN n)
  clear HS
  go_quiet (fail)
  have HT := Lib.hid (HSN.out nq)
  generalize hW1 : World.drewN W0 nq = W1 at *
  clear hW1 HSN x2 c0 c1 c2 hr l1 l2 l3 l4
  obtain ⟨l1, l2, l3, l4⟩ := HT.out.small
  obtain ⟨⟨y0, y1, y2, y3, y4, y5, y6, y7⟩, fy0, fy1, fy2, fy3, fy4, fy5, fy6, fy7⟩ := eight_cells HT.out.ans
  obtain ⟨⟨z0, z1, z2, z3, z4, z5, z6, z7⟩, fz0, fz1, fz2, fz3, fz4, fz5, fz6, fz7⟩ := eight_cells HT.out.zero
  obtain ⟨c0, c1, c2, f0, f1, f2⟩ := three_cells HT.out.ob
  have x0 : W1.cell? ⟨w.heap.size, 0, none⟩ = some (.int .i64 k) := cell_of HT.out.ask 0
  have x2 : W1.cell? ⟨w.heap.size, 2, none⟩ = some (.int .i64 ep) := cell_of HT.out.ask 2
  have x3 : W1.cell? ⟨w.heap.size, 3, none⟩ = some (.int .i64 pg) := cell_of HT.out.ask 3
  go_wp2_with fail
  have HE := Lib.hid ((((HT.out.set0 ep).set1 pg).set2 true).put 7 (.int .i64 ep))
  go_region
  go_wp2_with fail
  exact ans_ret (x := anP 0 0 noT ep) (ao := none) (cap := 0) rfl (below_heap (Below.refl _ _).drew (HE.out.fin ⟨HW.out, HP.out⟩ HG.out).1) rfl rfl ⟨rfl, (HE.out.fin ⟨HW.out, HP.out⟩ HG.out).2.below (ro_thing r) (Below.refl _ _).drew⟩
end Go.Proofs.Ytjckjffmjmcknaa
