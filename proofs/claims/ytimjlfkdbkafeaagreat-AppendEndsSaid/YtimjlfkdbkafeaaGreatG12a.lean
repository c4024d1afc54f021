/- What the program's sequencer answers a question for the next address, and one that starts it. Conditions: it and the question lie where the call was told. (Written by gen/gensqp.py.) What the document's own Next returns, where the two projections don't fit by themselves. Conditions: the projections lie where the call was told, and are not too large. Plain facts on projections: units that were met so far, chain by chain. No conditions. Plain facts on an append to nodes that have no room any more. No conditions but those that the statements name. -/
import Derived.Test.YtimjlfkdbkafeaaGreatG11b
import Derived.StillTailTactics
import Derived.Test.YtimjlfkdbkafeaaGreatG11a
import Derived.Test.YtimjlfkdbkafeaaGreatG10b
import Derived.Test.YtimjlfkdbkafeaaGreatG03a
set_option linter.unusedVariables false
namespace Go.Proofs.YtimjlfkdbkafeaaGreat
set_option linter.unusedVariables false
open Go.RowKit
set_option maxRecDepth 20000
set_option maxHeartbeats 400000 in
theorem on_next_other (b : Nat) (G : Nat → Prop) (w : World) (o : Od) (a : Ak) (h : OM b G w o) (he : a.epoch ≠ o.epoch) :
    Calls Tryz.prog 77 #[ptrO b, askV a] w fun e w' => e = .returned (anW 40 0 noT 0) ∧ Leaves (OM b) G w w' o := by
  obtain ⟨k, un, ep, pg, sz, n, s, pe, L, ao, cap⟩ := a
  obtain ⟨oe, ot, ok⟩ := o
  simp only at *
  have CC := Lib.hid ocoded_any
  have HS := Lib.hid (boxed_start (om_thing b) h #[.int .i64 k, .int .i64 un, .int .i64 ep, .int .i64 pg, .int .i64 sz, .int .i64 n, .string s, .int .i64 pe, .slice ao L.length cap])
  unfold zeroAn at HS
  have hbw := h.small
  obtain ⟨H2, hH2, hU2⟩ := HS.out.use
  have HU2 := Lib.hid hU2
  have HF2 := Lib.hid (show Calls Tryz.prog 78 #[.pointer (some ⟨b, 0, none⟩), .agg #[.int .i64 k, .int .i64 un, .int .i64 ep, .int .i64 pg, .int .i64 sz, .int .i64 n, .string s, .int .i64 pe, .slice ao L.length cap]] _ fun e w' => e = .returned (.agg #[.int .i64 40, .int .i64 0, .string ⟨#[]⟩, .int .i64 0, .slice none 0 0, .int .i64 0, .int .i64 0, .int .i64 0]) ∧ Leaves (OM b) H2 _ w' _ from on_look_other b H2 _ _ ⟨k, un, ep, pg, sz, n, s, pe, L, ao, cap⟩ hH2 he)
  clear hU2 hH2 he
  clear h
  show Calls _ _ #[.pointer (some ⟨b, 0, none⟩), .agg #[.int .i64 k, .int .i64 un, .int .i64 ep, .int .i64 pg, .int .i64 sz, .int .i64 n, .string s, .int .i64 pe, .slice ao L.length cap]] w _
  go_enter Tryz.func77, Tryz.ntmps77
  go_wp2_with fail
  refine HF2.out.mono ?_
  rintro e w2 ⟨rfl, hl⟩
  have HT2 := Lib.hid (HU2.out _ _ hl)
  clear hl HF2 HU2
  obtain ⟨nl1, nl2⟩ := HT2.out.small
  obtain ⟨⟨ny0, ny1, ny2, ny3, ny4, ny5, ny6, ny7⟩, nfy0, nfy1, nfy2, nfy3, nfy4, nfy5, nfy6, nfy7⟩ := eight_cells HT2.out.ans
  go_wp2_with fail
  have hF := HT2.out.fin (om_thing b) (v0 := .int .i64 40) (v1 := .int .i64 0) (v2 := .string ⟨#[]⟩) (v3 := .int .i64 0) (v4 := .slice none 0 0) (v5 := .int .i64 0) (v6 := .int .i64 0) (v7 := .int .i64 0)
  have hY := fun (x : Obj) => below_heap ((Below.refl _ _).alloc (Nat.le_refl _) x) hF.1
  have hL := fun (x : Obj) => hF.2.below (om_thing b) ((Below.refl _ _).alloc (Nat.le_refl _) x)
  clear hF
  exact ans_ret (x := anP 40 0 noT 0) (ao := none) (cap := 0) rfl (hY _) rfl rfl ⟨rfl, hL _⟩
set_option maxHeartbeats 400000 in
theorem on_next_dumb (b : Nat) (G : Nat → Prop) (w : World) (o : Od) (a : Ak) (h : OM b G w o) (he : a.epoch = o.epoch) (hn : o.knows = false) :
    Calls Tryz.prog 77 #[ptrO b, askV a] w fun e w' => e = .returned (anW 47 0 noT 0) ∧ Leaves (OM b) G w w' o := by
  obtain ⟨k, un, ep, pg, sz, n, s, pe, L, ao, cap⟩ := a
  obtain ⟨oe, ot, ok⟩ := o
  simp only at *
  have CC := Lib.hid ocoded_any
  have HS := Lib.hid (boxed_start (om_thing b) h #[.int .i64 k, .int .i64 un, .int .i64 ep, .int .i64 pg, .int .i64 sz, .int .i64 n, .string s, .int .i64 pe, .slice ao L.length cap])
  unfold zeroAn at HS
  have hbw := h.small
  obtain ⟨H2, hH2, hU2⟩ := HS.out.use
  have HU2 := Lib.hid hU2
  have HF2 := Lib.hid (show Calls Tryz.prog 78 #[.pointer (some ⟨b, 0, none⟩), .agg #[.int .i64 k, .int .i64 un, .int .i64 ep, .int .i64 pg, .int .i64 sz, .int .i64 n, .string s, .int .i64 pe, .slice ao L.length cap]] _ fun e w' => e = .returned (.agg #[.int .i64 47, .int .i64 0, .string ⟨#[]⟩, .int .i64 0, .slice none 0 0, .int .i64 0, .int .i64 0, .int .i64 0]) ∧ Leaves (OM b) H2 _ w' _ from on_look_dumb b H2 _ _ ⟨k, un, ep, pg, sz, n, s, pe, L, ao, cap⟩ hH2 he hn)
  clear hU2 hH2 he hn
  clear h
  show Calls _ _ #[.pointer (some ⟨b, 0, none⟩), .agg #[.int .i64 k, .int .i64 un, .int .i64 ep, .int .i64 pg, .int .i64 sz, .int .i64 n, .string s, .int .i64 pe, .slice ao L.length cap]] w _
  go_enter Tryz.func77, Tryz.ntmps77
  go_wp2_with fail
  refine HF2.out.mono ?_
  rintro e w2 ⟨rfl, hl⟩
  have HT2 := Lib.hid (HU2.out _ _ hl)
  clear hl HF2 HU2
  obtain ⟨nl1, nl2⟩ := HT2.out.small
  obtain ⟨⟨ny0, ny1, ny2, ny3, ny4, ny5, ny6, ny7⟩, nfy0, nfy1, nfy2, nfy3, nfy4, nfy5, nfy6, nfy7⟩ := eight_cells HT2.out.ans
  go_wp2_with fail
  have hF := HT2.out.fin (om_thing b) (v0 := .int .i64 47) (v1 := .int .i64 0) (v2 := .string ⟨#[]⟩) (v3 := .int .i64 0) (v4 := .slice none 0 0) (v5 := .int .i64 0) (v6 := .int .i64 0) (v7 := .int .i64 0)
  have hY := fun (x : Obj) => below_heap ((Below.refl _ _).alloc (Nat.le_refl _) x) hF.1
  have hL := fun (x : Obj) => hF.2.below (om_thing b) ((Below.refl _ _).alloc (Nat.le_refl _) x)
  clear hF
  exact ans_ret (x := anP 47 0 noT 0) (ao := none) (cap := 0) rfl (hY _) rfl rfl ⟨rfl, hL _⟩
set_option maxHeartbeats 400000 in
theorem on_next_full (b : Nat) (G : Nat → Prop) (w : World) (o : Od) (a : Ak) (h : OM b G w o) (he : a.epoch = o.epoch) (hn : o.knows = true) (ht : o.tail = 16384) :
    Calls Tryz.prog 77 #[ptrO b, askV a] w fun e w' => e = .returned (anW 44 0 noT 0) ∧ Leaves (OM b) G w w' o := by
  obtain ⟨k, un, ep, pg, sz, n, s, pe, L, ao, cap⟩ := a
  obtain ⟨oe, ot, ok⟩ := o
  simp only at *
  subst ht
  subst hn
  have CC := Lib.hid ocoded_any
  have HS := Lib.hid (boxed_start (om_thing b) h #[.int .i64 k, .int .i64 un, .int .i64 ep, .int .i64 pg, .int .i64 sz, .int .i64 n, .string s, .int .i64 pe, .slice ao L.length cap])
  unfold zeroAn at HS
  have hbw := h.small
  obtain ⟨H2, hH2, hU2⟩ := HS.out.use
  have HU2 := Lib.hid hU2
  have HF2 := Lib.hid (show Calls Tryz.prog 78 #[.pointer (some ⟨b, 0, none⟩), .agg #[.int .i64 k, .int .i64 un, .int .i64 ep, .int .i64 pg, .int .i64 sz, .int .i64 n, .string s, .int .i64 pe, .slice ao L.length cap]] _ fun e w' => e = .returned (.agg #[.int .i64 0, .int .i64 16384, .string ⟨#[]⟩, .int .i64 0, .slice none 0 0, .int .i64 0, .int .i64 0, .int .i64 0]) ∧ Leaves (OM b) H2 _ w' _ from on_look b H2 _ _ ⟨k, un, ep, pg, sz, n, s, pe, L, ao, cap⟩ hH2 he rfl)
  clear hU2 hH2 he
  clear h
  show Calls _ _ #[.pointer (some ⟨b, 0, none⟩), .agg #[.int .i64 k, .int .i64 un, .int .i64 ep, .int .i64 pg, .int .i64 sz, .int .i64 n, .string s, .int .i64 pe, .slice ao L.length cap]] w _
  go_enter Tryz.func77, Tryz.ntmps77
  go_wp2_with fail
  refine HF2.out.mono ?_
  rintro e w2 ⟨rfl, hl⟩
  have HT2 := Lib.hid (HU2.out _ _ hl)
  clear hl HF2 HU2
  obtain ⟨nl1, nl2⟩ := HT2.out.small
  obtain ⟨⟨ny0, ny1, ny2, ny3, ny4, ny5, ny6, ny7⟩, nfy0, nfy1, nfy2, nfy3, nfy4, nfy5, nfy6, nfy7⟩ := eight_cells HT2.out.ans
  obtain ⟨H, hH, hU⟩ := HT2.out.use
  obtain ⟨t2, ht2, hc⟩ := hH.cells
  have et : t2 = 16384 := ht2 rfl
  clear ht2
  subst et
  obtain ⟨c0, c1, c2, f0, f1, f2⟩ := three_cells hc
  have hb := hH.small
  clear hU hH hc
  go_wp2_with (go_at_call 69; refine (CC.out _ _).mono ?_; rintro e w3 ⟨rfl, hb3⟩; have HT3 := Lib.hid ((HT2.out.below (om_thing b) ((Below.refl _ _).alloc (Nat.le_refl _) _)).below (om_thing b) hb3); clear hb3; obtain ⟨nl1, nl2⟩ := HT3.out.small; obtain ⟨⟨ny0, ny1, ny2, ny3, ny4, ny5, ny6, ny7⟩, nfy0, nfy1, nfy2, nfy3, nfy4, nfy5, nfy6, nfy7⟩ := eight_cells HT3.out.ans)
  exact ans_ret (x := anP 44 0 noT 0) (ao := none) (cap := 0) rfl (HT3.out.fin (om_thing b)).1 rfl rfl ⟨rfl, (HT3.out.fin (om_thing b)).2⟩
set_option maxHeartbeats 400000 in
theorem on_next (b : Nat) (G : Nat → Prop) (w : World) (o : Od) (a : Ak) (h : OM b G w o) (he : a.epoch = o.epoch) (hn : o.knows = true) (ht : o.tail ≠ 16384) :
    Calls Tryz.prog 77 #[ptrO b, askV a] w fun e w' => e = .returned (anW 0 o.tail noT 0) ∧ Leaves (OM b) G w w' ⟨o.epoch, o.tail + 1, o.knows⟩ := by
  obtain ⟨k, un, ep, pg, sz, n, s, pe, L, ao, cap⟩ := a
  obtain ⟨oe, ot, ok⟩ := o
  simp only at *
  subst hn
  have CC := Lib.hid ocoded_any
  have HS := Lib.hid (boxed_start (om_thing b) h #[.int .i64 k, .int .i64 un, .int .i64 ep, .int .i64 pg, .int .i64 sz, .int .i64 n, .string s, .int .i64 pe, .slice ao L.length cap])
  unfold zeroAn at HS
  have hbw := h.small
  obtain ⟨H2, hH2, hU2⟩ := HS.out.use
  have HU2 := Lib.hid hU2
  have HF2 := Lib.hid (show Calls Tryz.prog 78 #[.pointer (some ⟨b, 0, none⟩), .agg #[.int .i64 k, .int .i64 un, .int .i64 ep, .int .i64 pg, .int .i64 sz, .int .i64 n, .string s, .int .i64 pe, .slice ao L.length cap]] _ fun e w' => e = .returned (.agg #[.int .i64 0, .int .i64 ot, .string ⟨#[]⟩, .int .i64 0, .slice none 0 0, .int .i64 0, .int .i64 0, .int .i64 0]) ∧ Leaves (OM b) H2 _ w' _ from on_look b H2 _ _ ⟨k, un, ep, pg, sz, n, s, pe, L, ao, cap⟩ hH2 he rfl)
  clear hU2 hH2 he
  clear h
  show Calls _ _ #[.pointer (some ⟨b, 0, none⟩), .agg #[.int .i64 k, .int .i64 un, .int .i64 ep, .int .i64 pg, .int .i64 sz, .int .i64 n, .string s, .int .i64 pe, .slice ao L.length cap]] w _
  go_enter Tryz.func77, Tryz.ntmps77
  go_wp2_with fail
  refine HF2.out.mono ?_
  rintro e w2 ⟨rfl, hl⟩
  have HT2 := Lib.hid (HU2.out _ _ hl)
  clear hl HF2 HU2
  obtain ⟨nl1, nl2⟩ := HT2.out.small
  obtain ⟨⟨ny0, ny1, ny2, ny3, ny4, ny5, ny6, ny7⟩, nfy0, nfy1, nfy2, nfy3, nfy4, nfy5, nfy6, nfy7⟩ := eight_cells HT2.out.ans
  obtain ⟨H, hH, hU⟩ := HT2.out.use
  obtain ⟨t2, ht2, hc⟩ := hH.cells
  have et : t2 = ot := ht2 rfl
  clear ht2
  subst et
  obtain ⟨c0, c1, c2, f0, f1, f2⟩ := three_cells hc
  have hb := hH.small
  have hw1 : wrap64 (t2 + 1) = t2 + 1 := by have := hH.1.tail; simp only at this; rw [wrap64_eq]; omega
  have HT3 := Lib.hid (hU _ _ (hH.steps ht))
  clear hU hH hc
  have hd : (t2 == 16384) = false := beq_eq_false_iff_ne.2 ht
  go_wp2_with fail
  have hF := HT3.out.fin (om_thing b) (v0 := .int .i64 0) (v1 := .int .i64 t2) (v2 := .string ⟨#[]⟩) (v3 := .int .i64 0) (v4 := .slice none 0 0) (v5 := .int .i64 0) (v6 := .int .i64 0) (v7 := .int .i64 0)
  have hY := fun (x : Obj) => below_heap ((Below.refl _ _).alloc (Nat.le_refl _) x) hF.1
  have hL := fun (x : Obj) => hF.2.below (om_thing b) ((Below.refl _ _).alloc (Nat.le_refl _) x)
  clear hF
  exact ans_ret (x := anP 0 t2 noT 0) (ao := none) (cap := 0) rfl (hY _) rfl rfl ⟨rfl, hL _⟩
set_option maxHeartbeats 400000 in
theorem on_start_old (b : Nat) (G : Nat → Prop) (w : World) (o : Od) (a : Ak) (h : OM b G w o) (he : a.epoch ≤ o.epoch) :
    Calls Tryz.prog 76 #[ptrO b, askV a] w fun e w' => e = .returned (anW 40 0 noT 0) ∧ Leaves (OM b) G w w' o := by
  obtain ⟨k, un, ep, pg, sz, n, s, pe, L, ao, cap⟩ := a
  obtain ⟨oe, ot, ok⟩ := o
  simp only at *
  have CC := Lib.hid ocoded_any
  have HS := Lib.hid (boxed_start (om_thing b) h #[.int .i64 k, .int .i64 un, .int .i64 ep, .int .i64 pg, .int .i64 sz, .int .i64 n, .string s, .int .i64 pe, .slice ao L.length cap])
  unfold zeroAn at HS
  have hbw := h.small
  clear h
  show Calls _ _ #[.pointer (some ⟨b, 0, none⟩), .agg #[.int .i64 k, .int .i64 un, .int .i64 ep, .int .i64 pg, .int .i64 sz, .int .i64 n, .string s, .int .i64 pe, .slice ao L.length cap]] w _
  go_enter Tryz.func76, Tryz.ntmps76
  go_wp2_with fail
  generalize hW0 : ((w.alloc (.cells #[.int .i64 k, .int .i64 un, .int .i64 ep, .int .i64 pg, .int .i64 sz, .int .i64 n, .string s, .int .i64 pe, .slice ao L.length cap] 35)).alloc (.cells #[.int .i64 0, .int .i64 0, .string ⟨#[]⟩, .int .i64 0, .slice none 0 0, .int .i64 0, .int .i64 0, .int .i64 0] 40)) = W0 at *
  clear hW0
  obtain ⟨l1, l2⟩ := HS.out.small
  obtain ⟨H, hH, _⟩ := HS.out.use
  have x2 : W0.cell? ⟨w.heap.size, 2, none⟩ = some (.int .i64 ep) := cell_of HS.out.ask 2
  obtain ⟨t, _, hc⟩ := hH.cells
  obtain ⟨c0, c1, c2, _⟩ := three_cells hc
  have hb := hH.small
  clear hH hc
  go_quiet (fail)
  have HT2 := Lib.hid (HS.out.drewN (om_thing b) nq)
  generalize hW2 : World.drewN W0 nq = w2 at *
  clear hW2 x2 c0 c1 c2 hb l1 l2
  obtain ⟨l1, l2⟩ := HT2.out.small
  have x2 : w2.cell? ⟨w.heap.size, 2, none⟩ = some (.int .i64 ep) := cell_of HT2.out.ask 2
  have x3 : w2.cell? ⟨w.heap.size, 3, none⟩ = some (.int .i64 pg) := cell_of HT2.out.ask 3
  go_wp2_with (go_at_call 69; refine (CC.out _ _).mono ?_; rintro e w3 ⟨rfl, hb3⟩; have HT3 := Lib.hid (HT2.out.below (om_thing b) hb3); clear hb3; obtain ⟨nl1, nl2⟩ := HT3.out.small; obtain ⟨⟨ny0, ny1, ny2, ny3, ny4, ny5, ny6, ny7⟩, nfy0, nfy1, nfy2, nfy3, nfy4, nfy5, nfy6, nfy7⟩ := eight_cells HT3.out.ans)
  exact ans_ret (x := anP 40 0 noT 0) (ao := none) (cap := 0) rfl (HT3.out.fin (om_thing b)).1 rfl rfl ⟨rfl, (HT3.out.fin (om_thing b)).2⟩
set_option maxHeartbeats 400000 in
theorem on_start_low (b : Nat) (G : Nat → Prop) (w : World) (o : Od) (a : Ak) (h : OM b G w o) (he : ¬ a.epoch ≤ o.epoch) (hp : a.page < 0) :
    Calls Tryz.prog 76 #[ptrO b, askV a] w fun e w' => e = .returned (anW 1 0 noT 0) ∧ Leaves (OM b) G w w' o := by
  obtain ⟨k, un, ep, pg, sz, n, s, pe, L, ao, cap⟩ := a
  obtain ⟨oe, ot, ok⟩ := o
  simp only at *
  have CC := Lib.hid ocoded_any
  have HS := Lib.hid (boxed_start (om_thing b) h #[.int .i64 k, .int .i64 un, .int .i64 ep, .int .i64 pg, .int .i64 sz, .int .i64 n, .string s, .int .i64 pe, .slice ao L.length cap])
  unfold zeroAn at HS
  have hbw := h.small
  clear h
  show Calls _ _ #[.pointer (some ⟨b, 0, none⟩), .agg #[.int .i64 k, .int .i64 un, .int .i64 ep, .int .i64 pg, .int .i64 sz, .int .i64 n, .string s, .int .i64 pe, .slice ao L.length cap]] w _
  go_enter Tryz.func76, Tryz.ntmps76
  go_wp2_with fail
  generalize hW0 : ((w.alloc (.cells #[.int .i64 k, .int .i64 un, .int .i64 ep, .int .i64 pg, .int .i64 sz, .int .i64 n, .string s, .int .i64 pe, .slice ao L.length cap] 35)).alloc (.cells #[.int .i64 0, .int .i64 0, .string ⟨#[]⟩, .int .i64 0, .slice none 0 0, .int .i64 0, .int .i64 0, .int .i64 0] 40)) = W0 at *
  clear hW0
  obtain ⟨l1, l2⟩ := HS.out.small
  obtain ⟨H, hH, _⟩ := HS.out.use
  have x2 : W0.cell? ⟨w.heap.size, 2, none⟩ = some (.int .i64 ep) := cell_of HS.out.ask 2
  obtain ⟨t, _, hc⟩ := hH.cells
  obtain ⟨c0, c1, c2, _⟩ := three_cells hc
  have hb := hH.small
  clear hH hc
  go_quiet (fail)
  have HT2 := Lib.hid (HS.out.drewN (om_thing b) nq)
  generalize hW2 : World.drewN W0 nq = w2 at *
  clear hW2 x2 c0 c1 c2 hb l1 l2
  obtain ⟨l1, l2⟩ := HT2.out.small
  have x2 : w2.cell? ⟨w.heap.size, 2, none⟩ = some (.int .i64 ep) := cell_of HT2.out.ask 2
  have x3 : w2.cell? ⟨w.heap.size, 3, none⟩ = some (.int .i64 pg) := cell_of HT2.out.ask 3
  go_wp2_with (go_at_call 69; refine (CC.out _ _).mono ?_; rintro e w3 ⟨rfl, hb3⟩; have HT3 := Lib.hid (HT2.out.below (om_thing b) hb3); clear hb3; obtain ⟨nl1, nl2⟩ := HT3.out.small; obtain ⟨⟨ny0, ny1, ny2, ny3, ny4, ny5, ny6, ny7⟩, nfy0, nfy1, nfy2, nfy3, nfy4, nfy5, nfy6, nfy7⟩ := eight_cells HT3.out.ans)
  exact ans_ret (x := anP 1 0 noT 0) (ao := none) (cap := 0) rfl (HT3.out.fin (om_thing b)).1 rfl rfl ⟨rfl, (HT3.out.fin (om_thing b)).2⟩
set_option maxHeartbeats 400000 in
theorem on_start_high (b : Nat) (G : Nat → Prop) (w : World) (o : Od) (a : Ak) (h : OM b G w o) (he : ¬ a.epoch ≤ o.epoch) (hp : 16384 < a.page) :
    Calls Tryz.prog 76 #[ptrO b, askV a] w fun e w' => e = .returned (anW 1 0 noT 0) ∧ Leaves (OM b) G w w' o := by
  obtain ⟨k, un, ep, pg, sz, n, s, pe, L, ao, cap⟩ := a
  obtain ⟨oe, ot, ok⟩ := o
  simp only at *
  have CC := Lib.hid ocoded_any
  have HS := Lib.hid (boxed_start (om_thing b) h #[.int .i64 k, .int .i64 un, .int .i64 ep, .int .i64 pg, .int .i64 sz, .int .i64 n, .string s, .int .i64 pe, .slice ao L.length cap])
  unfold zeroAn at HS
  have hbw := h.small
  clear h
  show Calls _ _ #[.pointer (some ⟨b, 0, none⟩), .agg #[.int .i64 k, .int .i64 un, .int .i64 ep, .int .i64 pg, .int .i64 sz, .int .i64 n, .string s, .int .i64 pe, .slice ao L.length cap]] w _
  go_enter Tryz.func76, Tryz.ntmps76
  go_wp2_with fail
  generalize hW0 : ((w.alloc (.cells #[.int .i64 k, .int .i64 un, .int .i64 ep, .int .i64 pg, .int .i64 sz, .int .i64 n, .string s, .int .i64 pe, .slice ao L.length cap] 35)).alloc (.cells #[.int .i64 0, .int .i64 0, .string ⟨#[]⟩, .int .i64 0, .slice none 0 0, .int .i64 0, .int .i64 0, .int .i64 0] 40)) = W0 at *
  clear hW0
  obtain ⟨l1, l2⟩ := HS.out.small
  obtain ⟨H, hH, _⟩ := HS.out.use
  have x2 : W0.cell? ⟨w.heap.size, 2, none⟩ = some (.int .i64 ep) := cell_of HS.out.ask 2
  obtain ⟨t, _, hc⟩ := hH.cells
  obtain ⟨c0, c1, c2, _⟩ := three_cells hc
  have hb := hH.small
  clear hH hc
  go_quiet (fail)
  have HT2 := Lib.hid (HS.out.drewN (om_thing b) nq)
  generalize hW2 : World.drewN W0 nq = w2 at *
  clear hW2 x2 c0 c1 c2 hb l1 l2
  obtain ⟨l1, l2⟩ := HT2.out.small
  have x2 : w2.cell? ⟨w.heap.size, 2, none⟩ = some (.int .i64 ep) := cell_of HT2.out.ask 2
  have x3 : w2.cell? ⟨w.heap.size, 3, none⟩ = some (.int .i64 pg) := cell_of HT2.out.ask 3
  go_wp2_with (go_at_call 69; refine (CC.out _ _).mono ?_; rintro e w3 ⟨rfl, hb3⟩; have HT3 := Lib.hid (HT2.out.below (om_thing b) hb3); clear hb3; obtain ⟨nl1, nl2⟩ := HT3.out.small; obtain ⟨⟨ny0, ny1, ny2, ny3, ny4, ny5, ny6, ny7⟩, nfy0, nfy1, nfy2, nfy3, nfy4, nfy5, nfy6, nfy7⟩ := eight_cells HT3.out.ans)
  exact ans_ret (x := anP 1 0 noT 0) (ao := none) (cap := 0) rfl (HT3.out.fin (om_thing b)).1 rfl rfl ⟨rfl, (HT3.out.fin (om_thing b)).2⟩
set_option maxHeartbeats 400000 in
theorem on_start (b : Nat) (G : Nat → Prop) (w : World) (o : Od) (a : Ak) (h : OM b G w o) (he : ¬ a.epoch ≤ o.epoch) (hp : 0 ≤ a.page ∧ a.page ≤ 16384) (hw : i64w a.epoch) :
    Calls Tryz.prog 76 #[ptrO b, askV a] w fun e w' => e = .returned (anW 0 0 noT 0) ∧ Leaves (OM b) G w w' ⟨a.epoch, a.page, true⟩ := by
  obtain ⟨k, un, ep, pg, sz, n, s, pe, L, ao, cap⟩ := a
  obtain ⟨oe, ot, ok⟩ := o
  simp only at *
  have HP := Lib.hid hp
  have HW := Lib.hid hw
  clear hp hw
  have CC := Lib.hid ocoded_any
  have HS := Lib.hid (boxed_start (om_thing b) h #[.int .i64 k, .int .i64 un, .int .i64 ep, .int .i64 pg, .int .i64 sz, .int .i64 n, .string s, .int .i64 pe, .slice ao L.length cap])
  unfold zeroAn at HS
  have hbw := h.small
  clear h
  show Calls _ _ #[.pointer (some ⟨b, 0, none⟩), .agg #[.int .i64 k, .int .i64 un, .int .i64 ep, .int .i64 pg, .int .i64 sz, .int .i64 n, .string s, .int .i64 pe, .slice ao L.length cap]] w _
  go_enter Tryz.func76, Tryz.ntmps76
  go_wp2_with fail
  generalize hW0 : ((w.alloc (.cells #[.int .i64 k, .int .i64 un, .int .i64 ep, .int .i64 pg, .int .i64 sz, .int .i64 n, .string s, .int .i64 pe, .slice ao L.length cap] 35)).alloc (.cells #[.int .i64 0, .int .i64 0, .string ⟨#[]⟩, .int .i64 0, .slice none 0 0, .int .i64 0, .int .i64 0, .int .i64 0] 40)) = W0 at *
  clear hW0
  obtain ⟨l1, l2⟩ := HS.out.small
  obtain ⟨H, hH, _⟩ := HS.out.use
  have x2 : W0.cell? ⟨w.heap.size, 2, none⟩ = some (.int .i64 ep) := cell_of HS.out.ask 2
  obtain ⟨t, _, hc⟩ := hH.cells
  obtain ⟨c0, c1, c2, _⟩ := three_cells hc
  have hb := hH.small
  clear hH hc
  go_quiet (fail)
  have HT2 := Lib.hid (HS.out.drewN (om_thing b) nq)
  generalize hW2 : World.drewN W0 nq = w2 at *
  clear hW2 x2 c0 c1 c2 hb l1 l2
  obtain ⟨l1, l2⟩ := HT2.out.small
  have x2 : w2.cell? ⟨w.heap.size, 2, none⟩ = some (.int .i64 ep) := cell_of HT2.out.ask 2
  have x3 : w2.cell? ⟨w.heap.size, 3, none⟩ = some (.int .i64 pg) := cell_of HT2.out.ask 3
  obtain ⟨H, hH, hU⟩ := HT2.out.use
  obtain ⟨t2, ht2, hc⟩ := hH.cells
  obtain ⟨c0, c1, c2, f0, f1, f2⟩ := three_cells hc
  have hb := hH.small
  have HT4 := Lib.hid ((hU _ _ (hH.begins HW.out HP.out)).drewN (om_thing b) 1)
  obtain ⟨hp0, hp1⟩ := HP.out
  clear hU hH hc ht2
  go_wp2_with fail
  go_region
  go_wp2_with (go_at_call 69; refine (CC.out _ _).mono ?_; rintro e w3 ⟨rfl, hb3⟩; have HT3 := Lib.hid (HT4.out.below (om_thing b) hb3); clear hb3; obtain ⟨nl1, nl2⟩ := HT3.out.small; obtain ⟨⟨ny0, ny1, ny2, ny3, ny4, ny5, ny6, ny7⟩, nfy0, nfy1, nfy2, nfy3, nfy4, nfy5, nfy6, nfy7⟩ := eight_cells HT3.out.ans)
  exact ans_ret (x := anP 0 0 noT 0) (ao := none) (cap := 0) rfl (HT3.out.fin (om_thing b)).1 rfl rfl ⟨rfl, (HT3.out.fin (om_thing b)).2⟩
end Go.Proofs.YtimjlfkdbkafeaaGreat
namespace Go.Proofs.YtimjlfkdbkafeaaGreat
set_option linter.unusedVariables false
open Go.RowKit
set_option maxRecDepth 20000

set_option maxHeartbeats 2000000 in
theorem rnext_no (e1 : Int) (ao1 : Option Addr) (c1 : Nat) (L1 : List (List Int)) (e2 : Int) (ao2 : Option Addr) (c2 : Nat) (L2 : List (List Int)) (w : World) (h1 : CL w ao1 L1) (h2 : CL w ao2 L2)
    (l1 : L1.length ≤ 255 ∧ ∀ c ∈ L1, c.length ≤ 255) (l2 : L2.length ≤ 255 ∧ ∀ c ∈ L2, c.length ≤ 255) (hno : goodB e1 L1 = false ∨ goodB e2 L2 = false ∨ e2 ≠ e1 + 1 ∨ L2.length ≠ L1.length) :
    Calls Tryz.prog 130 #[.agg #[.int .i64 e1, .slice ao1 L1.length c1], .agg #[.int .i64 e2, .slice ao2 L2.length c2]] w fun e w' => e = .returned (.bool false) ∧ Below w.heap.size w w' := by
  have HB0 := Lib.hid (((Below.refl w.heap.size w).alloc (Nat.le_refl _) (.cells #[.int .i64 e1, .slice ao1 L1.length c1] 27)).alloc (by simp) (.cells #[.int .i64 e2, .slice ao2 L2.length c2] 27))
  have HP := Lib.hid (PB.two w e1 e2 ao1 ao2 L1.length L2.length c1 c2)
  have H1 := Lib.hid (h1.below HB0.out)
  have H2 := Lib.hid (h2.below HB0.out)
  have M1 := Lib.hid l1
  have M2 := Lib.hid l2
  have m1 : (L1.length : Int) ≤ 255 := by omega
  have m2 : (L2.length : Int) ≤ 255 := by omega
  have CG := Lib.hid (rgood_any e1 ao1 c1 L1 _ H1.out M1.out)
  clear h1 h2 l1 l2
  by_cases g1 : goodB e1 L1 = false
  · rw [g1] at CG
    clear hno g1
    go_enter Tryz.func130, Tryz.ntmps130
    go_wp2_with (go_at_call 27; refine CG.out.mono ?_; rintro e w1 ⟨rfl, hb1⟩)
    go_ret
    exact ⟨rfl, HB0.out.trans (hb1.mono HB0.out.size)⟩
  have g1' : goodB e1 L1 = true := by simpa using g1
  obtain ⟨⟨x1, x2⟩, _⟩ := goodB_iff.1 g1'
  rw [g1'] at CG
  have CQ := Lib.hid (fun (w1 : World) hb => rgood_any e2 ao2 c2 L2 w1 (H2.out.below hb) M2.out)
  by_cases g2 : goodB e2 L2 = false
  · rw [g2] at CQ
    clear hno g1 g1' g2
    go_enter Tryz.func130, Tryz.ntmps130
    go_wp2_with (first | (go_at_call 27; with_reducible refine (CQ.out _ HBX.out).mono ?_; rintro e w2 ⟨rfl, hb2⟩) | (go_at_call 27; refine CG.out.mono ?_; rintro e w1 ⟨rfl, hb1⟩; obtain ⟨y0, y1⟩ := (HP.out.2.below hb1).cells; have HBX := Lib.hid hb1; clear hb1))
    go_ret
    exact ⟨rfl, (HB0.out.trans (HBX.out.mono HB0.out.size)).trans (hb2.mono (Nat.le_trans HB0.out.size HBX.out.size))⟩
  have g2' : goodB e2 L2 = true := by simpa using g2
  obtain ⟨⟨z1, z2⟩, _⟩ := goodB_iff.1 g2'
  rw [g2'] at CQ
  by_cases q : e2 = e1 + 1
  · have d1 : (e2 != e1 + 1) = false := bne_eq_false_iff_eq.2 q
    have hq : L2.length ≠ L1.length := by
      rcases hno with h | h | h | h
      · exact absurd h g1
      · exact absurd h g2
      · exact absurd q h
      · exact h
    have d2 : ((L2.length : Int) != (L1.length : Int)) = true := bne_iff_ne.2 (by omega)
    clear hno g1 g1' g2 g2' q hq
    go_enter Tryz.func130, Tryz.ntmps130
    go_wp2_with (first | (go_at_call 27; with_reducible refine (CQ.out _ HBX.out).mono ?_; rintro e w2 ⟨rfl, hb2⟩; obtain ⟨v0, v1⟩ := ((HP.out.1.below HBX.out).below hb2).cells; obtain ⟨v2, v3⟩ := ((HP.out.2.below HBX.out).below hb2).cells) | (go_at_call 27; refine CG.out.mono ?_; rintro e w1 ⟨rfl, hb1⟩; obtain ⟨y0, y1⟩ := (HP.out.2.below hb1).cells; have HBX := Lib.hid hb1; clear hb1))
    go_ret
    exact ⟨rfl, (HB0.out.trans (HBX.out.mono HB0.out.size)).trans (hb2.mono (Nat.le_trans HB0.out.size HBX.out.size))⟩
  · have d1 : (e2 != e1 + 1) = true := bne_iff_ne.2 q
    clear hno g1 g1' g2 g2' q
    go_enter Tryz.func130, Tryz.ntmps130
    go_wp2_with (first | (go_at_call 27; with_reducible refine (CQ.out _ HBX.out).mono ?_; rintro e w2 ⟨rfl, hb2⟩; obtain ⟨v0, v1⟩ := ((HP.out.1.below HBX.out).below hb2).cells; obtain ⟨v2, v3⟩ := ((HP.out.2.below HBX.out).below hb2).cells) | (go_at_call 27; refine CG.out.mono ?_; rintro e w1 ⟨rfl, hb1⟩; obtain ⟨y0, y1⟩ := (HP.out.2.below hb1).cells; have HBX := Lib.hid hb1; clear hb1))
    go_ret
    exact ⟨rfl, (HB0.out.trans (HBX.out.mono HB0.out.size)).trans (hb2.mono (Nat.le_trans HB0.out.size HBX.out.size))⟩
end Go.Proofs.YtimjlfkdbkafeaaGreat
namespace Go.Proofs.YtimjlfkdbkafeaaGreat
open Go.RowKit
/-- the units of n chains, and of k units of the next -/
def preU (L : List (List Int)) (n k : Nat) : List Int := (L.take n).flatten ++ (L.getD n []).take k
theorem preU_succ {L : List (List Int)} {n k : Nat} (hn : n < L.length) (hk : k < L[n].length) : preU L n (k + 1) = preU L n k ++ [L[n][k]] := by
  unfold preU
  have e : L.getD n [] = L[n] := by simp [hn]
  rw [e, List.take_succ_eq_append_getElem hk, List.append_assoc]
theorem preU_chain {L : List (List Int)} {n : Nat} (hn : n < L.length) : preU L n L[n].length = preU L (n + 1) 0 := by
  unfold preU
  have e : L.getD n [] = L[n] := by simp [hn]
  rw [e, List.take_of_length_le (Nat.le_refl _), List.take_zero, List.append_nil, List.take_succ_eq_append_getElem hn, List.flatten_append]
  simp
theorem preU_all (L : List (List Int)) : preU L L.length 0 = L.flatten := by
  unfold preU
  rw [List.take_zero, List.append_nil, List.take_of_length_le (Nat.le_refl _)]
theorem preU_zero (L : List (List Int)) : preU L 0 0 = [] := rfl
theorem preU_nodup {L : List (List Int)} (h : L.flatten.Nodup) {n k : Nat} (hn : n < L.length) (hk : k < L[n].length) : L[n][k] ∉ preU L n k := by
  have e : L.flatten = preU L n k ++ (L[n].drop k ++ (L.drop (n + 1)).flatten) := by
    unfold preU
    have e : L.getD n [] = L[n] := by simp [hn]
    rw [e]
    have h1 : L = L.take n ++ (L[n] :: L.drop (n + 1)) := by rw [← List.drop_eq_getElem_cons hn, List.take_append_drop]
    have h2 : L.flatten = (L.take n ++ (L[n] :: L.drop (n + 1))).flatten := congrArg List.flatten h1
    rw [h2, List.flatten_append, List.flatten_cons, List.append_assoc, ← List.append_assoc (L[n].take k), List.take_append_drop]
  rw [e, List.nodup_append] at h
  intro hin
  exact h.2.2 _ hin _ (List.mem_append_left _ (by rw [List.drop_eq_getElem_cons hk]; exact List.mem_cons_self)) rfl
theorem preU_len {L : List (List Int)} {n k : Nat} (hl : L.length ≤ 255 ∧ ∀ c ∈ L, c.length ≤ 255) (hn : n < L.length) : (preU L n k).length ≤ 70000 := by
  unfold preU
  have h2 := flat_le (L.take n) 255 (fun c hc => hl.2 c (List.mem_of_mem_take hc))
  have h3 := hl.2 L[n] (List.getElem_mem hn)
  have h4 : ((L.getD n []).take k).length ≤ L[n].length := by
    have e : L.getD n [] = L[n] := by simp [hn]
    rw [e, List.length_take]
    exact Nat.min_le_right _ _
  have h5 : (L.take n).length ≤ 255 := by rw [List.length_take]; omega
  have h6 : 255 * (L.take n).length ≤ 255 * 255 := Nat.mul_le_mul_left _ h5
  rw [List.length_append]
  omega
theorem preU_mem {L : List (List Int)} {n k : Nat} {u : Int} (h : u ∈ preU L n k) : u ∈ L.flatten := by
  unfold preU at h
  rcases List.mem_append.1 h with h | h
  · obtain ⟨c, hc, hu⟩ := List.mem_flatten.1 h
    exact List.mem_flatten.2 ⟨c, List.mem_of_mem_take hc, hu⟩
  · have h2 := List.mem_of_mem_take h
    by_cases hn : n < L.length
    · rw [show L.getD n [] = L[n] by simp [hn]] at h2
      exact List.mem_flatten.2 ⟨_, List.getElem_mem hn, h2⟩
    · rw [show L.getD n [] = [] by simp [hn]] at h2
      cases h2
theorem preU_wf {w : World} {ao : Option Addr} {L : List (List Int)} (h : CL w ao L) (n k : Nat) : ∀ u ∈ preU L n k, (Lit.int .i64 u).wf = true := by
  intro u hu
  obtain ⟨c, hc, huc⟩ := List.mem_flatten.1 (preU_mem hu)
  obtain ⟨i, hi, rfl⟩ := List.getElem_of_mem hc
  obtain ⟨_, _, _, _, _, _, hN⟩ := h i hi
  exact hN.wf u huc
theorem goodB_dup {ep : Int} {L : List (List Int)} {n k : Nat} (hn : n < L.length) (hk : k < L[n].length) (h : L[n][k] ∈ preU L n k) : goodB ep L = false := by
  rw [Bool.eq_false_iff]
  intro e
  exact preU_nodup (goodB_iff.1 e).2.2.2 hn hk h
theorem goodB_done {ep : Int} {L : List (List Int)} (h0 : 0 ≤ ep ∧ ep ≤ 2147483647) (h1 : 1 ≤ L.length ∧ L.length ≤ 4) (h : ∀ c ∈ L.take L.length, chainB c = true) (h2 : (preU L L.length 0).Nodup) : goodB ep L = true := by
  rw [List.take_of_length_le (Nat.le_refl _)] at h
  rw [preU_all] at h2
  exact goodB_iff.2 ⟨h0, h1, h, h2⟩
theorem nodup_snoc {l : List Int} {u : Int} (h : l.Nodup) (hu : u ∉ l) : (l ++ [u]).Nodup := by
  rw [List.nodup_append]
  refine ⟨h, by simp, fun a ha b hb e => ?_⟩
  rw [List.mem_singleton] at hb
  subst hb
  exact hu (e ▸ ha)
end Go.Proofs.YtimjlfkdbkafeaaGreat
namespace Go.Proofs.YtimjlfkdbkafeaaGreat
set_option linter.unusedVariables false
open Go.RowKit
def twL : List (List Int) := [[0, 1]]
theorem twL_good : goodB 0 twL = true := by decide +kernel
def firstS : ByteArray := ⟨#[102, 105, 114, 115, 116]⟩
/-- one question more of the first append, heard -/
def fstH : Nat → Hd × Ap
  | 0 => (⟨newN 0 twL 1, []⟩, newAp 0 twL firstS)
  | k + 1 => ((fstH k).1.asked (fstH k).2.ask 0, (fstH k).2.hear ((fstH k).1.heard (fstH k).2.ask 0) true)
theorem fst_used (k : Nat) (hk : k ≤ 3) : (fstH k).1.n.l = newL 0 twL ∧ (fstH k).1.held = [] := by
  have : k = 0 ∨ k = 1 ∨ k = 2 ∨ k = 3 := by omega
  rcases this with rfl | rfl | rfl | rfl
  · exact ⟨rfl, rfl⟩
  · exact ⟨rfl, rfl⟩
  · exact ⟨rfl, rfl⟩
  · exact ⟨rfl, rfl⟩
/-- nodes without room: the first unit has one page, and no other may come -/
structure FulN (t : Int) (n : Nd) : Prop where
  up : (n.u 0).down = false
  ep : (n.u 0).epoch = 0
  room : (n.u 0).p.room = 1
  edge : (n.u 0).p.edge = 0
  len : (n.u 0).p.l.length = 1
  none : findP (n.u 0).p.l 1 = none
  oe : n.o.epoch = 0
  ok : n.o.knows = true
  ot : n.o.tail = t
  l : n.l = newL 0 twL
theorem fst_full : FulN 1 (fstH 3).1.n := ⟨by decide +kernel, by decide +kernel, by decide +kernel, by decide +kernel, by decide +kernel, by decide +kernel, by decide +kernel, by decide +kernel, by decide +kernel, (fst_used 3 (Nat.le_refl _)).1⟩
theorem FulN.next {n : Nd} (h : FulN 1 n) : n.ans (nextK 0) = anP 0 1 noT 0 ∧ FulN 2 (n.done (nextK 0)) := by
  have e1 : n.ans (nextK 0) = anP 0 1 noT 0 := by
    rw [(next_ans n (k := nextK 0) rfl).1]
    unfold Od.ans
    rw [if_neg (by decide), if_pos (.inl rfl), if_neg (by rw [h.oe]; decide), if_neg (by rw [h.ok]; decide), if_neg (by decide), if_neg (by rw [h.ot]; decide), h.ot, h.oe]
  have e2 : n.done (nextK 0) = n.putO ⟨n.o.epoch, n.o.tail + 1, n.o.knows⟩ := by
    rw [(next_ans n (k := nextK 0) rfl).2]
    unfold Od.done
    rw [if_neg (fun h => absurd h.1 (by decide)), if_pos ⟨rfl, by rw [h.oe]; rfl, h.ok, by rw [h.ot]; decide⟩]
  rw [e1, e2]
  exact ⟨rfl, ⟨h.up, h.ep, h.room, h.edge, h.len, h.none, h.oe, h.ok, by show n.o.tail + 1 = 2; rw [h.ot]; rfl, h.l⟩⟩
theorem FulN.write {t : Int} {n : Nd} (h : FulN t n) {k : Ak} (hk : k.kind = 1) (he : k.epoch = 0) (hu : k.unit = 0) (hp : k.page = 1) (hs : k.data.size ≤ 4096) : (n.ans k).code = 44 ∧ n.done k = n := by
  obtain ⟨p1, p2⟩ := page_ans n (k := k) (.inl hk) (by omega)
  have h0 : k.unit.toNat = 0 := by omega
  rw [h0] at p1 p2
  have ht : thereB k.page = true := thereB_iff.2 (by omega)
  have hk1 : (n.u 0).p.kind k.page = 0 := by
    have := h.edge
    unfold Ps.kind
    rw [if_pos ht, if_neg (by omega), hp, h.none]
  have e1 : (n.u 0).p.writeE k.page k.data = 44 := by
    unfold Ps.writeE
    rw [if_neg (by rw [ht]; decide), if_neg (by omega), hk1, if_neg (by decide), if_neg (by decide), if_pos (by rw [h.room, h.len]; decide)]
  constructor
  · rw [p1]
    unfold Us.ans
    rw [if_neg (by rw [h.up]; decide), if_neg (by omega), if_neg (by rw [h.ep, he]; omega), if_neg (by omega)]
    show (n.u 0).pageE k = 44
    unfold Us.pageE
    rw [if_pos hk, e1]
  · rw [p2]
    have e2 : (n.u 0).done k = n.u 0 := by
      unfold Us.done
      rw [if_neg (by rw [h.up, h.ep, he]; simp; omega), if_neg (by omega)]
      have e3 : (n.u 0).pageP k = (n.u 0).p := by
        unfold Us.pageP
        rw [if_pos hk]
        unfold Ps.write
        rw [e1, if_neg (by decide)]
      rw [e3]
    rw [e2, putU_same]
theorem twL_of : ofP 0 twL 1 = 1 ∧ chainR 0 twL 1 = [0, 1] := by decide +kernel
/-- the second append, i questions on, of which those from the second to the k-th were writes that were lost -/
structure FulA (s : ByteArray) (k i : Nat) (a : Ap) : Prop where
  ep : a.ep = 0
  L : a.L = twL
  txt : a.txt = s
  st : (i = 0 ∧ a.at_ = 2 ∧ a.maybe = false) ∨ ((1 ≤ i ∧ i ≤ k + 1) ∧ a.at_ = 3 ∧ a.addr = 1 ∧ a.i = 0 ∧ a.maybe = decide (2 ≤ i)) ∨ (k + 2 ≤ i ∧ a.at_ = 6 ∧ a.e = if 1 ≤ k then 69 else 44)
theorem FulA.start {s : ByteArray} (k : Nat) (hs : s.size ≤ 4096) : FulA s k 0 (newAp 0 twL s) := by
  unfold newAp
  rw [if_neg (by rw [twL_good]; decide), if_neg (by omega)]
  exact ⟨rfl, rfl, rfl, .inl ⟨rfl, rfl, rfl⟩⟩
/-- of which fate its i-th question is -/
def fulF (k i : Nat) (a : Ap) : Int := if a.ask.kind = 1 ∧ i ≤ k then 1 else 0
/-- how its nodes stand -/
def fulT (i : Nat) : Int := if i = 0 then 1 else 2
theorem FulA.turn {s : ByteArray} {k i : Nat} {a : Ap} {h : Hd} (H : FulA s k i a) (hN : FulN (fulT i) h.n) (hs : s.size ≤ 4096) (hk : k ≤ 2) (h6 : a.at_ ≠ 6) :
    FulA s k (i + 1) (a.hear (h.heard a.ask (fulF k i a)) (decide (fulF k i a = 0))) ∧ FulN (fulT (i + 1)) (h.asked a.ask (fulF k i a)).n ∧ (h.asked a.ask (fulF k i a)).held = h.held := by
  rcases H.st with ⟨h1, h2, h3⟩ | ⟨h1, h2, h3, h4, h5⟩ | ⟨h1, h2, h3⟩
  · subst h1
    have hq : a.ask = nextK 0 := by unfold Ap.ask; rw [if_neg (by omega), if_pos h2, H.ep]
    have hf : fulF k 0 a = 0 := by unfold fulF; rw [hq, if_neg (fun h => absurd h.1 (by decide))]
    have e1 : h.asked a.ask 0 = ⟨h.n.done a.ask, h.held⟩ := by unfold Hd.asked; rw [if_pos (.inl rfl)]
    have e2 : h.heard a.ask 0 = h.n.ans a.ask := by unfold Hd.heard; rw [if_pos rfl]
    rw [hf, e1, e2, hq]
    obtain ⟨g1, g2⟩ := FulN.next hN
    rw [g1]
    refine ⟨?_, g2, rfl⟩
    rw [decide_eq_true rfl, hear_token h2 rfl (show 0 ≤ (1 : Int) ∧ (1 : Int) < 16384 by decide)]
    refine ⟨H.ep, H.L, H.txt, .inr (.inl ⟨by omega, rfl, rfl, rfl, ?_⟩)⟩
    show (a.maybe || (decide (a.at_ = 3) && _)) = _
    rw [h3, h2]
    rfl
  · have hq : a.ask = a.unitK 1 a.txt := by unfold Ap.ask; rw [if_neg (by omega), if_neg (by omega), if_pos h2]
    have kk : a.ask.kind = 1 := by rw [hq]; rfl
    by_cases hi : i ≤ k
    · have hf : fulF k i a = 1 := by unfold fulF; rw [if_pos ⟨kk, hi⟩]
      have e1 : h.asked a.ask 1 = h := by unfold Hd.asked; rw [if_neg (by decide), if_neg (fun h => absurd h.1 (by decide))]
      rw [hf, e1]
      refine ⟨?_, ?_, rfl⟩
      · rw [decide_eq_false (by decide), hear_deaf h6]
        refine ⟨H.ep, H.L, H.txt, .inr (.inl ⟨by omega, h2, h3, h4, ?_⟩)⟩
        show (a.maybe || (decide (a.at_ = 3) && (!false || _))) = _
        rw [h2, show decide (2 ≤ i + 1) = true from decide_eq_true (by omega)]
        cases a.maybe <;> rfl
      · have : fulT (i + 1) = fulT i := by unfold fulT; rw [if_neg (by omega), if_neg (by omega)]
        rw [this]
        exact hN
    · have hf : fulF k i a = 0 := by unfold fulF; rw [if_neg (fun h => hi h.2)]
      have e1 : h.asked a.ask 0 = ⟨h.n.done a.ask, h.held⟩ := by unfold Hd.asked; rw [if_pos (.inl rfl)]
      have e2 : h.heard a.ask 0 = h.n.ans a.ask := by unfold Hd.heard; rw [if_pos rfl]
      have g := hN.write (k := a.ask) kk (by rw [hq]; exact H.ep) (by rw [hq]; show (chainR a.ep a.L a.addr).getD a.i 0 = 0; rw [H.ep, H.L, h3, h4, twL_of.2]; rfl) (by rw [hq]; show ofP a.ep a.L a.addr = 1; rw [H.ep, H.L, h3, twL_of.1]) (by rw [hq]; show a.txt.size ≤ 4096; rw [H.txt]; exact hs)
      rw [hf, e1, e2]
      refine ⟨?_, ?_, rfl⟩
      · rw [decide_eq_true rfl]
        have he : a.hear (h.n.ans a.ask) true = (a.maybeB (h.n.ans a.ask)).full := by
          unfold Ap.hear
          rw [if_neg (by omega)]
          dsimp only
          rw [if_neg (by rw [g.1]; simp), if_neg (by omega), if_neg (by omega), if_neg (by omega), if_neg (by omega), if_neg (by omega), if_pos h2, if_neg (by omega), if_neg (by omega), if_neg (by omega), if_pos g.1]
          rfl
        rw [he]
        refine ⟨H.ep, H.L, H.txt, .inr (.inr ⟨by omega, rfl, ?_⟩)⟩
        show (if (a.maybe || (decide (a.at_ = 3) && (!true || decide ((h.n.ans a.ask).code = 0)))) = true then (69 : Int) else 44) = _
        rw [g.1, h5, h2]
        by_cases hk1 : 1 ≤ k
        · rw [if_pos hk1, if_pos (by rw [decide_eq_true (by omega)]; rfl)]
        · rw [if_neg hk1, if_neg (by rw [decide_eq_false (by omega)]; decide)]
      · show FulN (fulT (i + 1)) (h.n.done a.ask)
        have : fulT (i + 1) = fulT i := by unfold fulT; rw [if_neg (by omega), if_neg (by omega)]
        rw [g.2, this]
        exact hN
  · exact absurd h2 h6
end Go.Proofs.YtimjlfkdbkafeaaGreat
