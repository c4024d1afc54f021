/- What the program's sequencer answers a question for the next address, and one that starts it. Conditions: it and the question lie where the call was told. (Written by gen/gensqp.py.) What the document's own Next returns, where the two projections don't fit by themselves. Conditions: the projections lie where the call was told, and are not too large. -/
import Derived.Test.YtchhmfdalghgcaaGreatG11b
import Derived.StillTailTactics
import Derived.Test.YtchhmfdalghgcaaGreatG11a
import Derived.Test.YtchhmfdalghgcaaGreatG10b
set_option linter.unusedVariables false
namespace Go.Proofs.YtchhmfdalghgcaaGreat
set_option linter.unusedVariables false
open Go.RowKit
set_option maxRecDepth 20000
set_option maxHeartbeats 400000 in
theorem on_next_other (b : Nat) (G : Nat → Prop) (w : World) (o : Od) (a : Ak) (h : OM b G w o) (he : a.epoch ≠ o.epoch) :
    Calls Tryz.prog 64 #[ptrO b, askV a] w fun e w' => e = .returned (anW 40 0 noT 0) ∧ Leaves (OM b) G w w' o := by
  obtain ⟨k, un, ep, pg, sz, n, s, pe, L, ao, cap⟩ := a
  obtain ⟨oe, ot, ok⟩ := o
  simp only at *
  have CC := Lib.hid ocoded_any
  have HS := Lib.hid (boxed_start (om_thing b) h #[.int .i64 k, .int .i64 un, .int .i64 ep, .int .i64 pg, .int .i64 sz, .int .i64 n, .string s, .int .i64 pe, .slice ao L.length cap])
  unfold zeroAn at HS
  have hbw := h.small
  obtain ⟨H2, hH2, hU2⟩ := HS.out.use
  have HU2 := Lib.hid hU2
  have HF2 := Lib.hid (show Calls Tryz.prog 65 #[.pointer (some ⟨b, 0, none⟩), .agg #[.int .i64 k, .int .i64 un, .int .i64 ep, .int .i64 pg, .int .i64 sz, .int .i64 n, .string s, .int .i64 pe, .slice ao L.length cap]] _ fun e w' => e = .returned (.agg #[.int .i64 40, .int .i64 0, .string ⟨#[]⟩, .int .i64 0, .slice none 0 0, .int .i64 0, .int .i64 0, .int .i64 0]) ∧ Leaves (OM b) H2 _ w' _ from on_look_other b H2 _ _ ⟨k, un, ep, pg, sz, n, s, pe, L, ao, cap⟩ hH2 he)
  clear hU2 hH2 he
  clear h
  show Calls _ _ #[.pointer (some ⟨b, 0, none⟩), .agg #[.int .i64 k, .int .i64 un, .int .i64 ep, .int .i64 pg, .int .i64 sz, .int .i64 n, .string s, .int .i64 pe, .slice ao L.length cap]] w _
  go_enter Tryz.func64, Tryz.ntmps64
  go_wp2_with fail
  refine HF2.out.mono ?_
  rintro e w2 ⟨rfl, hl⟩
  have HT2 := Lib.hid (HU2.out _ _ hl)
  clear hl HF2 HU2
  obtain ⟨nl1, nl2⟩ := HT2.out.small
  obtain ⟨⟨ny0, ny1, ny2, ny3, ny4, ny5, ny6, ny7⟩, nfy0, nfy1, nfy2, nfy3, nfy4, nfy5, nfy6, nfy7⟩ := eight_cells HT2.out.ans
  go_wp2_with fail
  have hF := HT2.out.fin (om_thing b) (v0 := .int .i64 40) (v1 := .int .i64 0) (v2 := .string ⟨#[]⟩) (v3 := .int .i64 0) (v4 := .slice none 0 0) (v5 := .int .i64 0) (v6 := .int .i64 0) (v7 := .int .i64 0)
  have hY := fun (x : Obj) => below_heap ((Below.refl _ _).alloc (Nat.le_refl _) x) hF.1
  have hL := fun (x : Obj) => hF.2.below (om_thing b) ((Below.refl _ _).alloc (Nat.le_refl _) x)
  clear hF
  exact ans_ret (x := anP 40 0 noT 0) (ao := none) (cap := 0) rfl (hY _) rfl rfl ⟨rfl, hL _⟩
set_option maxHeartbeats 400000 in
theorem on_next_dumb (b : Nat) (G : Nat → Prop) (w : World) (o : Od) (a : Ak) (h : OM b G w o) (he : a.epoch = o.epoch) (hn : o.knows = false) :
    Calls Tryz.prog 64 #[ptrO b, askV a] w fun e w' => e = .returned (anW 47 0 noT 0) ∧ Leaves (OM b) G w w' o := by
  obtain ⟨k, un, ep, pg, sz, n, s, pe, L, ao, cap⟩ := a
  obtain ⟨oe, ot, ok⟩ := o
  simp only at *
  have CC := Lib.hid ocoded_any
  have HS := Lib.hid (boxed_start (om_thing b) h #[.int .i64 k, .int .i64 un, .int .i64 ep, .int .i64 pg, .int .i64 sz, .int .i64 n, .string s, .int .i64 pe, .slice ao L.length cap])
  unfold zeroAn at HS
  have hbw := h.small
  obtain ⟨H2, hH2, hU2⟩ := HS.out.use
  have HU2 := Lib.hid hU2
  have HF2 := Lib.hid (show Calls Tryz.prog 65 #[.pointer (some ⟨b, 0, none⟩), .agg #[.int .i64 k, .int .i64 un, .int .i64 ep, .int .i64 pg, .int .i64 sz, .int .i64 n, .string s, .int .i64 pe, .slice ao L.length cap]] _ fun e w' => e = .returned (.agg #[.int .i64 47, .int .i64 0, .string ⟨#[]⟩, .int .i64 0, .slice none 0 0, .int .i64 0, .int .i64 0, .int .i64 0]) ∧ Leaves (OM b) H2 _ w' _ from on_look_dumb b H2 _ _ ⟨k, un, ep, pg, sz, n, s, pe, L, ao, cap⟩ hH2 he hn)
  clear hU2 hH2 he hn
  clear h
  show Calls _ _ #[.pointer (some ⟨b, 0, none⟩), .agg #[.int .i64 k, .int .i64 un, .int .i64 ep, .int .i64 pg, .int .i64 sz, .int .i64 n, .string s, .int .i64 pe, .slice ao L.length cap]] w _
  go_enter Tryz.func64, Tryz.ntmps64
  go_wp2_with fail
  refine HF2.out.mono ?_
  rintro e w2 ⟨rfl, hl⟩
  have HT2 := Lib.hid (HU2.out _ _ hl)
  clear hl HF2 HU2
  obtain ⟨nl1, nl2⟩ := HT2.out.small
  obtain ⟨⟨ny0, ny1, ny2, ny3, ny4, ny5, ny6, ny7⟩, nfy0, nfy1, nfy2, nfy3, nfy4, nfy5, nfy6, nfy7⟩ := eight_cells HT2.out.ans
  go_wp2_with fail
  have hF := HT2.out.fin (om_thing b) (v0 := .int .i64 47) (v1 := .int .i64 0) (v2 := .string ⟨#[]⟩) (v3 := .int .i64 0) (v4 := .slice none 0 0) (v5 := .int .i64 0) (v6 := .int .i64 0) (v7 := .int .i64 0)
  have hY := fun (x : Obj) => below_heap ((Below.refl _ _).alloc (Nat.le_refl _) x) hF.1
  have hL := fun (x : Obj) => hF.2.below (om_thing b) ((Below.refl _ _).alloc (Nat.le_refl _) x)
  clear hF
  exact ans_ret (x := anP 47 0 noT 0) (ao := none) (cap := 0) rfl (hY _) rfl rfl ⟨rfl, hL _⟩
set_option maxHeartbeats 400000 in
theorem on_next_full (b : Nat) (G : Nat → Prop) (w : World) (o : Od) (a : Ak) (h : OM b G w o) (he : a.epoch = o.epoch) (hn : o.knows = true) (ht : o.tail = 16384) :
    Calls Tryz.prog 64 #[ptrO b, askV a] w fun e w' => e = .returned (anW 44 0 noT 0) ∧ Leaves (OM b) G w w' o := by
  obtain ⟨k, un, ep, pg, sz, n, s, pe, L, ao, cap⟩ := a
  obtain ⟨oe, ot, ok⟩ := o
  simp only at *
  subst ht
  subst hn
  have CC := Lib.hid ocoded_any
  have HS := Lib.hid (boxed_start (om_thing b) h #[.int .i64 k, .int .i64 un, .int .i64 ep, .int .i64 pg, .int .i64 sz, .int .i64 n, .string s, .int .i64 pe, .slice ao L.length cap])
  unfold zeroAn at HS
  have hbw := h.small
  obtain ⟨H2, hH2, hU2⟩ := HS.out.use
  have HU2 := Lib.hid hU2
  have HF2 := Lib.hid (show Calls Tryz.prog 65 #[.pointer (some ⟨b, 0, none⟩), .agg #[.int .i64 k, .int .i64 un, .int .i64 ep, .int .i64 pg, .int .i64 sz, .int .i64 n, .string s, .int .i64 pe, .slice ao L.length cap]] _ fun e w' => e = .returned (.agg #[.int .i64 0, .int .i64 16384, .string ⟨#[]⟩, .int .i64 0, .slice none 0 0, .int .i64 0, .int .i64 0, .int .i64 0]) ∧ Leaves (OM b) H2 _ w' _ from on_look b H2 _ _ ⟨k, un, ep, pg, sz, n, s, pe, L, ao, cap⟩ hH2 he rfl)
  clear hU2 hH2 he
  clear h
  show Calls _ _ #[.pointer (some ⟨b, 0, none⟩), .agg #[.int .i64 k, .int .i64 un, .int .i64 ep, .int .i64 pg, .int .i64 sz, .int .i64 n, .string s, .int .i64 pe, .slice ao L.length cap]] w _
  go_enter Tryz.func64, Tryz.ntmps64
  go_wp2_with fail
  refine HF2.out.mono ?_
  rintro e w2 ⟨rfl, hl⟩
  have HT2 := Lib.hid (HU2.out _ _ hl)
  clear hl HF2 HU2
  obtain ⟨nl1, nl2⟩ := HT2.out.small
  obtain ⟨⟨ny0, ny1, ny2, ny3, ny4, ny5, ny6, ny7⟩, nfy0, nfy1, nfy2, nfy3, nfy4, nfy5, nfy6, nfy7⟩ := eight_cells HT2.out.ans
  obtain ⟨H, hH, hU⟩ := HT2.out.use
  obtain ⟨t2, ht2, hc⟩ := hH.cells
  have et : t2 = 16384 := ht2 rfl
  clear ht2
  subst et
  obtain ⟨c0, c1, c2, f0, f1, f2⟩ := three_cells hc
  have hb := hH.small
  clear hU hH hc
  go_wp2_with (go_at_call 56; refine (CC.out _ _).mono ?_; rintro e w3 ⟨rfl, hb3⟩; have HT3 := Lib.hid ((HT2.out.below (om_thing b) ((Below.refl _ _).alloc (Nat.le_refl _) _)).below (om_thing b) hb3); clear hb3; obtain ⟨nl1, nl2⟩ := HT3.out.small; obtain ⟨⟨ny0, ny1, ny2, ny3, ny4, ny5, ny6, ny7⟩, nfy0, nfy1, nfy2, nfy3, nfy4, nfy5, nfy6, nfy7⟩ := eight_cells HT3.out.ans)
  exact ans_ret (x := anP 44 0 noT 0) (ao := none) (cap := 0) rfl (HT3.out.fin (om_thing b)).1 rfl rfl ⟨rfl, (HT3.out.fin (om_thing b)).2⟩
set_option maxHeartbeats 400000 in
theorem on_next (b : Nat) (G : Nat → Prop) (w : World) (o : Od) (a : Ak) (h : OM b G w o) (he : a.epoch = o.epoch) (hn : o.knows = true) (ht : o.tail ≠ 16384) :
    Calls Tryz.prog 64 #[ptrO b, askV a] w fun e w' => e = .returned (anW 0 o.tail noT 0) ∧ Leaves (OM b) G w w' ⟨o.epoch, o.tail + 1, o.knows⟩ := by
  obtain ⟨k, un, ep, pg, sz, n, s, pe, L, ao, cap⟩ := a
  obtain ⟨oe, ot, ok⟩ := o
  simp only at *
  subst hn
  have CC := Lib.hid ocoded_any
  have HS := Lib.hid (boxed_start (om_thing b) h #[.int .i64 k, .int .i64 un, .int .i64 ep, .int .i64 pg, .int .i64 sz, .int .i64 n, .string s, .int .i64 pe, .slice ao L.length cap])
  unfold zeroAn at HS
  have hbw := h.small
  obtain ⟨H2, hH2, hU2⟩ := HS.out.use
  have HU2 := Lib.hid hU2
  have HF2 := Lib.hid (show Calls Tryz.prog 65 #[.pointer (some ⟨b, 0, none⟩), .agg #[.int .i64 k, .int .i64 un, .int .i64 ep, .int .i64 pg, .int .i64 sz, .int .i64 n, .string s, .int .i64 pe, .slice ao L.length cap]] _ fun e w' => e = .returned (.agg #[.int .i64 0, .int .i64 ot, .string ⟨#[]⟩, .int .i64 0, .slice none 0 0, .int .i64 0, .int .i64 0, .int .i64 0]) ∧ Leaves (OM b) H2 _ w' _ from on_look b H2 _ _ ⟨k, un, ep, pg, sz, n, s, pe, L, ao, cap⟩ hH2 he rfl)
  clear hU2 hH2 he
  clear h
  show Calls _ _ #[.pointer (some ⟨b, 0, none⟩), .agg #[.int .i64 k, .int .i64 un, .int .i64 ep, .int .i64 pg, .int .i64 sz, .int .i64 n, .string s, .int .i64 pe, .slice ao L.length cap]] w _
  go_enter Tryz.func64, Tryz.ntmps64
  go_wp2_with fail
  refine HF2.out.mono ?_
  rintro e w2 ⟨rfl, hl⟩
  have HT2 := Lib.hid (HU2.out _ _ hl)
  clear hl HF2 HU2
  obtain ⟨nl1, nl2⟩ := HT2.out.small
  obtain ⟨⟨ny0, ny1, ny2, ny3, ny4, ny5, ny6, ny7⟩, nfy0, nfy1, nfy2, nfy3, nfy4, nfy5, nfy6, nfy7⟩ := eight_cells HT2.out.ans
  obtain ⟨H, hH, hU⟩ := HT2.out.use
  obtain ⟨t2, ht2, hc⟩ := hH.cells
  have et : t2 = ot := ht2 rfl
  clear ht2
  subst et
  obtain ⟨c0, c1, c2, f0, f1, f2⟩ := three_cells hc
  have hb := hH.small
  have hw1 : wrap64 (t2 + 1) = t2 + 1 := by have := hH.1.tail; simp only at this; rw [wrap64_eq]; omega
  have HT3 := Lib.hid (hU _ _ (hH.steps ht))
  clear hU hH hc
  have hd : (t2 == 16384) = false := beq_eq_false_iff_ne.2 ht
  go_wp2_with fail
  have hF := HT3.out.fin (om_thing b) (v0 := .int .i64 0) (v1 := .int .i64 t2) (v2 := .string ⟨#[]⟩) (v3 := .int .i64 0) (v4 := .slice none 0 0) (v5 := .int .i64 0) (v6 := .int .i64 0) (v7 := .int .i64 0)
  have hY := fun (x : Obj) => below_heap ((Below.refl _ _).alloc (Nat.le_refl _) x) hF.1
  have hL := fun (x : Obj) => hF.2.below (om_thing b) ((Below.refl _ _).alloc (Nat.le_refl _) x)
  clear hF
  exact ans_ret (x := anP 0 t2 noT 0) (ao := none) (cap := 0) rfl (hY _) rfl rfl ⟨rfl, hL _⟩
set_option maxHeartbeats 400000 in
theorem on_start_old (b : Nat) (G : Nat → Prop) (w : World) (o : Od) (a : Ak) (h : OM b G w o) (he : a.epoch ≤ o.epoch) :
    Calls Tryz.prog 63 #[ptrO b, askV a] w fun e w' => e = .returned (anW 40 0 noT 0) ∧ Leaves (OM b) G w w' o := by
  obtain ⟨k, un, ep, pg, sz, n, s, pe, L, ao, cap⟩ := a
  obtain ⟨oe, ot, ok⟩ := o
  simp only at *
  have CC := Lib.hid ocoded_any
  have HS := Lib.hid (boxed_start (om_thing b) h #[.int .i64 k, .int .i64 un, .int .i64 ep, .int .i64 pg, .int .i64 sz, .int .i64 n, .string s, .int .i64 pe, .slice ao L.length cap])
  unfold zeroAn at HS
  have hbw := h.small
  clear h
  show Calls _ _ #[.pointer (some ⟨b, 0, none⟩), .agg #[.int .i64 k, .int .i64 un, .int .i64 ep, .int .i64 pg, .int .i64 sz, .int .i64 n, .string s, .int .i64 pe, .slice ao L.length cap]] w _
  go_enter Tryz.func63, Tryz.ntmps63
  go_wp2_with fail
  generalize hW0 : ((w.alloc (.cells #[.int .i64 k, .int .i64 un, .int .i64 ep, .int .i64 pg, .int .i64 sz, .int .i64 n, .string s, .int .i64 pe, .slice ao L.length cap] 37)).alloc (.cells #[.int .i64 0, .int .i64 0, .string ⟨#[]⟩, .int .i64 0, .slice none 0 0, .int .i64 0, .int .i64 0, .int .i64 0] 33)) = W0 at *
  clear hW0
  obtain ⟨l1, l2⟩ := HS.out.small
  obtain ⟨H, hH, _⟩ := HS.out.use
  have x2 : W0.cell? ⟨w.heap.size, 2, none⟩ = some (.int .i64 ep) := cell_of HS.out.ask 2
  obtain ⟨t, _, hc⟩ := hH.cells
  obtain ⟨c0, c1, c2, _⟩ := three_cells hc
  have hb := hH.small
  clear hH hc
  go_quiet (fail)
  have HT2 := Lib.hid (HS.out.drewN (om_thing b) nq)
  generalize hW2 : World.drewN W0 nq = w2 at *
  clear hW2 x2 c0 c1 c2 hb l1 l2
  obtain ⟨l1, l2⟩ := HT2.out.small
  have x2 : w2.cell? ⟨w.heap.size, 2, none⟩ = some (.int .i64 ep) := cell_of HT2.out.ask 2
  have x3 : w2.cell? ⟨w.heap.size, 3, none⟩ = some (.int .i64 pg) := cell_of HT2.out.ask 3
  go_wp2_with (go_at_call 56; refine (CC.out _ _).mono ?_; rintro e w3 ⟨rfl, hb3⟩; have HT3 := Lib.hid (HT2.out.below (om_thing b) hb3); clear hb3; obtain ⟨nl1, nl2⟩ := HT3.out.small; obtain ⟨⟨ny0, ny1, ny2, ny3, ny4, ny5, ny6, ny7⟩, nfy0, nfy1, nfy2, nfy3, nfy4, nfy5, nfy6, nfy7⟩ := eight_cells HT3.out.ans)
  exact ans_ret (x := anP 40 0 noT 0) (ao := none) (cap := 0) rfl (HT3.out.fin (om_thing b)).1 rfl rfl ⟨rfl, (HT3.out.fin (om_thing b)).2⟩
set_option maxHeartbeats 400000 in
theorem on_start_low (b : Nat) (G : Nat → Prop) (w : World) (o : Od) (a : Ak) (h : OM b G w o) (he : ¬ a.epoch ≤ o.epoch) (hp : a.page < 0) :
    Calls Tryz.prog 63 #[ptrO b, askV a] w fun e w' => e = .returned (anW 1 0 noT 0) ∧ Leaves (OM b) G w w' o := by
  obtain ⟨k, un, ep, pg, sz, n, s, pe, L, ao, cap⟩ := a
  obtain ⟨oe, ot, ok⟩ := o
  simp only at *
  have CC := Lib.hid ocoded_any
  have HS := Lib.hid (boxed_start (om_thing b) h #[.int .i64 k, .int .i64 un, .int .i64 ep, .int .i64 pg, .int .i64 sz, .int .i64 n, .string s, .int .i64 pe, .slice ao L.length cap])
  unfold zeroAn at HS
  have hbw := h.small
  clear h
  show Calls _ _ #[.pointer (some ⟨b, 0, none⟩), .agg #[.int .i64 k, .int .i64 un, .int .i64 ep, .int .i64 pg, .int .i64 sz, .int .i64 n, .string s, .int .i64 pe, .slice ao L.length cap]] w _
  go_enter Tryz.func63, Tryz.ntmps63
  go_wp2_with fail
  generalize hW0 : ((w.alloc (.cells #[.int .i64 k, .int .i64 un, .int .i64 ep, .int .i64 pg, .int .i64 sz, .int .i64 n, .string s, .int .i64 pe, .slice ao L.length cap] 37)).alloc (.cells #[.int .i64 0, .int .i64 0, .string ⟨#[]⟩, .int .i64 0, .slice none 0 0, .int .i64 0, .int .i64 0, .int .i64 0] 33)) = W0 at *
  clear hW0
  obtain ⟨l1, l2⟩ := HS.out.small
  obtain ⟨H, hH, _⟩ := HS.out.use
  have x2 : W0.cell? ⟨w.heap.size, 2, none⟩ = some (.int .i64 ep) := cell_of HS.out.ask 2
  obtain ⟨t, _, hc⟩ := hH.cells
  obtain ⟨c0, c1, c2, _⟩ := three_cells hc
  have hb := hH.small
  clear hH hc
  go_quiet (fail)
  have HT2 := Lib.hid (HS.out.drewN (om_thing b) nq)
  generalize hW2 : World.drewN W0 nq = w2 at *
  clear hW2 x2 c0 c1 c2 hb l1 l2
  obtain ⟨l1, l2⟩ := HT2.out.small
  have x2 : w2.cell? ⟨w.heap.size, 2, none⟩ = some (.int .i64 ep) := cell_of HT2.out.ask 2
  have x3 : w2.cell? ⟨w.heap.size, 3, none⟩ = some (.int .i64 pg) := cell_of HT2.out.ask 3
  go_wp2_with (go_at_call 56; refine (CC.out _ _).mono ?_; rintro e w3 ⟨rfl, hb3⟩; have HT3 := Lib.hid (HT2.out.below (om_thing b) hb3); clear hb3; obtain ⟨nl1, nl2⟩ := HT3.out.small; obtain ⟨⟨ny0, ny1, ny2, ny3, ny4, ny5, ny6, ny7⟩, nfy0, nfy1, nfy2, nfy3, nfy4, nfy5, nfy6, nfy7⟩ := eight_cells HT3.out.ans)
  exact ans_ret (x := anP 1 0 noT 0) (ao := none) (cap := 0) rfl (HT3.out.fin (om_thing b)).1 rfl rfl ⟨rfl, (HT3.out.fin (om_thing b)).2⟩
set_option maxHeartbeats 400000 in
theorem on_start_high (b : Nat) (G : Nat → Prop) (w : World) (o : Od) (a : Ak) (h : OM b G w o) (he : ¬ a.epoch ≤ o.epoch) (hp : 16384 < a.page) :
    Calls Tryz.prog 63 #[ptrO b, askV a] w fun e w' => e = .returned (anW 1 0 noT 0) ∧ Leaves (OM b) G w w' o := by
  obtain ⟨k, un, ep, pg, sz, n, s, pe, L, ao, cap⟩ := a
  obtain ⟨oe, ot, ok⟩ := o
  simp only at *
  have CC := Lib.hid ocoded_any
  have HS := Lib.hid (boxed_start (om_thing b) h #[.int .i64 k, .int .i64 un, .int .i64 ep, .int .i64 pg, .int .i64 sz, .int .i64 n, .string s, .int .i64 pe, .slice ao L.length cap])
  unfold zeroAn at HS
  have hbw := h.small
  clear h
  show Calls _ _ #[.pointer (some ⟨b, 0, none⟩), .agg #[.int .i64 k, .int .i64 un, .int .i64 ep, .int .i64 pg, .int .i64 sz, .int .i64 n, .string s, .int .i64 pe, .slice ao L.length cap]] w _
  go_enter Tryz.func63, Tryz.ntmps63
  go_wp2_with fail
  generalize hW0 : ((w.alloc (.cells #[.int .i64 k, .int .i64 un, .int .i64 ep, .int .i64 pg, .int .i64 sz, .int .i64 n, .string s, .int .i64 pe, .slice ao L.length cap] 37)).alloc (.cells #[.int .i64 0, .int .i64 0, .string ⟨#[]⟩, .int .i64 0, .slice none 0 0, .int .i64 0, .int .i64 0, .int .i64 0] 33)) = W0 at *
  clear hW0
  obtain ⟨l1, l2⟩ := HS.out.small
  obtain ⟨H, hH, _⟩ := HS.out.use
  have x2 : W0.cell? ⟨w.heap.size, 2, none⟩ = some (.int .i64 ep) := cell_of HS.out.ask 2
  obtain ⟨t, _, hc⟩ := hH.cells
  obtain ⟨c0, c1, c2, _⟩ := three_cells hc
  have hb := hH.small
  clear hH hc
  go_quiet (fail)
  have HT2 := Lib.hid (HS.out.drewN (om_thing b) nq)
  generalize hW2 : World.drewN W0 nq = w2 at *
  clear hW2 x2 c0 c1 c2 hb l1 l2
  obtain ⟨l1, l2⟩ := HT2.out.small
  have x2 : w2.cell? ⟨w.heap.size, 2, none⟩ = some (.int .i64 ep) := cell_of HT2.out.ask 2
  have x3 : w2.cell? ⟨w.heap.size, 3, none⟩ = some (.int .i64 pg) := cell_of HT2.out.ask 3
  go_wp2_with (go_at_call 56; refine (CC.out _ _).mono ?_; rintro e w3 ⟨rfl, hb3⟩; have HT3 := Lib.hid (HT2.out.below (om_thing b) hb3); clear hb3; obtain ⟨nl1, nl2⟩ := HT3.out.small; obtain ⟨⟨ny0, ny1, ny2, ny3, ny4, ny5, ny6, ny7⟩, nfy0, nfy1, nfy2, nfy3, nfy4, nfy5, nfy6, nfy7⟩ := eight_cells HT3.out.ans)
  exact ans_ret (x := anP 1 0 noT 0) (ao := none) (cap := 0) rfl (HT3.out.fin (om_thing b)).1 rfl rfl ⟨rfl, (HT3.out.fin (om_thing b)).2⟩
set_option maxHeartbeats 400000 in
theorem on_start (b : Nat) (G : Nat → Prop) (w : World) (o : Od) (a : Ak) (h : OM b G w o) (he : ¬ a.epoch ≤ o.epoch) (hp : 0 ≤ a.page ∧ a.page ≤ 16384) (hw : i64w a.epoch) :
    Calls Tryz.prog 63 #[ptrO b, askV a] w fun e w' => e = .returned (anW 0 0 noT 0) ∧ Leaves (OM b) G w w' ⟨a.epoch, a.page, true⟩ := by
  obtain ⟨k, un, ep, pg, sz, n, s, pe, L, ao, cap⟩ := a
  obtain ⟨oe, ot, ok⟩ := o
  simp only at *
  have HP := Lib.hid hp
  have HW := Lib.hid hw
  clear hp hw
  have CC := Lib.hid ocoded_any
  have HS := Lib.hid (boxed_start (om_thing b) h #[.int .i64 k, .int .i64 un, .int .i64 ep, .int .i64 pg, .int .i64 sz, .int .i64 n, .string s, .int .i64 pe, .slice ao L.length cap])
  unfold zeroAn at HS
  have hbw := h.small
  clear h
  show Calls _ _ #[.pointer (some ⟨b, 0, none⟩), .agg #[.int .i64 k, .int .i64 un, .int .i64 ep, .int .i64 pg, .int .i64 sz, .int .i64 n, .string s, .int .i64 pe, .slice ao L.length cap]] w _
  go_enter Tryz.func63, Tryz.ntmps63
  go_wp2_with fail
  generalize hW0 : ((w.alloc (.cells #[.int .i64 k, .int .i64 un, .int .i64 ep, .int .i64 pg, .int .i64 sz, .int .i64 n, .string s, .int .i64 pe, .slice ao L.length cap] 37)).alloc (.cells #[.int .i64 0, .int .i64 0, .string ⟨#[]⟩, .int .i64 0, .slice none 0 0, .int .i64 0, .int .i64 0, .int .i64 0] 33)) = W0 at *
  clear hW0
  obtain ⟨l1, l2⟩ := HS.out.small
  obtain ⟨H, hH, _⟩ := HS.out.use
  have x2 : W0.cell? ⟨w.heap.size, 2, none⟩ = some (.int .i64 ep) := cell_of HS.out.ask 2
  obtain ⟨t, _, hc⟩ := hH.cells
  obtain ⟨c0, c1, c2, _⟩ := three_cells hc
  have hb := hH.small
  clear hH hc
  go_quiet (fail)
  have HT2 := Lib.hid (HS.out.drewN (om_thing b) nq)
  generalize hW2 : World.drewN W0 nq = w2 at *
  clear hW2 x2 c0 c1 c2 hb l1 l2
  obtain ⟨l1, l2⟩ := HT2.out.small
  have x2 : w2.cell? ⟨w.heap.size, 2, none⟩ = some (.int .i64 ep) := cell_of HT2.out.ask 2
  have x3 : w2.cell? ⟨w.heap.size, 3, none⟩ = some (.int .i64 pg) := cell_of HT2.out.ask 3
  obtain ⟨H, hH, hU⟩ := HT2.out.use
  obtain ⟨t2, ht2, hc⟩ := hH.cells
  obtain ⟨c0, c1, c2, f0, f1, f2⟩ := three_cells hc
  have hb := hH.small
  have HT4 := Lib.hid ((hU _ _ (hH.begins HW.out HP.out)).drewN (om_thing b) 1)
  obtain ⟨hp0, hp1⟩ := HP.out
  clear hU hH hc ht2
  go_wp2_with fail
  go_region
  go_wp2_with (go_at_call 56; refine (CC.out _ _).mono ?_; rintro e w3 ⟨rfl, hb3⟩; have HT3 := Lib.hid (HT4.out.below (om_thing b) hb3); clear hb3; obtain ⟨nl1, nl2⟩ := HT3.out.small; obtain ⟨⟨ny0, ny1, ny2, ny3, ny4, ny5, ny6, ny7⟩, nfy0, nfy1, nfy2, nfy3, nfy4, nfy5, nfy6, nfy7⟩ := eight_cells HT3.out.ans)
  exact ans_ret (x := anP 0 0 noT 0) (ao := none) (cap := 0) rfl (HT3.out.fin (om_thing b)).1 rfl rfl ⟨rfl, (HT3.out.fin (om_thing b)).2⟩
end Go.Proofs.YtchhmfdalghgcaaGreat
namespace Go.Proofs.YtchhmfdalghgcaaGreat
set_option linter.unusedVariables false
open Go.RowKit
set_option maxRecDepth 20000
end Go.Proofs.YtchhmfdalghgcaaGreat
