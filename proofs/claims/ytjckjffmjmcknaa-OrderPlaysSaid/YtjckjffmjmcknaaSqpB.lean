/- What the program's sequencer answers a question that looks, or that is none of its. Conditions: it and the question lie where the call was told. -/
import Derived.Test.YtjckjffmjmcknaaSqpA
namespace Go.Proofs.Ytjckjffmjmcknaa
set_option linter.unusedVariables false
open Go.RowKit
set_option maxRecDepth 20000
set_option maxHeartbeats 800000 in
theorem on_refuse (b : Nat) (G : Nat → Prop) (w : World) (o : Od) (a : Ak) (h : OM b G w o) :
    Calls Try.prog 24 #[ptrO b, askV a] w fun e w' => e = .returned (anW 1 0 noT 0) ∧ Leaves (OM b) G w w' o := by
  obtain ⟨k, un, ep, pg, sz, n, s, pe, L, ao, cap⟩ := a
  have CC := Lib.hid ocoded_any
  have HS := Lib.hid (boxed_start (om_thing b) h #[.int .i64 k, .int .i64 un, .int .i64 ep, .int .i64 pg, .int .i64 sz, .int .i64 n, .string s, .int .i64 pe, .slice ao L.length cap])
  unfold zeroAn at HS
  clear h
  show Calls _ _ #[.pointer (some ⟨b, 0, none⟩), .agg #[.int .i64 k, .int .i64 un, .int .i64 ep, .int .i64 pg, .int .i64 sz, .int .i64 n, .string s, .int .i64 pe, .slice ao L.length cap]] w _
  go_enter Try.func24, Try.ntmps24
  go_wp2_with (go_at_call 18; refine (CC.out _ _).mono ?_; rintro e w3 ⟨rfl, hb3⟩; have HT3 := Lib.hid (HS.out.below (om_thing b) hb3); clear hb3; obtain ⟨nl1, nl2⟩ := HT3.out.small; obtain ⟨⟨ny0, ny1, ny2, ny3, ny4, ny5, ny6, ny7⟩, nfy0, nfy1, nfy2, nfy3, nfy4, nfy5, nfy6, nfy7⟩ := eight_cells HT3.out.ans)
  exact ans_ret (x := anP 1 0 noT 0) (ao := none) (cap := 0) rfl (HT3.out.fin (om_thing b)).1 rfl rfl ⟨rfl, (HT3.out.fin (om_thing b)).2⟩
set_option maxHeartbeats 800000 in
theorem on_look_other (b : Nat) (G : Nat → Prop) (w : World) (o : Od) (a : Ak) (h : OM b G w o) (he : a.epoch ≠ o.epoch) :
    Calls Try.prog 23 #[ptrO b, askV a] w fun e w' => e = .returned (anW 40 0 noT 0) ∧ Leaves (OM b) G w w' o := by
  obtain ⟨k, un, ep, pg, sz, n, s, pe, L, ao, cap⟩ := a
  obtain ⟨oe, ot, ok⟩ := o
  simp only at *
  have de : (ep != oe) = true := bne_iff_ne.2 he
  clear he
  have CC := Lib.hid ocoded_any
  have HS := Lib.hid (boxed_start (om_thing b) h #[.int .i64 k, .int .i64 un, .int .i64 ep, .int .i64 pg, .int .i64 sz, .int .i64 n, .string s, .int .i64 pe, .slice ao L.length cap])
  unfold zeroAn at HS
  clear h
  show Calls _ _ #[.pointer (some ⟨b, 0, none⟩), .agg #[.int .i64 k, .int .i64 un, .int .i64 ep, .int .i64 pg, .int .i64 sz, .int .i64 n, .string s, .int .i64 pe, .slice ao L.length cap]] w _
  go_enter Try.func23, Try.ntmps23
  go_wp2_with fail
  generalize hW0 : ((w.alloc (.cells #[.int .i64 k, .int .i64 un, .int .i64 ep, .int .i64 pg, .int .i64 sz, .int .i64 n, .string s, .int .i64 pe, .slice ao L.length cap] 32)).alloc (.cells #[.int .i64 0, .int .i64 0, .string ⟨#[]⟩, .int .i64 0, .slice none 0 0, .int .i64 0, .int .i64 0, .int .i64 0] 40)) = W0 at *
  clear hW0
  obtain ⟨l1, l2⟩ := HS.out.small
  obtain ⟨H, hH, _⟩ := HS.out.use
  have x2 : W0.cell? ⟨w.heap.size, 2, none⟩ = some (.int .i64 ep) := cell_of HS.out.ask 2
  obtain ⟨t, _, hc⟩ := hH.cells
  obtain ⟨c0, c1, c2, _⟩ := three_cells hc
  have hb := hH.small
  clear hH hc
  go_quiet (fail)
  have HT2 := Lib.hid (HS.out.drewN (om_thing b) nq)
  generalize hW2 : World.drewN W0 nq = w2 at *
  clear hW2 x2 c0 c1 c2 hb l1 l2
  obtain ⟨l1, l2⟩ := HT2.out.small
  go_wp2_with (go_at_call 18; refine (CC.out _ _).mono ?_; rintro e w3 ⟨rfl, hb3⟩; have HT3 := Lib.hid (HT2.out.below (om_thing b) hb3); clear hb3; obtain ⟨nl1, nl2⟩ := HT3.out.small; obtain ⟨⟨ny0, ny1, ny2, ny3, ny4, ny5, ny6, ny7⟩, nfy0, nfy1, nfy2, nfy3, nfy4, nfy5, nfy6, nfy7⟩ := eight_cells HT3.out.ans)
  exact ans_ret (x := anP 40 0 noT 0) (ao := none) (cap := 0) rfl (HT3.out.fin (om_thing b)).1 rfl rfl ⟨rfl, (HT3.out.fin (om_thing b)).2⟩
set_option maxHeartbeats 800000 in
theorem on_look_dumb (b : Nat) (G : Nat → Prop) (w : World) (o : Od) (a : Ak) (h : OM b G w o) (he : a.epoch = o.epoch) (hn : o.knows = false) :
    Calls Try.prog 23 #[ptrO b, askV a] w fun e w' => e = .returned (anW 47 0 noT 0) ∧ Leaves (OM b) G w w' o := by
  obtain ⟨k, un, ep, pg, sz, n, s, pe, L, ao, cap⟩ := a
  obtain ⟨oe, ot, ok⟩ := o
  simp only at *
  have de : (ep != oe) = false := bne_eq_false_iff_eq.2 he
  clear he
  subst hn
  have CC := Lib.hid ocoded_any
  have HS := Lib.hid (boxed_start (om_thing b) h #[.int .i64 k, .int .i64 un, .int .i64 ep, .int .i64 pg, .int .i64 sz, .int .i64 n, .string s, .int .i64 pe, .slice ao L.length cap])
  unfold zeroAn at HS
  clear h
  show Calls _ _ #[.pointer (some ⟨b, 0, none⟩), .agg #[.int .i64 k, .int .i64 un, .int .i64 ep, .int .i64 pg, .int .i64 sz, .int .i64 n, .string s, .int .i64 pe, .slice ao L.length cap]] w _
  go_enter Try.func23, Try.ntmps23
  go_wp2_with fail
  generalize hW0 : ((w.alloc (.cells #[.int .i64 k, .int .i64 un, .int .i64 ep, .int .i64 pg, .int .i64 sz, .int .i64 n, .string s, .int .i64 pe, .slice ao L.length cap] 32)).alloc (.cells #[.int .i64 0, .int .i64 0, .string ⟨#[]⟩, .int .i64 0, .slice none 0 0, .int .i64 0, .int .i64 0, .int .i64 0] 40)) = W0 at *
  clear hW0
  obtain ⟨l1, l2⟩ := HS.out.small
  obtain ⟨H, hH, _⟩ := HS.out.use
  have x2 : W0.cell? ⟨w.heap.size, 2, none⟩ = some (.int .i64 ep) := cell_of HS.out.ask 2
  obtain ⟨t, _, hc⟩ := hH.cells
  obtain ⟨c0, c1, c2, _⟩ := three_cells hc
  have hb := hH.small
  clear hH hc
  go_quiet (fail)
  have HT2 := Lib.hid (HS.out.drewN (om_thing b) nq)
  generalize hW2 : World.drewN W0 nq = w2 at *
  clear hW2 x2 c0 c1 c2 hb l1 l2
  obtain ⟨l1, l2⟩ := HT2.out.small
  obtain ⟨H, hH, _⟩ := HT2.out.use
  obtain ⟨t2, _, hc⟩ := hH.cells
  obtain ⟨c0, c1, c2, _⟩ := three_cells hc
  have hb := hH.small
  clear hH hc
  go_wp2_with (go_at_call 18; refine (CC.out _ _).mono ?_; rintro e w3 ⟨rfl, hb3⟩; have HT3 := Lib.hid (HT2.out.below (om_thing b) hb3); clear hb3; obtain ⟨nl1, nl2⟩ := HT3.out.small; obtain ⟨⟨ny0, ny1, ny2, ny3, ny4, ny5, ny6, ny7⟩, nfy0, nfy1, nfy2, nfy3, nfy4, nfy5, nfy6, nfy7⟩ := eight_cells HT3.out.ans)
  exact ans_ret (x := anP 47 0 noT 0) (ao := none) (cap := 0) rfl (HT3.out.fin (om_thing b)).1 rfl rfl ⟨rfl, (HT3.out.fin (om_thing b)).2⟩
set_option maxHeartbeats 800000 in
theorem on_look (b : Nat) (G : Nat → Prop) (w : World) (o : Od) (a : Ak) (h : OM b G w o) (he : a.epoch = o.epoch) (hn : o.knows = true) :
    Calls Try.prog 23 #[ptrO b, askV a] w fun e w' => e = .returned (anW 0 o.tail noT 0) ∧ Leaves (OM b) G w w' o := by
  obtain ⟨k, un, ep, pg, sz, n, s, pe, L, ao, cap⟩ := a
  obtain ⟨oe, ot, ok⟩ := o
  simp only at *
  have de : (ep != oe) = false := bne_eq_false_iff_eq.2 he
  clear he
  subst hn
  have HS := Lib.hid (boxed_start (om_thing b) h #[.int .i64 k, .int .i64 un, .int .i64 ep, .int .i64 pg, .int .i64 sz, .int .i64 n, .string s, .int .i64 pe, .slice ao L.length cap])
  unfold zeroAn at HS
  clear h
  show Calls _ _ #[.pointer (some ⟨b, 0, none⟩), .agg #[.int .i64 k, .int .i64 un, .int .i64 ep, .int .i64 pg, .int .i64 sz, .int .i64 n, .string s, .int .i64 pe, .slice ao L.length cap]] w _
  go_enter Try.func23, Try.ntmps23
  go_wp2_with fail
  generalize hW0 : ((w.alloc (.cells #[.int .i64 k, .int .i64 un, .int .i64 ep, .int .i64 pg, .int .i64 sz, .int .i64 n, .string s, .int .i64 pe, .slice ao L.length cap] 32)).alloc (.cells #[.int .i64 0, .int .i64 0, .string ⟨#[]⟩, .int .i64 0, .slice none 0 0, .int .i64 0, .int .i64 0, .int .i64 0] 40)) = W0 at *
  clear hW0
  obtain ⟨l1, l2⟩ := HS.out.small
  obtain ⟨H, hH, _⟩ := HS.out.use
  have x2 : W0.cell? ⟨w.heap.size, 2, none⟩ = some (.int .i64 ep) := cell_of HS.out.ask 2
  obtain ⟨t, _, hc⟩ := hH.cells
  obtain ⟨c0, c1, c2, _⟩ := three_cells hc
  have hb := hH.small
  clear hH hc
  go_quiet (fail)
  have HT2 := Lib.hid (HS.out.drewN (om_thing b) nq)
  generalize hW2 : World.drewN W0 nq = w2 at *
  clear hW2 x2 c0 c1 c2 hb l1 l2
  obtain ⟨l1, l2⟩ := HT2.out.small
  obtain ⟨H, hH, _⟩ := HT2.out.use
  obtain ⟨t2, ht2, hc⟩ := hH.cells
  have et : t2 = ot := ht2 rfl
  clear ht2
  subst et
  obtain ⟨c0, c1, c2, _⟩ := three_cells hc
  have hb := hH.small
  clear hH hc
  obtain ⟨⟨ny0, ny1, ny2, ny3, ny4, ny5, ny6, ny7⟩, nfy0, nfy1, nfy2, nfy3, nfy4, nfy5, nfy6, nfy7⟩ := eight_cells HT2.out.ans
  go_wp2_with fail
  exact ans_ret (x := anP 0 t2 noT 0) (ao := none) (cap := 0) rfl (HT2.out.fin (om_thing b)).1 rfl rfl ⟨rfl, (HT2.out.fin (om_thing b)).2⟩
end Go.Proofs.Ytjckjffmjmcknaa
