/- What the program's sequencer answers any question; all that the laws of the sequencer ask of the program. Conditions: it and the question lie where the call was told. (Written by gen/gensqp.py.) What the program's own Write, Fill and Read return, and make of pages. Conditions: the object lies where the call was told; its pages are as the calls make them. Answers that tell a projection: its chains lie in memory of their own, in no block of the thing that was asked. No conditions but those that the statements name. Chains that a statement lays out itself: one of any units, or two. Conditions: numbers of 64 bits. -/
import Derived.Test.YtchhmfdalghgcaaGreatG12a
import Derived.Test.YtchhmfdalghgcaaGreatG12b
set_option linter.unusedVariables false
namespace Go.Proofs.YtchhmfdalghgcaaGreat
set_option linter.unusedVariables false
open Go.RowKit
set_option maxRecDepth 20000
/-- a deed of the sequencer in block b -/
def fnO (f : FuncId) (b : Nat) : Value := .func (.func f) #[.pointer (some ⟨b, 0, none⟩)] #[]
theorem odeed_start (b : Nat) (w : World) : Calls Tryz.prog 57 #[.pointer (some ⟨b, 0, none⟩), .int .i64 8] w fun e w' => e = .returned (fnO 63 b) ∧ Below w.heap.size w w' := by
  go_enter Tryz.func57, Tryz.ntmps57
  go_wp2
  go_ret
  exact ⟨rfl, Below.refl _ _⟩
theorem odeed_next (b : Nat) (w : World) : Calls Tryz.prog 57 #[.pointer (some ⟨b, 0, none⟩), .int .i64 6] w fun e w' => e = .returned (fnO 64 b) ∧ Below w.heap.size w w' := by
  go_enter Tryz.func57, Tryz.ntmps57
  go_wp2
  go_ret
  exact ⟨rfl, Below.refl _ _⟩
theorem odeed_look (b : Nat) (w : World) : Calls Tryz.prog 57 #[.pointer (some ⟨b, 0, none⟩), .int .i64 7] w fun e w' => e = .returned (fnO 65 b) ∧ Below w.heap.size w w' := by
  go_enter Tryz.func57, Tryz.ntmps57
  go_wp2
  go_ret
  exact ⟨rfl, Below.refl _ _⟩
theorem odeed_none (b : Nat) (k : Int) (w : World) (h8 : k ≠ 8) (h6 : k ≠ 6) (h7 : k ≠ 7) : Calls Tryz.prog 57 #[.pointer (some ⟨b, 0, none⟩), .int .i64 k] w fun e w' => e = .returned (fnO 66 b) ∧ Below w.heap.size w w' := by
  have d8 : (k == 8) = false := beq_eq_false_iff_ne.2 h8
  have d6 : (k == 6) = false := beq_eq_false_iff_ne.2 h6
  have d7 : (k == 7) = false := beq_eq_false_iff_ne.2 h7
  clear h8 h6 h7
  go_enter Tryz.func57, Tryz.ntmps57
  go_wp2
  go_ret
  exact ⟨rfl, Below.refl _ _⟩
set_option maxHeartbeats 400000 in
theorem odop_start (b : Nat) (G : Nat → Prop) (w : World) (o o' : Od) (a : Ak) (c m : Int) (h : OM b G w o)
    (hd : ∀ w, Calls Tryz.prog 57 #[.pointer (some ⟨b, 0, none⟩), .int .i64 a.kind] w fun e w' => e = .returned (fnO 63 b) ∧ Below w.heap.size w w')
    (hf : ∀ (H : Nat → Prop) (w : World), OM b H w o → Calls Tryz.prog 63 #[ptrO b, askV a] w fun e w' => e = .returned (anW c m noT 0) ∧ Leaves (OM b) H w w' o') :
    Calls Tryz.prog 40 #[ptrO b, askV a] w fun e w' => e = .returned (anW c m noT o'.epoch) ∧ Leaves (OM b) G w w' o' := by
  obtain ⟨k, un, ep, pg, sz, n, s, pe, L, ao, cap⟩ := a
  obtain ⟨ue, ut, uk⟩ := o'
  simp only at *
  have HS := Lib.hid (boxed_start (om_thing b) h #[.int .i64 k, .int .i64 un, .int .i64 ep, .int .i64 pg, .int .i64 sz, .int .i64 n, .string s, .int .i64 pe, .slice ao L.length cap])
  unfold zeroAn at HS
  have hbw := h.small
  have HD := Lib.hid hd
  unfold fnO at HD
  have HF := Lib.hid (show ∀ (H : Nat → Prop) (w : World), OM b H w o → Calls Tryz.prog 63 #[.pointer (some ⟨b, 0, none⟩), .agg #[.int .i64 k, .int .i64 un, .int .i64 ep, .int .i64 pg, .int .i64 sz, .int .i64 n, .string s, .int .i64 pe, .slice ao L.length cap]] w fun e w' => e = .returned (.agg #[.int .i64 c, .int .i64 m, .string ⟨#[]⟩, .int .i64 0, .slice none 0 0, .int .i64 0, .int .i64 0, .int .i64 0]) ∧ Leaves (OM b) H w w' ⟨ue, ut, uk⟩ from hf)
  clear h hd hf
  show Calls _ _ #[.pointer (some ⟨b, 0, none⟩), .agg #[.int .i64 k, .int .i64 un, .int .i64 ep, .int .i64 pg, .int .i64 sz, .int .i64 n, .string s, .int .i64 pe, .slice ao L.length cap]] w _
  go_enter Tryz.func40, Tryz.ntmps40
  go_wp2_with (go_at_call 57; refine (HD.out _).mono ?_; rintro e w2 ⟨rfl, hb2⟩; have HT2 := Lib.hid (HS.out.below (om_thing b) hb2); clear hb2; obtain ⟨H2, hH2, hU2⟩ := HT2.out.use; have HU2 := Lib.hid hU2; have HF2 := Lib.hid (HF.out H2 _ hH2); clear hU2 hH2; have x := HT2.out.ask; have x0 := cell_of x 0; have x1 := cell_of x 1; have x2 := cell_of x 2; have x3 := cell_of x 3; have x4 := cell_of x 4; have x5 := cell_of x 5; have x6 := cell_of x 6; have x7 := cell_of x 7; have x8 := cell_of x 8; clear x)
  refine HF2.out.mono ?_
  rintro e w3 ⟨rfl, hl⟩
  have HT3 := Lib.hid (HU2.out _ _ hl)
  clear hl
  obtain ⟨H, hH, _⟩ := HT3.out.use
  obtain ⟨t, _, hc⟩ := hH.cells
  obtain ⟨c0, c1, c2, _⟩ := three_cells hc
  have hb := hH.small
  clear hH hc
  obtain ⟨nl1, nl2⟩ := HT3.out.small
  obtain ⟨⟨ny0, ny1, ny2, ny3, ny4, ny5, ny6, ny7⟩, nfy0, nfy1, nfy2, nfy3, nfy4, nfy5, nfy6, nfy7⟩ := eight_cells HT3.out.ans
  go_wp2_with fail
  exact ans_ret (x := anP c m noT ue) (ao := none) (cap := 0) rfl (below_heap ((Below.refl _ _).alloc (Nat.le_refl _) _) (HT3.out.fin (om_thing b)).1) rfl rfl ⟨rfl, (HT3.out.fin (om_thing b)).2.below (om_thing b) ((Below.refl _ _).alloc (Nat.le_refl _) _)⟩
set_option maxHeartbeats 400000 in
theorem odop_next (b : Nat) (G : Nat → Prop) (w : World) (o o' : Od) (a : Ak) (c m : Int) (h : OM b G w o)
    (hd : ∀ w, Calls Tryz.prog 57 #[.pointer (some ⟨b, 0, none⟩), .int .i64 a.kind] w fun e w' => e = .returned (fnO 64 b) ∧ Below w.heap.size w w')
    (hf : ∀ (H : Nat → Prop) (w : World), OM b H w o → Calls Tryz.prog 64 #[ptrO b, askV a] w fun e w' => e = .returned (anW c m noT 0) ∧ Leaves (OM b) H w w' o') :
    Calls Tryz.prog 40 #[ptrO b, askV a] w fun e w' => e = .returned (anW c m noT o'.epoch) ∧ Leaves (OM b) G w w' o' := by
  obtain ⟨k, un, ep, pg, sz, n, s, pe, L, ao, cap⟩ := a
  obtain ⟨ue, ut, uk⟩ := o'
  simp only at *
  have HS := Lib.hid (boxed_start (om_thing b) h #[.int .i64 k, .int .i64 un, .int .i64 ep, .int .i64 pg, .int .i64 sz, .int .i64 n, .string s, .int .i64 pe, .slice ao L.length cap])
  unfold zeroAn at HS
  have hbw := h.small
  have HD := Lib.hid hd
  unfold fnO at HD
  have HF := Lib.hid (show ∀ (H : Nat → Prop) (w : World), OM b H w o → Calls Tryz.prog 64 #[.pointer (some ⟨b, 0, none⟩), .agg #[.int .i64 k, .int .i64 un, .int .i64 ep, .int .i64 pg, .int .i64 sz, .int .i64 n, .string s, .int .i64 pe, .slice ao L.length cap]] w fun e w' => e = .returned (.agg #[.int .i64 c, .int .i64 m, .string ⟨#[]⟩, .int .i64 0, .slice none 0 0, .int .i64 0, .int .i64 0, .int .i64 0]) ∧ Leaves (OM b) H w w' ⟨ue, ut, uk⟩ from hf)
  clear h hd hf
  show Calls _ _ #[.pointer (some ⟨b, 0, none⟩), .agg #[.int .i64 k, .int .i64 un, .int .i64 ep, .int .i64 pg, .int .i64 sz, .int .i64 n, .string s, .int .i64 pe, .slice ao L.length cap]] w _
  go_enter Tryz.func40, Tryz.ntmps40
  go_wp2_with (go_at_call 57; refine (HD.out _).mono ?_; rintro e w2 ⟨rfl, hb2⟩; have HT2 := Lib.hid (HS.out.below (om_thing b) hb2); clear hb2; obtain ⟨H2, hH2, hU2⟩ := HT2.out.use; have HU2 := Lib.hid hU2; have HF2 := Lib.hid (HF.out H2 _ hH2); clear hU2 hH2; have x := HT2.out.ask; have x0 := cell_of x 0; have x1 := cell_of x 1; have x2 := cell_of x 2; have x3 := cell_of x 3; have x4 := cell_of x 4; have x5 := cell_of x 5; have x6 := cell_of x 6; have x7 := cell_of x 7; have x8 := cell_of x 8; clear x)
  refine HF2.out.mono ?_
  rintro e w3 ⟨rfl, hl⟩
  have HT3 := Lib.hid (HU2.out _ _ hl)
  clear hl
  obtain ⟨H, hH, _⟩ := HT3.out.use
  obtain ⟨t, _, hc⟩ := hH.cells
  obtain ⟨c0, c1, c2, _⟩ := three_cells hc
  have hb := hH.small
  clear hH hc
  obtain ⟨nl1, nl2⟩ := HT3.out.small
  obtain ⟨⟨ny0, ny1, ny2, ny3, ny4, ny5, ny6, ny7⟩, nfy0, nfy1, nfy2, nfy3, nfy4, nfy5, nfy6, nfy7⟩ := eight_cells HT3.out.ans
  go_wp2_with fail
  exact ans_ret (x := anP c m noT ue) (ao := none) (cap := 0) rfl (below_heap ((Below.refl _ _).alloc (Nat.le_refl _) _) (HT3.out.fin (om_thing b)).1) rfl rfl ⟨rfl, (HT3.out.fin (om_thing b)).2.below (om_thing b) ((Below.refl _ _).alloc (Nat.le_refl _) _)⟩
set_option maxHeartbeats 400000 in
theorem odop_look (b : Nat) (G : Nat → Prop) (w : World) (o o' : Od) (a : Ak) (c m : Int) (h : OM b G w o)
    (hd : ∀ w, Calls Tryz.prog 57 #[.pointer (some ⟨b, 0, none⟩), .int .i64 a.kind] w fun e w' => e = .returned (fnO 65 b) ∧ Below w.heap.size w w')
    (hf : ∀ (H : Nat → Prop) (w : World), OM b H w o → Calls Tryz.prog 65 #[ptrO b, askV a] w fun e w' => e = .returned (anW c m noT 0) ∧ Leaves (OM b) H w w' o') :
    Calls Tryz.prog 40 #[ptrO b, askV a] w fun e w' => e = .returned (anW c m noT o'.epoch) ∧ Leaves (OM b) G w w' o' := by
  obtain ⟨k, un, ep, pg, sz, n, s, pe, L, ao, cap⟩ := a
  obtain ⟨ue, ut, uk⟩ := o'
  simp only at *
  have HS := Lib.hid (boxed_start (om_thing b) h #[.int .i64 k, .int .i64 un, .int .i64 ep, .int .i64 pg, .int .i64 sz, .int .i64 n, .string s, .int .i64 pe, .slice ao L.length cap])
  unfold zeroAn at HS
  have hbw := h.small
  have HD := Lib.hid hd
  unfold fnO at HD
  have HF := Lib.hid (show ∀ (H : Nat → Prop) (w : World), OM b H w o → Calls Tryz.prog 65 #[.pointer (some ⟨b, 0, none⟩), .agg #[.int .i64 k, .int .i64 un, .int .i64 ep, .int .i64 pg, .int .i64 sz, .int .i64 n, .string s, .int .i64 pe, .slice ao L.length cap]] w fun e w' => e = .returned (.agg #[.int .i64 c, .int .i64 m, .string ⟨#[]⟩, .int .i64 0, .slice none 0 0, .int .i64 0, .int .i64 0, .int .i64 0]) ∧ Leaves (OM b) H w w' ⟨ue, ut, uk⟩ from hf)
  clear h hd hf
  show Calls _ _ #[.pointer (some ⟨b, 0, none⟩), .agg #[.int .i64 k, .int .i64 un, .int .i64 ep, .int .i64 pg, .int .i64 sz, .int .i64 n, .string s, .int .i64 pe, .slice ao L.length cap]] w _
  go_enter Tryz.func40, Tryz.ntmps40
  go_wp2_with (go_at_call 57; refine (HD.out _).mono ?_; rintro e w2 ⟨rfl, hb2⟩; have HT2 := Lib.hid (HS.out.below (om_thing b) hb2); clear hb2; obtain ⟨H2, hH2, hU2⟩ := HT2.out.use; have HU2 := Lib.hid hU2; have HF2 := Lib.hid (HF.out H2 _ hH2); clear hU2 hH2; have x := HT2.out.ask; have x0 := cell_of x 0; have x1 := cell_of x 1; have x2 := cell_of x 2; have x3 := cell_of x 3; have x4 := cell_of x 4; have x5 := cell_of x 5; have x6 := cell_of x 6; have x7 := cell_of x 7; have x8 := cell_of x 8; clear x)
  refine HF2.out.mono ?_
  rintro e w3 ⟨rfl, hl⟩
  have HT3 := Lib.hid (HU2.out _ _ hl)
  clear hl
  obtain ⟨H, hH, _⟩ := HT3.out.use
  obtain ⟨t, _, hc⟩ := hH.cells
  obtain ⟨c0, c1, c2, _⟩ := three_cells hc
  have hb := hH.small
  clear hH hc
  obtain ⟨nl1, nl2⟩ := HT3.out.small
  obtain ⟨⟨ny0, ny1, ny2, ny3, ny4, ny5, ny6, ny7⟩, nfy0, nfy1, nfy2, nfy3, nfy4, nfy5, nfy6, nfy7⟩ := eight_cells HT3.out.ans
  go_wp2_with fail
  exact ans_ret (x := anP c m noT ue) (ao := none) (cap := 0) rfl (below_heap ((Below.refl _ _).alloc (Nat.le_refl _) _) (HT3.out.fin (om_thing b)).1) rfl rfl ⟨rfl, (HT3.out.fin (om_thing b)).2.below (om_thing b) ((Below.refl _ _).alloc (Nat.le_refl _) _)⟩
set_option maxHeartbeats 400000 in
theorem odop_refuse (b : Nat) (G : Nat → Prop) (w : World) (o o' : Od) (a : Ak) (c m : Int) (h : OM b G w o)
    (hd : ∀ w, Calls Tryz.prog 57 #[.pointer (some ⟨b, 0, none⟩), .int .i64 a.kind] w fun e w' => e = .returned (fnO 66 b) ∧ Below w.heap.size w w')
    (hf : ∀ (H : Nat → Prop) (w : World), OM b H w o → Calls Tryz.prog 66 #[ptrO b, askV a] w fun e w' => e = .returned (anW c m noT 0) ∧ Leaves (OM b) H w w' o') :
    Calls Tryz.prog 40 #[ptrO b, askV a] w fun e w' => e = .returned (anW c m noT o'.epoch) ∧ Leaves (OM b) G w w' o' := by
  obtain ⟨k, un, ep, pg, sz, n, s, pe, L, ao, cap⟩ := a
  obtain ⟨ue, ut, uk⟩ := o'
  simp only at *
  have HS := Lib.hid (boxed_start (om_thing b) h #[.int .i64 k, .int .i64 un, .int .i64 ep, .int .i64 pg, .int .i64 sz, .int .i64 n, .string s, .int .i64 pe, .slice ao L.length cap])
  unfold zeroAn at HS
  have hbw := h.small
  have HD := Lib.hid hd
  unfold fnO at HD
  have HF := Lib.hid (show ∀ (H : Nat → Prop) (w : World), OM b H w o → Calls Tryz.prog 66 #[.pointer (some ⟨b, 0, none⟩), .agg #[.int .i64 k, .int .i64 un, .int .i64 ep, .int .i64 pg, .int .i64 sz, .int .i64 n, .string s, .int .i64 pe, .slice ao L.length cap]] w fun e w' => e = .returned (.agg #[.int .i64 c, .int .i64 m, .string ⟨#[]⟩, .int .i64 0, .slice none 0 0, .int .i64 0, .int .i64 0, .int .i64 0]) ∧ Leaves (OM b) H w w' ⟨ue, ut, uk⟩ from hf)
  clear h hd hf
  show Calls _ _ #[.pointer (some ⟨b, 0, none⟩), .agg #[.int .i64 k, .int .i64 un, .int .i64 ep, .int .i64 pg, .int .i64 sz, .int .i64 n, .string s, .int .i64 pe, .slice ao L.length cap]] w _
  go_enter Tryz.func40, Tryz.ntmps40
  go_wp2_with (go_at_call 57; refine (HD.out _).mono ?_; rintro e w2 ⟨rfl, hb2⟩; have HT2 := Lib.hid (HS.out.below (om_thing b) hb2); clear hb2; obtain ⟨H2, hH2, hU2⟩ := HT2.out.use; have HU2 := Lib.hid hU2; have HF2 := Lib.hid (HF.out H2 _ hH2); clear hU2 hH2; have x := HT2.out.ask; have x0 := cell_of x 0; have x1 := cell_of x 1; have x2 := cell_of x 2; have x3 := cell_of x 3; have x4 := cell_of x 4; have x5 := cell_of x 5; have x6 := cell_of x 6; have x7 := cell_of x 7; have x8 := cell_of x 8; clear x)
  refine HF2.out.mono ?_
  rintro e w3 ⟨rfl, hl⟩
  have HT3 := Lib.hid (HU2.out _ _ hl)
  clear hl
  obtain ⟨H, hH, _⟩ := HT3.out.use
  obtain ⟨t, _, hc⟩ := hH.cells
  obtain ⟨c0, c1, c2, _⟩ := three_cells hc
  have hb := hH.small
  clear hH hc
  obtain ⟨nl1, nl2⟩ := HT3.out.small
  obtain ⟨⟨ny0, ny1, ny2, ny3, ny4, ny5, ny6, ny7⟩, nfy0, nfy1, nfy2, nfy3, nfy4, nfy5, nfy6, nfy7⟩ := eight_cells HT3.out.ans
  go_wp2_with fail
  exact ans_ret (x := anP c m noT ue) (ao := none) (cap := 0) rfl (below_heap ((Below.refl _ _).alloc (Nat.le_refl _) _) (HT3.out.fin (om_thing b)).1) rfl rfl ⟨rfl, (HT3.out.fin (om_thing b)).2.below (om_thing b) ((Below.refl _ _).alloc (Nat.le_refl _) _)⟩
theorem on_ask (b : Nat) (G : Nat → Prop) (w : World) (o : Od) (a : Ak) (h : OM b G w o) (ha : AkIn w a) :
    Calls Tryz.prog 40 #[ptrO b, askV a] w fun e w' => e = .returned (anW (o.ans a).code (o.ans a).n (o.ans a).data (o.ans a).epoch) ∧ Leaves (OM b) G w w' (o.done a) := by
  by_cases h8 : a.kind = 8
  · have hD : ∀ w, Calls Tryz.prog 57 #[.pointer (some ⟨b, 0, none⟩), .int .i64 a.kind] w fun e w' => e = .returned (fnO 63 b) ∧ Below w.heap.size w w' := by rw [h8]; exact odeed_start b
    by_cases he : a.epoch ≤ o.epoch
    · rw [show o.ans a = anP 40 0 noT o.epoch from by unfold Od.ans; rw [if_pos h8, if_pos he], show o.done a = o from by unfold Od.done; rw [if_neg (fun h => by have := h.2.1; omega), if_neg (fun h => by have := h.1; omega)]]
      exact odop_start b G w o o a 40 0 h hD (fun H w h => on_start_old b H w o a h he)
    by_cases h1 : a.page < 0
    · rw [show o.ans a = anP 1 0 noT o.epoch from by unfold Od.ans; rw [if_pos h8, if_neg he, if_pos (.inl h1)], show o.done a = o from by unfold Od.done; rw [if_neg (fun h => by have := h.2.2.1; omega), if_neg (fun h => by have := h.1; omega)]]
      exact odop_start b G w o o a 1 0 h hD (fun H w h => on_start_low b H w o a h he h1)
    by_cases h2 : 16384 < a.page
    · rw [show o.ans a = anP 1 0 noT o.epoch from by unfold Od.ans; rw [if_pos h8, if_neg he, if_pos (.inr h2)], show o.done a = o from by unfold Od.done; rw [if_neg (fun h => by have := h.2.2.2; omega), if_neg (fun h => by have := h.1; omega)]]
      exact odop_start b G w o o a 1 0 h hD (fun H w h => on_start_high b H w o a h he h2)
    · rw [show o.ans a = anP 0 0 noT a.epoch from by unfold Od.ans; rw [if_pos h8, if_neg he, if_neg (by omega)], show o.done a = ⟨a.epoch, a.page, true⟩ from by unfold Od.done; rw [if_pos ⟨h8, by omega, by omega, by omega⟩]]
      exact odop_start b G w o ⟨a.epoch, a.page, true⟩ a 0 0 h hD (fun H w h => on_start b H w o a h he ⟨by omega, by omega⟩ ha.1.epoch)
  by_cases h6 : a.kind = 6
  · have hD : ∀ w, Calls Tryz.prog 57 #[.pointer (some ⟨b, 0, none⟩), .int .i64 a.kind] w fun e w' => e = .returned (fnO 64 b) ∧ Below w.heap.size w w' := by rw [h6]; exact odeed_next b
    by_cases he : a.epoch = o.epoch
    · cases hn : o.knows
      · rw [show o.ans a = anP 47 0 noT o.epoch from by unfold Od.ans; rw [if_neg h8, if_pos (.inl h6), if_neg (fun h => h he), if_pos hn], show o.done a = o from by unfold Od.done; rw [if_neg (fun h => h8 h.1), if_neg (fun h => by have := h.2.2.1; rw [hn] at this; cases this)]]
        exact odop_next b G w o o a 47 0 h hD (fun H w h => on_next_dumb b H w o a h he hn)
      by_cases ht : o.tail = 16384
      · rw [show o.ans a = anP 44 0 noT o.epoch from by unfold Od.ans; rw [if_neg h8, if_pos (.inl h6), if_neg (fun h => h he), if_neg (by rw [hn]; decide), if_neg (by omega), if_pos ht], show o.done a = o from by unfold Od.done; rw [if_neg (fun h => h8 h.1), if_neg (fun h => h.2.2.2 ht)]]
        exact odop_next b G w o o a 44 0 h hD (fun H w h => on_next_full b H w o a h he hn ht)
      · rw [show o.ans a = anP 0 o.tail noT o.epoch from by unfold Od.ans; rw [if_neg h8, if_pos (.inl h6), if_neg (fun h => h he), if_neg (by rw [hn]; decide), if_neg (by omega), if_neg ht], show o.done a = ⟨o.epoch, o.tail + 1, o.knows⟩ from by unfold Od.done; rw [if_neg (fun h => h8 h.1), if_pos ⟨h6, he, hn, ht⟩]]
        exact odop_next b G w o ⟨o.epoch, o.tail + 1, o.knows⟩ a 0 o.tail h hD (fun H w h => on_next b H w o a h he hn ht)
    · rw [show o.ans a = anP 40 0 noT o.epoch from by unfold Od.ans; rw [if_neg h8, if_pos (.inl h6), if_pos he], show o.done a = o from by unfold Od.done; rw [if_neg (fun h => h8 h.1), if_neg (fun h => he h.2.1)]]
      exact odop_next b G w o o a 40 0 h hD (fun H w h => on_next_other b H w o a h he)
  have hdone : o.done a = o := by unfold Od.done; rw [if_neg (fun h => h8 h.1), if_neg (fun h => h6 h.1)]
  rw [hdone]
  by_cases h7 : a.kind = 7
  · have hD : ∀ w, Calls Tryz.prog 57 #[.pointer (some ⟨b, 0, none⟩), .int .i64 a.kind] w fun e w' => e = .returned (fnO 65 b) ∧ Below w.heap.size w w' := by rw [h7]; exact odeed_look b
    by_cases he : a.epoch = o.epoch
    · cases hn : o.knows
      · rw [show o.ans a = anP 47 0 noT o.epoch from by unfold Od.ans; rw [if_neg h8, if_pos (.inr h7), if_neg (fun h => h he), if_pos hn]]
        exact odop_look b G w o o a 47 0 h hD (fun H w h => on_look_dumb b H w o a h he hn)
      · rw [show o.ans a = anP 0 o.tail noT o.epoch from by unfold Od.ans; rw [if_neg h8, if_pos (.inr h7), if_neg (fun h => h he), if_neg (by rw [hn]; decide), if_pos h7]]
        exact odop_look b G w o o a 0 o.tail h hD (fun H w h => on_look b H w o a h he hn)
    · rw [show o.ans a = anP 40 0 noT o.epoch from by unfold Od.ans; rw [if_neg h8, if_pos (.inr h7), if_pos he]]
      exact odop_look b G w o o a 40 0 h hD (fun H w h => on_look_other b H w o a h he)
  · rw [show o.ans a = anP 1 0 noT o.epoch from by unfold Od.ans; rw [if_neg h8, if_neg (fun h => h.elim h6 h7)]]
    exact odop_refuse b G w o o a 1 0 h (fun w => odeed_none b a.kind w h8 h6 h7) (fun H w h => on_refuse b H w o a h)
theorem orderSays : OrderSays OM where
  thing := om_thing
  ok := fun h => h.1
  new := on_new
  ask := on_ask
  crash := on_crash
end Go.Proofs.YtchhmfdalghgcaaGreat
namespace Go.Proofs.YtchhmfdalghgcaaGreat
open Go.RowKit Go.Maps
set_option linter.unusedVariables false
set_option maxRecDepth 20000
theorem Ps.Ok.none {p : Ps} (h : p.Ok) {a : Int} (ht : thereB a = true) (hk : p.kind a = 0) : a ∉ p.l.map (·.at_) := by
  intro hm
  obtain ⟨x, hx, e⟩ := List.mem_map.1 hm
  exact (h.kind_zero ht hk).2 x hx e
theorem Ps.Ok.most {p : Ps} (h : p.Ok) : p.l.length ≤ 100000 := by have := h.few; have := h.room; omega
set_option maxHeartbeats 8000000 in
theorem pwrite_any (G : Nat → Prop) (w : World) (b : Nat) (p : Ps) (a : Int) (s : ByteArray) (h : PGm G w b p) (hok : p.Ok) (hs : s.size ≤ 1000000) :
    Calls Tryz.prog 131 #[.pointer (some ⟨b, 0, none⟩), .int .i64 a, .string s] w fun e w' => e = .returned (.int .i64 (p.writeE a s)) ∧ Left PGm G w w' b (p.write a s) := by
  have CN := Lib.hid (pgIsNone_any b a w)
  have CK := Lib.hid (kind_any G w b p a h)
  have HNO := Lib.hid (show ∀ c, p.writeE a s = c → c ≠ 0 → Left PGm G w w b (p.write a s) from fun c e hc => by
    unfold Ps.write
    rw [if_neg (by rw [e]; exact hc)]
    exact left_same h)
  by_cases ht : thereB a = true
  · rw [ht] at CN
    have ht' : ¬ thereB a = false := by rw [ht]; decide
    by_cases hz : 4096 < s.size
    · have HE := Lib.hid (show p.writeE a s = 2 from by unfold Ps.writeE; rw [if_neg ht', if_pos hz])
      have hz' : (4096 : Int) < (s.size : Int) := by omega
      clear h hok hz ht ht'
      generalize p.kind a = kd at *
      go_enter Tryz.func131, Tryz.ntmps131
      go_wp2_with (first | (go_at_call 137; refine CN.out.mono ?_; rintro e w1 ⟨rfl, rfl⟩) | (go_at_call 136; refine CK.out.mono ?_; rintro e w2 ⟨rfl, rfl⟩))
      go_ret
      rw [HE.out]
      exact ⟨rfl, HNO.out 2 HE.out (by decide)⟩
    have hz' : (s.size : Int) ≤ 4096 := by omega
    by_cases h3 : p.kind a = 3
    · have HE := Lib.hid (show p.writeE a s = 43 from by unfold Ps.writeE; rw [if_neg ht', if_neg hz, if_pos h3])
      rw [h3] at CK
      clear h hok h3 hz ht ht'
      go_enter Tryz.func131, Tryz.ntmps131
      go_wp2_with (first | (go_at_call 137; refine CN.out.mono ?_; rintro e w1 ⟨rfl, rfl⟩) | (go_at_call 136; refine CK.out.mono ?_; rintro e w2 ⟨rfl, rfl⟩))
      go_ret
      rw [HE.out]
      exact ⟨rfl, HNO.out 43 HE.out (by decide)⟩
    have d3 : (p.kind a == 3) = false := beq_eq_false_iff_ne.2 h3
    by_cases h0 : p.kind a = 0
    · rw [h0] at CK
      have CP := Lib.hid (put_any G w b p a 1 s h ht (hok.none ht h0) hs hok.most)
      have HE := Lib.hid (show (if p.room ≤ p.l.length then (44 : Int) else 0) = p.writeE a s from by unfold Ps.writeE; rw [if_neg ht', if_neg hz, if_neg h3, if_neg (show ¬ p.kind a ≠ 0 from by rw [h0]; decide)])
      have HW := Lib.hid (show (if p.room ≤ p.l.length then p else p.add ⟨a, 1, s⟩) = p.write a s from by
        unfold Ps.write
        rw [← HE.out]
        by_cases hr : p.room ≤ p.l.length
        · rw [if_pos hr, if_pos hr, if_neg (by decide)]
        · rw [if_neg hr, if_neg hr, if_pos rfl])
      rw [HE.out, HW.out] at CP
      clear h hok h3 h0 hz ht ht' d3
      go_enter Tryz.func131, Tryz.ntmps131
      go_wp2_with (first | (go_at_call 137; refine CN.out.mono ?_; rintro e w1 ⟨rfl, rfl⟩) | (go_at_call 136; refine CK.out.mono ?_; rintro e w2 ⟨rfl, rfl⟩) | (go_at_call 138; refine CP.out.mono ?_; rintro e w3 ⟨rfl, h3⟩))
      go_ret
      exact ⟨rfl, h3⟩
    · have HE := Lib.hid (show p.writeE a s = 41 from by unfold Ps.writeE; rw [if_neg ht', if_neg hz, if_neg h3, if_pos h0])
      have d0 : (p.kind a != 0) = true := bne_iff_ne.2 h0
      clear h hok h3 h0 hz ht ht'
      generalize p.kind a = kd at *
      go_enter Tryz.func131, Tryz.ntmps131
      go_wp2_with (first | (go_at_call 137; refine CN.out.mono ?_; rintro e w1 ⟨rfl, rfl⟩) | (go_at_call 136; refine CK.out.mono ?_; rintro e w2 ⟨rfl, rfl⟩))
      go_ret
      rw [HE.out]
      exact ⟨rfl, HNO.out 41 HE.out (by decide)⟩
  · have ht' : thereB a = false := Bool.eq_false_iff.2 ht
    have HE := Lib.hid (show p.writeE a s = 1 from by unfold Ps.writeE; rw [if_pos ht'])
    rw [ht'] at CN
    clear h hok ht ht'
    generalize p.kind a = kd at *
    go_enter Tryz.func131, Tryz.ntmps131
    go_wp2_with (first | (go_at_call 137; refine CN.out.mono ?_; rintro e w1 ⟨rfl, rfl⟩) | (go_at_call 136; refine CK.out.mono ?_; rintro e w2 ⟨rfl, rfl⟩))
    go_ret
    rw [HE.out]
    exact ⟨rfl, HNO.out 1 HE.out (by decide)⟩
theorem pwrite_nil (a : Int) (s : ByteArray) (w : World) (hs : s.size ≤ maxLen) : Calls Tryz.prog 131 #[.pointer none, .int .i64 a, .string s] w fun e w' => e = .returned (.int .i64 1) ∧ w = w' := by
  have CN := Lib.hid (isNone_nil a w)
  have CK := Lib.hid (kind_nil a w)
  go_enter Tryz.func131, Tryz.ntmps131
  go_wp2_with (first | (go_at_call 137; refine CN.out.mono ?_; rintro e w1 ⟨rfl, rfl⟩) | (go_at_call 136; refine CK.out.mono ?_; rintro e w2 ⟨rfl, rfl⟩))
  go_ret
  exact ⟨rfl, rfl⟩
set_option maxHeartbeats 8000000 in
theorem pfill_any (G : Nat → Prop) (w : World) (b : Nat) (p : Ps) (a : Int) (h : PGm G w b p) (hok : p.Ok) :
    Calls Tryz.prog 132 #[.pointer (some ⟨b, 0, none⟩), .int .i64 a] w fun e w' => e = .returned (.int .i64 (p.fillE a)) ∧ Left PGm G w w' b (p.fill a) := by
  have CN := Lib.hid (pgIsNone_any b a w)
  have CK := Lib.hid (kind_any G w b p a h)
  have HNO := Lib.hid (show ∀ c, p.fillE a = c → (c ≠ 0 ∨ p.kind a = 2) → Left PGm G w w b (p.fill a) from fun c e hc => by
    unfold Ps.fill
    rw [if_neg (by rw [e]; rintro ⟨h1, h2⟩; rcases hc with hc | hc; exact hc h1; exact h2 hc)]
    exact left_same h)
  by_cases ht : thereB a = true
  · rw [ht] at CN
    have ht' : ¬ thereB a = false := by rw [ht]; decide
    have hks := hok.kinds a
    by_cases h3 : p.kind a = 3
    · have HE := Lib.hid (show p.fillE a = 43 from by unfold Ps.fillE; rw [if_neg ht', if_pos h3])
      rw [h3] at CK
      clear h hok h3 ht ht' hks
      go_enter Tryz.func132, Tryz.ntmps132
      go_wp2_with (first | (go_at_call 137; refine CN.out.mono ?_; rintro e w1 ⟨rfl, rfl⟩) | (go_at_call 136; refine CK.out.mono ?_; rintro e w2 ⟨rfl, rfl⟩))
      go_ret
      rw [HE.out]
      exact ⟨rfl, HNO.out 43 HE.out (.inl (by decide))⟩
    by_cases h2 : p.kind a = 2
    · have HE := Lib.hid (show p.fillE a = 0 from by unfold Ps.fillE; rw [if_neg ht', if_neg h3, if_pos h2])
      have HK := Lib.hid h2
      rw [h2] at CK
      clear h hok h3 h2 ht ht' hks
      go_enter Tryz.func132, Tryz.ntmps132
      go_wp2_with (first | (go_at_call 137; refine CN.out.mono ?_; rintro e w1 ⟨rfl, rfl⟩) | (go_at_call 136; refine CK.out.mono ?_; rintro e w2 ⟨rfl, rfl⟩))
      go_ret
      rw [HE.out]
      exact ⟨rfl, HNO.out 0 HE.out (.inr HK.out)⟩
    by_cases h1 : p.kind a = 1
    · have HE := Lib.hid (show p.fillE a = 41 from by unfold Ps.fillE; rw [if_neg ht', if_neg h3, if_neg h2, if_pos h1])
      rw [h1] at CK
      clear h hok h3 h2 h1 ht ht' hks
      go_enter Tryz.func132, Tryz.ntmps132
      go_wp2_with (first | (go_at_call 137; refine CN.out.mono ?_; rintro e w1 ⟨rfl, rfl⟩) | (go_at_call 136; refine CK.out.mono ?_; rintro e w2 ⟨rfl, rfl⟩))
      go_ret
      rw [HE.out]
      exact ⟨rfl, HNO.out 41 HE.out (.inl (by decide))⟩
    have h0 : p.kind a = 0 := by omega
    have CP := Lib.hid (put_any G w b p a 2 ⟨#[]⟩ h ht (hok.none ht h0) (by decide) hok.most)
    have HE := Lib.hid (show (if p.room ≤ p.l.length then (44 : Int) else 0) = p.fillE a from by unfold Ps.fillE; rw [if_neg ht', if_neg h3, if_neg h2, if_neg h1])
    have HW := Lib.hid (show (if p.room ≤ p.l.length then p else p.add ⟨a, 2, ⟨#[]⟩⟩) = p.fill a from by
      unfold Ps.fill
      rw [← HE.out]
      by_cases hr : p.room ≤ p.l.length
      · rw [if_pos hr, if_pos hr, if_neg (by rintro ⟨h, _⟩; exact absurd h (by decide))]
      · rw [if_neg hr, if_neg hr, if_pos ⟨rfl, h2⟩])
    rw [HE.out, HW.out] at CP
    rw [h0] at CK
    clear h hok h3 h0 h1 h2 ht ht' hks
    go_enter Tryz.func132, Tryz.ntmps132
    go_wp2_with (first | (go_at_call 137; refine CN.out.mono ?_; rintro e w1 ⟨rfl, rfl⟩) | (go_at_call 136; refine CK.out.mono ?_; rintro e w2 ⟨rfl, rfl⟩) | (go_at_call 138; refine CP.out.mono ?_; rintro e w3 ⟨rfl, h3⟩))
    go_ret
    exact ⟨rfl, h3⟩
  · have ht' : thereB a = false := Bool.eq_false_iff.2 ht
    have HE := Lib.hid (show p.fillE a = 1 from by unfold Ps.fillE; rw [if_pos ht'])
    rw [ht'] at CN
    clear h hok ht ht'
    go_enter Tryz.func132, Tryz.ntmps132
    go_wp2_with (go_at_call 137; refine CN.out.mono ?_; rintro e w1 ⟨rfl, rfl⟩)
    go_ret
    rw [HE.out]
    exact ⟨rfl, HNO.out 1 HE.out (.inl (by decide))⟩
theorem pfill_nil (a : Int) (w : World) : Calls Tryz.prog 132 #[.pointer none, .int .i64 a] w fun e w' => e = .returned (.int .i64 1) ∧ w = w' := by
  have CN := Lib.hid (isNone_nil a w)
  go_enter Tryz.func132, Tryz.ntmps132
  go_wp2_with (go_at_call 137; refine CN.out.mono ?_; rintro e w1 ⟨rfl, rfl⟩)
  go_ret
  exact ⟨rfl, rfl⟩
set_option maxHeartbeats 8000000 in
theorem pread_any (G : Nat → Prop) (w : World) (b : Nat) (p : Ps) (a : Int) (h : PGm G w b p) (hok : p.Ok) :
    Calls Tryz.prog 133 #[.pointer (some ⟨b, 0, none⟩), .int .i64 a] w fun e w' => e = .returned (.tuple #[.string (p.readS a), .int .i64 (p.readE a)]) ∧ Below w.heap.size w w' := by
  have CN := Lib.hid (pgIsNone_any b a w)
  have CK := Lib.hid (kind_any G w b p a h)
  by_cases ht : thereB a = true
  · rw [ht] at CN
    have ht' : ¬ thereB a = false := by rw [ht]; decide
    have hks := hok.kinds a
    by_cases h3 : p.kind a = 3
    · have HE := Lib.hid (show p.readE a = 43 from by unfold Ps.readE; rw [if_neg ht', if_pos h3])
      have HS := Lib.hid (show p.readS a = ⟨#[]⟩ from by unfold Ps.readS; rw [HE.out]; rfl)
      rw [h3] at CK
      clear h hok h3 hks ht ht'
      go_enter Tryz.func133, Tryz.ntmps133
      go_wp2_with (first | (go_at_call 137; refine CN.out.mono ?_; rintro e w1 ⟨rfl, rfl⟩) | (go_at_call 136; refine CK.out.mono ?_; rintro e w2 ⟨rfl, rfl⟩))
      go_ret2
      rw [HE.out, HS.out]
      exact ⟨rfl, Below.refl _ _⟩
    by_cases h0 : p.kind a = 0
    · have HE := Lib.hid (show p.readE a = 42 from by unfold Ps.readE; rw [if_neg ht', if_neg h3, if_pos h0])
      have HS := Lib.hid (show p.readS a = ⟨#[]⟩ from by unfold Ps.readS; rw [HE.out]; rfl)
      rw [h0] at CK
      clear h hok h3 h0 hks ht ht'
      go_enter Tryz.func133, Tryz.ntmps133
      go_wp2_with (first | (go_at_call 137; refine CN.out.mono ?_; rintro e w1 ⟨rfl, rfl⟩) | (go_at_call 136; refine CK.out.mono ?_; rintro e w2 ⟨rfl, rfl⟩))
      go_ret2
      rw [HE.out, HS.out]
      exact ⟨rfl, Below.refl _ _⟩
    by_cases h2 : p.kind a = 2
    · have HE := Lib.hid (show p.readE a = 46 from by unfold Ps.readE; rw [if_neg ht', if_neg h3, if_neg h0, if_pos h2])
      have HS := Lib.hid (show p.readS a = ⟨#[]⟩ from by unfold Ps.readS; rw [HE.out]; rfl)
      rw [h2] at CK
      clear h hok h3 h0 h2 hks ht ht'
      go_enter Tryz.func133, Tryz.ntmps133
      go_wp2_with (first | (go_at_call 137; refine CN.out.mono ?_; rintro e w1 ⟨rfl, rfl⟩) | (go_at_call 136; refine CK.out.mono ?_; rintro e w2 ⟨rfl, rfl⟩))
      go_ret2
      rw [HE.out, HS.out]
      exact ⟨rfl, Below.refl _ _⟩
    have h1 : p.kind a = 1 := by omega
    have HE := Lib.hid (show p.readE a = 0 from by unfold Ps.readE; rw [if_neg ht', if_neg h3, if_neg h0, if_neg h2])
    have HS := Lib.hid (show p.readS a = textL p.l a from by unfold Ps.readS; rw [if_pos HE.out]; rfl)
    have HZ := Lib.hid (show (textL p.l a).size ≤ 1099511627776 from by
      unfold textL
      cases e : findP p.l a with
      | none => exact Nat.zero_le _
      | some x => have := (hok.each x (findP_some e).1).2.2; show x.s.size ≤ _; omega)
    obtain ⟨mb, g1, g2, _⟩ := h
    obtain ⟨c0, c1, c2, _⟩ := three_cells g1
    have hl := g2.look (there_wf ht)
    have hf := sheet_text
    rw [h1] at CK
    clear g1 g2 hok h3 h0 h1 h2 hks ht ht'
    generalize kindL p.l a = kk at *
    generalize textL p.l a = tt at *
    go_enter Tryz.func133, Tryz.ntmps133
    go_wp2_with (first | (go_at_call 137; refine CN.out.mono ?_; rintro e w1 ⟨rfl, rfl⟩) | (go_at_call 136; refine CK.out.mono ?_; rintro e w2 ⟨rfl, rfl⟩) | (go_at_call 60; refine (clone_any tt _ HZ.out).mono ?_; rintro e w3 ⟨rfl, hb3⟩))
    go_ret2
    rw [HE.out, HS.out]
    exact ⟨rfl, hb3⟩
  · have ht' : thereB a = false := Bool.eq_false_iff.2 ht
    have HE := Lib.hid (show p.readE a = 1 from by unfold Ps.readE; rw [if_pos ht'])
    have HS := Lib.hid (show p.readS a = ⟨#[]⟩ from by unfold Ps.readS; rw [HE.out]; rfl)
    rw [ht'] at CN
    clear h hok ht ht'
    go_enter Tryz.func133, Tryz.ntmps133
    go_wp2_with (go_at_call 137; refine CN.out.mono ?_; rintro e w1 ⟨rfl, rfl⟩)
    go_ret2
    rw [HE.out, HS.out]
    exact ⟨rfl, Below.refl _ _⟩
theorem pread_nil (a : Int) (w : World) : Calls Tryz.prog 133 #[.pointer none, .int .i64 a] w fun e w' => e = .returned (.tuple #[.string ⟨#[]⟩, .int .i64 1]) ∧ w = w' := by
  have CN := Lib.hid (isNone_nil a w)
  go_enter Tryz.func133, Tryz.ntmps133
  go_wp2_with (go_at_call 137; refine CN.out.mono ?_; rintro e w1 ⟨rfl, rfl⟩)
  go_ret2
  exact ⟨rfl, rfl⟩
end Go.Proofs.YtchhmfdalghgcaaGreat
namespace Go.Proofs.YtchhmfdalghgcaaGreat
set_option linter.unusedVariables false
open Go.RowKit
set_option maxRecDepth 20000
/-- a call on a thing whose blocks lie in G ends so: it answers x, the thing is a' behind it; the answer's chains are new memory, and none of the thing's -/
def Tells {α : Type} (T : (Nat → Prop) → World → α → Prop) (G : Nat → Prop) (w : World) (a' : α) (x : An) (e : Ending) (w' : World) : Prop :=
  ∃ (ao : Option Addr) (cap : Nat) (F : Nat → Prop), e = .returned (ansV x ao cap) ∧ CG F w' (.slice ao x.L.length cap) x.L ∧ (∀ k, F k → w.heap.size ≤ k ∧ k < w'.heap.size) ∧
    ∃ G' : Nat → Prop, T G' w' a' ∧ (∀ k, F k → ¬ G' k) ∧ Kept (fun k => ¬ G k) w w' ∧ ∀ k, G' k → G k ∨ w.heap.size ≤ k
theorem CG.no (F : Nat → Prop) (w : World) : CG F w (.slice Option.none 0 0) [] := ⟨Option.none, 0, rfl, fun _ => rfl, Nat.le_refl _, fun a e => (by cases e), fun i h => absurd h (Nat.not_lt_zero i)⟩
section
variable {α β : Type} {T : (Nat → Prop) → World → α → Prop} {U : (Nat → Prop) → World → β → Prop} {X G : Nat → Prop} {w w' : World} {a a' : α} {b b' : β} {x : An}
theorem Tells.plain (h : Leaves T G w w' a') (hL : x.L = []) : Tells T G w a' x (.returned (ansV x Option.none 0)) w' := by
  obtain ⟨G', h1, h2, h3⟩ := h
  exact ⟨Option.none, 0, fun _ => False, rfl, by rw [hL]; exact CG.no _ _, fun k hk => hk.elim, G', h1, fun k hk => hk.elim, h2, h3⟩
/-- the chains are made last -/
theorem Tells.last (hT : Thing T) {W : World} (h : Leaves T G w W a') (hb : Below W.heap.size W w') {ao : Option Addr} {cap : Nat} (hO : OC w' W.heap.size (.slice ao x.L.length cap) x.L) : Tells T G w a' x (.returned (ansV x ao cap)) w' := by
  obtain ⟨G', h1, h2, h3⟩ := h
  exact ⟨ao, cap, fun k => W.heap.size ≤ k ∧ k < w'.heap.size, rfl, CG.of hO, fun k hk => ⟨Nat.le_trans h2.size hk.1, hk.2⟩, G', hT.keep h1 (Kept.ofBelow hb (fun _ => True)) (fun _ _ => trivial), fun k hk hg => by have := hT.lt h1 k hg; omega, h2.below hb, h3⟩
/-- all memory that was made meanwhile lies beside both -/
theorem Side.wider (hT : Thing T) (hU : Thing U) (h : Side T U X w a b) (hb : Below w.heap.size w w') : Side T U (fun k => X k ∨ (w.heap.size ≤ k ∧ k < w'.heap.size)) w' a b := by
  obtain ⟨h1, F, G, h2, h3, h4, h5⟩ := h
  refine ⟨fun k hk => ?_, F, G, hT.keep h2 (Kept.ofBelow hb (fun _ => True)) (fun _ _ => trivial), hU.keep h3 (Kept.ofBelow hb (fun _ => True)) (fun _ _ => trivial), fun k hk => ?_, h5⟩
  · rcases hk with hk | hk
    · exact Nat.lt_of_lt_of_le (h1 k hk) hb.size
    · exact hk.2
  · rcases hk with hk | hk
    · exact h4 k hk
    · exact ⟨fun hf => by have := hT.lt h2 k hf; omega, fun hg => by have := hU.lt h3 k hg; omega⟩
theorem Solo.wider (hT : Thing T) (h : Solo T X w a) (hb : Below w.heap.size w w') : Solo T (fun k => X k ∨ (w.heap.size ≤ k ∧ k < w'.heap.size)) w' a := by
  obtain ⟨h1, F, h2, h3⟩ := h
  refine ⟨fun k hk => ?_, F, hT.keep h2 (Kept.ofBelow hb (fun _ => True)) (fun _ _ => trivial), fun k hk hf => ?_⟩
  · rcases hk with hk | hk
    · exact Nat.lt_of_lt_of_le (h1 k hk) hb.size
    · exact hk.2
  · rcases hk with hk | hk
    · exact h3 k hk hf
    · have := hT.lt h2 k hf; omega
theorem CG.here {F : Nat → Prop} {w : World} {ao : Option Addr} {n cap : Nat} {L : List (List Int)} (h : CG F w (.slice ao n cap) L) : CL w ao L ∧ (ao = Option.none → cap = 0) ∧ L.length ≤ cap := by
  obtain ⟨bo, cb, e, h1, h2, h3⟩ := h.cl
  obtain ⟨rfl, _, rfl⟩ := Value.slice.inj e
  exact ⟨h1, h2, h3⟩
variable {P : Program} {fn : FuncId} {args : Array Value}
end
end Go.Proofs.YtchhmfdalghgcaaGreat
namespace Go.Proofs.YtchhmfdalghgcaaGreat
set_option linter.unusedVariables false
open Go.RowKit
set_option maxRecDepth 20000
def numA (l : List Int) : Array Value := (l.map (fun v => Value.int .i64 v)).toArray
theorem lit_nums {W : World} {b : Nat} {t : TypeId} {l : List Int} (h : W.heap[b]? = some (.cells (numA l) t (0, 0))) (hw : ∀ v ∈ l, i64w v) : NLI W (some ⟨b, 0, none⟩) l.length l := by
  refine ⟨fun j hj => ⟨⟨b, 0, rfl, ?_⟩, hw _ (List.getElem_mem hj)⟩, fun e => (by cases e), Nat.le_refl _⟩
  rw [Nat.zero_add, cell_of h j]
  simp [numA, hj]
def lit1W (w : World) (l : List Int) : World := (w.alloc (.cells (numA l) 3)).alloc (.cells #[.slice (some ⟨w.heap.size, 0, none⟩) l.length l.length] 44)
theorem lit1_size (w : World) (l : List Int) : (lit1W w l).heap.size = w.heap.size + 2 := by simp [lit1W]
theorem lit1_below (w : World) (l : List Int) : Below w.heap.size w (lit1W w l) := (below_new _ _).alloc (by simp) _
theorem lit1_chain (w : World) {l : List Int} (hw : ∀ v ∈ l, i64w v) : CG (fun k => w.heap.size ≤ k ∧ k < (lit1W w l).heap.size) (lit1W w l) (.slice (some ⟨w.heap.size + 1, 0, none⟩) 1 1) [l] := by
  obtain ⟨h1, h2⟩ := two_blocks w (numA l) #[.slice (some ⟨w.heap.size, 0, none⟩) l.length l.length] 3 44
  have hs := lit1_size w l
  refine ⟨some ⟨w.heap.size + 1, 0, none⟩, 1, rfl, fun e => (by cases e), Nat.le_refl _, fun a e => ?_, fun i hi => ?_⟩
  · cases e
    exact ⟨⟨Nat.le_succ _, by show w.heap.size + 1 < _; omega⟩, by show w.heap.size + 1 < _; omega⟩
  · match i, hi with
    | 0, _ =>
      refine ⟨w.heap.size + 1, 0, some ⟨w.heap.size, 0, none⟩, l.length, rfl, cell_of h2 0, lit_nums h1 hw, fun a e => ?_⟩
      cases e
      exact ⟨⟨Nat.le_refl _, by show w.heap.size < _; omega⟩, by show w.heap.size < _; omega⟩
theorem num_small {l : List Int} (h : ∀ v ∈ l, 0 ≤ v ∧ v ≤ 20) : ∀ v ∈ l, i64w v := fun v hv => WalkArith.wf_i64 (by have := h v hv; omega)
end Go.Proofs.YtchhmfdalghgcaaGreat
