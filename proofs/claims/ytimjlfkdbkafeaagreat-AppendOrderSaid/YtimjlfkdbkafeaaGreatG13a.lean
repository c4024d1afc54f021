/- What the program's sequencer answers any question; all that the laws of the sequencer ask of the program. Conditions: it and the question lie where the call was told. (Written by gen/gensqp.py.) What the program's own Write, Fill and Read return, and make of pages. Conditions: the object lies where the call was told; its pages are as the calls make them. What the document's own Chain returns. Conditions: the projection lies where the call was told, and is not too large. What the program's sequencer that nobody made answers any question. No conditions. Plain facts: what an append asks is small. No conditions but those that the statements name. -/
import Derived.Test.YtimjlfkdbkafeaaGreatG12a
import Derived.Test.YtimjlfkdbkafeaaGreatG12b
import Derived.Test.YtimjlfkdbkafeaaGreatG10b
set_option linter.unusedVariables false
namespace Go.Proofs.YtimjlfkdbkafeaaGreat
set_option linter.unusedVariables false
open Go.RowKit
set_option maxRecDepth 20000
/-- a deed of the sequencer in block b -/
def fnO (f : FuncId) (b : Nat) : Value := .func (.func f) #[.pointer (some ⟨b, 0, none⟩)] #[]
theorem odeed_start (b : Nat) (w : World) : Calls Tryz.prog 70 #[.pointer (some ⟨b, 0, none⟩), .int .i64 8] w fun e w' => e = .returned (fnO 76 b) ∧ Below w.heap.size w w' := by
  go_enter Tryz.func70, Tryz.ntmps70
  go_wp2
  go_ret
  exact ⟨rfl, Below.refl _ _⟩
theorem odeed_next (b : Nat) (w : World) : Calls Tryz.prog 70 #[.pointer (some ⟨b, 0, none⟩), .int .i64 6] w fun e w' => e = .returned (fnO 77 b) ∧ Below w.heap.size w w' := by
  go_enter Tryz.func70, Tryz.ntmps70
  go_wp2
  go_ret
  exact ⟨rfl, Below.refl _ _⟩
theorem odeed_look (b : Nat) (w : World) : Calls Tryz.prog 70 #[.pointer (some ⟨b, 0, none⟩), .int .i64 7] w fun e w' => e = .returned (fnO 78 b) ∧ Below w.heap.size w w' := by
  go_enter Tryz.func70, Tryz.ntmps70
  go_wp2
  go_ret
  exact ⟨rfl, Below.refl _ _⟩
theorem odeed_none (b : Nat) (k : Int) (w : World) (h8 : k ≠ 8) (h6 : k ≠ 6) (h7 : k ≠ 7) : Calls Tryz.prog 70 #[.pointer (some ⟨b, 0, none⟩), .int .i64 k] w fun e w' => e = .returned (fnO 79 b) ∧ Below w.heap.size w w' := by
  have d8 : (k == 8) = false := beq_eq_false_iff_ne.2 h8
  have d6 : (k == 6) = false := beq_eq_false_iff_ne.2 h6
  have d7 : (k == 7) = false := beq_eq_false_iff_ne.2 h7
  clear h8 h6 h7
  go_enter Tryz.func70, Tryz.ntmps70
  go_wp2
  go_ret
  exact ⟨rfl, Below.refl _ _⟩
set_option maxHeartbeats 400000 in
theorem odop_start (b : Nat) (G : Nat → Prop) (w : World) (o o' : Od) (a : Ak) (c m : Int) (h : OM b G w o)
    (hd : ∀ w, Calls Tryz.prog 70 #[.pointer (some ⟨b, 0, none⟩), .int .i64 a.kind] w fun e w' => e = .returned (fnO 76 b) ∧ Below w.heap.size w w')
    (hf : ∀ (H : Nat → Prop) (w : World), OM b H w o → Calls Tryz.prog 76 #[ptrO b, askV a] w fun e w' => e = .returned (anW c m noT 0) ∧ Leaves (OM b) H w w' o') :
    Calls Tryz.prog 50 #[ptrO b, askV a] w fun e w' => e = .returned (anW c m noT o'.epoch) ∧ Leaves (OM b) G w w' o' := by
  obtain ⟨k, un, ep, pg, sz, n, s, pe, L, ao, cap⟩ := a
  obtain ⟨ue, ut, uk⟩ := o'
  simp only at *
  have HS := Lib.hid (boxed_start (om_thing b) h #[.int .i64 k, .int .i64 un, .int .i64 ep, .int .i64 pg, .int .i64 sz, .int .i64 n, .string s, .int .i64 pe, .slice ao L.length cap])
  unfold zeroAn at HS
  have hbw := h.small
  have HD := Lib.hid hd
  unfold fnO at HD
  have HF := Lib.hid (show ∀ (H : Nat → Prop) (w : World), OM b H w o → Calls Tryz.prog 76 #[.pointer (some ⟨b, 0, none⟩), .agg #[.int .i64 k, .int .i64 un, .int .i64 ep, .int .i64 pg, .int .i64 sz, .int .i64 n, .string s, .int .i64 pe, .slice ao L.length cap]] w fun e w' => e = .returned (.agg #[.int .i64 c, .int .i64 m, .string ⟨#[]⟩, .int .i64 0, .slice none 0 0, .int .i64 0, .int .i64 0, .int .i64 0]) ∧ Leaves (OM b) H w w' ⟨ue, ut, uk⟩ from hf)
  clear h hd hf
  show Calls _ _ #[.pointer (some ⟨b, 0, none⟩), .agg #[.int .i64 k, .int .i64 un, .int .i64 ep, .int .i64 pg, .int .i64 sz, .int .i64 n, .string s, .int .i64 pe, .slice ao L.length cap]] w _
  go_enter Tryz.func50, Tryz.ntmps50
  go_wp2_with (go_at_call 70; refine (HD.out _).mono ?_; rintro e w2 ⟨rfl, hb2⟩; have HT2 := Lib.hid (HS.out.below (om_thing b) hb2); clear hb2; obtain ⟨H2, hH2, hU2⟩ := HT2.out.use; have HU2 := Lib.hid hU2; have HF2 := Lib.hid (HF.out H2 _ hH2); clear hU2 hH2; have x := HT2.out.ask; have x0 := cell_of x 0; have x1 := cell_of x 1; have x2 := cell_of x 2; have x3 := cell_of x 3; have x4 := cell_of x 4; have x5 := cell_of x 5; have x6 := cell_of x 6; have x7 := cell_of x 7; have x8 := cell_of x 8; clear x)
  refine HF2.out.mono ?_
  rintro e w3 ⟨rfl, hl⟩
  have HT3 := Lib.hid (HU2.out _ _ hl)
  clear hl
  obtain ⟨H, hH, _⟩ := HT3.out.use
  obtain ⟨t, _, hc⟩ := hH.cells
  obtain ⟨c0, c1, c2, _⟩ := three_cells hc
  have hb := hH.small
  clear hH hc
  obtain ⟨nl1, nl2⟩ := HT3.out.small
  obtain ⟨⟨ny0, ny1, ny2, ny3, ny4, ny5, ny6, ny7⟩, nfy0, nfy1, nfy2, nfy3, nfy4, nfy5, nfy6, nfy7⟩ := eight_cells HT3.out.ans
  go_wp2_with fail
  exact ans_ret (x := anP c m noT ue) (ao := none) (cap := 0) rfl (below_heap ((Below.refl _ _).alloc (Nat.le_refl _) _) (HT3.out.fin (om_thing b)).1) rfl rfl ⟨rfl, (HT3.out.fin (om_thing b)).2.below (om_thing b) ((Below.refl _ _).alloc (Nat.le_refl _) _)⟩
set_option maxHeartbeats 400000 in
theorem odop_next (b : Nat) (G : Nat → Prop) (w : World) (o o' : Od) (a : Ak) (c m : Int) (h : OM b G w o)
    (hd : ∀ w, Calls Tryz.prog 70 #[.pointer (some ⟨b, 0, none⟩), .int .i64 a.kind] w fun e w' => e = .returned (fnO 77 b) ∧ Below w.heap.size w w')
    (hf : ∀ (H : Nat → Prop) (w : World), OM b H w o → Calls Tryz.prog 77 #[ptrO b, askV a] w fun e w' => e = .returned (anW c m noT 0) ∧ Leaves (OM b) H w w' o') :
    Calls Tryz.prog 50 #[ptrO b, askV a] w fun e w' => e = .returned (anW c m noT o'.epoch) ∧ Leaves (OM b) G w w' o' := by
  obtain ⟨k, un, ep, pg, sz, n, s, pe, L, ao, cap⟩ := a
  obtain ⟨ue, ut, uk⟩ := o'
  simp only at *
  have HS := Lib.hid (boxed_start (om_thing b) h #[.int .i64 k, .int .i64 un, .int .i64 ep, .int .i64 pg, .int .i64 sz, .int .i64 n, .string s, .int .i64 pe, .slice ao L.length cap])
  unfold zeroAn at HS
  have hbw := h.small
  have HD := Lib.hid hd
  unfold fnO at HD
  have HF := Lib.hid (show ∀ (H : Nat → Prop) (w : World), OM b H w o → Calls Tryz.prog 77 #[.pointer (some ⟨b, 0, none⟩), .agg #[.int .i64 k, .int .i64 un, .int .i64 ep, .int .i64 pg, .int .i64 sz, .int .i64 n, .string s, .int .i64 pe, .slice ao L.length cap]] w fun e w' => e = .returned (.agg #[.int .i64 c, .int .i64 m, .string ⟨#[]⟩, .int .i64 0, .slice none 0 0, .int .i64 0, .int .i64 0, .int .i64 0]) ∧ Leaves (OM b) H w w' ⟨ue, ut, uk⟩ from hf)
  clear h hd hf
  show Calls _ _ #[.pointer (some ⟨b, 0, none⟩), .agg #[.int .i64 k, .int .i64 un, .int .i64 ep, .int .i64 pg, .int .i64 sz, .int .i64 n, .string s, .int .i64 pe, .slice ao L.length cap]] w _
  go_enter Tryz.func50, Tryz.ntmps50
  go_wp2_with (go_at_call 70; refine (HD.out _).mono ?_; rintro e w2 ⟨rfl, hb2⟩; have HT2 := Lib.hid (HS.out.below (om_thing b) hb2); clear hb2; obtain ⟨H2, hH2, hU2⟩ := HT2.out.use; have HU2 := Lib.hid hU2; have HF2 := Lib.hid (HF.out H2 _ hH2); clear hU2 hH2; have x := HT2.out.ask; have x0 := cell_of x 0; have x1 := cell_of x 1; have x2 := cell_of x 2; have x3 := cell_of x 3; have x4 := cell_of x 4; have x5 := cell_of x 5; have x6 := cell_of x 6; have x7 := cell_of x 7; have x8 := cell_of x 8; clear x)
  refine HF2.out.mono ?_
  rintro e w3 ⟨rfl, hl⟩
  have HT3 := Lib.hid (HU2.out _ _ hl)
  clear hl
  obtain ⟨H, hH, _⟩ := HT3.out.use
  obtain ⟨t, _, hc⟩ := hH.cells
  obtain ⟨c0, c1, c2, _⟩ := three_cells hc
  have hb := hH.small
  clear hH hc
  obtain ⟨nl1, nl2⟩ := HT3.out.small
  obtain ⟨⟨ny0, ny1, ny2, ny3, ny4, ny5, ny6, ny7⟩, nfy0, nfy1, nfy2, nfy3, nfy4, nfy5, nfy6, nfy7⟩ := eight_cells HT3.out.ans
  go_wp2_with fail
  exact ans_ret (x := anP c m noT ue) (ao := none) (cap := 0) rfl (below_heap ((Below.refl _ _).alloc (Nat.le_refl _) _) (HT3.out.fin (om_thing b)).1) rfl rfl ⟨rfl, (HT3.out.fin (om_thing b)).2.below (om_thing b) ((Below.refl _ _).alloc (Nat.le_refl _) _)⟩
set_option maxHeartbeats 400000 in
theorem odop_look (b : Nat) (G : Nat → Prop) (w : World) (o o' : Od) (a : Ak) (c m : Int) (h : OM b G w o)
    (hd : ∀ w, Calls Tryz.prog 70 #[.pointer (some ⟨b, 0, none⟩), .int .i64 a.kind] w fun e w' => e = .returned (fnO 78 b) ∧ Below w.heap.size w w')
    (hf : ∀ (H : Nat → Prop) (w : World), OM b H w o → Calls Tryz.prog 78 #[ptrO b, askV a] w fun e w' => e = .returned (anW c m noT 0) ∧ Leaves (OM b) H w w' o') :
    Calls Tryz.prog 50 #[ptrO b, askV a] w fun e w' => e = .returned (anW c m noT o'.epoch) ∧ Leaves (OM b) G w w' o' := by
  obtain ⟨k, un, ep, pg, sz, n, s, pe, L, ao, cap⟩ := a
  obtain ⟨ue, ut, uk⟩ := o'
  simp only at *
  have HS := Lib.hid (boxed_start (om_thing b) h #[.int .i64 k, .int .i64 un, .int .i64 ep, .int .i64 pg, .int .i64 sz, .int .i64 n, .string s, .int .i64 pe, .slice ao L.length cap])
  unfold zeroAn at HS
  have hbw := h.small
  have HD := Lib.hid hd
  unfold fnO at HD
  have HF := Lib.hid (show ∀ (H : Nat → Prop) (w : World), OM b H w o → Calls Tryz.prog 78 #[.pointer (some ⟨b, 0, none⟩), .agg #[.int .i64 k, .int .i64 un, .int .i64 ep, .int .i64 pg, .int .i64 sz, .int .i64 n, .string s, .int .i64 pe, .slice ao L.length cap]] w fun e w' => e = .returned (.agg #[.int .i64 c, .int .i64 m, .string ⟨#[]⟩, .int .i64 0, .slice none 0 0, .int .i64 0, .int .i64 0, .int .i64 0]) ∧ Leaves (OM b) H w w' ⟨ue, ut, uk⟩ from hf)
  clear h hd hf
  show Calls _ _ #[.pointer (some ⟨b, 0, none⟩), .agg #[.int .i64 k, .int .i64 un, .int .i64 ep, .int .i64 pg, .int .i64 sz, .int .i64 n, .string s, .int .i64 pe, .slice ao L.length cap]] w _
  go_enter Tryz.func50, Tryz.ntmps50
  go_wp2_with (go_at_call 70; refine (HD.out _).mono ?_; rintro e w2 ⟨rfl, hb2⟩; have HT2 := Lib.hid (HS.out.below (om_thing b) hb2); clear hb2; obtain ⟨H2, hH2, hU2⟩ := HT2.out.use; have HU2 := Lib.hid hU2; have HF2 := Lib.hid (HF.out H2 _ hH2); clear hU2 hH2; have x := HT2.out.ask; have x0 := cell_of x 0; have x1 := cell_of x 1; have x2 := cell_of x 2; have x3 := cell_of x 3; have x4 := cell_of x 4; have x5 := cell_of x 5; have x6 := cell_of x 6; have x7 := cell_of x 7; have x8 := cell_of x 8; clear x)
  refine HF2.out.mono ?_
  rintro e w3 ⟨rfl, hl⟩
  have HT3 := Lib.hid (HU2.out _ _ hl)
  clear hl
  obtain ⟨H, hH, _⟩ := HT3.out.use
  obtain ⟨t, _, hc⟩ := hH.cells
  obtain ⟨c0, c1, c2, _⟩ := three_cells hc
  have hb := hH.small
  clear hH hc
  obtain ⟨nl1, nl2⟩ := HT3.out.small
  obtain ⟨⟨ny0, ny1, ny2, ny3, ny4, ny5, ny6, ny7⟩, nfy0, nfy1, nfy2, nfy3, nfy4, nfy5, nfy6, nfy7⟩ := eight_cells HT3.out.ans
  go_wp2_with fail
  exact ans_ret (x := anP c m noT ue) (ao := none) (cap := 0) rfl (below_heap ((Below.refl _ _).alloc (Nat.le_refl _) _) (HT3.out.fin (om_thing b)).1) rfl rfl ⟨rfl, (HT3.out.fin (om_thing b)).2.below (om_thing b) ((Below.refl _ _).alloc (Nat.le_refl _) _)⟩
set_option maxHeartbeats 400000 in
theorem odop_refuse (b : Nat) (G : Nat → Prop) (w : World) (o o' : Od) (a : Ak) (c m : Int) (h : OM b G w o)
    (hd : ∀ w, Calls Tryz.prog 70 #[.pointer (some ⟨b, 0, none⟩), .int .i64 a.kind] w fun e w' => e = .returned (fnO 79 b) ∧ Below w.heap.size w w')
    (hf : ∀ (H : Nat → Prop) (w : World), OM b H w o → Calls Tryz.prog 79 #[ptrO b, askV a] w fun e w' => e = .returned (anW c m noT 0) ∧ Leaves (OM b) H w w' o') :
    Calls Tryz.prog 50 #[ptrO b, askV a] w fun e w' => e = .returned (anW c m noT o'.epoch) ∧ Leaves (OM b) G w w' o' := by
  obtain ⟨k, un, ep, pg, sz, n, s, pe, L, ao, cap⟩ := a
  obtain ⟨ue, ut, uk⟩ := o'
  simp only at *
  have HS := Lib.hid (boxed_start (om_thing b) h #[.int .i64 k, .int .i64 un, .int .i64 ep, .int .i64 pg, .int .i64 sz, .int .i64 n, .string s, .int .i64 pe, .slice ao L.length cap])
  unfold zeroAn at HS
  have hbw := h.small
  have HD := Lib.hid hd
  unfold fnO at HD
  have HF := Lib.hid (show ∀ (H : Nat → Prop) (w : World), OM b H w o → Calls Tryz.prog 79 #[.pointer (some ⟨b, 0, none⟩), .agg #[.int .i64 k, .int .i64 un, .int .i64 ep, .int .i64 pg, .int .i64 sz, .int .i64 n, .string s, .int .i64 pe, .slice ao L.length cap]] w fun e w' => e = .returned (.agg #[.int .i64 c, .int .i64 m, .string ⟨#[]⟩, .int .i64 0, .slice none 0 0, .int .i64 0, .int .i64 0, .int .i64 0]) ∧ Leaves (OM b) H w w' ⟨ue, ut, uk⟩ from hf)
  clear h hd hf
  show Calls _ _ #[.pointer (some ⟨b, 0, none⟩), .agg #[.int .i64 k, .int .i64 un, .int .i64 ep, .int .i64 pg, .int .i64 sz, .int .i64 n, .string s, .int .i64 pe, .slice ao L.length cap]] w _
  go_enter Tryz.func50, Tryz.ntmps50
  go_wp2_with (go_at_call 70; refine (HD.out _).mono ?_; rintro e w2 ⟨rfl, hb2⟩; have HT2 := Lib.hid (HS.out.below (om_thing b) hb2); clear hb2; obtain ⟨H2, hH2, hU2⟩ := HT2.out.use; have HU2 := Lib.hid hU2; have HF2 := Lib.hid (HF.out H2 _ hH2); clear hU2 hH2; have x := HT2.out.ask; have x0 := cell_of x 0; have x1 := cell_of x 1; have x2 := cell_of x 2; have x3 := cell_of x 3; have x4 := cell_of x 4; have x5 := cell_of x 5; have x6 := cell_of x 6; have x7 := cell_of x 7; have x8 := cell_of x 8; clear x)
  refine HF2.out.mono ?_
  rintro e w3 ⟨rfl, hl⟩
  have HT3 := Lib.hid (HU2.out _ _ hl)
  clear hl
  obtain ⟨H, hH, _⟩ := HT3.out.use
  obtain ⟨t, _, hc⟩ := hH.cells
  obtain ⟨c0, c1, c2, _⟩ := three_cells hc
  have hb := hH.small
  clear hH hc
  obtain ⟨nl1, nl2⟩ := HT3.out.small
  obtain ⟨⟨ny0, ny1, ny2, ny3, ny4, ny5, ny6, ny7⟩, nfy0, nfy1, nfy2, nfy3, nfy4, nfy5, nfy6, nfy7⟩ := eight_cells HT3.out.ans
  go_wp2_with fail
  exact ans_ret (x := anP c m noT ue) (ao := none) (cap := 0) rfl (below_heap ((Below.refl _ _).alloc (Nat.le_refl _) _) (HT3.out.fin (om_thing b)).1) rfl rfl ⟨rfl, (HT3.out.fin (om_thing b)).2.below (om_thing b) ((Below.refl _ _).alloc (Nat.le_refl _) _)⟩
theorem on_ask (b : Nat) (G : Nat → Prop) (w : World) (o : Od) (a : Ak) (h : OM b G w o) (ha : AkIn w a) :
    Calls Tryz.prog 50 #[ptrO b, askV a] w fun e w' => e = .returned (anW (o.ans a).code (o.ans a).n (o.ans a).data (o.ans a).epoch) ∧ Leaves (OM b) G w w' (o.done a) := by
  by_cases h8 : a.kind = 8
  · have hD : ∀ w, Calls Tryz.prog 70 #[.pointer (some ⟨b, 0, none⟩), .int .i64 a.kind] w fun e w' => e = .returned (fnO 76 b) ∧ Below w.heap.size w w' := by rw [h8]; exact odeed_start b
    by_cases he : a.epoch ≤ o.epoch
    · rw [show o.ans a = anP 40 0 noT o.epoch from by unfold Od.ans; rw [if_pos h8, if_pos he], show o.done a = o from by unfold Od.done; rw [if_neg (fun h => by have := h.2.1; omega), if_neg (fun h => by have := h.1; omega)]]
      exact odop_start b G w o o a 40 0 h hD (fun H w h => on_start_old b H w o a h he)
    by_cases h1 : a.page < 0
    · rw [show o.ans a = anP 1 0 noT o.epoch from by unfold Od.ans; rw [if_pos h8, if_neg he, if_pos (.inl h1)], show o.done a = o from by unfold Od.done; rw [if_neg (fun h => by have := h.2.2.1; omega), if_neg (fun h => by have := h.1; omega)]]
      exact odop_start b G w o o a 1 0 h hD (fun H w h => on_start_low b H w o a h he h1)
    by_cases h2 : 16384 < a.page
    · rw [show o.ans a = anP 1 0 noT o.epoch from by unfold Od.ans; rw [if_pos h8, if_neg he, if_pos (.inr h2)], show o.done a = o from by unfold Od.done; rw [if_neg (fun h => by have := h.2.2.2; omega), if_neg (fun h => by have := h.1; omega)]]
      exact odop_start b G w o o a 1 0 h hD (fun H w h => on_start_high b H w o a h he h2)
    · rw [show o.ans a = anP 0 0 noT a.epoch from by unfold Od.ans; rw [if_pos h8, if_neg he, if_neg (by omega)], show o.done a = ⟨a.epoch, a.page, true⟩ from by unfold Od.done; rw [if_pos ⟨h8, by omega, by omega, by omega⟩]]
      exact odop_start b G w o ⟨a.epoch, a.page, true⟩ a 0 0 h hD (fun H w h => on_start b H w o a h he ⟨by omega, by omega⟩ ha.1.epoch)
  by_cases h6 : a.kind = 6
  · have hD : ∀ w, Calls Tryz.prog 70 #[.pointer (some ⟨b, 0, none⟩), .int .i64 a.kind] w fun e w' => e = .returned (fnO 77 b) ∧ Below w.heap.size w w' := by rw [h6]; exact odeed_next b
    by_cases he : a.epoch = o.epoch
    · cases hn : o.knows
      · rw [show o.ans a = anP 47 0 noT o.epoch from by unfold Od.ans; rw [if_neg h8, if_pos (.inl h6), if_neg (fun h => h he), if_pos hn], show o.done a = o from by unfold Od.done; rw [if_neg (fun h => h8 h.1), if_neg (fun h => by have := h.2.2.1; rw [hn] at this; cases this)]]
        exact odop_next b G w o o a 47 0 h hD (fun H w h => on_next_dumb b H w o a h he hn)
      by_cases ht : o.tail = 16384
      · rw [show o.ans a = anP 44 0 noT o.epoch from by unfold Od.ans; rw [if_neg h8, if_pos (.inl h6), if_neg (fun h => h he), if_neg (by rw [hn]; decide), if_neg (by omega), if_pos ht], show o.done a = o from by unfold Od.done; rw [if_neg (fun h => h8 h.1), if_neg (fun h => h.2.2.2 ht)]]
        exact odop_next b G w o o a 44 0 h hD (fun H w h => on_next_full b H w o a h he hn ht)
      · rw [show o.ans a = anP 0 o.tail noT o.epoch from by unfold Od.ans; rw [if_neg h8, if_pos (.inl h6), if_neg (fun h => h he), if_neg (by rw [hn]; decide), if_neg (by omega), if_neg ht], show o.done a = ⟨o.epoch, o.tail + 1, o.knows⟩ from by unfold Od.done; rw [if_neg (fun h => h8 h.1), if_pos ⟨h6, he, hn, ht⟩]]
        exact odop_next b G w o ⟨o.epoch, o.tail + 1, o.knows⟩ a 0 o.tail h hD (fun H w h => on_next b H w o a h he hn ht)
    · rw [show o.ans a = anP 40 0 noT o.epoch from by unfold Od.ans; rw [if_neg h8, if_pos (.inl h6), if_pos he], show o.done a = o from by unfold Od.done; rw [if_neg (fun h => h8 h.1), if_neg (fun h => he h.2.1)]]
      exact odop_next b G w o o a 40 0 h hD (fun H w h => on_next_other b H w o a h he)
  have hdone : o.done a = o := by unfold Od.done; rw [if_neg (fun h => h8 h.1), if_neg (fun h => h6 h.1)]
  rw [hdone]
  by_cases h7 : a.kind = 7
  · have hD : ∀ w, Calls Tryz.prog 70 #[.pointer (some ⟨b, 0, none⟩), .int .i64 a.kind] w fun e w' => e = .returned (fnO 78 b) ∧ Below w.heap.size w w' := by rw [h7]; exact odeed_look b
    by_cases he : a.epoch = o.epoch
    · cases hn : o.knows
      · rw [show o.ans a = anP 47 0 noT o.epoch from by unfold Od.ans; rw [if_neg h8, if_pos (.inr h7), if_neg (fun h => h he), if_pos hn]]
        exact odop_look b G w o o a 47 0 h hD (fun H w h => on_look_dumb b H w o a h he hn)
      · rw [show o.ans a = anP 0 o.tail noT o.epoch from by unfold Od.ans; rw [if_neg h8, if_pos (.inr h7), if_neg (fun h => h he), if_neg (by rw [hn]; decide), if_pos h7]]
        exact odop_look b G w o o a 0 o.tail h hD (fun H w h => on_look b H w o a h he hn)
    · rw [show o.ans a = anP 40 0 noT o.epoch from by unfold Od.ans; rw [if_neg h8, if_pos (.inr h7), if_pos he]]
      exact odop_look b G w o o a 40 0 h hD (fun H w h => on_look_other b H w o a h he)
  · rw [show o.ans a = anP 1 0 noT o.epoch from by unfold Od.ans; rw [if_neg h8, if_neg (fun h => h.elim h6 h7)]]
    exact odop_refuse b G w o o a 1 0 h (fun w => odeed_none b a.kind w h8 h6 h7) (fun H w h => on_refuse b H w o a h)
theorem o_same {f : FuncId} {a : Array Value} {w : World} {v : Value} (h : Calls Tryz.prog f a w fun e w' => e = .returned v ∧ w = w') : Calls Tryz.prog f a w fun e w' => e = .returned v ∧ Below w.heap.size w w' := h.mono fun e w' ⟨h1, h2⟩ => ⟨h1, h2 ▸ Below.refl _ _⟩
theorem orderSays : OrderSays OM where
  thing := om_thing
  ok := fun h => h.1
  new := on_new
  ask := on_ask
end Go.Proofs.YtimjlfkdbkafeaaGreat
namespace Go.Proofs.YtimjlfkdbkafeaaGreat
open Go.RowKit Go.Maps
set_option linter.unusedVariables false
set_option maxRecDepth 20000
theorem Ps.Ok.none {p : Ps} (h : p.Ok) {a : Int} (ht : thereB a = true) (hk : p.kind a = 0) : a ∉ p.l.map (·.at_) := by
  intro hm
  obtain ⟨x, hx, e⟩ := List.mem_map.1 hm
  exact (h.kind_zero ht hk).2 x hx e
theorem Ps.Ok.most {p : Ps} (h : p.Ok) : p.l.length ≤ 100000 := by have := h.few; have := h.room; omega
set_option maxHeartbeats 8000000 in
theorem pwrite_any (G : Nat → Prop) (w : World) (b : Nat) (p : Ps) (a : Int) (s : ByteArray) (h : PGm G w b p) (hok : p.Ok) (hs : s.size ≤ 1000000) :
    Calls Tryz.prog 144 #[.pointer (some ⟨b, 0, none⟩), .int .i64 a, .string s] w fun e w' => e = .returned (.int .i64 (p.writeE a s)) ∧ Left PGm G w w' b (p.write a s) := by
  have CN := Lib.hid (pgIsNone_any b a w)
  have CK := Lib.hid (kind_any G w b p a h)
  have HNO := Lib.hid (show ∀ c, p.writeE a s = c → c ≠ 0 → Left PGm G w w b (p.write a s) from fun c e hc => by
    unfold Ps.write
    rw [if_neg (by rw [e]; exact hc)]
    exact left_same h)
  by_cases ht : thereB a = true
  · rw [ht] at CN
    have ht' : ¬ thereB a = false := by rw [ht]; decide
    by_cases hz : 4096 < s.size
    · have HE := Lib.hid (show p.writeE a s = 2 from by unfold Ps.writeE; rw [if_neg ht', if_pos hz])
      have hz' : (4096 : Int) < (s.size : Int) := by omega
      clear h hok hz ht ht'
      generalize p.kind a = kd at *
      go_enter Tryz.func144, Tryz.ntmps144
      go_wp2_with (first | (go_at_call 44; refine CN.out.mono ?_; rintro e w1 ⟨rfl, rfl⟩) | (go_at_call 45; refine CK.out.mono ?_; rintro e w2 ⟨rfl, rfl⟩))
      go_ret
      rw [HE.out]
      exact ⟨rfl, HNO.out 2 HE.out (by decide)⟩
    have hz' : (s.size : Int) ≤ 4096 := by omega
    by_cases h3 : p.kind a = 3
    · have HE := Lib.hid (show p.writeE a s = 43 from by unfold Ps.writeE; rw [if_neg ht', if_neg hz, if_pos h3])
      rw [h3] at CK
      clear h hok h3 hz ht ht'
      go_enter Tryz.func144, Tryz.ntmps144
      go_wp2_with (first | (go_at_call 44; refine CN.out.mono ?_; rintro e w1 ⟨rfl, rfl⟩) | (go_at_call 45; refine CK.out.mono ?_; rintro e w2 ⟨rfl, rfl⟩))
      go_ret
      rw [HE.out]
      exact ⟨rfl, HNO.out 43 HE.out (by decide)⟩
    have d3 : (p.kind a == 3) = false := beq_eq_false_iff_ne.2 h3
    by_cases h0 : p.kind a = 0
    · rw [h0] at CK
      have CP := Lib.hid (put_any G w b p a 1 s h ht (hok.none ht h0) hs hok.most)
      have HE := Lib.hid (show (if p.room ≤ p.l.length then (44 : Int) else 0) = p.writeE a s from by unfold Ps.writeE; rw [if_neg ht', if_neg hz, if_neg h3, if_neg (show ¬ p.kind a ≠ 0 from by rw [h0]; decide)])
      have HW := Lib.hid (show (if p.room ≤ p.l.length then p else p.add ⟨a, 1, s⟩) = p.write a s from by
        unfold Ps.write
        rw [← HE.out]
        by_cases hr : p.room ≤ p.l.length
        · rw [if_pos hr, if_pos hr, if_neg (by decide)]
        · rw [if_neg hr, if_neg hr, if_pos rfl])
      rw [HE.out, HW.out] at CP
      clear h hok h3 h0 hz ht ht' d3
      go_enter Tryz.func144, Tryz.ntmps144
      go_wp2_with (first | (go_at_call 44; refine CN.out.mono ?_; rintro e w1 ⟨rfl, rfl⟩) | (go_at_call 45; refine CK.out.mono ?_; rintro e w2 ⟨rfl, rfl⟩) | (go_at_call 148; refine CP.out.mono ?_; rintro e w3 ⟨rfl, h3⟩))
      go_ret
      exact ⟨rfl, h3⟩
    · have HE := Lib.hid (show p.writeE a s = 41 from by unfold Ps.writeE; rw [if_neg ht', if_neg hz, if_neg h3, if_pos h0])
      have d0 : (p.kind a != 0) = true := bne_iff_ne.2 h0
      clear h hok h3 h0 hz ht ht'
      generalize p.kind a = kd at *
      go_enter Tryz.func144, Tryz.ntmps144
      go_wp2_with (first | (go_at_call 44; refine CN.out.mono ?_; rintro e w1 ⟨rfl, rfl⟩) | (go_at_call 45; refine CK.out.mono ?_; rintro e w2 ⟨rfl, rfl⟩))
      go_ret
      rw [HE.out]
      exact ⟨rfl, HNO.out 41 HE.out (by decide)⟩
  · have ht' : thereB a = false := Bool.eq_false_iff.2 ht
    have HE := Lib.hid (show p.writeE a s = 1 from by unfold Ps.writeE; rw [if_pos ht'])
    rw [ht'] at CN
    clear h hok ht ht'
    generalize p.kind a = kd at *
    go_enter Tryz.func144, Tryz.ntmps144
    go_wp2_with (first | (go_at_call 44; refine CN.out.mono ?_; rintro e w1 ⟨rfl, rfl⟩) | (go_at_call 45; refine CK.out.mono ?_; rintro e w2 ⟨rfl, rfl⟩))
    go_ret
    rw [HE.out]
    exact ⟨rfl, HNO.out 1 HE.out (by decide)⟩
theorem pwrite_nil (a : Int) (s : ByteArray) (w : World) (hs : s.size ≤ maxLen) : Calls Tryz.prog 144 #[.pointer none, .int .i64 a, .string s] w fun e w' => e = .returned (.int .i64 1) ∧ w = w' := by
  have CN := Lib.hid (isNone_nil a w)
  have CK := Lib.hid (kind_nil a w)
  go_enter Tryz.func144, Tryz.ntmps144
  go_wp2_with (first | (go_at_call 44; refine CN.out.mono ?_; rintro e w1 ⟨rfl, rfl⟩) | (go_at_call 45; refine CK.out.mono ?_; rintro e w2 ⟨rfl, rfl⟩))
  go_ret
  exact ⟨rfl, rfl⟩
set_option maxHeartbeats 8000000 in
theorem pfill_any (G : Nat → Prop) (w : World) (b : Nat) (p : Ps) (a : Int) (h : PGm G w b p) (hok : p.Ok) :
    Calls Tryz.prog 145 #[.pointer (some ⟨b, 0, none⟩), .int .i64 a] w fun e w' => e = .returned (.int .i64 (p.fillE a)) ∧ Left PGm G w w' b (p.fill a) := by
  have CN := Lib.hid (pgIsNone_any b a w)
  have CK := Lib.hid (kind_any G w b p a h)
  have HNO := Lib.hid (show ∀ c, p.fillE a = c → (c ≠ 0 ∨ p.kind a = 2) → Left PGm G w w b (p.fill a) from fun c e hc => by
    unfold Ps.fill
    rw [if_neg (by rw [e]; rintro ⟨h1, h2⟩; rcases hc with hc | hc; exact hc h1; exact h2 hc)]
    exact left_same h)
  by_cases ht : thereB a = true
  · rw [ht] at CN
    have ht' : ¬ thereB a = false := by rw [ht]; decide
    have hks := hok.kinds a
    by_cases h3 : p.kind a = 3
    · have HE := Lib.hid (show p.fillE a = 43 from by unfold Ps.fillE; rw [if_neg ht', if_pos h3])
      rw [h3] at CK
      clear h hok h3 ht ht' hks
      go_enter Tryz.func145, Tryz.ntmps145
      go_wp2_with (first | (go_at_call 44; refine CN.out.mono ?_; rintro e w1 ⟨rfl, rfl⟩) | (go_at_call 45; refine CK.out.mono ?_; rintro e w2 ⟨rfl, rfl⟩))
      go_ret
      rw [HE.out]
      exact ⟨rfl, HNO.out 43 HE.out (.inl (by decide))⟩
    by_cases h2 : p.kind a = 2
    · have HE := Lib.hid (show p.fillE a = 0 from by unfold Ps.fillE; rw [if_neg ht', if_neg h3, if_pos h2])
      have HK := Lib.hid h2
      rw [h2] at CK
      clear h hok h3 h2 ht ht' hks
      go_enter Tryz.func145, Tryz.ntmps145
      go_wp2_with (first | (go_at_call 44; refine CN.out.mono ?_; rintro e w1 ⟨rfl, rfl⟩) | (go_at_call 45; refine CK.out.mono ?_; rintro e w2 ⟨rfl, rfl⟩))
      go_ret
      rw [HE.out]
      exact ⟨rfl, HNO.out 0 HE.out (.inr HK.out)⟩
    by_cases h1 : p.kind a = 1
    · have HE := Lib.hid (show p.fillE a = 41 from by unfold Ps.fillE; rw [if_neg ht', if_neg h3, if_neg h2, if_pos h1])
      rw [h1] at CK
      clear h hok h3 h2 h1 ht ht' hks
      go_enter Tryz.func145, Tryz.ntmps145
      go_wp2_with (first | (go_at_call 44; refine CN.out.mono ?_; rintro e w1 ⟨rfl, rfl⟩) | (go_at_call 45; refine CK.out.mono ?_; rintro e w2 ⟨rfl, rfl⟩))
      go_ret
      rw [HE.out]
      exact ⟨rfl, HNO.out 41 HE.out (.inl (by decide))⟩
    have h0 : p.kind a = 0 := by omega
    have CP := Lib.hid (put_any G w b p a 2 ⟨#[]⟩ h ht (hok.none ht h0) (by decide) hok.most)
    have HE := Lib.hid (show (if p.room ≤ p.l.length then (44 : Int) else 0) = p.fillE a from by unfold Ps.fillE; rw [if_neg ht', if_neg h3, if_neg h2, if_neg h1])
    have HW := Lib.hid (show (if p.room ≤ p.l.length then p else p.add ⟨a, 2, ⟨#[]⟩⟩) = p.fill a from by
      unfold Ps.fill
      rw [← HE.out]
      by_cases hr : p.room ≤ p.l.length
      · rw [if_pos hr, if_pos hr, if_neg (by rintro ⟨h, _⟩; exact absurd h (by decide))]
      · rw [if_neg hr, if_neg hr, if_pos ⟨rfl, h2⟩])
    rw [HE.out, HW.out] at CP
    rw [h0] at CK
    clear h hok h3 h0 h1 h2 ht ht' hks
    go_enter Tryz.func145, Tryz.ntmps145
    go_wp2_with (first | (go_at_call 44; refine CN.out.mono ?_; rintro e w1 ⟨rfl, rfl⟩) | (go_at_call 45; refine CK.out.mono ?_; rintro e w2 ⟨rfl, rfl⟩) | (go_at_call 148; refine CP.out.mono ?_; rintro e w3 ⟨rfl, h3⟩))
    go_ret
    exact ⟨rfl, h3⟩
  · have ht' : thereB a = false := Bool.eq_false_iff.2 ht
    have HE := Lib.hid (show p.fillE a = 1 from by unfold Ps.fillE; rw [if_pos ht'])
    rw [ht'] at CN
    clear h hok ht ht'
    go_enter Tryz.func145, Tryz.ntmps145
    go_wp2_with (go_at_call 44; refine CN.out.mono ?_; rintro e w1 ⟨rfl, rfl⟩)
    go_ret
    rw [HE.out]
    exact ⟨rfl, HNO.out 1 HE.out (.inl (by decide))⟩
theorem pfill_nil (a : Int) (w : World) : Calls Tryz.prog 145 #[.pointer none, .int .i64 a] w fun e w' => e = .returned (.int .i64 1) ∧ w = w' := by
  have CN := Lib.hid (isNone_nil a w)
  go_enter Tryz.func145, Tryz.ntmps145
  go_wp2_with (go_at_call 44; refine CN.out.mono ?_; rintro e w1 ⟨rfl, rfl⟩)
  go_ret
  exact ⟨rfl, rfl⟩
set_option maxHeartbeats 8000000 in
theorem pread_any (G : Nat → Prop) (w : World) (b : Nat) (p : Ps) (a : Int) (h : PGm G w b p) (hok : p.Ok) :
    Calls Tryz.prog 20 #[.pointer (some ⟨b, 0, none⟩), .int .i64 a] w fun e w' => e = .returned (.tuple #[.string (p.readS a), .int .i64 (p.readE a)]) ∧ Below w.heap.size w w' := by
  have CN := Lib.hid (pgIsNone_any b a w)
  have CK := Lib.hid (kind_any G w b p a h)
  by_cases ht : thereB a = true
  · rw [ht] at CN
    have ht' : ¬ thereB a = false := by rw [ht]; decide
    have hks := hok.kinds a
    by_cases h3 : p.kind a = 3
    · have HE := Lib.hid (show p.readE a = 43 from by unfold Ps.readE; rw [if_neg ht', if_pos h3])
      have HS := Lib.hid (show p.readS a = ⟨#[]⟩ from by unfold Ps.readS; rw [HE.out]; rfl)
      rw [h3] at CK
      clear h hok h3 hks ht ht'
      go_enter Tryz.func20, Tryz.ntmps20
      go_wp2_with (first | (go_at_call 44; refine CN.out.mono ?_; rintro e w1 ⟨rfl, rfl⟩) | (go_at_call 45; refine CK.out.mono ?_; rintro e w2 ⟨rfl, rfl⟩))
      go_ret2
      rw [HE.out, HS.out]
      exact ⟨rfl, Below.refl _ _⟩
    by_cases h0 : p.kind a = 0
    · have HE := Lib.hid (show p.readE a = 42 from by unfold Ps.readE; rw [if_neg ht', if_neg h3, if_pos h0])
      have HS := Lib.hid (show p.readS a = ⟨#[]⟩ from by unfold Ps.readS; rw [HE.out]; rfl)
      rw [h0] at CK
      clear h hok h3 h0 hks ht ht'
      go_enter Tryz.func20, Tryz.ntmps20
      go_wp2_with (first | (go_at_call 44; refine CN.out.mono ?_; rintro e w1 ⟨rfl, rfl⟩) | (go_at_call 45; refine CK.out.mono ?_; rintro e w2 ⟨rfl, rfl⟩))
      go_ret2
      rw [HE.out, HS.out]
      exact ⟨rfl, Below.refl _ _⟩
    by_cases h2 : p.kind a = 2
    · have HE := Lib.hid (show p.readE a = 46 from by unfold Ps.readE; rw [if_neg ht', if_neg h3, if_neg h0, if_pos h2])
      have HS := Lib.hid (show p.readS a = ⟨#[]⟩ from by unfold Ps.readS; rw [HE.out]; rfl)
      rw [h2] at CK
      clear h hok h3 h0 h2 hks ht ht'
      go_enter Tryz.func20, Tryz.ntmps20
      go_wp2_with (first | (go_at_call 44; refine CN.out.mono ?_; rintro e w1 ⟨rfl, rfl⟩) | (go_at_call 45; refine CK.out.mono ?_; rintro e w2 ⟨rfl, rfl⟩))
      go_ret2
      rw [HE.out, HS.out]
      exact ⟨rfl, Below.refl _ _⟩
    have h1 : p.kind a = 1 := by omega
    have HE := Lib.hid (show p.readE a = 0 from by unfold Ps.readE; rw [if_neg ht', if_neg h3, if_neg h0, if_neg h2])
    have HS := Lib.hid (show p.readS a = textL p.l a from by unfold Ps.readS; rw [if_pos HE.out]; rfl)
    have HZ := Lib.hid (show (textL p.l a).size ≤ 1099511627776 from by
      unfold textL
      cases e : findP p.l a with
      | none => exact Nat.zero_le _
      | some x => have := (hok.each x (findP_some e).1).2.2; show x.s.size ≤ _; omega)
    obtain ⟨mb, g1, g2, _⟩ := h
    obtain ⟨c0, c1, c2, _⟩ := three_cells g1
    have hl := g2.look (there_wf ht)
    have hf := sheet_text
    rw [h1] at CK
    clear g1 g2 hok h3 h0 h1 h2 hks ht ht'
    generalize kindL p.l a = kk at *
    generalize textL p.l a = tt at *
    go_enter Tryz.func20, Tryz.ntmps20
    go_wp2_with (first | (go_at_call 44; refine CN.out.mono ?_; rintro e w1 ⟨rfl, rfl⟩) | (go_at_call 45; refine CK.out.mono ?_; rintro e w2 ⟨rfl, rfl⟩) | (go_at_call 35; refine (clone_any tt _ HZ.out).mono ?_; rintro e w3 ⟨rfl, hb3⟩))
    go_ret2
    rw [HE.out, HS.out]
    exact ⟨rfl, hb3⟩
  · have ht' : thereB a = false := Bool.eq_false_iff.2 ht
    have HE := Lib.hid (show p.readE a = 1 from by unfold Ps.readE; rw [if_pos ht'])
    have HS := Lib.hid (show p.readS a = ⟨#[]⟩ from by unfold Ps.readS; rw [HE.out]; rfl)
    rw [ht'] at CN
    clear h hok ht ht'
    go_enter Tryz.func20, Tryz.ntmps20
    go_wp2_with (go_at_call 44; refine CN.out.mono ?_; rintro e w1 ⟨rfl, rfl⟩)
    go_ret2
    rw [HE.out, HS.out]
    exact ⟨rfl, Below.refl _ _⟩
theorem pread_nil (a : Int) (w : World) : Calls Tryz.prog 20 #[.pointer none, .int .i64 a] w fun e w' => e = .returned (.tuple #[.string ⟨#[]⟩, .int .i64 1]) ∧ w = w' := by
  have CN := Lib.hid (isNone_nil a w)
  go_enter Tryz.func20, Tryz.ntmps20
  go_wp2_with (go_at_call 44; refine CN.out.mono ?_; rintro e w1 ⟨rfl, rfl⟩)
  go_ret2
  exact ⟨rfl, rfl⟩
end Go.Proofs.YtimjlfkdbkafeaaGreat
namespace Go.Proofs.YtimjlfkdbkafeaaGreat
open Go.RowKit
set_option maxRecDepth 20000
theorem chainR_no {ep : Int} {L : List (List Int)} {a : Int} (h : ofB ep L a = false) : chainR ep L a = [] := if_neg (by rw [h]; decide)
theorem chainR_yes {ep : Int} {L : List (List Int)} {a : Int} (h : ofB ep L a = true) {k : Nat} (hk : k < L.length) (e : a % (L.length : Int) = k) : chainR ep L a = L[k] := by
  unfold chainR
  rw [if_pos h, e, Int.toNat_natCast]
  simp [hk]
theorem made_at (w : World) {B n : Nat} (hn : w.heap.size = n) (hB : B ≤ n) : OI (w.alloc (.cells #[] 3)) B (.slice (some ⟨n, 0, none⟩) 0 0) [] := by
  subst hn
  exact OI.made w hB
set_option maxHeartbeats 4000000 in
theorem refChain_any (ep : Int) (ao : Option Addr) (cap : Nat) (L : List (List Int)) (a : Int) (w : World) (h : CL w ao L) (hl : L.length ≤ 255 ∧ ∀ c ∈ L, c.length ≤ 255) :
    Calls Tryz.prog 15 #[.agg #[.int .i64 ep, .slice ao L.length cap], .int .i64 a] w fun e w' => ∃ bo cb, e = .returned (.slice bo (chainR ep L a).length cb) ∧ NLI w' bo cb (chainR ep L a) ∧ Below w.heap.size w w' := by
  have HB0 := Lib.hid ((Below.refl w.heap.size w).alloc (Nat.le_refl _) (.cells #[.int .i64 ep, .slice ao L.length cap] 27))
  have HC := Lib.hid (h.below HB0.out)
  have HP := Lib.hid (show PB (w.alloc (.cells #[.int .i64 ep, .slice ao L.length cap] 27)) w.heap.size ep ao L.length cap from heap_alloc_new _ _)
  have CO := Lib.hid (refOf_any ep ao cap L a _ HC.out hl)
  have hl' : (L.length : Int) ≤ 255 := by have := hl.1; omega
  have HM := Lib.hid hl
  clear h hl
  by_cases ho : ofB ep L a = true
  · obtain ⟨hg, ha⟩ := ofB_iff.1 ho
    obtain ⟨n1, n4⟩ := good_len hg
    obtain ⟨r1, _, _⟩ := of_range (n := L.length) ⟨by omega, by omega⟩ ha
    obtain ⟨k, hk⟩ := Int.eq_ofNat_of_zero_le r1.1
    have hkl : k < L.length := by omega
    have HX := Lib.hid (chainR_yes ho hkl hk)
    rw [gotV_yes ho, hk] at CO
    have mo := HM.out.2 _ (List.getElem_mem hkl)
    have mo' : L[k].length ≤ 1000000 := by omega
    have k0 : (k : Int) < (L.length : Int) := by omega
    clear ho hg ha r1 hk
    generalize a / (L.length : Int) = q at *
    go_enter Tryz.func15, Tryz.ntmps15
    go_wp2_with (first
      | (go_at_call 16; refine CO.out.mono ?_; rintro e w1 ⟨rfl, hb1⟩; have HB1 := Lib.hid (HB0.out.trans (hb1.mono HB0.out.size)); obtain ⟨b0, b1⟩ := (HP.out.below hb1).cells; obtain ⟨bk, off, ai, ci, hao, c0, hN⟩ := (HC.out.below hb1) k hkl; subst hao; have HN := Lib.hid hN; have hw1 := block_lt_of_cell b1; have hbk := block_lt_of_cell c0; have HMD := Lib.hid (made_at (w1.alloc (.cells #[.int .i64 k, .int .i64 q, .bool true] 51)) (B := w.heap.size) (n := w1.heap.size + 1) (by simp) (by have := HB1.out.size; simp; omega)); clear hb1 hN)
      | (refine wpList_app_ints (o := ⟨some 20, _, _, _, _, _⟩) rfl (.tmp 12) (.tmp 19) rfl (B := w.heap.size) (v := .slice (some ⟨w1.heap.size + 1, 0, none⟩) 0 0) (D := []) rfl HMD.out (ao := ai) (cap := ci) (l := L[k]) rfl rfl ((HN.out.alloc _).alloc _) (by simp; omega) (by have := HB1.out.size; simp; omega) ?_; intro v2 w2 hI hg _; rw [List.nil_append] at hI; obtain ⟨a2, c2, hv2, hN2, _, _⟩ := hI.form; have HB2 := Lib.hid (((HB1.out.alloc HB1.out.size _).alloc (by have := HB1.out.size; simp; omega) _).grown hg (by have := HB1.out.size; simp; omega) (fun k e => by have := HB1.out.size; have e2 : w1.heap.size + 1 = k := Option.some.inj e; omega)); have HN2 := Lib.hid hN2; subst hv2; clear hI hg hN2))
    go_ret
    rw [HX.out]
    exact ⟨_, _, rfl, HN2.out, HB2.out⟩
  · have ho' : ofB ep L a = false := Bool.eq_false_iff.2 ho
    rw [gotV_no ho'] at CO
    rw [chainR_no ho']
    clear ho ho'
    go_enter Tryz.func15, Tryz.ntmps15
    go_wp2_with (go_at_call 16; refine CO.out.mono ?_; rintro e w1 ⟨rfl, hb1⟩; have HB1 := Lib.hid (HB0.out.trans (hb1.mono HB0.out.size)); clear hb1)
    go_ret
    exact ⟨none, 0, rfl, NLI.nil _, HB1.out.alloc HB1.out.size _⟩
end Go.Proofs.YtimjlfkdbkafeaaGreat
namespace Go.Proofs.YtimjlfkdbkafeaaGreat
set_option linter.unusedVariables false
open Go.RowKit
set_option maxRecDepth 20000
theorem on_nil_ask (w : World) (a : Ak) : Calls Tryz.prog 50 #[.pointer none, askV a] w fun e w' => e = .returned (ansV (anP 1 0 noT 0) none 0) ∧ Below w.heap.size w w' := by
  obtain ⟨k, un, ep, pg, sz, n, s, pe, L, ao, cap⟩ := a
  have HW := Lib.hid (two_blocks w #[.int .i64 k, .int .i64 un, .int .i64 ep, .int .i64 pg, .int .i64 sz, .int .i64 n, .string s, .int .i64 pe, .slice ao L.length cap] #[.int .i64 0, .int .i64 0, .string ⟨#[]⟩, .int .i64 0, .slice none 0 0, .int .i64 0, .int .i64 0, .int .i64 0] 35 40)
  have HB := Lib.hid (show Below w.heap.size w ((w.alloc (.cells #[.int .i64 k, .int .i64 un, .int .i64 ep, .int .i64 pg, .int .i64 sz, .int .i64 n, .string s, .int .i64 pe, .slice ao L.length cap] 35)).alloc (.cells #[.int .i64 0, .int .i64 0, .string ⟨#[]⟩, .int .i64 0, .slice none 0 0, .int .i64 0, .int .i64 0, .int .i64 0] 40)) from (below_new _ _).alloc (by simp) _)
  show Calls _ _ #[.pointer none, .agg #[.int .i64 k, .int .i64 un, .int .i64 ep, .int .i64 pg, .int .i64 sz, .int .i64 n, .string s, .int .i64 pe, .slice ao L.length cap]] w _
  go_enter Tryz.func50, Tryz.ntmps50
  go_wp2_with (go_at_call 69; refine (ocoded_any _ _).mono ?_; rintro e w2 ⟨rfl, hb2⟩; have HX := Lib.hid (below_heap hb2 HW.out.2); obtain ⟨⟨x0, x1, x2, x3, x4, x5, x6, x7⟩, f0, f1, f2, f3, f4, f5, f6, f7⟩ := eight_cells HX.out; have hx := lt_of_block HX.out; have HB2 := Lib.hid (HB.out.trans (hb2.mono HB.out.size)); clear hb2)
  exact ans_ret (x := anP 1 0 noT 0) (ao := none) (cap := 0) rfl (eight_set7 (eight_set6 (eight_set5 (eight_set4 (eight_set3 (eight_set2 (eight_set1 (eight_set0 HX.out _) _) _) _) _) _) _) _) rfl rfl ⟨rfl, ((((((((HB2.out.setCell (by simp) _).setCell (by simp) _).setCell (by simp) _).setCell (by simp) _).setCell (by simp) _).setCell (by simp) _).setCell (by simp) _).setCell (by simp) _)⟩
end Go.Proofs.YtimjlfkdbkafeaaGreat
namespace Go.Proofs.YtimjlfkdbkafeaaGreat
set_option linter.unusedVariables false
open Go.RowKit
/-- such a question as the statements' appends ask -/
structure SmallQ (k : Ak) : Prop where
  kind : k.kind = 1 ∨ k.kind = 3 ∨ k.kind = 6
  unit : 0 ≤ k.unit ∧ k.unit ≤ 15
  epoch : k.epoch = 0
  page : 0 ≤ k.page ∧ k.page < 110
  data : k.data.size ≤ 4096
theorem asks_yes {a : Ap} (h : a.at_ ≠ 6) : a.asks = true := decide_eq_true h
theorem asks_no {a : Ap} (h : a.at_ = 6) : a.asks = false := decide_eq_false (fun g => g h)
theorem small_next : SmallQ (nextK 0) := ⟨.inr (.inr rfl), by decide, rfl, by decide, by decide⟩
theorem ApE.small {s : ByteArray} {n : Nd} {a : Ap} (h : ApE s n a) (hn : a.at_ ≠ 6) (ht : n.o.tail ≤ 200) (hs : s.size ≤ 4096) : SmallQ a.ask := by
  have hq := h.asks hn ht
  rcases h.st with h1 | ⟨_, h2 | h2 | h2⟩
  · have hk : a.ask = nextK 0 := by unfold Ap.ask; rw [if_neg (by omega), if_pos h1, h.ep]
    rw [hk]
    exact small_next
  · have hk : a.ask = a.unitK 1 a.txt := by unfold Ap.ask; rw [if_neg (by omega), if_neg (by omega), if_pos h2.1]
    rcases hq with ⟨h5, _⟩ | ⟨h3, h4, h5, h6⟩
    · rw [hk] at h5; exact absurd (show (1 : Int) = 6 from h5) (by decide)
    · exact ⟨h3.elim (fun h => .inl h.1) (fun h => .inr (.inl h)), h6, h4, h5, by rw [hk]; show a.txt.size ≤ 4096; rw [h.txt]; exact hs⟩
  · have hk : a.ask = a.unitK 3 ⟨#[]⟩ := by unfold Ap.ask; rw [if_neg (by omega), if_neg (by omega), if_neg (by omega), if_pos h2.1]
    rcases hq with ⟨h5, _⟩ | ⟨h3, h4, h5, h6⟩
    · rw [hk] at h5; exact absurd (show (3 : Int) = 6 from h5) (by decide)
    · exact ⟨h3.elim (fun h => .inl h.1) (fun h => .inr (.inl h)), h6, h4, h5, by rw [hk]; exact Nat.zero_le _⟩
  · exact absurd h2.1 hn
theorem OrS.small {txt : Nat → ByteArray} {m : Nat} {n : Nd} {A : Nat → Ap} (h : OrS txt m n A) (hm : m ≤ 12) {i : Nat} (hi : i < m) (hs : (txt i).size ≤ 4096) (h6 : (A i).at_ ≠ 6) : SmallQ (A i).ask := by
  obtain ⟨a1, a2, a3, a4⟩ := h.a i hi
  have htl := h.tail hm
  rcases a4 with h2 | ⟨hx, h3, _⟩
  · have hk : (A i).ask = nextK 0 := by unfold Ap.ask; rw [if_neg (by omega), if_pos h2, a1]
    rw [hk]
    exact small_next
  · rcases h3 with ⟨h3, hi2⟩ | ⟨h3, _⟩
    · have hu := orL_unit (x := (A i).addr) (by omega) hi2
      have hp := (orL_of (x := (A i).addr) (by omega)).1
      have hk : (A i).ask = (A i).unitK 1 (A i).txt := by unfold Ap.ask; rw [if_neg (by omega), if_neg (by omega), if_pos h3]
      have ku : ((A i).unitK 1 (A i).txt).unit = unitO (A i).addr (A i).i := by show (chainR (A i).ep (A i).L (A i).addr).getD (A i).i 0 = _; rw [a1, a2, hu.1]
      have kp : ((A i).unitK 1 (A i).txt).page = (A i).addr / 2 := by show ofP (A i).ep (A i).L (A i).addr = _; rw [a1, a2, hp]
      rw [hk]
      exact ⟨.inl rfl, by rw [ku]; omega, a1, by rw [kp]; omega, by show (A i).txt.size ≤ 4096; rw [a3]; exact hs⟩
    · exact absurd h3 h6
theorem FulA.small {s : ByteArray} {k i : Nat} {a : Ap} (H : FulA s k i a) (hs : s.size ≤ 4096) (h6 : a.at_ ≠ 6) : SmallQ a.ask := by
  rcases H.st with ⟨h1, h2, h3⟩ | ⟨h1, h2, h3, h4, h5⟩ | ⟨h1, h2, h3⟩
  · have hk : a.ask = nextK 0 := by unfold Ap.ask; rw [if_neg (by omega), if_pos h2, H.ep]
    rw [hk]
    exact small_next
  · have hk : a.ask = a.unitK 1 a.txt := by unfold Ap.ask; rw [if_neg (by omega), if_neg (by omega), if_pos h2]
    have ku : (a.unitK 1 a.txt).unit = 0 := by show (chainR a.ep a.L a.addr).getD a.i 0 = 0; rw [H.ep, H.L, h3, h4, twL_of.2]; rfl
    have kp : (a.unitK 1 a.txt).page = 1 := by show ofP a.ep a.L a.addr = 1; rw [H.ep, H.L, h3, twL_of.1]
    rw [hk]
    exact ⟨.inl rfl, by rw [ku]; decide, H.ep, by rw [kp]; decide, by show a.txt.size ≤ 4096; rw [H.txt]; exact hs⟩
  · exact absurd h2 h6
theorem fst_small (k : Nat) (hk : k < 3) : (fstH k).2.at_ ≠ 6 ∧ SmallQ (fstH k).2.ask := by
  have : k = 0 ∨ k = 1 ∨ k = 2 := by omega
  rcases this with rfl | rfl | rfl
  · exact ⟨by decide +kernel, ⟨by decide +kernel, by decide +kernel, by decide +kernel, by decide +kernel, by decide +kernel⟩⟩
  · exact ⟨by decide +kernel, ⟨by decide +kernel, by decide +kernel, by decide +kernel, by decide +kernel, by decide +kernel⟩⟩
  · exact ⟨by decide +kernel, ⟨by decide +kernel, by decide +kernel, by decide +kernel, by decide +kernel, by decide +kernel⟩⟩
def wkS : ByteArray := ⟨#[114, 101, 99]⟩
/-- one question more, heard -/
def wkH : Nat → Hd × Ap
  | 0 => (⟨newN 0 twL 9, []⟩, newAp 0 twL wkS)
  | k + 1 => ((wkH k).1.asked (wkH k).2.ask 0, (wkH k).2.hear ((wkH k).1.heard (wkH k).2.ask 0) true)
theorem wk_used (k : Nat) (hk : k ≤ 3) : (wkH k).1.n.l.used.length ≤ 100000 := by
  have : k = 0 ∨ k = 1 ∨ k = 2 ∨ k = 3 := by omega
  rcases this with rfl | rfl | rfl | rfl
  all_goals decide +kernel
theorem wk_small (k : Nat) (hk : k < 3) : (wkH k).2.at_ ≠ 6 ∧ SmallQ (wkH k).2.ask := by
  have : k = 0 ∨ k = 1 ∨ k = 2 := by omega
  rcases this with rfl | rfl | rfl
  · exact ⟨by decide +kernel, ⟨by decide +kernel, by decide +kernel, by decide +kernel, by decide +kernel, by decide +kernel⟩⟩
  · exact ⟨by decide +kernel, ⟨by decide +kernel, by decide +kernel, by decide +kernel, by decide +kernel, by decide +kernel⟩⟩
  · exact ⟨by decide +kernel, ⟨by decide +kernel, by decide +kernel, by decide +kernel, by decide +kernel, by decide +kernel⟩⟩
theorem wk_ends : (wkH 3).2.overA = 0 ∧ (wkH 3).2.overE = 0 ∧ (wkH 3).2.overB = true ∧ ((wkH 3).1.n.u 1).p.readE 0 = 0 ∧ ((wkH 3).1.n.u 1).p.readS 0 = wkS := by decide +kernel
end Go.Proofs.YtimjlfkdbkafeaaGreat
