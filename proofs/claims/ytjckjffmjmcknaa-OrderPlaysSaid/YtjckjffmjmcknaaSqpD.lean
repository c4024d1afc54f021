/- What the program's sequencer answers any question; all that the laws of the sequencer ask of the program. Conditions: it and the question lie where the call was told. (Written by gen/gensqp.py.) -/
import Derived.Test.YtjckjffmjmcknaaSqpC
namespace Go.Proofs.Ytjckjffmjmcknaa
set_option linter.unusedVariables false
open Go.RowKit
set_option maxRecDepth 20000
/-- a deed of the sequencer in block b -/
def fnO (f : FuncId) (b : Nat) : Value := .func (.func f) #[.pointer (some ⟨b, 0, none⟩)] #[]
theorem odeed_start (b : Nat) (w : World) : Calls Try.prog 19 #[.pointer (some ⟨b, 0, none⟩), .int .i64 8] w fun e w' => e = .returned (fnO 21 b) ∧ Below w.heap.size w w' := by
  go_enter Try.func19, Try.ntmps19
  go_wp2
  go_ret
  exact ⟨rfl, Below.refl _ _⟩
theorem odeed_next (b : Nat) (w : World) : Calls Try.prog 19 #[.pointer (some ⟨b, 0, none⟩), .int .i64 6] w fun e w' => e = .returned (fnO 22 b) ∧ Below w.heap.size w w' := by
  go_enter Try.func19, Try.ntmps19
  go_wp2
  go_ret
  exact ⟨rfl, Below.refl _ _⟩
theorem odeed_look (b : Nat) (w : World) : Calls Try.prog 19 #[.pointer (some ⟨b, 0, none⟩), .int .i64 7] w fun e w' => e = .returned (fnO 23 b) ∧ Below w.heap.size w w' := by
  go_enter Try.func19, Try.ntmps19
  go_wp2
  go_ret
  exact ⟨rfl, Below.refl _ _⟩
theorem odeed_none (b : Nat) (k : Int) (w : World) (h8 : k ≠ 8) (h6 : k ≠ 6) (h7 : k ≠ 7) : Calls Try.prog 19 #[.pointer (some ⟨b, 0, none⟩), .int .i64 k] w fun e w' => e = .returned (fnO 24 b) ∧ Below w.heap.size w w' := by
  have d8 : (k == 8) = false := beq_eq_false_iff_ne.2 h8
  have d6 : (k == 6) = false := beq_eq_false_iff_ne.2 h6
  have d7 : (k == 7) = false := beq_eq_false_iff_ne.2 h7
  clear h8 h6 h7
  go_enter Try.func19, Try.ntmps19
  go_wp2
  go_ret
  exact ⟨rfl, Below.refl _ _⟩
set_option maxHeartbeats 400000 in
theorem odop_start (b : Nat) (G : Nat → Prop) (w : World) (o o' : Od) (a : Ak) (c m : Int) (h : OM b G w o)
    (hd : ∀ w, Calls Try.prog 19 #[.pointer (some ⟨b, 0, none⟩), .int .i64 a.kind] w fun e w' => e = .returned (fnO 21 b) ∧ Below w.heap.size w w')
    (hf : ∀ (H : Nat → Prop) (w : World), OM b H w o → Calls Try.prog 21 #[ptrO b, askV a] w fun e w' => e = .returned (anW c m noT 0) ∧ Leaves (OM b) H w w' o') :
    Calls Try.prog 12 #[ptrO b, askV a] w fun e w' => e = .returned (anW c m noT o'.epoch) ∧ Leaves (OM b) G w w' o' := by
  obtain ⟨k, un, ep, pg, sz, n, s, pe, L, ao, cap⟩ := a
  obtain ⟨ue, ut, uk⟩ := o'
  simp only at *
  have HS := Lib.hid (boxed_start (om_thing b) h #[.int .i64 k, .int .i64 un, .int .i64 ep, .int .i64 pg, .int .i64 sz, .int .i64 n, .string s, .int .i64 pe, .slice ao L.length cap])
  unfold zeroAn at HS
  have hbw := h.small
  have HD := Lib.hid hd
  unfold fnO at HD
  have HF := Lib.hid (show ∀ (H : Nat → Prop) (w : World), OM b H w o → Calls Try.prog 21 #[.pointer (some ⟨b, 0, none⟩), .agg #[.int .i64 k, .int .i64 un, .int .i64 ep, .int .i64 pg, .int .i64 sz, .int .i64 n, .string s, .int .i64 pe, .slice ao L.length cap]] w fun e w' => e = .returned (.agg #[.int .i64 c, .int .i64 m, .string ⟨#[]⟩, .int .i64 0, .slice none 0 0, .int .i64 0, .int .i64 0, .int .i64 0]) ∧ Leaves (OM b) H w w' ⟨ue, ut, uk⟩ from hf)
  clear h hd hf
  show Calls _ _ #[.pointer (some ⟨b, 0, none⟩), .agg #[.int .i64 k, .int .i64 un, .int .i64 ep, .int .i64 pg, .int .i64 sz, .int .i64 n, .string s, .int .i64 pe, .slice ao L.length cap]] w _
  go_enter Try.func12, Try.ntmps12
  go_wp2_with (go_at_call 19; refine (HD.out _).mono ?_; rintro e w2 ⟨rfl, hb2⟩; have HT2 := Lib.hid (HS.out.below (om_thing b) hb2); clear hb2; obtain ⟨H2, hH2, hU2⟩ := HT2.out.use; have HU2 := Lib.hid hU2; have HF2 := Lib.hid (HF.out H2 _ hH2); clear hU2 hH2; have x := HT2.out.ask; have x0 := cell_of x 0; have x1 := cell_of x 1; have x2 := cell_of x 2; have x3 := cell_of x 3; have x4 := cell_of x 4; have x5 := cell_of x 5; have x6 := cell_of x 6; have x7 := cell_of x 7; have x8 := cell_of x 8; clear x)
  refine HF2.out.mono ?_
  rintro e w3 ⟨rfl, hl⟩
  have HT3 := Lib.hid (HU2.out _ _ hl)
  clear hl
  obtain ⟨H, hH, _⟩ := HT3.out.use
  obtain ⟨t, _, hc⟩ := hH.cells
  obtain ⟨c0, c1, c2, _⟩ := three_cells hc
  have hb := hH.small
  clear hH hc
  obtain ⟨nl1, nl2⟩ := HT3.out.small
  obtain ⟨⟨ny0, ny1, ny2, ny3, ny4, ny5, ny6, ny7⟩, nfy0, nfy1, nfy2, nfy3, nfy4, nfy5, nfy6, nfy7⟩ := eight_cells HT3.out.ans
  go_wp2_with fail
  exact ans_ret (x := anP c m noT ue) (ao := none) (cap := 0) rfl (below_heap ((Below.refl _ _).alloc (Nat.le_refl _) _) (HT3.out.fin (om_thing b)).1) rfl rfl ⟨rfl, (HT3.out.fin (om_thing b)).2.below (om_thing b) ((Below.refl _ _).alloc (Nat.le_refl _) _)⟩
set_option maxHeartbeats 400000 in
theorem odop_next (b : Nat) (G : Nat → Prop) (w : World) (o o' : Od) (a : Ak) (c m : Int) (h : OM b G w o)
    (hd : ∀ w, Calls Try.prog 19 #[.pointer (some ⟨b, 0, none⟩), .int .i64 a.kind] w fun e w' => e = .returned (fnO 22 b) ∧ Below w.heap.size w w')
    (hf : ∀ (H : Nat → Prop) (w : World), OM b H w o → Calls Try.prog 22 #[ptrO b, askV a] w fun e w' => e = .returned (anW c m noT 0) ∧ Leaves (OM b) H w w' o') :
    Calls Try.prog 12 #[ptrO b, askV a] w fun e w' => e = .returned (anW c m noT o'.epoch) ∧ Leaves (OM b) G w w' o' := by
  obtain ⟨k, un, ep, pg, sz, n, s, pe, L, ao, cap⟩ := a
  obtain ⟨ue, ut, uk⟩ := o'
  simp only at *
  have HS := Lib.hid (boxed_start (om_thing b) h #[.int .i64 k, .int .i64 un, .int .i64 ep, .int .i64 pg, .int .i64 sz, .int .i64 n, .string s, .int .i64 pe, .slice ao L.length cap])
  unfold zeroAn at HS
  have hbw := h.small
  have HD := Lib.hid hd
  unfold fnO at HD
  have HF := Lib.hid (show ∀ (H : Nat → Prop) (w : World), OM b H w o → Calls Try.prog 22 #[.pointer (some ⟨b, 0, none⟩), .agg #[.int .i64 k, .int .i64 un, .int .i64 ep, .int .i64 pg, .int .i64 sz, .int .i64 n, .string s, .int .i64 pe, .slice ao L.length cap]] w fun e w' => e = .returned (.agg #[.int .i64 c, .int .i64 m, .string ⟨#[]⟩, .int .i64 0, .slice none 0 0, .int .i64 0, .int .i64 0, .int .i64 0]) ∧ Leaves (OM b) H w w' ⟨ue, ut, uk⟩ from hf)
  clear h hd hf
  show Calls _ _ #[.pointer (some ⟨b, 0, none⟩), .agg #[.int .i64 k, .int .i64 un, .int .i64 ep, .int .i64 pg, .int .i64 sz, .int .i64 n, .string s, .int .i64 pe, .slice ao L.length cap]] w _
  go_enter Try.func12, Try.ntmps12
  go_wp2_with (go_at_call 19; refine (HD.out _).mono ?_; rintro e w2 ⟨rfl, hb2⟩; have HT2 := Lib.hid (HS.out.below (om_thing b) hb2); clear hb2; obtain ⟨H2, hH2, hU2⟩ := HT2.out.use; have HU2 := Lib.hid hU2; have HF2 := Lib.hid (HF.out H2 _ hH2); clear hU2 hH2; have x := HT2.out.ask; have x0 := cell_of x 0; have x1 := cell_of x 1; have x2 := cell_of x 2; have x3 := cell_of x 3; have x4 := cell_of x 4; have x5 := cell_of x 5; have x6 := cell_of x 6; have x7 := cell_of x 7; have x8 := cell_of x 8; clear x)
  refine HF2.out.mono ?_
  rintro e w3 ⟨rfl, hl⟩
  have HT3 := Lib.hid (HU2.out _ _ hl)
  clear hl
  obtain ⟨H, hH, _⟩ := HT3.out.use
  obtain ⟨t, _, hc⟩ := hH.cells
  obtain ⟨c0, c1, c2, _⟩ := three_cells hc
  have hb := hH.small
  clear hH hc
  obtain ⟨nl1, nl2⟩ := HT3.out.small
  obtain ⟨⟨ny0, ny1, ny2, ny3, ny4, ny5, ny6, ny7⟩, nfy0, nfy1, nfy2, nfy3, nfy4, nfy5, nfy6, nfy7⟩ := eight_cells HT3.out.ans
  go_wp2_with fail
  exact ans_ret (x := anP c m noT ue) (ao := none) (cap := 0) rfl (below_heap ((Below.refl _ _).alloc (Nat.le_refl _) _) (HT3.out.fin (om_thing b)).1) rfl rfl ⟨rfl, (HT3.out.fin (om_thing b)).2.below (om_thing b) ((Below.refl _ _).alloc (Nat.le_refl _) _)⟩
set_option maxHeartbeats 400000 in
theorem odop_look (b : Nat) (G : Nat → Prop) (w : World) (o o' : Od) (a : Ak) (c m : Int) (h : OM b G w o)
    (hd : ∀ w, Calls Try.prog 19 #[.pointer (some ⟨b, 0, none⟩), .int .i64 a.kind] w fun e w' => e = .returned (fnO 23 b) ∧ Below w.heap.size w w')
    (hf : ∀ (H : Nat → Prop) (w : World), OM b H w o → Calls Try.prog 23 #[ptrO b, askV a] w fun e w' => e = .returned (anW c m noT 0) ∧ Leaves (OM b) H w w' o') :
    Calls Try.prog 12 #[ptrO b, askV a] w fun e w' => e = .returned (anW c m noT o'.epoch) ∧ Leaves (OM b) G w w' o' := by
  obtain ⟨k, un, ep, pg, sz, n, s, pe, L, ao, cap⟩ := a
  obtain ⟨ue, ut, uk⟩ := o'
  simp only at *
  have HS := Lib.hid (boxed_start (om_thing b) h #[.int .i64 k, .int .i64 un, .int .i64 ep, .int .i64 pg, .int .i64 sz, .int .i64 n, .string s, .int .i64 pe, .slice ao L.length cap])
  unfold zeroAn at HS
  have hbw := h.small
  have HD := Lib.hid hd
  unfold fnO at HD
  have HF := Lib.hid (show ∀ (H : Nat → Prop) (w : World), OM b H w o → Calls Try.prog 23 #[.pointer (some ⟨b, 0, none⟩), .agg #[.int .i64 k, .int .i64 un, .int .i64 ep, .int .i64 pg, .int .i64 sz, .int .i64 n, .string s, .int .i64 pe, .slice ao L.length cap]] w fun e w' => e = .returned (.agg #[.int .i64 c, .int .i64 m, .string ⟨#[]⟩, .int .i64 0, .slice none 0 0, .int .i64 0, .int .i64 0, .int .i64 0]) ∧ Leaves (OM b) H w w' ⟨ue, ut, uk⟩ from hf)
  clear h hd hf
  show Calls _ _ #[.pointer (some ⟨b, 0, none⟩), .agg #[.int .i64 k, .int .i64 un, .int .i64 ep, .int .i64 pg, .int .i64 sz, .int .i64 n, .string s, .int .i64 pe, .slice ao L.length cap]] w _
  go_enter Try.func12, Try.ntmps12
  go_wp2_with (go_at_call 19; refine (HD.out _).mono ?_; rintro e w2 ⟨rfl, hb2⟩; have HT2 := Lib.hid (HS.out.below (om_thing b) hb2); clear hb2; obtain ⟨H2, hH2, hU2⟩ := HT2.out.use; have HU2 := Lib.hid hU2; have HF2 := Lib.hid (HF.out H2 _ hH2); clear hU2 hH2; have x := HT2.out.ask; have x0 := cell_of x 0; have x1 := cell_of x 1; have x2 := cell_of x 2; have x3 := cell_of x 3; have x4 := cell_of x 4; have x5 := cell_of x 5; have x6 := cell_of x 6; have x7 := cell_of x 7; have x8 := cell_of x 8; clear x)
  refine HF2.out.mono ?_
  rintro e w3 ⟨rfl, hl⟩
  have HT3 := Lib.hid (HU2.out _ _ hl)
  clear hl
  obtain ⟨H, hH, _⟩ := HT3.out.use
  obtain ⟨t, _, hc⟩ := hH.cells
  obtain ⟨c0, c1, c2, _⟩ := three_cells hc
  have hb := hH.small
  clear hH hc
  obtain ⟨nl1, nl2⟩ := HT3.out.small
  obtain ⟨⟨ny0, ny1, ny2, ny3, ny4, ny5, ny6, ny7⟩, nfy0, nfy1, nfy2, nfy3, nfy4, nfy5, nfy6, nfy7⟩ := eight_cells HT3.out.ans
  go_wp2_with fail
  exact ans_ret (x := anP c m noT ue) (ao := none) (cap := 0) rfl (below_heap ((Below.refl _ _).alloc (Nat.le_refl _) _) (HT3.out.fin (om_thing b)).1) rfl rfl ⟨rfl, (HT3.out.fin (om_thing b)).2.below (om_thing b) ((Below.refl _ _).alloc (Nat.le_refl _) _)⟩
set_option maxHeartbeats 400000 in
theorem odop_refuse (b : Nat) (G : Nat → Prop) (w : World) (o o' : Od) (a : Ak) (c m : Int) (h : OM b G w o)
    (hd : ∀ w, Calls Try.prog 19 #[.pointer (some ⟨b, 0, none⟩), .int .i64 a.kind] w fun e w' => e = .returned (fnO 24 b) ∧ Below w.heap.size w w')
    (hf : ∀ (H : Nat → Prop) (w : World), OM b H w o → Calls Try.prog 24 #[ptrO b, askV a] w fun e w' => e = .returned (anW c m noT 0) ∧ Leaves (OM b) H w w' o') :
    Calls Try.prog 12 #[ptrO b, askV a] w fun e w' => e = .returned (anW c m noT o'.epoch) ∧ Leaves (OM b) G w w' o' := by
  obtain ⟨k, un, ep, pg, sz, n, s, pe, L, ao, cap⟩ := a
  obtain ⟨ue, ut, uk⟩ := o'
  simp only at *
  have HS := Lib.hid (boxed_start (om_thing b) h #[.int .i64 k, .int .i64 un, .int .i64 ep, .int .i64 pg, .int .i64 sz, .int .i64 n, .string s, .int .i64 pe, .slice ao L.length cap])
  unfold zeroAn at HS
  have hbw := h.small
  have HD := Lib.hid hd
  unfold fnO at HD
  have HF := Lib.hid (show ∀ (H : Nat → Prop) (w : World), OM b H w o → Calls Try.prog 24 #[.pointer (some ⟨b, 0, none⟩), .agg #[.int .i64 k, .int .i64 un, .int .i64 ep, .int .i64 pg, .int .i64 sz, .int .i64 n, .string s, .int .i64 pe, .slice ao L.length cap]] w fun e w' => e = .returned (.agg #[.int .i64 c, .int .i64 m, .string ⟨#[]⟩, .int .i64 0, .slice none 0 0, .int .i64 0, .int .i64 0, .int .i64 0]) ∧ Leaves (OM b) H w w' ⟨ue, ut, uk⟩ from hf)
  clear h hd hf
  show Calls _ _ #[.pointer (some ⟨b, 0, none⟩), .agg #[.int .i64 k, .int .i64 un, .int .i64 ep, .int .i64 pg, .int .i64 sz, .int .i64 n, .string s, .int .i64 pe, .slice ao L.length cap]] w _
  go_enter Try.func12, Try.ntmps12
  go_wp2_with (go_at_call 19; refine (HD.out _).mono ?_; rintro e w2 ⟨rfl, hb2⟩; have HT2 := Lib.hid (HS.out.below (om_thing b) hb2); clear hb2; obtain ⟨H2, hH2, hU2⟩ := HT2.out.use; have HU2 := Lib.hid hU2; have HF2 := Lib.hid (HF.out H2 _ hH2); clear hU2 hH2; have x := HT2.out.ask; have x0 := cell_of x 0; have x1 := cell_of x 1; have x2 := cell_of x 2; have x3 := cell_of x 3; have x4 := cell_of x 4; have x5 := cell_of x 5; have x6 := cell_of x 6; have x7 := cell_of x 7; have x8 := cell_of x 8; clear x)
  refine HF2.out.mono ?_
  rintro e w3 ⟨rfl, hl⟩
  have HT3 := Lib.hid (HU2.out _ _ hl)
  clear hl
  obtain ⟨H, hH, _⟩ := HT3.out.use
  obtain ⟨t, _, hc⟩ := hH.cells
  obtain ⟨c0, c1, c2, _⟩ := three_cells hc
  have hb := hH.small
  clear hH hc
  obtain ⟨nl1, nl2⟩ := HT3.out.small
  obtain ⟨⟨ny0, ny1, ny2, ny3, ny4, ny5, ny6, ny7⟩, nfy0, nfy1, nfy2, nfy3, nfy4, nfy5, nfy6, nfy7⟩ := eight_cells HT3.out.ans
  go_wp2_with fail
  exact ans_ret (x := anP c m noT ue) (ao := none) (cap := 0) rfl (below_heap ((Below.refl _ _).alloc (Nat.le_refl _) _) (HT3.out.fin (om_thing b)).1) rfl rfl ⟨rfl, (HT3.out.fin (om_thing b)).2.below (om_thing b) ((Below.refl _ _).alloc (Nat.le_refl _) _)⟩
theorem on_ask (b : Nat) (G : Nat → Prop) (w : World) (o : Od) (a : Ak) (h : OM b G w o) (ha : AkIn w a) :
    Calls Try.prog 12 #[ptrO b, askV a] w fun e w' => e = .returned (anW (o.ans a).code (o.ans a).n (o.ans a).data (o.ans a).epoch) ∧ Leaves (OM b) G w w' (o.done a) := by
  by_cases h8 : a.kind = 8
  · have hD : ∀ w, Calls Try.prog 19 #[.pointer (some ⟨b, 0, none⟩), .int .i64 a.kind] w fun e w' => e = .returned (fnO 21 b) ∧ Below w.heap.size w w' := by rw [h8]; exact odeed_start b
    by_cases he : a.epoch ≤ o.epoch
    · rw [show o.ans a = anP 40 0 noT o.epoch from by unfold Od.ans; rw [if_pos h8, if_pos he], show o.done a = o from by unfold Od.done; rw [if_neg (fun h => by have := h.2.1; omega), if_neg (fun h => by have := h.1; omega)]]
      exact odop_start b G w o o a 40 0 h hD (fun H w h => on_start_old b H w o a h he)
    by_cases h1 : a.page < 0
    · rw [show o.ans a = anP 1 0 noT o.epoch from by unfold Od.ans; rw [if_pos h8, if_neg he, if_pos (.inl h1)], show o.done a = o from by unfold Od.done; rw [if_neg (fun h => by have := h.2.2.1; omega), if_neg (fun h => by have := h.1; omega)]]
      exact odop_start b G w o o a 1 0 h hD (fun H w h => on_start_low b H w o a h he h1)
    by_cases h2 : 16384 < a.page
    · rw [show o.ans a = anP 1 0 noT o.epoch from by unfold Od.ans; rw [if_pos h8, if_neg he, if_pos (.inr h2)], show o.done a = o from by unfold Od.done; rw [if_neg (fun h => by have := h.2.2.2; omega), if_neg (fun h => by have := h.1; omega)]]
      exact odop_start b G w o o a 1 0 h hD (fun H w h => on_start_high b H w o a h he h2)
    · rw [show o.ans a = anP 0 0 noT a.epoch from by unfold Od.ans; rw [if_pos h8, if_neg he, if_neg (by omega)], show o.done a = ⟨a.epoch, a.page, true⟩ from by unfold Od.done; rw [if_pos ⟨h8, by omega, by omega, by omega⟩]]
      exact odop_start b G w o ⟨a.epoch, a.page, true⟩ a 0 0 h hD (fun H w h => on_start b H w o a h he ⟨by omega, by omega⟩ ha.1.epoch)
  by_cases h6 : a.kind = 6
  · have hD : ∀ w, Calls Try.prog 19 #[.pointer (some ⟨b, 0, none⟩), .int .i64 a.kind] w fun e w' => e = .returned (fnO 22 b) ∧ Below w.heap.size w w' := by rw [h6]; exact odeed_next b
    by_cases he : a.epoch = o.epoch
    · cases hn : o.knows
      · rw [show o.ans a = anP 47 0 noT o.epoch from by unfold Od.ans; rw [if_neg h8, if_pos (.inl h6), if_neg (fun h => h he), if_pos hn], show o.done a = o from by unfold Od.done; rw [if_neg (fun h => h8 h.1), if_neg (fun h => by have := h.2.2.1; rw [hn] at this; cases this)]]
        exact odop_next b G w o o a 47 0 h hD (fun H w h => on_next_dumb b H w o a h he hn)
      by_cases ht : o.tail = 16384
      · rw [show o.ans a = anP 44 0 noT o.epoch from by unfold Od.ans; rw [if_neg h8, if_pos (.inl h6), if_neg (fun h => h he), if_neg (by rw [hn]; decide), if_neg (by omega), if_pos ht], show o.done a = o from by unfold Od.done; rw [if_neg (fun h => h8 h.1), if_neg (fun h => h.2.2.2 ht)]]
        exact odop_next b G w o o a 44 0 h hD (fun H w h => on_next_full b H w o a h he hn ht)
      · rw [show o.ans a = anP 0 o.tail noT o.epoch from by unfold Od.ans; rw [if_neg h8, if_pos (.inl h6), if_neg (fun h => h he), if_neg (by rw [hn]; decide), if_neg (by omega), if_neg ht], show o.done a = ⟨o.epoch, o.tail + 1, o.knows⟩ from by unfold Od.done; rw [if_neg (fun h => h8 h.1), if_pos ⟨h6, he, hn, ht⟩]]
        exact odop_next b G w o ⟨o.epoch, o.tail + 1, o.knows⟩ a 0 o.tail h hD (fun H w h => on_next b H w o a h he hn ht)
    · rw [show o.ans a = anP 40 0 noT o.epoch from by unfold Od.ans; rw [if_neg h8, if_pos (.inl h6), if_pos he], show o.done a = o from by unfold Od.done; rw [if_neg (fun h => h8 h.1), if_neg (fun h => he h.2.1)]]
      exact odop_next b G w o o a 40 0 h hD (fun H w h => on_next_other b H w o a h he)
  have hdone : o.done a = o := by unfold Od.done; rw [if_neg (fun h => h8 h.1), if_neg (fun h => h6 h.1)]
  rw [hdone]
  by_cases h7 : a.kind = 7
  · have hD : ∀ w, Calls Try.prog 19 #[.pointer (some ⟨b, 0, none⟩), .int .i64 a.kind] w fun e w' => e = .returned (fnO 23 b) ∧ Below w.heap.size w w' := by rw [h7]; exact odeed_look b
    by_cases he : a.epoch = o.epoch
    · cases hn : o.knows
      · rw [show o.ans a = anP 47 0 noT o.epoch from by unfold Od.ans; rw [if_neg h8, if_pos (.inr h7), if_neg (fun h => h he), if_pos hn]]
        exact odop_look b G w o o a 47 0 h hD (fun H w h => on_look_dumb b H w o a h he hn)
      · rw [show o.ans a = anP 0 o.tail noT o.epoch from by unfold Od.ans; rw [if_neg h8, if_pos (.inr h7), if_neg (fun h => h he), if_neg (by rw [hn]; decide), if_pos h7]]
        exact odop_look b G w o o a 0 o.tail h hD (fun H w h => on_look b H w o a h he hn)
    · rw [show o.ans a = anP 40 0 noT o.epoch from by unfold Od.ans; rw [if_neg h8, if_pos (.inr h7), if_pos he]]
      exact odop_look b G w o o a 40 0 h hD (fun H w h => on_look_other b H w o a h he)
  · rw [show o.ans a = anP 1 0 noT o.epoch from by unfold Od.ans; rw [if_neg h8, if_neg (fun h => h.elim h6 h7)]]
    exact odop_refuse b G w o o a 1 0 h (fun w => odeed_none b a.kind w h8 h6 h7) (fun H w h => on_refuse b H w o a h)
theorem o_same {f : FuncId} {a : Array Value} {w : World} {v : Value} (h : Calls Try.prog f a w fun e w' => e = .returned v ∧ w = w') : Calls Try.prog f a w fun e w' => e = .returned v ∧ Below w.heap.size w w' := h.mono fun e w' ⟨h1, h2⟩ => ⟨h1, h2 ▸ Below.refl _ _⟩
theorem orderSays : OrderSays OM where
  thing := om_thing
  ok := fun h => h.1
  new := on_new
  ask := on_ask
  crash := on_crash
  epoch := fun b G w o h => o_same (on_epoch b G w o h)
  knows := fun b G w o h => o_same (on_knows b G w o h)
end Go.Proofs.Ytjckjffmjmcknaa
