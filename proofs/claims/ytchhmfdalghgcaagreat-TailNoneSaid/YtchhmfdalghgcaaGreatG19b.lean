/- What the program's unit, up and not sealed, answers a question of one kind. Conditions: it and the question lie where the call was told. What the program's layout makes of a projection that counts from now on. Conditions: it and the projection lie where the call was told; no more than 100000 units were noted. -/
import Derived.Test.YtchhmfdalghgcaaGreatG18b
import Derived.Test.YtchhmfdalghgcaaGreatG18a
import Derived.Test.YtchhmfdalghgcaaGreatG15a
set_option linter.unusedVariables false
namespace Go.Proofs.YtchhmfdalghgcaaGreat
set_option linter.unusedVariables false
open Go.RowKit
set_option maxRecDepth 20000
set_option maxHeartbeats 800000 in
theorem answer_write (b q : Nat) (G : Nat → Prop) (w : World) (u u' : Us) (a : Ak) (hk : a.kind = 1) (c m : Int) (z : ByteArray) (h : UM b q G w u) (he : ¬ a.epoch < u.epoch)
    (hf : ∀ (H : Nat → Prop) (w : World), UM b q H w u → Calls Tryz.prog 126 #[ptrV b, askV a] w fun e w' => e = .returned (anV c m z 0) ∧ Leaves (UM b q) H w w' u') :
    Calls Tryz.prog 124 #[ptrV b, askV a] w fun e w' => e = .returned (anV c m z 0) ∧ Leaves (UM b q) G w w' u' := by
  obtain ⟨k, un, ep, pg, sz, n, s, pe, L, ao, cap⟩ := a
  obtain ⟨p, ue, dn⟩ := u
  simp only at *
  have CC := Lib.hid coded_ag
  have HS := Lib.hid (boxed_start (um_thing b q) h #[.int .i64 k, .int .i64 un, .int .i64 ep, .int .i64 pg, .int .i64 sz, .int .i64 n, .string s, .int .i64 pe, .slice ao L.length cap])
  unfold zeroAn at HS
  have hbw := h.small
  clear h
  show Calls _ _ #[.pointer (some ⟨b, 0, none⟩), .agg #[.int .i64 k, .int .i64 un, .int .i64 ep, .int .i64 pg, .int .i64 sz, .int .i64 n, .string s, .int .i64 pe, .slice ao L.length cap]] w _
  have HD := Lib.hid (show ∀ w, Calls Tryz.prog 125 #[.int .i64 k] w fun e w' => e = .returned (fnV 126) ∧ Below w.heap.size w w' from by rw [hk]; exact deed_1)
  unfold fnV at HD
  have he' : ue ≤ ep := by omega
  have HF := Lib.hid (show ∀ (H : Nat → Prop) (w : World), UM b q H w ⟨p, ue, dn⟩ → Calls Tryz.prog 126 #[.pointer (some ⟨b, 0, none⟩), .agg #[.int .i64 k, .int .i64 un, .int .i64 ep, .int .i64 pg, .int .i64 sz, .int .i64 n, .string s, .int .i64 pe, .slice ao L.length cap]] w fun e w' => e = .returned (.agg #[.int .i64 c, .int .i64 m, .string z, .int .i64 0, .slice none 0 0, .int .i64 0, .int .i64 0, .int .i64 0]) ∧ Leaves (UM b q) H w w' u' from hf)
  clear he hf hk
  have hn : ∀ w : World, (binOp .eql 201 (.func (.func 126) #[] #[]) .nilFunc).run Tryz.prog w = .ok (.bool false) w := fun _ => rfl
  go_enter Tryz.func124, Tryz.ntmps124
  go_wp2_with (go_at_call 125; refine (HD.out _).mono ?_; rintro e w1 ⟨rfl, hb1⟩; have HT1 := Lib.hid (HS.out.below (um_thing b q) hb1); clear hb1)
  obtain ⟨l1, l2⟩ := HT1.out.small
  obtain ⟨H, hH, _⟩ := HT1.out.use
  have x2 : w1.cell? ⟨w.heap.size, 2, none⟩ = some (.int .i64 ep) := cell_of HT1.out.ask 2
  obtain ⟨c0, c1, c2, _⟩ := three_cells hH.cells
  have hb := hH.small
  clear hH
  go_quiet (fail)
  have HT2 := Lib.hid (HT1.out.drewN (um_thing b q) nq)
  generalize hW2 : World.drewN w1 nq = w2 at *
  clear hW2 x2 c0 c1 c2 hb l1 l2
  obtain ⟨l1, l2⟩ := HT2.out.small
  obtain ⟨H2, hH2, hU2⟩ := HT2.out.use
  have HU2 := Lib.hid hU2
  have HF2 := Lib.hid (HF.out H2 w2 hH2)
  obtain ⟨⟨q0, q1, q2, q3, q4, q5, q6, q7⟩, _⟩ := eight_cells HT2.out.ans
  have x := HT2.out.ask
  have x0 := cell_of x 0
  have x1 := cell_of x 1
  have x2 := cell_of x 2
  have x3 := cell_of x 3
  have x4 := cell_of x 4
  have x5 := cell_of x 5
  have x6 := cell_of x 6
  have x7 := cell_of x 7
  have x8 := cell_of x 8
  clear hU2 hH2 x
  go_wp2_with fail
  refine HF2.out.mono ?_
  rintro e w3 ⟨rfl, hl⟩
  have HT3 := Lib.hid (HU2.out _ _ hl)
  clear hl
  obtain ⟨nl1, nl2⟩ := HT3.out.small
  obtain ⟨⟨ny0, ny1, ny2, ny3, ny4, ny5, ny6, ny7⟩, nfy0, nfy1, nfy2, nfy3, nfy4, nfy5, nfy6, nfy7⟩ := eight_cells HT3.out.ans
  go_wp2_with fail
  exact ans_ret (x := anP (c) (m) z 0) (ao := none) (cap := 0) rfl (HT3.out.fin (um_thing b q)).1 rfl rfl ⟨rfl, (HT3.out.fin (um_thing b q)).2⟩
set_option maxHeartbeats 800000 in
theorem answer_fill (b q : Nat) (G : Nat → Prop) (w : World) (u u' : Us) (a : Ak) (hk : a.kind = 2) (c m : Int) (z : ByteArray) (h : UM b q G w u) (he : ¬ a.epoch < u.epoch)
    (hf : ∀ (H : Nat → Prop) (w : World), UM b q H w u → Calls Tryz.prog 127 #[ptrV b, askV a] w fun e w' => e = .returned (anV c m z 0) ∧ Leaves (UM b q) H w w' u') :
    Calls Tryz.prog 124 #[ptrV b, askV a] w fun e w' => e = .returned (anV c m z 0) ∧ Leaves (UM b q) G w w' u' := by
  obtain ⟨k, un, ep, pg, sz, n, s, pe, L, ao, cap⟩ := a
  obtain ⟨p, ue, dn⟩ := u
  simp only at *
  have CC := Lib.hid coded_ag
  have HS := Lib.hid (boxed_start (um_thing b q) h #[.int .i64 k, .int .i64 un, .int .i64 ep, .int .i64 pg, .int .i64 sz, .int .i64 n, .string s, .int .i64 pe, .slice ao L.length cap])
  unfold zeroAn at HS
  have hbw := h.small
  clear h
  show Calls _ _ #[.pointer (some ⟨b, 0, none⟩), .agg #[.int .i64 k, .int .i64 un, .int .i64 ep, .int .i64 pg, .int .i64 sz, .int .i64 n, .string s, .int .i64 pe, .slice ao L.length cap]] w _
  have HD := Lib.hid (show ∀ w, Calls Tryz.prog 125 #[.int .i64 k] w fun e w' => e = .returned (fnV 127) ∧ Below w.heap.size w w' from by rw [hk]; exact deed_2)
  unfold fnV at HD
  have he' : ue ≤ ep := by omega
  have HF := Lib.hid (show ∀ (H : Nat → Prop) (w : World), UM b q H w ⟨p, ue, dn⟩ → Calls Tryz.prog 127 #[.pointer (some ⟨b, 0, none⟩), .agg #[.int .i64 k, .int .i64 un, .int .i64 ep, .int .i64 pg, .int .i64 sz, .int .i64 n, .string s, .int .i64 pe, .slice ao L.length cap]] w fun e w' => e = .returned (.agg #[.int .i64 c, .int .i64 m, .string z, .int .i64 0, .slice none 0 0, .int .i64 0, .int .i64 0, .int .i64 0]) ∧ Leaves (UM b q) H w w' u' from hf)
  clear he hf hk
  have hn : ∀ w : World, (binOp .eql 201 (.func (.func 127) #[] #[]) .nilFunc).run Tryz.prog w = .ok (.bool false) w := fun _ => rfl
  go_enter Tryz.func124, Tryz.ntmps124
  go_wp2_with (go_at_call 125; refine (HD.out _).mono ?_; rintro e w1 ⟨rfl, hb1⟩; have HT1 := Lib.hid (HS.out.below (um_thing b q) hb1); clear hb1)
  obtain ⟨l1, l2⟩ := HT1.out.small
  obtain ⟨H, hH, _⟩ := HT1.out.use
  have x2 : w1.cell? ⟨w.heap.size, 2, none⟩ = some (.int .i64 ep) := cell_of HT1.out.ask 2
  obtain ⟨c0, c1, c2, _⟩ := three_cells hH.cells
  have hb := hH.small
  clear hH
  go_quiet (fail)
  have HT2 := Lib.hid (HT1.out.drewN (um_thing b q) nq)
  generalize hW2 : World.drewN w1 nq = w2 at *
  clear hW2 x2 c0 c1 c2 hb l1 l2
  obtain ⟨l1, l2⟩ := HT2.out.small
  obtain ⟨H2, hH2, hU2⟩ := HT2.out.use
  have HU2 := Lib.hid hU2
  have HF2 := Lib.hid (HF.out H2 w2 hH2)
  obtain ⟨⟨q0, q1, q2, q3, q4, q5, q6, q7⟩, _⟩ := eight_cells HT2.out.ans
  have x := HT2.out.ask
  have x0 := cell_of x 0
  have x1 := cell_of x 1
  have x2 := cell_of x 2
  have x3 := cell_of x 3
  have x4 := cell_of x 4
  have x5 := cell_of x 5
  have x6 := cell_of x 6
  have x7 := cell_of x 7
  have x8 := cell_of x 8
  clear hU2 hH2 x
  go_wp2_with fail
  refine HF2.out.mono ?_
  rintro e w3 ⟨rfl, hl⟩
  have HT3 := Lib.hid (HU2.out _ _ hl)
  clear hl
  obtain ⟨nl1, nl2⟩ := HT3.out.small
  obtain ⟨⟨ny0, ny1, ny2, ny3, ny4, ny5, ny6, ny7⟩, nfy0, nfy1, nfy2, nfy3, nfy4, nfy5, nfy6, nfy7⟩ := eight_cells HT3.out.ans
  go_wp2_with fail
  exact ans_ret (x := anP (c) (m) z 0) (ao := none) (cap := 0) rfl (HT3.out.fin (um_thing b q)).1 rfl rfl ⟨rfl, (HT3.out.fin (um_thing b q)).2⟩
set_option maxHeartbeats 800000 in
theorem answer_read (b q : Nat) (G : Nat → Prop) (w : World) (u u' : Us) (a : Ak) (hk : a.kind = 3) (c m : Int) (z : ByteArray) (h : UM b q G w u) (he : ¬ a.epoch < u.epoch)
    (hf : ∀ (H : Nat → Prop) (w : World), UM b q H w u → Calls Tryz.prog 128 #[ptrV b, askV a] w fun e w' => e = .returned (anV c m z 0) ∧ Leaves (UM b q) H w w' u') :
    Calls Tryz.prog 124 #[ptrV b, askV a] w fun e w' => e = .returned (anV c m z 0) ∧ Leaves (UM b q) G w w' u' := by
  obtain ⟨k, un, ep, pg, sz, n, s, pe, L, ao, cap⟩ := a
  obtain ⟨p, ue, dn⟩ := u
  simp only at *
  have CC := Lib.hid coded_ag
  have HS := Lib.hid (boxed_start (um_thing b q) h #[.int .i64 k, .int .i64 un, .int .i64 ep, .int .i64 pg, .int .i64 sz, .int .i64 n, .string s, .int .i64 pe, .slice ao L.length cap])
  unfold zeroAn at HS
  have hbw := h.small
  clear h
  show Calls _ _ #[.pointer (some ⟨b, 0, none⟩), .agg #[.int .i64 k, .int .i64 un, .int .i64 ep, .int .i64 pg, .int .i64 sz, .int .i64 n, .string s, .int .i64 pe, .slice ao L.length cap]] w _
  have HD := Lib.hid (show ∀ w, Calls Tryz.prog 125 #[.int .i64 k] w fun e w' => e = .returned (fnV 128) ∧ Below w.heap.size w w' from by rw [hk]; exact deed_3)
  unfold fnV at HD
  have he' : ue ≤ ep := by omega
  have HF := Lib.hid (show ∀ (H : Nat → Prop) (w : World), UM b q H w ⟨p, ue, dn⟩ → Calls Tryz.prog 128 #[.pointer (some ⟨b, 0, none⟩), .agg #[.int .i64 k, .int .i64 un, .int .i64 ep, .int .i64 pg, .int .i64 sz, .int .i64 n, .string s, .int .i64 pe, .slice ao L.length cap]] w fun e w' => e = .returned (.agg #[.int .i64 c, .int .i64 m, .string z, .int .i64 0, .slice none 0 0, .int .i64 0, .int .i64 0, .int .i64 0]) ∧ Leaves (UM b q) H w w' u' from hf)
  clear he hf hk
  have hn : ∀ w : World, (binOp .eql 201 (.func (.func 128) #[] #[]) .nilFunc).run Tryz.prog w = .ok (.bool false) w := fun _ => rfl
  go_enter Tryz.func124, Tryz.ntmps124
  go_wp2_with (go_at_call 125; refine (HD.out _).mono ?_; rintro e w1 ⟨rfl, hb1⟩; have HT1 := Lib.hid (HS.out.below (um_thing b q) hb1); clear hb1)
  obtain ⟨l1, l2⟩ := HT1.out.small
  obtain ⟨H, hH, _⟩ := HT1.out.use
  have x2 : w1.cell? ⟨w.heap.size, 2, none⟩ = some (.int .i64 ep) := cell_of HT1.out.ask 2
  obtain ⟨c0, c1, c2, _⟩ := three_cells hH.cells
  have hb := hH.small
  clear hH
  go_quiet (fail)
  have HT2 := Lib.hid (HT1.out.drewN (um_thing b q) nq)
  generalize hW2 : World.drewN w1 nq = w2 at *
  clear hW2 x2 c0 c1 c2 hb l1 l2
  obtain ⟨l1, l2⟩ := HT2.out.small
  obtain ⟨H2, hH2, hU2⟩ := HT2.out.use
  have HU2 := Lib.hid hU2
  have HF2 := Lib.hid (HF.out H2 w2 hH2)
  obtain ⟨⟨q0, q1, q2, q3, q4, q5, q6, q7⟩, _⟩ := eight_cells HT2.out.ans
  have x := HT2.out.ask
  have x0 := cell_of x 0
  have x1 := cell_of x 1
  have x2 := cell_of x 2
  have x3 := cell_of x 3
  have x4 := cell_of x 4
  have x5 := cell_of x 5
  have x6 := cell_of x 6
  have x7 := cell_of x 7
  have x8 := cell_of x 8
  clear hU2 hH2 x
  go_wp2_with fail
  refine HF2.out.mono ?_
  rintro e w3 ⟨rfl, hl⟩
  have HT3 := Lib.hid (HU2.out _ _ hl)
  clear hl
  obtain ⟨nl1, nl2⟩ := HT3.out.small
  obtain ⟨⟨ny0, ny1, ny2, ny3, ny4, ny5, ny6, ny7⟩, nfy0, nfy1, nfy2, nfy3, nfy4, nfy5, nfy6, nfy7⟩ := eight_cells HT3.out.ans
  go_wp2_with fail
  exact ans_ret (x := anP (c) (m) z 0) (ao := none) (cap := 0) rfl (HT3.out.fin (um_thing b q)).1 rfl rfl ⟨rfl, (HT3.out.fin (um_thing b q)).2⟩
set_option maxHeartbeats 800000 in
theorem answer_trim (b q : Nat) (G : Nat → Prop) (w : World) (u u' : Us) (a : Ak) (hk : a.kind = 4) (c m : Int) (z : ByteArray) (h : UM b q G w u) (he : ¬ a.epoch < u.epoch)
    (hf : ∀ (H : Nat → Prop) (w : World), UM b q H w u → Calls Tryz.prog 129 #[ptrV b, askV a] w fun e w' => e = .returned (anV c m z 0) ∧ Leaves (UM b q) H w w' u') :
    Calls Tryz.prog 124 #[ptrV b, askV a] w fun e w' => e = .returned (anV c m z 0) ∧ Leaves (UM b q) G w w' u' := by
  obtain ⟨k, un, ep, pg, sz, n, s, pe, L, ao, cap⟩ := a
  obtain ⟨p, ue, dn⟩ := u
  simp only at *
  have CC := Lib.hid coded_ag
  have HS := Lib.hid (boxed_start (um_thing b q) h #[.int .i64 k, .int .i64 un, .int .i64 ep, .int .i64 pg, .int .i64 sz, .int .i64 n, .string s, .int .i64 pe, .slice ao L.length cap])
  unfold zeroAn at HS
  have hbw := h.small
  clear h
  show Calls _ _ #[.pointer (some ⟨b, 0, none⟩), .agg #[.int .i64 k, .int .i64 un, .int .i64 ep, .int .i64 pg, .int .i64 sz, .int .i64 n, .string s, .int .i64 pe, .slice ao L.length cap]] w _
  have HD := Lib.hid (show ∀ w, Calls Tryz.prog 125 #[.int .i64 k] w fun e w' => e = .returned (fnV 129) ∧ Below w.heap.size w w' from by rw [hk]; exact deed_4)
  unfold fnV at HD
  have he' : ue ≤ ep := by omega
  have HF := Lib.hid (show ∀ (H : Nat → Prop) (w : World), UM b q H w ⟨p, ue, dn⟩ → Calls Tryz.prog 129 #[.pointer (some ⟨b, 0, none⟩), .agg #[.int .i64 k, .int .i64 un, .int .i64 ep, .int .i64 pg, .int .i64 sz, .int .i64 n, .string s, .int .i64 pe, .slice ao L.length cap]] w fun e w' => e = .returned (.agg #[.int .i64 c, .int .i64 m, .string z, .int .i64 0, .slice none 0 0, .int .i64 0, .int .i64 0, .int .i64 0]) ∧ Leaves (UM b q) H w w' u' from hf)
  clear he hf hk
  have hn : ∀ w : World, (binOp .eql 201 (.func (.func 129) #[] #[]) .nilFunc).run Tryz.prog w = .ok (.bool false) w := fun _ => rfl
  go_enter Tryz.func124, Tryz.ntmps124
  go_wp2_with (go_at_call 125; refine (HD.out _).mono ?_; rintro e w1 ⟨rfl, hb1⟩; have HT1 := Lib.hid (HS.out.below (um_thing b q) hb1); clear hb1)
  obtain ⟨l1, l2⟩ := HT1.out.small
  obtain ⟨H, hH, _⟩ := HT1.out.use
  have x2 : w1.cell? ⟨w.heap.size, 2, none⟩ = some (.int .i64 ep) := cell_of HT1.out.ask 2
  obtain ⟨c0, c1, c2, _⟩ := three_cells hH.cells
  have hb := hH.small
  clear hH
  go_quiet (fail)
  have HT2 := Lib.hid (HT1.out.drewN (um_thing b q) nq)
  generalize hW2 : World.drewN w1 nq = w2 at *
  clear hW2 x2 c0 c1 c2 hb l1 l2
  obtain ⟨l1, l2⟩ := HT2.out.small
  obtain ⟨H2, hH2, hU2⟩ := HT2.out.use
  have HU2 := Lib.hid hU2
  have HF2 := Lib.hid (HF.out H2 w2 hH2)
  obtain ⟨⟨q0, q1, q2, q3, q4, q5, q6, q7⟩, _⟩ := eight_cells HT2.out.ans
  have x := HT2.out.ask
  have x0 := cell_of x 0
  have x1 := cell_of x 1
  have x2 := cell_of x 2
  have x3 := cell_of x 3
  have x4 := cell_of x 4
  have x5 := cell_of x 5
  have x6 := cell_of x 6
  have x7 := cell_of x 7
  have x8 := cell_of x 8
  clear hU2 hH2 x
  go_wp2_with fail
  refine HF2.out.mono ?_
  rintro e w3 ⟨rfl, hl⟩
  have HT3 := Lib.hid (HU2.out _ _ hl)
  clear hl
  obtain ⟨nl1, nl2⟩ := HT3.out.small
  obtain ⟨⟨ny0, ny1, ny2, ny3, ny4, ny5, ny6, ny7⟩, nfy0, nfy1, nfy2, nfy3, nfy4, nfy5, nfy6, nfy7⟩ := eight_cells HT3.out.ans
  go_wp2_with fail
  exact ans_ret (x := anP (c) (m) z 0) (ao := none) (cap := 0) rfl (HT3.out.fin (um_thing b q)).1 rfl rfl ⟨rfl, (HT3.out.fin (um_thing b q)).2⟩
set_option maxHeartbeats 800000 in
theorem answer_seal (b q : Nat) (G : Nat → Prop) (w : World) (u u' : Us) (a : Ak) (hk : a.kind = 5) (c m : Int) (z : ByteArray) (h : UM b q G w u) (he : ¬ a.epoch < u.epoch)
    (hf : ∀ (H : Nat → Prop) (w : World), UM b q H w u → Calls Tryz.prog 130 #[ptrV b, askV a] w fun e w' => e = .returned (anV c m z 0) ∧ Leaves (UM b q) H w w' u') :
    Calls Tryz.prog 124 #[ptrV b, askV a] w fun e w' => e = .returned (anV c m z 0) ∧ Leaves (UM b q) G w w' u' := by
  obtain ⟨k, un, ep, pg, sz, n, s, pe, L, ao, cap⟩ := a
  obtain ⟨p, ue, dn⟩ := u
  simp only at *
  have CC := Lib.hid coded_ag
  have HS := Lib.hid (boxed_start (um_thing b q) h #[.int .i64 k, .int .i64 un, .int .i64 ep, .int .i64 pg, .int .i64 sz, .int .i64 n, .string s, .int .i64 pe, .slice ao L.length cap])
  unfold zeroAn at HS
  have hbw := h.small
  clear h
  show Calls _ _ #[.pointer (some ⟨b, 0, none⟩), .agg #[.int .i64 k, .int .i64 un, .int .i64 ep, .int .i64 pg, .int .i64 sz, .int .i64 n, .string s, .int .i64 pe, .slice ao L.length cap]] w _
  have HD := Lib.hid (show ∀ w, Calls Tryz.prog 125 #[.int .i64 k] w fun e w' => e = .returned (fnV 130) ∧ Below w.heap.size w w' from by rw [hk]; exact deed_5)
  unfold fnV at HD
  have he' : ue ≤ ep := by omega
  have HF := Lib.hid (show ∀ (H : Nat → Prop) (w : World), UM b q H w ⟨p, ue, dn⟩ → Calls Tryz.prog 130 #[.pointer (some ⟨b, 0, none⟩), .agg #[.int .i64 k, .int .i64 un, .int .i64 ep, .int .i64 pg, .int .i64 sz, .int .i64 n, .string s, .int .i64 pe, .slice ao L.length cap]] w fun e w' => e = .returned (.agg #[.int .i64 c, .int .i64 m, .string z, .int .i64 0, .slice none 0 0, .int .i64 0, .int .i64 0, .int .i64 0]) ∧ Leaves (UM b q) H w w' u' from hf)
  clear he hf hk
  have hn : ∀ w : World, (binOp .eql 201 (.func (.func 130) #[] #[]) .nilFunc).run Tryz.prog w = .ok (.bool false) w := fun _ => rfl
  go_enter Tryz.func124, Tryz.ntmps124
  go_wp2_with (go_at_call 125; refine (HD.out _).mono ?_; rintro e w1 ⟨rfl, hb1⟩; have HT1 := Lib.hid (HS.out.below (um_thing b q) hb1); clear hb1)
  obtain ⟨l1, l2⟩ := HT1.out.small
  obtain ⟨H, hH, _⟩ := HT1.out.use
  have x2 : w1.cell? ⟨w.heap.size, 2, none⟩ = some (.int .i64 ep) := cell_of HT1.out.ask 2
  obtain ⟨c0, c1, c2, _⟩ := three_cells hH.cells
  have hb := hH.small
  clear hH
  go_quiet (fail)
  have HT2 := Lib.hid (HT1.out.drewN (um_thing b q) nq)
  generalize hW2 : World.drewN w1 nq = w2 at *
  clear hW2 x2 c0 c1 c2 hb l1 l2
  obtain ⟨l1, l2⟩ := HT2.out.small
  obtain ⟨H2, hH2, hU2⟩ := HT2.out.use
  have HU2 := Lib.hid hU2
  have HF2 := Lib.hid (HF.out H2 w2 hH2)
  obtain ⟨⟨q0, q1, q2, q3, q4, q5, q6, q7⟩, _⟩ := eight_cells HT2.out.ans
  have x := HT2.out.ask
  have x0 := cell_of x 0
  have x1 := cell_of x 1
  have x2 := cell_of x 2
  have x3 := cell_of x 3
  have x4 := cell_of x 4
  have x5 := cell_of x 5
  have x6 := cell_of x 6
  have x7 := cell_of x 7
  have x8 := cell_of x 8
  clear hU2 hH2 x
  go_wp2_with fail
  refine HF2.out.mono ?_
  rintro e w3 ⟨rfl, hl⟩
  have HT3 := Lib.hid (HU2.out _ _ hl)
  clear hl
  obtain ⟨nl1, nl2⟩ := HT3.out.small
  obtain ⟨⟨ny0, ny1, ny2, ny3, ny4, ny5, ny6, ny7⟩, nfy0, nfy1, nfy2, nfy3, nfy4, nfy5, nfy6, nfy7⟩ := eight_cells HT3.out.ans
  go_wp2_with fail
  exact ans_ret (x := anP (c) (m) z 0) (ao := none) (cap := 0) rfl (HT3.out.fin (um_thing b q)).1 rfl rfl ⟨rfl, (HT3.out.fin (um_thing b q)).2⟩
end Go.Proofs.YtchhmfdalghgcaaGreat
namespace Go.Proofs.YtchhmfdalghgcaaGreat
set_option linter.unusedVariables false
open Go.RowKit Go.Maps
set_option maxRecDepth 20000
theorem Kept.then {G H : Nat → Prop} {w W W2 : World} (hk : Kept (fun k => ¬ G k) w W) (hs : ∀ k, H k → G k ∨ w.heap.size ≤ k) (h2 : Kept (fun k => ¬ H k) W W2) : Kept (fun k => ¬ G k) w W2 := by
  refine ⟨h2.os.trans hk.os, h2.tape.trans hk.tape, h2.output.trans hk.output, Nat.le_trans hk.size h2.size, fun k hg hkl => ?_⟩
  have hn : ¬ H k := fun hf => by
    rcases hs k hf with h | h
    · exact hg h
    · omega
  rw [h2.block k hn (Nat.lt_of_lt_of_le hkl hk.size)]
  exact hk.block k hg hkl
theorem take_more {S U : List Int} {k : Nat} (hk : k < U.length) : (S ++ U.take k) ++ [U[k]] = S ++ U.take (k + 1) := by
  rw [List.take_succ_eq_append_getElem hk, List.append_assoc]
set_option maxHeartbeats 2000000 in
theorem lp_count (b : Nat) (G : Nat → Prop) (w : World) (y : Ly) (h : LB b G w y) (e : Int) (ao : Option Addr) (cap : Nat) (L : List (List Int)) (hA : ∀ W, Kept (fun k => ¬ G k) w W → CL W ao L) (hL : L.length ≤ 255 ∧ ∀ c ∈ L, c.length ≤ 255) (hu : y.used.length ≤ 100000) :
    Calls Tryz.prog 54 #[ptrL b, .agg #[.int .i64 e, .slice ao L.length cap]] w fun x w' => x = .returned (.tuple #[]) ∧ Leaves (LB b) G w w' ⟨e, L, y.used ++ unitsR L, y.mark, y.size, y.n⟩ := by
  have HB0 := Lib.hid (below_new w (.cells #[.int .i64 e, .slice ao L.length cap] 29))
  have HP := Lib.hid (show PB (w.alloc (.cells #[.int .i64 e, .slice ao L.length cap] 29)) w.heap.size e ao L.length cap from heap_alloc_new _ _)
  have HG := Lib.hid (fun k (hk : G k) => (lb_thing b).lt h k hk)
  have H0 := Lib.hid (h.below HB0.out)
  have HA := Lib.hid hA
  have C0 := Lib.hid (copyO_any e ao cap L _ (hA _ (Kept.ofBelow HB0.out _)) hL)
  have CU := Lib.hid (fun (W : World) (hc : CL W ao L) => punitsO_any e ao cap L W hc hL)
  have HLU := units_few hL
  have hbw := h.small
  clear h hA hL
  generalize unitsR L = U at *
  have hU : (U.length : Int) ≤ 70000 := by omega
  unfold ptrL
  go_enter Tryz.func54, Tryz.ntmps54
  go_wp2_with (first
    | (go_at_call 31; refine C0.out.mono ?_; rintro x w1 ⟨v, rfl, hO, hb1⟩; obtain ⟨vo, vc, hv, _⟩ := hO.form; subst hv; have H1 := Lib.hid (Leaves.ahead HG.out HB0.out (H0.out.chains hb1 (e := e) hO)); obtain ⟨lo, lc, mb0, h1, _⟩ := (H0.out.below hb1).open; obtain ⟨⟨c0, c1, c2, c3, c4, c5⟩, f0, f1, f2, f3, f4, f5⟩ := six_cells h1; have hb1' := lt_of_block h1; obtain ⟨p0, p1⟩ := (HP.out.below hb1).cells; have hpz := block_lt_of_cell p0; clear hO hb1 h1)
    | (go_at_call 62; obtain ⟨H2, hL2, hk2, hs2⟩ := H1.out; refine (CU.out _ (HA.out _ hk2)).mono ?_; rintro x w3 ⟨u, rfl, hO3, hb3⟩; obtain ⟨uo, uc, hu3, hN3, hA3, _⟩ := hO3.form; subst hu3; have HN3 := Lib.hid hN3; have HU3 := Lib.hid (show ∀ a, uo = some a → ¬ H2 a.block from fun a e hf => by have := (hA3 a e).1; have := (lb_thing b).lt hL2 _ hf; omega); have HL3 := Lib.hid (hL2.below hb3); have HK3 := Lib.hid (hk2.below hb3); have HS3 := Lib.hid hs2; clear hL2 hk2 hs2 hO3 hb3 hN3 hA3))
  clear c0 c1 c2 c3 c4 c5 f0 f1 f2 f3 f4 f5 p0 p1 hpz hb1' H1 C0 CU H0 HP HA HB0
  have hx3 := HL3.out.small
  go_loopw [14] (fun i wr => ∃ k : Nat, i = .int .i64 k ∧ k ≤ U.length ∧ Hid (LB b H2 wr ⟨e, L, y.used ++ U.take k, y.mark, y.size, y.n⟩) ∧ Hid (Kept (fun k => ¬ H2 k) w3 wr)) (fun i _ => U.length - (intOf i).toNat)
  case atStart => exact ⟨0, rfl, Nat.zero_le _, Lib.hid (by rw [List.take_zero, List.append_nil]; exact HL3.out), Lib.hid (Kept.refl _ _)⟩
  case round =>
    obtain ⟨k, rfl, hk, HO, HK⟩ := hrel
    by_cases hlt : k < U.length
    · have HNR := Lib.hid (HN3.out.keep HK.out (fun a e => HU3.out a e))
      obtain ⟨bk, off, hao, x0⟩ := HNR.out.at k hlt
      have hwf := HNR.out.wf _ (List.getElem_mem hlt)
      subst hao
      have k0 : (k : Int) < (U.length : Int) := by omega
      obtain ⟨lo2, lc2, mb, h1, _, hUs, _, _, hHm⟩ := HO.out.open
      obtain ⟨⟨c0, c1, c2, c3, c4, c5⟩, _⟩ := six_cells h1
      have hbr := lt_of_block h1
      have HD := Lib.hid hUs.1
      have HM := Lib.hid hHm
      have HC2 := Lib.hid c2
      have HCNT := Lib.hid (show (y.used ++ U.take k).length < maxLen from by rw [List.length_append, List.length_take]; unfold maxLen; omega)
      have HKEY := Lib.hid (lunit_key _ hwf)
      have HW := Lib.hid hwf
      have HT := Lib.hid (take_more (S := y.used) hlt)
      clear h1 hUs hwf hHm c0 c1 c3 c4 c5
      generalize U[k] = z at *
      go_wp2_with (at_mapUpdate; refine wpList_mapUpdate_own _ rfl _ _ _ 114 rfl 146 144 lunit_law Tryz.underlying114 (unitElem (H := Unit)) mb _ _ rfl HD.out HCNT.out _ _ _ rfl rfl HKEY.out _ [] unitElem_mk ?_; intro w5 hown hgrow; have HO5 := Lib.hid (HO.out.put HC2.out HW.out rfl hown hgrow); have HK5 := Lib.hid (HK.out.grown hgrow (fun k e hk => hk (by cases e; exact HM.out))); clear hown hgrow)
      go_roundw
      case rel => exact ⟨k + 1, by go_num, by omega, Lib.hid (by rw [← HT.out]; exact HO5.out), HK5⟩
      case measure => simp [intOf]; omega
    · obtain rfl : k = U.length := by omega
      rw [List.take_of_length_le (Nat.le_refl _)] at HO
      go_wp2_with fail
      go_end0
      exact ⟨rfl, H2, HO.out, HK3.out.then HS3.out HK.out, HS3.out⟩
end Go.Proofs.YtchhmfdalghgcaaGreat
