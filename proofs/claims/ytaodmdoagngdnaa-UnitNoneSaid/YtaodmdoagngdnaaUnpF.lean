/- What the program's unit, up and not sealed, answers a question of one kind. Conditions: it and the question lie where the call was told. -/
import Derived.Test.YtaodmdoagngdnaaUnpE
namespace Go.Proofs.Ytaodmdoagngdnaa
set_option linter.unusedVariables false
open Go.RowKit
set_option maxRecDepth 20000
set_option maxHeartbeats 800000 in
theorem answer_write (b q : Nat) (G : Nat → Prop) (w : World) (u u' : Us) (a : Ak) (hk : a.kind = 1) (c m : Int) (z : ByteArray) (h : UM b q G w u) (he : ¬ a.epoch < u.epoch)
    (hf : ∀ (H : Nat → Prop) (w : World), UM b q H w u → Calls Try.prog 40 #[ptrV b, askV a] w fun e w' => e = .returned (anV c m z 0) ∧ Leaves (UM b q) H w w' u') :
    Calls Try.prog 29 #[ptrV b, askV a] w fun e w' => e = .returned (anV c m z 0) ∧ Leaves (UM b q) G w w' u' := by
  obtain ⟨k, un, ep, pg, sz, n, s, pe, L, ao, cap⟩ := a
  obtain ⟨p, ue, dn⟩ := u
  simp only at *
  have CC := Lib.hid coded_ag
  have HS := Lib.hid (boxed_start (um_thing b q) h #[.int .i64 k, .int .i64 un, .int .i64 ep, .int .i64 pg, .int .i64 sz, .int .i64 n, .string s, .int .i64 pe, .slice ao L.length cap])
  unfold zeroAn at HS
  have hbw := h.small
  clear h
  show Calls _ _ #[.pointer (some ⟨b, 0, none⟩), .agg #[.int .i64 k, .int .i64 un, .int .i64 ep, .int .i64 pg, .int .i64 sz, .int .i64 n, .string s, .int .i64 pe, .slice ao L.length cap]] w _
  have HD := Lib.hid (show ∀ w, Calls Try.prog 36 #[.int .i64 k] w fun e w' => e = .returned (fnV 40) ∧ Below w.heap.size w w' from by rw [hk]; exact deed_1)
  unfold fnV at HD
  have he' : ue ≤ ep := by omega
  have HF := Lib.hid (show ∀ (H : Nat → Prop) (w : World), UM b q H w ⟨p, ue, dn⟩ → Calls Try.prog 40 #[.pointer (some ⟨b, 0, none⟩), .agg #[.int .i64 k, .int .i64 un, .int .i64 ep, .int .i64 pg, .int .i64 sz, .int .i64 n, .string s, .int .i64 pe, .slice ao L.length cap]] w fun e w' => e = .returned (.agg #[.int .i64 c, .int .i64 m, .string z, .int .i64 0, .slice none 0 0, .int .i64 0, .int .i64 0, .int .i64 0]) ∧ Leaves (UM b q) H w w' u' from hf)
  clear he hf hk
  have hn : ∀ w : World, (binOp .eql 80 (.func (.func 40) #[] #[]) .nilFunc).run Try.prog w = .ok (.bool false) w := fun _ => rfl
  go_enter Try.func29, Try.ntmps29
  go_wp2_with (go_at_call 36; refine (HD.out _).mono ?_; rintro e w1 ⟨rfl, hb1⟩; have HT1 := Lib.hid (HS.out.below (um_thing b q) hb1); clear hb1)
  obtain ⟨l1, l2⟩ := HT1.out.small
  obtain ⟨H, hH, _⟩ := HT1.out.use
  have x2 : w1.cell? ⟨w.heap.size, 2, none⟩ = some (.int .i64 ep) := cell_of HT1.out.ask 2
  obtain ⟨c0, c1, c2, _⟩ := three_cells hH.cells
  have hb := hH.small
  clear hH
  go_quiet (fail)
  have HT2 := Lib.hid (HT1.out.drewN (um_thing b q) nq)
  generalize hW2 : World.drewN w1 nq = w2 at *
  clear hW2 x2 c0 c1 c2 hb l1 l2
  obtain ⟨l1, l2⟩ := HT2.out.small
  obtain ⟨H2, hH2, hU2⟩ := HT2.out.use
  have HU2 := Lib.hid hU2
  have HF2 := Lib.hid (HF.out H2 w2 hH2)
  obtain ⟨⟨q0, q1, q2, q3, q4, q5, q6, q7⟩, _⟩ := eight_cells HT2.out.ans
  have x := HT2.out.ask
  have x0 := cell_of x 0
  have x1 := cell_of x 1
  have x2 := cell_of x 2
  have x3 := cell_of x 3
  have x4 := cell_of x 4
  have x5 := cell_of x 5
  have x6 := cell_of x 6
  have x7 := cell_of x 7
  have x8 := cell_of x 8
  clear hU2 hH2 x
  go_wp2_with fail
  refine HF2.out.mono ?_
  rintro e w3 ⟨rfl, hl⟩
  have HT3 := Lib.hid (HU2.out _ _ hl)
  clear hl
  obtain ⟨nl1, nl2⟩ := HT3.out.small
  obtain ⟨⟨ny0, ny1, ny2, ny3, ny4, ny5, ny6, ny7⟩, nfy0, nfy1, nfy2, nfy3, nfy4, nfy5, nfy6, nfy7⟩ := eight_cells HT3.out.ans
  go_wp2_with fail
  exact ans_ret (x := anP (c) (m) z 0) (ao := none) (cap := 0) rfl (HT3.out.fin (um_thing b q)).1 rfl rfl ⟨rfl, (HT3.out.fin (um_thing b q)).2⟩
set_option maxHeartbeats 800000 in
theorem answer_fill (b q : Nat) (G : Nat → Prop) (w : World) (u u' : Us) (a : Ak) (hk : a.kind = 2) (c m : Int) (z : ByteArray) (h : UM b q G w u) (he : ¬ a.epoch < u.epoch)
    (hf : ∀ (H : Nat → Prop) (w : World), UM b q H w u → Calls Try.prog 41 #[ptrV b, askV a] w fun e w' => e = .returned (anV c m z 0) ∧ Leaves (UM b q) H w w' u') :
    Calls Try.prog 29 #[ptrV b, askV a] w fun e w' => e = .returned (anV c m z 0) ∧ Leaves (UM b q) G w w' u' := by
  obtain ⟨k, un, ep, pg, sz, n, s, pe, L, ao, cap⟩ := a
  obtain ⟨p, ue, dn⟩ := u
  simp only at *
  have CC := Lib.hid coded_ag
  have HS := Lib.hid (boxed_start (um_thing b q) h #[.int .i64 k, .int .i64 un, .int .i64 ep, .int .i64 pg, .int .i64 sz, .int .i64 n, .string s, .int .i64 pe, .slice ao L.length cap])
  unfold zeroAn at HS
  have hbw := h.small
  clear h
  show Calls _ _ #[.pointer (some ⟨b, 0, none⟩), .agg #[.int .i64 k, .int .i64 un, .int .i64 ep, .int .i64 pg, .int .i64 sz, .int .i64 n, .string s, .int .i64 pe, .slice ao L.length cap]] w _
  have HD := Lib.hid (show ∀ w, Calls Try.prog 36 #[.int .i64 k] w fun e w' => e = .returned (fnV 41) ∧ Below w.heap.size w w' from by rw [hk]; exact deed_2)
  unfold fnV at HD
  have he' : ue ≤ ep := by omega
  have HF := Lib.hid (show ∀ (H : Nat → Prop) (w : World), UM b q H w ⟨p, ue, dn⟩ → Calls Try.prog 41 #[.pointer (some ⟨b, 0, none⟩), .agg #[.int .i64 k, .int .i64 un, .int .i64 ep, .int .i64 pg, .int .i64 sz, .int .i64 n, .string s, .int .i64 pe, .slice ao L.length cap]] w fun e w' => e = .returned (.agg #[.int .i64 c, .int .i64 m, .string z, .int .i64 0, .slice none 0 0, .int .i64 0, .int .i64 0, .int .i64 0]) ∧ Leaves (UM b q) H w w' u' from hf)
  clear he hf hk
  have hn : ∀ w : World, (binOp .eql 80 (.func (.func 41) #[] #[]) .nilFunc).run Try.prog w = .ok (.bool false) w := fun _ => rfl
  go_enter Try.func29, Try.ntmps29
  go_wp2_with (go_at_call 36; refine (HD.out _).mono ?_; rintro e w1 ⟨rfl, hb1⟩; have HT1 := Lib.hid (HS.out.below (um_thing b q) hb1); clear hb1)
  obtain ⟨l1, l2⟩ := HT1.out.small
  obtain ⟨H, hH, _⟩ := HT1.out.use
  have x2 : w1.cell? ⟨w.heap.size, 2, none⟩ = some (.int .i64 ep) := cell_of HT1.out.ask 2
  obtain ⟨c0, c1, c2, _⟩ := three_cells hH.cells
  have hb := hH.small
  clear hH
  go_quiet (fail)
  have HT2 := Lib.hid (HT1.out.drewN (um_thing b q) nq)
  generalize hW2 : World.drewN w1 nq = w2 at *
  clear hW2 x2 c0 c1 c2 hb l1 l2
  obtain ⟨l1, l2⟩ := HT2.out.small
  obtain ⟨H2, hH2, hU2⟩ := HT2.out.use
  have HU2 := Lib.hid hU2
  have HF2 := Lib.hid (HF.out H2 w2 hH2)
  obtain ⟨⟨q0, q1, q2, q3, q4, q5, q6, q7⟩, _⟩ := eight_cells HT2.out.ans
  have x := HT2.out.ask
  have x0 := cell_of x 0
  have x1 := cell_of x 1
  have x2 := cell_of x 2
  have x3 := cell_of x 3
  have x4 := cell_of x 4
  have x5 := cell_of x 5
  have x6 := cell_of x 6
  have x7 := cell_of x 7
  have x8 := cell_of x 8
  clear hU2 hH2 x
  go_wp2_with fail
  refine HF2.out.mono ?_
  rintro e w3 ⟨rfl, hl⟩
  have HT3 := Lib.hid (HU2.out _ _ hl)
  clear hl
  obtain ⟨nl1, nl2⟩ := HT3.out.small
  obtain ⟨⟨ny0, ny1, ny2, ny3, ny4, ny5, ny6, ny7⟩, nfy0, nfy1, nfy2, nfy3, nfy4, nfy5, nfy6, nfy7⟩ := eight_cells HT3.out.ans
  go_wp2_with fail
  exact ans_ret (x := anP (c) (m) z 0) (ao := none) (cap := 0) rfl (HT3.out.fin (um_thing b q)).1 rfl rfl ⟨rfl, (HT3.out.fin (um_thing b q)).2⟩
set_option maxHeartbeats 800000 in
theorem answer_read (b q : Nat) (G : Nat → Prop) (w : World) (u u' : Us) (a : Ak) (hk : a.kind = 3) (c m : Int) (z : ByteArray) (h : UM b q G w u) (he : ¬ a.epoch < u.epoch)
    (hf : ∀ (H : Nat → Prop) (w : World), UM b q H w u → Calls Try.prog 42 #[ptrV b, askV a] w fun e w' => e = .returned (anV c m z 0) ∧ Leaves (UM b q) H w w' u') :
    Calls Try.prog 29 #[ptrV b, askV a] w fun e w' => e = .returned (anV c m z 0) ∧ Leaves (UM b q) G w w' u' := by
  obtain ⟨k, un, ep, pg, sz, n, s, pe, L, ao, cap⟩ := a
  obtain ⟨p, ue, dn⟩ := u
  simp only at *
  have CC := Lib.hid coded_ag
  have HS := Lib.hid (boxed_start (um_thing b q) h #[.int .i64 k, .int .i64 un, .int .i64 ep, .int .i64 pg, .int .i64 sz, .int .i64 n, .string s, .int .i64 pe, .slice ao L.length cap])
  unfold zeroAn at HS
  have hbw := h.small
  clear h
  show Calls _ _ #[.pointer (some ⟨b, 0, none⟩), .agg #[.int .i64 k, .int .i64 un, .int .i64 ep, .int .i64 pg, .int .i64 sz, .int .i64 n, .string s, .int .i64 pe, .slice ao L.length cap]] w _
  have HD := Lib.hid (show ∀ w, Calls Try.prog 36 #[.int .i64 k] w fun e w' => e = .returned (fnV 42) ∧ Below w.heap.size w w' from by rw [hk]; exact deed_3)
  unfold fnV at HD
  have he' : ue ≤ ep := by omega
  have HF := Lib.hid (show ∀ (H : Nat → Prop) (w : World), UM b q H w ⟨p, ue, dn⟩ → Calls Try.prog 42 #[.pointer (some ⟨b, 0, none⟩), .agg #[.int .i64 k, .int .i64 un, .int .i64 ep, .int .i64 pg, .int .i64 sz, .int .i64 n, .string s, .int .i64 pe, .slice ao L.length cap]] w fun e w' => e = .returned (.agg #[.int .i64 c, .int .i64 m, .string z, .int .i64 0, .slice none 0 0, .int .i64 0, .int .i64 0, .int .i64 0]) ∧ Leaves (UM b q) H w w' u' from hf)
  clear he hf hk
  have hn : ∀ w : World, (binOp .eql 80 (.func (.func 42) #[] #[]) .nilFunc).run Try.prog w = .ok (.bool false) w := fun _ => rfl
  go_enter Try.func29, Try.ntmps29
  go_wp2_with (go_at_call 36; refine (HD.out _).mono ?_; rintro e w1 ⟨rfl, hb1⟩; have HT1 := Lib.hid (HS.out.below (um_thing b q) hb1); clear hb1)
  obtain ⟨l1, l2⟩ := HT1.out.small
  obtain ⟨H, hH, _⟩ := HT1.out.use
  have x2 : w1.cell? ⟨w.heap.size, 2, none⟩ = some (.int .i64 ep) := cell_of HT1.out.ask 2
  obtain ⟨c0, c1, c2, _⟩ := three_cells hH.cells
  have hb := hH.small
  clear hH
  go_quiet (fail)
  have HT2 := Lib.hid (HT1.out.drewN (um_thing b q) nq)
  generalize hW2 : World.drewN w1 nq = w2 at *
  clear hW2 x2 c0 c1 c2 hb l1 l2
  obtain ⟨l1, l2⟩ := HT2.out.small
  obtain ⟨H2, hH2, hU2⟩ := HT2.out.use
  have HU2 := Lib.hid hU2
  have HF2 := Lib.hid (HF.out H2 w2 hH2)
  obtain ⟨⟨q0, q1, q2, q3, q4, q5, q6, q7⟩, _⟩ := eight_cells HT2.out.ans
  have x := HT2.out.ask
  have x0 := cell_of x 0
  have x1 := cell_of x 1
  have x2 := cell_of x 2
  have x3 := cell_of x 3
  have x4 := cell_of x 4
  have x5 := cell_of x 5
  have x6 := cell_of x 6
  have x7 := cell_of x 7
  have x8 := cell_of x 8
  clear hU2 hH2 x
  go_wp2_with fail
  refine HF2.out.mono ?_
  rintro e w3 ⟨rfl, hl⟩
  have HT3 := Lib.hid (HU2.out _ _ hl)
  clear hl
  obtain ⟨nl1, nl2⟩ := HT3.out.small
  obtain ⟨⟨ny0, ny1, ny2, ny3, ny4, ny5, ny6, ny7⟩, nfy0, nfy1, nfy2, nfy3, nfy4, nfy5, nfy6, nfy7⟩ := eight_cells HT3.out.ans
  go_wp2_with fail
  exact ans_ret (x := anP (c) (m) z 0) (ao := none) (cap := 0) rfl (HT3.out.fin (um_thing b q)).1 rfl rfl ⟨rfl, (HT3.out.fin (um_thing b q)).2⟩
end Go.Proofs.Ytaodmdoagngdnaa
