/- What the program's unit answers a question to its pages. Conditions: it and the question lie where the call was told; the question's data are not too long. (Written by gen/genunpb.py.) -/
import Derived.Test.YtphigibhgldnpaaG15b
import Derived.Test.YtphigibhgldnpaaG08b
import Derived.StillTailTactics
set_option linter.unusedVariables false
namespace Go.Proofs.Ytphigibhgldnpaa
set_option linter.unusedVariables false
open Go.RowKit
set_option maxRecDepth 20000
theorem coded_ag (c : Int) (w : World) : Calls Try.prog 84 #[.int .i64 c] w fun e w' => e = .returned (.agg #[.int .i64 c, .int .i64 0, .string ⟨#[]⟩, .int .i64 0, .slice none 0 0, .int .i64 0, .int .i64 0, .int .i64 0]) ∧ Below w.heap.size w w' := coded_any c w
set_option maxHeartbeats 8000000 in
theorem un_write (b q : Nat) (G : Nat → Prop) (w : World) (u : Us) (a : Ak) (h : UM b q G w u) (hs : a.data.size ≤ 1000000) :
    Calls Try.prog 87 #[ptrV b, askV a] w fun e w' => e = .returned (anV (u.p.writeE a.page a.data) 0 noS 0) ∧ Leaves (UM b q) G w w' ⟨u.p.write a.page a.data, u.epoch, u.down⟩ := by
  obtain ⟨k, un, ep, pg, sz, n, s, pe, L, ao, cap⟩ := a
  obtain ⟨p, ue, dn⟩ := u
  simp only at *
  have CC := Lib.hid coded_ag
  have HS := Lib.hid (boxed_start (um_thing b q) h #[.int .i64 k, .int .i64 un, .int .i64 ep, .int .i64 pg, .int .i64 sz, .int .i64 n, .string s, .int .i64 pe, .slice ao L.length cap])
  unfold zeroAn at HS
  have hbw := h.small
  clear h
  show Calls _ _ #[.pointer (some ⟨b, 0, none⟩), .agg #[.int .i64 k, .int .i64 un, .int .i64 ep, .int .i64 pg, .int .i64 sz, .int .i64 n, .string s, .int .i64 pe, .slice ao L.length cap]] w _
  go_enter Try.func87, Try.ntmps87
  go_wp2_with fail
  generalize hW0 : ((w.alloc (.cells #[.int .i64 k, .int .i64 un, .int .i64 ep, .int .i64 pg, .int .i64 sz, .int .i64 n, .string s, .int .i64 pe, .slice ao L.length cap] 37)).alloc (.cells #[.int .i64 0, .int .i64 0, .string ⟨#[]⟩, .int .i64 0, .slice none 0 0, .int .i64 0, .int .i64 0, .int .i64 0] 34)) = W0 at *
  clear hW0
  obtain ⟨l1, l2⟩ := HS.out.small
  obtain ⟨H, hH, hU⟩ := (HS.out.drewN (um_thing b q) 1).use
  have x3 : W0.cell? ⟨w.heap.size, 3, none⟩ = some (.int .i64 pg) := cell_of HS.out.ask 3
  have x6 : W0.cell? ⟨w.heap.size, 6, none⟩ = some (.string s) := cell_of HS.out.ask 6
  have c0 : W0.cell? ⟨b, 0, none⟩ = some (.pointer (some ⟨q, 0, none⟩)) := (three_cells hH.cells).1
  have hb : b < W0.heap.size := hH.small
  obtain ⟨F, hF, hok, hnx⟩ := hH.ready
  have HNX := Lib.hid (fun W2 p' h1 h2 => hU W2 _ (hnx W2 p' h1 h2))
  clear hnx hU hH
  go_still_tail 8, (by kernel_rfl)
  change wpList _ _ _ _ _ W0.drew
  go_wp2_with (first | (go_at_call 92; refine (pwrite_any F _ q p pg s hF hok hs).mono ?_; rintro e w2 ⟨rfl, hl⟩; have HT2 := Lib.hid (HNX.out _ _ (hok.write pg s) hl); clear hl) | (go_at_call 84; refine (CC.out _ _).mono ?_; rintro e w3 ⟨rfl, hb3⟩; have HT3 := Lib.hid (HT2.out.below (um_thing b q) hb3); clear hb3; obtain ⟨nl1, nl2⟩ := HT3.out.small; obtain ⟨⟨ny0, ny1, ny2, ny3, ny4, ny5, ny6, ny7⟩, nfy0, nfy1, nfy2, nfy3, nfy4, nfy5, nfy6, nfy7⟩ := eight_cells HT3.out.ans))
  exact ans_ret (x := anP (p.writeE pg s) 0 noS 0) (ao := none) (cap := 0) rfl (HT3.out.fin (um_thing b q)).1 rfl rfl ⟨rfl, (HT3.out.fin (um_thing b q)).2⟩
set_option maxHeartbeats 8000000 in
theorem un_fill (b q : Nat) (G : Nat → Prop) (w : World) (u : Us) (a : Ak) (h : UM b q G w u) :
    Calls Try.prog 88 #[ptrV b, askV a] w fun e w' => e = .returned (anV (u.p.fillE a.page) 0 noS 0) ∧ Leaves (UM b q) G w w' ⟨u.p.fill a.page, u.epoch, u.down⟩ := by
  obtain ⟨k, un, ep, pg, sz, n, s, pe, L, ao, cap⟩ := a
  obtain ⟨p, ue, dn⟩ := u
  simp only at *
  have CC := Lib.hid coded_ag
  have HS := Lib.hid (boxed_start (um_thing b q) h #[.int .i64 k, .int .i64 un, .int .i64 ep, .int .i64 pg, .int .i64 sz, .int .i64 n, .string s, .int .i64 pe, .slice ao L.length cap])
  unfold zeroAn at HS
  have hbw := h.small
  clear h
  show Calls _ _ #[.pointer (some ⟨b, 0, none⟩), .agg #[.int .i64 k, .int .i64 un, .int .i64 ep, .int .i64 pg, .int .i64 sz, .int .i64 n, .string s, .int .i64 pe, .slice ao L.length cap]] w _
  go_enter Try.func88, Try.ntmps88
  go_wp2_with fail
  generalize hW0 : ((w.alloc (.cells #[.int .i64 k, .int .i64 un, .int .i64 ep, .int .i64 pg, .int .i64 sz, .int .i64 n, .string s, .int .i64 pe, .slice ao L.length cap] 37)).alloc (.cells #[.int .i64 0, .int .i64 0, .string ⟨#[]⟩, .int .i64 0, .slice none 0 0, .int .i64 0, .int .i64 0, .int .i64 0] 34)) = W0 at *
  clear hW0
  obtain ⟨l1, l2⟩ := HS.out.small
  obtain ⟨H, hH, hU⟩ := (HS.out.drewN (um_thing b q) 1).use
  have x3 : W0.cell? ⟨w.heap.size, 3, none⟩ = some (.int .i64 pg) := cell_of HS.out.ask 3
  have x6 : W0.cell? ⟨w.heap.size, 6, none⟩ = some (.string s) := cell_of HS.out.ask 6
  have c0 : W0.cell? ⟨b, 0, none⟩ = some (.pointer (some ⟨q, 0, none⟩)) := (three_cells hH.cells).1
  have hb : b < W0.heap.size := hH.small
  obtain ⟨F, hF, hok, hnx⟩ := hH.ready
  have HNX := Lib.hid (fun W2 p' h1 h2 => hU W2 _ (hnx W2 p' h1 h2))
  clear hnx hU hH
  go_still_tail 6, (by kernel_rfl)
  change wpList _ _ _ _ _ W0.drew
  go_wp2_with (first | (go_at_call 93; refine (pfill_any F _ q p pg hF hok).mono ?_; rintro e w2 ⟨rfl, hl⟩; have HT2 := Lib.hid (HNX.out _ _ (hok.fill pg) hl); clear hl) | (go_at_call 84; refine (CC.out _ _).mono ?_; rintro e w3 ⟨rfl, hb3⟩; have HT3 := Lib.hid (HT2.out.below (um_thing b q) hb3); clear hb3; obtain ⟨nl1, nl2⟩ := HT3.out.small; obtain ⟨⟨ny0, ny1, ny2, ny3, ny4, ny5, ny6, ny7⟩, nfy0, nfy1, nfy2, nfy3, nfy4, nfy5, nfy6, nfy7⟩ := eight_cells HT3.out.ans))
  exact ans_ret (x := anP (p.fillE pg) 0 noS 0) (ao := none) (cap := 0) rfl (HT3.out.fin (um_thing b q)).1 rfl rfl ⟨rfl, (HT3.out.fin (um_thing b q)).2⟩
set_option maxHeartbeats 8000000 in
theorem un_trim (b q : Nat) (G : Nat → Prop) (w : World) (u : Us) (a : Ak) (h : UM b q G w u) (hw : i64w a.page) :
    Calls Try.prog 90 #[ptrV b, askV a] w fun e w' => e = .returned (anV (Ps.trimE a.page) 0 noS 0) ∧ Leaves (UM b q) G w w' ⟨u.p.trim a.page, u.epoch, u.down⟩ := by
  obtain ⟨k, un, ep, pg, sz, n, s, pe, L, ao, cap⟩ := a
  obtain ⟨p, ue, dn⟩ := u
  simp only at *
  have CC := Lib.hid coded_ag
  have HS := Lib.hid (boxed_start (um_thing b q) h #[.int .i64 k, .int .i64 un, .int .i64 ep, .int .i64 pg, .int .i64 sz, .int .i64 n, .string s, .int .i64 pe, .slice ao L.length cap])
  unfold zeroAn at HS
  have hbw := h.small
  clear h
  show Calls _ _ #[.pointer (some ⟨b, 0, none⟩), .agg #[.int .i64 k, .int .i64 un, .int .i64 ep, .int .i64 pg, .int .i64 sz, .int .i64 n, .string s, .int .i64 pe, .slice ao L.length cap]] w _
  go_enter Try.func90, Try.ntmps90
  go_wp2_with fail
  generalize hW0 : ((w.alloc (.cells #[.int .i64 k, .int .i64 un, .int .i64 ep, .int .i64 pg, .int .i64 sz, .int .i64 n, .string s, .int .i64 pe, .slice ao L.length cap] 37)).alloc (.cells #[.int .i64 0, .int .i64 0, .string ⟨#[]⟩, .int .i64 0, .slice none 0 0, .int .i64 0, .int .i64 0, .int .i64 0] 34)) = W0 at *
  clear hW0
  obtain ⟨l1, l2⟩ := HS.out.small
  obtain ⟨H, hH, hU⟩ := (HS.out.drewN (um_thing b q) 1).use
  have x3 : W0.cell? ⟨w.heap.size, 3, none⟩ = some (.int .i64 pg) := cell_of HS.out.ask 3
  have x6 : W0.cell? ⟨w.heap.size, 6, none⟩ = some (.string s) := cell_of HS.out.ask 6
  have c0 : W0.cell? ⟨b, 0, none⟩ = some (.pointer (some ⟨q, 0, none⟩)) := (three_cells hH.cells).1
  have hb : b < W0.heap.size := hH.small
  obtain ⟨F, hF, hok, hnx⟩ := hH.ready
  have HNX := Lib.hid (fun W2 p' h1 h2 => hU W2 _ (hnx W2 p' h1 h2))
  clear hnx hU hH
  go_still_tail 6, (by kernel_rfl)
  change wpList _ _ _ _ _ W0.drew
  go_wp2_with (first | (go_at_call 95; refine (ptrim_any F _ q p pg hF hok (i64_of_wf hw)).mono ?_; rintro e w2 ⟨rfl, hl⟩; have HT2 := Lib.hid (HNX.out _ _ (hok.trim pg) hl); clear hl) | (go_at_call 84; refine (CC.out _ _).mono ?_; rintro e w3 ⟨rfl, hb3⟩; have HT3 := Lib.hid (HT2.out.below (um_thing b q) hb3); clear hb3; obtain ⟨nl1, nl2⟩ := HT3.out.small; obtain ⟨⟨ny0, ny1, ny2, ny3, ny4, ny5, ny6, ny7⟩, nfy0, nfy1, nfy2, nfy3, nfy4, nfy5, nfy6, nfy7⟩ := eight_cells HT3.out.ans))
  exact ans_ret (x := anP (Ps.trimE pg) 0 noS 0) (ao := none) (cap := 0) rfl (HT3.out.fin (um_thing b q)).1 rfl rfl ⟨rfl, (HT3.out.fin (um_thing b q)).2⟩
end Go.Proofs.Ytphigibhgldnpaa
