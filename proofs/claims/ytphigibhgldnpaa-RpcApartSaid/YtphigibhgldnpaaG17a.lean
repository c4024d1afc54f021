/- What the program's unit answers a question to its pages. Conditions: it and the question lie where the call was told; the question's data are not too long. (Written by gen/genunpb.py.) What the document's own layout answers, asked for the projection that counts. Conditions: it and the question lie where the call was told. -/
import Derived.Test.YtphigibhgldnpaaG16a
import Derived.Deep.RegionHeld3
import Derived.Test.YtphigibhgldnpaaG16b
set_option linter.unusedVariables false
namespace Go.Proofs.Ytphigibhgldnpaa
set_option linter.unusedVariables false
open Go.RowKit
set_option maxRecDepth 20000
set_option maxHeartbeats 8000000 in
theorem un_read (b q : Nat) (G : Nat → Prop) (w : World) (u : Us) (a : Ak) (h : UM b q G w u) :
    Calls Try.prog 89 #[ptrV b, askV a] w fun e w' => e = .returned (anV (u.p.readE a.page) 0 (u.p.readS a.page) 0) ∧ Leaves (UM b q) G w w' ⟨u.p, u.epoch, u.down⟩ := by
  obtain ⟨k, un, ep, pg, sz, n, s, pe, L, ao, cap⟩ := a
  obtain ⟨p, ue, dn⟩ := u
  simp only at *
  have CC := Lib.hid coded_ag
  have HS := Lib.hid (boxed_start (um_thing b q) h #[.int .i64 k, .int .i64 un, .int .i64 ep, .int .i64 pg, .int .i64 sz, .int .i64 n, .string s, .int .i64 pe, .slice ao L.length cap])
  unfold zeroAn at HS
  have hbw := h.small
  clear h
  show Calls _ _ #[.pointer (some ⟨b, 0, none⟩), .agg #[.int .i64 k, .int .i64 un, .int .i64 ep, .int .i64 pg, .int .i64 sz, .int .i64 n, .string s, .int .i64 pe, .slice ao L.length cap]] w _
  go_enter Try.func89, Try.ntmps89
  go_wp2_with fail
  generalize hW0 : ((w.alloc (.cells #[.int .i64 k, .int .i64 un, .int .i64 ep, .int .i64 pg, .int .i64 sz, .int .i64 n, .string s, .int .i64 pe, .slice ao L.length cap] 37)).alloc (.cells #[.int .i64 0, .int .i64 0, .string ⟨#[]⟩, .int .i64 0, .slice none 0 0, .int .i64 0, .int .i64 0, .int .i64 0] 34)) = W0 at *
  clear hW0
  obtain ⟨l1, l2⟩ := HS.out.small
  have HD := Lib.hid (HS.out.drewN (um_thing b q) 1)
  obtain ⟨H, hH, hU⟩ := (HS.out.drewN (um_thing b q) 1).use
  have x3 : W0.cell? ⟨w.heap.size, 3, none⟩ = some (.int .i64 pg) := cell_of HS.out.ask 3
  have x6 : W0.cell? ⟨w.heap.size, 6, none⟩ = some (.string s) := cell_of HS.out.ask 6
  have c0 : W0.cell? ⟨b, 0, none⟩ = some (.pointer (some ⟨q, 0, none⟩)) := (three_cells hH.cells).1
  have hb : b < W0.heap.size := hH.small
  obtain ⟨F, hF, hok, hnx⟩ := hH.ready
  have HNX := Lib.hid (fun W2 p' h1 h2 => hU W2 _ (hnx W2 p' h1 h2))
  clear hnx hU hH
  go_region_held3 (fun W => W.cell? ⟨w.heap.size, 3, none⟩ = some (.int .i64 pg) ∧ W.cell? ⟨b, 0, none⟩ = some (.pointer (some ⟨q, 0, none⟩)))
    (first | assumption | exact ⟨x3, c0⟩)
    (first | (go_at_call 94; refine (pread_any F _ q p pg hF hok).mono ?_; rintro e w2 ⟨rfl, hb2⟩; have HT2 := Lib.hid (HD.out.below (um_thing b q) hb2); clear hb2; obtain ⟨K2, hK2, _⟩ := HT2.out.th; have S2 : w2.cell? ⟨w.heap.size, 3, none⟩ = some (.int .i64 pg) ∧ w2.cell? ⟨b, 0, none⟩ = some (.pointer (some ⟨q, 0, none⟩)) := ⟨cell_of HT2.out.ask 3, (three_cells hK2.cells).1⟩; clear hK2))
  go_wp2_with (go_at_call 84; refine (CC.out _ _).mono ?_; rintro e w3 ⟨rfl, hb3⟩; have HT3 := Lib.hid (HT2.out.below (um_thing b q) hb3); clear hb3; obtain ⟨nl1, nl2⟩ := HT3.out.small; obtain ⟨⟨ny0, ny1, ny2, ny3, ny4, ny5, ny6, ny7⟩, nfy0, nfy1, nfy2, nfy3, nfy4, nfy5, nfy6, nfy7⟩ := eight_cells HT3.out.ans)
  exact ans_ret (x := anP (p.readE pg) 0 (p.readS pg) 0) (ao := none) (cap := 0) rfl (below_heap ((Below.refl _ _).alloc (Nat.le_refl _) _) (HT3.out.fin (um_thing b q)).1) rfl rfl ⟨rfl, (HT3.out.fin (um_thing b q)).2.below (um_thing b q) ((Below.refl _ _).alloc (Nat.le_refl _) _)⟩
end Go.Proofs.Ytphigibhgldnpaa
namespace Go.Proofs.Ytphigibhgldnpaa
set_option linter.unusedVariables false
open Go.RowKit
set_option maxRecDepth 20000
section
variable {w W W2 : World} {r : Nat} {G H : Nat → Prop} {y : Ly} {a : Ak} {X : Option (Array Value)} {v0 v1 v3 v4 v5 : Value}
theorem s5_on (h : W.cell? ⟨r, 0, none⟩ = some v0 ∧ W.cell? ⟨r, 1, none⟩ = some v1 ∧ W.cell? ⟨r, 3, none⟩ = some v3 ∧ W.cell? ⟨r, 4, none⟩ = some v4 ∧ W.cell? ⟨r, 5, none⟩ = some v5 ∧ LdE w W r G H y a X) (hb : Below W.heap.size W W2) : W2.cell? ⟨r, 0, none⟩ = some v0 ∧ W2.cell? ⟨r, 1, none⟩ = some v1 ∧ W2.cell? ⟨r, 3, none⟩ = some v3 ∧ W2.cell? ⟨r, 4, none⟩ = some v4 ∧ W2.cell? ⟨r, 5, none⟩ = some v5 ∧ LdE w W2 r G H y a X :=
  ⟨cellB hb (block_lt_of_cell h.1) h.1, cellB hb (block_lt_of_cell h.2.1) h.2.1, cellB hb (block_lt_of_cell h.2.2.1) h.2.2.1, cellB hb (block_lt_of_cell h.2.2.2.1) h.2.2.2.1, cellB hb (block_lt_of_cell h.2.2.2.2.1) h.2.2.2.2.1, h.2.2.2.2.2.below hb⟩
theorem s5_ld (h : W.cell? ⟨r, 0, none⟩ = some v0 ∧ W.cell? ⟨r, 1, none⟩ = some v1 ∧ W.cell? ⟨r, 3, none⟩ = some v3 ∧ W.cell? ⟨r, 4, none⟩ = some v4 ∧ W.cell? ⟨r, 5, none⟩ = some v5 ∧ LdE w W r G H y a X) : LdE w W r G H y a X := h.2.2.2.2.2
theorem s5_cl {ao : Option Addr} {n cap : Nat} (h : W.cell? ⟨r, 0, none⟩ = some v0 ∧ W.cell? ⟨r, 1, none⟩ = some (.slice ao n cap) ∧ W.cell? ⟨r, 3, none⟩ = some v3 ∧ W.cell? ⟨r, 4, none⟩ = some v4 ∧ W.cell? ⟨r, 5, none⟩ = some v5 ∧ LdE w W r G H y a X) : CL W ao y.L := h.2.2.2.2.2.rl.cl h.2.1
theorem s5_lt (h : W.cell? ⟨r, 0, none⟩ = some v0 ∧ W.cell? ⟨r, 1, none⟩ = some v1 ∧ W.cell? ⟨r, 3, none⟩ = some v3 ∧ W.cell? ⟨r, 4, none⟩ = some v4 ∧ W.cell? ⟨r, 5, none⟩ = some v5 ∧ LdE w W r G H y a X) : ∀ k, H k → k < W.heap.size := fun k hk => (rl_thing r).lt h.2.2.2.2.2.rl k hk
theorem s5_small (h : W.cell? ⟨r, 0, none⟩ = some v0 ∧ W.cell? ⟨r, 1, none⟩ = some v1 ∧ W.cell? ⟨r, 3, none⟩ = some v3 ∧ W.cell? ⟨r, 4, none⟩ = some v4 ∧ W.cell? ⟨r, 5, none⟩ = some v5 ∧ LdE w W r G H y a X) : w.heap.size + 1 < W.heap.size := h.2.2.2.2.2.small.2.1
theorem s5_eight (h : W.cell? ⟨r, 0, none⟩ = some v0 ∧ W.cell? ⟨r, 1, none⟩ = some v1 ∧ W.cell? ⟨r, 3, none⟩ = some v3 ∧ W.cell? ⟨r, 4, none⟩ = some v4 ∧ W.cell? ⟨r, 5, none⟩ = some v5 ∧ LdE w W r G H y a X) (x0 x1 x2 x3 x4 x5 x6 x7 : Value) : ((((((((W.setCell ⟨w.heap.size + 1, 0, none⟩ x0).setCell ⟨w.heap.size + 1, 1, none⟩ x1).setCell ⟨w.heap.size + 1, 2, none⟩ x2).setCell ⟨w.heap.size + 1, 3, none⟩ x3).setCell ⟨w.heap.size + 1, 4, none⟩ x4).setCell ⟨w.heap.size + 1, 5, none⟩ x5).setCell ⟨w.heap.size + 1, 6, none⟩ x6).setCell ⟨w.heap.size + 1, 7, none⟩ x7).cell? ⟨r, 0, none⟩ = some v0 ∧ ((((((((W.setCell ⟨w.heap.size + 1, 0, none⟩ x0).setCell ⟨w.heap.size + 1, 1, none⟩ x1).setCell ⟨w.heap.size + 1, 2, none⟩ x2).setCell ⟨w.heap.size + 1, 3, none⟩ x3).setCell ⟨w.heap.size + 1, 4, none⟩ x4).setCell ⟨w.heap.size + 1, 5, none⟩ x5).setCell ⟨w.heap.size + 1, 6, none⟩ x6).setCell ⟨w.heap.size + 1, 7, none⟩ x7).cell? ⟨r, 1, none⟩ = some v1 ∧ ((((((((W.setCell ⟨w.heap.size + 1, 0, none⟩ x0).setCell ⟨w.heap.size + 1, 1, none⟩ x1).setCell ⟨w.heap.size + 1, 2, none⟩ x2).setCell ⟨w.heap.size + 1, 3, none⟩ x3).setCell ⟨w.heap.size + 1, 4, none⟩ x4).setCell ⟨w.heap.size + 1, 5, none⟩ x5).setCell ⟨w.heap.size + 1, 6, none⟩ x6).setCell ⟨w.heap.size + 1, 7, none⟩ x7).cell? ⟨r, 3, none⟩ = some v3 ∧ ((((((((W.setCell ⟨w.heap.size + 1, 0, none⟩ x0).setCell ⟨w.heap.size + 1, 1, none⟩ x1).setCell ⟨w.heap.size + 1, 2, none⟩ x2).setCell ⟨w.heap.size + 1, 3, none⟩ x3).setCell ⟨w.heap.size + 1, 4, none⟩ x4).setCell ⟨w.heap.size + 1, 5, none⟩ x5).setCell ⟨w.heap.size + 1, 6, none⟩ x6).setCell ⟨w.heap.size + 1, 7, none⟩ x7).cell? ⟨r, 4, none⟩ = some v4 ∧ ((((((((W.setCell ⟨w.heap.size + 1, 0, none⟩ x0).setCell ⟨w.heap.size + 1, 1, none⟩ x1).setCell ⟨w.heap.size + 1, 2, none⟩ x2).setCell ⟨w.heap.size + 1, 3, none⟩ x3).setCell ⟨w.heap.size + 1, 4, none⟩ x4).setCell ⟨w.heap.size + 1, 5, none⟩ x5).setCell ⟨w.heap.size + 1, 6, none⟩ x6).setCell ⟨w.heap.size + 1, 7, none⟩ x7).cell? ⟨r, 5, none⟩ = some v5 ∧ LdE w ((((((((W.setCell ⟨w.heap.size + 1, 0, none⟩ x0).setCell ⟨w.heap.size + 1, 1, none⟩ x1).setCell ⟨w.heap.size + 1, 2, none⟩ x2).setCell ⟨w.heap.size + 1, 3, none⟩ x3).setCell ⟨w.heap.size + 1, 4, none⟩ x4).setCell ⟨w.heap.size + 1, 5, none⟩ x5).setCell ⟨w.heap.size + 1, 6, none⟩ x6).setCell ⟨w.heap.size + 1, 7, none⟩ x7) r G H y a X := by
  have hne : r ≠ w.heap.size + 1 := by have := h.2.2.2.2.2.small; omega
  have hk := eight_kept W (w.heap.size + 1) x0 x1 x2 x3 x4 x5 x6 x7
  exact ⟨cellK hk hne h.1, cellK hk hne h.2.1, cellK hk hne h.2.2.1, cellK hk hne h.2.2.2.1, cellK hk hne h.2.2.2.2.1, ⟨_, _, _, _, _, _, _, _, h.2.2.2.2.2.eight x0 x1 x2 x3 x4 x5 x6 x7⟩⟩
end
end Go.Proofs.Ytphigibhgldnpaa
