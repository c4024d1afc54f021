/- What the document's own unit answers a question of one kind, and is behind it. Conditions: it and the question lie where the call was told; the question's data are not too long. (Written by gen/genunib.py.) What the document's own unit answers a question of one kind, and is behind it. Conditions: it and the question lie where the call was told; the question's data are not too long. (Written by gen/genunib.py.) What the document's own unit answers a question of one kind, and is behind it. Conditions: it and the question lie where the call was told; the question's data are not too long. (Written by gen/genunib.py.) Plain facts on a unit that pages are written to: they are read as they were written. A slice of bytes that was handed over. No conditions. -/
import Derived.Test.YtkicjgaejieinaaGreatG10b
import Derived.Deep.RegionHeld3
import Derived.Deep.RegionHeldLaw
set_option linter.unusedVariables false
namespace Go.Proofs.YtkicjgaejieinaaGreat
set_option linter.unusedVariables false
open Go.RowKit
set_option maxRecDepth 20000
set_option maxHeartbeats 8000000 in
theorem rdo_down (r q : Nat) (G : Nat → Prop) (w : World) (u : Us) (a : Ak) (h : RU r q G w u) (hd : u.down = true) :
    Calls Tryz.prog 58 #[ptrU r, askV a] w fun e w' => e = .returned (ansV (u.ans a) none 0) ∧ Leaves (RU r q) G w w' (u.done a) := by
  rw [show u.ans a = anP 45 0 noS 0 from if_pos hd, show u.done a = u from if_pos (.inl hd)]
  obtain ⟨k, un, ep, pg, sz, n, s, pe, L, ao, cap⟩ := a
  obtain ⟨p, ue, dn⟩ := u
  simp only at *
  subst hd
  have HS := Lib.hid (show DoW w (((w.alloc (.cells #[.int .i64 k, .int .i64 un, .int .i64 ep, .int .i64 pg, .int .i64 sz, .int .i64 n, .string s, .int .i64 pe, .slice ao L.length cap] 34)).alloc (.cells #[.int .i64 0, .int .i64 0, .string ⟨#[]⟩, .int .i64 0, .slice none 0 0, .int .i64 0, .int .i64 0, .int .i64 0] 38)).alloc (.cells #[.int .i64 0, .int .i64 0, .string ⟨#[]⟩, .int .i64 0, .slice none 0 0, .int .i64 0, .int .i64 0, .int .i64 ue] 38)) r q G ⟨p, ue, true⟩ ⟨k, un, ep, pg, sz, n, s, pe, L, ao, cap⟩ #[.int .i64 0, .int .i64 0, .string ⟨#[]⟩, .int .i64 0, .slice none 0 0, .int .i64 0, .int .i64 0, .int .i64 ue] from do_start h ⟨k, un, ep, pg, sz, n, s, pe, L, ao, cap⟩ #[.int .i64 0, .int .i64 0, .string ⟨#[]⟩, .int .i64 0, .slice none 0 0, .int .i64 0, .int .i64 0, .int .i64 ue])
  have HR := Lib.hid h
  obtain ⟨h0, h1, h2, _⟩ := h
  simp only at h1
  have hlt := lt_of_block h1
  obtain ⟨c0, c1, c2, _⟩ := three_cells h1
  clear h0 h1 h2
  show Calls _ _ #[.pointer (some ⟨r, 0, none⟩), .agg #[.int .i64 k, .int .i64 un, .int .i64 ep, .int .i64 pg, .int .i64 sz, .int .i64 n, .string s, .int .i64 pe, .slice ao L.length cap]] w _
  go_enter Tryz.func58, Tryz.ntmps58
  go_wp2_with fail
  exact ans_ret (x := anP 45 0 noS 0) (ao := none) (cap := 0) rfl (two_blocks w _ _ _ _).2 rfl rfl ⟨rfl, Leaves.same (ru_thing r q) HR.out (((Below.refl w.heap.size w).alloc (Nat.le_refl _) _).alloc (by simp) _)⟩
set_option maxHeartbeats 8000000 in
theorem rdo_low (r q : Nat) (G : Nat → Prop) (w : World) (u : Us) (a : Ak) (h : RU r q G w u) (hd : u.down = false) (hk : a.kind < 1) :
    Calls Tryz.prog 58 #[ptrU r, askV a] w fun e w' => e = .returned (ansV (u.ans a) none 0) ∧ Leaves (RU r q) G w w' (u.done a) := by
  rw [show u.ans a = anP 1 0 noS u.epoch from by unfold Us.ans; rw [if_neg (by rw [hd]; decide), if_pos (.inl hk)], show u.done a = u from if_pos (.inr (.inl (.inl hk)))]
  obtain ⟨k, un, ep, pg, sz, n, s, pe, L, ao, cap⟩ := a
  obtain ⟨p, ue, dn⟩ := u
  simp only at *
  subst hd
  have HS := Lib.hid (show DoW w (((w.alloc (.cells #[.int .i64 k, .int .i64 un, .int .i64 ep, .int .i64 pg, .int .i64 sz, .int .i64 n, .string s, .int .i64 pe, .slice ao L.length cap] 34)).alloc (.cells #[.int .i64 0, .int .i64 0, .string ⟨#[]⟩, .int .i64 0, .slice none 0 0, .int .i64 0, .int .i64 0, .int .i64 0] 38)).alloc (.cells #[.int .i64 0, .int .i64 0, .string ⟨#[]⟩, .int .i64 0, .slice none 0 0, .int .i64 0, .int .i64 0, .int .i64 ue] 38)) r q G ⟨p, ue, false⟩ ⟨k, un, ep, pg, sz, n, s, pe, L, ao, cap⟩ #[.int .i64 0, .int .i64 0, .string ⟨#[]⟩, .int .i64 0, .slice none 0 0, .int .i64 0, .int .i64 0, .int .i64 ue] from do_start h ⟨k, un, ep, pg, sz, n, s, pe, L, ao, cap⟩ #[.int .i64 0, .int .i64 0, .string ⟨#[]⟩, .int .i64 0, .slice none 0 0, .int .i64 0, .int .i64 0, .int .i64 ue])
  have HR := Lib.hid h
  obtain ⟨h0, h1, h2, _⟩ := h
  simp only at h1
  have hlt := lt_of_block h1
  obtain ⟨c0, c1, c2, _⟩ := three_cells h1
  clear h0 h1 h2
  show Calls _ _ #[.pointer (some ⟨r, 0, none⟩), .agg #[.int .i64 k, .int .i64 un, .int .i64 ep, .int .i64 pg, .int .i64 sz, .int .i64 n, .string s, .int .i64 pe, .slice ao L.length cap]] w _
  go_enter Tryz.func58, Tryz.ntmps58
  go_wp2_with fail
  exact ans_ret (x := anP 1 0 noS ue) (ao := none) (cap := 0) rfl (below_heap ((Below.refl _ _).alloc (Nat.le_refl _) _) (two_blocks w _ _ _ _).2) rfl rfl ⟨rfl, Leaves.same (ru_thing r q) HR.out ((((Below.refl w.heap.size w).alloc (Nat.le_refl _) _).alloc (by simp) _).alloc (by simp; omega) _)⟩
set_option maxHeartbeats 8000000 in
theorem rdo_high (r q : Nat) (G : Nat → Prop) (w : World) (u : Us) (a : Ak) (h : RU r q G w u) (hd : u.down = false) (hk : 5 < a.kind) :
    Calls Tryz.prog 58 #[ptrU r, askV a] w fun e w' => e = .returned (ansV (u.ans a) none 0) ∧ Leaves (RU r q) G w w' (u.done a) := by
  rw [show u.ans a = anP 1 0 noS u.epoch from by unfold Us.ans; rw [if_neg (by rw [hd]; decide), if_pos (.inr hk)], show u.done a = u from if_pos (.inr (.inl (.inr hk)))]
  obtain ⟨k, un, ep, pg, sz, n, s, pe, L, ao, cap⟩ := a
  obtain ⟨p, ue, dn⟩ := u
  simp only at *
  subst hd
  have HS := Lib.hid (show DoW w (((w.alloc (.cells #[.int .i64 k, .int .i64 un, .int .i64 ep, .int .i64 pg, .int .i64 sz, .int .i64 n, .string s, .int .i64 pe, .slice ao L.length cap] 34)).alloc (.cells #[.int .i64 0, .int .i64 0, .string ⟨#[]⟩, .int .i64 0, .slice none 0 0, .int .i64 0, .int .i64 0, .int .i64 0] 38)).alloc (.cells #[.int .i64 0, .int .i64 0, .string ⟨#[]⟩, .int .i64 0, .slice none 0 0, .int .i64 0, .int .i64 0, .int .i64 ue] 38)) r q G ⟨p, ue, false⟩ ⟨k, un, ep, pg, sz, n, s, pe, L, ao, cap⟩ #[.int .i64 0, .int .i64 0, .string ⟨#[]⟩, .int .i64 0, .slice none 0 0, .int .i64 0, .int .i64 0, .int .i64 ue] from do_start h ⟨k, un, ep, pg, sz, n, s, pe, L, ao, cap⟩ #[.int .i64 0, .int .i64 0, .string ⟨#[]⟩, .int .i64 0, .slice none 0 0, .int .i64 0, .int .i64 0, .int .i64 ue])
  have hk1 : 1 ≤ k := by omega
  have HR := Lib.hid h
  obtain ⟨h0, h1, h2, _⟩ := h
  simp only at h1
  have hlt := lt_of_block h1
  obtain ⟨c0, c1, c2, _⟩ := three_cells h1
  clear h0 h1 h2
  show Calls _ _ #[.pointer (some ⟨r, 0, none⟩), .agg #[.int .i64 k, .int .i64 un, .int .i64 ep, .int .i64 pg, .int .i64 sz, .int .i64 n, .string s, .int .i64 pe, .slice ao L.length cap]] w _
  go_enter Tryz.func58, Tryz.ntmps58
  go_wp2_with fail
  exact ans_ret (x := anP 1 0 noS ue) (ao := none) (cap := 0) rfl (below_heap ((Below.refl _ _).alloc (Nat.le_refl _) _) (two_blocks w _ _ _ _).2) rfl rfl ⟨rfl, Leaves.same (ru_thing r q) HR.out ((((Below.refl w.heap.size w).alloc (Nat.le_refl _) _).alloc (by simp) _).alloc (by simp; omega) _)⟩
set_option maxHeartbeats 8000000 in
theorem rdo_sealed (r q : Nat) (G : Nat → Prop) (w : World) (u : Us) (a : Ak) (h : RU r q G w u) (hd : u.down = false) (hk : 1 ≤ a.kind ∧ a.kind ≤ 5) (he : a.epoch < u.epoch) :
    Calls Tryz.prog 58 #[ptrU r, askV a] w fun e w' => e = .returned (ansV (u.ans a) none 0) ∧ Leaves (RU r q) G w w' (u.done a) := by
  rw [show u.ans a = anP 40 0 noS u.epoch from by unfold Us.ans; rw [if_neg (by rw [hd]; decide), if_neg (by omega), if_pos he], show u.done a = u from if_pos (.inr (.inr he))]
  obtain ⟨k, un, ep, pg, sz, n, s, pe, L, ao, cap⟩ := a
  obtain ⟨p, ue, dn⟩ := u
  simp only at *
  subst hd
  have HS := Lib.hid (show DoW w (((w.alloc (.cells #[.int .i64 k, .int .i64 un, .int .i64 ep, .int .i64 pg, .int .i64 sz, .int .i64 n, .string s, .int .i64 pe, .slice ao L.length cap] 34)).alloc (.cells #[.int .i64 0, .int .i64 0, .string ⟨#[]⟩, .int .i64 0, .slice none 0 0, .int .i64 0, .int .i64 0, .int .i64 0] 38)).alloc (.cells #[.int .i64 0, .int .i64 0, .string ⟨#[]⟩, .int .i64 0, .slice none 0 0, .int .i64 0, .int .i64 0, .int .i64 ue] 38)) r q G ⟨p, ue, false⟩ ⟨k, un, ep, pg, sz, n, s, pe, L, ao, cap⟩ #[.int .i64 0, .int .i64 0, .string ⟨#[]⟩, .int .i64 0, .slice none 0 0, .int .i64 0, .int .i64 0, .int .i64 ue] from do_start h ⟨k, un, ep, pg, sz, n, s, pe, L, ao, cap⟩ #[.int .i64 0, .int .i64 0, .string ⟨#[]⟩, .int .i64 0, .slice none 0 0, .int .i64 0, .int .i64 0, .int .i64 ue])
  obtain ⟨hk1, hk5⟩ := hk
  have HR := Lib.hid h
  obtain ⟨h0, h1, h2, _⟩ := h
  simp only at h1
  have hlt := lt_of_block h1
  obtain ⟨c0, c1, c2, _⟩ := three_cells h1
  clear h0 h1 h2
  show Calls _ _ #[.pointer (some ⟨r, 0, none⟩), .agg #[.int .i64 k, .int .i64 un, .int .i64 ep, .int .i64 pg, .int .i64 sz, .int .i64 n, .string s, .int .i64 pe, .slice ao L.length cap]] w _
  go_enter Tryz.func58, Tryz.ntmps58
  go_wp2_with fail
  generalize hW0 : ((w.alloc (.cells #[.int .i64 k, .int .i64 un, .int .i64 ep, .int .i64 pg, .int .i64 sz, .int .i64 n, .string s, .int .i64 pe, .slice ao L.length cap] 34)).alloc (.cells #[.int .i64 0, .int .i64 0, .string ⟨#[]⟩, .int .i64 0, .slice none 0 0, .int .i64 0, .int .i64 0, .int .i64 0] 38)).alloc (.cells #[.int .i64 0, .int .i64 0, .string ⟨#[]⟩, .int .i64 0, .slice none 0 0, .int .i64 0, .int .i64 0, .int .i64 ue] 38) = W0 at *
  clear c0 c1 c2 hlt hW0
  obtain ⟨l1, l2, l3, l4⟩ := HS.out.small
  have x2 : W0.cell? ⟨w.heap.size, 2, none⟩ = some (.int .i64 ep) := cell_of HS.out.ask 2
  obtain ⟨c0, c1, c2, _⟩ := three_cells HS.out.unit
  have hr := lt_of_block HS.out.unit
  have HSN := Lib.hid (fun n => HS.out.drewN n)
  clear HS
  go_quiet (fail)
  have HT := Lib.hid (HSN.out nq)
  generalize hW1 : World.drewN W0 nq = W1 at *
  clear hW1 HSN x2 c0 c1 c2 hr l1 l2 l3 l4
  obtain ⟨l1, l2, l3, l4⟩ := HT.out.small
  obtain ⟨⟨y0, y1, y2, y3, y4, y5, y6, y7⟩, fy0, fy1, fy2, fy3, fy4, fy5, fy6, fy7⟩ := eight_cells HT.out.ans
  obtain ⟨⟨z0, z1, z2, z3, z4, z5, z6, z7⟩, fz0, fz1, fz2, fz3, fz4, fz5, fz6, fz7⟩ := eight_cells HT.out.zero
  obtain ⟨c0, c1, c2, f0, f1, f2⟩ := three_cells HT.out.unit
  have x0 : W1.cell? ⟨w.heap.size, 0, none⟩ = some (.int .i64 k) := cell_of HT.out.ask 0
  have x2 : W1.cell? ⟨w.heap.size, 2, none⟩ = some (.int .i64 ep) := cell_of HT.out.ask 2
  have x3 : W1.cell? ⟨w.heap.size, 3, none⟩ = some (.int .i64 pg) := cell_of HT.out.ask 3
  have x6 : W1.cell? ⟨w.heap.size, 6, none⟩ = some (.string s) := cell_of HT.out.ask 6
  go_wp2_with fail
  exact ans_ret (x := anP 40 0 noS ue) (ao := none) (cap := 0) rfl (HT.out.put 0 (.int .i64 40)).fin.1 rfl rfl ⟨rfl, (HT.out.put 0 (.int .i64 40)).fin.2⟩
end Go.Proofs.YtkicjgaejieinaaGreat
namespace Go.Proofs.YtkicjgaejieinaaGreat
set_option linter.unusedVariables false
open Go.RowKit
set_option maxRecDepth 20000
set_option maxHeartbeats 8000000 in
theorem rdo_write (r q : Nat) (G : Nat → Prop) (w : World) (u : Us) (a : Ak) (h : RU r q G w u) (hd : u.down = false) (hk : a.kind = 1) (he : ¬ a.epoch < u.epoch) (hs : a.data.size ≤ 1000000) :
    Calls Tryz.prog 58 #[ptrU r, askV a] w fun e w' => e = .returned (ansV (u.ans a) none 0) ∧ Leaves (RU r q) G w w' (u.done a) := by
  rw [show u.ans a = anP (u.p.writeE a.page a.data) 0 noS u.epoch from by unfold Us.ans; rw [if_neg (by rw [hd]; decide), if_neg (by omega), if_neg he, if_neg (by omega), if_neg (by omega)]; unfold Us.pageE; rw [if_pos hk], show u.done a = ⟨u.p.write a.page a.data, u.epoch, u.down⟩ from by unfold Us.done; rw [if_neg (by rw [hd]; simp; omega), if_neg (by omega)]; unfold Us.pageP; rw [if_pos hk]]
  obtain ⟨k, un, ep, pg, sz, n, s, pe, L, ao, cap⟩ := a
  obtain ⟨p, ue, dn⟩ := u
  simp only at *
  subst hd
  have HS := Lib.hid (show DoW w (((w.alloc (.cells #[.int .i64 k, .int .i64 un, .int .i64 ep, .int .i64 pg, .int .i64 sz, .int .i64 n, .string s, .int .i64 pe, .slice ao L.length cap] 34)).alloc (.cells #[.int .i64 0, .int .i64 0, .string ⟨#[]⟩, .int .i64 0, .slice none 0 0, .int .i64 0, .int .i64 0, .int .i64 0] 38)).alloc (.cells #[.int .i64 0, .int .i64 0, .string ⟨#[]⟩, .int .i64 0, .slice none 0 0, .int .i64 0, .int .i64 0, .int .i64 ue] 38)) r q G ⟨p, ue, false⟩ ⟨k, un, ep, pg, sz, n, s, pe, L, ao, cap⟩ #[.int .i64 0, .int .i64 0, .string ⟨#[]⟩, .int .i64 0, .slice none 0 0, .int .i64 0, .int .i64 0, .int .i64 ue] from do_start h ⟨k, un, ep, pg, sz, n, s, pe, L, ao, cap⟩ #[.int .i64 0, .int .i64 0, .string ⟨#[]⟩, .int .i64 0, .slice none 0 0, .int .i64 0, .int .i64 0, .int .i64 ue])
  have he' : ue ≤ ep := by omega
  have hk1 : 1 ≤ k := by omega
  have hk5 : k ≤ 5 := by omega
  have d5 : (k == 5) = false := beq_eq_false_iff_ne.2 (by omega)
  have d1 : (k == 1) = true := by rw [hk]; rfl
  clear hk he
  have HR := Lib.hid h
  obtain ⟨h0, h1, h2, _⟩ := h
  simp only at h1
  have hlt := lt_of_block h1
  obtain ⟨c0, c1, c2, _⟩ := three_cells h1
  clear h0 h1 h2
  show Calls _ _ #[.pointer (some ⟨r, 0, none⟩), .agg #[.int .i64 k, .int .i64 un, .int .i64 ep, .int .i64 pg, .int .i64 sz, .int .i64 n, .string s, .int .i64 pe, .slice ao L.length cap]] w _
  go_enter Tryz.func58, Tryz.ntmps58
  go_wp2_with fail
  generalize hW0 : ((w.alloc (.cells #[.int .i64 k, .int .i64 un, .int .i64 ep, .int .i64 pg, .int .i64 sz, .int .i64 n, .string s, .int .i64 pe, .slice ao L.length cap] 34)).alloc (.cells #[.int .i64 0, .int .i64 0, .string ⟨#[]⟩, .int .i64 0, .slice none 0 0, .int .i64 0, .int .i64 0, .int .i64 0] 38)).alloc (.cells #[.int .i64 0, .int .i64 0, .string ⟨#[]⟩, .int .i64 0, .slice none 0 0, .int .i64 0, .int .i64 0, .int .i64 ue] 38) = W0 at *
  clear c0 c1 c2 hlt hW0
  obtain ⟨l1, l2, l3, l4⟩ := HS.out.small
  have x2 : W0.cell? ⟨w.heap.size, 2, none⟩ = some (.int .i64 ep) := cell_of HS.out.ask 2
  obtain ⟨c0, c1, c2, _⟩ := three_cells HS.out.unit
  have hr := lt_of_block HS.out.unit
  have HSN := Lib.hid (fun n => HS.out.drewN n)
  clear HS
  go_quiet (fail)
  have HT := Lib.hid (HSN.out nq)
  generalize hW1 : World.drewN W0 nq = W1 at *
  clear hW1 HSN x2 c0 c1 c2 hr l1 l2 l3 l4
  obtain ⟨l1, l2, l3, l4⟩ := HT.out.small
  obtain ⟨⟨y0, y1, y2, y3, y4, y5, y6, y7⟩, fy0, fy1, fy2, fy3, fy4, fy5, fy6, fy7⟩ := eight_cells HT.out.ans
  obtain ⟨⟨z0, z1, z2, z3, z4, z5, z6, z7⟩, fz0, fz1, fz2, fz3, fz4, fz5, fz6, fz7⟩ := eight_cells HT.out.zero
  obtain ⟨c0, c1, c2, f0, f1, f2⟩ := three_cells HT.out.unit
  have x0 : W1.cell? ⟨w.heap.size, 0, none⟩ = some (.int .i64 k) := cell_of HT.out.ask 0
  have x2 : W1.cell? ⟨w.heap.size, 2, none⟩ = some (.int .i64 ep) := cell_of HT.out.ask 2
  have x3 : W1.cell? ⟨w.heap.size, 3, none⟩ = some (.int .i64 pg) := cell_of HT.out.ask 3
  have x6 : W1.cell? ⟨w.heap.size, 6, none⟩ = some (.string s) := cell_of HT.out.ask 6
  go_wp2_with fail
  obtain ⟨F, hF, hok, hnx⟩ := (HT.out.drewN 1).ready
  have HNX := Lib.hid hnx
  clear hnx
  go_region_held3 (fun W => W.cell? ⟨w.heap.size, 3, none⟩ = some (.int .i64 pg) ∧ W.cell? ⟨w.heap.size, 6, none⟩ = some (.string s) ∧ W.cell? ⟨r, 0, none⟩ = some (.pointer (some ⟨q, 0, none⟩)))
    (first | exact ⟨x3, x6, c0⟩ | exact ⟨cell_of HT2.out.ask 3, cell_of HT2.out.ask 6, (three_cells HT2.out.unit).1⟩ | exact ⟨cell_of (HT2.out.put 0 _).ask 3, cell_of (HT2.out.put 0 _).ask 6, (three_cells (HT2.out.put 0 _).unit).1⟩)
    (first | (go_at_call 72; refine (rwrite_any F _ q p pg s hF hok hs).mono ?_; rintro e w2 ⟨rfl, hl⟩; have HT2 := Lib.hid (HNX.out _ _ (hok.write pg s) hl); clear hl; obtain ⟨nl1, nl2, nl3, nl4⟩ := HT2.out.small; obtain ⟨⟨ny0, ny1, ny2, ny3, ny4, ny5, ny6, ny7⟩, nfy0, nfy1, nfy2, nfy3, nfy4, nfy5, nfy6, nfy7⟩ := eight_cells HT2.out.ans; obtain ⟨⟨nz0, nz1, nz2, nz3, nz4, nz5, nz6, nz7⟩, nfz0, nfz1, nfz2, nfz3, nfz4, nfz5, nfz6, nfz7⟩ := eight_cells HT2.out.zero))
  all_goals
    go_wp2_with fail
    exact ans_ret (x := anP (p.writeE pg s) 0 noS ue) (ao := none) (cap := 0) rfl (HT2.out.put 0 (.int .i64 (p.writeE pg s))).fin.1 rfl rfl ⟨rfl, (HT2.out.put 0 (.int .i64 (p.writeE pg s))).fin.2⟩
end Go.Proofs.YtkicjgaejieinaaGreat
namespace Go.Proofs.YtkicjgaejieinaaGreat
set_option linter.unusedVariables false
open Go.RowKit
set_option maxRecDepth 20000
set_option maxHeartbeats 8000000 in
theorem rdo_trim (r q : Nat) (G : Nat → Prop) (w : World) (u : Us) (a : Ak) (h : RU r q G w u) (hd : u.down = false) (hk : a.kind = 4) (he : ¬ a.epoch < u.epoch) :
    Calls Tryz.prog 58 #[ptrU r, askV a] w fun e w' => e = .returned (ansV (u.ans a) none 0) ∧ Leaves (RU r q) G w w' (u.done a) := by
  rw [show u.ans a = anP (Ps.trimE a.page) 0 noS u.epoch from by unfold Us.ans; rw [if_neg (by rw [hd]; decide), if_neg (by omega), if_neg he, if_neg (by omega), if_neg (by omega)]; unfold Us.pageE; rw [if_neg (by omega), if_neg (by omega), if_neg (by omega)], show u.done a = ⟨u.p.trim a.page, u.epoch, u.down⟩ from by unfold Us.done; rw [if_neg (by rw [hd]; simp; omega), if_neg (by omega)]; unfold Us.pageP; rw [if_neg (by omega), if_neg (by omega), if_neg (by omega)]]
  obtain ⟨k, un, ep, pg, sz, n, s, pe, L, ao, cap⟩ := a
  obtain ⟨p, ue, dn⟩ := u
  simp only at *
  subst hd
  have HS := Lib.hid (show DoW w (((w.alloc (.cells #[.int .i64 k, .int .i64 un, .int .i64 ep, .int .i64 pg, .int .i64 sz, .int .i64 n, .string s, .int .i64 pe, .slice ao L.length cap] 34)).alloc (.cells #[.int .i64 0, .int .i64 0, .string ⟨#[]⟩, .int .i64 0, .slice none 0 0, .int .i64 0, .int .i64 0, .int .i64 0] 38)).alloc (.cells #[.int .i64 0, .int .i64 0, .string ⟨#[]⟩, .int .i64 0, .slice none 0 0, .int .i64 0, .int .i64 0, .int .i64 ue] 38)) r q G ⟨p, ue, false⟩ ⟨k, un, ep, pg, sz, n, s, pe, L, ao, cap⟩ #[.int .i64 0, .int .i64 0, .string ⟨#[]⟩, .int .i64 0, .slice none 0 0, .int .i64 0, .int .i64 0, .int .i64 ue] from do_start h ⟨k, un, ep, pg, sz, n, s, pe, L, ao, cap⟩ #[.int .i64 0, .int .i64 0, .string ⟨#[]⟩, .int .i64 0, .slice none 0 0, .int .i64 0, .int .i64 0, .int .i64 ue])
  have he' : ue ≤ ep := by omega
  have hk1 : 1 ≤ k := by omega
  have hk5 : k ≤ 5 := by omega
  have d5 : (k == 5) = false := beq_eq_false_iff_ne.2 (by omega)
  have d1 : (k == 1) = false := beq_eq_false_iff_ne.2 (by omega)
  have d2 : (k == 2) = false := beq_eq_false_iff_ne.2 (by omega)
  have d3 : (k == 3) = false := beq_eq_false_iff_ne.2 (by omega)
  have d4 : (k == 4) = true := by rw [hk]; rfl
  clear hk he
  have HR := Lib.hid h
  obtain ⟨h0, h1, h2, _⟩ := h
  simp only at h1
  have hlt := lt_of_block h1
  obtain ⟨c0, c1, c2, _⟩ := three_cells h1
  clear h0 h1 h2
  show Calls _ _ #[.pointer (some ⟨r, 0, none⟩), .agg #[.int .i64 k, .int .i64 un, .int .i64 ep, .int .i64 pg, .int .i64 sz, .int .i64 n, .string s, .int .i64 pe, .slice ao L.length cap]] w _
  go_enter Tryz.func58, Tryz.ntmps58
  go_wp2_with fail
  generalize hW0 : ((w.alloc (.cells #[.int .i64 k, .int .i64 un, .int .i64 ep, .int .i64 pg, .int .i64 sz, .int .i64 n, .string s, .int .i64 pe, .slice ao L.length cap] 34)).alloc (.cells #[.int .i64 0, .int .i64 0, .string ⟨#[]⟩, .int .i64 0, .slice none 0 0, .int .i64 0, .int .i64 0, .int .i64 0] 38)).alloc (.cells #[.int .i64 0, .int .i64 0, .string ⟨#[]⟩, .int .i64 0, .slice none 0 0, .int .i64 0, .int .i64 0, .int .i64 ue] 38) = W0 at *
  clear c0 c1 c2 hlt hW0
  obtain ⟨l1, l2, l3, l4⟩ := HS.out.small
  have x2 : W0.cell? ⟨w.heap.size, 2, none⟩ = some (.int .i64 ep) := cell_of HS.out.ask 2
  obtain ⟨c0, c1, c2, _⟩ := three_cells HS.out.unit
  have hr := lt_of_block HS.out.unit
  have HSN := Lib.hid (fun n => HS.out.drewN n)
  clear HS
  go_quiet (fail)
  have HT := Lib.hid (HSN.out nq)
  generalize hW1 : World.drewN W0 nq = W1 at *
  clear hW1 HSN x2 c0 c1 c2 hr l1 l2 l3 l4
  obtain ⟨l1, l2, l3, l4⟩ := HT.out.small
  obtain ⟨⟨y0, y1, y2, y3, y4, y5, y6, y7⟩, fy0, fy1, fy2, fy3, fy4, fy5, fy6, fy7⟩ := eight_cells HT.out.ans
  obtain ⟨⟨z0, z1, z2, z3, z4, z5, z6, z7⟩, fz0, fz1, fz2, fz3, fz4, fz5, fz6, fz7⟩ := eight_cells HT.out.zero
  obtain ⟨c0, c1, c2, f0, f1, f2⟩ := three_cells HT.out.unit
  have x0 : W1.cell? ⟨w.heap.size, 0, none⟩ = some (.int .i64 k) := cell_of HT.out.ask 0
  have x2 : W1.cell? ⟨w.heap.size, 2, none⟩ = some (.int .i64 ep) := cell_of HT.out.ask 2
  have x3 : W1.cell? ⟨w.heap.size, 3, none⟩ = some (.int .i64 pg) := cell_of HT.out.ask 3
  have x6 : W1.cell? ⟨w.heap.size, 6, none⟩ = some (.string s) := cell_of HT.out.ask 6
  go_wp2_with fail
  obtain ⟨F, hF, hok, hnx⟩ := (HT.out.drewN 1).ready
  have HNX := Lib.hid hnx
  clear hnx
  go_region_held3 (fun W => W.cell? ⟨w.heap.size, 3, none⟩ = some (.int .i64 pg) ∧ W.cell? ⟨w.heap.size, 6, none⟩ = some (.string s) ∧ W.cell? ⟨r, 0, none⟩ = some (.pointer (some ⟨q, 0, none⟩)))
    (first | exact ⟨x3, x6, c0⟩ | exact ⟨cell_of HT2.out.ask 3, cell_of HT2.out.ask 6, (three_cells HT2.out.unit).1⟩ | exact ⟨cell_of (HT2.out.put 0 _).ask 3, cell_of (HT2.out.put 0 _).ask 6, (three_cells (HT2.out.put 0 _).unit).1⟩)
    (first | (go_at_call 75; refine (rtrim_any F _ q p pg hF hok).mono ?_; rintro e w2 ⟨rfl, hl⟩; have HT2 := Lib.hid (HNX.out _ _ (hok.trim pg) hl); clear hl; obtain ⟨nl1, nl2, nl3, nl4⟩ := HT2.out.small; obtain ⟨⟨ny0, ny1, ny2, ny3, ny4, ny5, ny6, ny7⟩, nfy0, nfy1, nfy2, nfy3, nfy4, nfy5, nfy6, nfy7⟩ := eight_cells HT2.out.ans; obtain ⟨⟨nz0, nz1, nz2, nz3, nz4, nz5, nz6, nz7⟩, nfz0, nfz1, nfz2, nfz3, nfz4, nfz5, nfz6, nfz7⟩ := eight_cells HT2.out.zero))
  all_goals
    go_wp2_with fail
    exact ans_ret (x := anP (Ps.trimE pg) 0 noS ue) (ao := none) (cap := 0) rfl (HT2.out.put 0 (.int .i64 (Ps.trimE pg))).fin.1 rfl rfl ⟨rfl, (HT2.out.put 0 (.int .i64 (Ps.trimE pg))).fin.2⟩
end Go.Proofs.YtkicjgaejieinaaGreat
namespace Go.Proofs.YtkicjgaejieinaaGreat
set_option linter.unusedVariables false
open Go.ChangeShapes Go.WideShapes Go.ChangeAt Go.RowKit
def byteC (x : Int) : List Value := [.int .u8 x]
def byteOk (_ : World) (x : Int) : Prop := 0 ≤ x ∧ x < 256
section
variable {H : Type} {enc : TypeId × Value → H} {P : Program} {w : World} {base : Nat} {spare : Nat → Bool} {held : Bool}
theorem byte_cs {n : Nat} {cs : List Value} {y : DataW H × List MemPlace} {e : TypeId} (he : P.underlying e = some (.int .u8)) (hl : cs.length = 1) (hf : DataW.trod enc P w base spare held n e cs = some y) : ∃ x, cs = byteC x ∧ byteOk w x := by
  obtain ⟨x, e0, _, wf⟩ := DataW.trod_int he hf
  refine ⟨x, e0, ?_⟩
  have h := wf
  simp [Lit.wf] at h
  have e1 : IntKind.u8.min = 0 := by decide
  have e2 : IntKind.u8.max = 255 := by decide
  unfold byteOk
  omega
end
/-- some pages were written with the text s, k of them at most; they are all there is -/
structure Wrote (u : Us) (s : ByteArray) (V : List Int) (k : Nat) : Prop where
  ok : u.p.Ok
  room : u.p.room = 300
  edge : u.p.edge = 0
  ep : u.epoch = 0
  few : u.p.l.length ≤ k
  all : ∀ x ∈ u.p.l, x.kind = 1 ∧ x.s = s
  there : ∀ v ∈ V, (0 ≤ v ∧ v < 256) ∧ ∃ x ∈ u.p.l, x.at_ = v
theorem Wrote.start (s : ByteArray) : Wrote (newU 300) s [] 0 := ⟨newP_ok (by decide), rfl, rfl, rfl, Nat.le_refl _, (fun x hx => by cases hx), fun v hv => by cases hv⟩
theorem Wrote.find {u : Us} {s : ByteArray} {V : List Int} {k : Nat} (h : Wrote u s V k) {v : Int} (hv : v ∈ V) : ∃ x, findP u.p.l v = some x ∧ x.kind = 1 ∧ x.s = s := by
  obtain ⟨_, x, hx, e⟩ := h.there v hv
  cases hf : findP u.p.l v with
  | none => exact absurd e (findP_none.1 hf x hx)
  | some y =>
    obtain ⟨h1, _⟩ := findP_some hf
    exact ⟨y, rfl, h.all y h1⟩
theorem Wrote.read {u : Us} {s : ByteArray} {V : List Int} {k : Nat} (h : Wrote u s V k) (hd : u.down = false) {v : Int} (hv : v ∈ V) : (u.ans (akP 3 0 v ⟨#[]⟩)).code = 0 ∧ (u.ans (akP 3 0 v ⟨#[]⟩)).data = s ∧ u.done (akP 3 0 v ⟨#[]⟩) = u := by
  obtain ⟨x, hx, hk, hs⟩ := h.find hv
  obtain ⟨hr, _⟩ := h.there v hv
  have hth : thereB v = true := thereB_iff.2 (by omega)
  have hkd : u.p.kind v = 1 := by
    unfold Ps.kind
    rw [if_pos hth, if_neg (by rw [h.edge]; omega), hx]
    exact hk
  have hE : u.p.readE v = 0 := by
    unfold Ps.readE
    rw [hth, hkd]
    rfl
  have hT : u.p.readS v = s := by
    unfold Ps.readS Ps.text
    rw [if_pos hE, hx]
    exact hs
  have ha : u.ans (akP 3 0 v ⟨#[]⟩) = anP 0 0 s u.epoch := by
    unfold Us.ans
    rw [if_neg (by rw [hd]; decide), if_neg (by show ¬ ((3 : Int) < 1 ∨ (5 : Int) < 3); omega), if_neg (by show ¬ (0 : Int) < u.epoch; rw [h.ep]; omega), if_neg (by show ¬ (3 : Int) = 5; omega), if_pos (by show (3 : Int) = 3; rfl)]
    show anP (u.p.readE v) 0 (u.p.readS v) u.epoch = _
    rw [hE, hT]
  refine ⟨by rw [ha]; rfl, by rw [ha]; rfl, ?_⟩
  unfold Us.done
  rw [if_neg (by show ¬ (u.down = true ∨ ((3 : Int) < 1 ∨ (5 : Int) < 3) ∨ (0 : Int) < u.epoch); rw [hd, h.ep]; simp), if_neg (by show ¬ (3 : Int) = 5; omega)]
  rfl
theorem Wrote.crashed {u : Us} {v : Int} (hd : u.down = true) : (u.ans (akP 3 0 v ⟨#[]⟩)).code = 45 ∧ (u.ans (akP 3 0 v ⟨#[]⟩)).data = ⟨#[]⟩ ∧ u.done (akP 3 0 v ⟨#[]⟩) = u := by
  have ha : u.ans (akP 3 0 v ⟨#[]⟩) = anP 45 0 noS 0 := if_pos hd
  exact ⟨by rw [ha]; rfl, by rw [ha]; rfl, if_pos (.inl hd)⟩
theorem Wrote.turn {u : Us} {s : ByteArray} {V : List Int} {k : Nat} (h : Wrote u s V k) (d : Bool) : Wrote ⟨u.p, u.epoch, d⟩ s V k := ⟨h.ok, h.room, h.edge, h.ep, h.few, h.all, h.there⟩
theorem Wrote.write {u : Us} {s : ByteArray} {V : List Int} {k : Nat} (h : Wrote u s V k) (hd : u.down = false) {v : Int} (hv : 0 ≤ v ∧ v < 256) (hs : s.size ≤ 2000) (hk : k ≤ 200) :
    Wrote (u.done (akP 1 0 v s)) s (V ++ [v]) (k + 1) ∧ (u.done (akP 1 0 v s)).down = false := by
  have hdn : u.done (akP 1 0 v s) = ⟨u.p.write v s, u.epoch, u.down⟩ := by
    unfold Us.done
    rw [if_neg (by show ¬ (u.down = true ∨ ((1 : Int) < 1 ∨ (5 : Int) < 1) ∨ (0 : Int) < u.epoch); rw [hd, h.ep]; simp), if_neg (by show ¬ (1 : Int) = 5; omega)]
    rfl
  rw [hdn]
  refine ⟨?_, hd⟩
  have hth : thereB v = true := thereB_iff.2 (by omega)
  cases hf : findP u.p.l v with
  | some x =>
    obtain ⟨h1, h2⟩ := findP_some hf
    have hkd : u.p.kind v = 1 := by
      unfold Ps.kind
      rw [if_pos hth, if_neg (by rw [h.edge]; omega), hf]
      exact (h.all x h1).1
    have hw : u.p.write v s = u.p := by
      unfold Ps.write
      rw [if_neg]
      intro e
      have := (writeE_zero e).2.2.1
      omega
    rw [hw]
    refine ⟨h.ok, h.room, h.edge, h.ep, Nat.le_succ_of_le h.few, h.all, fun y hy => ?_⟩
    rcases List.mem_append.1 hy with hy | hy
    · exact h.there y hy
    · rw [List.mem_singleton.1 hy]; exact ⟨hv, x, h1, h2⟩
  | none =>
    have hkd : u.p.kind v = 0 := by
      unfold Ps.kind
      rw [if_pos hth, if_neg (by rw [h.edge]; omega), hf]
    have hE : u.p.writeE v s = 0 := by
      unfold Ps.writeE
      rw [hth, hkd, if_neg (by decide), if_neg (by omega), if_neg (by decide), if_neg (by decide), if_neg (by rw [h.room]; have := h.few; omega)]
    have hw : u.p.write v s = u.p.add ⟨v, 1, s⟩ := if_pos hE
    have hok := h.ok.write v s
    rw [hw] at hok ⊢
    refine ⟨hok, h.room, h.edge, h.ep, ?_, fun x hx => ?_, fun y hy => ?_⟩
    · show (u.p.l ++ [_]).length ≤ k + 1
      rw [List.length_append]
      have := h.few
      simp
      omega
    · rcases List.mem_append.1 hx with hx | hx
      · exact h.all x hx
      · rw [List.mem_singleton.1 hx]; exact ⟨rfl, rfl⟩
    · rcases List.mem_append.1 hy with hy | hy
      · obtain ⟨h1, x, h2, h3⟩ := h.there y hy
        exact ⟨h1, x, List.mem_append_left _ h2, h3⟩
      · rw [List.mem_singleton.1 hy]
        exact ⟨hv, ⟨v, 1, s⟩, List.mem_append_right _ (List.mem_singleton.2 rfl), rfl⟩
theorem byte_at {w : World} {ao : Option Addr} {l : List Int} (h : Row w ao 1 byteC l) {i : Nat} (hi : i < l.length) : ∃ bk off, ao = some ⟨bk, off, none⟩ ∧ w.cell? ⟨bk, off + i, none⟩ = some (.int .u8 l[i]) := by
  obtain ⟨bk, off, h1, h2⟩ := h i hi
  have := h2 0 _ rfl
  simp at this
  exact ⟨bk, off, h1, this⟩
end Go.Proofs.YtkicjgaejieinaaGreat
