/- What the document's own unit answers a question of one kind, and is behind it. Conditions: it and the question lie where the call was told; the question's data are not too long. (Written by gen/genunib.py.) What the document's own unit answers a question of one kind, and is behind it. Conditions: it and the question lie where the call was told; the question's data are not too long. (Written by gen/genunib.py.) What the statements' own fair tells of a list of questions. Conditions: the list is one that was handed over. -/
import Derived.Test.YtphigibhgldnpaaGreatG10b
import Derived.Deep.RegionHeld3
import Derived.Deep.RegionHeldLaw
set_option linter.unusedVariables false
namespace Go.Proofs.YtphigibhgldnpaaGreat
set_option linter.unusedVariables false
open Go.RowKit
set_option maxRecDepth 20000
set_option maxHeartbeats 8000000 in
theorem rdo_down (r q : Nat) (G : Nat → Prop) (w : World) (u : Us) (a : Ak) (h : RU r q G w u) (hd : u.down = true) :
    Calls Tryz.prog 31 #[ptrU r, askV a] w fun e w' => e = .returned (ansV (u.ans a) none 0) ∧ Leaves (RU r q) G w w' (u.done a) := by
  rw [show u.ans a = anP 45 0 noS 0 from if_pos hd, show u.done a = u from if_pos (.inl hd)]
  obtain ⟨k, un, ep, pg, sz, n, s, pe, L, ao, cap⟩ := a
  obtain ⟨p, ue, dn⟩ := u
  simp only at *
  subst hd
  have HS := Lib.hid (show DoW w (((w.alloc (.cells #[.int .i64 k, .int .i64 un, .int .i64 ep, .int .i64 pg, .int .i64 sz, .int .i64 n, .string s, .int .i64 pe, .slice ao L.length cap] 42)).alloc (.cells #[.int .i64 0, .int .i64 0, .string ⟨#[]⟩, .int .i64 0, .slice none 0 0, .int .i64 0, .int .i64 0, .int .i64 0] 39)).alloc (.cells #[.int .i64 0, .int .i64 0, .string ⟨#[]⟩, .int .i64 0, .slice none 0 0, .int .i64 0, .int .i64 0, .int .i64 ue] 39)) r q G ⟨p, ue, true⟩ ⟨k, un, ep, pg, sz, n, s, pe, L, ao, cap⟩ #[.int .i64 0, .int .i64 0, .string ⟨#[]⟩, .int .i64 0, .slice none 0 0, .int .i64 0, .int .i64 0, .int .i64 ue] from do_start h ⟨k, un, ep, pg, sz, n, s, pe, L, ao, cap⟩ #[.int .i64 0, .int .i64 0, .string ⟨#[]⟩, .int .i64 0, .slice none 0 0, .int .i64 0, .int .i64 0, .int .i64 ue])
  have HR := Lib.hid h
  obtain ⟨h0, h1, h2, _⟩ := h
  simp only at h1
  have hlt := lt_of_block h1
  obtain ⟨c0, c1, c2, _⟩ := three_cells h1
  clear h0 h1 h2
  show Calls _ _ #[.pointer (some ⟨r, 0, none⟩), .agg #[.int .i64 k, .int .i64 un, .int .i64 ep, .int .i64 pg, .int .i64 sz, .int .i64 n, .string s, .int .i64 pe, .slice ao L.length cap]] w _
  go_enter Tryz.func31, Tryz.ntmps31
  go_wp2_with fail
  exact ans_ret (x := anP 45 0 noS 0) (ao := none) (cap := 0) rfl (two_blocks w _ _ _ _).2 rfl rfl ⟨rfl, Leaves.same (ru_thing r q) HR.out (((Below.refl w.heap.size w).alloc (Nat.le_refl _) _).alloc (by simp) _)⟩
set_option maxHeartbeats 8000000 in
theorem rdo_low (r q : Nat) (G : Nat → Prop) (w : World) (u : Us) (a : Ak) (h : RU r q G w u) (hd : u.down = false) (hk : a.kind < 1) :
    Calls Tryz.prog 31 #[ptrU r, askV a] w fun e w' => e = .returned (ansV (u.ans a) none 0) ∧ Leaves (RU r q) G w w' (u.done a) := by
  rw [show u.ans a = anP 1 0 noS u.epoch from by unfold Us.ans; rw [if_neg (by rw [hd]; decide), if_pos (.inl hk)], show u.done a = u from if_pos (.inr (.inl (.inl hk)))]
  obtain ⟨k, un, ep, pg, sz, n, s, pe, L, ao, cap⟩ := a
  obtain ⟨p, ue, dn⟩ := u
  simp only at *
  subst hd
  have HS := Lib.hid (show DoW w (((w.alloc (.cells #[.int .i64 k, .int .i64 un, .int .i64 ep, .int .i64 pg, .int .i64 sz, .int .i64 n, .string s, .int .i64 pe, .slice ao L.length cap] 42)).alloc (.cells #[.int .i64 0, .int .i64 0, .string ⟨#[]⟩, .int .i64 0, .slice none 0 0, .int .i64 0, .int .i64 0, .int .i64 0] 39)).alloc (.cells #[.int .i64 0, .int .i64 0, .string ⟨#[]⟩, .int .i64 0, .slice none 0 0, .int .i64 0, .int .i64 0, .int .i64 ue] 39)) r q G ⟨p, ue, false⟩ ⟨k, un, ep, pg, sz, n, s, pe, L, ao, cap⟩ #[.int .i64 0, .int .i64 0, .string ⟨#[]⟩, .int .i64 0, .slice none 0 0, .int .i64 0, .int .i64 0, .int .i64 ue] from do_start h ⟨k, un, ep, pg, sz, n, s, pe, L, ao, cap⟩ #[.int .i64 0, .int .i64 0, .string ⟨#[]⟩, .int .i64 0, .slice none 0 0, .int .i64 0, .int .i64 0, .int .i64 ue])
  have HR := Lib.hid h
  obtain ⟨h0, h1, h2, _⟩ := h
  simp only at h1
  have hlt := lt_of_block h1
  obtain ⟨c0, c1, c2, _⟩ := three_cells h1
  clear h0 h1 h2
  show Calls _ _ #[.pointer (some ⟨r, 0, none⟩), .agg #[.int .i64 k, .int .i64 un, .int .i64 ep, .int .i64 pg, .int .i64 sz, .int .i64 n, .string s, .int .i64 pe, .slice ao L.length cap]] w _
  go_enter Tryz.func31, Tryz.ntmps31
  go_wp2_with fail
  exact ans_ret (x := anP 1 0 noS ue) (ao := none) (cap := 0) rfl (below_heap ((Below.refl _ _).alloc (Nat.le_refl _) _) (two_blocks w _ _ _ _).2) rfl rfl ⟨rfl, Leaves.same (ru_thing r q) HR.out ((((Below.refl w.heap.size w).alloc (Nat.le_refl _) _).alloc (by simp) _).alloc (by simp; omega) _)⟩
set_option maxHeartbeats 8000000 in
theorem rdo_high (r q : Nat) (G : Nat → Prop) (w : World) (u : Us) (a : Ak) (h : RU r q G w u) (hd : u.down = false) (hk : 5 < a.kind) :
    Calls Tryz.prog 31 #[ptrU r, askV a] w fun e w' => e = .returned (ansV (u.ans a) none 0) ∧ Leaves (RU r q) G w w' (u.done a) := by
  rw [show u.ans a = anP 1 0 noS u.epoch from by unfold Us.ans; rw [if_neg (by rw [hd]; decide), if_pos (.inr hk)], show u.done a = u from if_pos (.inr (.inl (.inr hk)))]
  obtain ⟨k, un, ep, pg, sz, n, s, pe, L, ao, cap⟩ := a
  obtain ⟨p, ue, dn⟩ := u
  simp only at *
  subst hd
  have HS := Lib.hid (show DoW w (((w.alloc (.cells #[.int .i64 k, .int .i64 un, .int .i64 ep, .int .i64 pg, .int .i64 sz, .int .i64 n, .string s, .int .i64 pe, .slice ao L.length cap] 42)).alloc (.cells #[.int .i64 0, .int .i64 0, .string ⟨#[]⟩, .int .i64 0, .slice none 0 0, .int .i64 0, .int .i64 0, .int .i64 0] 39)).alloc (.cells #[.int .i64 0, .int .i64 0, .string ⟨#[]⟩, .int .i64 0, .slice none 0 0, .int .i64 0, .int .i64 0, .int .i64 ue] 39)) r q G ⟨p, ue, false⟩ ⟨k, un, ep, pg, sz, n, s, pe, L, ao, cap⟩ #[.int .i64 0, .int .i64 0, .string ⟨#[]⟩, .int .i64 0, .slice none 0 0, .int .i64 0, .int .i64 0, .int .i64 ue] from do_start h ⟨k, un, ep, pg, sz, n, s, pe, L, ao, cap⟩ #[.int .i64 0, .int .i64 0, .string ⟨#[]⟩, .int .i64 0, .slice none 0 0, .int .i64 0, .int .i64 0, .int .i64 ue])
  have hk1 : 1 ≤ k := by omega
  have HR := Lib.hid h
  obtain ⟨h0, h1, h2, _⟩ := h
  simp only at h1
  have hlt := lt_of_block h1
  obtain ⟨c0, c1, c2, _⟩ := three_cells h1
  clear h0 h1 h2
  show Calls _ _ #[.pointer (some ⟨r, 0, none⟩), .agg #[.int .i64 k, .int .i64 un, .int .i64 ep, .int .i64 pg, .int .i64 sz, .int .i64 n, .string s, .int .i64 pe, .slice ao L.length cap]] w _
  go_enter Tryz.func31, Tryz.ntmps31
  go_wp2_with fail
  exact ans_ret (x := anP 1 0 noS ue) (ao := none) (cap := 0) rfl (below_heap ((Below.refl _ _).alloc (Nat.le_refl _) _) (two_blocks w _ _ _ _).2) rfl rfl ⟨rfl, Leaves.same (ru_thing r q) HR.out ((((Below.refl w.heap.size w).alloc (Nat.le_refl _) _).alloc (by simp) _).alloc (by simp; omega) _)⟩
set_option maxHeartbeats 8000000 in
theorem rdo_sealed (r q : Nat) (G : Nat → Prop) (w : World) (u : Us) (a : Ak) (h : RU r q G w u) (hd : u.down = false) (hk : 1 ≤ a.kind ∧ a.kind ≤ 5) (he : a.epoch < u.epoch) :
    Calls Tryz.prog 31 #[ptrU r, askV a] w fun e w' => e = .returned (ansV (u.ans a) none 0) ∧ Leaves (RU r q) G w w' (u.done a) := by
  rw [show u.ans a = anP 40 0 noS u.epoch from by unfold Us.ans; rw [if_neg (by rw [hd]; decide), if_neg (by omega), if_pos he], show u.done a = u from if_pos (.inr (.inr he))]
  obtain ⟨k, un, ep, pg, sz, n, s, pe, L, ao, cap⟩ := a
  obtain ⟨p, ue, dn⟩ := u
  simp only at *
  subst hd
  have HS := Lib.hid (show DoW w (((w.alloc (.cells #[.int .i64 k, .int .i64 un, .int .i64 ep, .int .i64 pg, .int .i64 sz, .int .i64 n, .string s, .int .i64 pe, .slice ao L.length cap] 42)).alloc (.cells #[.int .i64 0, .int .i64 0, .string ⟨#[]⟩, .int .i64 0, .slice none 0 0, .int .i64 0, .int .i64 0, .int .i64 0] 39)).alloc (.cells #[.int .i64 0, .int .i64 0, .string ⟨#[]⟩, .int .i64 0, .slice none 0 0, .int .i64 0, .int .i64 0, .int .i64 ue] 39)) r q G ⟨p, ue, false⟩ ⟨k, un, ep, pg, sz, n, s, pe, L, ao, cap⟩ #[.int .i64 0, .int .i64 0, .string ⟨#[]⟩, .int .i64 0, .slice none 0 0, .int .i64 0, .int .i64 0, .int .i64 ue] from do_start h ⟨k, un, ep, pg, sz, n, s, pe, L, ao, cap⟩ #[.int .i64 0, .int .i64 0, .string ⟨#[]⟩, .int .i64 0, .slice none 0 0, .int .i64 0, .int .i64 0, .int .i64 ue])
  obtain ⟨hk1, hk5⟩ := hk
  have HR := Lib.hid h
  obtain ⟨h0, h1, h2, _⟩ := h
  simp only at h1
  have hlt := lt_of_block h1
  obtain ⟨c0, c1, c2, _⟩ := three_cells h1
  clear h0 h1 h2
  show Calls _ _ #[.pointer (some ⟨r, 0, none⟩), .agg #[.int .i64 k, .int .i64 un, .int .i64 ep, .int .i64 pg, .int .i64 sz, .int .i64 n, .string s, .int .i64 pe, .slice ao L.length cap]] w _
  go_enter Tryz.func31, Tryz.ntmps31
  go_wp2_with fail
  generalize hW0 : ((w.alloc (.cells #[.int .i64 k, .int .i64 un, .int .i64 ep, .int .i64 pg, .int .i64 sz, .int .i64 n, .string s, .int .i64 pe, .slice ao L.length cap] 42)).alloc (.cells #[.int .i64 0, .int .i64 0, .string ⟨#[]⟩, .int .i64 0, .slice none 0 0, .int .i64 0, .int .i64 0, .int .i64 0] 39)).alloc (.cells #[.int .i64 0, .int .i64 0, .string ⟨#[]⟩, .int .i64 0, .slice none 0 0, .int .i64 0, .int .i64 0, .int .i64 ue] 39) = W0 at *
  clear c0 c1 c2 hlt hW0
  obtain ⟨l1, l2, l3, l4⟩ := HS.out.small
  have x2 : W0.cell? ⟨w.heap.size, 2, none⟩ = some (.int .i64 ep) := cell_of HS.out.ask 2
  obtain ⟨c0, c1, c2, _⟩ := three_cells HS.out.unit
  have hr := lt_of_block HS.out.unit
  have HSN := Lib.hid (fun n => HS.out.drewN n)
  clear HS
  go_quiet (fail)
  have HT := Lib.hid (HSN.out nq)
  generalize hW1 : World.drewN W0 nq = W1 at *
  clear hW1 HSN x2 c0 c1 c2 hr l1 l2 l3 l4
  obtain ⟨l1, l2, l3, l4⟩ := HT.out.small
  obtain ⟨⟨y0, y1, y2, y3, y4, y5, y6, y7⟩, fy0, fy1, fy2, fy3, fy4, fy5, fy6, fy7⟩ := eight_cells HT.out.ans
  obtain ⟨⟨z0, z1, z2, z3, z4, z5, z6, z7⟩, fz0, fz1, fz2, fz3, fz4, fz5, fz6, fz7⟩ := eight_cells HT.out.zero
  obtain ⟨c0, c1, c2, f0, f1, f2⟩ := three_cells HT.out.unit
  have x0 : W1.cell? ⟨w.heap.size, 0, none⟩ = some (.int .i64 k) := cell_of HT.out.ask 0
  have x2 : W1.cell? ⟨w.heap.size, 2, none⟩ = some (.int .i64 ep) := cell_of HT.out.ask 2
  have x3 : W1.cell? ⟨w.heap.size, 3, none⟩ = some (.int .i64 pg) := cell_of HT.out.ask 3
  have x6 : W1.cell? ⟨w.heap.size, 6, none⟩ = some (.string s) := cell_of HT.out.ask 6
  go_wp2_with fail
  exact ans_ret (x := anP 40 0 noS ue) (ao := none) (cap := 0) rfl (HT.out.put 0 (.int .i64 40)).fin.1 rfl rfl ⟨rfl, (HT.out.put 0 (.int .i64 40)).fin.2⟩
end Go.Proofs.YtphigibhgldnpaaGreat
namespace Go.Proofs.YtphigibhgldnpaaGreat
set_option linter.unusedVariables false
open Go.RowKit
set_option maxRecDepth 20000
set_option maxHeartbeats 8000000 in
theorem rdo_read (r q : Nat) (G : Nat → Prop) (w : World) (u : Us) (a : Ak) (h : RU r q G w u) (hd : u.down = false) (hk : a.kind = 3) (he : ¬ a.epoch < u.epoch) :
    Calls Tryz.prog 31 #[ptrU r, askV a] w fun e w' => e = .returned (ansV (u.ans a) none 0) ∧ Leaves (RU r q) G w w' (u.done a) := by
  rw [show u.ans a = anP (u.p.readE a.page) 0 (u.p.readS a.page) u.epoch from by unfold Us.ans; rw [if_neg (by rw [hd]; decide), if_neg (by omega), if_neg he, if_neg (by omega), if_pos hk]; unfold Us.pageE; rw [if_neg (by omega), if_neg (by omega), if_pos hk], show u.done a = ⟨u.p, u.epoch, u.down⟩ from by unfold Us.done; rw [if_neg (by rw [hd]; simp; omega), if_neg (by omega)]; unfold Us.pageP; rw [if_neg (by omega), if_neg (by omega), if_pos hk]]
  obtain ⟨k, un, ep, pg, sz, n, s, pe, L, ao, cap⟩ := a
  obtain ⟨p, ue, dn⟩ := u
  simp only at *
  subst hd
  have HS := Lib.hid (show DoW w (((w.alloc (.cells #[.int .i64 k, .int .i64 un, .int .i64 ep, .int .i64 pg, .int .i64 sz, .int .i64 n, .string s, .int .i64 pe, .slice ao L.length cap] 42)).alloc (.cells #[.int .i64 0, .int .i64 0, .string ⟨#[]⟩, .int .i64 0, .slice none 0 0, .int .i64 0, .int .i64 0, .int .i64 0] 39)).alloc (.cells #[.int .i64 0, .int .i64 0, .string ⟨#[]⟩, .int .i64 0, .slice none 0 0, .int .i64 0, .int .i64 0, .int .i64 ue] 39)) r q G ⟨p, ue, false⟩ ⟨k, un, ep, pg, sz, n, s, pe, L, ao, cap⟩ #[.int .i64 0, .int .i64 0, .string ⟨#[]⟩, .int .i64 0, .slice none 0 0, .int .i64 0, .int .i64 0, .int .i64 ue] from do_start h ⟨k, un, ep, pg, sz, n, s, pe, L, ao, cap⟩ #[.int .i64 0, .int .i64 0, .string ⟨#[]⟩, .int .i64 0, .slice none 0 0, .int .i64 0, .int .i64 0, .int .i64 ue])
  have he' : ue ≤ ep := by omega
  have hk1 : 1 ≤ k := by omega
  have hk5 : k ≤ 5 := by omega
  have d5 : (k == 5) = false := beq_eq_false_iff_ne.2 (by omega)
  have d1 : (k == 1) = false := beq_eq_false_iff_ne.2 (by omega)
  have d2 : (k == 2) = false := beq_eq_false_iff_ne.2 (by omega)
  have d3 : (k == 3) = true := by rw [hk]; rfl
  clear hk he
  have HR := Lib.hid h
  obtain ⟨h0, h1, h2, _⟩ := h
  simp only at h1
  have hlt := lt_of_block h1
  obtain ⟨c0, c1, c2, _⟩ := three_cells h1
  clear h0 h1 h2
  show Calls _ _ #[.pointer (some ⟨r, 0, none⟩), .agg #[.int .i64 k, .int .i64 un, .int .i64 ep, .int .i64 pg, .int .i64 sz, .int .i64 n, .string s, .int .i64 pe, .slice ao L.length cap]] w _
  go_enter Tryz.func31, Tryz.ntmps31
  go_wp2_with fail
  generalize hW0 : ((w.alloc (.cells #[.int .i64 k, .int .i64 un, .int .i64 ep, .int .i64 pg, .int .i64 sz, .int .i64 n, .string s, .int .i64 pe, .slice ao L.length cap] 42)).alloc (.cells #[.int .i64 0, .int .i64 0, .string ⟨#[]⟩, .int .i64 0, .slice none 0 0, .int .i64 0, .int .i64 0, .int .i64 0] 39)).alloc (.cells #[.int .i64 0, .int .i64 0, .string ⟨#[]⟩, .int .i64 0, .slice none 0 0, .int .i64 0, .int .i64 0, .int .i64 ue] 39) = W0 at *
  clear c0 c1 c2 hlt hW0
  obtain ⟨l1, l2, l3, l4⟩ := HS.out.small
  have x2 : W0.cell? ⟨w.heap.size, 2, none⟩ = some (.int .i64 ep) := cell_of HS.out.ask 2
  obtain ⟨c0, c1, c2, _⟩ := three_cells HS.out.unit
  have hr := lt_of_block HS.out.unit
  have HSN := Lib.hid (fun n => HS.out.drewN n)
  clear HS
  go_quiet (fail)
  have HT := Lib.hid (HSN.out nq)
  generalize hW1 : World.drewN W0 nq = W1 at *
  clear hW1 HSN x2 c0 c1 c2 hr l1 l2 l3 l4
  obtain ⟨l1, l2, l3, l4⟩ := HT.out.small
  obtain ⟨⟨y0, y1, y2, y3, y4, y5, y6, y7⟩, fy0, fy1, fy2, fy3, fy4, fy5, fy6, fy7⟩ := eight_cells HT.out.ans
  obtain ⟨⟨z0, z1, z2, z3, z4, z5, z6, z7⟩, fz0, fz1, fz2, fz3, fz4, fz5, fz6, fz7⟩ := eight_cells HT.out.zero
  obtain ⟨c0, c1, c2, f0, f1, f2⟩ := three_cells HT.out.unit
  have x0 : W1.cell? ⟨w.heap.size, 0, none⟩ = some (.int .i64 k) := cell_of HT.out.ask 0
  have x2 : W1.cell? ⟨w.heap.size, 2, none⟩ = some (.int .i64 ep) := cell_of HT.out.ask 2
  have x3 : W1.cell? ⟨w.heap.size, 3, none⟩ = some (.int .i64 pg) := cell_of HT.out.ask 3
  have x6 : W1.cell? ⟨w.heap.size, 6, none⟩ = some (.string s) := cell_of HT.out.ask 6
  go_wp2_with fail
  obtain ⟨F, hF, hok, hnx⟩ := (HT.out.drewN 1).ready
  have HNX := Lib.hid hnx
  clear hnx
  go_region_held3 (fun W => W.cell? ⟨w.heap.size, 3, none⟩ = some (.int .i64 pg) ∧ W.cell? ⟨w.heap.size, 6, none⟩ = some (.string s) ∧ W.cell? ⟨r, 0, none⟩ = some (.pointer (some ⟨q, 0, none⟩)))
    (first | exact ⟨x3, x6, c0⟩ | exact ⟨cell_of HT2.out.ask 3, cell_of HT2.out.ask 6, (three_cells HT2.out.unit).1⟩ | exact ⟨cell_of (HT2.out.put 2 _).ask 3, cell_of (HT2.out.put 2 _).ask 6, (three_cells (HT2.out.put 2 _).unit).1⟩ | exact ⟨cell_of ((HT2.out.put 2 _).put 0 _).ask 3, cell_of ((HT2.out.put 2 _).put 0 _).ask 6, (three_cells ((HT2.out.put 2 _).put 0 _).unit).1⟩)
    (first | (go_at_call 55; refine (rread_any F _ q p pg hF hok).mono ?_; rintro e w2 ⟨rfl, n2, hw2⟩; have HT2 := Lib.hid (show DoW w w2 r q G ⟨p, ue, false⟩ ⟨k, un, ep, pg, sz, n, s, pe, L, ao, cap⟩ #[.int .i64 0, .int .i64 0, .string ⟨#[]⟩, .int .i64 0, .slice none 0 0, .int .i64 0, .int .i64 0, .int .i64 ue] from by rw [hw2]; exact (HT.out.drewN 1).drewN n2); clear hw2; obtain ⟨nl1, nl2, nl3, nl4⟩ := HT2.out.small; obtain ⟨⟨ny0, ny1, ny2, ny3, ny4, ny5, ny6, ny7⟩, nfy0, nfy1, nfy2, nfy3, nfy4, nfy5, nfy6, nfy7⟩ := eight_cells HT2.out.ans; obtain ⟨⟨nz0, nz1, nz2, nz3, nz4, nz5, nz6, nz7⟩, nfz0, nfz1, nfz2, nfz3, nfz4, nfz5, nfz6, nfz7⟩ := eight_cells HT2.out.zero))
  all_goals
    go_wp2_with fail
    exact ans_ret (x := anP (p.readE pg) 0 (p.readS pg) ue) (ao := none) (cap := 0) rfl ((HT2.out.put 2 (.string (p.readS pg))).put 0 (.int .i64 (p.readE pg))).fin.1 rfl rfl ⟨rfl, ((HT2.out.put 2 (.string (p.readS pg))).put 0 (.int .i64 (p.readE pg))).fin.2⟩
end Go.Proofs.YtphigibhgldnpaaGreat
namespace Go.Proofs.YtphigibhgldnpaaGreat
set_option linter.unusedVariables false
open Go.RowKit
set_option maxRecDepth 20000
/-- the list is gone through -/
def fairN (l : List Ak) : Prop := l.length ≤ 150 ∧ ∀ s ∈ l, largeA s = false
def Fair13 (l : List Ak) (e : Ending) : Prop := ∃ c : Bool, e = .returned (.bool c) ∧ (c = true → fairN l)
set_option maxHeartbeats 4000000 in
theorem fair13_any (ao : Option Addr) (cap : Nat) (l : List Ak) (w : World) (hl : l.length ≤ maxLen) (h : Row w ao 9 askC l) (hk : ∀ s ∈ l, AkIn w s) :
    Calls Tryz.prog 5 #[.slice ao l.length cap] w fun e w' => Fair13 l e ∧ Below w.heap.size w w' := by
  unfold maxLen at hl
  have hl' : (l.length : Int) ≤ 9223372036854775807 := by omega
  have HF := Lib.hid h
  have HK := Lib.hid hk
  clear h hk
  go_enter Tryz.func5, Tryz.ntmps5
  go_wp2_with fail
  go_loopw [3] (fun i wr => ∃ k : Nat, i = .int .i64 k ∧ k ≤ l.length ∧ Hid (∀ s ∈ l.take k, largeA s = false) ∧ Hid (Below w.heap.size w wr)) (fun i _ => l.length - (intOf i).toNat)
  case atStart => exact ⟨0, rfl, Nat.zero_le _, Lib.hid (by simp), Lib.hid (Below.refl _ _)⟩
  case round =>
    obtain ⟨k, rfl, hkl, HT, HB⟩ := hrel
    by_cases hlt : k < l.length
    · obtain ⟨bk, off, rfl, d0, d1, d2, d3, d4, d5, d6, d7, d8⟩ := ask_at (HF.out.below HB.out) hlt
      have k0 : (k : Int) < (l.length : Int) := by omega
      have HA := Lib.hid ((HK.out _ (List.getElem_mem hlt)).below HB.out)
      have CL1 := Lib.hid (largeAsk_any _ _ HA.out)
      have HT2 := Lib.hid (fun (e : largeA l[k] = false) => show ∀ s ∈ l.take (k + 1), largeA s = false from by
        rw [List.take_succ_eq_append_getElem hlt]
        intro s hs
        rcases List.mem_append.1 hs with h1 | h1
        · exact HT.out s h1
        · rw [List.mem_singleton.1 h1]; exact e)
      cases hc : largeA l[k]
      · rw [hc] at CL1
        have HT3 := Lib.hid (HT2.out hc)
        go_wp2_with (go_at_call 14; refine CL1.out.mono ?_; rintro e w1 ⟨rfl, hb1⟩; have HB1 := Lib.hid (HB.out.trans (hb1.mono HB.out.size)); clear hb1)
        go_roundw
        case rel => exact ⟨k + 1, by go_num, by omega, HT3, HB1⟩
        case measure => simp [intOf]; omega
      · rw [hc] at CL1
        go_wp2_with (go_at_call 14; refine CL1.out.mono ?_; rintro e w1 ⟨rfl, hb1⟩; have HB1 := Lib.hid (HB.out.trans (hb1.mono HB.out.size)); clear hb1)
        go_ret
        exact ⟨⟨false, rfl, fun e => by cases e⟩, HB1.out⟩
    · obtain rfl : k = l.length := by omega
      have HA := Lib.hid (show ∀ s ∈ l, largeA s = false from by have := HT.out; rwa [List.take_of_length_le (Nat.le_refl _)] at this)
      by_cases h2 : l.length ≤ 150
      · have d : decide ((l.length : Int) ≤ 150) = true := decide_eq_true (by omega)
        go_wp2_with fail
        go_ret
        exact ⟨⟨_, rfl, fun _ => ⟨h2, HA.out⟩⟩, HB.out⟩
      · have d : decide ((l.length : Int) ≤ 150) = false := decide_eq_false (by omega)
        go_wp2_with fail
        go_ret
        exact ⟨⟨false, rfl, fun e => by cases e⟩, HB.out⟩
end Go.Proofs.YtphigibhgldnpaaGreat
