/- What the document's own unit answers a question of one kind, and is behind it. Conditions: it and the question lie where the call was told; the question's data are not too long. (Written by gen/genunib.py.) What the document's own unit answers a question of one kind, and is behind it. Conditions: it and the question lie where the call was told; the question's data are not too long. (Written by gen/genunib.py.) The program's own Copy makes a copy in new memory, each of its rows in a place of its own. Conditions: the projection lies where the call was told, and is not too large. What the program's own New, isNone, Kind, Used and Edge return. Conditions: the object lies where the call was told. -/
import Derived.Test.YtkicjgaejieinaaGreatG10b
import Derived.Deep.RegionHeld3
import Derived.Deep.RegionHeldLaw
set_option linter.unusedVariables false
namespace Go.Proofs.YtkicjgaejieinaaGreat
set_option linter.unusedVariables false
open Go.RowKit
set_option maxRecDepth 20000
set_option maxHeartbeats 8000000 in
theorem rdo_seal (r q : Nat) (G : Nat → Prop) (w : World) (u : Us) (a : Ak) (h : RU r q G w u) (hd : u.down = false) (hk : a.kind = 5) (he : ¬ a.epoch < u.epoch) (hw : i64w a.epoch) :
    Calls Tryz.prog 58 #[ptrU r, askV a] w fun e w' => e = .returned (ansV (u.ans a) none 0) ∧ Leaves (RU r q) G w w' (u.done a) := by
  rw [show u.ans a = anP 0 u.p.tail noS a.epoch from by unfold Us.ans; rw [if_neg (by rw [hd]; decide), if_neg (by omega), if_neg he, if_pos hk], show u.done a = ⟨u.p, a.epoch, u.down⟩ from by unfold Us.done; rw [if_neg (by rw [hd]; simp; omega), if_pos hk]]
  obtain ⟨k, un, ep, pg, sz, n, s, pe, L, ao, cap⟩ := a
  obtain ⟨p, ue, dn⟩ := u
  simp only at *
  subst hd
  have HS := Lib.hid (show DoW w (((w.alloc (.cells #[.int .i64 k, .int .i64 un, .int .i64 ep, .int .i64 pg, .int .i64 sz, .int .i64 n, .string s, .int .i64 pe, .slice ao L.length cap] 34)).alloc (.cells #[.int .i64 0, .int .i64 0, .string ⟨#[]⟩, .int .i64 0, .slice none 0 0, .int .i64 0, .int .i64 0, .int .i64 0] 38)).alloc (.cells #[.int .i64 0, .int .i64 0, .string ⟨#[]⟩, .int .i64 0, .slice none 0 0, .int .i64 0, .int .i64 0, .int .i64 ue] 38)) r q G ⟨p, ue, false⟩ ⟨k, un, ep, pg, sz, n, s, pe, L, ao, cap⟩ #[.int .i64 0, .int .i64 0, .string ⟨#[]⟩, .int .i64 0, .slice none 0 0, .int .i64 0, .int .i64 0, .int .i64 ue] from do_start h ⟨k, un, ep, pg, sz, n, s, pe, L, ao, cap⟩ #[.int .i64 0, .int .i64 0, .string ⟨#[]⟩, .int .i64 0, .slice none 0 0, .int .i64 0, .int .i64 0, .int .i64 ue])
  have he' : ue ≤ ep := by omega
  have hk1 : 1 ≤ k := by omega
  have hk5 : k ≤ 5 := by omega
  have d5 : (k == 5) = true := by rw [hk]; rfl
  clear hk he
  have HR := Lib.hid h
  obtain ⟨h0, h1, h2, _⟩ := h
  simp only at h1
  have hlt := lt_of_block h1
  obtain ⟨c0, c1, c2, _⟩ := three_cells h1
  clear h0 h1 h2
  show Calls _ _ #[.pointer (some ⟨r, 0, none⟩), .agg #[.int .i64 k, .int .i64 un, .int .i64 ep, .int .i64 pg, .int .i64 sz, .int .i64 n, .string s, .int .i64 pe, .slice ao L.length cap]] w _
  go_enter Tryz.func58, Tryz.ntmps58
  go_wp2_with fail
  generalize hW0 : ((w.alloc (.cells #[.int .i64 k, .int .i64 un, .int .i64 ep, .int .i64 pg, .int .i64 sz, .int .i64 n, .string s, .int .i64 pe, .slice ao L.length cap] 34)).alloc (.cells #[.int .i64 0, .int .i64 0, .string ⟨#[]⟩, .int .i64 0, .slice none 0 0, .int .i64 0, .int .i64 0, .int .i64 0] 38)).alloc (.cells #[.int .i64 0, .int .i64 0, .string ⟨#[]⟩, .int .i64 0, .slice none 0 0, .int .i64 0, .int .i64 0, .int .i64 ue] 38) = W0 at *
  clear c0 c1 c2 hlt hW0
  obtain ⟨l1, l2, l3, l4⟩ := HS.out.small
  have x2 : W0.cell? ⟨w.heap.size, 2, none⟩ = some (.int .i64 ep) := cell_of HS.out.ask 2
  obtain ⟨c0, c1, c2, _⟩ := three_cells HS.out.unit
  have hr := lt_of_block HS.out.unit
  have HSN := Lib.hid (fun n => HS.out.drewN n)
  clear HS
  go_quiet (fail)
  have HT := Lib.hid (HSN.out nq)
  generalize hW1 : World.drewN W0 nq = W1 at *
  clear hW1 HSN x2 c0 c1 c2 hr l1 l2 l3 l4
  obtain ⟨l1, l2, l3, l4⟩ := HT.out.small
  obtain ⟨⟨y0, y1, y2, y3, y4, y5, y6, y7⟩, fy0, fy1, fy2, fy3, fy4, fy5, fy6, fy7⟩ := eight_cells HT.out.ans
  obtain ⟨⟨z0, z1, z2, z3, z4, z5, z6, z7⟩, fz0, fz1, fz2, fz3, fz4, fz5, fz6, fz7⟩ := eight_cells HT.out.zero
  obtain ⟨c0, c1, c2, f0, f1, f2⟩ := three_cells HT.out.unit
  have x0 : W1.cell? ⟨w.heap.size, 0, none⟩ = some (.int .i64 k) := cell_of HT.out.ask 0
  have x2 : W1.cell? ⟨w.heap.size, 2, none⟩ = some (.int .i64 ep) := cell_of HT.out.ask 2
  have x3 : W1.cell? ⟨w.heap.size, 3, none⟩ = some (.int .i64 pg) := cell_of HT.out.ask 3
  have x6 : W1.cell? ⟨w.heap.size, 6, none⟩ = some (.string s) := cell_of HT.out.ask 6
  go_wp2_with fail
  have HT2 := Lib.hid (HT.out.seal hw)
  clear y0 y1 y2 y3 y4 y5 y6 y7 fy0 fy1 fy2 fy3 fy4 fy5 fy6 fy7 z0 z1 z2 z3 z4 z5 z6 z7 fz0 fz1 fz2 fz3 fz4 fz5 fz6 fz7 c0 c1 c2 f0 f1 f2 x0 x2 x3 x6 l1 l2 l3 l4
  generalize hW2 : World.setCell W1 _ _ = W2 at *
  clear hW2 HT
  obtain ⟨l1, l2, l3, l4⟩ := HT2.out.small
  obtain ⟨⟨y0, y1, y2, y3, y4, y5, y6, y7⟩, fy0, fy1, fy2, fy3, fy4, fy5, fy6, fy7⟩ := eight_cells HT2.out.ans
  obtain ⟨⟨z0, z1, z2, z3, z4, z5, z6, z7⟩, fz0, fz1, fz2, fz3, fz4, fz5, fz6, fz7⟩ := eight_cells HT2.out.zero
  obtain ⟨c0, c1, c2, f0, f1, f2⟩ := three_cells HT2.out.unit
  have x0 : W2.cell? ⟨w.heap.size, 0, none⟩ = some (.int .i64 k) := cell_of HT2.out.ask 0
  have x2 : W2.cell? ⟨w.heap.size, 2, none⟩ = some (.int .i64 ep) := cell_of HT2.out.ask 2
  have x3 : W2.cell? ⟨w.heap.size, 3, none⟩ = some (.int .i64 pg) := cell_of HT2.out.ask 3
  have x6 : W2.cell? ⟨w.heap.size, 6, none⟩ = some (.string s) := cell_of HT2.out.ask 6
  obtain ⟨F, hF, hok, _⟩ := (HT2.out.drewN 1).ready
  have HT3 := Lib.hid (HT2.out.drewN 1)
  go_region_held3 (fun W => W.cell? ⟨w.heap.size, 2, none⟩ = some (.int .i64 ep) ∧ W.cell? ⟨r, 0, none⟩ = some (.pointer (some ⟨q, 0, none⟩)))
    (first | exact ⟨x2, c0⟩ | assumption | exact ⟨cell_of (HT3.out.put 7 _).ask 2, (three_cells (HT3.out.put 7 _).unit).1⟩ | exact ⟨cell_of ((HT3.out.put 7 _).put 1 _).ask 2, (three_cells ((HT3.out.put 7 _).put 1 _).unit).1⟩)
    (first | (go_at_call 40; refine (rtail_any F _ q p hF hok).mono ?_; rintro e w' ⟨rfl, rfl⟩))
  all_goals
    go_wp2_with fail
    exact ans_ret (x := anP 0 p.tail noS ep) (ao := none) (cap := 0) rfl ((HT3.out.put 7 (.int .i64 ep)).put 1 (.int .i64 p.tail)).fin.1 rfl rfl ⟨rfl, ((HT3.out.put 7 (.int .i64 ep)).put 1 (.int .i64 p.tail)).fin.2⟩
end Go.Proofs.YtkicjgaejieinaaGreat
namespace Go.Proofs.YtkicjgaejieinaaGreat
set_option linter.unusedVariables false
open Go.RowKit
set_option maxRecDepth 20000
set_option maxHeartbeats 8000000 in
theorem rdo_read (r q : Nat) (G : Nat → Prop) (w : World) (u : Us) (a : Ak) (h : RU r q G w u) (hd : u.down = false) (hk : a.kind = 3) (he : ¬ a.epoch < u.epoch) :
    Calls Tryz.prog 58 #[ptrU r, askV a] w fun e w' => e = .returned (ansV (u.ans a) none 0) ∧ Leaves (RU r q) G w w' (u.done a) := by
  rw [show u.ans a = anP (u.p.readE a.page) 0 (u.p.readS a.page) u.epoch from by unfold Us.ans; rw [if_neg (by rw [hd]; decide), if_neg (by omega), if_neg he, if_neg (by omega), if_pos hk]; unfold Us.pageE; rw [if_neg (by omega), if_neg (by omega), if_pos hk], show u.done a = ⟨u.p, u.epoch, u.down⟩ from by unfold Us.done; rw [if_neg (by rw [hd]; simp; omega), if_neg (by omega)]; unfold Us.pageP; rw [if_neg (by omega), if_neg (by omega), if_pos hk]]
  obtain ⟨k, un, ep, pg, sz, n, s, pe, L, ao, cap⟩ := a
  obtain ⟨p, ue, dn⟩ := u
  simp only at *
  subst hd
  have HS := Lib.hid (show DoW w (((w.alloc (.cells #[.int .i64 k, .int .i64 un, .int .i64 ep, .int .i64 pg, .int .i64 sz, .int .i64 n, .string s, .int .i64 pe, .slice ao L.length cap] 34)).alloc (.cells #[.int .i64 0, .int .i64 0, .string ⟨#[]⟩, .int .i64 0, .slice none 0 0, .int .i64 0, .int .i64 0, .int .i64 0] 38)).alloc (.cells #[.int .i64 0, .int .i64 0, .string ⟨#[]⟩, .int .i64 0, .slice none 0 0, .int .i64 0, .int .i64 0, .int .i64 ue] 38)) r q G ⟨p, ue, false⟩ ⟨k, un, ep, pg, sz, n, s, pe, L, ao, cap⟩ #[.int .i64 0, .int .i64 0, .string ⟨#[]⟩, .int .i64 0, .slice none 0 0, .int .i64 0, .int .i64 0, .int .i64 ue] from do_start h ⟨k, un, ep, pg, sz, n, s, pe, L, ao, cap⟩ #[.int .i64 0, .int .i64 0, .string ⟨#[]⟩, .int .i64 0, .slice none 0 0, .int .i64 0, .int .i64 0, .int .i64 ue])
  have he' : ue ≤ ep := by omega
  have hk1 : 1 ≤ k := by omega
  have hk5 : k ≤ 5 := by omega
  have d5 : (k == 5) = false := beq_eq_false_iff_ne.2 (by omega)
  have d1 : (k == 1) = false := beq_eq_false_iff_ne.2 (by omega)
  have d2 : (k == 2) = false := beq_eq_false_iff_ne.2 (by omega)
  have d3 : (k == 3) = true := by rw [hk]; rfl
  clear hk he
  have HR := Lib.hid h
  obtain ⟨h0, h1, h2, _⟩ := h
  simp only at h1
  have hlt := lt_of_block h1
  obtain ⟨c0, c1, c2, _⟩ := three_cells h1
  clear h0 h1 h2
  show Calls _ _ #[.pointer (some ⟨r, 0, none⟩), .agg #[.int .i64 k, .int .i64 un, .int .i64 ep, .int .i64 pg, .int .i64 sz, .int .i64 n, .string s, .int .i64 pe, .slice ao L.length cap]] w _
  go_enter Tryz.func58, Tryz.ntmps58
  go_wp2_with fail
  generalize hW0 : ((w.alloc (.cells #[.int .i64 k, .int .i64 un, .int .i64 ep, .int .i64 pg, .int .i64 sz, .int .i64 n, .string s, .int .i64 pe, .slice ao L.length cap] 34)).alloc (.cells #[.int .i64 0, .int .i64 0, .string ⟨#[]⟩, .int .i64 0, .slice none 0 0, .int .i64 0, .int .i64 0, .int .i64 0] 38)).alloc (.cells #[.int .i64 0, .int .i64 0, .string ⟨#[]⟩, .int .i64 0, .slice none 0 0, .int .i64 0, .int .i64 0, .int .i64 ue] 38) = W0 at *
  clear c0 c1 c2 hlt hW0
  obtain ⟨l1, l2, l3, l4⟩ := HS.out.small
  have x2 : W0.cell? ⟨w.heap.size, 2, none⟩ = some (.int .i64 ep) := cell_of HS.out.ask 2
  obtain ⟨c0, c1, c2, _⟩ := three_cells HS.out.unit
  have hr := lt_of_block HS.out.unit
  have HSN := Lib.hid (fun n => HS.out.drewN n)
  clear HS
  go_quiet (fail)
  have HT := Lib.hid (HSN.out nq)
  generalize hW1 : World.drewN W0 nq = W1 at *
  clear hW1 HSN x2 c0 c1 c2 hr l1 l2 l3 l4
  obtain ⟨l1, l2, l3, l4⟩ := HT.out.small
  obtain ⟨⟨y0, y1, y2, y3, y4, y5, y6, y7⟩, fy0, fy1, fy2, fy3, fy4, fy5, fy6, fy7⟩ := eight_cells HT.out.ans
  obtain ⟨⟨z0, z1, z2, z3, z4, z5, z6, z7⟩, fz0, fz1, fz2, fz3, fz4, fz5, fz6, fz7⟩ := eight_cells HT.out.zero
  obtain ⟨c0, c1, c2, f0, f1, f2⟩ := three_cells HT.out.unit
  have x0 : W1.cell? ⟨w.heap.size, 0, none⟩ = some (.int .i64 k) := cell_of HT.out.ask 0
  have x2 : W1.cell? ⟨w.heap.size, 2, none⟩ = some (.int .i64 ep) := cell_of HT.out.ask 2
  have x3 : W1.cell? ⟨w.heap.size, 3, none⟩ = some (.int .i64 pg) := cell_of HT.out.ask 3
  have x6 : W1.cell? ⟨w.heap.size, 6, none⟩ = some (.string s) := cell_of HT.out.ask 6
  go_wp2_with fail
  obtain ⟨F, hF, hok, hnx⟩ := (HT.out.drewN 1).ready
  have HNX := Lib.hid hnx
  clear hnx
  go_region_held3 (fun W => W.cell? ⟨w.heap.size, 3, none⟩ = some (.int .i64 pg) ∧ W.cell? ⟨w.heap.size, 6, none⟩ = some (.string s) ∧ W.cell? ⟨r, 0, none⟩ = some (.pointer (some ⟨q, 0, none⟩)))
    (first | exact ⟨x3, x6, c0⟩ | exact ⟨cell_of HT2.out.ask 3, cell_of HT2.out.ask 6, (three_cells HT2.out.unit).1⟩ | exact ⟨cell_of (HT2.out.put 2 _).ask 3, cell_of (HT2.out.put 2 _).ask 6, (three_cells (HT2.out.put 2 _).unit).1⟩ | exact ⟨cell_of ((HT2.out.put 2 _).put 0 _).ask 3, cell_of ((HT2.out.put 2 _).put 0 _).ask 6, (three_cells ((HT2.out.put 2 _).put 0 _).unit).1⟩)
    (first | (go_at_call 74; refine (rread_any F _ q p pg hF hok).mono ?_; rintro e w2 ⟨rfl, n2, hw2⟩; have HT2 := Lib.hid (show DoW w w2 r q G ⟨p, ue, false⟩ ⟨k, un, ep, pg, sz, n, s, pe, L, ao, cap⟩ #[.int .i64 0, .int .i64 0, .string ⟨#[]⟩, .int .i64 0, .slice none 0 0, .int .i64 0, .int .i64 0, .int .i64 ue] from by rw [hw2]; exact (HT.out.drewN 1).drewN n2); clear hw2; obtain ⟨nl1, nl2, nl3, nl4⟩ := HT2.out.small; obtain ⟨⟨ny0, ny1, ny2, ny3, ny4, ny5, ny6, ny7⟩, nfy0, nfy1, nfy2, nfy3, nfy4, nfy5, nfy6, nfy7⟩ := eight_cells HT2.out.ans; obtain ⟨⟨nz0, nz1, nz2, nz3, nz4, nz5, nz6, nz7⟩, nfz0, nfz1, nfz2, nfz3, nfz4, nfz5, nfz6, nfz7⟩ := eight_cells HT2.out.zero))
  all_goals
    go_wp2_with fail
    exact ans_ret (x := anP (p.readE pg) 0 (p.readS pg) ue) (ao := none) (cap := 0) rfl ((HT2.out.put 2 (.string (p.readS pg))).put 0 (.int .i64 (p.readE pg))).fin.1 rfl rfl ⟨rfl, ((HT2.out.put 2 (.string (p.readS pg))).put 0 (.int .i64 (p.readE pg))).fin.2⟩
end Go.Proofs.YtkicjgaejieinaaGreat
namespace Go.Proofs.YtkicjgaejieinaaGreat
open Go.RowKit
set_option linter.unusedVariables false
set_option maxRecDepth 20000
theorem OC.ofCP {w : World} {B : Nat} {v : Value} {vs : List Value} {L : List (List Int)} (h : CP w B v vs L) : OC w B v L := by
  refine ⟨vs, h.1, fun i hi => ?_⟩
  have hv : i < vs.length := by rw [h.2.1]; exact hi
  obtain ⟨h1, h2⟩ := h.2.2.1 i hi vs[i] (List.getElem?_eq_getElem hv)
  obtain ⟨ao, cap, e, hN, hA, ho⟩ := h1.form
  exact ⟨ao, cap, by rw [List.getElem?_eq_getElem hv, e], hN, fun a ea => ⟨(hA a ea).1, (hA a ea).2, h2 a.block (by rw [ho, ea]; rfl)⟩⟩
set_option maxHeartbeats 8000000 in
theorem copyO_any (ep : Int) (ao : Option Addr) (cap : Nat) (L : List (List Int)) (w : World) (hT : CL w ao L) (hS : L.length ≤ 255 ∧ ∀ c ∈ L, c.length ≤ 255) :
    Calls Tryz.prog 62 #[.agg #[.int .i64 ep, .slice ao L.length cap]] w fun e w' => ∃ v, e = .returned (.agg #[.int .i64 ep, v]) ∧ OC w' w.heap.size v L ∧ Below w.heap.size w w' := by
  have HB0 := Lib.hid ((((Below.refl w.heap.size w).alloc (Nat.le_refl _) (.cells #[.int .i64 ep, .slice ao L.length cap] 24)).alloc (by simp) (.cells #[.int .i64 0, .slice none 0 0] 24)).alloc (by simp; omega) (.cells #[.int .i64 ep, .slice none 0 0] 24))
  have hl' : (L.length : Int) ≤ 255 := by have := hS.1; omega
  have HT := Lib.hid hT
  have HM := Lib.hid hS
  have HRES := Lib.hid (show ((((w.alloc (.cells #[.int .i64 ep, .slice ao L.length cap] 24)).alloc (.cells #[.int .i64 0, .slice none 0 0] 24)).alloc (.cells #[.int .i64 ep, .slice none 0 0] 24))).heap[w.heap.size + 1]? = some (.cells #[.int .i64 0, .slice none 0 0] 24 (0, 0)) from by
    have h := heap_alloc_new (w.alloc (.cells #[.int .i64 ep, .slice ao L.length cap] 24)) (.cells #[.int .i64 0, .slice none 0 0] 24)
    have h2 := below_heap ((Below.refl _ _).alloc (Nat.le_refl _) (.cells #[.int .i64 ep, .slice none 0 0] 24)) h
    simpa using h2)
  have HQ0 := Lib.hid (show ((((w.alloc (.cells #[.int .i64 ep, .slice ao L.length cap] 24)).alloc (.cells #[.int .i64 0, .slice none 0 0] 24)).alloc (.cells #[.int .i64 ep, .slice none 0 0] 24))).heap[w.heap.size + 2]? = some (.cells #[.int .i64 ep, .slice none 0 0] 24 (0, 0)) from by
    have h := heap_alloc_new ((w.alloc (.cells #[.int .i64 ep, .slice ao L.length cap] 24)).alloc (.cells #[.int .i64 0, .slice none 0 0] 24)) (.cells #[.int .i64 ep, .slice none 0 0] 24)
    simpa using h)
  have HSZ := Lib.hid (show ((((w.alloc (.cells #[.int .i64 ep, .slice ao L.length cap] 24)).alloc (.cells #[.int .i64 0, .slice none 0 0] 24)).alloc (.cells #[.int .i64 ep, .slice none 0 0] 24))).heap.size = w.heap.size + 3 from by simp)
  clear hT hS
  go_enter Tryz.func62, Tryz.ntmps62
  go_wp2_with fail
  generalize hW0 : World.alloc (World.alloc _ _) _ = W0 at *
  go_loopw [12] (fun i wr => ∃ (n : Nat) (v : Value) (vs : List Value), i = .int .i64 n ∧ n ≤ L.length ∧ Hid (wr.heap[w.heap.size + 2]? = some (.cells #[.int .i64 ep, v] 24 (0, 0))) ∧ Hid (CP wr (w.heap.size + 3) v vs (L.take n)) ∧ Hid (Kept (fun k => k < w.heap.size + 3 ∧ k ≠ w.heap.size + 2) W0 wr)) (fun i _ => L.length - (intOf i).toNat)
  case atStart => exact ⟨0, _, [], rfl, Nat.zero_le _, HQ0, Lib.hid (by rw [List.take_zero]; exact CP.nil _ _), Lib.hid (Kept.refl _ _)⟩
  case round =>
    obtain ⟨n, v, vs, rfl, hn, HP, HC, HK⟩ := hrel
    have HWB := Lib.hid (HB0.out.trans (HK.out.toBelow (by rw [HSZ.out]; omega) (fun k h => ⟨by omega, by omega⟩)))
    have hszr : w.heap.size + 3 ≤ wr.heap.size := by have := HK.out.size; have := HSZ.out; omega
    by_cases hlt : n < L.length
    · obtain ⟨bk, off, ai, ci, hao, c0w, hN⟩ := HT.out n hlt
      subst hao
      have cA : wr.cell? ⟨bk, off + n, none⟩ = some (.slice ai L[n].length ci) := cellB HWB.out (block_lt_of_cell c0w) c0w
      have HNN := Lib.hid (show NLI wr.drew ai ci L[n] from (hN.below HWB.out).drew)
      have k0 : (n : Int) < (L.length : Int) := by omega
      have m0 := HM.out.2 _ (List.getElem_mem hlt)
      have m0' : (L[n].length : Int) ≤ 255 := by omega
      have hLn := HM.out.1
      have HLT := Lib.hid (show (L.take n).length + 1 ≤ 1000000 from by rw [List.length_take]; omega)
      obtain ⟨c0, c1, f0, f1⟩ := two_cells HP.out
      have HTK := Lib.hid (fun (w' : World) (v' : Value) (vs' : List Value) h => @CP.take w' (w.heap.size + 3) v' vs' L n hlt h)
      have hqr : w.heap.size + 2 < wr.heap.size := by omega
      clear c0w hN
      go_wp2_with fail
      clear cA
      go_region_law (first
        | (refine step_app_ints rfl (.const (.slice none 0 0)) (.tmp 18) rfl (B := wr.heap.size) (v := .slice none 0 0) (D := []) rfl (OI.nil _ _) (ao := ai) (cap := ci) (l := L[n]) rfl rfl HNN.out (by simp; omega) (Nat.le_refl _) ?_; intro v1 w1 hI hg _; rw [List.nil_append] at hI; have hb1 : Below wr.heap.size wr w1 := (Below.refl wr.heap.size wr).drew.grown hg (Nat.le_refl _) (fun k e => by cases e); obtain ⟨a1, cc1, hv1, _, _, _⟩ := hI.form; subst hv1; have HC1 := Lib.hid (HC.out.below hb1); have HF1 := Lib.hid (HC.out.fresh hI); have HI1 := Lib.hid (hI.lower hszr); have HB1 := Lib.hid hb1; have hsz1 : w.heap.size + 3 ≤ w1.heap.size := Nat.le_trans hszr hb1.size; have hq1 : w.heap.size + 2 < w1.heap.size := hsz1; have HP1 := Lib.hid (below_heap hb1 HP.out); obtain ⟨d0, d1, g0, g1⟩ := two_cells HP1.out; clear hI hg hb1)
        | (refine step_app_copy rfl (.tmp 17) (.tmp 20) rfl (w := w1) (B := w.heap.size + 3) (v := v) (vs := vs) (L := L.take n) rfl HC1.out (y := .slice a1 L[n].length cc1) (l := L[n]) rfl HI1.out HF1.out HLT.out hsz1 ?_; intro v2 w2 hC2 hb2; obtain ⟨b8, n8, c8, hv8⟩ : ∃ b8 n8 c8, v2 = .slice b8 n8 c8 := (by obtain ⟨x, y, e⟩ := hC2.form; exact ⟨x, _, y, e⟩); subst hv8; have HC2 := Lib.hid (HTK.out _ _ _ hC2); have HP2 := Lib.hid ((below_kept hb2 hsz1).heap (b := w.heap.size + 2) (by omega) HP1.out); obtain ⟨x0, x1, y0, y1⟩ := two_cells HP2.out; have HK2 := Lib.hid ((HK.out.below HB1.out).trans ((below_kept hb2 hsz1).mono (fun k h => h.1))); clear hC2 hb2))
      all_goals
        go_wp2_with fail
        go_roundw
        case rel =>
          refine ⟨n + 1, .slice b8 n8 c8, vs ++ [.slice a1 L[n].length cc1], by go_num, by omega, Lib.hid (two_set1 HP2.out (.slice b8 n8 c8)), Lib.hid ?_, Lib.hid ?_⟩
          · exact HC2.out.keep ((Kept.refl (fun k => w.heap.size + 3 ≤ k) w2).setCell (p := ⟨w.heap.size + 2, 1, none⟩) (by simp) (.slice b8 n8 c8)) (fun k h _ => h)
          · exact HK2.out.setCell (p := ⟨w.heap.size + 2, 1, none⟩) (by simp) (.slice b8 n8 c8)
        case measure => simp [intOf]; omega
    · obtain rfl : n = L.length := by omega
      rw [List.take_of_length_le (Nat.le_refl _)] at HC
      obtain ⟨bo1, cb1, hv1⟩ := HC.out.form
      subst hv1
      have HR := Lib.hid (HK.out.heap (b := w.heap.size + 1) ⟨by omega, by omega⟩ HRES.out)
      obtain ⟨c0, c1, f0, f1⟩ := two_cells HP.out
      obtain ⟨t0, t1, g0, g1⟩ := two_cells HR.out
      have hszp : w.heap.size + 2 < wr.heap.size := by omega
      go_wp2_with fail
      have hK := ((Kept.refl (fun k => w.heap.size + 3 ≤ k) wr).setCell (p := ⟨w.heap.size + 1, 0, none⟩) (by simp) (.int .i64 ep)).setCell (p := ⟨w.heap.size + 1, 1, none⟩) (by simp) (.slice bo1 L.length cb1)
      exact proj_ret rfl (two_set1 (two_set0 HR.out (.int .i64 ep)) (.slice bo1 L.length cb1)) rfl rfl ⟨.slice bo1 L.length cb1, rfl, (OC.ofCP (HC.out.keep hK (fun _ h _ => h))).lower (by omega), (HWB.out.setCell (by simp) _).setCell (by simp) _⟩
end Go.Proofs.YtkicjgaejieinaaGreat
namespace Go.Proofs.YtkicjgaejieinaaGreat
open Go.RowKit Go.Maps
set_option linter.unusedVariables false
set_option maxRecDepth 20000
theorem isNone_nil (a : Int) (w : World) : Calls Tryz.prog 145 #[.pointer none, .int .i64 a] w fun e w' => e = .returned (.bool true) ∧ w = w' := by
  go_enter Tryz.func145, Tryz.ntmps145
  go_wp2
  go_ret
  exact ⟨rfl, rfl⟩
theorem pgIsNone_any (b : Nat) (a : Int) (w : World) : Calls Tryz.prog 145 #[.pointer (some ⟨b, 0, none⟩), .int .i64 a] w fun e w' => e = .returned (.bool (!thereB a)) ∧ w = w' := by
  have hd := Lib.hid (show (decide (a < 0) || decide (4096 ≤ a)) = !thereB a from by
    unfold thereB
    by_cases h0 : a < 0
    · simp [h0, show ¬ 0 ≤ a from by omega]
    · by_cases h1 : 4096 ≤ a
      · simp [h1, show ¬ a < 4096 from by omega]
      · simp [h0, h1, show 0 ≤ a from by omega, show a < 4096 from by omega])
  go_enter Tryz.func145, Tryz.ntmps145
  go_wp2
  all_goals
    go_ret
    rw [← hd.out]
    first | exact ⟨rfl, rfl⟩ | exact ⟨by simp [*], rfl⟩
theorem sheet_kind (k : Int) (s : ByteArray) (W : World) : (Instr.field 214 (.agg #[.int .i64 k, .string s]) 0).run Tryz.prog W = .ok (.int .i64 k) W := by kernel_rfl
theorem sheet_text (k : Int) (s : ByteArray) (W : World) : (Instr.field 214 (.agg #[.int .i64 k, .string s]) 1).run Tryz.prog W = .ok (.string s) W := by kernel_rfl
set_option maxHeartbeats 4000000 in
theorem kind_any (G : Nat → Prop) (w : World) (b : Nat) (p : Ps) (a : Int) (h : PGm G w b p) :
    Calls Tryz.prog 144 #[.pointer (some ⟨b, 0, none⟩), .int .i64 a] w fun e w' => e = .returned (.int .i64 (p.kind a)) ∧ w = w' := by
  have CN := Lib.hid (pgIsNone_any b a w)
  obtain ⟨mb, h1, h2, _⟩ := h
  by_cases ht : thereB a = true
  · rw [ht] at CN
    obtain ⟨c0, c1, c2, _⟩ := three_cells h1
    by_cases he : a < p.edge
    · have HE := Lib.hid (show p.kind a = 3 from by unfold Ps.kind; rw [if_pos ht, if_pos he])
      clear h1 h2 ht
      generalize p.edge = ed at *
      go_enter Tryz.func144, Tryz.ntmps144
      go_wp2_with (go_at_call 145; refine CN.out.mono ?_; rintro e w1 ⟨rfl, rfl⟩)
      go_ret
      rw [HE.out]
      exact ⟨rfl, rfl⟩
    · have HE := Lib.hid (kindL_of ht he)
      have he' : p.edge ≤ a := by omega
      have hl := h2.look (there_wf ht)
      have hf := sheet_kind
      clear h1 h2 ht he
      generalize p.edge = ed at *
      generalize kindL p.l a = kk at *
      generalize textL p.l a = tt at *
      go_enter Tryz.func144, Tryz.ntmps144
      go_wp2_with (go_at_call 145; refine CN.out.mono ?_; rintro e w1 ⟨rfl, rfl⟩)
      go_ret
      rw [HE.out]
      exact ⟨rfl, rfl⟩
  · have HE := Lib.hid (show p.kind a = 0 from by unfold Ps.kind; rw [if_neg ht])
    rw [Bool.eq_false_iff.2 ht] at CN
    clear h1 h2 ht
    go_enter Tryz.func144, Tryz.ntmps144
    go_wp2_with (go_at_call 145; refine CN.out.mono ?_; rintro e w1 ⟨rfl, rfl⟩)
    go_ret
    rw [HE.out]
    exact ⟨rfl, rfl⟩
theorem kind_nil (a : Int) (w : World) : Calls Tryz.prog 144 #[.pointer none, .int .i64 a] w fun e w' => e = .returned (.int .i64 0) ∧ w = w' := by
  have CN := Lib.hid (isNone_nil a w)
  go_enter Tryz.func144, Tryz.ntmps144
  go_wp2_with (go_at_call 145; refine CN.out.mono ?_; rintro e w1 ⟨rfl, rfl⟩)
  go_ret
  exact ⟨rfl, rfl⟩
theorem used_any (G : Nat → Prop) (w : World) (b : Nat) (p : Ps) (h : PGm G w b p) :
    Calls Tryz.prog 37 #[.pointer (some ⟨b, 0, none⟩)] w fun e w' => e = .returned (.int .i64 p.l.length) ∧ w = w' := by
  obtain ⟨mb, h1, h2, _⟩ := h
  obtain ⟨c0, c1, c2, _⟩ := three_cells h1
  have hl := fun ty => h2.count ty w rfl
  clear h1 h2
  go_enter Tryz.func37, Tryz.ntmps37
  go_wp2
  go_ret
  exact ⟨rfl, rfl⟩
theorem used_nil (w : World) : Calls Tryz.prog 37 #[.pointer none] w fun e w' => e = .returned (.int .i64 0) ∧ w = w' := by
  go_enter Tryz.func37, Tryz.ntmps37
  go_wp2
  go_ret
  exact ⟨rfl, rfl⟩
theorem edge_any (G : Nat → Prop) (w : World) (b : Nat) (p : Ps) (h : PGm G w b p) :
    Calls Tryz.prog 41 #[.pointer (some ⟨b, 0, none⟩)] w fun e w' => e = .returned (.int .i64 p.edge) ∧ w = w' := by
  obtain ⟨mb, h1, h2, _⟩ := h
  obtain ⟨c0, c1, c2, _⟩ := three_cells h1
  clear h1 h2
  go_enter Tryz.func41, Tryz.ntmps41
  go_wp2
  go_ret
  exact ⟨rfl, rfl⟩
theorem edge_nil (w : World) : Calls Tryz.prog 41 #[.pointer none] w fun e w' => e = .returned (.int .i64 0) ∧ w = w' := by
  go_enter Tryz.func41, Tryz.ntmps41
  go_wp2
  go_ret
  exact ⟨rfl, rfl⟩
theorem pnew_yes (room : Int) (w : World) (h : 1 ≤ room ∧ room ≤ 4096) : Calls Tryz.prog 65 #[.int .i64 room] w fun e w' => ∃ (b : Nat) (G : Nat → Prop), e = .returned (.tuple #[.pointer (some ⟨b, 0, none⟩), .int .i64 0]) ∧ PGm G w' b (newP room) ∧ (∀ k, G k → w.heap.size ≤ k) ∧ Below w.heap.size w w' := by
  obtain ⟨h0, h1⟩ := h
  have hmm := @run_makeMap Tryz.prog
  go_enter Tryz.func65, Tryz.ntmps65
  go_wp2
  go_ret2
  refine ⟨_, fun k => k = w.heap.size ∨ k = w.heap.size + 1, rfl, ⟨w.heap.size, ?_, ?_, ?_, ?_, .inl rfl, ?_⟩, ?_, ?_⟩
  · have := heap_alloc_new (w.alloc (.map #[] 0)) (.cells #[.int .i64 room, .int .i64 0, .map (some w.heap.size)] 123)
    simpa [newP] using this
  · exact (Tp.made w).below ((Below.refl _ _).alloc (Nat.le_refl _) _)
  · simp
  · exact .inr (by simp)
  · rintro k (rfl | rfl) <;> simp <;> omega
  · rintro k (rfl | rfl) <;> omega
  · exact ((Below.refl _ _).alloc (Nat.le_refl _) _).alloc (by simp) _
theorem pnew_no (room : Int) (w : World) (h : room < 1 ∨ 4096 < room) : Calls Tryz.prog 65 #[.int .i64 room] w fun e w' => e = .returned (.tuple #[.pointer none, .int .i64 1]) ∧ Below w.heap.size w w' := by
  by_cases h0 : room < 1
  · clear h
    go_enter Tryz.func65, Tryz.ntmps65
    go_wp2
    go_ret2
    exact ⟨rfl, Below.refl _ _⟩
  · have h0' : 1 ≤ room := by omega
    have h1 : 4096 < room := by omega
    clear h h0
    go_enter Tryz.func65, Tryz.ntmps65
    go_wp2
    go_ret2
    exact ⟨rfl, Below.refl _ _⟩
end Go.Proofs.YtkicjgaejieinaaGreat
