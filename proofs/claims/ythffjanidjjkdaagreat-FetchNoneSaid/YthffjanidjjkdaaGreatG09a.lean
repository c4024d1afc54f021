/- What the statements' own small function CopyProjection returns. Conditions: the projection lies where the call was told, and is not too large to be gone through. What the document's own sequencer answers a question, and is behind it. Conditions: it and the question lie where the call was told. (Written by gen/genord.py.) What the document's own sequencer answers a question, and is behind it. Conditions: it and the question lie where the call was told. (Written by gen/genord.py.) What the laws of pages ask of the program's functions: each one's contract, as a statement (proved where the program is spoken of). No conditions but those that the statements name. -/
import Derived.Test.YthffjanidjjkdaaGreatG08b
import Derived.Deep.RegionHeld3
import Derived.Deep.RegionHeldLaw
import Derived.Test.YthffjanidjjkdaaGreatG08a
set_option linter.unusedVariables false
namespace Go.Proofs.YthffjanidjjkdaaGreat
set_option linter.unusedVariables false
open Go.RowKit
set_option maxRecDepth 20000

theorem bcell0 {B : Nat} {W w1 : World} (hb : Below B W w1) {b o : Nat} {v : Value} (h : W.cell? ⟨b, o, none⟩ = some v) (hl : b < B) : w1.cell? ⟨b, o, none⟩ = some v := (hb.cell (p := ⟨b, o, none⟩) hl).trans h
theorem bfree0 {B : Nat} {W w1 : World} (hb : Below B W w1) {b o : Nat} (h : W.frozen? ⟨b, o, none⟩ = false) (hl : b < B) : w1.frozen? ⟨b, o, none⟩ = false := (hb.frozen (p := ⟨b, o, none⟩) hl).trans h
theorem OC.lower {w : World} {B B' : Nat} {v : Value} {L : List (List Int)} (h : OC w B v L) (hb : B' ≤ B) : OC w B' v L := by
  obtain ⟨xs, h1, h2⟩ := h
  refine ⟨xs, ⟨h1.1, ?_⟩, fun i hi => ?_⟩
  · rcases h1.2 with h3 | ⟨g, cap, cur, h3, h4, r⟩
    · exact .inl h3
    · exact .inr ⟨g, cap, cur, h3, Nat.le_trans hb h4, r⟩
  · obtain ⟨ai, ci, h3, h4, h5⟩ := h2 i hi
    exact ⟨ai, ci, h3, h4, fun a e => ⟨Nat.le_trans hb (h5 a e).1, (h5 a e).2⟩⟩
set_option maxHeartbeats 2000000 in
theorem keepCopyO_any (ep : Int) (ao : Option Addr) (cap : Nat) (L : List (List Int)) (w : World) (h : CL w ao L) (hl : L.length ≤ 1000 ∧ ∀ c ∈ L, c.length ≤ 1000) :
    Calls Tryz.prog 30 #[.agg #[.int .i64 ep, .slice ao L.length cap]] w fun e w' => ∃ v, e = .returned (.agg #[.int .i64 ep, v]) ∧ OC w' w.heap.size v L ∧ Below w.heap.size w w' := by
  have HB0 := Lib.hid (((Below.refl w.heap.size w).alloc (Nat.le_refl _) (.cells #[.int .i64 ep, .slice ao L.length cap] 30)).alloc (by simp) (.cells #[.int .i64 0, .slice none 0 0] 30))
  have HC := Lib.hid h
  have hl' : (L.length : Int) ≤ 1000 := by omega
  have hl2 : L.length ≤ 1000 := hl.1
  have HM := Lib.hid hl.2
  clear h hl
  go_enter Tryz.func30, Tryz.ntmps30
  go_wp2_with fail
  go_loopw [3, 4] (fun v i wr => ∃ k : Nat, i = .int .i64 k ∧ k ≤ L.length ∧ OC wr (w.heap.size + 2) v (L.take k) ∧ Below (w.heap.size + 2) ((w.alloc (.cells #[.int .i64 ep, .slice ao L.length cap] 30)).alloc (.cells #[.int .i64 0, .slice none 0 0] 30)) wr) (fun _ i _ => L.length - (intOf i).toNat)
  case atStart => exact ⟨0, rfl, Nat.zero_le _, by rw [List.take_zero]; exact OC.nil _ _, Below.refl _ _⟩
  case round =>
    obtain ⟨k, rfl, hk, hO, hb⟩ := hrel
    have b1 : wr.cell? ⟨w.heap.size, 1, none⟩ = some (.slice ao L.length cap) := bcell0 hb (by simp) (by omega)
    have HW := Lib.hid (HB0.out.trans (hb.mono (by omega)))
    have hsz : w.heap.size + 2 ≤ wr.heap.size := by have := hb.size; simpa using this
    have hsz0 : w.heap.size < wr.heap.size := by omega
    by_cases hlt : k < L.length
    · obtain ⟨bk, off, ai, ci, hao, c0, hN⟩ := (HC.out.below HW.out) k hlt
      subst hao
      have hbk := block_lt_of_cell c0
      have m0 := HM.out L[k] (List.getElem_mem hlt)
      have hNd := Lib.hid hN
      have HT := Lib.hid (show L.take (k + 1) = L.take k ++ [L[k]] from List.take_succ_eq_append_getElem hlt)
      have HO := Lib.hid hO
      have HB := Lib.hid hb
      clear hN hO hb
      go_wp2_with (first
        | (refine wpList_app_ints (o := ⟨some 19, _, _, _, _, _⟩) rfl (.tmp 13) (.tmp 18) rfl (B := wr.heap.size) (v := .slice (some ⟨wr.heap.size, 0, none⟩) 0 0) (D := []) rfl (OI.made wr (Nat.le_refl _)) (ao := ai) (cap := ci) (l := L[k]) rfl rfl (hNd.out.alloc _) (by simp; omega) (by simp) ?_; intro v1 w1 hI hg _; rw [List.nil_append] at hI; obtain ⟨a1, c1, hv1, hN1, hA1, _⟩ := hI.form; have HG := Lib.hid (below_app hg (fun k e => by cases e; exact Nat.le_refl _)); have HN1 := Lib.hid hN1; have HA1 := Lib.hid (HO.out.apart hsz hA1); clear hI hg hN1 hA1; subst hv1)
        | (refine wpList_app_chain (o := ⟨some 21, _, _, _, _, _⟩) (w := w1) rfl (.tmp 12) (.tmp 20) rfl (B := w.heap.size + 2) (v := u3) (L := L.take k) rfl (HO.out.below HG.out) (ai := a1) (ci := c1) (l := L[k]) rfl HN1.out HA1.out (by simp; omega) (Nat.le_trans hsz HG.out.size) ?_; intro v2 w2 hO2 hb2; rw [← HT.out] at hO2; have HO2 := Lib.hid hO2; have HB2 := Lib.hid ((HB.out.trans (HG.out.mono hsz)).trans hb2); clear hO2 hb2))
      go_roundw
      case rel => exact ⟨k + 1, by go_num, by omega, HO2.out, HB2.out⟩
      case measure => simp [intOf]; omega
    · obtain rfl : k = L.length := by omega
      rw [List.take_of_length_le (Nat.le_refl _)] at hO
      obtain ⟨bo, cb, rfl, hC2, hn2, hl2, ha2⟩ := hO.form
      have b0 : wr.cell? ⟨w.heap.size, 0, none⟩ = some (.int .i64 ep) := bcell0 hb (by simp) (by omega)
      have f1 : wr.frozen? ⟨w.heap.size, 1, none⟩ = false := bfree0 hb (by simp) (by omega)
      have r0 : wr.cell? ⟨w.heap.size + 1, 0, none⟩ = some (.int .i64 0) := bcell0 hb (by simp) (by omega)
      have r1 : wr.cell? ⟨w.heap.size + 1, 1, none⟩ = some (.slice none 0 0) := bcell0 hb (by simp) (by omega)
      have g0 : wr.frozen? ⟨w.heap.size + 1, 0, none⟩ = false := bfree0 hb (by simp) (by omega)
      have g1 : wr.frozen? ⟨w.heap.size + 1, 1, none⟩ = false := bfree0 hb (by simp) (by omega)
      have HR := Lib.hid ((hb.block (w.heap.size + 1) (by omega)).trans (show _ = some (.cells #[.int .i64 0, .slice none 0 0] 30 (0, 0)) by have := heap_alloc_new (w.alloc (.cells #[.int .i64 ep, .slice ao L.length cap] 30)) (.cells #[.int .i64 0, .slice none 0 0] 30); simpa using this))
      have HO := Lib.hid hO
      clear hO hC2 hn2 hl2 ha2 hb
      go_wp2_with fail
      have hR1 := two_set1 (two_set0 ((((Kept.refl (fun k => k = w.heap.size + 1) wr).setCell (p := ⟨w.heap.size, 1, none⟩) (by simp) (.slice bo L.length cb)).heap rfl HR.out)) (.int .i64 ep)) (.slice bo L.length cb)
      have hK := (((Kept.refl (fun k => w.heap.size + 2 ≤ k) wr).setCell (p := ⟨w.heap.size, 1, none⟩) (by simp) (.slice bo L.length cb)).setCell (p := ⟨w.heap.size + 1, 0, none⟩) (by simp) (.int .i64 ep)).setCell (p := ⟨w.heap.size + 1, 1, none⟩) (by simp) (.slice bo L.length cb)
      have hO2 := HO.out.keep hK (fun _ h _ => h)
      exact proj_ret rfl hR1 rfl rfl ⟨_, rfl, hO2.lower (by omega), ((HW.out.setCell (by simp) _).setCell (by simp) _).setCell (by simp) _⟩
end Go.Proofs.YthffjanidjjkdaaGreat
namespace Go.Proofs.YthffjanidjjkdaaGreat
set_option linter.unusedVariables false
open Go.RowKit
set_option maxRecDepth 20000
set_option maxHeartbeats 8000000 in
theorem odo_other (r : Nat) (G : Nat → Prop) (w : World) (o : Od) (a : Ak) (h : RO r G w o) (hk : a.kind ≠ 8 ∧ a.kind ≠ 6 ∧ a.kind ≠ 7) :
    Calls Tryz.prog 56 #[ptrO r, askV a] w fun e w' => e = .returned (ansV (o.ans a) none 0) ∧ Leaves (RO r) G w w' (o.done a) := by
  have ha : o.ans a = anP 1 0 noT o.epoch := by
    unfold Od.ans; rw [if_neg hk.1, if_neg (by omega)]
  have hd : o.done a = o := by
    unfold Od.done; rw [if_neg (fun h => hk.1 h.1), if_neg (fun h => hk.2.1 h.1)]
  rw [ha, hd]
  clear ha hd
  obtain ⟨k, un, ep, pg, sz, n, s, pe, L, ao, cap⟩ := a
  obtain ⟨oe, ot, ok⟩ := o
  simp only at *
  have HS := Lib.hid (show OdW w (((w.alloc (.cells #[.int .i64 k, .int .i64 un, .int .i64 ep, .int .i64 pg, .int .i64 sz, .int .i64 n, .string s, .int .i64 pe, .slice ao L.length cap] 62)).alloc (.cells #[.int .i64 0, .int .i64 0, .string ⟨#[]⟩, .int .i64 0, .slice none 0 0, .int .i64 0, .int .i64 0, .int .i64 0] 58)).alloc (.cells #[.int .i64 0, .int .i64 0, .string ⟨#[]⟩, .int .i64 0, .slice none 0 0, .int .i64 0, .int .i64 0, .int .i64 oe] 58)) r ⟨oe, ot, ok⟩ ⟨k, un, ep, pg, sz, n, s, pe, L, ao, cap⟩ #[.int .i64 0, .int .i64 0, .string ⟨#[]⟩, .int .i64 0, .slice none 0 0, .int .i64 0, .int .i64 0, .int .i64 oe] from od_start h ⟨k, un, ep, pg, sz, n, s, pe, L, ao, cap⟩ #[.int .i64 0, .int .i64 0, .string ⟨#[]⟩, .int .i64 0, .slice none 0 0, .int .i64 0, .int .i64 0, .int .i64 oe])
  have d8 : (k == 8) = false := beq_eq_false_iff_ne.2 hk.1
  have d6 : (k == 6) = false := beq_eq_false_iff_ne.2 hk.2.1
  have d7 : (k == 7) = false := beq_eq_false_iff_ne.2 hk.2.2
  clear hk
  have HR := Lib.hid h
  have HOK := Lib.hid h.1
  have HG := Lib.hid h.2.2
  obtain ⟨h0, h1, h2⟩ := h
  simp only at h1
  have hlt := lt_of_block h1
  obtain ⟨c0, c1, c2, _⟩ := three_cells h1
  clear h0 h1 h2
  show Calls _ _ #[.pointer (some ⟨r, 0, none⟩), .agg #[.int .i64 k, .int .i64 un, .int .i64 ep, .int .i64 pg, .int .i64 sz, .int .i64 n, .string s, .int .i64 pe, .slice ao L.length cap]] w _
  go_enter Tryz.func56, Tryz.ntmps56
  go_wp2_with fail
  exact ans_ret (x := anP 1 0 noT oe) (ao := none) (cap := 0) rfl (below_heap ((Below.refl _ _).alloc (Nat.le_refl _) _) (two_blocks w _ _ _ _).2) rfl rfl ⟨rfl, Leaves.same (ro_thing r) HR.out ((((Below.refl w.heap.size w).alloc (Nat.le_refl _) _).alloc (by simp) _).alloc (by simp; omega) _)⟩
set_option maxHeartbeats 8000000 in
theorem odo_old (r : Nat) (G : Nat → Prop) (w : World) (o : Od) (a : Ak) (h : RO r G w o) (hk : a.kind = 8) (he : a.epoch ≤ o.epoch) :
    Calls Tryz.prog 56 #[ptrO r, askV a] w fun e w' => e = .returned (ansV (o.ans a) none 0) ∧ Leaves (RO r) G w w' (o.done a) := by
  have ha : o.ans a = anP 40 0 noT o.epoch := by
    unfold Od.ans; rw [if_pos hk, if_pos he]
  have hd : o.done a = o := by
    unfold Od.done; rw [if_neg (fun h => by have := h.2.1; omega), if_neg (fun h => by have := h.1; omega)]
  rw [ha, hd]
  clear ha hd
  obtain ⟨k, un, ep, pg, sz, n, s, pe, L, ao, cap⟩ := a
  obtain ⟨oe, ot, ok⟩ := o
  simp only at *
  have HS := Lib.hid (show OdW w (((w.alloc (.cells #[.int .i64 k, .int .i64 un, .int .i64 ep, .int .i64 pg, .int .i64 sz, .int .i64 n, .string s, .int .i64 pe, .slice ao L.length cap] 62)).alloc (.cells #[.int .i64 0, .int .i64 0, .string ⟨#[]⟩, .int .i64 0, .slice none 0 0, .int .i64 0, .int .i64 0, .int .i64 0] 58)).alloc (.cells #[.int .i64 0, .int .i64 0, .string ⟨#[]⟩, .int .i64 0, .slice none 0 0, .int .i64 0, .int .i64 0, .int .i64 oe] 58)) r ⟨oe, ot, ok⟩ ⟨k, un, ep, pg, sz, n, s, pe, L, ao, cap⟩ #[.int .i64 0, .int .i64 0, .string ⟨#[]⟩, .int .i64 0, .slice none 0 0, .int .i64 0, .int .i64 0, .int .i64 oe] from od_start h ⟨k, un, ep, pg, sz, n, s, pe, L, ao, cap⟩ #[.int .i64 0, .int .i64 0, .string ⟨#[]⟩, .int .i64 0, .slice none 0 0, .int .i64 0, .int .i64 0, .int .i64 oe])
  have d8 : (k == 8) = true := by rw [hk]; rfl
  clear hk
  have HR := Lib.hid h
  have HOK := Lib.hid h.1
  have HG := Lib.hid h.2.2
  obtain ⟨h0, h1, h2⟩ := h
  simp only at h1
  have hlt := lt_of_block h1
  obtain ⟨c0, c1, c2, _⟩ := three_cells h1
  clear h0 h1 h2
  show Calls _ _ #[.pointer (some ⟨r, 0, none⟩), .agg #[.int .i64 k, .int .i64 un, .int .i64 ep, .int .i64 pg, .int .i64 sz, .int .i64 n, .string s, .int .i64 pe, .slice ao L.length cap]] w _
  go_enter Tryz.func56, Tryz.ntmps56
  go_wp2_with fail
  generalize hW0 : ((w.alloc (.cells #[.int .i64 k, .int .i64 un, .int .i64 ep, .int .i64 pg, .int .i64 sz, .int .i64 n, .string s, .int .i64 pe, .slice ao L.length cap] 62)).alloc (.cells #[.int .i64 0, .int .i64 0, .string ⟨#[]⟩, .int .i64 0, .slice none 0 0, .int .i64 0, .int .i64 0, .int .i64 0] 58)).alloc (.cells #[.int .i64 0, .int .i64 0, .string ⟨#[]⟩, .int .i64 0, .slice none 0 0, .int .i64 0, .int .i64 0, .int .i64 oe] 58) = W0 at *
  clear c0 c1 c2 hlt hW0
  obtain ⟨l1, l2, l3, l4⟩ := HS.out.small
  have x2 : W0.cell? ⟨w.heap.size, 2, none⟩ = some (.int .i64 ep) := cell_of HS.out.ask 2
  obtain ⟨c0, c1, c2, _⟩ := three_cells HS.out.ob
  have hr := lt_of_block HS.out.ob
  have HSN := Lib.hid (fun n => HS.out.drewN n)
  clear HS
  go_quiet (fail)
  have HT := Lib.hid (HSN.out nq)
  generalize hW1 : World.drewN W0 nq = W1 at *
  clear hW1 HSN x2 c0 c1 c2 hr l1 l2 l3 l4
  obtain ⟨l1, l2, l3, l4⟩ := HT.out.small
  obtain ⟨⟨y0, y1, y2, y3, y4, y5, y6, y7⟩, fy0, fy1, fy2, fy3, fy4, fy5, fy6, fy7⟩ := eight_cells HT.out.ans
  obtain ⟨⟨z0, z1, z2, z3, z4, z5, z6, z7⟩, fz0, fz1, fz2, fz3, fz4, fz5, fz6, fz7⟩ := eight_cells HT.out.zero
  obtain ⟨c0, c1, c2, f0, f1, f2⟩ := three_cells HT.out.ob
  have x0 : W1.cell? ⟨w.heap.size, 0, none⟩ = some (.int .i64 k) := cell_of HT.out.ask 0
  have x2 : W1.cell? ⟨w.heap.size, 2, none⟩ = some (.int .i64 ep) := cell_of HT.out.ask 2
  have x3 : W1.cell? ⟨w.heap.size, 3, none⟩ = some (.int .i64 pg) := cell_of HT.out.ask 3
  go_wp2_with fail
  exact ans_ret (x := anP 40 0 noT oe) (ao := none) (cap := 0) rfl ((HT.out.put 0 (.int .i64 40)).fin HOK.out HG.out).1 rfl rfl ⟨rfl, ((HT.out.put 0 (.int .i64 40)).fin HOK.out HG.out).2⟩
set_option maxHeartbeats 8000000 in
theorem odo_low (r : Nat) (G : Nat → Prop) (w : World) (o : Od) (a : Ak) (h : RO r G w o) (hk : a.kind = 8) (he : o.epoch < a.epoch) (hp : a.page < 0) :
    Calls Tryz.prog 56 #[ptrO r, askV a] w fun e w' => e = .returned (ansV (o.ans a) none 0) ∧ Leaves (RO r) G w w' (o.done a) := by
  have ha : o.ans a = anP 1 0 noT o.epoch := by
    unfold Od.ans; rw [if_pos hk, if_neg (by omega), if_pos (.inl hp)]
  have hd : o.done a = o := by
    unfold Od.done; rw [if_neg (fun h => by have := h.2.2.1; omega), if_neg (fun h => by have := h.1; omega)]
  rw [ha, hd]
  clear ha hd
  obtain ⟨k, un, ep, pg, sz, n, s, pe, L, ao, cap⟩ := a
  obtain ⟨oe, ot, ok⟩ := o
  simp only at *
  have HS := Lib.hid (show OdW w (((w.alloc (.cells #[.int .i64 k, .int .i64 un, .int .i64 ep, .int .i64 pg, .int .i64 sz, .int .i64 n, .string s, .int .i64 pe, .slice ao L.length cap] 62)).alloc (.cells #[.int .i64 0, .int .i64 0, .string ⟨#[]⟩, .int .i64 0, .slice none 0 0, .int .i64 0, .int .i64 0, .int .i64 0] 58)).alloc (.cells #[.int .i64 0, .int .i64 0, .string ⟨#[]⟩, .int .i64 0, .slice none 0 0, .int .i64 0, .int .i64 0, .int .i64 oe] 58)) r ⟨oe, ot, ok⟩ ⟨k, un, ep, pg, sz, n, s, pe, L, ao, cap⟩ #[.int .i64 0, .int .i64 0, .string ⟨#[]⟩, .int .i64 0, .slice none 0 0, .int .i64 0, .int .i64 0, .int .i64 oe] from od_start h ⟨k, un, ep, pg, sz, n, s, pe, L, ao, cap⟩ #[.int .i64 0, .int .i64 0, .string ⟨#[]⟩, .int .i64 0, .slice none 0 0, .int .i64 0, .int .i64 0, .int .i64 oe])
  have d8 : (k == 8) = true := by rw [hk]; rfl
  clear hk
  have HR := Lib.hid h
  have HOK := Lib.hid h.1
  have HG := Lib.hid h.2.2
  obtain ⟨h0, h1, h2⟩ := h
  simp only at h1
  have hlt := lt_of_block h1
  obtain ⟨c0, c1, c2, _⟩ := three_cells h1
  clear h0 h1 h2
  show Calls _ _ #[.pointer (some ⟨r, 0, none⟩), .agg #[.int .i64 k, .int .i64 un, .int .i64 ep, .int .i64 pg, .int .i64 sz, .int .i64 n, .string s, .int .i64 pe, .slice ao L.length cap]] w _
  go_enter Tryz.func56, Tryz.ntmps56
  go_wp2_with fail
  generalize hW0 : ((w.alloc (.cells #[.int .i64 k, .int .i64 un, .int .i64 ep, .int .i64 pg, .int .i64 sz, .int .i64 n, .string s, .int .i64 pe, .slice ao L.length cap] 62)).alloc (.cells #[.int .i64 0, .int .i64 0, .string ⟨#[]⟩, .int .i64 0, .slice none 0 0, .int .i64 0, .int .i64 0, .int .i64 0] 58)).alloc (.cells #[.int .i64 0, .int .i64 0, .string ⟨#[]⟩, .int .i64 0, .slice none 0 0, .int .i64 0, .int .i64 0, .int .i64 oe] 58) = W0 at *
  clear c0 c1 c2 hlt hW0
  obtain ⟨l1, l2, l3, l4⟩ := HS.out.small
  have x2 : W0.cell? ⟨w.heap.size, 2, none⟩ = some (.int .i64 ep) := cell_of HS.out.ask 2
  obtain ⟨c0, c1, c2, _⟩ := three_cells HS.out.ob
  have hr := lt_of_block HS.out.ob
  have HSN := Lib.hid (fun n => HS.out.drewN n)
  clear HS
  go_quiet (fail)
  have HT := Lib.hid (HSN.out nq)
  generalize hW1 : World.drewN W0 nq = W1 at *
  clear hW1 HSN x2 c0 c1 c2 hr l1 l2 l3 l4
  obtain ⟨l1, l2, l3, l4⟩ := HT.out.small
  obtain ⟨⟨y0, y1, y2, y3, y4, y5, y6, y7⟩, fy0, fy1, fy2, fy3, fy4, fy5, fy6, fy7⟩ := eight_cells HT.out.ans
  obtain ⟨⟨z0, z1, z2, z3, z4, z5, z6, z7⟩, fz0, fz1, fz2, fz3, fz4, fz5, fz6, fz7⟩ := eight_cells HT.out.zero
  obtain ⟨c0, c1, c2, f0, f1, f2⟩ := three_cells HT.out.ob
  have x0 : W1.cell? ⟨w.heap.size, 0, none⟩ = some (.int .i64 k) := cell_of HT.out.ask 0
  have x2 : W1.cell? ⟨w.heap.size, 2, none⟩ = some (.int .i64 ep) := cell_of HT.out.ask 2
  have x3 : W1.cell? ⟨w.heap.size, 3, none⟩ = some (.int .i64 pg) := cell_of HT.out.ask 3
  go_wp2_with fail
  exact ans_ret (x := anP 1 0 noT oe) (ao := none) (cap := 0) rfl ((HT.out.put 0 (.int .i64 1)).fin HOK.out HG.out).1 rfl rfl ⟨rfl, ((HT.out.put 0 (.int .i64 1)).fin HOK.out HG.out).2⟩
set_option maxHeartbeats 8000000 in
theorem odo_high (r : Nat) (G : Nat → Prop) (w : World) (o : Od) (a : Ak) (h : RO r G w o) (hk : a.kind = 8) (he : o.epoch < a.epoch) (hp : 16384 < a.page) :
    Calls Tryz.prog 56 #[ptrO r, askV a] w fun e w' => e = .returned (ansV (o.ans a) none 0) ∧ Leaves (RO r) G w w' (o.done a) := by
  have ha : o.ans a = anP 1 0 noT o.epoch := by
    unfold Od.ans; rw [if_pos hk, if_neg (by omega), if_pos (.inr hp)]
  have hd : o.done a = o := by
    unfold Od.done; rw [if_neg (fun h => by have := h.2.2.2; omega), if_neg (fun h => by have := h.1; omega)]
  rw [ha, hd]
  clear ha hd
  obtain ⟨k, un, ep, pg, sz, n, s, pe, L, ao, cap⟩ := a
  obtain ⟨oe, ot, ok⟩ := o
  simp only at *
  have HS := Lib.hid (show OdW w (((w.alloc (.cells #[.int .i64 k, .int .i64 un, .int .i64 ep, .int .i64 pg, .int .i64 sz, .int .i64 n, .string s, .int .i64 pe, .slice ao L.length cap] 62)).alloc (.cells #[.int .i64 0, .int .i64 0, .string ⟨#[]⟩, .int .i64 0, .slice none 0 0, .int .i64 0, .int .i64 0, .int .i64 0] 58)).alloc (.cells #[.int .i64 0, .int .i64 0, .string ⟨#[]⟩, .int .i64 0, .slice none 0 0, .int .i64 0, .int .i64 0, .int .i64 oe] 58)) r ⟨oe, ot, ok⟩ ⟨k, un, ep, pg, sz, n, s, pe, L, ao, cap⟩ #[.int .i64 0, .int .i64 0, .string ⟨#[]⟩, .int .i64 0, .slice none 0 0, .int .i64 0, .int .i64 0, .int .i64 oe] from od_start h ⟨k, un, ep, pg, sz, n, s, pe, L, ao, cap⟩ #[.int .i64 0, .int .i64 0, .string ⟨#[]⟩, .int .i64 0, .slice none 0 0, .int .i64 0, .int .i64 0, .int .i64 oe])
  have d8 : (k == 8) = true := by rw [hk]; rfl
  clear hk
  have hp0 : 0 ≤ pg := by omega
  have HR := Lib.hid h
  have HOK := Lib.hid h.1
  have HG := Lib.hid h.2.2
  obtain ⟨h0, h1, h2⟩ := h
  simp only at h1
  have hlt := lt_of_block h1
  obtain ⟨c0, c1, c2, _⟩ := three_cells h1
  clear h0 h1 h2
  show Calls _ _ #[.pointer (some ⟨r, 0, none⟩), .agg #[.int .i64 k, .int .i64 un, .int .i64 ep, .int .i64 pg, .int .i64 sz, .int .i64 n, .string s, .int .i64 pe, .slice ao L.length cap]] w _
  go_enter Tryz.func56, Tryz.ntmps56
  go_wp2_with fail
  generalize hW0 : ((w.alloc (.cells #[.int .i64 k, .int .i64 un, .int .i64 ep, .int .i64 pg, .int .i64 sz, .int .i64 n, .string s, .int .i64 pe, .slice ao L.length cap] 62)).alloc (.cells #[.int .i64 0, .int .i64 0, .string ⟨#[]⟩, .int .i64 0, .slice none 0 0, .int .i64 0, .int .i64 0, .int .i64 0] 58)).alloc (.cells #[.int .i64 0, .int .i64 0, .string ⟨#[]⟩, .int .i64 0, .slice none 0 0, .int .i64 0, .int .i64 0, .int .i64 oe] 58) = W0 at *
  clear c0 c1 c2 hlt hW0
  obtain ⟨l1, l2, l3, l4⟩ := HS.out.small
  have x2 : W0.cell? ⟨w.heap.size, 2, none⟩ = some (.int .i64 ep) := cell_of HS.out.ask 2
  obtain ⟨c0, c1, c2, _⟩ := three_cells HS.out.ob
  have hr := lt_of_block HS.out.ob
  have HSN := Lib.hid (fun n => HS.out.drewN n)
  clear HS
  go_quiet (fail)
  have HT := Lib.hid (HSN.out nq)
  generalize hW1 : World.drewN W0 nq = W1 at *
  clear hW1 HSN x2 c0 c1 c2 hr l1 l2 l3 l4
  obtain ⟨l1, l2, l3, l4⟩ := HT.out.small
  obtain ⟨⟨y0, y1, y2, y3, y4, y5, y6, y7⟩, fy0, fy1, fy2, fy3, fy4, fy5, fy6, fy7⟩ := eight_cells HT.out.ans
  obtain ⟨⟨z0, z1, z2, z3, z4, z5, z6, z7⟩, fz0, fz1, fz2, fz3, fz4, fz5, fz6, fz7⟩ := eight_cells HT.out.zero
  obtain ⟨c0, c1, c2, f0, f1, f2⟩ := three_cells HT.out.ob
  have x0 : W1.cell? ⟨w.heap.size, 0, none⟩ = some (.int .i64 k) := cell_of HT.out.ask 0
  have x2 : W1.cell? ⟨w.heap.size, 2, none⟩ = some (.int .i64 ep) := cell_of HT.out.ask 2
  have x3 : W1.cell? ⟨w.heap.size, 3, none⟩ = some (.int .i64 pg) := cell_of HT.out.ask 3
  go_wp2_with fail
  exact ans_ret (x := anP 1 0 noT oe) (ao := none) (cap := 0) rfl ((HT.out.put 0 (.int .i64 1)).fin HOK.out HG.out).1 rfl rfl ⟨rfl, ((HT.out.put 0 (.int .i64 1)).fin HOK.out HG.out).2⟩
end Go.Proofs.YthffjanidjjkdaaGreat
namespace Go.Proofs.YthffjanidjjkdaaGreat
set_option linter.unusedVariables false
open Go.RowKit
set_option maxRecDepth 20000
set_option maxHeartbeats 8000000 in
theorem odo_start (r : Nat) (G : Nat → Prop) (w : World) (o : Od) (a : Ak) (h : RO r G w o) (hk : a.kind = 8) (he : o.epoch < a.epoch) (hp : 0 ≤ a.page ∧ a.page ≤ 16384) (hw : i64w a.epoch) :
    Calls Tryz.prog 56 #[ptrO r, askV a] w fun e w' => e = .returned (ansV (o.ans a) none 0) ∧ Leaves (RO r) G w w' (o.done a) := by
  have ha : o.ans a = anP 0 0 noT a.epoch := by
    unfold Od.ans; rw [if_pos hk, if_neg (by omega), if_neg (by omega)]
  have hd : o.done a = ⟨a.epoch, a.page, true⟩ := by
    unfold Od.done; rw [if_pos ⟨hk, he, hp⟩]
  rw [ha, hd]
  clear ha hd
  obtain ⟨k, un, ep, pg, sz, n, s, pe, L, ao, cap⟩ := a
  obtain ⟨oe, ot, ok⟩ := o
  simp only at *
  have HS := Lib.hid (show OdW w (((w.alloc (.cells #[.int .i64 k, .int .i64 un, .int .i64 ep, .int .i64 pg, .int .i64 sz, .int .i64 n, .string s, .int .i64 pe, .slice ao L.length cap] 62)).alloc (.cells #[.int .i64 0, .int .i64 0, .string ⟨#[]⟩, .int .i64 0, .slice none 0 0, .int .i64 0, .int .i64 0, .int .i64 0] 58)).alloc (.cells #[.int .i64 0, .int .i64 0, .string ⟨#[]⟩, .int .i64 0, .slice none 0 0, .int .i64 0, .int .i64 0, .int .i64 oe] 58)) r ⟨oe, ot, ok⟩ ⟨k, un, ep, pg, sz, n, s, pe, L, ao, cap⟩ #[.int .i64 0, .int .i64 0, .string ⟨#[]⟩, .int .i64 0, .slice none 0 0, .int .i64 0, .int .i64 0, .int .i64 oe] from od_start h ⟨k, un, ep, pg, sz, n, s, pe, L, ao, cap⟩ #[.int .i64 0, .int .i64 0, .string ⟨#[]⟩, .int .i64 0, .slice none 0 0, .int .i64 0, .int .i64 0, .int .i64 oe])
  have d8 : (k == 8) = true := by rw [hk]; rfl
  clear hk
  obtain ⟨hp0, hp1⟩ := hp
  have HP := Lib.hid (show 0 ≤ pg ∧ pg ≤ 16384 from ⟨hp0, hp1⟩)
  have HW := Lib.hid hw
  clear hw
  have HR := Lib.hid h
  have HOK := Lib.hid h.1
  have HG := Lib.hid h.2.2
  obtain ⟨h0, h1, h2⟩ := h
  simp only at h1
  have hlt := lt_of_block h1
  obtain ⟨c0, c1, c2, _⟩ := three_cells h1
  clear h0 h1 h2
  show Calls _ _ #[.pointer (some ⟨r, 0, none⟩), .agg #[.int .i64 k, .int .i64 un, .int .i64 ep, .int .i64 pg, .int .i64 sz, .int .i64 n, .string s, .int .i64 pe, .slice ao L.length cap]] w _
  go_enter Tryz.func56, Tryz.ntmps56
  go_wp2_with fail
  generalize hW0 : ((w.alloc (.cells #[.int .i64 k, .int .i64 un, .int .i64 ep, .int .i64 pg, .int .i64 sz, .int .i64 n, .string s, .int .i64 pe, .slice ao L.length cap] 62)).alloc (.cells #[.int .i64 0, .int .i64 0, .string ⟨#[]⟩, .int .i64 0, .slice none 0 0, .int .i64 0, .int .i64 0, .int .i64 0] 58)).alloc (.cells #[.int .i64 0, .int .i64 0, .string ⟨#[]⟩, .int .i64 0, .slice none 0 0, .int .i64 0, .int .i64 0, .int .i64 oe] 58) = W0 at *
  clear c0 c1 c2 hlt hW0
  obtain ⟨l1, l2, l3, l4⟩ := HS.out.small
  have x2 : W0.cell? ⟨w.heap.size, 2, none⟩ = some (.int .i64 ep) := cell_of HS.out.ask 2
  obtain ⟨c0, c1, c2, _⟩ := three_cells HS.out.ob
  have hr := lt_of_block HS.out.ob
  have HSN := Lib.hid (fun n => HS.out.drewN n)
  clear HS
  go_quiet (fail)
  have HT := Lib.hid (HSN.out nq)
  generalize hW1 : World.drewN W0 nq = W1 at *
  clear hW1 HSN x2 c0 c1 c2 hr l1 l2 l3 l4
  obtain ⟨l1, l2, l3, l4⟩ := HT.out.small
  obtain ⟨⟨y0, y1, y2, y3, y4, y5, y6, y7⟩, fy0, fy1, fy2, fy3, fy4, fy5, fy6, fy7⟩ := eight_cells HT.out.ans
  obtain ⟨⟨z0, z1, z2, z3, z4, z5, z6, z7⟩, fz0, fz1, fz2, fz3, fz4, fz5, fz6, fz7⟩ := eight_cells HT.out.zero
  obtain ⟨c0, c1, c2, f0, f1, f2⟩ := three_cells HT.out.ob
  have x0 : W1.cell? ⟨w.heap.size, 0, none⟩ = some (.int .i64 k) := cell_of HT.out.ask 0
  have x2 : W1.cell? ⟨w.heap.size, 2, none⟩ = some (.int .i64 ep) := cell_of HT.out.ask 2
  have x3 : W1.cell? ⟨w.heap.size, 3, none⟩ = some (.int .i64 pg) := cell_of HT.out.ask 3
  go_wp2_with fail
  have HE := Lib.hid ((((HT.out.set0 ep).set1 pg).set2 true).put 7 (.int .i64 ep))
  go_region
  go_wp2_with fail
  exact ans_ret (x := anP 0 0 noT ep) (ao := none) (cap := 0) rfl (below_heap (Below.refl _ _).drew (HE.out.fin ⟨HW.out, HP.out⟩ HG.out).1) rfl rfl ⟨rfl, (HE.out.fin ⟨HW.out, HP.out⟩ HG.out).2.below (ro_thing r) (Below.refl _ _).drew⟩
end Go.Proofs.YthffjanidjjkdaaGreat
namespace Go.Proofs.YthffjanidjjkdaaGreat
open Go.RowKit
set_option maxRecDepth 20000
def ptrP (b : Nat) : Value := .pointer (some ⟨b, 0, none⟩)
def wide (a : Int) : Prop := -9223372036854775808 ≤ a ∧ a ≤ 9223372036854775807
/-- PG G w b p: in world w block b is the program's object of the pages p; it and all that it owns lie in G. The program's functions return what is said here -/
structure PageSays (PG : (Nat → Prop) → World → Nat → Ps → Prop) : Prop where
  lt : ∀ {G : Nat → Prop} {w : World} {b : Nat} {p : Ps}, PG G w b p → ∀ k, G k → k < w.heap.size
  keep : ∀ {G T : Nat → Prop} {w w' : World} {b : Nat} {p : Ps}, PG G w b p → Kept T w w' → (∀ k, G k → T k) → PG G w' b p
  new_yes : ∀ (room : Int) (w : World), 1 ≤ room ∧ room ≤ 4096 → Calls Tryz.prog 67 #[.int .i64 room] w fun e w' => ∃ (b : Nat) (G : Nat → Prop), e = .returned (.tuple #[ptrP b, .int .i64 0]) ∧ PG G w' b (newP room) ∧ (∀ k, G k → w.heap.size ≤ k) ∧ Below w.heap.size w w'
  new_no : ∀ (room : Int) (w : World), room < 1 ∨ 4096 < room → wide room → Calls Tryz.prog 67 #[.int .i64 room] w fun e w' => e = .returned (.tuple #[.pointer none, .int .i64 1]) ∧ Below w.heap.size w w'
  write : ∀ (G : Nat → Prop) (w : World) (b : Nat) (p : Ps) (a : Int) (s : ByteArray), PG G w b p → p.Ok → wide a → s.size ≤ 1000000 → Calls Tryz.prog 150 #[ptrP b, .int .i64 a, .string s] w fun e w' => e = .returned (.int .i64 (p.writeE a s)) ∧ Left PG G w w' b (p.write a s)
  fill : ∀ (G : Nat → Prop) (w : World) (b : Nat) (p : Ps) (a : Int), PG G w b p → p.Ok → wide a → Calls Tryz.prog 151 #[ptrP b, .int .i64 a] w fun e w' => e = .returned (.int .i64 (p.fillE a)) ∧ Left PG G w w' b (p.fill a)
  trim : ∀ (G : Nat → Prop) (w : World) (b : Nat) (p : Ps) (a : Int), PG G w b p → p.Ok → wide a → Calls Tryz.prog 152 #[ptrP b, .int .i64 a] w fun e w' => e = .returned (.int .i64 (Ps.trimE a)) ∧ Left PG G w w' b (p.trim a)
  read : ∀ (G : Nat → Prop) (w : World) (b : Nat) (p : Ps) (a : Int), PG G w b p → p.Ok → wide a → Calls Tryz.prog 18 #[ptrP b, .int .i64 a] w fun e w' => e = .returned (.tuple #[.string (p.readS a), .int .i64 (p.readE a)]) ∧ Below w.heap.size w w'
  kind : ∀ (G : Nat → Prop) (w : World) (b : Nat) (p : Ps) (a : Int), PG G w b p → p.Ok → wide a → Calls Tryz.prog 20 #[ptrP b, .int .i64 a] w fun e w' => e = .returned (.int .i64 (p.kind a)) ∧ Below w.heap.size w w'
  tail : ∀ (G : Nat → Prop) (w : World) (b : Nat) (p : Ps), PG G w b p → p.Ok → Calls Tryz.prog 153 #[ptrP b] w fun e w' => e = .returned (.int .i64 p.tail) ∧ Below w.heap.size w w'
  used : ∀ (G : Nat → Prop) (w : World) (b : Nat) (p : Ps), PG G w b p → p.Ok → Calls Tryz.prog 22 #[ptrP b] w fun e w' => e = .returned (.int .i64 p.l.length) ∧ Below w.heap.size w w'
  nil_write : ∀ (a : Int) (s : ByteArray) (w : World), s.size ≤ maxLen → Calls Tryz.prog 150 #[.pointer none, .int .i64 a, .string s] w fun e w' => e = .returned (.int .i64 1) ∧ Below w.heap.size w w'
  nil_fill : ∀ (a : Int) (w : World), Calls Tryz.prog 151 #[.pointer none, .int .i64 a] w fun e w' => e = .returned (.int .i64 1) ∧ Below w.heap.size w w'
  nil_trim : ∀ (a : Int) (w : World), Calls Tryz.prog 152 #[.pointer none, .int .i64 a] w fun e w' => e = .returned (.int .i64 1) ∧ Below w.heap.size w w'
  nil_read : ∀ (a : Int) (w : World), Calls Tryz.prog 18 #[.pointer none, .int .i64 a] w fun e w' => e = .returned (.tuple #[.string ⟨#[]⟩, .int .i64 1]) ∧ Below w.heap.size w w'
  nil_kind : ∀ (a : Int) (w : World), Calls Tryz.prog 20 #[.pointer none, .int .i64 a] w fun e w' => e = .returned (.int .i64 0) ∧ Below w.heap.size w w'
  nil_tail : ∀ (w : World), Calls Tryz.prog 153 #[.pointer none] w fun e w' => e = .returned (.int .i64 0) ∧ Below w.heap.size w w'
  nil_used : ∀ (w : World), Calls Tryz.prog 22 #[.pointer none] w fun e w' => e = .returned (.int .i64 0) ∧ Below w.heap.size w w'
/-- the object, and that it lies above a bound: what a law carries along -/
def Up (PG : (Nat → Prop) → World → Nat → Ps → Prop) (B : Nat) (w0 w : World) (b : Nat) (p : Ps) : Prop := p.Ok ∧ Below B w0 w ∧ B ≤ w.heap.size ∧ ∃ G : Nat → Prop, PG G w b p ∧ ∀ k, G k → B ≤ k
theorem Up.below {PG : (Nat → Prop) → World → Nat → Ps → Prop} (HS : PageSays PG) {B : Nat} {w0 w w' : World} {b : Nat} {p : Ps} (h : Up PG B w0 w b p) (hb : Below w.heap.size w w') : Up PG B w0 w' b p := by
  obtain ⟨h1, h2, h3, G, h4, h5⟩ := h
  exact ⟨h1, h2.trans (hb.mono h3), Nat.le_trans h3 hb.size, G, HS.keep h4 (Kept.ofBelow hb (fun _ => True)) (fun _ _ => trivial), h5⟩
section
variable {PG : (Nat → Prop) → World → Nat → Ps → Prop} {B : Nat} {w0 w : World} {b : Nat} {p : Ps}
end
end Go.Proofs.YthffjanidjjkdaaGreat
