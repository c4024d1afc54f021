/- The program's own Copy makes a copy in new memory, each of its rows in a place of its own. Conditions: the projection lies where the call was told, and is not too large. What the program's sequencer answers a question that looks, or that is none of its. Conditions: it and the question lie where the call was told. What the program's own New, isNone, Kind, Used and Edge return. Conditions: the object lies where the call was told. Plain facts on an append whose questions come to nodes, or do not, while nobody else asks anything: what all of them keep, and that it is over within a few once it is heard. No conditions but those that the statements name. Plain facts on a unit that pages are written to: they are read as they were written. A slice of bytes that was handed over. No conditions. Rows of pairs of numbers: what their cells hold; rows of such pairs that a call makes for itself by append. No conditions. -/
import Derived.Test.YthffjanidjjkdaaGreatG10b
set_option linter.unusedVariables false
namespace Go.Proofs.YthffjanidjjkdaaGreat
open Go.RowKit
set_option linter.unusedVariables false
set_option maxRecDepth 20000
theorem OC.ofCP {w : World} {B : Nat} {v : Value} {vs : List Value} {L : List (List Int)} (h : CP w B v vs L) : OC w B v L := by
  refine ⟨vs, h.1, fun i hi => ?_⟩
  have hv : i < vs.length := by rw [h.2.1]; exact hi
  obtain ⟨h1, h2⟩ := h.2.2.1 i hi vs[i] (List.getElem?_eq_getElem hv)
  obtain ⟨ao, cap, e, hN, hA, ho⟩ := h1.form
  exact ⟨ao, cap, by rw [List.getElem?_eq_getElem hv, e], hN, fun a ea => ⟨(hA a ea).1, (hA a ea).2, h2 a.block (by rw [ho, ea]; rfl)⟩⟩
set_option maxHeartbeats 8000000 in
theorem copyO_any (ep : Int) (ao : Option Addr) (cap : Nat) (L : List (List Int)) (w : World) (hT : CL w ao L) (hS : L.length ≤ 255 ∧ ∀ c ∈ L, c.length ≤ 255) :
    Calls Tryz.prog 45 #[.agg #[.int .i64 ep, .slice ao L.length cap]] w fun e w' => ∃ v, e = .returned (.agg #[.int .i64 ep, v]) ∧ OC w' w.heap.size v L ∧ Below w.heap.size w w' := by
  have HB0 := Lib.hid ((((Below.refl w.heap.size w).alloc (Nat.le_refl _) (.cells #[.int .i64 ep, .slice ao L.length cap] 30)).alloc (by simp) (.cells #[.int .i64 0, .slice none 0 0] 30)).alloc (by simp; omega) (.cells #[.int .i64 ep, .slice none 0 0] 30))
  have hl' : (L.length : Int) ≤ 255 := by have := hS.1; omega
  have HT := Lib.hid hT
  have HM := Lib.hid hS
  have HRES := Lib.hid (show ((((w.alloc (.cells #[.int .i64 ep, .slice ao L.length cap] 30)).alloc (.cells #[.int .i64 0, .slice none 0 0] 30)).alloc (.cells #[.int .i64 ep, .slice none 0 0] 30))).heap[w.heap.size + 1]? = some (.cells #[.int .i64 0, .slice none 0 0] 30 (0, 0)) from by
    have h := heap_alloc_new (w.alloc (.cells #[.int .i64 ep, .slice ao L.length cap] 30)) (.cells #[.int .i64 0, .slice none 0 0] 30)
    have h2 := below_heap ((Below.refl _ _).alloc (Nat.le_refl _) (.cells #[.int .i64 ep, .slice none 0 0] 30)) h
    simpa using h2)
  have HQ0 := Lib.hid (show ((((w.alloc (.cells #[.int .i64 ep, .slice ao L.length cap] 30)).alloc (.cells #[.int .i64 0, .slice none 0 0] 30)).alloc (.cells #[.int .i64 ep, .slice none 0 0] 30))).heap[w.heap.size + 2]? = some (.cells #[.int .i64 ep, .slice none 0 0] 30 (0, 0)) from by
    have h := heap_alloc_new ((w.alloc (.cells #[.int .i64 ep, .slice ao L.length cap] 30)).alloc (.cells #[.int .i64 0, .slice none 0 0] 30)) (.cells #[.int .i64 ep, .slice none 0 0] 30)
    simpa using h)
  have HSZ := Lib.hid (show ((((w.alloc (.cells #[.int .i64 ep, .slice ao L.length cap] 30)).alloc (.cells #[.int .i64 0, .slice none 0 0] 30)).alloc (.cells #[.int .i64 ep, .slice none 0 0] 30))).heap.size = w.heap.size + 3 from by simp)
  clear hT hS
  go_enter Tryz.func45, Tryz.ntmps45
  go_wp2_with fail
  generalize hW0 : World.alloc (World.alloc _ _) _ = W0 at *
  go_loopw [12] (fun i wr => ∃ (n : Nat) (v : Value) (vs : List Value), i = .int .i64 n ∧ n ≤ L.length ∧ Hid (wr.heap[w.heap.size + 2]? = some (.cells #[.int .i64 ep, v] 30 (0, 0))) ∧ Hid (CP wr (w.heap.size + 3) v vs (L.take n)) ∧ Hid (Kept (fun k => k < w.heap.size + 3 ∧ k ≠ w.heap.size + 2) W0 wr)) (fun i _ => L.length - (intOf i).toNat)
  case atStart => exact ⟨0, _, [], rfl, Nat.zero_le _, HQ0, Lib.hid (by rw [List.take_zero]; exact CP.nil _ _), Lib.hid (Kept.refl _ _)⟩
  case round =>
    obtain ⟨n, v, vs, rfl, hn, HP, HC, HK⟩ := hrel
    have HWB := Lib.hid (HB0.out.trans (HK.out.toBelow (by rw [HSZ.out]; omega) (fun k h => ⟨by omega, by omega⟩)))
    have hszr : w.heap.size + 3 ≤ wr.heap.size := by have := HK.out.size; have := HSZ.out; omega
    by_cases hlt : n < L.length
    · obtain ⟨bk, off, ai, ci, hao, c0w, hN⟩ := HT.out n hlt
      subst hao
      have cA : wr.cell? ⟨bk, off + n, none⟩ = some (.slice ai L[n].length ci) := cellB HWB.out (block_lt_of_cell c0w) c0w
      have HNN := Lib.hid (show NLI wr.drew ai ci L[n] from (hN.below HWB.out).drew)
      have k0 : (n : Int) < (L.length : Int) := by omega
      have m0 := HM.out.2 _ (List.getElem_mem hlt)
      have m0' : (L[n].length : Int) ≤ 255 := by omega
      have hLn := HM.out.1
      have HLT := Lib.hid (show (L.take n).length + 1 ≤ 1000000 from by rw [List.length_take]; omega)
      obtain ⟨c0, c1, f0, f1⟩ := two_cells HP.out
      have HTK := Lib.hid (fun (w' : World) (v' : Value) (vs' : List Value) h => @CP.take w' (w.heap.size + 3) v' vs' L n hlt h)
      have hqr : w.heap.size + 2 < wr.heap.size := by omega
      clear c0w hN
      go_wp2_with fail
      clear cA
      go_region_law (first
        | (refine step_app_ints rfl (.const (.slice none 0 0)) (.tmp 18) rfl (B := wr.heap.size) (v := .slice none 0 0) (D := []) rfl (OI.nil _ _) (ao := ai) (cap := ci) (l := L[n]) rfl rfl HNN.out (by simp; omega) (Nat.le_refl _) ?_; intro v1 w1 hI hg _; rw [List.nil_append] at hI; have hb1 : Below wr.heap.size wr w1 := (Below.refl wr.heap.size wr).drew.grown hg (Nat.le_refl _) (fun k e => by cases e); obtain ⟨a1, cc1, hv1, _, _, _⟩ := hI.form; subst hv1; have HC1 := Lib.hid (HC.out.below hb1); have HF1 := Lib.hid (HC.out.fresh hI); have HI1 := Lib.hid (hI.lower hszr); have HB1 := Lib.hid hb1; have hsz1 : w.heap.size + 3 ≤ w1.heap.size := Nat.le_trans hszr hb1.size; have hq1 : w.heap.size + 2 < w1.heap.size := hsz1; have HP1 := Lib.hid (below_heap hb1 HP.out); obtain ⟨d0, d1, g0, g1⟩ := two_cells HP1.out; clear hI hg hb1)
        | (refine step_app_copy rfl (.tmp 17) (.tmp 20) rfl (w := w1) (B := w.heap.size + 3) (v := v) (vs := vs) (L := L.take n) rfl HC1.out (y := .slice a1 L[n].length cc1) (l := L[n]) rfl HI1.out HF1.out HLT.out hsz1 ?_; intro v2 w2 hC2 hb2; obtain ⟨b8, n8, c8, hv8⟩ : ∃ b8 n8 c8, v2 = .slice b8 n8 c8 := (by obtain ⟨x, y, e⟩ := hC2.form; exact ⟨x, _, y, e⟩); subst hv8; have HC2 := Lib.hid (HTK.out _ _ _ hC2); have HP2 := Lib.hid ((below_kept hb2 hsz1).heap (b := w.heap.size + 2) (by omega) HP1.out); obtain ⟨x0, x1, y0, y1⟩ := two_cells HP2.out; have HK2 := Lib.hid ((HK.out.below HB1.out).trans ((below_kept hb2 hsz1).mono (fun k h => h.1))); clear hC2 hb2))
      all_goals
        go_wp2_with fail
        go_roundw
        case rel =>
          refine ⟨n + 1, .slice b8 n8 c8, vs ++ [.slice a1 L[n].length cc1], by go_num, by omega, Lib.hid (two_set1 HP2.out (.slice b8 n8 c8)), Lib.hid ?_, Lib.hid ?_⟩
          · exact HC2.out.keep ((Kept.refl (fun k => w.heap.size + 3 ≤ k) w2).setCell (p := ⟨w.heap.size + 2, 1, none⟩) (by simp) (.slice b8 n8 c8)) (fun k h _ => h)
          · exact HK2.out.setCell (p := ⟨w.heap.size + 2, 1, none⟩) (by simp) (.slice b8 n8 c8)
        case measure => simp [intOf]; omega
    · obtain rfl : n = L.length := by omega
      rw [List.take_of_length_le (Nat.le_refl _)] at HC
      obtain ⟨bo1, cb1, hv1⟩ := HC.out.form
      subst hv1
      have HR := Lib.hid (HK.out.heap (b := w.heap.size + 1) ⟨by omega, by omega⟩ HRES.out)
      obtain ⟨c0, c1, f0, f1⟩ := two_cells HP.out
      obtain ⟨t0, t1, g0, g1⟩ := two_cells HR.out
      have hszp : w.heap.size + 2 < wr.heap.size := by omega
      go_wp2_with fail
      have hK := ((Kept.refl (fun k => w.heap.size + 3 ≤ k) wr).setCell (p := ⟨w.heap.size + 1, 0, none⟩) (by simp) (.int .i64 ep)).setCell (p := ⟨w.heap.size + 1, 1, none⟩) (by simp) (.slice bo1 L.length cb1)
      exact proj_ret rfl (two_set1 (two_set0 HR.out (.int .i64 ep)) (.slice bo1 L.length cb1)) rfl rfl ⟨.slice bo1 L.length cb1, rfl, (OC.ofCP (HC.out.keep hK (fun _ h _ => h))).lower (by omega), (HWB.out.setCell (by simp) _).setCell (by simp) _⟩
end Go.Proofs.YthffjanidjjkdaaGreat
namespace Go.Proofs.YthffjanidjjkdaaGreat
set_option linter.unusedVariables false
open Go.RowKit
set_option maxRecDepth 20000
set_option maxHeartbeats 800000 in
theorem on_refuse (b : Nat) (G : Nat → Prop) (w : World) (o : Od) (a : Ak) (h : OM b G w o) :
    Calls Tryz.prog 81 #[ptrO b, askV a] w fun e w' => e = .returned (anW 1 0 noT 0) ∧ Leaves (OM b) G w w' o := by
  obtain ⟨k, un, ep, pg, sz, n, s, pe, L, ao, cap⟩ := a
  have CC := Lib.hid ocoded_any
  have HS := Lib.hid (boxed_start (om_thing b) h #[.int .i64 k, .int .i64 un, .int .i64 ep, .int .i64 pg, .int .i64 sz, .int .i64 n, .string s, .int .i64 pe, .slice ao L.length cap])
  unfold zeroAn at HS
  clear h
  show Calls _ _ #[.pointer (some ⟨b, 0, none⟩), .agg #[.int .i64 k, .int .i64 un, .int .i64 ep, .int .i64 pg, .int .i64 sz, .int .i64 n, .string s, .int .i64 pe, .slice ao L.length cap]] w _
  go_enter Tryz.func81, Tryz.ntmps81
  go_wp2_with (go_at_call 68; refine (CC.out _ _).mono ?_; rintro e w3 ⟨rfl, hb3⟩; have HT3 := Lib.hid (HS.out.below (om_thing b) hb3); clear hb3; obtain ⟨nl1, nl2⟩ := HT3.out.small; obtain ⟨⟨ny0, ny1, ny2, ny3, ny4, ny5, ny6, ny7⟩, nfy0, nfy1, nfy2, nfy3, nfy4, nfy5, nfy6, nfy7⟩ := eight_cells HT3.out.ans)
  exact ans_ret (x := anP 1 0 noT 0) (ao := none) (cap := 0) rfl (HT3.out.fin (om_thing b)).1 rfl rfl ⟨rfl, (HT3.out.fin (om_thing b)).2⟩
set_option maxHeartbeats 800000 in
theorem on_look_other (b : Nat) (G : Nat → Prop) (w : World) (o : Od) (a : Ak) (h : OM b G w o) (he : a.epoch ≠ o.epoch) :
    Calls Tryz.prog 80 #[ptrO b, askV a] w fun e w' => e = .returned (anW 40 0 noT 0) ∧ Leaves (OM b) G w w' o := by
  obtain ⟨k, un, ep, pg, sz, n, s, pe, L, ao, cap⟩ := a
  obtain ⟨oe, ot, ok⟩ := o
  simp only at *
  have de : (ep != oe) = true := bne_iff_ne.2 he
  clear he
  have CC := Lib.hid ocoded_any
  have HS := Lib.hid (boxed_start (om_thing b) h #[.int .i64 k, .int .i64 un, .int .i64 ep, .int .i64 pg, .int .i64 sz, .int .i64 n, .string s, .int .i64 pe, .slice ao L.length cap])
  unfold zeroAn at HS
  clear h
  show Calls _ _ #[.pointer (some ⟨b, 0, none⟩), .agg #[.int .i64 k, .int .i64 un, .int .i64 ep, .int .i64 pg, .int .i64 sz, .int .i64 n, .string s, .int .i64 pe, .slice ao L.length cap]] w _
  go_enter Tryz.func80, Tryz.ntmps80
  go_wp2_with fail
  generalize hW0 : ((w.alloc (.cells #[.int .i64 k, .int .i64 un, .int .i64 ep, .int .i64 pg, .int .i64 sz, .int .i64 n, .string s, .int .i64 pe, .slice ao L.length cap] 62)).alloc (.cells #[.int .i64 0, .int .i64 0, .string ⟨#[]⟩, .int .i64 0, .slice none 0 0, .int .i64 0, .int .i64 0, .int .i64 0] 58)) = W0 at *
  clear hW0
  obtain ⟨l1, l2⟩ := HS.out.small
  obtain ⟨H, hH, _⟩ := HS.out.use
  have x2 : W0.cell? ⟨w.heap.size, 2, none⟩ = some (.int .i64 ep) := cell_of HS.out.ask 2
  obtain ⟨t, _, hc⟩ := hH.cells
  obtain ⟨c0, c1, c2, _⟩ := three_cells hc
  have hb := hH.small
  clear hH hc
  go_quiet (fail)
  have HT2 := Lib.hid (HS.out.drewN (om_thing b) nq)
  generalize hW2 : World.drewN W0 nq = w2 at *
  clear hW2 x2 c0 c1 c2 hb l1 l2
  obtain ⟨l1, l2⟩ := HT2.out.small
  go_wp2_with (go_at_call 68; refine (CC.out _ _).mono ?_; rintro e w3 ⟨rfl, hb3⟩; have HT3 := Lib.hid (HT2.out.below (om_thing b) hb3); clear hb3; obtain ⟨nl1, nl2⟩ := HT3.out.small; obtain ⟨⟨ny0, ny1, ny2, ny3, ny4, ny5, ny6, ny7⟩, nfy0, nfy1, nfy2, nfy3, nfy4, nfy5, nfy6, nfy7⟩ := eight_cells HT3.out.ans)
  exact ans_ret (x := anP 40 0 noT 0) (ao := none) (cap := 0) rfl (HT3.out.fin (om_thing b)).1 rfl rfl ⟨rfl, (HT3.out.fin (om_thing b)).2⟩
set_option maxHeartbeats 800000 in
theorem on_look_dumb (b : Nat) (G : Nat → Prop) (w : World) (o : Od) (a : Ak) (h : OM b G w o) (he : a.epoch = o.epoch) (hn : o.knows = false) :
    Calls Tryz.prog 80 #[ptrO b, askV a] w fun e w' => e = .returned (anW 47 0 noT 0) ∧ Leaves (OM b) G w w' o := by
  obtain ⟨k, un, ep, pg, sz, n, s, pe, L, ao, cap⟩ := a
  obtain ⟨oe, ot, ok⟩ := o
  simp only at *
  have de : (ep != oe) = false := bne_eq_false_iff_eq.2 he
  clear he
  subst hn
  have CC := Lib.hid ocoded_any
  have HS := Lib.hid (boxed_start (om_thing b) h #[.int .i64 k, .int .i64 un, .int .i64 ep, .int .i64 pg, .int .i64 sz, .int .i64 n, .string s, .int .i64 pe, .slice ao L.length cap])
  unfold zeroAn at HS
  clear h
  show Calls _ _ #[.pointer (some ⟨b, 0, none⟩), .agg #[.int .i64 k, .int .i64 un, .int .i64 ep, .int .i64 pg, .int .i64 sz, .int .i64 n, .string s, .int .i64 pe, .slice ao L.length cap]] w _
  go_enter Tryz.func80, Tryz.ntmps80
  go_wp2_with fail
  generalize hW0 : ((w.alloc (.cells #[.int .i64 k, .int .i64 un, .int .i64 ep, .int .i64 pg, .int .i64 sz, .int .i64 n, .string s, .int .i64 pe, .slice ao L.length cap] 62)).alloc (.cells #[.int .i64 0, .int .i64 0, .string ⟨#[]⟩, .int .i64 0, .slice none 0 0, .int .i64 0, .int .i64 0, .int .i64 0] 58)) = W0 at *
  clear hW0
  obtain ⟨l1, l2⟩ := HS.out.small
  obtain ⟨H, hH, _⟩ := HS.out.use
  have x2 : W0.cell? ⟨w.heap.size, 2, none⟩ = some (.int .i64 ep) := cell_of HS.out.ask 2
  obtain ⟨t, _, hc⟩ := hH.cells
  obtain ⟨c0, c1, c2, _⟩ := three_cells hc
  have hb := hH.small
  clear hH hc
  go_quiet (fail)
  have HT2 := Lib.hid (HS.out.drewN (om_thing b) nq)
  generalize hW2 : World.drewN W0 nq = w2 at *
  clear hW2 x2 c0 c1 c2 hb l1 l2
  obtain ⟨l1, l2⟩ := HT2.out.small
  obtain ⟨H, hH, _⟩ := HT2.out.use
  obtain ⟨t2, _, hc⟩ := hH.cells
  obtain ⟨c0, c1, c2, _⟩ := three_cells hc
  have hb := hH.small
  clear hH hc
  go_wp2_with (go_at_call 68; refine (CC.out _ _).mono ?_; rintro e w3 ⟨rfl, hb3⟩; have HT3 := Lib.hid (HT2.out.below (om_thing b) hb3); clear hb3; obtain ⟨nl1, nl2⟩ := HT3.out.small; obtain ⟨⟨ny0, ny1, ny2, ny3, ny4, ny5, ny6, ny7⟩, nfy0, nfy1, nfy2, nfy3, nfy4, nfy5, nfy6, nfy7⟩ := eight_cells HT3.out.ans)
  exact ans_ret (x := anP 47 0 noT 0) (ao := none) (cap := 0) rfl (HT3.out.fin (om_thing b)).1 rfl rfl ⟨rfl, (HT3.out.fin (om_thing b)).2⟩
set_option maxHeartbeats 800000 in
theorem on_look (b : Nat) (G : Nat → Prop) (w : World) (o : Od) (a : Ak) (h : OM b G w o) (he : a.epoch = o.epoch) (hn : o.knows = true) :
    Calls Tryz.prog 80 #[ptrO b, askV a] w fun e w' => e = .returned (anW 0 o.tail noT 0) ∧ Leaves (OM b) G w w' o := by
  obtain ⟨k, un, ep, pg, sz, n, s, pe, L, ao, cap⟩ := a
  obtain ⟨oe, ot, ok⟩ := o
  simp only at *
  have de : (ep != oe) = false := bne_eq_false_iff_eq.2 he
  clear he
  subst hn
  have HS := Lib.hid (boxed_start (om_thing b) h #[.int .i64 k, .int .i64 un, .int .i64 ep, .int .i64 pg, .int .i64 sz, .int .i64 n, .string s, .int .i64 pe, .slice ao L.length cap])
  unfold zeroAn at HS
  clear h
  show Calls _ _ #[.pointer (some ⟨b, 0, none⟩), .agg #[.int .i64 k, .int .i64 un, .int .i64 ep, .int .i64 pg, .int .i64 sz, .int .i64 n, .string s, .int .i64 pe, .slice ao L.length cap]] w _
  go_enter Tryz.func80, Tryz.ntmps80
  go_wp2_with fail
  generalize hW0 : ((w.alloc (.cells #[.int .i64 k, .int .i64 un, .int .i64 ep, .int .i64 pg, .int .i64 sz, .int .i64 n, .string s, .int .i64 pe, .slice ao L.length cap] 62)).alloc (.cells #[.int .i64 0, .int .i64 0, .string ⟨#[]⟩, .int .i64 0, .slice none 0 0, .int .i64 0, .int .i64 0, .int .i64 0] 58)) = W0 at *
  clear hW0
  obtain ⟨l1, l2⟩ := HS.out.small
  obtain ⟨H, hH, _⟩ := HS.out.use
  have x2 : W0.cell? ⟨w.heap.size, 2, none⟩ = some (.int .i64 ep) := cell_of HS.out.ask 2
  obtain ⟨t, _, hc⟩ := hH.cells
  obtain ⟨c0, c1, c2, _⟩ := three_cells hc
  have hb := hH.small
  clear hH hc
  go_quiet (fail)
  have HT2 := Lib.hid (HS.out.drewN (om_thing b) nq)
  generalize hW2 : World.drewN W0 nq = w2 at *
  clear hW2 x2 c0 c1 c2 hb l1 l2
  obtain ⟨l1, l2⟩ := HT2.out.small
  obtain ⟨H, hH, _⟩ := HT2.out.use
  obtain ⟨t2, ht2, hc⟩ := hH.cells
  have et : t2 = ot := ht2 rfl
  clear ht2
  subst et
  obtain ⟨c0, c1, c2, _⟩ := three_cells hc
  have hb := hH.small
  clear hH hc
  obtain ⟨⟨ny0, ny1, ny2, ny3, ny4, ny5, ny6, ny7⟩, nfy0, nfy1, nfy2, nfy3, nfy4, nfy5, nfy6, nfy7⟩ := eight_cells HT2.out.ans
  go_wp2_with fail
  exact ans_ret (x := anP 0 t2 noT 0) (ao := none) (cap := 0) rfl (HT2.out.fin (om_thing b)).1 rfl rfl ⟨rfl, (HT2.out.fin (om_thing b)).2⟩
end Go.Proofs.YthffjanidjjkdaaGreat
namespace Go.Proofs.YthffjanidjjkdaaGreat
open Go.RowKit Go.Maps
set_option linter.unusedVariables false
set_option maxRecDepth 20000
theorem isNone_nil (a : Int) (w : World) : Calls Tryz.prog 36 #[.pointer none, .int .i64 a] w fun e w' => e = .returned (.bool true) ∧ w = w' := by
  go_enter Tryz.func36, Tryz.ntmps36
  go_wp2
  go_ret
  exact ⟨rfl, rfl⟩
theorem pgIsNone_any (b : Nat) (a : Int) (w : World) : Calls Tryz.prog 36 #[.pointer (some ⟨b, 0, none⟩), .int .i64 a] w fun e w' => e = .returned (.bool (!thereB a)) ∧ w = w' := by
  have hd := Lib.hid (show (decide (a < 0) || decide (4096 ≤ a)) = !thereB a from by
    unfold thereB
    by_cases h0 : a < 0
    · simp [h0, show ¬ 0 ≤ a from by omega]
    · by_cases h1 : 4096 ≤ a
      · simp [h1, show ¬ a < 4096 from by omega]
      · simp [h0, h1, show 0 ≤ a from by omega, show a < 4096 from by omega])
  go_enter Tryz.func36, Tryz.ntmps36
  go_wp2
  all_goals
    go_ret
    rw [← hd.out]
    first | exact ⟨rfl, rfl⟩ | exact ⟨by simp [*], rfl⟩
theorem sheet_kind (k : Int) (s : ByteArray) (W : World) : (Instr.field 98 (.agg #[.int .i64 k, .string s]) 0).run Tryz.prog W = .ok (.int .i64 k) W := by kernel_rfl
theorem sheet_text (k : Int) (s : ByteArray) (W : World) : (Instr.field 98 (.agg #[.int .i64 k, .string s]) 1).run Tryz.prog W = .ok (.string s) W := by kernel_rfl
set_option maxHeartbeats 4000000 in
theorem kind_any (G : Nat → Prop) (w : World) (b : Nat) (p : Ps) (a : Int) (h : PGm G w b p) :
    Calls Tryz.prog 20 #[.pointer (some ⟨b, 0, none⟩), .int .i64 a] w fun e w' => e = .returned (.int .i64 (p.kind a)) ∧ w = w' := by
  have CN := Lib.hid (pgIsNone_any b a w)
  obtain ⟨mb, h1, h2, _⟩ := h
  by_cases ht : thereB a = true
  · rw [ht] at CN
    obtain ⟨c0, c1, c2, _⟩ := three_cells h1
    by_cases he : a < p.edge
    · have HE := Lib.hid (show p.kind a = 3 from by unfold Ps.kind; rw [if_pos ht, if_pos he])
      clear h1 h2 ht
      generalize p.edge = ed at *
      go_enter Tryz.func20, Tryz.ntmps20
      go_wp2_with (go_at_call 36; refine CN.out.mono ?_; rintro e w1 ⟨rfl, rfl⟩)
      go_ret
      rw [HE.out]
      exact ⟨rfl, rfl⟩
    · have HE := Lib.hid (kindL_of ht he)
      have he' : p.edge ≤ a := by omega
      have hl := h2.look (there_wf ht)
      have hf := sheet_kind
      clear h1 h2 ht he
      generalize p.edge = ed at *
      generalize kindL p.l a = kk at *
      generalize textL p.l a = tt at *
      go_enter Tryz.func20, Tryz.ntmps20
      go_wp2_with (go_at_call 36; refine CN.out.mono ?_; rintro e w1 ⟨rfl, rfl⟩)
      go_ret
      rw [HE.out]
      exact ⟨rfl, rfl⟩
  · have HE := Lib.hid (show p.kind a = 0 from by unfold Ps.kind; rw [if_neg ht])
    rw [Bool.eq_false_iff.2 ht] at CN
    clear h1 h2 ht
    go_enter Tryz.func20, Tryz.ntmps20
    go_wp2_with (go_at_call 36; refine CN.out.mono ?_; rintro e w1 ⟨rfl, rfl⟩)
    go_ret
    rw [HE.out]
    exact ⟨rfl, rfl⟩
theorem kind_nil (a : Int) (w : World) : Calls Tryz.prog 20 #[.pointer none, .int .i64 a] w fun e w' => e = .returned (.int .i64 0) ∧ w = w' := by
  have CN := Lib.hid (isNone_nil a w)
  go_enter Tryz.func20, Tryz.ntmps20
  go_wp2_with (go_at_call 36; refine CN.out.mono ?_; rintro e w1 ⟨rfl, rfl⟩)
  go_ret
  exact ⟨rfl, rfl⟩
theorem used_any (G : Nat → Prop) (w : World) (b : Nat) (p : Ps) (h : PGm G w b p) :
    Calls Tryz.prog 22 #[.pointer (some ⟨b, 0, none⟩)] w fun e w' => e = .returned (.int .i64 p.l.length) ∧ w = w' := by
  obtain ⟨mb, h1, h2, _⟩ := h
  obtain ⟨c0, c1, c2, _⟩ := three_cells h1
  have hl := fun ty => h2.count ty w rfl
  clear h1 h2
  go_enter Tryz.func22, Tryz.ntmps22
  go_wp2
  go_ret
  exact ⟨rfl, rfl⟩
theorem used_nil (w : World) : Calls Tryz.prog 22 #[.pointer none] w fun e w' => e = .returned (.int .i64 0) ∧ w = w' := by
  go_enter Tryz.func22, Tryz.ntmps22
  go_wp2
  go_ret
  exact ⟨rfl, rfl⟩
theorem pnew_yes (room : Int) (w : World) (h : 1 ≤ room ∧ room ≤ 4096) : Calls Tryz.prog 67 #[.int .i64 room] w fun e w' => ∃ (b : Nat) (G : Nat → Prop), e = .returned (.tuple #[.pointer (some ⟨b, 0, none⟩), .int .i64 0]) ∧ PGm G w' b (newP room) ∧ (∀ k, G k → w.heap.size ≤ k) ∧ Below w.heap.size w w' := by
  obtain ⟨h0, h1⟩ := h
  have hmm := @run_makeMap Tryz.prog
  go_enter Tryz.func67, Tryz.ntmps67
  go_wp2
  go_ret2
  refine ⟨_, fun k => k = w.heap.size ∨ k = w.heap.size + 1, rfl, ⟨w.heap.size, ?_, ?_, ?_, ?_, .inl rfl, ?_⟩, ?_, ?_⟩
  · have := heap_alloc_new (w.alloc (.map #[] 0)) (.cells #[.int .i64 room, .int .i64 0, .map (some w.heap.size)] 101)
    simpa [newP] using this
  · exact (Tp.made w).below ((Below.refl _ _).alloc (Nat.le_refl _) _)
  · simp
  · exact .inr (by simp)
  · rintro k (rfl | rfl) <;> simp <;> omega
  · rintro k (rfl | rfl) <;> omega
  · exact ((Below.refl _ _).alloc (Nat.le_refl _) _).alloc (by simp) _
theorem pnew_no (room : Int) (w : World) (h : room < 1 ∨ 4096 < room) : Calls Tryz.prog 67 #[.int .i64 room] w fun e w' => e = .returned (.tuple #[.pointer none, .int .i64 1]) ∧ Below w.heap.size w w' := by
  by_cases h0 : room < 1
  · clear h
    go_enter Tryz.func67, Tryz.ntmps67
    go_wp2
    go_ret2
    exact ⟨rfl, Below.refl _ _⟩
  · have h0' : 1 ≤ room := by omega
    have h1 : 4096 < room := by omega
    clear h h0
    go_enter Tryz.func67, Tryz.ntmps67
    go_wp2
    go_ret2
    exact ⟨rfl, Below.refl _ _⟩
end Go.Proofs.YthffjanidjjkdaaGreat
namespace Go.Proofs.YthffjanidjjkdaaGreat
set_option linter.unusedVariables false
open Go.RowKit
theorem nodup_short (n : Nat) : ∀ l : List Int, l.Nodup → (∀ x ∈ l, 0 ≤ x ∧ x < n) → l.length ≤ n := by
  induction n with
  | zero =>
    intro l _ h
    cases l with
    | nil => exact Nat.le_refl _
    | cons x l => have := h x List.mem_cons_self; omega
  | succ n ih =>
    intro l h1 h2
    have h3 : (l.erase (n : Int)).length ≤ n := ih _ (h1.erase _) (fun x hx => by
      have h4 := (h1.mem_erase_iff).1 hx
      have h5 := h2 x h4.2
      have h6 := h4.1
      omega)
    rw [List.length_erase] at h3
    split at h3 <;> omega
/-- a unit that has no pages but such as say s -/
structure WrU (s : ByteArray) (u : Us) : Prop where
  up : u.down = false
  ep : u.epoch = 0
  room : u.p.room = 200
  edge : u.p.edge = 0
  ok : u.p.Ok
  each : ∀ x ∈ u.p.l, x.kind = 1 ∧ x.s = s ∧ x.at_ < 110
def hasPg (u : Us) (q : Int) : Prop := ∃ x ∈ u.p.l, x.at_ = q
section
variable {s : ByteArray} {u : Us} {q : Int} {k : Ak}
theorem WrU.len (h : WrU s u) : u.p.l.length ≤ 110 := by
  have h1 := nodup_short 110 (u.p.l.map (·.at_)) h.ok.once (fun x hx => by
    obtain ⟨y, hy, rfl⟩ := List.mem_map.1 hx
    have h2 := (h.ok.each y hy).1.1
    have h3 := (h.each y hy).2.2
    have h4 := h.edge
    exact ⟨by omega, h3⟩)
  rwa [List.length_map] at h1
theorem WrU.find (h : WrU s u) (hq : hasPg u q) : ∃ x, findP u.p.l q = some x ∧ x.kind = 1 ∧ x.s = s := by
  cases hf : findP u.p.l q with
  | none => obtain ⟨x, hx, e⟩ := hq; exact absurd e (findP_none.1 hf x hx)
  | some x => exact ⟨x, rfl, (h.each x (findP_some hf).1).1, (h.each x (findP_some hf).1).2.1⟩
theorem WrU.lost (hq : ¬ hasPg u q) : findP u.p.l q = none := findP_none.2 (fun x hx e => hq ⟨x, hx, e⟩)
theorem there110 (hp : 0 ≤ q ∧ q < 110) : thereB q = true := thereB_iff.2 (by omega)
theorem WrU.kind_yes (h : WrU s u) (hp : 0 ≤ q ∧ q < 110) (hq : hasPg u q) : u.p.kind q = 1 := by
  obtain ⟨x, h1, h2, _⟩ := h.find hq
  have := h.edge
  unfold Ps.kind
  rw [if_pos (there110 hp), if_neg (by omega), h1]
  exact h2
theorem WrU.kind_no (h : WrU s u) (hp : 0 ≤ q ∧ q < 110) (hq : ¬ hasPg u q) : u.p.kind q = 0 := by
  have := h.edge
  unfold Ps.kind
  rw [if_pos (there110 hp), if_neg (by omega), WrU.lost hq]
theorem WrU.ans_eq (h : WrU s u) (hk : k.kind = 1 ∨ k.kind = 3) (he : k.epoch = 0) : u.ans k = anP (u.pageE k) 0 (if k.kind = 3 then u.p.readS k.page else noS) u.epoch := by
  unfold Us.ans
  rw [if_neg (by rw [h.up]; decide), if_neg (by omega), if_neg (by rw [h.ep, he]; omega), if_neg (by omega)]
theorem WrU.done_eq (h : WrU s u) (hk : k.kind = 1 ∨ k.kind = 3) (he : k.epoch = 0) : u.done k = ⟨u.pageP k, u.epoch, u.down⟩ := by
  unfold Us.done
  rw [if_neg (by rw [h.up, h.ep, he]; simp; omega), if_neg (by omega)]
theorem WrU.wrote_yes (h : WrU s u) (hk : k.kind = 1) (he : k.epoch = 0) (hd : k.data = s) (hs : s.size ≤ 4096) (hp : 0 ≤ k.page ∧ k.page < 110) (hq : hasPg u k.page) : (u.ans k).code = 41 ∧ u.done k = u := by
  have e1 : u.p.writeE k.page k.data = 41 := by
    unfold Ps.writeE
    rw [if_neg (by rw [there110 hp]; decide), if_neg (by rw [hd]; omega), h.kind_yes hp hq, if_neg (by decide), if_pos (by decide)]
  constructor
  · rw [h.ans_eq (.inl hk) he]
    show u.pageE k = 41
    unfold Us.pageE
    rw [if_pos hk, e1]
  · rw [h.done_eq (.inl hk) he]
    have e2 : u.pageP k = u.p := by
      unfold Us.pageP
      rw [if_pos hk]
      unfold Ps.write
      rw [e1, if_neg (by decide)]
    rw [e2]
theorem WrU.wrote_no (h : WrU s u) (hk : k.kind = 1) (he : k.epoch = 0) (hd : k.data = s) (hs : s.size ≤ 4096) (hp : 0 ≤ k.page ∧ k.page < 110) (hq : ¬ hasPg u k.page) : (u.ans k).code = 0 ∧ WrU s (u.done k) ∧ (∀ q, hasPg u q → hasPg (u.done k) q) ∧ hasPg (u.done k) k.page := by
  have hl := h.len
  have hr := h.room
  have e1 : u.p.writeE k.page k.data = 0 := by
    unfold Ps.writeE
    rw [if_neg (by rw [there110 hp]; decide), if_neg (by rw [hd]; omega), h.kind_no hp hq, if_neg (by decide), if_neg (by decide), if_neg (by omega)]
  have e2 : u.pageP k = u.p.add ⟨k.page, 1, s⟩ := by
    unfold Us.pageP
    rw [if_pos hk]
    unfold Ps.write
    rw [e1, if_pos rfl, hd]
  have e3 : u.done k = ⟨u.p.add ⟨k.page, 1, s⟩, u.epoch, u.down⟩ := by rw [h.done_eq (.inl hk) he, e2]
  have hok := Us.ok h.ok k
  refine ⟨?_, ⟨by rw [e3]; exact h.up, by rw [e3]; exact h.ep, by rw [e3]; exact h.room, by rw [e3]; exact h.edge, hok, ?_⟩, ?_, ?_⟩
  · rw [h.ans_eq (.inl hk) he]
    show u.pageE k = 0
    unfold Us.pageE
    rw [if_pos hk, e1]
  · rw [e3]
    intro x hx
    rcases List.mem_append.1 (show x ∈ u.p.l ++ [⟨k.page, 1, s⟩] from hx) with h1 | h1
    · exact h.each x h1
    · rw [List.mem_singleton.1 h1]
      exact ⟨rfl, rfl, hp.2⟩
  · rw [e3]
    rintro q ⟨x, hx, e⟩
    exact ⟨x, List.mem_append_left _ hx, e⟩
  · rw [e3]
    exact ⟨⟨k.page, 1, s⟩, List.mem_append_right _ (List.mem_singleton.2 rfl), rfl⟩
theorem WrU.read (h : WrU s u) (hk : k.kind = 3) (he : k.epoch = 0) (hp : 0 ≤ k.page ∧ k.page < 110) : u.done k = u ∧ (hasPg u k.page → (u.ans k).code = 0 ∧ (u.ans k).data = s) := by
  refine ⟨?_, fun hq => ?_⟩
  · rw [h.done_eq (.inr hk) he]
    have e2 : u.pageP k = u.p := by
      unfold Us.pageP
      rw [if_neg (by omega), if_neg (by omega), if_pos hk]
    rw [e2]
  · have e1 : u.p.readE k.page = 0 := by
      unfold Ps.readE
      rw [if_neg (by rw [there110 hp]; decide), h.kind_yes hp hq, if_neg (by decide), if_neg (by decide), if_neg (by decide)]
    obtain ⟨x, h1, _, h3⟩ := h.find hq
    rw [h.ans_eq (.inr hk) he]
    constructor
    · show u.pageE k = 0
      unfold Us.pageE
      rw [if_neg (by omega), if_neg (by omega), if_pos hk, e1]
    · show (if k.kind = 3 then u.p.readS k.page else noS) = s
      rw [if_pos hk]
      unfold Ps.readS Ps.text
      rw [if_pos e1, h1]
      exact h3
end
/-- all nodes: no page but such as say s; the sequencer tells; no more than t tokens were told -/
structure WrN (s : ByteArray) (t : Int) (n : Nd) : Prop where
  u : ∀ i, i < 16 → WrU s (n.u i)
  oe : n.o.epoch = 0
  ok : n.o.knows = true
  ot : 0 ≤ n.o.tail ∧ n.o.tail ≤ t
/-- a question that such an append asks -/
def AskE (s : ByteArray) (k : Ak) : Prop := (k.kind = 6 ∧ k.epoch = 0) ∨ ((k.kind = 1 ∧ k.data = s ∨ k.kind = 3) ∧ k.epoch = 0 ∧ (0 ≤ k.page ∧ k.page < 110) ∧ 0 ≤ k.unit ∧ k.unit ≤ 15)
section
variable {s : ByteArray} {t : Int} {n : Nd} {k : Ak}
/-- the nodes only grow -/
structure Grew (n n' : Nd) : Prop where
  u : ∀ i q, hasPg (n.u i) q → hasPg (n'.u i) q
  o : n.o.tail ≤ n'.o.tail
  l : n'.l = n.l
theorem Grew.refl (n : Nd) : Grew n n := ⟨fun _ _ h => h, Int.le_refl _, rfl⟩
theorem Grew.trans {a b c : Nd} (h : Grew a b) (g : Grew b c) : Grew a c := ⟨fun i q x => g.u i q (h.u i q x), Int.le_trans h.o g.o, g.l.trans h.l⟩
theorem next_ans (n : Nd) (h : k.kind = 6) : n.ans k = n.o.ans k ∧ n.done k = n.putO (n.o.done k) := by
  constructor
  · unfold Nd.ans
    rw [if_neg (by omega), if_pos (by omega)]
  · unfold Nd.done
    rw [if_neg (by omega), if_pos (by omega)]
theorem page_ans (n : Nd) (h : k.kind = 1 ∨ k.kind = 3) (hu : 0 ≤ k.unit ∧ k.unit ≤ 15) : n.ans k = (n.u k.unit.toNat).ans k ∧ n.done k = n.putU k.unit.toNat ((n.u k.unit.toNat).done k) := by
  constructor
  · unfold Nd.ans
    rw [if_pos (by omega), if_pos hu]
  · unfold Nd.done
    rw [if_pos (by omega), if_pos hu]
theorem putU_same (n : Nd) (i : Nat) : n.putU i (n.u i) = n := by
  unfold Nd.putU
  have : (fun j => if j = i then n.u i else n.u j) = n.u := by
    funext j
    split
    · next e => rw [e]
    · rfl
  rw [this]
theorem WrN.more (h : WrN s t n) {t' : Int} (ht : t ≤ t') : WrN s t' n := ⟨h.u, h.oe, h.ok, h.ot.1, by have := h.ot.2; omega⟩
/-- what a token is: the tail -/
theorem WrN.next (h : WrN s t n) (ht : t ≤ 16000) (hk : k.kind = 6) (he : k.epoch = 0) : (n.ans k).code = 0 ∧ (n.ans k).n = n.o.tail ∧ WrN s (t + 1) (n.done k) ∧ Grew n (n.done k) ∧ n.o.tail < (n.done k).o.tail := by
  have hot := h.ot
  have e1 : n.o.ans k = anP 0 n.o.tail noT n.o.epoch := by
    unfold Od.ans
    rw [if_neg (by omega), if_pos (.inl hk), if_neg (by rw [he, h.oe]; decide), if_neg (by rw [h.ok]; decide), if_neg (by omega), if_neg (by omega)]
  have e2 : n.o.done k = ⟨n.o.epoch, n.o.tail + 1, n.o.knows⟩ := by
    unfold Od.done
    rw [if_neg (by omega), if_pos ⟨hk, by rw [he, h.oe], h.ok, by omega⟩]
  rw [(next_ans n hk).1, (next_ans n hk).2, e1, e2]
  exact ⟨rfl, rfl, ⟨h.u, h.oe, h.ok, by show 0 ≤ n.o.tail + 1; omega, by show n.o.tail + 1 ≤ t + 1; omega⟩, ⟨fun _ _ h => h, by show n.o.tail ≤ n.o.tail + 1; omega, rfl⟩, by show n.o.tail < n.o.tail + 1; omega⟩
theorem WrN.write (h : WrN s t n) (hs : s.size ≤ 4096) (hk : k.kind = 1) (he : k.epoch = 0) (hd : k.data = s) (hp : 0 ≤ k.page ∧ k.page < 110) (hu : 0 ≤ k.unit ∧ k.unit ≤ 15) :
    ((n.ans k).code = 0 ∨ (n.ans k).code = 41) ∧ WrN s t (n.done k) ∧ Grew n (n.done k) ∧ hasPg ((n.done k).u k.unit.toNat) k.page := by
  have hi : k.unit.toNat < 16 := by omega
  have hU := h.u k.unit.toNat hi
  obtain ⟨e1, e2⟩ := page_ans n (.inl hk) hu
  rw [e1, e2]
  by_cases hq : hasPg (n.u k.unit.toNat) k.page
  · obtain ⟨h1, h2⟩ := hU.wrote_yes hk he hd hs hp hq
    rw [h1, h2, putU_same]
    exact ⟨.inr rfl, h, Grew.refl _, hq⟩
  · obtain ⟨h1, h2, h3, h4⟩ := hU.wrote_no hk he hd hs hp hq
    rw [h1]
    refine ⟨.inl rfl, ⟨fun i hi2 => ?_, h.oe, h.ok, h.ot⟩, ⟨fun i q hx => ?_, Int.le_refl _, rfl⟩, ?_⟩
    · by_cases e : i = k.unit.toNat
      · rw [e, putU_at]; exact h2
      · rw [putU_off _ _ e]; exact h.u i hi2
    · by_cases e : i = k.unit.toNat
      · rw [e] at hx; rw [e, putU_at]; exact h3 q hx
      · rw [putU_off _ _ e]; exact hx
    · rw [putU_at]; exact h4
theorem WrN.read (h : WrN s t n) (hk : k.kind = 3) (he : k.epoch = 0) (hp : 0 ≤ k.page ∧ k.page < 110) (hu : 0 ≤ k.unit ∧ k.unit ≤ 15) :
    n.done k = n ∧ (hasPg (n.u k.unit.toNat) k.page → (n.ans k).code = 0 ∧ (n.ans k).data = s) := by
  have hU := h.u k.unit.toNat (by omega)
  obtain ⟨e1, e2⟩ := page_ans n (.inr hk) hu
  obtain ⟨h1, h2⟩ := hU.read hk he hp
  rw [e1, e2, h1, putU_same]
  exact ⟨rfl, h2⟩
theorem WrN.done (h : WrN s t n) (ht : t ≤ 16000) (hs : s.size ≤ 4096) (hq : AskE s k) : WrN s (t + 1) (n.done k) ∧ Grew n (n.done k) := by
  rcases hq with ⟨h1, h2⟩ | ⟨⟨h1, hd⟩ | h1, h2, h3, h4⟩
  · exact ⟨(h.next ht h1 h2).2.2.1, (h.next ht h1 h2).2.2.2.1⟩
  · have h5 := h.write hs h1 h2 hd h3 h4
    exact ⟨h5.2.1.more (by omega), h5.2.2.1⟩
  · have h5 := h.read h1 h2 h3 h4
    rw [h5.1]
    exact ⟨h.more (by omega), Grew.refl _⟩
end
def apL : List (List Int) := [[0, 1, 2], [3]]
theorem apL_good : goodB 0 apL = true := by decide +kernel
theorem apL_of {x : Int} (h : 0 ≤ x ∧ x < 16384) : ofP 0 apL x = x / 2 ∧ chainR 0 apL x = (if x % 2 = 0 then [0, 1, 2] else [3]) := by
  have ho : ofB 0 apL x = true := ofB_iff.2 ⟨apL_good, h⟩
  constructor
  · unfold ofP
    rw [if_pos ho]
    rfl
  · unfold chainR
    rw [if_pos ho]
    show apL.getD (x % 2).toNat [] = _
    have h2 : x % 2 = 0 ∨ x % 2 = 1 := by omega
    rcases h2 with h2 | h2
    · rw [h2]; rfl
    · rw [h2]; rfl
def lenA (x : Int) : Nat := if x % 2 = 0 then 3 else 1
def unitA (x : Int) (j : Nat) : Int := if x % 2 = 0 then j else 3
theorem apL_len {x : Int} (h : 0 ≤ x ∧ x < 16384) : (chainR 0 apL x).length = lenA x := by
  rw [(apL_of h).2]
  unfold lenA
  split <;> rfl
theorem apL_unit {x : Int} (h : 0 ≤ x ∧ x < 16384) {j : Nat} (hj : j < lenA x) : (chainR 0 apL x).getD j 0 = unitA x j ∧ 0 ≤ unitA x j ∧ unitA x j ≤ 3 := by
  rw [(apL_of h).2]
  unfold lenA at hj
  unfold unitA
  split
  · next hx =>
    rw [if_pos hx] at hj
    have : j = 0 ∨ j = 1 ∨ j = 2 := by omega
    rcases this with rfl | rfl | rfl <;> decide
  · next hx =>
    rw [if_neg hx] at hj
    obtain rfl : j = 0 := by omega
    decide
/-- its record is on the first m units of its address's chain -/
def OnU (n : Nd) (x : Int) (m : Nat) : Prop := ∀ j, j < m → hasPg (n.u (unitA x j).toNat) (x / 2)
/-- an append that stands so -/
structure ApE (s : ByteArray) (n : Nd) (a : Ap) : Prop where
  ep : a.ep = 0
  L : a.L = apL
  txt : a.txt = s
  st : a.at_ = 2 ∨ ((0 ≤ a.addr ∧ a.addr < n.o.tail) ∧ ((a.at_ = 3 ∧ a.i < lenA a.addr ∧ OnU n a.addr a.i) ∨ (a.at_ = 4 ∧ a.i < lenA a.addr ∧ OnU n a.addr (a.i + 1)) ∨ (a.at_ = 6 ∧ a.e = 0 ∧ OnU n a.addr (lenA a.addr))))
/-- how many questions more it asks at the most, if they are heard -/
def leftE (a : Ap) : Nat := if a.at_ = 6 then 0 else if a.at_ = 2 then 7 else if a.at_ = 3 then 2 * (lenA a.addr - a.i) else 2 * (lenA a.addr - a.i) - 1
section
variable {s : ByteArray} {t : Int} {n n' : Nd} {a : Ap}
theorem ApE.grew (h : ApE s n a) (g : Grew n n') : ApE s n' a := by
  refine ⟨h.ep, h.L, h.txt, ?_⟩
  have hg : ∀ m, OnU n a.addr m → OnU n' a.addr m := fun m ho j hj => g.u _ _ (ho j hj)
  have ho := g.o
  rcases h.st with h1 | ⟨h1, h2 | h2 | h2⟩
  · exact .inl h1
  · exact .inr ⟨by omega, .inl ⟨h2.1, h2.2.1, hg _ h2.2.2⟩⟩
  · exact .inr ⟨by omega, .inr (.inl ⟨h2.1, h2.2.1, hg _ h2.2.2⟩)⟩
  · exact .inr ⟨by omega, .inr (.inr ⟨h2.1, h2.2.1, hg _ h2.2.2⟩)⟩
theorem hear_over {x : An} {c : Bool} (h : a.at_ = 6) : a.hear x c = a := by
  unfold Ap.hear
  rw [if_pos h]
theorem hear_deaf {x : An} (h : a.at_ ≠ 6) : a.hear x false = { a with maybe := a.maybe || (decide (a.at_ = 3) && (!false || decide (x.code = 0))) } := by
  unfold Ap.hear
  rw [if_neg h]
  exact if_pos (.inl rfl)
theorem ApE.deaf (h : ApE s n a) (x : An) : ApE s n (a.hear x false) := by
  by_cases h6 : a.at_ = 6
  · rw [hear_over h6]; exact h
  · rw [hear_deaf h6]; exact ⟨h.ep, h.L, h.txt, h.st⟩
theorem ApE.new (n : Nd) (hs : s.size ≤ 4096) : ApE s n (newAp 0 apL s) := by
  unfold newAp
  rw [if_neg (by rw [apL_good]; decide), if_neg (by omega)]
  exact ⟨rfl, rfl, rfl, .inl rfl⟩
theorem ApE.asks (h : ApE s n a) (hn : a.at_ ≠ 6) (ht : n.o.tail ≤ 200) : AskE s a.ask := by
  unfold Ap.ask
  rcases h.st with h1 | ⟨h1, h2 | h2 | h2⟩
  · rw [if_neg (by omega), if_pos h1]
    exact .inl ⟨rfl, h.ep⟩
  · rw [if_neg (by omega), if_neg (by omega), if_pos h2.1]
    have h3 := apL_unit (x := a.addr) (by omega) h2.2.1
    refine .inr ⟨.inl ⟨rfl, h.txt⟩, h.ep, ?_, ?_⟩
    · show 0 ≤ ofP a.ep a.L a.addr ∧ ofP a.ep a.L a.addr < 110
      rw [h.ep, h.L, (apL_of (x := a.addr) (by omega)).1]
      omega
    · show 0 ≤ (chainR a.ep a.L a.addr).getD a.i 0 ∧ (chainR a.ep a.L a.addr).getD a.i 0 ≤ 15
      rw [h.ep, h.L, h3.1]
      omega
  · rw [if_neg (by omega), if_neg (by omega), if_neg (by omega), if_pos h2.1]
    have h3 := apL_unit (x := a.addr) (by omega) h2.2.1
    refine .inr ⟨.inr rfl, h.ep, ?_, ?_⟩
    · show 0 ≤ ofP a.ep a.L a.addr ∧ ofP a.ep a.L a.addr < 110
      rw [h.ep, h.L, (apL_of (x := a.addr) (by omega)).1]
      omega
    · show 0 ≤ (chainR a.ep a.L a.addr).getD a.i 0 ∧ (chainR a.ep a.L a.addr).getD a.i 0 ≤ 15
      rw [h.ep, h.L, h3.1]
      omega
  · exact absurd h2.1 hn
/-- one more unit has it -/
theorem ApE.wrote (hep : a.ep = 0) (hL : a.L = apL) (ht : a.txt = s) (hx : 0 ≤ a.addr ∧ a.addr < n.o.tail) (h16 : n.o.tail ≤ 16384) (hi : a.i < lenA a.addr) (ho : OnU n a.addr (a.i + 1)) : ApE s n a.wrote ∧ leftE a.wrote + 2 ≤ 2 * (lenA a.addr - a.i) := by
  unfold Ap.wrote
  rw [hep, hL, apL_len (x := a.addr) (by omega)]
  by_cases e : a.i + 1 = lenA a.addr
  · rw [if_pos e]
    refine ⟨⟨rfl, rfl, ht, .inr ⟨hx, .inr (.inr ⟨rfl, rfl, by rw [← e]; exact ho⟩)⟩⟩, ?_⟩
    show 0 + 2 ≤ _
    omega
  · rw [if_neg e]
    refine ⟨⟨rfl, rfl, ht, .inr ⟨hx, .inl ⟨rfl, by show a.i + 1 < lenA a.addr; omega, ho⟩⟩⟩, ?_⟩
    show 2 * (lenA a.addr - (a.i + 1)) + 2 ≤ _
    omega
/-- what it is once it heard an answer of these codes -/
def Ap.maybeB (a : Ap) (x : An) : Ap := { a with maybe := a.maybe || (decide (a.at_ = 3) && (!true || decide (x.code = 0))) }
theorem hear_token {x : An} (h : a.at_ = 2) (hc : x.code = 0) (hx : 0 ≤ x.n ∧ x.n < 16384) : a.hear x true = { a.maybeB x with addr := x.n, i := 0, at_ := 3 } := by
  unfold Ap.hear
  rw [if_neg (by omega)]
  dsimp only
  rw [if_neg (by rw [hc]; simp), if_neg (by omega), if_neg (by omega), if_neg (by omega), if_neg (by omega), if_pos h, if_pos ⟨hc, hx⟩]
  rfl
theorem hear_wrote {x : An} (h : a.at_ = 3) (hc : x.code = 0) : a.hear x true = (a.maybeB x).wrote := by
  unfold Ap.hear
  rw [if_neg (by omega)]
  dsimp only
  rw [if_neg (by rw [hc]; simp), if_neg (by omega), if_neg (by omega), if_neg (by omega), if_neg (by omega), if_neg (by omega), if_pos h, if_pos hc]
  rfl
theorem hear_written {x : An} (h : a.at_ = 3) (hc : x.code = 41) : a.hear x true = { a.maybeB x with at_ := 4 } := by
  unfold Ap.hear
  rw [if_neg (by omega)]
  dsimp only
  rw [if_neg (by rw [hc]; simp), if_neg (by omega), if_neg (by omega), if_neg (by omega), if_neg (by omega), if_neg (by omega), if_pos h, if_neg (by omega), if_pos hc]
  rfl
theorem hear_looked {x : An} (h : a.at_ = 4) (hc : x.code = 0) (hd : x.data = a.txt) : a.hear x true = (a.maybeB x).wrote := by
  unfold Ap.hear
  rw [if_neg (by omega)]
  dsimp only
  rw [if_neg (by rw [hc]; simp), if_neg (by omega), if_neg (by omega), if_neg (by omega), if_neg (by omega), if_neg (by omega), if_neg (by omega), if_pos ⟨hc, hd⟩]
  rfl
/-- a question that is heard: all stand as they should behind it, and fewer are left -/
theorem ApE.heard (h : ApE s n a) (hN : WrN s t n) (ht : t ≤ 200) (hs : s.size ≤ 4096) (h6 : a.at_ ≠ 6) :
    ApE s (n.done a.ask) (a.hear (n.ans a.ask) true) ∧ leftE (a.hear (n.ans a.ask) true) + 1 ≤ leftE a := by
  have hot := hN.ot
  rcases h.st with h1 | ⟨h1, h2 | h2 | h2⟩
  · have hk : a.ask = nextK a.ep := by unfold Ap.ask; rw [if_neg (by omega), if_pos h1]
    rw [hk]
    obtain ⟨g1, g2, g3, g4, g5⟩ := hN.next (by omega) (k := nextK a.ep) rfl h.ep
    rw [hear_token h1 g1 (by rw [g2]; omega)]
    constructor
    · refine ⟨h.ep, h.L, h.txt, .inr ⟨?_, .inl ⟨rfl, ?_, fun j hj => absurd hj (Nat.not_lt_zero j)⟩⟩⟩
      · show 0 ≤ (n.ans (nextK a.ep)).n ∧ (n.ans (nextK a.ep)).n < (n.done (nextK a.ep)).o.tail
        rw [g2]
        exact ⟨hot.1, g5⟩
      · show 0 < lenA _
        unfold lenA
        split <;> omega
    · have e : leftE a = 7 := by unfold leftE; rw [if_neg h6, if_pos h1]
      rw [e]
      show 2 * (lenA (n.ans (nextK a.ep)).n - 0) + 1 ≤ 7
      unfold lenA
      split <;> omega
  · have hu := apL_unit (x := a.addr) (by omega) h2.2.1
    have hp := (apL_of (x := a.addr) (by omega)).1
    have hk : a.ask = a.unitK 1 a.txt := by unfold Ap.ask; rw [if_neg (by omega), if_neg (by omega), if_pos h2.1]
    have ku : (a.unitK 1 a.txt).unit = unitA a.addr a.i := by show (chainR a.ep a.L a.addr).getD a.i 0 = _; rw [h.ep, h.L, hu.1]
    have kp : (a.unitK 1 a.txt).page = a.addr / 2 := by show ofP a.ep a.L a.addr = _; rw [h.ep, h.L, hp]
    rw [hk]
    obtain ⟨g1, g2, g3, g4⟩ := hN.write hs (k := a.unitK 1 a.txt) rfl h.ep h.txt (by rw [kp]; omega) (by rw [ku]; omega)
    rw [ku, kp] at g4
    have hg := h.grew g3
    have g5 := g3.o
    have g6 := g2.ot.2
    have hon : OnU (n.done (a.unitK 1 a.txt)) a.addr (a.i + 1) := by
      intro j hj
      by_cases e : j = a.i
      · rw [e]; exact g4
      · exact g3.u _ _ (h2.2.2 j (by omega))
    have e : leftE a = 2 * (lenA a.addr - a.i) := by unfold leftE; rw [if_neg h6, if_neg (by omega), if_pos h2.1]
    rw [e]
    rcases g1 with g1 | g1
    · rw [hear_wrote h2.1 g1]
      have hw := ApE.wrote (s := s) (n := n.done (a.unitK 1 a.txt)) (a := a.maybeB (n.ans (a.unitK 1 a.txt))) h.ep h.L h.txt (by show 0 ≤ a.addr ∧ a.addr < _; omega) (by omega) h2.2.1 hon
      exact ⟨hw.1, by have h3 := hw.2; have h4 : 2 * (lenA (a.maybeB (n.ans (a.unitK 1 a.txt))).addr - (a.maybeB (n.ans (a.unitK 1 a.txt))).i) = 2 * (lenA a.addr - a.i) := rfl; omega⟩
    · rw [hear_written h2.1 g1]
      refine ⟨⟨h.ep, h.L, h.txt, .inr ⟨by show 0 ≤ a.addr ∧ a.addr < _; omega, .inr (.inl ⟨rfl, h2.2.1, hon⟩)⟩⟩, ?_⟩
      show 2 * (lenA a.addr - a.i) - 1 + 1 ≤ 2 * (lenA a.addr - a.i)
      have := h2.2.1
      omega
  · have hu := apL_unit (x := a.addr) (by omega) h2.2.1
    have hp := (apL_of (x := a.addr) (by omega)).1
    have hk : a.ask = a.unitK 3 ⟨#[]⟩ := by unfold Ap.ask; rw [if_neg (by omega), if_neg (by omega), if_neg (by omega), if_pos h2.1]
    have ku : (a.unitK 3 ⟨#[]⟩).unit = unitA a.addr a.i := by show (chainR a.ep a.L a.addr).getD a.i 0 = _; rw [h.ep, h.L, hu.1]
    have kp : (a.unitK 3 ⟨#[]⟩).page = a.addr / 2 := by show ofP a.ep a.L a.addr = _; rw [h.ep, h.L, hp]
    rw [hk]
    obtain ⟨g1, g2⟩ := hN.read (k := a.unitK 3 ⟨#[]⟩) rfl h.ep (by rw [kp]; omega) (by rw [ku]; omega)
    have g3 := g2 (by rw [ku, kp]; exact h2.2.2 a.i (by omega))
    rw [g1, hear_looked h2.1 g3.1 (by rw [g3.2, h.txt])]
    have hw := ApE.wrote (s := s) (n := n) (a := a.maybeB (n.ans (a.unitK 3 ⟨#[]⟩))) h.ep h.L h.txt (by show 0 ≤ a.addr ∧ a.addr < _; omega) (by omega) h2.2.1 h2.2.2
    have e : leftE a = 2 * (lenA a.addr - a.i) - 1 := by unfold leftE; rw [if_neg h6, if_neg (by omega), if_neg (by omega)]
    rw [e]
    exact ⟨hw.1, by have h3 := hw.2; have h4 : 2 * (lenA (a.maybeB (n.ans (a.unitK 3 ⟨#[]⟩))).addr - (a.maybeB (n.ans (a.unitK 3 ⟨#[]⟩))).i) = 2 * (lenA a.addr - a.i) := rfl; have := h2.2.1; omega⟩
  · exact absurd h2.1 h6
end
/-- a hand and an append over it, t steps on at the most: all keep what the law leans on -/
structure EndS (s : ByteArray) (t : Int) (h : Hd) (a : Ap) : Prop where
  n : WrN s t h.n
  a : ApE s h.n a
  held : ∀ k ∈ h.held, AskE s k
  used : h.n.l = newL 0 apL
theorem EndS.start {s : ByteArray} (hs : s.size ≤ 4096) : EndS s 0 ⟨newN 0 apL 200, []⟩ (newAp 0 apL s) := by
  refine ⟨⟨fun i _ => ⟨rfl, rfl, rfl, rfl, newP_ok (by decide), fun x hx => by cases hx⟩, rfl, rfl, ⟨by decide, by decide⟩⟩, ApE.new _ hs, fun k hk => (by cases hk), rfl⟩
theorem EndS.turn {s : ByteArray} {t : Int} {h : Hd} {a : Ap} (H : EndS s t h a) (hs : s.size ≤ 4096) (ht : t ≤ 198) (h6 : a.at_ ≠ 6) (fate : Int) :
    EndS s (t + 1) (h.asked a.ask fate) (a.hear (h.heard a.ask fate) (decide (fate = 0))) ∧ (fate = 0 → leftE (a.hear (h.heard a.ask fate) (decide (fate = 0))) + 1 ≤ leftE a) := by
  have hot := H.n.ot
  have hq := H.a.asks h6 (by omega)
  obtain ⟨d1, d2⟩ := H.n.done (by omega) hs hq
  by_cases f0 : fate = 0
  · subst f0
    have e1 : h.asked a.ask 0 = ⟨h.n.done a.ask, h.held⟩ := by unfold Hd.asked; rw [if_pos (.inl rfl)]
    have e2 : h.heard a.ask 0 = h.n.ans a.ask := by unfold Hd.heard; rw [if_pos rfl]
    rw [e1, e2]
    obtain ⟨g1, g2⟩ := H.a.heard H.n (by omega) hs h6
    exact ⟨⟨d1, g1, H.held, d2.l.trans H.used⟩, fun _ => g2⟩
  · rw [decide_eq_false f0]
    refine ⟨?_, fun h => absurd h f0⟩
    by_cases f2 : fate = 2
    · have e1 : h.asked a.ask fate = ⟨h.n.done a.ask, h.held⟩ := by unfold Hd.asked; rw [if_pos (.inr f2)]
      rw [e1]
      exact ⟨d1, (H.a.grew d2).deaf _, H.held, d2.l.trans H.used⟩
    by_cases f3 : fate = 3 ∧ h.held.length < 64
    · have e1 : h.asked a.ask fate = ⟨h.n, h.held ++ [a.ask]⟩ := by unfold Hd.asked; rw [if_neg (by omega), if_pos f3]
      rw [e1]
      refine ⟨H.n.more (by omega), H.a.deaf _, fun k hk => ?_, H.used⟩
      rcases List.mem_append.1 (show k ∈ h.held ++ [a.ask] from hk) with h1 | h1
      · exact H.held k h1
      · rw [List.mem_singleton.1 h1]; exact hq
    · have e1 : h.asked a.ask fate = h := by unfold Hd.asked; rw [if_neg (by omega), if_neg f3]
      rw [e1]
      exact ⟨H.n.more (by omega), H.a.deaf _, H.held, H.used⟩
theorem EndS.does {s : ByteArray} {t : Int} {h : Hd} {a : Ap} (H : EndS s t h a) (hs : s.size ≤ 4096) (ht : t ≤ 16000) (k : Int) : EndS s (t + 1) (h.does k) a := by
  unfold Hd.does
  split
  · next hk =>
    have hm : h.held[k.toNat]'(by omega) ∈ h.held := List.getElem_mem _
    obtain ⟨d1, d2⟩ := H.n.done ht hs (H.held _ hm)
    exact ⟨d1, H.a.grew d2, fun x hx => H.held x (lessK_mem hx), d2.l.trans H.used⟩
  · exact ⟨H.n.more (by omega), H.a, H.held, H.used⟩
/-- once it is over, each unit of its chain has the record -/
theorem EndS.ends {s : ByteArray} {t : Int} {h : Hd} {a : Ap} (H : EndS s t h a) (ht : t ≤ 200) (h6 : a.at_ = 6) : (0 ≤ a.addr ∧ a.addr < 200) ∧ a.e = 0 ∧ ∀ j, j < lenA a.addr → (h.n.u (unitA a.addr j).toNat).p.readE (a.addr / 2) = 0 ∧ (h.n.u (unitA a.addr j).toNat).p.readS (a.addr / 2) = s := by
  have hot := H.n.ot
  rcases H.a.st with h1 | ⟨h1, h2 | h2 | h2⟩
  · omega
  · omega
  · omega
  · refine ⟨by omega, h2.2.1, fun j hj => ?_⟩
    have hu := apL_unit (x := a.addr) (by omega) hj
    have hU := H.n.u (unitA a.addr j).toNat (by omega)
    have hq := h2.2.2 j hj
    have e1 : (h.n.u (unitA a.addr j).toNat).p.readE (a.addr / 2) = 0 := by
      unfold Ps.readE
      rw [if_neg (by rw [there110 (by omega)]; decide), hU.kind_yes (by omega) hq, if_neg (by decide), if_neg (by decide), if_neg (by decide)]
    refine ⟨e1, ?_⟩
    obtain ⟨x, k1, _, k3⟩ := hU.find hq
    unfold Ps.readS Ps.text
    rw [if_pos e1, k1]
    exact k3
end Go.Proofs.YthffjanidjjkdaaGreat
namespace Go.Proofs.YthffjanidjjkdaaGreat
set_option linter.unusedVariables false
open Go.ChangeShapes Go.WideShapes Go.ChangeAt Go.RowKit
def byteC (x : Int) : List Value := [.int .u8 x]
def byteOk (_ : World) (x : Int) : Prop := 0 ≤ x ∧ x < 256
section
variable {H : Type} {enc : TypeId × Value → H} {P : Program} {w : World} {base : Nat} {spare : Nat → Bool} {held : Bool}
theorem byte_cs {n : Nat} {cs : List Value} {y : DataW H × List MemPlace} {e : TypeId} (he : P.underlying e = some (.int .u8)) (hl : cs.length = 1) (hf : DataW.trod enc P w base spare held n e cs = some y) : ∃ x, cs = byteC x ∧ byteOk w x := by
  obtain ⟨x, e0, _, wf⟩ := DataW.trod_int he hf
  refine ⟨x, e0, ?_⟩
  have h := wf
  simp [Lit.wf] at h
  have e1 : IntKind.u8.min = 0 := by decide
  have e2 : IntKind.u8.max = 255 := by decide
  unfold byteOk
  omega
end
/-- some pages were written with the text s, k of them at most; they are all there is -/
structure Wrote (u : Us) (s : ByteArray) (V : List Int) (k : Nat) : Prop where
  ok : u.p.Ok
  room : u.p.room = 300
  edge : u.p.edge = 0
  ep : u.epoch = 0
  few : u.p.l.length ≤ k
  all : ∀ x ∈ u.p.l, x.kind = 1 ∧ x.s = s
  there : ∀ v ∈ V, (0 ≤ v ∧ v < 256) ∧ ∃ x ∈ u.p.l, x.at_ = v
theorem Wrote.start (s : ByteArray) : Wrote (newU 300) s [] 0 := ⟨newP_ok (by decide), rfl, rfl, rfl, Nat.le_refl _, (fun x hx => by cases hx), fun v hv => by cases hv⟩
theorem Wrote.find {u : Us} {s : ByteArray} {V : List Int} {k : Nat} (h : Wrote u s V k) {v : Int} (hv : v ∈ V) : ∃ x, findP u.p.l v = some x ∧ x.kind = 1 ∧ x.s = s := by
  obtain ⟨_, x, hx, e⟩ := h.there v hv
  cases hf : findP u.p.l v with
  | none => exact absurd e (findP_none.1 hf x hx)
  | some y =>
    obtain ⟨h1, _⟩ := findP_some hf
    exact ⟨y, rfl, h.all y h1⟩
theorem Wrote.read {u : Us} {s : ByteArray} {V : List Int} {k : Nat} (h : Wrote u s V k) (hd : u.down = false) {v : Int} (hv : v ∈ V) : (u.ans (akP 3 0 v ⟨#[]⟩)).code = 0 ∧ (u.ans (akP 3 0 v ⟨#[]⟩)).data = s ∧ u.done (akP 3 0 v ⟨#[]⟩) = u := by
  obtain ⟨x, hx, hk, hs⟩ := h.find hv
  obtain ⟨hr, _⟩ := h.there v hv
  have hth : thereB v = true := thereB_iff.2 (by omega)
  have hkd : u.p.kind v = 1 := by
    unfold Ps.kind
    rw [if_pos hth, if_neg (by rw [h.edge]; omega), hx]
    exact hk
  have hE : u.p.readE v = 0 := by
    unfold Ps.readE
    rw [hth, hkd]
    rfl
  have hT : u.p.readS v = s := by
    unfold Ps.readS Ps.text
    rw [if_pos hE, hx]
    exact hs
  have ha : u.ans (akP 3 0 v ⟨#[]⟩) = anP 0 0 s u.epoch := by
    unfold Us.ans
    rw [if_neg (by rw [hd]; decide), if_neg (by show ¬ ((3 : Int) < 1 ∨ (5 : Int) < 3); omega), if_neg (by show ¬ (0 : Int) < u.epoch; rw [h.ep]; omega), if_neg (by show ¬ (3 : Int) = 5; omega), if_pos (by show (3 : Int) = 3; rfl)]
    show anP (u.p.readE v) 0 (u.p.readS v) u.epoch = _
    rw [hE, hT]
  refine ⟨by rw [ha]; rfl, by rw [ha]; rfl, ?_⟩
  unfold Us.done
  rw [if_neg (by show ¬ (u.down = true ∨ ((3 : Int) < 1 ∨ (5 : Int) < 3) ∨ (0 : Int) < u.epoch); rw [hd, h.ep]; simp), if_neg (by show ¬ (3 : Int) = 5; omega)]
  rfl
theorem Wrote.turn {u : Us} {s : ByteArray} {V : List Int} {k : Nat} (h : Wrote u s V k) (d : Bool) : Wrote ⟨u.p, u.epoch, d⟩ s V k := ⟨h.ok, h.room, h.edge, h.ep, h.few, h.all, h.there⟩
theorem Wrote.write {u : Us} {s : ByteArray} {V : List Int} {k : Nat} (h : Wrote u s V k) (hd : u.down = false) {v : Int} (hv : 0 ≤ v ∧ v < 256) (hs : s.size ≤ 2000) (hk : k ≤ 200) :
    Wrote (u.done (akP 1 0 v s)) s (V ++ [v]) (k + 1) ∧ (u.done (akP 1 0 v s)).down = false := by
  have hdn : u.done (akP 1 0 v s) = ⟨u.p.write v s, u.epoch, u.down⟩ := by
    unfold Us.done
    rw [if_neg (by show ¬ (u.down = true ∨ ((1 : Int) < 1 ∨ (5 : Int) < 1) ∨ (0 : Int) < u.epoch); rw [hd, h.ep]; simp), if_neg (by show ¬ (1 : Int) = 5; omega)]
    rfl
  rw [hdn]
  refine ⟨?_, hd⟩
  have hth : thereB v = true := thereB_iff.2 (by omega)
  cases hf : findP u.p.l v with
  | some x =>
    obtain ⟨h1, h2⟩ := findP_some hf
    have hkd : u.p.kind v = 1 := by
      unfold Ps.kind
      rw [if_pos hth, if_neg (by rw [h.edge]; omega), hf]
      exact (h.all x h1).1
    have hw : u.p.write v s = u.p := by
      unfold Ps.write
      rw [if_neg]
      intro e
      have := (writeE_zero e).2.2.1
      omega
    rw [hw]
    refine ⟨h.ok, h.room, h.edge, h.ep, Nat.le_succ_of_le h.few, h.all, fun y hy => ?_⟩
    rcases List.mem_append.1 hy with hy | hy
    · exact h.there y hy
    · rw [List.mem_singleton.1 hy]; exact ⟨hv, x, h1, h2⟩
  | none =>
    have hkd : u.p.kind v = 0 := by
      unfold Ps.kind
      rw [if_pos hth, if_neg (by rw [h.edge]; omega), hf]
    have hE : u.p.writeE v s = 0 := by
      unfold Ps.writeE
      rw [hth, hkd, if_neg (by decide), if_neg (by omega), if_neg (by decide), if_neg (by decide), if_neg (by rw [h.room]; have := h.few; omega)]
    have hw : u.p.write v s = u.p.add ⟨v, 1, s⟩ := if_pos hE
    have hok := h.ok.write v s
    rw [hw] at hok ⊢
    refine ⟨hok, h.room, h.edge, h.ep, ?_, fun x hx => ?_, fun y hy => ?_⟩
    · show (u.p.l ++ [_]).length ≤ k + 1
      rw [List.length_append]
      have := h.few
      simp
      omega
    · rcases List.mem_append.1 hx with hx | hx
      · exact h.all x hx
      · rw [List.mem_singleton.1 hx]; exact ⟨rfl, rfl⟩
    · rcases List.mem_append.1 hy with hy | hy
      · obtain ⟨h1, x, h2, h3⟩ := h.there y hy
        exact ⟨h1, x, List.mem_append_left _ h2, h3⟩
      · rw [List.mem_singleton.1 hy]
        exact ⟨hv, ⟨v, 1, s⟩, List.mem_append_right _ (List.mem_singleton.2 rfl), rfl⟩
theorem byte_at {w : World} {ao : Option Addr} {l : List Int} (h : Row w ao 1 byteC l) {i : Nat} (hi : i < l.length) : ∃ bk off, ao = some ⟨bk, off, none⟩ ∧ w.cell? ⟨bk, off + i, none⟩ = some (.int .u8 l[i]) := by
  obtain ⟨bk, off, h1, h2⟩ := h i hi
  have := h2 0 _ rfl
  simp at this
  exact ⟨bk, off, h1, this⟩
end Go.Proofs.YthffjanidjjkdaaGreat
namespace Go.Proofs.YthffjanidjjkdaaGreat
open Go.ChangeShapes Go.WideShapes Go.ChangeAt Go.RowKit
set_option maxRecDepth 20000
/-- the row at ao holds the pairs K, two cells each -/
def PL (w : World) (ao : Option Addr) (K : List (Int × Int)) : Prop :=
  ∀ i (h : i < K.length), ∃ bk off, ao = some ⟨bk, off, none⟩ ∧ w.cell? ⟨bk, off + i * 2, none⟩ = some (.int .i64 K[i].1) ∧ w.cell? ⟨bk, off + i * 2 + 1, none⟩ = some (.int .i64 K[i].2) ∧ (Lit.int .i64 K[i].1).wf = true ∧ (Lit.int .i64 K[i].2).wf = true
theorem PL.nil (w : World) (ao : Option Addr) : PL w ao [] := fun i h => absurd h (Nat.not_lt_zero i)
theorem PL.below {w w' : World} {ao : Option Addr} {K : List (Int × Int)} (h : PL w ao K) (hb : Below w.heap.size w w') : PL w' ao K := by
  intro i hi
  obtain ⟨bk, off, h1, h2, h3, h4⟩ := h i hi
  exact ⟨bk, off, h1, cellB hb (block_lt_of_cell h2) h2, cellB hb (block_lt_of_cell h3) h3, h4⟩
section
variable {H : Type} {enc : TypeId × Value → H} {P : Program} {w : World} {base : Nat} {spare : Nat → Bool} {held : Bool}
end
/-- the cells of pairs -/
def cellsK (K : List (Int × Int)) : List Value := K.flatMap (fun e => [.int .i64 e.1, .int .i64 e.2])
theorem cellsK_at (K : List (Int × Int)) (i : Nat) (h : i < K.length) : (cellsK K)[i * 2]? = some (.int .i64 K[i].1) ∧ (cellsK K)[i * 2 + 1]? = some (.int .i64 K[i].2) := by
  induction K generalizing i with
  | nil => cases h
  | cons e K ih =>
    have hc : cellsK (e :: K) = .int .i64 e.1 :: .int .i64 e.2 :: cellsK K := rfl
    rw [hc]
    cases i with
    | zero => exact ⟨rfl, rfl⟩
    | succ i =>
      have := ih i (by simpa using h)
      rw [show (i + 1) * 2 = i * 2 + 1 + 1 by omega]
      simpa using this
/-- v is a row of the call's own that holds the pairs K -/
def OP (w : World) (B : Nat) (v : Value) (K : List (Int × Int)) : Prop := w.ownsRow B 0 2 v K.length (cellsK K) ∧ ∀ e ∈ K, (Lit.int .i64 e.1).wf = true ∧ (Lit.int .i64 e.2).wf = true
theorem OP.nil (w : World) (B : Nat) : OP w B (.slice none 0 0) [] := ⟨World.ownsRow_nil _ _ _ _, fun e h => by cases h⟩
theorem OP.kept {w w' : World} {B : Nat} {v : Value} {K : List (Int × Int)} {row : Option Nat} (h : OP w B v K) (hg : w.grownBy w' row) (hne : v.ownBlock = none ∨ v.ownBlock ≠ row) : OP w' B v K := ⟨h.1.kept hg hne, h.2⟩
theorem OP.below {w w' : World} {B : Nat} {v : Value} {K : List (Int × Int)} (h : OP w B v K) (hb : Below w.heap.size w w') : OP w' B v K :=
  ⟨(Kept.ofBelow hb (fun _ => True)).owns h.1 (fun _ _ => trivial), h.2⟩
theorem OP.form {w : World} {B : Nat} {v : Value} {K : List (Int × Int)} (h : OP w B v K) : ∃ ao cap, v = .slice ao K.length cap ∧ PL w ao K := by
  rcases h.1.2 with ⟨rfl, h0⟩ | ⟨g, cap, cur, rfl, hbg, hh, hnc, _, hcs, ht⟩
  · have : K = [] := List.eq_nil_of_length_eq_zero h0
    subst this
    exact ⟨none, 0, rfl, PL.nil w none⟩
  · refine ⟨some ⟨g, 0, none⟩, cap, rfl, fun i hi => ?_⟩
    obtain ⟨h1, h2⟩ := cellsK_at K i hi
    rw [← ht, List.getElem?_take, if_pos (by omega)] at h1 h2
    have h1' : cur[i * 2]? = some (.int .i64 K[i].1) := by simpa using h1
    have h2' : cur[i * 2 + 1]? = some (.int .i64 K[i].2) := by simpa using h2
    refine ⟨g, 0, rfl, ?_, ?_, h.2 _ (List.getElem_mem hi)⟩
    · rw [Nat.zero_add, ← h1']
      simp [World.cell?, hh]
    · rw [Nat.zero_add, ← h2']
      simp [World.cell?, hh]
end Go.Proofs.YthffjanidjjkdaaGreat
