/- The program's own Copy makes a copy in new memory, each of its rows in a place of its own. Conditions: the projection lies where the call was told, and is not too large. What the program's sequencer answers a question that looks, or that is none of its. Conditions: it and the question lie where the call was told. What the program's own New, isNone, Kind, Used and Edge return. Conditions: the object lies where the call was told. Plain facts on a unit that pages are written to: they are read as they were written. A slice of bytes that was handed over. No conditions. Plain facts on a tail that is asked for: what it asks, what each answer makes of it, how it is over. No conditions. -/
import Derived.Test.YtchhmfdalghgcaaGreatG10b
set_option linter.unusedVariables false
namespace Go.Proofs.YtchhmfdalghgcaaGreat
open Go.RowKit
set_option linter.unusedVariables false
set_option maxRecDepth 20000
theorem OC.ofCP {w : World} {B : Nat} {v : Value} {vs : List Value} {L : List (List Int)} (h : CP w B v vs L) : OC w B v L := by
  refine ⟨vs, h.1, fun i hi => ?_⟩
  have hv : i < vs.length := by rw [h.2.1]; exact hi
  obtain ⟨h1, h2⟩ := h.2.2.1 i hi vs[i] (List.getElem?_eq_getElem hv)
  obtain ⟨ao, cap, e, hN, hA, ho⟩ := h1.form
  exact ⟨ao, cap, by rw [List.getElem?_eq_getElem hv, e], hN, fun a ea => ⟨(hA a ea).1, (hA a ea).2, h2 a.block (by rw [ho, ea]; rfl)⟩⟩
set_option maxHeartbeats 8000000 in
theorem copyO_any (ep : Int) (ao : Option Addr) (cap : Nat) (L : List (List Int)) (w : World) (hT : CL w ao L) (hS : L.length ≤ 255 ∧ ∀ c ∈ L, c.length ≤ 255) :
    Calls Tryz.prog 31 #[.agg #[.int .i64 ep, .slice ao L.length cap]] w fun e w' => ∃ v, e = .returned (.agg #[.int .i64 ep, v]) ∧ OC w' w.heap.size v L ∧ Below w.heap.size w w' := by
  have HB0 := Lib.hid ((((Below.refl w.heap.size w).alloc (Nat.le_refl _) (.cells #[.int .i64 ep, .slice ao L.length cap] 29)).alloc (by simp) (.cells #[.int .i64 0, .slice none 0 0] 29)).alloc (by simp; omega) (.cells #[.int .i64 ep, .slice none 0 0] 29))
  have hl' : (L.length : Int) ≤ 255 := by have := hS.1; omega
  have HT := Lib.hid hT
  have HM := Lib.hid hS
  have HRES := Lib.hid (show ((((w.alloc (.cells #[.int .i64 ep, .slice ao L.length cap] 29)).alloc (.cells #[.int .i64 0, .slice none 0 0] 29)).alloc (.cells #[.int .i64 ep, .slice none 0 0] 29))).heap[w.heap.size + 1]? = some (.cells #[.int .i64 0, .slice none 0 0] 29 (0, 0)) from by
    have h := heap_alloc_new (w.alloc (.cells #[.int .i64 ep, .slice ao L.length cap] 29)) (.cells #[.int .i64 0, .slice none 0 0] 29)
    have h2 := below_heap ((Below.refl _ _).alloc (Nat.le_refl _) (.cells #[.int .i64 ep, .slice none 0 0] 29)) h
    simpa using h2)
  have HQ0 := Lib.hid (show ((((w.alloc (.cells #[.int .i64 ep, .slice ao L.length cap] 29)).alloc (.cells #[.int .i64 0, .slice none 0 0] 29)).alloc (.cells #[.int .i64 ep, .slice none 0 0] 29))).heap[w.heap.size + 2]? = some (.cells #[.int .i64 ep, .slice none 0 0] 29 (0, 0)) from by
    have h := heap_alloc_new ((w.alloc (.cells #[.int .i64 ep, .slice ao L.length cap] 29)).alloc (.cells #[.int .i64 0, .slice none 0 0] 29)) (.cells #[.int .i64 ep, .slice none 0 0] 29)
    simpa using h)
  have HSZ := Lib.hid (show ((((w.alloc (.cells #[.int .i64 ep, .slice ao L.length cap] 29)).alloc (.cells #[.int .i64 0, .slice none 0 0] 29)).alloc (.cells #[.int .i64 ep, .slice none 0 0] 29))).heap.size = w.heap.size + 3 from by simp)
  clear hT hS
  go_enter Tryz.func31, Tryz.ntmps31
  go_wp2_with fail
  generalize hW0 : World.alloc (World.alloc _ _) _ = W0 at *
  go_loopw [12] (fun i wr => ∃ (n : Nat) (v : Value) (vs : List Value), i = .int .i64 n ∧ n ≤ L.length ∧ Hid (wr.heap[w.heap.size + 2]? = some (.cells #[.int .i64 ep, v] 29 (0, 0))) ∧ Hid (CP wr (w.heap.size + 3) v vs (L.take n)) ∧ Hid (Kept (fun k => k < w.heap.size + 3 ∧ k ≠ w.heap.size + 2) W0 wr)) (fun i _ => L.length - (intOf i).toNat)
  case atStart => exact ⟨0, _, [], rfl, Nat.zero_le _, HQ0, Lib.hid (by rw [List.take_zero]; exact CP.nil _ _), Lib.hid (Kept.refl _ _)⟩
  case round =>
    obtain ⟨n, v, vs, rfl, hn, HP, HC, HK⟩ := hrel
    have HWB := Lib.hid (HB0.out.trans (HK.out.toBelow (by rw [HSZ.out]; omega) (fun k h => ⟨by omega, by omega⟩)))
    have hszr : w.heap.size + 3 ≤ wr.heap.size := by have := HK.out.size; have := HSZ.out; omega
    by_cases hlt : n < L.length
    · obtain ⟨bk, off, ai, ci, hao, c0w, hN⟩ := HT.out n hlt
      subst hao
      have cA : wr.cell? ⟨bk, off + n, none⟩ = some (.slice ai L[n].length ci) := cellB HWB.out (block_lt_of_cell c0w) c0w
      have HNN := Lib.hid (show NLI wr.drew ai ci L[n] from (hN.below HWB.out).drew)
      have k0 : (n : Int) < (L.length : Int) := by omega
      have m0 := HM.out.2 _ (List.getElem_mem hlt)
      have m0' : (L[n].length : Int) ≤ 255 := by omega
      have hLn := HM.out.1
      have HLT := Lib.hid (show (L.take n).length + 1 ≤ 1000000 from by rw [List.length_take]; omega)
      obtain ⟨c0, c1, f0, f1⟩ := two_cells HP.out
      have HTK := Lib.hid (fun (w' : World) (v' : Value) (vs' : List Value) h => @CP.take w' (w.heap.size + 3) v' vs' L n hlt h)
      have hqr : w.heap.size + 2 < wr.heap.size := by omega
      clear c0w hN
      go_wp2_with fail
      clear cA
      go_region_law (first
        | (refine step_app_ints rfl (.const (.slice none 0 0)) (.tmp 18) rfl (B := wr.heap.size) (v := .slice none 0 0) (D := []) rfl (OI.nil _ _) (ao := ai) (cap := ci) (l := L[n]) rfl rfl HNN.out (by simp; omega) (Nat.le_refl _) ?_; intro v1 w1 hI hg _; rw [List.nil_append] at hI; have hb1 : Below wr.heap.size wr w1 := (Below.refl wr.heap.size wr).drew.grown hg (Nat.le_refl _) (fun k e => by cases e); obtain ⟨a1, cc1, hv1, _, _, _⟩ := hI.form; subst hv1; have HC1 := Lib.hid (HC.out.below hb1); have HF1 := Lib.hid (HC.out.fresh hI); have HI1 := Lib.hid (hI.lower hszr); have HB1 := Lib.hid hb1; have hsz1 : w.heap.size + 3 ≤ w1.heap.size := Nat.le_trans hszr hb1.size; have hq1 : w.heap.size + 2 < w1.heap.size := hsz1; have HP1 := Lib.hid (below_heap hb1 HP.out); obtain ⟨d0, d1, g0, g1⟩ := two_cells HP1.out; clear hI hg hb1)
        | (refine step_app_copy rfl (.tmp 17) (.tmp 20) rfl (w := w1) (B := w.heap.size + 3) (v := v) (vs := vs) (L := L.take n) rfl HC1.out (y := .slice a1 L[n].length cc1) (l := L[n]) rfl HI1.out HF1.out HLT.out hsz1 ?_; intro v2 w2 hC2 hb2; obtain ⟨b8, n8, c8, hv8⟩ : ∃ b8 n8 c8, v2 = .slice b8 n8 c8 := (by obtain ⟨x, y, e⟩ := hC2.form; exact ⟨x, _, y, e⟩); subst hv8; have HC2 := Lib.hid (HTK.out _ _ _ hC2); have HP2 := Lib.hid ((below_kept hb2 hsz1).heap (b := w.heap.size + 2) (by omega) HP1.out); obtain ⟨x0, x1, y0, y1⟩ := two_cells HP2.out; have HK2 := Lib.hid ((HK.out.below HB1.out).trans ((below_kept hb2 hsz1).mono (fun k h => h.1))); clear hC2 hb2))
      all_goals
        go_wp2_with fail
        go_roundw
        case rel =>
          refine ⟨n + 1, .slice b8 n8 c8, vs ++ [.slice a1 L[n].length cc1], by go_num, by omega, Lib.hid (two_set1 HP2.out (.slice b8 n8 c8)), Lib.hid ?_, Lib.hid ?_⟩
          · exact HC2.out.keep ((Kept.refl (fun k => w.heap.size + 3 ≤ k) w2).setCell (p := ⟨w.heap.size + 2, 1, none⟩) (by simp) (.slice b8 n8 c8)) (fun k h _ => h)
          · exact HK2.out.setCell (p := ⟨w.heap.size + 2, 1, none⟩) (by simp) (.slice b8 n8 c8)
        case measure => simp [intOf]; omega
    · obtain rfl : n = L.length := by omega
      rw [List.take_of_length_le (Nat.le_refl _)] at HC
      obtain ⟨bo1, cb1, hv1⟩ := HC.out.form
      subst hv1
      have HR := Lib.hid (HK.out.heap (b := w.heap.size + 1) ⟨by omega, by omega⟩ HRES.out)
      obtain ⟨c0, c1, f0, f1⟩ := two_cells HP.out
      obtain ⟨t0, t1, g0, g1⟩ := two_cells HR.out
      have hszp : w.heap.size + 2 < wr.heap.size := by omega
      go_wp2_with fail
      have hK := ((Kept.refl (fun k => w.heap.size + 3 ≤ k) wr).setCell (p := ⟨w.heap.size + 1, 0, none⟩) (by simp) (.int .i64 ep)).setCell (p := ⟨w.heap.size + 1, 1, none⟩) (by simp) (.slice bo1 L.length cb1)
      exact proj_ret rfl (two_set1 (two_set0 HR.out (.int .i64 ep)) (.slice bo1 L.length cb1)) rfl rfl ⟨.slice bo1 L.length cb1, rfl, (OC.ofCP (HC.out.keep hK (fun _ h _ => h))).lower (by omega), (HWB.out.setCell (by simp) _).setCell (by simp) _⟩
end Go.Proofs.YtchhmfdalghgcaaGreat
namespace Go.Proofs.YtchhmfdalghgcaaGreat
set_option linter.unusedVariables false
open Go.RowKit
set_option maxRecDepth 20000
set_option maxHeartbeats 800000 in
theorem on_refuse (b : Nat) (G : Nat → Prop) (w : World) (o : Od) (a : Ak) (h : OM b G w o) :
    Calls Tryz.prog 66 #[ptrO b, askV a] w fun e w' => e = .returned (anW 1 0 noT 0) ∧ Leaves (OM b) G w w' o := by
  obtain ⟨k, un, ep, pg, sz, n, s, pe, L, ao, cap⟩ := a
  have CC := Lib.hid ocoded_any
  have HS := Lib.hid (boxed_start (om_thing b) h #[.int .i64 k, .int .i64 un, .int .i64 ep, .int .i64 pg, .int .i64 sz, .int .i64 n, .string s, .int .i64 pe, .slice ao L.length cap])
  unfold zeroAn at HS
  clear h
  show Calls _ _ #[.pointer (some ⟨b, 0, none⟩), .agg #[.int .i64 k, .int .i64 un, .int .i64 ep, .int .i64 pg, .int .i64 sz, .int .i64 n, .string s, .int .i64 pe, .slice ao L.length cap]] w _
  go_enter Tryz.func66, Tryz.ntmps66
  go_wp2_with (go_at_call 56; refine (CC.out _ _).mono ?_; rintro e w3 ⟨rfl, hb3⟩; have HT3 := Lib.hid (HS.out.below (om_thing b) hb3); clear hb3; obtain ⟨nl1, nl2⟩ := HT3.out.small; obtain ⟨⟨ny0, ny1, ny2, ny3, ny4, ny5, ny6, ny7⟩, nfy0, nfy1, nfy2, nfy3, nfy4, nfy5, nfy6, nfy7⟩ := eight_cells HT3.out.ans)
  exact ans_ret (x := anP 1 0 noT 0) (ao := none) (cap := 0) rfl (HT3.out.fin (om_thing b)).1 rfl rfl ⟨rfl, (HT3.out.fin (om_thing b)).2⟩
set_option maxHeartbeats 800000 in
theorem on_look_other (b : Nat) (G : Nat → Prop) (w : World) (o : Od) (a : Ak) (h : OM b G w o) (he : a.epoch ≠ o.epoch) :
    Calls Tryz.prog 65 #[ptrO b, askV a] w fun e w' => e = .returned (anW 40 0 noT 0) ∧ Leaves (OM b) G w w' o := by
  obtain ⟨k, un, ep, pg, sz, n, s, pe, L, ao, cap⟩ := a
  obtain ⟨oe, ot, ok⟩ := o
  simp only at *
  have de : (ep != oe) = true := bne_iff_ne.2 he
  clear he
  have CC := Lib.hid ocoded_any
  have HS := Lib.hid (boxed_start (om_thing b) h #[.int .i64 k, .int .i64 un, .int .i64 ep, .int .i64 pg, .int .i64 sz, .int .i64 n, .string s, .int .i64 pe, .slice ao L.length cap])
  unfold zeroAn at HS
  clear h
  show Calls _ _ #[.pointer (some ⟨b, 0, none⟩), .agg #[.int .i64 k, .int .i64 un, .int .i64 ep, .int .i64 pg, .int .i64 sz, .int .i64 n, .string s, .int .i64 pe, .slice ao L.length cap]] w _
  go_enter Tryz.func65, Tryz.ntmps65
  go_wp2_with fail
  generalize hW0 : ((w.alloc (.cells #[.int .i64 k, .int .i64 un, .int .i64 ep, .int .i64 pg, .int .i64 sz, .int .i64 n, .string s, .int .i64 pe, .slice ao L.length cap] 37)).alloc (.cells #[.int .i64 0, .int .i64 0, .string ⟨#[]⟩, .int .i64 0, .slice none 0 0, .int .i64 0, .int .i64 0, .int .i64 0] 33)) = W0 at *
  clear hW0
  obtain ⟨l1, l2⟩ := HS.out.small
  obtain ⟨H, hH, _⟩ := HS.out.use
  have x2 : W0.cell? ⟨w.heap.size, 2, none⟩ = some (.int .i64 ep) := cell_of HS.out.ask 2
  obtain ⟨t, _, hc⟩ := hH.cells
  obtain ⟨c0, c1, c2, _⟩ := three_cells hc
  have hb := hH.small
  clear hH hc
  go_quiet (fail)
  have HT2 := Lib.hid (HS.out.drewN (om_thing b) nq)
  generalize hW2 : World.drewN W0 nq = w2 at *
  clear hW2 x2 c0 c1 c2 hb l1 l2
  obtain ⟨l1, l2⟩ := HT2.out.small
  go_wp2_with (go_at_call 56; refine (CC.out _ _).mono ?_; rintro e w3 ⟨rfl, hb3⟩; have HT3 := Lib.hid (HT2.out.below (om_thing b) hb3); clear hb3; obtain ⟨nl1, nl2⟩ := HT3.out.small; obtain ⟨⟨ny0, ny1, ny2, ny3, ny4, ny5, ny6, ny7⟩, nfy0, nfy1, nfy2, nfy3, nfy4, nfy5, nfy6, nfy7⟩ := eight_cells HT3.out.ans)
  exact ans_ret (x := anP 40 0 noT 0) (ao := none) (cap := 0) rfl (HT3.out.fin (om_thing b)).1 rfl rfl ⟨rfl, (HT3.out.fin (om_thing b)).2⟩
set_option maxHeartbeats 800000 in
theorem on_look_dumb (b : Nat) (G : Nat → Prop) (w : World) (o : Od) (a : Ak) (h : OM b G w o) (he : a.epoch = o.epoch) (hn : o.knows = false) :
    Calls Tryz.prog 65 #[ptrO b, askV a] w fun e w' => e = .returned (anW 47 0 noT 0) ∧ Leaves (OM b) G w w' o := by
  obtain ⟨k, un, ep, pg, sz, n, s, pe, L, ao, cap⟩ := a
  obtain ⟨oe, ot, ok⟩ := o
  simp only at *
  have de : (ep != oe) = false := bne_eq_false_iff_eq.2 he
  clear he
  subst hn
  have CC := Lib.hid ocoded_any
  have HS := Lib.hid (boxed_start (om_thing b) h #[.int .i64 k, .int .i64 un, .int .i64 ep, .int .i64 pg, .int .i64 sz, .int .i64 n, .string s, .int .i64 pe, .slice ao L.length cap])
  unfold zeroAn at HS
  clear h
  show Calls _ _ #[.pointer (some ⟨b, 0, none⟩), .agg #[.int .i64 k, .int .i64 un, .int .i64 ep, .int .i64 pg, .int .i64 sz, .int .i64 n, .string s, .int .i64 pe, .slice ao L.length cap]] w _
  go_enter Tryz.func65, Tryz.ntmps65
  go_wp2_with fail
  generalize hW0 : ((w.alloc (.cells #[.int .i64 k, .int .i64 un, .int .i64 ep, .int .i64 pg, .int .i64 sz, .int .i64 n, .string s, .int .i64 pe, .slice ao L.length cap] 37)).alloc (.cells #[.int .i64 0, .int .i64 0, .string ⟨#[]⟩, .int .i64 0, .slice none 0 0, .int .i64 0, .int .i64 0, .int .i64 0] 33)) = W0 at *
  clear hW0
  obtain ⟨l1, l2⟩ := HS.out.small
  obtain ⟨H, hH, _⟩ := HS.out.use
  have x2 : W0.cell? ⟨w.heap.size, 2, none⟩ = some (.int .i64 ep) := cell_of HS.out.ask 2
  obtain ⟨t, _, hc⟩ := hH.cells
  obtain ⟨c0, c1, c2, _⟩ := three_cells hc
  have hb := hH.small
  clear hH hc
  go_quiet (fail)
  have HT2 := Lib.hid (HS.out.drewN (om_thing b) nq)
  generalize hW2 : World.drewN W0 nq = w2 at *
  clear hW2 x2 c0 c1 c2 hb l1 l2
  obtain ⟨l1, l2⟩ := HT2.out.small
  obtain ⟨H, hH, _⟩ := HT2.out.use
  obtain ⟨t2, _, hc⟩ := hH.cells
  obtain ⟨c0, c1, c2, _⟩ := three_cells hc
  have hb := hH.small
  clear hH hc
  go_wp2_with (go_at_call 56; refine (CC.out _ _).mono ?_; rintro e w3 ⟨rfl, hb3⟩; have HT3 := Lib.hid (HT2.out.below (om_thing b) hb3); clear hb3; obtain ⟨nl1, nl2⟩ := HT3.out.small; obtain ⟨⟨ny0, ny1, ny2, ny3, ny4, ny5, ny6, ny7⟩, nfy0, nfy1, nfy2, nfy3, nfy4, nfy5, nfy6, nfy7⟩ := eight_cells HT3.out.ans)
  exact ans_ret (x := anP 47 0 noT 0) (ao := none) (cap := 0) rfl (HT3.out.fin (om_thing b)).1 rfl rfl ⟨rfl, (HT3.out.fin (om_thing b)).2⟩
set_option maxHeartbeats 800000 in
theorem on_look (b : Nat) (G : Nat → Prop) (w : World) (o : Od) (a : Ak) (h : OM b G w o) (he : a.epoch = o.epoch) (hn : o.knows = true) :
    Calls Tryz.prog 65 #[ptrO b, askV a] w fun e w' => e = .returned (anW 0 o.tail noT 0) ∧ Leaves (OM b) G w w' o := by
  obtain ⟨k, un, ep, pg, sz, n, s, pe, L, ao, cap⟩ := a
  obtain ⟨oe, ot, ok⟩ := o
  simp only at *
  have de : (ep != oe) = false := bne_eq_false_iff_eq.2 he
  clear he
  subst hn
  have HS := Lib.hid (boxed_start (om_thing b) h #[.int .i64 k, .int .i64 un, .int .i64 ep, .int .i64 pg, .int .i64 sz, .int .i64 n, .string s, .int .i64 pe, .slice ao L.length cap])
  unfold zeroAn at HS
  clear h
  show Calls _ _ #[.pointer (some ⟨b, 0, none⟩), .agg #[.int .i64 k, .int .i64 un, .int .i64 ep, .int .i64 pg, .int .i64 sz, .int .i64 n, .string s, .int .i64 pe, .slice ao L.length cap]] w _
  go_enter Tryz.func65, Tryz.ntmps65
  go_wp2_with fail
  generalize hW0 : ((w.alloc (.cells #[.int .i64 k, .int .i64 un, .int .i64 ep, .int .i64 pg, .int .i64 sz, .int .i64 n, .string s, .int .i64 pe, .slice ao L.length cap] 37)).alloc (.cells #[.int .i64 0, .int .i64 0, .string ⟨#[]⟩, .int .i64 0, .slice none 0 0, .int .i64 0, .int .i64 0, .int .i64 0] 33)) = W0 at *
  clear hW0
  obtain ⟨l1, l2⟩ := HS.out.small
  obtain ⟨H, hH, _⟩ := HS.out.use
  have x2 : W0.cell? ⟨w.heap.size, 2, none⟩ = some (.int .i64 ep) := cell_of HS.out.ask 2
  obtain ⟨t, _, hc⟩ := hH.cells
  obtain ⟨c0, c1, c2, _⟩ := three_cells hc
  have hb := hH.small
  clear hH hc
  go_quiet (fail)
  have HT2 := Lib.hid (HS.out.drewN (om_thing b) nq)
  generalize hW2 : World.drewN W0 nq = w2 at *
  clear hW2 x2 c0 c1 c2 hb l1 l2
  obtain ⟨l1, l2⟩ := HT2.out.small
  obtain ⟨H, hH, _⟩ := HT2.out.use
  obtain ⟨t2, ht2, hc⟩ := hH.cells
  have et : t2 = ot := ht2 rfl
  clear ht2
  subst et
  obtain ⟨c0, c1, c2, _⟩ := three_cells hc
  have hb := hH.small
  clear hH hc
  obtain ⟨⟨ny0, ny1, ny2, ny3, ny4, ny5, ny6, ny7⟩, nfy0, nfy1, nfy2, nfy3, nfy4, nfy5, nfy6, nfy7⟩ := eight_cells HT2.out.ans
  go_wp2_with fail
  exact ans_ret (x := anP 0 t2 noT 0) (ao := none) (cap := 0) rfl (HT2.out.fin (om_thing b)).1 rfl rfl ⟨rfl, (HT2.out.fin (om_thing b)).2⟩
end Go.Proofs.YtchhmfdalghgcaaGreat
namespace Go.Proofs.YtchhmfdalghgcaaGreat
open Go.RowKit Go.Maps
set_option linter.unusedVariables false
set_option maxRecDepth 20000
theorem isNone_nil (a : Int) (w : World) : Calls Tryz.prog 137 #[.pointer none, .int .i64 a] w fun e w' => e = .returned (.bool true) ∧ w = w' := by
  go_enter Tryz.func137, Tryz.ntmps137
  go_wp2
  go_ret
  exact ⟨rfl, rfl⟩
theorem pgIsNone_any (b : Nat) (a : Int) (w : World) : Calls Tryz.prog 137 #[.pointer (some ⟨b, 0, none⟩), .int .i64 a] w fun e w' => e = .returned (.bool (!thereB a)) ∧ w = w' := by
  have hd := Lib.hid (show (decide (a < 0) || decide (4096 ≤ a)) = !thereB a from by
    unfold thereB
    by_cases h0 : a < 0
    · simp [h0, show ¬ 0 ≤ a from by omega]
    · by_cases h1 : 4096 ≤ a
      · simp [h1, show ¬ a < 4096 from by omega]
      · simp [h0, h1, show 0 ≤ a from by omega, show a < 4096 from by omega])
  go_enter Tryz.func137, Tryz.ntmps137
  go_wp2
  all_goals
    go_ret
    rw [← hd.out]
    first | exact ⟨rfl, rfl⟩ | exact ⟨by simp [*], rfl⟩
theorem sheet_kind (k : Int) (s : ByteArray) (W : World) : (Instr.field 210 (.agg #[.int .i64 k, .string s]) 0).run Tryz.prog W = .ok (.int .i64 k) W := by kernel_rfl
theorem sheet_text (k : Int) (s : ByteArray) (W : World) : (Instr.field 210 (.agg #[.int .i64 k, .string s]) 1).run Tryz.prog W = .ok (.string s) W := by kernel_rfl
set_option maxHeartbeats 4000000 in
theorem kind_any (G : Nat → Prop) (w : World) (b : Nat) (p : Ps) (a : Int) (h : PGm G w b p) :
    Calls Tryz.prog 136 #[.pointer (some ⟨b, 0, none⟩), .int .i64 a] w fun e w' => e = .returned (.int .i64 (p.kind a)) ∧ w = w' := by
  have CN := Lib.hid (pgIsNone_any b a w)
  obtain ⟨mb, h1, h2, _⟩ := h
  by_cases ht : thereB a = true
  · rw [ht] at CN
    obtain ⟨c0, c1, c2, _⟩ := three_cells h1
    by_cases he : a < p.edge
    · have HE := Lib.hid (show p.kind a = 3 from by unfold Ps.kind; rw [if_pos ht, if_pos he])
      clear h1 h2 ht
      generalize p.edge = ed at *
      go_enter Tryz.func136, Tryz.ntmps136
      go_wp2_with (go_at_call 137; refine CN.out.mono ?_; rintro e w1 ⟨rfl, rfl⟩)
      go_ret
      rw [HE.out]
      exact ⟨rfl, rfl⟩
    · have HE := Lib.hid (kindL_of ht he)
      have he' : p.edge ≤ a := by omega
      have hl := h2.look (there_wf ht)
      have hf := sheet_kind
      clear h1 h2 ht he
      generalize p.edge = ed at *
      generalize kindL p.l a = kk at *
      generalize textL p.l a = tt at *
      go_enter Tryz.func136, Tryz.ntmps136
      go_wp2_with (go_at_call 137; refine CN.out.mono ?_; rintro e w1 ⟨rfl, rfl⟩)
      go_ret
      rw [HE.out]
      exact ⟨rfl, rfl⟩
  · have HE := Lib.hid (show p.kind a = 0 from by unfold Ps.kind; rw [if_neg ht])
    rw [Bool.eq_false_iff.2 ht] at CN
    clear h1 h2 ht
    go_enter Tryz.func136, Tryz.ntmps136
    go_wp2_with (go_at_call 137; refine CN.out.mono ?_; rintro e w1 ⟨rfl, rfl⟩)
    go_ret
    rw [HE.out]
    exact ⟨rfl, rfl⟩
theorem kind_nil (a : Int) (w : World) : Calls Tryz.prog 136 #[.pointer none, .int .i64 a] w fun e w' => e = .returned (.int .i64 0) ∧ w = w' := by
  have CN := Lib.hid (isNone_nil a w)
  go_enter Tryz.func136, Tryz.ntmps136
  go_wp2_with (go_at_call 137; refine CN.out.mono ?_; rintro e w1 ⟨rfl, rfl⟩)
  go_ret
  exact ⟨rfl, rfl⟩
theorem pnew_yes (room : Int) (w : World) (h : 1 ≤ room ∧ room ≤ 4096) : Calls Tryz.prog 55 #[.int .i64 room] w fun e w' => ∃ (b : Nat) (G : Nat → Prop), e = .returned (.tuple #[.pointer (some ⟨b, 0, none⟩), .int .i64 0]) ∧ PGm G w' b (newP room) ∧ (∀ k, G k → w.heap.size ≤ k) ∧ Below w.heap.size w w' := by
  obtain ⟨h0, h1⟩ := h
  have hmm := @run_makeMap Tryz.prog
  go_enter Tryz.func55, Tryz.ntmps55
  go_wp2
  go_ret2
  refine ⟨_, fun k => k = w.heap.size ∨ k = w.heap.size + 1, rfl, ⟨w.heap.size, ?_, ?_, ?_, ?_, .inl rfl, ?_⟩, ?_, ?_⟩
  · have := heap_alloc_new (w.alloc (.map #[] 0)) (.cells #[.int .i64 room, .int .i64 0, .map (some w.heap.size)] 149)
    simpa [newP] using this
  · exact (Tp.made w).below ((Below.refl _ _).alloc (Nat.le_refl _) _)
  · simp
  · exact .inr (by simp)
  · rintro k (rfl | rfl) <;> simp <;> omega
  · rintro k (rfl | rfl) <;> omega
  · exact ((Below.refl _ _).alloc (Nat.le_refl _) _).alloc (by simp) _
theorem pnew_no (room : Int) (w : World) (h : room < 1 ∨ 4096 < room) : Calls Tryz.prog 55 #[.int .i64 room] w fun e w' => e = .returned (.tuple #[.pointer none, .int .i64 1]) ∧ Below w.heap.size w w' := by
  by_cases h0 : room < 1
  · clear h
    go_enter Tryz.func55, Tryz.ntmps55
    go_wp2
    go_ret2
    exact ⟨rfl, Below.refl _ _⟩
  · have h0' : 1 ≤ room := by omega
    have h1 : 4096 < room := by omega
    clear h h0
    go_enter Tryz.func55, Tryz.ntmps55
    go_wp2
    go_ret2
    exact ⟨rfl, Below.refl _ _⟩
end Go.Proofs.YtchhmfdalghgcaaGreat
namespace Go.Proofs.YtchhmfdalghgcaaGreat
set_option linter.unusedVariables false
open Go.ChangeShapes Go.WideShapes Go.ChangeAt Go.RowKit
def byteC (x : Int) : List Value := [.int .u8 x]
def byteOk (_ : World) (x : Int) : Prop := 0 ≤ x ∧ x < 256
section
variable {H : Type} {enc : TypeId × Value → H} {P : Program} {w : World} {base : Nat} {spare : Nat → Bool} {held : Bool}
theorem byte_cs {n : Nat} {cs : List Value} {y : DataW H × List MemPlace} {e : TypeId} (he : P.underlying e = some (.int .u8)) (hl : cs.length = 1) (hf : DataW.trod enc P w base spare held n e cs = some y) : ∃ x, cs = byteC x ∧ byteOk w x := by
  obtain ⟨x, e0, _, wf⟩ := DataW.trod_int he hf
  refine ⟨x, e0, ?_⟩
  have h := wf
  simp [Lit.wf] at h
  have e1 : IntKind.u8.min = 0 := by decide
  have e2 : IntKind.u8.max = 255 := by decide
  unfold byteOk
  omega
end
/-- some pages were written with the text s, k of them at most; they are all there is -/
structure Wrote (u : Us) (s : ByteArray) (V : List Int) (k : Nat) : Prop where
  ok : u.p.Ok
  room : u.p.room = 300
  edge : u.p.edge = 0
  ep : u.epoch = 0
  few : u.p.l.length ≤ k
  all : ∀ x ∈ u.p.l, x.kind = 1 ∧ x.s = s
  there : ∀ v ∈ V, (0 ≤ v ∧ v < 256) ∧ ∃ x ∈ u.p.l, x.at_ = v
theorem Wrote.start (s : ByteArray) : Wrote (newU 300) s [] 0 := ⟨newP_ok (by decide), rfl, rfl, rfl, Nat.le_refl _, (fun x hx => by cases hx), fun v hv => by cases hv⟩
theorem Wrote.find {u : Us} {s : ByteArray} {V : List Int} {k : Nat} (h : Wrote u s V k) {v : Int} (hv : v ∈ V) : ∃ x, findP u.p.l v = some x ∧ x.kind = 1 ∧ x.s = s := by
  obtain ⟨_, x, hx, e⟩ := h.there v hv
  cases hf : findP u.p.l v with
  | none => exact absurd e (findP_none.1 hf x hx)
  | some y =>
    obtain ⟨h1, _⟩ := findP_some hf
    exact ⟨y, rfl, h.all y h1⟩
theorem Wrote.read {u : Us} {s : ByteArray} {V : List Int} {k : Nat} (h : Wrote u s V k) (hd : u.down = false) {v : Int} (hv : v ∈ V) : (u.ans (akP 3 0 v ⟨#[]⟩)).code = 0 ∧ (u.ans (akP 3 0 v ⟨#[]⟩)).data = s ∧ u.done (akP 3 0 v ⟨#[]⟩) = u := by
  obtain ⟨x, hx, hk, hs⟩ := h.find hv
  obtain ⟨hr, _⟩ := h.there v hv
  have hth : thereB v = true := thereB_iff.2 (by omega)
  have hkd : u.p.kind v = 1 := by
    unfold Ps.kind
    rw [if_pos hth, if_neg (by rw [h.edge]; omega), hx]
    exact hk
  have hE : u.p.readE v = 0 := by
    unfold Ps.readE
    rw [hth, hkd]
    rfl
  have hT : u.p.readS v = s := by
    unfold Ps.readS Ps.text
    rw [if_pos hE, hx]
    exact hs
  have ha : u.ans (akP 3 0 v ⟨#[]⟩) = anP 0 0 s u.epoch := by
    unfold Us.ans
    rw [if_neg (by rw [hd]; decide), if_neg (by show ¬ ((3 : Int) < 1 ∨ (5 : Int) < 3); omega), if_neg (by show ¬ (0 : Int) < u.epoch; rw [h.ep]; omega), if_neg (by show ¬ (3 : Int) = 5; omega), if_pos (by show (3 : Int) = 3; rfl)]
    show anP (u.p.readE v) 0 (u.p.readS v) u.epoch = _
    rw [hE, hT]
  refine ⟨by rw [ha]; rfl, by rw [ha]; rfl, ?_⟩
  unfold Us.done
  rw [if_neg (by show ¬ (u.down = true ∨ ((3 : Int) < 1 ∨ (5 : Int) < 3) ∨ (0 : Int) < u.epoch); rw [hd, h.ep]; simp), if_neg (by show ¬ (3 : Int) = 5; omega)]
  rfl
theorem Wrote.turn {u : Us} {s : ByteArray} {V : List Int} {k : Nat} (h : Wrote u s V k) (d : Bool) : Wrote ⟨u.p, u.epoch, d⟩ s V k := ⟨h.ok, h.room, h.edge, h.ep, h.few, h.all, h.there⟩
theorem Wrote.write {u : Us} {s : ByteArray} {V : List Int} {k : Nat} (h : Wrote u s V k) (hd : u.down = false) {v : Int} (hv : 0 ≤ v ∧ v < 256) (hs : s.size ≤ 2000) (hk : k ≤ 200) :
    Wrote (u.done (akP 1 0 v s)) s (V ++ [v]) (k + 1) ∧ (u.done (akP 1 0 v s)).down = false := by
  have hdn : u.done (akP 1 0 v s) = ⟨u.p.write v s, u.epoch, u.down⟩ := by
    unfold Us.done
    rw [if_neg (by show ¬ (u.down = true ∨ ((1 : Int) < 1 ∨ (5 : Int) < 1) ∨ (0 : Int) < u.epoch); rw [hd, h.ep]; simp), if_neg (by show ¬ (1 : Int) = 5; omega)]
    rfl
  rw [hdn]
  refine ⟨?_, hd⟩
  have hth : thereB v = true := thereB_iff.2 (by omega)
  cases hf : findP u.p.l v with
  | some x =>
    obtain ⟨h1, h2⟩ := findP_some hf
    have hkd : u.p.kind v = 1 := by
      unfold Ps.kind
      rw [if_pos hth, if_neg (by rw [h.edge]; omega), hf]
      exact (h.all x h1).1
    have hw : u.p.write v s = u.p := by
      unfold Ps.write
      rw [if_neg]
      intro e
      have := (writeE_zero e).2.2.1
      omega
    rw [hw]
    refine ⟨h.ok, h.room, h.edge, h.ep, Nat.le_succ_of_le h.few, h.all, fun y hy => ?_⟩
    rcases List.mem_append.1 hy with hy | hy
    · exact h.there y hy
    · rw [List.mem_singleton.1 hy]; exact ⟨hv, x, h1, h2⟩
  | none =>
    have hkd : u.p.kind v = 0 := by
      unfold Ps.kind
      rw [if_pos hth, if_neg (by rw [h.edge]; omega), hf]
    have hE : u.p.writeE v s = 0 := by
      unfold Ps.writeE
      rw [hth, hkd, if_neg (by decide), if_neg (by omega), if_neg (by decide), if_neg (by decide), if_neg (by rw [h.room]; have := h.few; omega)]
    have hw : u.p.write v s = u.p.add ⟨v, 1, s⟩ := if_pos hE
    have hok := h.ok.write v s
    rw [hw] at hok ⊢
    refine ⟨hok, h.room, h.edge, h.ep, ?_, fun x hx => ?_, fun y hy => ?_⟩
    · show (u.p.l ++ [_]).length ≤ k + 1
      rw [List.length_append]
      have := h.few
      simp
      omega
    · rcases List.mem_append.1 hx with hx | hx
      · exact h.all x hx
      · rw [List.mem_singleton.1 hx]; exact ⟨rfl, rfl⟩
    · rcases List.mem_append.1 hy with hy | hy
      · obtain ⟨h1, x, h2, h3⟩ := h.there y hy
        exact ⟨h1, x, List.mem_append_left _ h2, h3⟩
      · rw [List.mem_singleton.1 hy]
        exact ⟨hv, ⟨v, 1, s⟩, List.mem_append_right _ (List.mem_singleton.2 rfl), rfl⟩
theorem byte_at {w : World} {ao : Option Addr} {l : List Int} (h : Row w ao 1 byteC l) {i : Nat} (hi : i < l.length) : ∃ bk off, ao = some ⟨bk, off, none⟩ ∧ w.cell? ⟨bk, off + i, none⟩ = some (.int .u8 l[i]) := by
  obtain ⟨bk, off, h1, h2⟩ := h i hi
  have := h2 0 _ rfl
  simp at this
  exact ⟨bk, off, h1, this⟩
end Go.Proofs.YtchhmfdalghgcaaGreat
namespace Go.Proofs.YtchhmfdalghgcaaGreat
set_option linter.unusedVariables false
open Go.RowKit
/-- a tail: its projection; where it is (1 layout, 2 tail, 3 over); what it is over with: the tail, the error -/
structure Tl where
  ep : Int
  L : List (List Int)
  at_ : Int
  n : Int
  e : Int
def newTl (ep : Int) (L : List (List Int)) : Tl := if goodB ep L = true then ⟨ep, L, 2, 0, 0⟩ else ⟨ep, L, 3, 0, 1⟩
def askTl (ep : Int) : Ak := ⟨7, 0, ep, 0, 0, 0, ⟨#[]⟩, 0, [], none, 0⟩
def Tl.ask (t : Tl) : Ak := if t.at_ = 1 then layK else if t.at_ = 2 then askTl t.ep else zeroK
def Tl.asks (t : Tl) : Bool := decide (t.at_ ≠ 3)
def Tl.ends (t : Tl) (n e : Int) : Tl := ⟨t.ep, t.L, 3, n, e⟩
/-- it hears an answer, or none -/
def Tl.hear (t : Tl) (x : An) (heard : Bool) : Tl :=
  if t.at_ = 3 ∨ heard = false ∨ x.code = 45 ∨ x.code = 47 then t
  else if x.code = 40 then ⟨t.ep, t.L, 1, t.n, t.e⟩
  else if t.at_ = 1 then (if x.code = 0 ∧ goodB x.pe x.L = true then ⟨x.pe, x.L, 2, t.n, t.e⟩ else t)
  else if x.code = 0 then (if 0 ≤ x.n ∧ x.n ≤ 16384 then t.ends x.n 0 else t.ends 0 1) else t.ends 0 x.code
/-- how it ended: the tail, the error, whether it did -/
def Tl.overN (t : Tl) : Int := if t.at_ = 3 then t.n else 0
def Tl.overE (t : Tl) : Int := if t.at_ = 3 then t.e else 0
def Tl.overB (t : Tl) : Bool := decide (t.at_ = 3)
theorem ask_akT (t : Tl) : t.ask = ⟨t.ask.kind, t.ask.unit, t.ask.epoch, t.ask.page, 0, 0, t.ask.data, 0, [], none, 0⟩ := by
  unfold Tl.ask
  repeat' split
  all_goals rfl
end Go.Proofs.YtchhmfdalghgcaaGreat
