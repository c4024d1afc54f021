/- What the program's unit answers a question to its pages. Conditions: it and the question lie where the call was told; the question's data are not too long. (Written by gen/genunpb.py.) What the program's own Of returns. Conditions: the projection lies where the call was told, and is not too large. The world in the Do of the document's own layout: the question, the answers, the layout. No conditions but those that the statements name. The program's layout in memory: the projection that counts, the set of units that were used, the image. No conditions but those that the statements name. A thing and chains that a call handed out, as one thing: what a call that tells chains leaves. Conditions: as each statement says. A place that was handed over by value is two numbers; what the laws of places need of the facts on them. No conditions. Plain facts on chains of which each unit is trimmed, one behind the other, ahead of a fetch. No conditions but those that the statements name. -/
import Derived.Test.YthffjanidjjkdaaGreatG15a
import Derived.Test.YthffjanidjjkdaaGreatG08b
import Derived.StillTailTactics
import Derived.Test.YthffjanidjjkdaaGreatG14a
import Derived.Test.YthffjanidjjkdaaGreatG15b
import Derived.Test.YthffjanidjjkdaaGreatG13a
import Derived.Test.YthffjanidjjkdaaGreatG13b
import Derived.Test.YthffjanidjjkdaaGreatG04a
import Derived.Test.YthffjanidjjkdaaGreatG02a
import Derived.Deep.RegionHeld3
import Derived.Deep.RegionHeldLaw
set_option linter.unusedVariables false
namespace Go.Proofs.YthffjanidjjkdaaGreat
set_option linter.unusedVariables false
open Go.RowKit
set_option maxRecDepth 20000
theorem coded_ag (c : Int) (w : World) : Calls Tryz.prog 142 #[.int .i64 c] w fun e w' => e = .returned (.agg #[.int .i64 c, .int .i64 0, .string ⟨#[]⟩, .int .i64 0, .slice none 0 0, .int .i64 0, .int .i64 0, .int .i64 0]) ∧ Below w.heap.size w w' := coded_any c w
set_option maxHeartbeats 8000000 in
theorem un_write (b q : Nat) (G : Nat → Prop) (w : World) (u : Us) (a : Ak) (h : UM b q G w u) (hs : a.data.size ≤ 1000000) :
    Calls Tryz.prog 145 #[ptrV b, askV a] w fun e w' => e = .returned (anV (u.p.writeE a.page a.data) 0 noS 0) ∧ Leaves (UM b q) G w w' ⟨u.p.write a.page a.data, u.epoch, u.down⟩ := by
  obtain ⟨k, un, ep, pg, sz, n, s, pe, L, ao, cap⟩ := a
  obtain ⟨p, ue, dn⟩ := u
  simp only at *
  have CC := Lib.hid coded_ag
  have HS := Lib.hid (boxed_start (um_thing b q) h #[.int .i64 k, .int .i64 un, .int .i64 ep, .int .i64 pg, .int .i64 sz, .int .i64 n, .string s, .int .i64 pe, .slice ao L.length cap])
  unfold zeroAn at HS
  have hbw := h.small
  clear h
  show Calls _ _ #[.pointer (some ⟨b, 0, none⟩), .agg #[.int .i64 k, .int .i64 un, .int .i64 ep, .int .i64 pg, .int .i64 sz, .int .i64 n, .string s, .int .i64 pe, .slice ao L.length cap]] w _
  go_enter Tryz.func145, Tryz.ntmps145
  go_wp2_with fail
  generalize hW0 : ((w.alloc (.cells #[.int .i64 k, .int .i64 un, .int .i64 ep, .int .i64 pg, .int .i64 sz, .int .i64 n, .string s, .int .i64 pe, .slice ao L.length cap] 62)).alloc (.cells #[.int .i64 0, .int .i64 0, .string ⟨#[]⟩, .int .i64 0, .slice none 0 0, .int .i64 0, .int .i64 0, .int .i64 0] 58)) = W0 at *
  clear hW0
  obtain ⟨l1, l2⟩ := HS.out.small
  obtain ⟨H, hH, hU⟩ := (HS.out.drewN (um_thing b q) 1).use
  have x3 : W0.cell? ⟨w.heap.size, 3, none⟩ = some (.int .i64 pg) := cell_of HS.out.ask 3
  have x6 : W0.cell? ⟨w.heap.size, 6, none⟩ = some (.string s) := cell_of HS.out.ask 6
  have c0 : W0.cell? ⟨b, 0, none⟩ = some (.pointer (some ⟨q, 0, none⟩)) := (three_cells hH.cells).1
  have hb : b < W0.heap.size := hH.small
  obtain ⟨F, hF, hok, hnx⟩ := hH.ready
  have HNX := Lib.hid (fun W2 p' h1 h2 => hU W2 _ (hnx W2 p' h1 h2))
  clear hnx hU hH
  go_still_tail 8, (by kernel_rfl)
  change wpList _ _ _ _ _ W0.drew
  go_wp2_with (first | (go_at_call 150; refine (pwrite_any F _ q p pg s hF hok hs).mono ?_; rintro e w2 ⟨rfl, hl⟩; have HT2 := Lib.hid (HNX.out _ _ (hok.write pg s) hl); clear hl) | (go_at_call 142; refine (CC.out _ _).mono ?_; rintro e w3 ⟨rfl, hb3⟩; have HT3 := Lib.hid (HT2.out.below (um_thing b q) hb3); clear hb3; obtain ⟨nl1, nl2⟩ := HT3.out.small; obtain ⟨⟨ny0, ny1, ny2, ny3, ny4, ny5, ny6, ny7⟩, nfy0, nfy1, nfy2, nfy3, nfy4, nfy5, nfy6, nfy7⟩ := eight_cells HT3.out.ans))
  exact ans_ret (x := anP (p.writeE pg s) 0 noS 0) (ao := none) (cap := 0) rfl (HT3.out.fin (um_thing b q)).1 rfl rfl ⟨rfl, (HT3.out.fin (um_thing b q)).2⟩
set_option maxHeartbeats 8000000 in
theorem un_fill (b q : Nat) (G : Nat → Prop) (w : World) (u : Us) (a : Ak) (h : UM b q G w u) :
    Calls Tryz.prog 146 #[ptrV b, askV a] w fun e w' => e = .returned (anV (u.p.fillE a.page) 0 noS 0) ∧ Leaves (UM b q) G w w' ⟨u.p.fill a.page, u.epoch, u.down⟩ := by
  obtain ⟨k, un, ep, pg, sz, n, s, pe, L, ao, cap⟩ := a
  obtain ⟨p, ue, dn⟩ := u
  simp only at *
  have CC := Lib.hid coded_ag
  have HS := Lib.hid (boxed_start (um_thing b q) h #[.int .i64 k, .int .i64 un, .int .i64 ep, .int .i64 pg, .int .i64 sz, .int .i64 n, .string s, .int .i64 pe, .slice ao L.length cap])
  unfold zeroAn at HS
  have hbw := h.small
  clear h
  show Calls _ _ #[.pointer (some ⟨b, 0, none⟩), .agg #[.int .i64 k, .int .i64 un, .int .i64 ep, .int .i64 pg, .int .i64 sz, .int .i64 n, .string s, .int .i64 pe, .slice ao L.length cap]] w _
  go_enter Tryz.func146, Tryz.ntmps146
  go_wp2_with fail
  generalize hW0 : ((w.alloc (.cells #[.int .i64 k, .int .i64 un, .int .i64 ep, .int .i64 pg, .int .i64 sz, .int .i64 n, .string s, .int .i64 pe, .slice ao L.length cap] 62)).alloc (.cells #[.int .i64 0, .int .i64 0, .string ⟨#[]⟩, .int .i64 0, .slice none 0 0, .int .i64 0, .int .i64 0, .int .i64 0] 58)) = W0 at *
  clear hW0
  obtain ⟨l1, l2⟩ := HS.out.small
  obtain ⟨H, hH, hU⟩ := (HS.out.drewN (um_thing b q) 1).use
  have x3 : W0.cell? ⟨w.heap.size, 3, none⟩ = some (.int .i64 pg) := cell_of HS.out.ask 3
  have x6 : W0.cell? ⟨w.heap.size, 6, none⟩ = some (.string s) := cell_of HS.out.ask 6
  have c0 : W0.cell? ⟨b, 0, none⟩ = some (.pointer (some ⟨q, 0, none⟩)) := (three_cells hH.cells).1
  have hb : b < W0.heap.size := hH.small
  obtain ⟨F, hF, hok, hnx⟩ := hH.ready
  have HNX := Lib.hid (fun W2 p' h1 h2 => hU W2 _ (hnx W2 p' h1 h2))
  clear hnx hU hH
  go_still_tail 6, (by kernel_rfl)
  change wpList _ _ _ _ _ W0.drew
  go_wp2_with (first | (go_at_call 151; refine (pfill_any F _ q p pg hF hok).mono ?_; rintro e w2 ⟨rfl, hl⟩; have HT2 := Lib.hid (HNX.out _ _ (hok.fill pg) hl); clear hl) | (go_at_call 142; refine (CC.out _ _).mono ?_; rintro e w3 ⟨rfl, hb3⟩; have HT3 := Lib.hid (HT2.out.below (um_thing b q) hb3); clear hb3; obtain ⟨nl1, nl2⟩ := HT3.out.small; obtain ⟨⟨ny0, ny1, ny2, ny3, ny4, ny5, ny6, ny7⟩, nfy0, nfy1, nfy2, nfy3, nfy4, nfy5, nfy6, nfy7⟩ := eight_cells HT3.out.ans))
  exact ans_ret (x := anP (p.fillE pg) 0 noS 0) (ao := none) (cap := 0) rfl (HT3.out.fin (um_thing b q)).1 rfl rfl ⟨rfl, (HT3.out.fin (um_thing b q)).2⟩
set_option maxHeartbeats 8000000 in
theorem un_trim (b q : Nat) (G : Nat → Prop) (w : World) (u : Us) (a : Ak) (h : UM b q G w u) (hw : i64w a.page) :
    Calls Tryz.prog 148 #[ptrV b, askV a] w fun e w' => e = .returned (anV (Ps.trimE a.page) 0 noS 0) ∧ Leaves (UM b q) G w w' ⟨u.p.trim a.page, u.epoch, u.down⟩ := by
  obtain ⟨k, un, ep, pg, sz, n, s, pe, L, ao, cap⟩ := a
  obtain ⟨p, ue, dn⟩ := u
  simp only at *
  have CC := Lib.hid coded_ag
  have HS := Lib.hid (boxed_start (um_thing b q) h #[.int .i64 k, .int .i64 un, .int .i64 ep, .int .i64 pg, .int .i64 sz, .int .i64 n, .string s, .int .i64 pe, .slice ao L.length cap])
  unfold zeroAn at HS
  have hbw := h.small
  clear h
  show Calls _ _ #[.pointer (some ⟨b, 0, none⟩), .agg #[.int .i64 k, .int .i64 un, .int .i64 ep, .int .i64 pg, .int .i64 sz, .int .i64 n, .string s, .int .i64 pe, .slice ao L.length cap]] w _
  go_enter Tryz.func148, Tryz.ntmps148
  go_wp2_with fail
  generalize hW0 : ((w.alloc (.cells #[.int .i64 k, .int .i64 un, .int .i64 ep, .int .i64 pg, .int .i64 sz, .int .i64 n, .string s, .int .i64 pe, .slice ao L.length cap] 62)).alloc (.cells #[.int .i64 0, .int .i64 0, .string ⟨#[]⟩, .int .i64 0, .slice none 0 0, .int .i64 0, .int .i64 0, .int .i64 0] 58)) = W0 at *
  clear hW0
  obtain ⟨l1, l2⟩ := HS.out.small
  obtain ⟨H, hH, hU⟩ := (HS.out.drewN (um_thing b q) 1).use
  have x3 : W0.cell? ⟨w.heap.size, 3, none⟩ = some (.int .i64 pg) := cell_of HS.out.ask 3
  have x6 : W0.cell? ⟨w.heap.size, 6, none⟩ = some (.string s) := cell_of HS.out.ask 6
  have c0 : W0.cell? ⟨b, 0, none⟩ = some (.pointer (some ⟨q, 0, none⟩)) := (three_cells hH.cells).1
  have hb : b < W0.heap.size := hH.small
  obtain ⟨F, hF, hok, hnx⟩ := hH.ready
  have HNX := Lib.hid (fun W2 p' h1 h2 => hU W2 _ (hnx W2 p' h1 h2))
  clear hnx hU hH
  go_still_tail 6, (by kernel_rfl)
  change wpList _ _ _ _ _ W0.drew
  go_wp2_with (first | (go_at_call 152; refine (ptrim_any F _ q p pg hF hok (i64_of_wf hw)).mono ?_; rintro e w2 ⟨rfl, hl⟩; have HT2 := Lib.hid (HNX.out _ _ (hok.trim pg) hl); clear hl) | (go_at_call 142; refine (CC.out _ _).mono ?_; rintro e w3 ⟨rfl, hb3⟩; have HT3 := Lib.hid (HT2.out.below (um_thing b q) hb3); clear hb3; obtain ⟨nl1, nl2⟩ := HT3.out.small; obtain ⟨⟨ny0, ny1, ny2, ny3, ny4, ny5, ny6, ny7⟩, nfy0, nfy1, nfy2, nfy3, nfy4, nfy5, nfy6, nfy7⟩ := eight_cells HT3.out.ans))
  exact ans_ret (x := anP (Ps.trimE pg) 0 noS 0) (ao := none) (cap := 0) rfl (HT3.out.fin (um_thing b q)).1 rfl rfl ⟨rfl, (HT3.out.fin (um_thing b q)).2⟩
end Go.Proofs.YthffjanidjjkdaaGreat
namespace Go.Proofs.YthffjanidjjkdaaGreat
open Go.RowKit
set_option maxRecDepth 20000
theorem results_place {P : Program} {fn : Func} {p u : Tmp} {ty : TypeId} (h : fn.results = #[.cell p ty, .tmp u]) (tmps : Array Value) (w : World) (g : Nat) (t : TypeId) (cs : Array Value) (fr : Nat × Nat) (d : TypeDesc)
    (hp : tmps.getD p undef = .pointer (some ⟨g, 0, none⟩)) (hg : w.heap[g]? = some (.cells cs t fr))
    (hu : P.underlying ty = some d) (hd : (match d with | .struct _ | .array _ _ => true | _ => false) = true) (hi : (P.info? ty).map (·.size) = some cs.size) :
    (results fn tmps).run P w = .ok (.tuple #[.agg cs, tmps.getD u undef]) w := by
  rw [results_cell_tmp h, hp]
  simp [asAddr, Result.andThen, run_loadVar_row w g t ty cs fr d hg hu hd hi]
theorem of_ret {fn : Func} {p u : Tmp} (h : fn.results = #[.cell p 39, .tmp u]) {a : Act} {w : World} {g : Nat} {x y : Value} {c : Bool} {R : Ending → World → Prop}
    (hg : w.heap[g]? = some (.cells #[x, y] 39 (0, 0))) (hp : a.tmps.getD p undef = .pointer (some ⟨g, 0, none⟩)) (hx : a.tmps.getD u undef = .bool c) (hd : a.defers = [])
    (hR : R (.returned (.tuple #[.agg #[x, y], .bool c])) w) : bodyPost Tryz.prog fn R .ret a w := by
  have e := results_place (P := Tryz.prog) h a.tmps w g 39 #[x, y] (0, 0) _ hp hg Tryz.underlying39 rfl (by kernel_rfl)
  rw [hx] at e
  exact bodyPost_ret e hd hR
theorem ofV_no {ep : Int} {L : List (List Int)} {a : Int} (h : ofB ep L a = false) : ofV ep L a = .tuple #[.agg #[.int .i64 0, .int .i64 0], .bool false] := by
  unfold ofV ofC ofP
  rw [h]
  rfl
theorem ofV_is {ep : Int} {L : List (List Int)} {a : Int} (h : ofB ep L a = true) : ofV ep L a = .tuple #[.agg #[.int .i64 (a % (L.length : Int)), .int .i64 (a / (L.length : Int))], .bool true] := by
  unfold ofV ofC ofP
  rw [h]
  rfl
set_option maxHeartbeats 2000000 in
theorem pOf_any (ep : Int) (ao : Option Addr) (cap : Nat) (L : List (List Int)) (a : Int) (w : World) (h : CL w ao L) (hl : L.length ≤ 255 ∧ ∀ c ∈ L, c.length ≤ 255) :
    Calls Tryz.prog 46 #[.agg #[.int .i64 ep, .slice ao L.length cap], .int .i64 a] w fun e w' => e = .returned (ofV ep L a) ∧ Below w.heap.size w w' := by
  have HB0 := Lib.hid (((Below.refl w.heap.size w).alloc (Nat.le_refl _) (.cells #[.int .i64 ep, .slice ao L.length cap] 30)).alloc (by simp) (.cells #[.int .i64 0, .int .i64 0] 39))
  have HC := Lib.hid (h.below HB0.out)
  have HP := Lib.hid (show PB (((w.alloc (.cells #[.int .i64 ep, .slice ao L.length cap] 30)).alloc (.cells #[.int .i64 0, .int .i64 0] 39))) w.heap.size ep ao L.length cap from PB.below (heap_alloc_new _ _) ((Below.refl _ _).alloc (Nat.le_refl _) _))
  have HG := Lib.hid (show (((w.alloc (.cells #[.int .i64 ep, .slice ao L.length cap] 30)).alloc (.cells #[.int .i64 0, .int .i64 0] 39))).heap[w.heap.size + 1]? = some (.cells #[.int .i64 0, .int .i64 0] 39 (0, 0)) from by
    have h := heap_alloc_new (w.alloc (.cells #[.int .i64 ep, .slice ao L.length cap] 30)) (.cells #[.int .i64 0, .int .i64 0] 39)
    simpa using h)
  have CG := Lib.hid (pgood_any ep ao cap L _ HC.out hl)
  have hl' : (L.length : Int) ≤ 255 := by have := hl.1; omega
  clear h hl
  by_cases hg : goodB ep L = true
  · rw [hg] at CG
    obtain ⟨n1, n4⟩ := good_len hg
    by_cases h0 : a < 0
    · rw [ofV_no (Bool.eq_false_iff.2 (fun e => by have := (ofB_iff.1 e).2; omega))]
      clear hg
      go_enter Tryz.func46, Tryz.ntmps46
      go_wp2_with (go_at_call 64; refine CG.out.mono ?_; rintro e w1 ⟨rfl, hb1⟩; have HB1 := Lib.hid (HB0.out.trans (hb1.mono HB0.out.size)); have HG1 := Lib.hid (below_heap hb1 HG.out); obtain ⟨c0, c1, f0, f1⟩ := two_cells HG1.out; obtain ⟨b0, b1⟩ := (HP.out.below hb1).cells; clear hb1)
      exact of_ret rfl (two_set1 (two_set0 HG1.out _) _) rfl rfl rfl ⟨rfl, (HB1.out.setCell (by simp) _).setCell (by simp) _⟩
    · by_cases h1 : 16384 ≤ a
      · rw [ofV_no (Bool.eq_false_iff.2 (fun e => by have := (ofB_iff.1 e).2; omega))]
        have h0' : 0 ≤ a := by omega
        clear hg h0
        go_enter Tryz.func46, Tryz.ntmps46
        go_wp2_with (go_at_call 64; refine CG.out.mono ?_; rintro e w1 ⟨rfl, hb1⟩; have HB1 := Lib.hid (HB0.out.trans (hb1.mono HB0.out.size)); have HG1 := Lib.hid (below_heap hb1 HG.out); obtain ⟨c0, c1, f0, f1⟩ := two_cells HG1.out; obtain ⟨b0, b1⟩ := (HP.out.below hb1).cells; clear hb1)
        exact of_ret rfl (two_set1 (two_set0 HG1.out _) _) rfl rfl rfl ⟨rfl, (HB1.out.setCell (by simp) _).setCell (by simp) _⟩
      · have h0' : 0 ≤ a := by omega
        have h1' : a < 16384 := by omega
        rw [ofV_is (ofB_iff.2 ⟨hg, h0', h1'⟩)]
        obtain ⟨r1, r2, _⟩ := of_range (n := L.length) ⟨by omega, by omega⟩ ⟨h0', h1'⟩
        have e1 : IntKind.i64.wrap (a.tmod (L.length : Int)) = a % (L.length : Int) := by rw [Int.tmod_eq_emod_of_nonneg h0']; exact IntWalk.i64_in _ (by omega)
        have e2 : IntKind.i64.wrap (a.tdiv (L.length : Int)) = a / (L.length : Int) := by rw [Int.tdiv_eq_ediv_of_nonneg h0']; exact IntWalk.i64_in _ (by omega)
        have nz : ¬ (L.length : Int) = 0 := by omega
        clear hg h0 h1 r1 r2
        go_enter Tryz.func46, Tryz.ntmps46
        go_wp2_with (go_at_call 64; refine CG.out.mono ?_; rintro e w1 ⟨rfl, hb1⟩; have HB1 := Lib.hid (HB0.out.trans (hb1.mono HB0.out.size)); have HG1 := Lib.hid (below_heap hb1 HG.out); obtain ⟨c0, c1, f0, f1⟩ := two_cells HG1.out; obtain ⟨b0, b1⟩ := (HP.out.below hb1).cells; clear hb1)
        go_region
        go_wp2_with fail
        exact of_ret rfl (two_set1 (two_set0 HG1.out _) _) rfl rfl rfl ⟨rfl, ((HB1.out.setCell (by simp) _).setCell (by simp) _).drew⟩
  · have hg' : goodB ep L = false := Bool.eq_false_iff.2 hg
    rw [ofV_no (Bool.eq_false_iff.2 (fun e => hg (ofB_iff.1 e).1))]
    rw [hg'] at CG
    clear hg hg'
    go_enter Tryz.func46, Tryz.ntmps46
    go_wp2_with (go_at_call 64; refine CG.out.mono ?_; rintro e w1 ⟨rfl, hb1⟩; have HB1 := Lib.hid (HB0.out.trans (hb1.mono HB0.out.size)); have HG1 := Lib.hid (below_heap hb1 HG.out); obtain ⟨c0, c1, f0, f1⟩ := two_cells HG1.out; obtain ⟨b0, b1⟩ := (HP.out.below hb1).cells; clear hb1)
    exact of_ret rfl (two_set1 (two_set0 HG1.out _) _) rfl rfl rfl ⟨rfl, (HB1.out.setCell (by simp) _).setCell (by simp) _⟩
end Go.Proofs.YthffjanidjjkdaaGreat
namespace Go.Proofs.YthffjanidjjkdaaGreat
set_option linter.unusedVariables false
open Go.RowKit
set_option maxRecDepth 20000
def zeroA : Array Value := #[.int .i64 0, .int .i64 0, .string ⟨#[]⟩, .int .i64 0, .slice none 0 0, .int .i64 0, .int .i64 0, .int .i64 0]
def xN (X : Option (Array Value)) : Nat := if X.isSome then 1 else 0
/-- the world in which Do has laid out the question, the answer, and one more answer -/
structure LdW (w W : World) (r : Nat) (G H : Nat → Prop) (y : Ly) (a : Ak) (Y : Array Value) (X : Option (Array Value)) : Prop where
  ask : W.heap[w.heap.size]? = some (.cells (askC a).toArray 62 (0, 0))
  zero : W.heap[w.heap.size + 1]? = some (.cells Y 58 (0, 0))
  xs : ∀ Z, X = some Z → W.heap[w.heap.size + 1 + 1]? = some (.cells Z 58 (0, 0))
  rl : RL r H W y
  hs : ∀ k, H k → G k ∨ w.heap.size + 1 + xN X < k
  kp : Kept (fun k => ¬ G k) w W
  lt : ∀ k, G k → k < w.heap.size
  rg : G r
section
variable {w W : World} {r : Nat} {G H : Nat → Prop} {y : Ly} {a : Ak} {Y Z : Array Value} {X : Option (Array Value)}
theorem LdW.below (h : LdW w W r G H y a Y X) {W2 : World} (hb : Below W.heap.size W W2) : LdW w W2 r G H y a Y X := by
  exact ⟨below_heap hb h.ask, below_heap hb h.zero, fun Z e => below_heap hb (h.xs Z e), (rl_thing r).keep h.rl (Kept.ofBelow hb (fun _ => True)) (fun _ _ => trivial), h.hs, h.kp.below hb, h.lt, h.rg⟩
theorem LdW.drew (h : LdW w W r G H y a Y X) : LdW w W.drew r G H y a Y X := h.below (Below.refl _ _).drew
theorem LdW.drewN (h : LdW w W r G H y a Y X) (n : Nat) : LdW w (W.drewN n) r G H y a Y X := h.below (below_drewN (Below.refl _ _) n)
theorem LdW.small (h : LdW w W r G H y a Y X) : w.heap.size < W.heap.size ∧ w.heap.size + 1 < W.heap.size ∧ r < w.heap.size := ⟨lt_of_block h.ask, lt_of_block h.zero, h.lt r h.rg⟩
/-- one more answer -/
theorem LdW.more (h : LdW w W r G H y a Y none) (hz : W.heap.size = w.heap.size + 1 + 1) (Z : Array Value) : LdW w (W.alloc (.cells Z 58)) r G H y a Y (some Z) := by
  have h' := h.below (below_new W (.cells Z 58))
  have h1 := h.rl
  have h2 := h.hs
  refine ⟨h'.ask, h'.zero, fun Z' e => ?_, h'.rl, fun k hk => ?_, h'.kp, h.lt, h.rg⟩
  · cases e
    rw [← hz]
    exact heap_alloc_new _ _
  · have hl := (rl_thing r).lt h1 k hk
    rcases h2 k hk with h3 | h3
    · exact .inl h3
    · unfold xN at h3
      simp at h3
      omega
theorem LdW.leaves (h : LdW w W r G H y a Y X) : Leaves (RL r) G w W y := by
  exact ⟨H, h.rl, h.kp, fun k hk => (h.hs k hk).imp id (fun h => by omega)⟩
/-- the answer is written -/
theorem LdW.put (h : LdW w W r G H y a Y X) (i : Nat) (v : Value) : LdW w (W.setCell ⟨w.heap.size + 1, i, none⟩ v) r G H y a (Y.setIfInBounds i v) X := by
  have hk : Kept (fun k => k ≠ w.heap.size + 1) W (W.setCell ⟨w.heap.size + 1, i, none⟩ v) := (Kept.refl _ W).setCell (p := ⟨w.heap.size + 1, i, none⟩) (fun h => h rfl) v
  refine ⟨hk.heap (by omega) h.ask, heap_setCell_same W _ i Y _ v h.zero, fun Z e => hk.heap (by omega) (h.xs Z e), (rl_thing r).keep h.rl hk (fun k hh e => ?_), h.hs, kept_new h.kp (by omega) v, h.lt, h.rg⟩
  rcases h.hs k hh with h3 | h3
  · have := h.lt k h3; omega
  · omega
/-- the layout's own cells are written: it is y' then -/
theorem LdW.turn (h : LdW w W r G H y a Y X) {W2 : World} {y' : Ly} (hk : Kept (fun k => k ≠ r) W W2) (hr : ∃ H' : Nat → Prop, RL r H' W2 y' ∧ ∀ k, H' k → H k ∨ W.heap.size ≤ k) : ∃ H' : Nat → Prop, LdW w W2 r G H' y' a Y X := by
  have hs := h.small
  obtain ⟨H', r1, r2⟩ := hr
  refine ⟨H', hk.heap (by omega) h.ask, hk.heap (by omega) h.zero, fun Z e => hk.heap (by have := lt_of_block (h.xs Z e); omega) (h.xs Z e), r1, fun k hk2 => ?_, h.kp.trans (hk.mono (fun k hn e => hn (e ▸ h.rg))), h.lt, h.rg⟩
  rcases r2 k hk2 with h3 | h3
  · exact h.hs k h3
  · refine .inr ?_
    cases X with
    | none => unfold xN; simp; omega
    | some Z => have := lt_of_block (h.xs Z rfl); unfold xN; simp; omega
/-- a copy of the projection is laid into the layout -/
theorem RL.chains (h : RL r H W y) {W2 : World} (hb : Below W.heap.size W W2) {e : Int} {v : Value} {L : List (List Int)} (hO : OC W2 W.heap.size v L) (hg : goodB e L = true) :
    ∃ H' : Nat → Prop, RL r H' ((W2.setCell ⟨r, 0, none⟩ (.int .i64 e)).setCell ⟨r, 1, none⟩ v) ⟨e, L, y.used, y.mark, y.size, y.n⟩ ∧ ∀ k, H' k → H k ∨ W.heap.size ≤ k := by
  obtain ⟨⟨k, hok⟩, h1, v0, u, F, h2, h3, h4, h5, h6, h7⟩ := h
  have hr := lt_of_block h2
  have hk : Kept (fun k => k ≠ r) W2 ((W2.setCell ⟨r, 0, none⟩ (.int .i64 e)).setCell ⟨r, 1, none⟩ v) := ((Kept.refl _ W2).setCell (p := ⟨r, 0, none⟩) (fun h => h rfl) _).setCell (p := ⟨r, 1, none⟩) (fun h => h rfl) _
  have e1 := below_heap hb h2
  have e2 := heap_setCell_same W2 r 0 _ _ (.int .i64 e) e1
  have e3 := heap_setCell_same _ r 1 _ _ v e2
  refine ⟨fun k => H k ∨ (W.heap.size ≤ k ∧ k < W2.heap.size), ⟨⟨k, hg, hok.few, hok.n, hok.mark, hok.size⟩, .inl h1, v, u, fun k => F k ∨ (W.heap.size ≤ k ∧ k < W2.heap.size), e3, ?_, ?_, fun k hk => hk.imp (h5 k) id, fun hf => ?_, fun k hk2 => ?_⟩, fun k hk2 => hk2.imp id (fun h => h.1)⟩
  · exact ((CG.of hO).keep hk (fun k hk => by omega)).mono (fun k hk => .inr hk)
  · exact ((h4.keep (Kept.ofBelow hb (fun _ => True)) (fun _ _ => trivial)).keep hk (fun k hk e => h6 (e ▸ hk))).mono (fun k hk => .inl hk)
  · rcases hf with hf | hf
    · exact h6 hf
    · omega
  · have hs : ((W2.setCell ⟨r, 0, none⟩ (.int .i64 e)).setCell ⟨r, 1, none⟩ v).heap.size = W2.heap.size := by simp [World.setCell]
    rw [hs]
    rcases hk2 with hk2 | hk2
    · exact Nat.lt_of_lt_of_le (h7 k hk2) hb.size
    · exact hk2.2
/-- more units are noted -/
theorem RL.more (h : RL r H W y) {W2 : World} (hb : Below W.heap.size W W2) {v : Value} {U : List Int} (hO : OI W2 W.heap.size v U) :
    ∃ H' : Nat → Prop, RL r H' (W2.setCell ⟨r, 2, none⟩ v) ⟨y.ep, y.L, U, y.mark, y.size, y.n⟩ ∧ ∀ k, H' k → H k ∨ W.heap.size ≤ k := by
  obtain ⟨⟨k, hok⟩, h1, v0, u, F, h2, h3, h4, h5, h6, h7⟩ := h
  have hr := lt_of_block h2
  have hk : Kept (fun k => k ≠ r) W2 (W2.setCell ⟨r, 2, none⟩ v) := (Kept.refl _ W2).setCell (p := ⟨r, 2, none⟩) (fun h => h rfl) _
  have e1 := below_heap hb h2
  have e2 := heap_setCell_same W2 r 2 _ _ v e1
  refine ⟨fun k => H k ∨ (W.heap.size ≤ k ∧ k < W2.heap.size), ⟨⟨U.length, hok.good, Nat.le_refl _, hok.n, hok.mark, hok.size⟩, .inl h1, v0, v, fun k => F k ∨ (W.heap.size ≤ k ∧ k < W2.heap.size), e2, ?_, ?_, fun k hk => hk.imp (h5 k) id, fun hf => ?_, fun k hk2 => ?_⟩, fun k hk2 => hk2.imp id (fun h => h.1)⟩
  · exact ((h3.keep (Kept.ofBelow hb (fun _ => True)) (fun _ _ => trivial)).keep hk (fun k hk e => h6 (e ▸ hk))).mono (fun k hk => .inl hk)
  · exact ((UG1.of hO).keep hk (fun k hk => by omega)).mono (fun k hk => .inr hk)
  · rcases hf with hf | hf
    · exact h6 hf
    · omega
  · have hs : (W2.setCell ⟨r, 2, none⟩ v).heap.size = W2.heap.size := by simp [World.setCell]
    rw [hs]
    rcases hk2 with hk2 | hk2
    · exact Nat.lt_of_lt_of_le (h7 k hk2) hb.size
    · exact hk2.2
/-- an image is marked -/
theorem RL.mark (h : RL r H W y) {m z n : Int} (hm : 0 ≤ m ∧ m < 16384) (hz : 1 ≤ z ∧ z ≤ 65536) (hn : 0 ≤ n ∧ n ≤ 16384) :
    ∃ H' : Nat → Prop, RL r H' (((W.setCell ⟨r, 3, none⟩ (.int .i64 m)).setCell ⟨r, 4, none⟩ (.int .i64 z)).setCell ⟨r, 5, none⟩ (.int .i64 n)) ⟨y.ep, y.L, y.used, m, z, n⟩ ∧ ∀ k, H' k → H k ∨ W.heap.size ≤ k := by
  obtain ⟨⟨k, hok⟩, h1, v0, u, F, h2, h3, h4, h5, h6, h7⟩ := h
  have hk : Kept (fun k => k ≠ r) W (((W.setCell ⟨r, 3, none⟩ (.int .i64 m)).setCell ⟨r, 4, none⟩ (.int .i64 z)).setCell ⟨r, 5, none⟩ (.int .i64 n)) := (((Kept.refl _ W).setCell (p := ⟨r, 3, none⟩) (fun h => h rfl) _).setCell (p := ⟨r, 4, none⟩) (fun h => h rfl) _).setCell (p := ⟨r, 5, none⟩) (fun h => h rfl) _
  have e1 := heap_setCell_same _ r 5 _ _ (.int .i64 n) (heap_setCell_same _ r 4 _ _ (.int .i64 z) (heap_setCell_same W r 3 _ _ (.int .i64 m) h2))
  refine ⟨H, ⟨⟨k, hok.good, hok.few, ⟨by show -1 ≤ n; omega, hn.2⟩, ⟨by show -1 ≤ m; omega, by show m ≤ 16384; omega⟩, ⟨by show 0 ≤ z; omega, hz.2⟩⟩, h1, v0, u, F, e1, h3.keep hk (fun k hk e => h6 (e ▸ hk)), h4.keep hk (fun k hk e => h6 (e ▸ hk)), h5, h6, fun k hk2 => by simpa [World.setCell] using h7 k hk2⟩, fun k hk2 => .inl hk2⟩
/-- the same, whatever stands in the answer -/
def LdE (w W : World) (r : Nat) (G H : Nat → Prop) (y : Ly) (a : Ak) (X : Option (Array Value)) : Prop := ∃ u0 u1 u2 u3 u4 u5 u6 u7, LdW w W r G H y a #[u0, u1, u2, u3, u4, u5, u6, u7] X
theorem LdE.below (h : LdE w W r G H y a X) {W2 : World} (hb : Below W.heap.size W W2) : LdE w W2 r G H y a X := by
  obtain ⟨u0, u1, u2, u3, u4, u5, u6, u7, h⟩ := h
  exact ⟨u0, u1, u2, u3, u4, u5, u6, u7, h.below hb⟩
theorem LdW.any (h : LdW w W r G H y a zeroA X) : LdE w W r G H y a X := ⟨_, _, _, _, _, _, _, _, h⟩
/-- the whole answer is written -/
theorem LdE.eight (h : LdE w W r G H y a X) (v0 v1 v2 v3 v4 v5 v6 v7 : Value) : LdW w ((((((((W.setCell ⟨w.heap.size + 1, 0, none⟩ v0).setCell ⟨w.heap.size + 1, 1, none⟩ v1).setCell ⟨w.heap.size + 1, 2, none⟩ v2).setCell ⟨w.heap.size + 1, 3, none⟩ v3).setCell ⟨w.heap.size + 1, 4, none⟩ v4).setCell ⟨w.heap.size + 1, 5, none⟩ v5).setCell ⟨w.heap.size + 1, 6, none⟩ v6).setCell ⟨w.heap.size + 1, 7, none⟩ v7) r G H y a #[v0, v1, v2, v3, v4, v5, v6, v7] X := by
  obtain ⟨u0, u1, u2, u3, u4, u5, u6, u7, h⟩ := h
  have h1 := (((((((h.put 0 v0).put 1 v1).put 2 v2).put 3 v3).put 4 v4).put 5 v5).put 6 v6).put 7 v7
  exact ⟨h1.ask, eight_set7 (eight_set6 (eight_set5 (eight_set4 (eight_set3 (eight_set2 (eight_set1 (eight_set0 h.zero v0) v1) v2) v3) v4) v5) v6) v7, h1.xs, h1.rl, h1.hs, h1.kp, h1.lt, h1.rg⟩
theorem LdE.cells (h : LdE w W r G H y a X) : ∃ u0 u1 u2 u3 u4 u5 u6 u7, (W.cell? ⟨w.heap.size + 1, 0, none⟩ = some u0 ∧ W.cell? ⟨w.heap.size + 1, 1, none⟩ = some u1 ∧ W.cell? ⟨w.heap.size + 1, 2, none⟩ = some u2 ∧ W.cell? ⟨w.heap.size + 1, 3, none⟩ = some u3 ∧ W.cell? ⟨w.heap.size + 1, 4, none⟩ = some u4 ∧ W.cell? ⟨w.heap.size + 1, 5, none⟩ = some u5 ∧ W.cell? ⟨w.heap.size + 1, 6, none⟩ = some u6 ∧ W.cell? ⟨w.heap.size + 1, 7, none⟩ = some u7) ∧
    W.frozen? ⟨w.heap.size + 1, 0, none⟩ = false ∧ W.frozen? ⟨w.heap.size + 1, 1, none⟩ = false ∧ W.frozen? ⟨w.heap.size + 1, 2, none⟩ = false ∧ W.frozen? ⟨w.heap.size + 1, 3, none⟩ = false ∧ W.frozen? ⟨w.heap.size + 1, 4, none⟩ = false ∧ W.frozen? ⟨w.heap.size + 1, 5, none⟩ = false ∧ W.frozen? ⟨w.heap.size + 1, 6, none⟩ = false ∧ W.frozen? ⟨w.heap.size + 1, 7, none⟩ = false := by
  obtain ⟨u0, u1, u2, u3, u4, u5, u6, u7, h⟩ := h
  exact ⟨u0, u1, u2, u3, u4, u5, u6, u7, eight_cells h.zero⟩
theorem LdE.small (h : LdE w W r G H y a X) : w.heap.size < W.heap.size ∧ w.heap.size + 1 < W.heap.size ∧ r < w.heap.size := by
  obtain ⟨u0, u1, u2, u3, u4, u5, u6, u7, h⟩ := h
  exact h.small
theorem LdE.rl (h : LdE w W r G H y a X) : RL r H W y := by
  obtain ⟨u0, u1, u2, u3, u4, u5, u6, u7, h⟩ := h
  exact h.rl
/-- the chains that the layout's cell names -/
theorem RL.cl {ao : Option Addr} {n cap : Nat} (h : RL r H W y) (hc : W.cell? ⟨r, 1, none⟩ = some (.slice ao n cap)) : CL W ao y.L := by
  obtain ⟨lo, lc, bo, cb, h1, h2, _⟩ := h.open
  have e : W.cell? ⟨r, 1, none⟩ = some (.slice lo y.L.length lc) := cell_of h1 1
  rw [hc] at e
  have e2 := Value.slice.inj (Option.some.inj e)
  rw [e2.1]
  exact h2
/-- chains that were made, behind writes into elder blocks -/
theorem CG.behind {S : Nat → Prop} {W2 W3 : World} {B : Nat} {v : Value} {L : List (List Int)} (hO : OC W2 B v L) (hk : Kept S W2 W3) (hS : ∀ k, B ≤ k → S k) (hs : W3.heap.size = W2.heap.size) : CG (fun k => B ≤ k ∧ k < W3.heap.size) W3 v L := by
  rw [hs]
  exact (CG.of hO).keep hk (fun k hk => hS k hk.1)
section
variable {x0 x1 x2 x3 x4 x5 x6 x7 : Value}
end
/-- the answer tells chains that were made last -/
theorem LdW.tells (h : LdW w W r G H y a Y X) {x : An} {ao : Option Addr} {cap B : Nat} (hB : w.heap.size ≤ B) (hH : ∀ k, H k → k < B) (hC : CG (fun k => B ≤ k ∧ k < W.heap.size) W (.slice ao x.L.length cap) x.L) : Tells (RL r) G w y x (.returned (ansV x ao cap)) W :=
  ⟨ao, cap, fun k => B ≤ k ∧ k < W.heap.size, rfl, hC, fun k hk => ⟨Nat.le_trans hB hk.1, hk.2⟩, H, h.rl, fun k hk hh => by have := hH k hh; omega, h.kp, fun k hk => (h.hs k hk).imp id (fun h => by omega)⟩
/-- it tells none -/
theorem LdW.plain (h : LdW w W r G H y a Y X) {x : An} (hL : x.L = []) : Tells (RL r) G w y x (.returned (ansV x Option.none 0)) W := Tells.plain h.leaves hL
end
end Go.Proofs.YthffjanidjjkdaaGreat
namespace Go.Proofs.YthffjanidjjkdaaGreat
set_option linter.unusedVariables false
open Go.RowKit Go.Maps
set_option maxRecDepth 20000
theorem lunit_row : (169 : TypeId) < Tryz.prog.types.size := of_decide_eq_true (by kernel_rfl)
theorem lunit_law : Keyed Tryz.prog 169 := Keyed.of_law (deep_law_laid laidOut (m := 2) (by omega) lunit_row (by kernel_rfl) (by rw [Tryz.underlying169]))
theorem lunit_key (u : Int) (hu : (Lit.int .i64 u).wf = true) : keyOf Tryz.prog 169 (.agg #[.int .i64 u]) = some (klU u) := by
  obtain ⟨n, hn⟩ := types_succ
  exact key_one Tryz.underlying169 (by kernel_rfl) (by rfl) rfl (by kernel_rfl) Tryz.underlying3 (by kernel_rfl) hn hu
theorem zero_none (w : World) : (zeroValue 167).run Tryz.prog w = .ok (.agg #[]) w := by kernel_rfl
/-- the map at block b is the set of the units S -/
def Usd (w : World) (b : Nat) (S : List Int) : Prop := w.ownsMap Tryz.prog 169 (unitElem (H := Unit)) b S.length (setD klU S) ∧ wfL S
theorem Usd.made (w : World) : Usd (w.alloc (.map #[] 0)) w.heap.size [] := ⟨World.ownsMap_made _ _ _ _, wfL.nil⟩
theorem Usd.keep {w w' : World} {b : Nat} {S : List Int} (h : Usd w b S) (e : w'.heap[b]? = w.heap[b]?) : Usd w' b S := by
  obtain ⟨⟨es, clock, h1, h2⟩, h3⟩ := h
  exact ⟨⟨es, clock, e.trans h1, h2⟩, h3⟩
theorem Usd.lt {w : World} {b : Nat} {S : List Int} (h : Usd w b S) : b < w.heap.size := h.1.lt
theorem Usd.below {w w' : World} {b : Nat} {S : List Int} (h : Usd w b S) (hb : Below w.heap.size w w') : Usd w' b S := h.keep (hb.block b h.lt)
theorem Usd.has {w : World} {b : Nat} {S : List Int} (h : Usd w b S) {u : Int} (hu : (Lit.int .i64 u).wf = true) : Maps.has (setD klU S) (klU u) = decide (u ∈ S) := setD_has lunit_law lunit_key unit_inj h.2 hu
/-- block b is the program's layout, whatever it tells -/
def LB (b : Nat) (G : Nat → Prop) (w : World) (y : Ly) : Prop :=
  ∃ (v : Value) (mb : Nat) (F : Nat → Prop), w.heap[b]? = some (.cells #[.int .i64 y.ep, v, .map (some mb), .int .i64 y.mark, .int .i64 y.size, .int .i64 y.n] 144 (0, 0)) ∧ CG F w v y.L ∧ Usd w mb y.used ∧ b ≠ mb ∧ G b ∧ G mb ∧ (∀ k, F k → G k ∧ k ≠ b ∧ k ≠ mb) ∧ ∀ k, G k → k < w.heap.size
/-- block b is the program's layout -/
def LM (b : Nat) (G : Nat → Prop) (w : World) (y : Ly) : Prop := goodB y.ep y.L = true ∧ LB b G w y
theorem lb_thing (b : Nat) : Thing (LB b) where
  lt := by
    rintro G w y ⟨v, mb, F, _, _, _, _, _, _, _, h⟩ k hk
    exact h k hk
  keep := by
    rintro G S w w' y ⟨v, mb, F, h1, h2, h3, h4, h5, h6, h7, h8⟩ hk hS
    exact ⟨v, mb, F, hk.heap (hS b h5) h1, h2.keep hk (fun k hf => hS k (h7 k hf).1), h3.keep (hk.block mb (hS mb h6) (h8 mb h6)), h4, h5, h6, h7, fun k hg => Nat.lt_of_lt_of_le (h8 k hg) hk.size⟩
theorem lm_thing (b : Nat) : Thing (LM b) where
  lt := by
    rintro G w y ⟨_, h⟩ k hk
    exact (lb_thing b).lt h k hk
  keep := by
    rintro G S w w' y ⟨h0, h⟩ hk hS
    exact ⟨h0, (lb_thing b).keep h hk hS⟩
section
variable {w W W2 : World} {b : Nat} {G H : Nat → Prop} {y : Ly}
/-- what the layout's cells hold -/
theorem LB.open (h : LB b G w y) : ∃ ao cap mb, w.heap[b]? = some (.cells #[.int .i64 y.ep, .slice ao y.L.length cap, .map (some mb), .int .i64 y.mark, .int .i64 y.size, .int .i64 y.n] 144 (0, 0)) ∧ CL w ao y.L ∧ Usd w mb y.used ∧ b ≠ mb ∧ G b ∧ G mb := by
  obtain ⟨v, mb, F, h1, h2, h3, h4, h5, h6, h7, h8⟩ := h
  obtain ⟨ao, cap, rfl, h9, _⟩ := h2.cl
  exact ⟨ao, cap, mb, h1, h9, h3, h4, h5, h6⟩
theorem LB.small (h : LB b G w y) : b < w.heap.size := by
  obtain ⟨_, _, _, h1, _⟩ := h.open
  exact lt_of_block h1
theorem LB.below (h : LB b G w y) {w' : World} (hb : Below w.heap.size w w') : LB b G w' y := (lb_thing b).keep h (Kept.ofBelow hb (fun _ => True)) (fun _ _ => trivial)
theorem LB.cl {ao : Option Addr} {n cap : Nat} (h : LB b G w y) (hc : w.cell? ⟨b, 1, none⟩ = some (.slice ao n cap)) : CL w ao y.L := by
  obtain ⟨lo, lc, mb, h1, h2, _⟩ := h.open
  have e : w.cell? ⟨b, 1, none⟩ = some (.slice lo y.L.length lc) := cell_of h1 1
  rw [hc] at e
  have e2 := Value.slice.inj (Option.some.inj e)
  rw [e2.1]
  exact h2
/-- a copy of a projection is laid into the layout -/
theorem LB.chains (h : LB b H W y) (hb : Below W.heap.size W W2) {e : Int} {v : Value} {L : List (List Int)} (hO : OC W2 W.heap.size v L) :
    Leaves (LB b) H W ((W2.setCell ⟨b, 0, none⟩ (.int .i64 e)).setCell ⟨b, 1, none⟩ v) ⟨e, L, y.used, y.mark, y.size, y.n⟩ := by
  obtain ⟨v0, mb, F, h1, h2, h3, h4, h5, h6, h7, h8⟩ := h
  have hr := lt_of_block h1
  have hm := h3.lt
  have hk : Kept (fun k => k ≠ b) W2 ((W2.setCell ⟨b, 0, none⟩ (.int .i64 e)).setCell ⟨b, 1, none⟩ v) := ((Kept.refl _ W2).setCell (p := ⟨b, 0, none⟩) (fun h => h rfl) _).setCell (p := ⟨b, 1, none⟩) (fun h => h rfl) _
  have e1 := below_heap hb h1
  have e2 := heap_setCell_same W2 b 0 _ _ (.int .i64 e) e1
  have e3 := heap_setCell_same _ b 1 _ _ v e2
  have hs : ((W2.setCell ⟨b, 0, none⟩ (.int .i64 e)).setCell ⟨b, 1, none⟩ v).heap.size = W2.heap.size := by simp [World.setCell]
  refine ⟨fun k => H k ∨ (W.heap.size ≤ k ∧ k < W2.heap.size), ⟨v, mb, fun k => W.heap.size ≤ k ∧ k < W2.heap.size, e3, ?_, (h3.below hb).keep (hk.block mb (fun e => h4 e.symm) (Nat.lt_of_lt_of_le hm hb.size)), h4, .inl h5, .inl h6, fun k hk2 => ⟨.inr hk2, by omega, by omega⟩, fun k hk2 => ?_⟩, (Kept.ofBelow hb _).trans (hk.mono (fun k hn e => hn (e ▸ h5))), fun k hk2 => hk2.imp id (fun h => h.1)⟩
  · exact (CG.of hO).keep hk (fun k hk => by omega)
  · rw [hs]
    rcases hk2 with hk2 | hk2
    · exact Nat.lt_of_lt_of_le (h8 k hk2) hb.size
    · exact hk2.2
/-- a unit is noted -/
theorem LB.put (h : LB b H W y) {mb : Nat} {u : Int} {n : Nat} (hc : W.cell? ⟨b, 2, none⟩ = some (.map (some mb))) (hu : (Lit.int .i64 u).wf = true) (hn : n = y.used.length + 1) (ho : W2.ownsMap Tryz.prog 169 (unitElem (H := Unit)) mb n ((setD klU y.used).put (klU u) (.agg []))) (hg : W.grownBy W2 (some mb)) :
    LB b H W2 ⟨y.ep, y.L, y.used ++ [u], y.mark, y.size, y.n⟩ := by
  obtain ⟨v0, mb', F, h1, h2, h3, h4, h5, h6, h7, h8⟩ := h
  have e : mb' = mb := by
    have h9 : W.cell? ⟨b, 2, none⟩ = some (.map (some mb')) := cell_of h1 2
    rw [hc] at h9
    injection h9 with h9
    injection h9 with h9
    exact (Option.some.inj h9).symm
  subst e
  have hk : Kept (fun k => k ≠ mb') W W2 := (Kept.refl _ W).grown hg (fun k e hk => hk (Option.some.inj e).symm)
  refine ⟨v0, mb', F, hk.heap h4 h1, h2.keep hk (fun k hf => (h7 k hf).2.2), ⟨?_, h3.2.append (wfL.one hu)⟩, h4, h5, h6, h7, fun k hk2 => Nat.lt_of_lt_of_le (h8 k hk2) hk.size⟩
  show W2.ownsMap _ _ _ mb' (y.used ++ [u]).length (setD klU (y.used ++ [u]))
  rw [setD_snoc, show (y.used ++ [u]).length = n from by rw [hn, List.length_append]; rfl]
  exact ho
/-- an image is marked -/
theorem LB.mark (h : LB b H W y) (m z n : Int) : Leaves (LB b) H W (((W.setCell ⟨b, 3, none⟩ (.int .i64 m)).setCell ⟨b, 4, none⟩ (.int .i64 z)).setCell ⟨b, 5, none⟩ (.int .i64 n)) ⟨y.ep, y.L, y.used, m, z, n⟩ := by
  obtain ⟨v0, mb, F, h1, h2, h3, h4, h5, h6, h7, h8⟩ := h
  have hk : Kept (fun k => k ≠ b) W (((W.setCell ⟨b, 3, none⟩ (.int .i64 m)).setCell ⟨b, 4, none⟩ (.int .i64 z)).setCell ⟨b, 5, none⟩ (.int .i64 n)) := (((Kept.refl _ W).setCell (p := ⟨b, 3, none⟩) (fun h => h rfl) _).setCell (p := ⟨b, 4, none⟩) (fun h => h rfl) _).setCell (p := ⟨b, 5, none⟩) (fun h => h rfl) _
  have e1 := heap_setCell_same _ b 5 _ _ (.int .i64 n) (heap_setCell_same _ b 4 _ _ (.int .i64 z) (heap_setCell_same W b 3 _ _ (.int .i64 m) h1))
  exact ⟨H, ⟨v0, mb, F, e1, h2.keep hk (fun k hf => (h7 k hf).2.1), h3.keep (hk.block mb (fun e => h4 e.symm) h3.lt), h4, h5, h6, h7, fun k hk2 => by simpa [World.setCell] using h8 k hk2⟩, hk.mono (fun k hn e => hn (e ▸ h5)), fun k hk2 => .inl hk2⟩
end
section
variable {α : Type} {T : (Nat → Prop) → World → α → Prop} {G : Nat → Prop} {w W W2 : World} {a a' : α}
/-- one step behind another -/
theorem Leaves.then (hG : ∀ k, G k → k < w.heap.size) (h : Leaves T G w W a) (hs : ∀ H, T H W a → Leaves T H W W2 a') : Leaves T G w W2 a' := by
  obtain ⟨H, h1, h2, h3⟩ := h
  obtain ⟨H', r1, r2, r3⟩ := hs H h1
  refine ⟨H', r1, ?_, fun k hk => ?_⟩
  · refine ⟨r2.os.trans h2.os, r2.tape.trans h2.tape, r2.output.trans h2.output, Nat.le_trans h2.size r2.size, fun k hg hkl => ?_⟩
    have hn : ¬ H k := fun hf => by
      rcases h3 k hf with h | h
      · exact hg h
      · omega
    rw [r2.block k hn (Nat.lt_of_lt_of_le hkl h2.size)]
    exact h2.block k hg hkl
  · rcases r3 k hk with h | h
    · exact h3 k h
    · exact .inr (Nat.le_trans h2.size h)
theorem Leaves.to {β : Type} {U : (Nat → Prop) → World → β → Prop} {b : β} (h : Leaves T G w W a) (hs : ∀ H, T H W a → U H W b) : Leaves U G w W b := by
  obtain ⟨H, h1, h2, h3⟩ := h
  exact ⟨H, hs H h1, h2, h3⟩
end
end Go.Proofs.YthffjanidjjkdaaGreat
namespace Go.Proofs.YthffjanidjjkdaaGreat
set_option linter.unusedVariables false
open Go.RowKit
set_option maxRecDepth 20000
section
variable {α β : Type} {T : (Nat → Prop) → World → α → Prop} {U : (Nat → Prop) → World → β → Prop} {C G : Nat → Prop} {v : Value} {L : List (List Int)} {w w' : World} {s s' : α} {x : An} {e : Ending}
variable {n i : Nat} {V : Nat → (Nat → Prop) → World → Prop} {N : (Nat → Prop) → World → β → Prop} {z : β} {P : Program} {fn : FuncId} {args : Array Value}
/-- a call, or a store, on one of many, as one on all of them -/
theorem bundg_leaves (hT : ∀ i, i < n → Part (V i)) {F : Nat → Nat → Prop} (h1 : ∀ i, i < n → V i (F i) w) (h2 : ∀ i j, i < n → j < n → i ≠ j → ∀ k, F i k → ¬ F j k) (h3 : ∀ k, G k ↔ ∃ i, i < n ∧ F i k) (hi : i < n)
    (hN : ∀ G' W, BundG n (swapP V i (fun F W => T F W s')) G' W → N G' W z) (hl : Leaves T (F i) w w' s') : Leaves N G w w' z := by
  obtain ⟨F', r1, r2, r3⟩ := hl
  obtain ⟨G', s1, s2, s3, s4⟩ := bundg_turn (C := fun _ => False) (U := fun F W => T F W s') hT h1 h2 h3 hi (fun k hk => hk.elim) r1 (fun k hk => hk.elim) r2 r3
  exact ⟨G', hN G' w' s1, s3, s4⟩
/-- one of many is opened: what a call, or a store, on it leaves of all of them -/
theorem BundG.use (hT : ∀ i, i < n → Part (V i)) (h : BundG n V G w) (hi : i < n) : ∃ F : Nat → Prop, V i F w ∧ (∀ k, F k → G k) ∧
    ∀ {α β : Type} (T : (Nat → Prop) → World → α → Prop) (N : (Nat → Prop) → World → β → Prop) (w' : World) (s' : α) (z : β), (∀ G' W, BundG n (swapP V i (fun F W => T F W s')) G' W → N G' W z) → Leaves T F w w' s' → Leaves N G w w' z := by
  obtain ⟨F, h1, h2, h3⟩ := h
  exact ⟨F i, h1 i hi, fun k hf => (h3 k).2 ⟨i, hi, hf⟩, fun T N w' s' z hN hl => bundg_leaves hT h1 h2 h3 hi hN hl⟩
end
end Go.Proofs.YthffjanidjjkdaaGreat
namespace Go.Proofs.YthffjanidjjkdaaGreat
open Go.ChangeShapes Go.WideShapes Go.ChangeAt Go.RowKit
section
variable {H : Type} {enc : TypeId × Value → H} {P : Program} {w : World} {base : Nat} {spare : Nat → Bool} {held : Bool}
end
/-- a place's block -/
def XB (w : World) (b : Nat) (c p : Int) : Prop := w.heap[b]? = some (.cells #[.int .i64 c, .int .i64 p] 39 (0, 0))
theorem XB.below {w w' : World} {b : Nat} {c p : Int} (h : XB w b c p) (hb : Below w.heap.size w w') : XB w' b c p := below_heap hb h
theorem XB.cells {w : World} {b : Nat} {c p : Int} (h : XB w b c p) : w.cell? ⟨b, 0, none⟩ = some (.int .i64 c) ∧ w.cell? ⟨b, 1, none⟩ = some (.int .i64 p) := ⟨cell_of h 0, cell_of h 1⟩
theorem XB.lt {w : World} {b : Nat} {c p : Int} (h : XB w b c p) : b < w.heap.size := by
  unfold XB at h
  exact lt_of_block h
theorem XB.new (w : World) (c p : Int) : XB (w.alloc (.cells #[.int .i64 c, .int .i64 p] 39)) w.heap.size c p := heap_alloc_new _ _
theorem below_alloc (w : World) (x : Obj) : Below w.heap.size w (w.alloc x) := (Below.refl _ _).alloc (Nat.le_refl _) x
end Go.Proofs.YthffjanidjjkdaaGreat
namespace Go.Proofs.YthffjanidjjkdaaGreat
set_option linter.unusedVariables false
open Go.RowKit
theorem findP_filter {l : List Pg} {P : Pg → Bool} {q : Int} (h : ∀ x ∈ l, x.at_ = q → P x = true) : findP (l.filter P) q = findP l q := by
  unfold findP
  induction l with
  | nil => rfl
  | cons x l ih =>
    have ih := ih (fun y hy => h y (List.mem_cons_of_mem _ hy))
    have hx := h x List.mem_cons_self
    by_cases e : x.at_ = q
    · rw [List.filter_cons_of_pos (hx e), List.find?_cons_of_pos (by simpa using e), List.find?_cons_of_pos (by simpa using e)]
    · rw [List.find?_cons_of_neg (by simpa using e)]
      cases hp : P x with
      | true => rw [List.filter_cons_of_pos hp, List.find?_cons_of_neg (by simpa using e), ih]
      | false => rw [List.filter_cons_of_neg (by simp [hp]), ih]
theorem trim_kind {p : Ps} (he : p.edge = 0) {t q : Int} (ht : 0 ≤ t ∧ t < 15) (hq : 0 ≤ q ∧ q < 14) : (p.trim t).kind q = (if q < t then 3 else p.kind q) ∧ (t ≤ q → (p.trim t).text q = p.text q) := by
  have e1 : p.trim t = ⟨p.l.filter (fun x => decide (max p.edge t ≤ x.at_)), p.room, max p.edge t⟩ := by
    unfold Ps.trim
    rw [if_pos (show Ps.trimE t = 0 from if_neg (by omega))]
  have e2 : t ≤ q → findP (p.l.filter (fun x => decide (max p.edge t ≤ x.at_))) q = findP p.l q := fun h => findP_filter (fun x _ e => by rw [e]; exact decide_eq_true (by omega))
  rw [e1]
  constructor
  · unfold Ps.kind
    rw [if_pos (there14 hq), if_pos (there14 hq)]
    by_cases h : q < t
    · rw [if_pos h, if_pos (by show q < max p.edge t; omega)]
    · rw [if_neg h, if_neg (by show ¬ q < max p.edge t; omega), if_neg (by omega)]
      show (match findP (p.l.filter _) q with | some x => x.kind | none => 0) = _
      rw [e2 (by omega)]
      rfl
  · intro h
    unfold Ps.text
    show (match findP (p.l.filter _) q with | some x => x.s | none => ⟨#[]⟩) = _
    rw [e2 h]
    rfl
/-- a question that trims -/
structure AskT4 (a : Int) (j : Nat) (t : Int) (k : Ak) : Prop where
  kind : k.kind = 4
  ep : k.epoch = 0
  page : k.page = t
  unit : k.unit = (unF a j : Int)
theorem FtU.trim {u : Us} (h : FtU u) {k : Ak} (h1 : k.kind = 4) (h2 : k.epoch = 0) : u.done k = ⟨u.p.trim k.page, u.epoch, u.down⟩ ∧ FtU (u.done k) := by
  have e : u.done k = ⟨u.p.trim k.page, u.epoch, u.down⟩ := by
    unfold Us.done
    rw [if_neg (by rw [h.up, h.ep, h2]; simp; omega), if_neg (by omega)]
    unfold Us.pageP
    rw [if_neg (by omega), if_neg (by omega), if_neg (by omega)]
  have hok := h.ok.trim k.page
  have hl : ∀ x ∈ (u.p.trim k.page).l, x ∈ u.p.l := fun x hx => by
    unfold Ps.trim at hx
    split at hx
    · exact (List.mem_filter.1 hx).1
    · exact hx
  have hr : (u.p.trim k.page).room = u.p.room := by
    unfold Ps.trim
    split <;> rfl
  refine ⟨e, ?_⟩
  rw [e]
  exact ⟨h.up, h.ep, by show 100 ≤ (u.p.trim k.page).room; rw [hr]; exact h.room, hok, fun x hx => h.low x (hl x hx)⟩
/-- the first k units of a's chain were trimmed up to t -/
structure TrimN (n0 : Nd) (a t : Int) (k : Nat) (n : Nd) : Prop where
  ft : FtN n
  done : ∀ i, i < lenF a → i < k → FK n a i = (if a / 3 < t then 3 else FK n0 a i) ∧ (t ≤ a / 3 → FX n a i = FX n0 a i)
  rest : ∀ i, i < lenF a → k ≤ i → FK n a i = FK n0 a i ∧ FX n a i = FX n0 a i ∧ (n.u (unF a i)).p.edge = 0
  l : n.l = n0.l
theorem TrimN.start {n : Nd} (h : LayN n) (a t : Int) : TrimN n a t 0 n := ⟨h.ft, fun i _ hk => absurd hk (Nat.not_lt_zero i), fun i _ _ => ⟨rfl, rfl, h.edge _⟩, rfl⟩
theorem unF_same {a : Int} {i j : Nat} (hi : i < lenF a) (hj : j < lenF a) (h : unF a i = unF a j) : i = j := (unF_apart hj hi h rfl).2
theorem TrimN.next {n0 n : Nd} {a t : Int} {k : Nat} (h : TrimN n0 a t k n) (ht : 0 ≤ t ∧ t < 15) (ha : 0 ≤ a ∧ a < 42) (hk : k < lenF a) {q : Ak} (hq : AskT4 a k t q) : TrimN n0 a t (k + 1) (n.done q) := by
  have hu := unF_low hk
  have h2 := hq.unit
  have e : q.unit.toNat = unF a k := by omega
  have ed : n.done q = n.putU (unF a k) ((n.u (unF a k)).done q) := by
    unfold Nd.done
    rw [if_pos (by rw [hq.kind]; omega), if_pos (by omega), e]
  obtain ⟨r1, r2, r3⟩ := h.rest k hk (Nat.le_refl _)
  obtain ⟨d1, d2⟩ := (h.ft.u (unF a k) (by omega)).trim hq.kind hq.ep
  obtain ⟨t1, t2⟩ := trim_kind r3 ht (show 0 ≤ a / 3 ∧ a / 3 < 14 by omega)
  rw [hq.page] at d1
  rw [ed]
  refine ⟨⟨fun i hi => ?_⟩, fun i hi hik => ?_, fun i hi hik => ?_, h.l⟩
  · by_cases g : i = unF a k
    · rw [g, putU_at]; exact d2
    · rw [putU_off _ _ g]; exact h.ft.u i hi
  · by_cases g : i = k
    · subst g
      unfold FK FX at *
      rw [putU_at, d1]
      refine ⟨?_, fun h => (t2 h).trans r2⟩
      show ((n.u (unF a i)).p.trim t).kind (a / 3) = _
      rw [t1, r1]
    · have gn : unF a i ≠ unF a k := fun e => g (unF_same hi hk e)
      have hd := h.done i hi (by omega)
      unfold FK FX at *
      rw [putU_off _ _ gn]
      exact hd
  · have gn : unF a i ≠ unF a k := fun e => by have := unF_same hi hk e; omega
    have hr := h.rest i hi (by omega)
    unfold FK FX at *
    rw [putU_off _ _ gn]
    exact hr
/-- where a fetch that fills nothing begins behind it -/
theorem TrimN.fetch {n0 n : Nd} {a t : Int} (h0 : LayN n0) (h : TrimN n0 a t (lenF a) n) : ∃ V : Int, FNod n V (FX n a 0) a false n ∧ V = (if a / 3 < t then 3 else FK n0 a 0) ∧ FK n a 0 = V := by
  have hl := lenF_pos a
  by_cases ht : a / 3 < t
  · have all : ∀ i, i < lenF a → FK n a i = 3 := fun i hi => by rw [(h.done i hi hi).1, if_pos ht]
    refine ⟨3, ⟨h.ft, fun j hj => .inr ⟨all j hj, fun e => absurd e (by decide)⟩, .inr (.inr (.inr rfl)), fun e => absurd e (by decide), fun e => absurd e (by decide), fun _ => rfl, fun _ => all, fun j hj _ => ⟨(all j (by omega)).trans (all (j + 1) hj).symm, fun e => by rw [all j (by omega)] at e; omega⟩, fun _ _ _ _ => ⟨rfl, rfl⟩, fun _ => rfl, rfl, fun _ => rfl⟩, by rw [if_pos ht], all 0 (by omega)⟩
  · have kk : ∀ i, i < lenF a → FK n a i = FK n0 a i ∧ FX n a i = FX n0 a i := fun i hi => by
      obtain ⟨g1, g2⟩ := h.done i hi hi
      rw [if_neg ht] at g1
      exact ⟨g1, g2 (by omega)⟩
    have pre : PreA n a := fun j hj hn => by
      obtain ⟨a1, a2⟩ := kk j (by omega)
      obtain ⟨b1, b2⟩ := kk (j + 1) hj
      rw [b1] at hn
      rw [a1, a2, b1, b2]
      exact h0.pre a j hj hn
    have k0 := h0.ft.kinds (a := a) (j := 0) (by omega)
    have k3 := h0.kind (a := a) (j := 0) (by omega)
    obtain ⟨z1, z2⟩ := kk 0 (by omega)
    refine ⟨FK n0 a 0, ⟨h.ft, fun j hj => ?_, by omega, fun e => by rw [z1]; exact e, fun e => .inr (by rw [z1]; exact e), fun _ => rfl, fun e => absurd e k3, pre, fun _ _ _ _ => ⟨rfl, rfl⟩, fun _ => rfl, rfl, fun _ => rfl⟩, by rw [if_neg ht], z1⟩
    by_cases g : FK n a j = 0
    · exact .inl g
    · have hd := pre.down j 0 (by omega) (by rw [Nat.zero_add]; exact g)
      rw [Nat.zero_add] at hd
      exact .inr ⟨by rw [← hd.1, z1], fun e => (hd.2 (by rw [z1]; exact e)).symm⟩
end Go.Proofs.YthffjanidjjkdaaGreat
