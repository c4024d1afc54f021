/- What the program's unit answers any question, and all that the laws of units ask of the program. Conditions: it and the question lie where the call was told; the question's data are not too long. What the document's own layout answers, asked to mark an image, or asked what it does not know. Conditions: it and the question lie where the call was told. (Written by gen/genlayf.py.) What the program's layout tells of the projection that counts, what its calls of nil return, and what it makes of an image. Conditions: it lies where the call was told. What the program's own Chain returns. Conditions: the projection lies where the call was told, and is not too large. The document's own nodes while they are made, unit by unit. Conditions: as each statement says. -/
import Derived.Test.YthffjanidjjkdaaGreatG17b
import Derived.Test.YthffjanidjjkdaaGreatG17a
import Derived.Laws.EntriesVeiled
import Derived.Test.YthffjanidjjkdaaGreatG11b
import Derived.Lib.SliceRun
set_option linter.unusedVariables false
namespace Go.Proofs.YthffjanidjjkdaaGreat
set_option linter.unusedVariables false
open Go.RowKit
set_option maxRecDepth 20000
def fnV (f : FuncId) : Value := .func (.func f) #[] #[]
theorem deed_none (k : Int) (w : World) (hk : k < 1 ∨ 5 < k) : Calls Tryz.prog 144 #[.int .i64 k] w fun e w' => e = .returned .nilFunc ∧ Below w.heap.size w w' := by
  by_cases h0 : k = 0
  · subst h0
    clear hk
    go_enter Tryz.func144, Tryz.ntmps144
    go_wp2
    go_ret
    exact ⟨rfl, (Below.refl _ _).alloc (Nat.le_refl _) _⟩
  by_cases h1 : k < 0
  · clear hk h0
    go_enter Tryz.func144, Tryz.ntmps144
    go_wp2
    go_ret
    exact ⟨rfl, (Below.refl _ _).alloc (Nat.le_refl _) _⟩
  have h2 : 6 ≤ k := by omega
  have h3 : 0 ≤ k := by omega
  clear hk h0 h1
  go_enter Tryz.func144, Tryz.ntmps144
  go_wp2
  go_ret
  exact ⟨rfl, (Below.refl _ _).alloc (Nat.le_refl _) _⟩
theorem deed_1 (w : World) : Calls Tryz.prog 144 #[.int .i64 1] w fun e w' => e = .returned (fnV 145) ∧ Below w.heap.size w w' := by
  go_enter Tryz.func144, Tryz.ntmps144
  go_wp2
  go_ret
  exact ⟨rfl, (Below.refl _ _).alloc (Nat.le_refl _) _⟩
theorem deed_2 (w : World) : Calls Tryz.prog 144 #[.int .i64 2] w fun e w' => e = .returned (fnV 146) ∧ Below w.heap.size w w' := by
  go_enter Tryz.func144, Tryz.ntmps144
  go_wp2
  go_ret
  exact ⟨rfl, (Below.refl _ _).alloc (Nat.le_refl _) _⟩
theorem deed_3 (w : World) : Calls Tryz.prog 144 #[.int .i64 3] w fun e w' => e = .returned (fnV 147) ∧ Below w.heap.size w w' := by
  go_enter Tryz.func144, Tryz.ntmps144
  go_wp2
  go_ret
  exact ⟨rfl, (Below.refl _ _).alloc (Nat.le_refl _) _⟩
theorem deed_4 (w : World) : Calls Tryz.prog 144 #[.int .i64 4] w fun e w' => e = .returned (fnV 148) ∧ Below w.heap.size w w' := by
  go_enter Tryz.func144, Tryz.ntmps144
  go_wp2
  go_ret
  exact ⟨rfl, (Below.refl _ _).alloc (Nat.le_refl _) _⟩
theorem deed_5 (w : World) : Calls Tryz.prog 144 #[.int .i64 5] w fun e w' => e = .returned (fnV 149) ∧ Below w.heap.size w w' := by
  go_enter Tryz.func144, Tryz.ntmps144
  go_wp2
  go_ret
  exact ⟨rfl, (Below.refl _ _).alloc (Nat.le_refl _) _⟩
theorem nil_nil (w : World) : (binOp .eql 226 .nilFunc .nilFunc).run Tryz.prog w = .ok (.bool true) w := rfl
set_option maxHeartbeats 800000 in
theorem answer_none (b q : Nat) (G : Nat → Prop) (w : World) (u : Us) (a : Ak) (h : UM b q G w u) (hk : a.kind < 1 ∨ 5 < a.kind) :
    Calls Tryz.prog 143 #[ptrV b, askV a] w fun e w' => e = .returned (anV 1 0 noS 0) ∧ Leaves (UM b q) G w w' u := by
  obtain ⟨k, un, ep, pg, sz, n, s, pe, L, ao, cap⟩ := a
  obtain ⟨p, ue, dn⟩ := u
  simp only at *
  have CC := Lib.hid coded_ag
  have HS := Lib.hid (boxed_start (um_thing b q) h #[.int .i64 k, .int .i64 un, .int .i64 ep, .int .i64 pg, .int .i64 sz, .int .i64 n, .string s, .int .i64 pe, .slice ao L.length cap])
  unfold zeroAn at HS
  have hbw := h.small
  clear h
  show Calls _ _ #[.pointer (some ⟨b, 0, none⟩), .agg #[.int .i64 k, .int .i64 un, .int .i64 ep, .int .i64 pg, .int .i64 sz, .int .i64 n, .string s, .int .i64 pe, .slice ao L.length cap]] w _
  have HD := Lib.hid (fun w => deed_none k w hk)
  have hn := nil_nil
  clear hk
  go_enter Tryz.func143, Tryz.ntmps143
  go_wp2_with (first | (go_at_call 144; refine (HD.out _).mono ?_; rintro e w1 ⟨rfl, hb1⟩; have HT2 := Lib.hid (HS.out.below (um_thing b q) hb1); clear hb1) | (go_at_call 142; refine (CC.out _ _).mono ?_; rintro e w3 ⟨rfl, hb3⟩; have HT3 := Lib.hid (HT2.out.below (um_thing b q) hb3); clear hb3; obtain ⟨nl1, nl2⟩ := HT3.out.small; obtain ⟨⟨ny0, ny1, ny2, ny3, ny4, ny5, ny6, ny7⟩, nfy0, nfy1, nfy2, nfy3, nfy4, nfy5, nfy6, nfy7⟩ := eight_cells HT3.out.ans))
  exact ans_ret (x := anP (1) (0) noS 0) (ao := none) (cap := 0) rfl (HT3.out.fin (um_thing b q)).1 rfl rfl ⟨rfl, (HT3.out.fin (um_thing b q)).2⟩
set_option maxHeartbeats 800000 in
theorem answer_sealed (b q : Nat) (G : Nat → Prop) (w : World) (u : Us) (a : Ak) (f : FuncId) (h : UM b q G w u) (hd : ∀ w, Calls Tryz.prog 144 #[.int .i64 a.kind] w fun e w' => e = .returned (fnV f) ∧ Below w.heap.size w w') (he : a.epoch < u.epoch) :
    Calls Tryz.prog 143 #[ptrV b, askV a] w fun e w' => e = .returned (anV 40 0 noS 0) ∧ Leaves (UM b q) G w w' u := by
  obtain ⟨k, un, ep, pg, sz, n, s, pe, L, ao, cap⟩ := a
  obtain ⟨p, ue, dn⟩ := u
  simp only at *
  have CC := Lib.hid coded_ag
  have HS := Lib.hid (boxed_start (um_thing b q) h #[.int .i64 k, .int .i64 un, .int .i64 ep, .int .i64 pg, .int .i64 sz, .int .i64 n, .string s, .int .i64 pe, .slice ao L.length cap])
  unfold zeroAn at HS
  have hbw := h.small
  clear h
  show Calls _ _ #[.pointer (some ⟨b, 0, none⟩), .agg #[.int .i64 k, .int .i64 un, .int .i64 ep, .int .i64 pg, .int .i64 sz, .int .i64 n, .string s, .int .i64 pe, .slice ao L.length cap]] w _
  have HD := Lib.hid hd
  unfold fnV at HD
  clear hd
  have hn : ∀ w : World, (binOp .eql 226 (.func (.func f) #[] #[]) .nilFunc).run Tryz.prog w = .ok (.bool false) w := fun _ => rfl
  go_enter Tryz.func143, Tryz.ntmps143
  go_wp2_with (go_at_call 144; refine (HD.out _).mono ?_; rintro e w1 ⟨rfl, hb1⟩; have HT1 := Lib.hid (HS.out.below (um_thing b q) hb1); clear hb1)
  obtain ⟨l1, l2⟩ := HT1.out.small
  obtain ⟨H, hH, _⟩ := HT1.out.use
  have x2 : w1.cell? ⟨w.heap.size, 2, none⟩ = some (.int .i64 ep) := cell_of HT1.out.ask 2
  obtain ⟨c0, c1, c2, _⟩ := three_cells hH.cells
  have hb := hH.small
  clear hH
  go_quiet (fail)
  have HT2 := Lib.hid (HT1.out.drewN (um_thing b q) nq)
  generalize hW2 : World.drewN w1 nq = w2 at *
  clear hW2 x2 c0 c1 c2 hb l1 l2
  obtain ⟨l1, l2⟩ := HT2.out.small
  go_wp2_with (go_at_call 142; refine (CC.out _ _).mono ?_; rintro e w3 ⟨rfl, hb3⟩; have HT3 := Lib.hid (HT2.out.below (um_thing b q) hb3); clear hb3; obtain ⟨nl1, nl2⟩ := HT3.out.small; obtain ⟨⟨ny0, ny1, ny2, ny3, ny4, ny5, ny6, ny7⟩, nfy0, nfy1, nfy2, nfy3, nfy4, nfy5, nfy6, nfy7⟩ := eight_cells HT3.out.ans)
  exact ans_ret (x := anP (40) (0) noS 0) (ao := none) (cap := 0) rfl (HT3.out.fin (um_thing b q)).1 rfl rfl ⟨rfl, (HT3.out.fin (um_thing b q)).2⟩
end Go.Proofs.YthffjanidjjkdaaGreat
namespace Go.Proofs.YthffjanidjjkdaaGreat
set_option linter.unusedVariables false
open Go.RowKit
set_option maxRecDepth 20000
end Go.Proofs.YthffjanidjjkdaaGreat
namespace Go.Proofs.YthffjanidjjkdaaGreat
set_option linter.unusedVariables false
open Go.RowKit Go.Maps
set_option maxRecDepth 20000
theorem lp_now (b : Nat) (G : Nat → Prop) (w : World) (y : Ly) (h : LB b G w y) (hl : y.L.length ≤ 255 ∧ ∀ c ∈ y.L, c.length ≤ 255) :
    Calls Tryz.prog 157 #[ptrL b] w fun e w' => ∃ v, e = .returned (.agg #[.int .i64 y.ep, v]) ∧ OC w' w.heap.size v y.L ∧ Below w.heap.size w w' := by
  obtain ⟨ao, cap, mb, h1, h2, h3, h4, _⟩ := h.open
  obtain ⟨⟨c0, c1, c2, c3, c4, c5⟩, _⟩ := six_cells h1
  have hb := lt_of_block h1
  have HB := Lib.hid (below_new w (.cells #[.int .i64 0, .slice none 0 0] 30))
  have CC := Lib.hid (copyO_any y.ep ao cap y.L _ (h2.below HB.out) hl)
  clear h h1 h2 h3 hl c2 c3 c4 c5
  unfold ptrL
  go_enter Tryz.func157, Tryz.ntmps157
  go_wp2_with (go_at_call 45; refine CC.out.mono ?_; rintro e w1 ⟨v, rfl, hO, hb1⟩; obtain ⟨vo, vc, hv, _⟩ := hO.form; subst hv; have HO := Lib.hid hO; have HR := Lib.hid (below_heap hb1 (heap_alloc_new w (.cells #[.int .i64 0, .slice none 0 0] 30))); obtain ⟨t0, t1, g0, g1⟩ := two_cells HR.out; have HB1 := Lib.hid (HB.out.trans (hb1.mono HB.out.size)); have hsz : w.heap.size < w1.heap.size := lt_of_block HR.out; clear hO hb1)
  have hK := ((Kept.refl (fun k => w.heap.size + 1 ≤ k) w1).setCell (p := ⟨w.heap.size, 0, none⟩) (by simp) (.int .i64 y.ep)).setCell (p := ⟨w.heap.size, 1, none⟩) (by simp) (.slice vo y.L.length vc)
  exact proj_ret rfl (two_set1 (two_set0 HR.out (.int .i64 y.ep)) (.slice vo y.L.length vc)) rfl rfl ⟨_, rfl, (HO.out.keep hK (fun k h _ => by simpa using h)).lower (by simp), (HB1.out.setCell (by simp) _).setCell (by simp) _⟩
theorem lp_nil_now (w : World) : Calls Tryz.prog 157 #[.pointer none] w fun e w' => ∃ ep v, e = .returned (.agg #[.int .i64 ep, v]) ∧ OC w' w.heap.size v [] ∧ Below w.heap.size w w' := by
  have HR := heap_alloc_new w (.cells #[.int .i64 0, .slice none 0 0] 30)
  go_enter Tryz.func157, Tryz.ntmps157
  go_wp2_with fail
  exact proj_ret rfl (heap_alloc_new w (.cells #[.int .i64 0, .slice none 0 0] 30)) rfl rfl ⟨_, _, rfl, OC.nil _ _, below_new _ _⟩
theorem lp_nil_ask (w : World) (a : Ak) : Calls Tryz.prog 156 #[.pointer none, askV a] w fun e w' => e = .returned (ansV (anP 1 0 noL 0) none 0) ∧ Below w.heap.size w w' := by
  obtain ⟨k, un, ep, pg, sz, n, s, pe, L, ao, cap⟩ := a
  have HW := Lib.hid (two_blocks w #[.int .i64 k, .int .i64 un, .int .i64 ep, .int .i64 pg, .int .i64 sz, .int .i64 n, .string s, .int .i64 pe, .slice ao L.length cap] #[.int .i64 0, .int .i64 0, .string ⟨#[]⟩, .int .i64 0, .slice none 0 0, .int .i64 0, .int .i64 0, .int .i64 0] 62 58)
  have HB := Lib.hid (show Below w.heap.size w ((w.alloc (.cells #[.int .i64 k, .int .i64 un, .int .i64 ep, .int .i64 pg, .int .i64 sz, .int .i64 n, .string s, .int .i64 pe, .slice ao L.length cap] 62)).alloc (.cells #[.int .i64 0, .int .i64 0, .string ⟨#[]⟩, .int .i64 0, .slice none 0 0, .int .i64 0, .int .i64 0, .int .i64 0] 58)) from (below_new _ _).alloc (by simp) _)
  show Calls _ _ #[.pointer none, .agg #[.int .i64 k, .int .i64 un, .int .i64 ep, .int .i64 pg, .int .i64 sz, .int .i64 n, .string s, .int .i64 pe, .slice ao L.length cap]] w _
  go_enter Tryz.func156, Tryz.ntmps156
  go_wp2_with (go_at_call 158; refine (lcoded_any _ _).mono ?_; rintro e w2 ⟨rfl, hb2⟩; have HX := Lib.hid (below_heap hb2 HW.out.2); obtain ⟨⟨x0, x1, x2, x3, x4, x5, x6, x7⟩, f0, f1, f2, f3, f4, f5, f6, f7⟩ := eight_cells HX.out; have hx := lt_of_block HX.out; have HB2 := Lib.hid (HB.out.trans (hb2.mono HB.out.size)); clear hb2)
  exact ans_ret (x := anP 1 0 noL 0) (ao := none) (cap := 0) rfl (eight_set7 (eight_set6 (eight_set5 (eight_set4 (eight_set3 (eight_set2 (eight_set1 (eight_set0 HX.out _) _) _) _) _) _) _) _) rfl rfl ⟨rfl, ((((((((HB2.out.setCell (by simp) _).setCell (by simp) _).setCell (by simp) _).setCell (by simp) _).setCell (by simp) _).setCell (by simp) _).setCell (by simp) _).setCell (by simp) _)⟩
theorem three_cells_at {w : World} {b : Nat} {v0 v1 v2 : Value} {t : TypeId} (h : w.heap[b]? = some (.cells #[v0, v1, v2] t (0, 0))) : w.cell? ⟨b, 0, none⟩ = some v0 ∧ w.cell? ⟨b, 1, none⟩ = some v1 ∧ w.cell? ⟨b, 2, none⟩ = some v2 := ⟨cell_of h 0, cell_of h 1, cell_of h 2⟩
/-- what an answer's block is behind its eight stores -/
theorem eight_all {w : World} {b : Nat} {x0 x1 x2 x3 x4 x5 x6 x7 : Value} {t : TypeId} (h : w.heap[b]? = some (.cells #[x0, x1, x2, x3, x4, x5, x6, x7] t (0, 0))) (v0 v1 v2 v3 v4 v5 v6 v7 : Value) :
    ((((((((w.setCell ⟨b, 0, none⟩ v0).setCell ⟨b, 1, none⟩ v1).setCell ⟨b, 2, none⟩ v2).setCell ⟨b, 3, none⟩ v3).setCell ⟨b, 4, none⟩ v4).setCell ⟨b, 5, none⟩ v5).setCell ⟨b, 6, none⟩ v6).setCell ⟨b, 7, none⟩ v7).heap[b]? = some (.cells #[v0, v1, v2, v3, v4, v5, v6, v7] t (0, 0)) :=
  eight_set7 (eight_set6 (eight_set5 (eight_set4 (eight_set3 (eight_set2 (eight_set1 (eight_set0 h v0) v1) v2) v3) v4) v5) v6) v7
theorem eight_stay (W : World) (b : Nat) (v0 v1 v2 v3 v4 v5 v6 v7 : Value) : Kept (fun k => k ≠ b) W ((((((((W.setCell ⟨b, 0, none⟩ v0).setCell ⟨b, 1, none⟩ v1).setCell ⟨b, 2, none⟩ v2).setCell ⟨b, 3, none⟩ v3).setCell ⟨b, 4, none⟩ v4).setCell ⟨b, 5, none⟩ v5).setCell ⟨b, 6, none⟩ v6).setCell ⟨b, 7, none⟩ v7) :=
  ((((((((Kept.refl _ W).setCell (p := ⟨b, 0, none⟩) (fun h => h rfl) _).setCell (p := ⟨b, 1, none⟩) (fun h => h rfl) _).setCell (p := ⟨b, 2, none⟩) (fun h => h rfl) _).setCell (p := ⟨b, 3, none⟩) (fun h => h rfl) _).setCell (p := ⟨b, 4, none⟩) (fun h => h rfl) _).setCell (p := ⟨b, 5, none⟩) (fun h => h rfl) _).setCell (p := ⟨b, 6, none⟩) (fun h => h rfl) _).setCell (p := ⟨b, 7, none⟩) (fun h => h rfl) _
def zeroE : Array Value := #[.int .i64 0, .int .i64 0, .string ⟨#[]⟩, .int .i64 0, .slice none 0 0, .int .i64 0, .int .i64 0, .int .i64 0]
theorem lp_mark_no (b : Nat) (G : Nat → Prop) (w : World) (y : Ly) (h : LB b G w y) (p s n : Int) (hg : goodI p s n = false) :
    Calls Tryz.prog 161 #[ptrL b, .agg #[.int .i64 p, .int .i64 s, .int .i64 n]] w fun e w' => e = .returned (ansV (anP 1 0 noL 0) none 0) ∧ Leaves (LB b) G w w' y := by
  have HS := Lib.hid (boxv_start (lb_thing b) h 142 58 #[.int .i64 p, .int .i64 s, .int .i64 n] zeroE)
  unfold zeroE at HS
  have C1 := Lib.hid (fun w => lgood_any p s n w)
  rw [hg] at C1
  have hbw := h.small
  clear h hg
  unfold ptrL
  go_enter Tryz.func161, Tryz.ntmps161
  go_wp2_with (first
    | (go_at_call 163; refine (C1.out _).mono ?_; rintro e w1 ⟨rfl, hb1⟩; have HS1 := Lib.hid (HS.out.below (lb_thing b) hb1); clear hb1)
    | (go_at_call 158; refine (lcoded_any _ _).mono ?_; rintro e w2 ⟨rfl, hb2⟩; have HS2 := Lib.hid (HS1.out.below (lb_thing b) hb2); obtain ⟨⟨x0, x1, x2, x3, x4, x5, x6, x7⟩, f0, f1, f2, f3, f4, f5, f6, f7⟩ := eight_cells HS2.out.ans; obtain ⟨l1, l2⟩ := HS2.out.small; clear hb2))
  exact ans_ret (x := anP 1 0 noL 0) (ao := none) (cap := 0) rfl (eight_all HS2.out.ans _ _ _ _ _ _ _ _) rfl rfl ⟨rfl, HS2.out.fin (lb_thing b) (eight_stay _ _ _ _ _ _ _ _ _ _)⟩
theorem lp_mark_old (b : Nat) (G : Nat → Prop) (w : World) (y : Ly) (h : LB b G w y) (p s n : Int) (hg : goodI p s n = true) (hn : ¬ y.n < n) :
    Calls Tryz.prog 161 #[ptrL b, .agg #[.int .i64 p, .int .i64 s, .int .i64 n]] w fun e w' => e = .returned (ansV (anM y.n y.mark y.size) none 0) ∧ Leaves (LB b) G w w' y := by
  have HS := Lib.hid (boxv_start (lb_thing b) h 142 58 #[.int .i64 p, .int .i64 s, .int .i64 n] zeroE)
  unfold zeroE at HS
  have C1 := Lib.hid (fun w => lgood_any p s n w)
  rw [hg] at C1
  have C2 := Lib.hid (fun w => ltold_any y.mark y.size y.n w)
  have hbw := h.small
  have hd : decide (y.n < n) = false := decide_eq_false hn
  clear h hg hn
  unfold ptrL
  go_enter Tryz.func161, Tryz.ntmps161
  go_wp2_with (go_at_call 163; refine (C1.out _).mono ?_; rintro e w1 ⟨rfl, hb1⟩; have HS1 := Lib.hid (HS.out.below (lb_thing b) hb1); obtain ⟨H, hH, _⟩ := HS1.out.use; obtain ⟨ao, cap, mb, h1, _⟩ := hH.open; obtain ⟨⟨c0, c1, c2, c3, c4, c5⟩, _⟩ := six_cells h1; obtain ⟨i0, i1, i2⟩ := three_cells_at HS1.out.ask; have hb1' := lt_of_block h1; obtain ⟨l1, l2⟩ := HS1.out.small; clear hb1 hH h1)
  go_quiet (fail)
  go_wp2_with (go_at_call 159; refine (C2.out _).mono ?_; rintro e w2 ⟨rfl, hb2⟩; have HS2 := Lib.hid ((HS1.out.drewN (lb_thing b) _).below (lb_thing b) hb2); obtain ⟨⟨x0, x1, x2, x3, x4, x5, x6, x7⟩, f0, f1, f2, f3, f4, f5, f6, f7⟩ := eight_cells HS2.out.ans; obtain ⟨m1, m2⟩ := HS2.out.small; clear hb2)
  exact ans_ret (x := anM y.n y.mark y.size) (ao := none) (cap := 0) rfl (eight_all HS2.out.ans _ _ _ _ _ _ _ _) rfl rfl ⟨rfl, HS2.out.fin (lb_thing b) (eight_stay _ _ _ _ _ _ _ _ _ _)⟩
theorem lp_mark_new (b : Nat) (G : Nat → Prop) (w : World) (y : Ly) (h : LB b G w y) (p s n : Int) (hg : goodI p s n = true) (hn : y.n < n) :
    Calls Tryz.prog 161 #[ptrL b, .agg #[.int .i64 p, .int .i64 s, .int .i64 n]] w fun e w' => e = .returned (ansV (anM n p s) none 0) ∧ Leaves (LB b) G w w' ⟨y.ep, y.L, y.used, p, s, n⟩ := by
  have HS := Lib.hid (boxv_start (lb_thing b) h 142 58 #[.int .i64 p, .int .i64 s, .int .i64 n] zeroE)
  unfold zeroE at HS
  have C1 := Lib.hid (fun w => lgood_any p s n w)
  rw [hg] at C1
  have C2 := Lib.hid (fun w => ltold_any p s n w)
  have hbw := h.small
  have hd : decide (y.n < n) = true := decide_eq_true hn
  clear h hg hn
  unfold ptrL
  go_enter Tryz.func161, Tryz.ntmps161
  go_wp2_with (go_at_call 163; refine (C1.out _).mono ?_; rintro e w1 ⟨rfl, hb1⟩; have HS1 := Lib.hid (HS.out.below (lb_thing b) hb1); obtain ⟨H, hH, _⟩ := HS1.out.use; obtain ⟨ao, cap, mb, h1, _⟩ := hH.open; obtain ⟨⟨c0, c1, c2, c3, c4, c5⟩, g0, g1, g2, g3, g4, g5⟩ := six_cells h1; obtain ⟨i0, i1, i2⟩ := three_cells_at HS1.out.ask; have hb1' := lt_of_block h1; obtain ⟨l1, l2⟩ := HS1.out.small; clear hb1 hH h1)
  go_quiet (fail)
  go_wp2_with (go_at_call 159; refine (C2.out _).mono ?_; rintro e w2 ⟨rfl, hb2⟩; have HSQ := HS1.out.drewN (lb_thing b) nq; obtain ⟨H2, hH2, _, hU⟩ := HSQ.use2; have HS2 := Lib.hid ((hU (LB b) _ _ (hH2.mark p s n)).below (lb_thing b) hb2); obtain ⟨⟨x0, x1, x2, x3, x4, x5, x6, x7⟩, f0, f1, f2, f3, f4, f5, f6, f7⟩ := eight_cells HS2.out.ans; obtain ⟨m1, m2⟩ := HS2.out.small; clear hb2 hH2 hU HSQ)
  exact ans_ret (x := anM n p s) (ao := none) (cap := 0) rfl (eight_all HS2.out.ans _ _ _ _ _ _ _ _) rfl rfl ⟨rfl, HS2.out.fin (lb_thing b) (eight_stay _ _ _ _ _ _ _ _ _ _)⟩
end Go.Proofs.YthffjanidjjkdaaGreat
namespace Go.Proofs.YthffjanidjjkdaaGreat
open Go.RowKit
set_option maxRecDepth 20000
set_option maxHeartbeats 2000000 in
theorem pClone_any (ao : Option Addr) (cap : Nat) (l : List Int) (w : World) (h : NLI w ao cap l) (hl : l.length ≤ 255) :
    Calls Tryz.prog 83 #[.slice ao l.length cap] w fun e w' => ∃ bo cb, e = .returned (.slice bo l.length cb) ∧ NLI w' bo cb l ∧ Below w.heap.size w w' := by
  have HN := Lib.hid h
  have HL := Lib.hid (show ([] : List Int).length + l.length ≤ 1000000 from by simp; omega)
  have hEq := fun (w : World) (a : Option Addr) (n c : Nat) => Lib.run_eql_slice_nil (P := Tryz.prog) w 36 3 a n c 0 0 Tryz.underlying36
  cases ao with
  | none =>
    obtain ⟨rfl, rfl⟩ := h.of_none
    go_enter Tryz.func83, Tryz.ntmps83
    go_wp2_with fail
    go_ret
    exact ⟨none, 0, rfl, NLI.nil _, Below.refl _ _⟩
  | some x =>
    have HMD := Lib.hid (OI.made w (Nat.le_refl _))
    clear h
    go_enter Tryz.func83, Tryz.ntmps83
    go_wp2_with (refine wpList_app_ints (o := ⟨some 7, _, _, _, _, _⟩) rfl (.tmp 5) (.tmp 6) rfl (B := w.heap.size) (v := .slice (some ⟨w.heap.size, 0, none⟩) 0 0) (D := []) rfl HMD.out (ao := some x) (cap := cap) (l := l) rfl rfl (HN.out.below (below_alloc _ _)) HL.out (by simp) ?_; intro v2 w2 hI hg _; rw [List.nil_append] at hI; obtain ⟨a2, c2, hv2, hN2, _, _⟩ := hI.form; have HB2 := Lib.hid (((Below.refl w.heap.size w).alloc (Nat.le_refl _) _).grown hg (by simp) (fun k e => by have e2 : w.heap.size = k := Option.some.inj e; omega)); have HN2 := Lib.hid hN2; subst hv2; clear hI hg hN2)
    go_ret
    exact ⟨_, _, rfl, HN2.out, HB2.out⟩
set_option maxHeartbeats 4000000 in
theorem pChain_any (ep : Int) (ao : Option Addr) (cap : Nat) (L : List (List Int)) (a : Int) (w : World) (h : CL w ao L) (hl : L.length ≤ 255 ∧ ∀ c ∈ L, c.length ≤ 255) :
    Calls Tryz.prog 76 #[.agg #[.int .i64 ep, .slice ao L.length cap], .int .i64 a] w fun e w' => ∃ bo cb, e = .returned (.slice bo (chainR ep L a).length cb) ∧ NLI w' bo cb (chainR ep L a) ∧ Below w.heap.size w w' := by
  have HB0 := Lib.hid ((Below.refl w.heap.size w).alloc (Nat.le_refl _) (.cells #[.int .i64 ep, .slice ao L.length cap] 30))
  have HC := Lib.hid (h.below HB0.out)
  have HP := Lib.hid (show PB (w.alloc (.cells #[.int .i64 ep, .slice ao L.length cap] 30)) w.heap.size ep ao L.length cap from heap_alloc_new _ _)
  have CO := Lib.hid (pOf_any ep ao cap L a _ HC.out hl)
  have hl' : (L.length : Int) ≤ 255 := by have := hl.1; omega
  have HM := Lib.hid hl
  clear h hl
  by_cases ho : ofB ep L a = true
  · obtain ⟨hg, ha⟩ := ofB_iff.1 ho
    obtain ⟨n1, n4⟩ := good_len hg
    obtain ⟨r1, _, _⟩ := of_range (n := L.length) ⟨by omega, by omega⟩ ha
    obtain ⟨k, hk⟩ := Int.eq_ofNat_of_zero_le r1.1
    have hkl : k < L.length := by omega
    have HX := Lib.hid (chainR_yes ho hkl hk)
    rw [ofV_is ho, hk] at CO
    have mo := HM.out.2 _ (List.getElem_mem hkl)
    have k0 : (k : Int) < (L.length : Int) := by omega
    clear ho hg ha r1 hk
    generalize a / (L.length : Int) = q at *
    go_enter Tryz.func76, Tryz.ntmps76
    go_wp2_with (first
      | (go_at_call 46; refine CO.out.mono ?_; rintro e w1 ⟨rfl, hb1⟩; have HB1 := Lib.hid ((HB0.out.trans (hb1.mono HB0.out.size)).alloc (HB0.out.trans (hb1.mono HB0.out.size)).size (.cells #[.int .i64 k, .int .i64 q] 39)); have HP1 := Lib.hid ((HP.out.below hb1).below (below_alloc w1 (.cells #[.int .i64 k, .int .i64 q] 39))); obtain ⟨b0, b1⟩ := (HP.out.below hb1).cells; obtain ⟨bk, off, ai, ci, hao, c0, hN⟩ := (HC.out.below hb1) k hkl; subst hao; have HN := Lib.hid (hN.below (below_alloc w1 (.cells #[.int .i64 k, .int .i64 q] 39))); have hw1 := block_lt_of_cell b1; have hbk := block_lt_of_cell c0; clear hb1 hN)
      | (go_at_call 83; refine (pClone_any ai ci L[k] _ HN.out mo).mono ?_; rintro e w2 ⟨bo, cb, rfl, hN2, hb2⟩; have HN2 := Lib.hid hN2; have HB2 := Lib.hid (HB1.out.trans (hb2.mono HB1.out.size)); clear hN2 hb2))
    go_ret
    rw [HX.out]
    exact ⟨_, _, rfl, HN2.out, HB2.out⟩
  · have ho' : ofB ep L a = false := Bool.eq_false_iff.2 ho
    rw [ofV_no ho'] at CO
    rw [chainR_no ho']
    clear ho ho'
    go_enter Tryz.func76, Tryz.ntmps76
    go_wp2_with (go_at_call 46; refine CO.out.mono ?_; rintro e w1 ⟨rfl, hb1⟩; have HB1 := Lib.hid (HB0.out.trans (hb1.mono HB0.out.size)); clear hb1)
    go_ret
    exact ⟨none, 0, rfl, NLI.nil _, HB1.out.alloc HB1.out.size _⟩
end Go.Proofs.YthffjanidjjkdaaGreat
namespace Go.Proofs.YthffjanidjjkdaaGreat
set_option linter.unusedVariables false
open Go.RowKit
set_option maxRecDepth 20000
/-- the first i units are there -/
def MkN (w0 : World) (r : Nat) (N : Nd) (i : Nat) (W : World) : Prop :=
  ∃ (A : Array Value) (ro rl : Nat) (B : Nat → Nat × Nat) (G : Nat → Prop), Tab A i B ro rl ∧ BundG (i + 3) (nodeT r A ro rl B N) G W ∧ (∀ k, G k → w0.heap.size ≤ k) ∧ Below w0.heap.size w0 W
theorem mkn_start {w0 w1 w2 : World} {rl ro : Nat} {G1 G2 : Nat → Prop} {N : Nd} {A : Array Value} {B : Nat → Nat × Nat} (h1 : RL rl G1 w1 N.l) (g1 : ∀ k, G1 k → w0.heap.size ≤ k) (b1 : Below w0.heap.size w0 w1) (h2 : RO ro G2 w2 N.o) (g2 : ∀ k, G2 k → w1.heap.size ≤ k) (b2 : Below w1.heap.size w1 w2) (hT : Tab A 0 B ro rl) :
    MkN w0 w2.heap.size N 0 (w2.alloc (.cells A 129)) := by
  have hp := fun i (_ : i < 0) => nodeT_part w2.heap.size A ro rl B N i
  have q0 : BundG 0 (nodeT w2.heap.size A ro rl B N) (fun _ => False) w0 := ⟨fun _ _ => False, fun i hi => absurd hi (Nat.not_lt_zero i), fun i j hi => absurd hi (Nat.not_lt_zero i), fun k => ⟨fun h => h.elim, fun ⟨i, hi, _⟩ => absurd hi (Nat.not_lt_zero i)⟩⟩
  have q1 := (q0.more (fun i _ => nodeT_part w2.heap.size A ro rl B N i) b1 (U := fun F W => RL rl F W N.l) h1 g1).same (T2 := nodeT w2.heap.size A ro rl B N) (fun i hi F W hF => by
    match i, hi, hF with
    | 0, _, hF => exact hF
    | j + 1, hi, _ => omega)
  have q2 := (q1.more (fun i _ => nodeT_part w2.heap.size A ro rl B N i) b2 (U := fun F W => RO ro F W N.o) h2 g2).same (T2 := nodeT w2.heap.size A ro rl B N) (fun i hi F W hF => by
    match i, hi, hF with
    | 0, _, hF => exact hF
    | 1, _, hF => exact hF
    | j + 2, hi, _ => omega)
  have b3 : Below w2.heap.size w2 (w2.alloc (.cells A 129)) := (Below.refl _ _).alloc (Nat.le_refl _) _
  have q3 := (q2.more (fun i _ => nodeT_part w2.heap.size A ro rl B N i) b3 (U := fun F W => W.heap[w2.heap.size]? = some (.cells A 129 (0, 0)) ∧ ∀ k, F k ↔ k = w2.heap.size) (H := fun k => k = w2.heap.size) ⟨heap_alloc_new _ _, fun k => Iff.rfl⟩ (fun k hk => by omega)).same (T2 := nodeT w2.heap.size A ro rl B N) (fun i hi F W hF => by
    match i, hi, hF with
    | 0, _, hF => exact hF
    | 1, _, hF => exact hF
    | 2, _, hF => exact hF
    | j + 3, hi, _ => omega)
  have z1 := b1.size
  have z2 := b2.size
  refine ⟨A, ro, rl, B, _, hT, q3, fun k hk => ?_, (b1.trans (b2.mono z1)).alloc (by omega) _⟩
  rcases hk with ((hk | hk) | hk) | hk
  · exact hk.elim
  · exact g1 k hk
  · have := g2 k hk; omega
  · omega
theorem MkN.step {w0 W w2 : World} {r i r2 q2 : Nat} {N : Nd} {G2 : Nat → Prop} (h : MkN w0 r N i W) (hi : i < 16) (hb : Below W.heap.size W w2) (hu : RU r2 q2 G2 w2 (N.u i)) (hg : ∀ k, G2 k → W.heap.size ≤ k) : MkN w0 r N (i + 1) (w2.setCell ⟨r, i, none⟩ (ptrU r2)) := by
  obtain ⟨A, ro, rl, B, G, hT, hB, hG, hb0⟩ := h
  have q1 := (hB.more (fun i _ => nodeT_part r A ro rl B N i) hb (U := fun F W => RU r2 q2 F W (N.u i)) hu hg).same (T2 := nodeT r A ro rl (fun j => if j = i then (r2, q2) else B j) N) (fun k hk F W hF => by
    unfold swapP at hF
    match k, hk, hF with
    | 0, _, hF => rw [if_neg (by omega)] at hF; exact hF
    | 1, _, hF => rw [if_neg (by omega)] at hF; exact hF
    | 2, _, hF => rw [if_neg (by omega)] at hF; exact hF
    | j + 3, _, hF =>
      by_cases e : j = i
      · subst e
        rw [if_pos rfl] at hF
        show RU (if j = j then (r2, q2) else B j).1 (if j = j then (r2, q2) else B j).2 F W (N.u j)
        rw [if_pos rfl]
        exact hF
      · rw [if_neg (by omega)] at hF
        show RU (if j = i then (r2, q2) else B j).1 (if j = i then (r2, q2) else B j).2 F W (N.u j)
        rw [if_neg e]
        exact hF)
  obtain ⟨F, h2f, hFG, huse⟩ := q1.use (fun i _ => nodeT_part r A ro rl _ N i) (i := 2) (by omega)
  have hA : w2.heap[r]? = some (.cells A 129 (0, 0)) := h2f.1
  have hF2 : ∀ k, F k ↔ k = r := h2f.2
  have hrG := hFG r ((hF2 r).2 rfl)
  have hk : Kept (fun k => k ≠ r) w2 (w2.setCell ⟨r, i, none⟩ (ptrU r2)) := (Kept.refl _ w2).setCell (p := ⟨r, i, none⟩) (fun h => h rfl) _
  have hl : Leaves (fun (F : Nat → Prop) (W : World) (_ : Unit) => W.heap[r]? = some (.cells (A.setIfInBounds i (ptrU r2)) 129 (0, 0)) ∧ ∀ k, F k ↔ k = r) F w2 (w2.setCell ⟨r, i, none⟩ (ptrU r2)) () :=
    ⟨F, ⟨heap_setCell_same w2 r i A _ _ hA, hF2⟩, hk.mono (fun k hn e => hn ((hF2 k).2 e)), fun k hk => .inl hk⟩
  obtain ⟨G', s1, s2, s3⟩ := huse _ (fun (G' : Nat → Prop) (W : World) (_ : Unit) => BundG (i + 1 + 3) (nodeT r (A.setIfInBounds i (ptrU r2)) ro rl (fun j => if j = i then (r2, q2) else B j) N) G' W) _ () () (fun G' W h => BundG.same (n := i + 1 + 3) (show BundG (i + 1 + 3) _ G' W from (by rw [show i + 1 + 3 = i + 3 + 1 by omega]; exact h)) (fun k _ F W hF => by
    match k, hF with
    | 0, hF => exact hF
    | 1, hF => exact hF
    | 2, hF => exact hF
    | j + 3, hF => exact hF)) hl
  have z0 := hb0.size
  have z1 := hb.size
  refine ⟨_, ro, rl, _, G', hT.put hi (r2, q2), s1, fun k hk => ?_, ?_⟩
  · rcases s3 k hk with (h | h) | h
    · exact hG k h
    · have := hg k h; omega
    · omega
  · refine (hb0.trans (hb.mono z0)).trans (hk.toBelow (by omega) (fun k hk e => ?_))
    rcases hrG with h | h
    · have := hG r h; omega
    · have := hg r h; omega
end Go.Proofs.YthffjanidjjkdaaGreat
