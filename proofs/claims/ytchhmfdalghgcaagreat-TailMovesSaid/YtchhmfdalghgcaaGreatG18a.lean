/- What the document's own layout answers, asked to mark an image, or asked what it does not know. Conditions: it and the question lie where the call was told. (Written by gen/genlayf.py.) What the program's layout tells of the projection that counts, what its calls of nil return, and what it makes of an image. Conditions: it lies where the call was told. The document's own hand in memory: its nodes, the row of what is held. No conditions. -/
import Derived.Test.YtchhmfdalghgcaaGreatG17a
import Derived.Test.YtchhmfdalghgcaaGreatG17b
import Derived.Test.YtchhmfdalghgcaaGreatG11b
import Derived.Test.YtchhmfdalghgcaaGreatG09a
import Derived.Test.YtchhmfdalghgcaaGreatG07b
set_option linter.unusedVariables false
namespace Go.Proofs.YtchhmfdalghgcaaGreat
set_option linter.unusedVariables false
open Go.RowKit
set_option maxRecDepth 20000
end Go.Proofs.YtchhmfdalghgcaaGreat
namespace Go.Proofs.YtchhmfdalghgcaaGreat
set_option linter.unusedVariables false
open Go.RowKit Go.Maps
set_option maxRecDepth 20000
theorem lp_now (b : Nat) (G : Nat → Prop) (w : World) (y : Ly) (h : LB b G w y) (hl : y.L.length ≤ 255 ∧ ∀ c ∈ y.L, c.length ≤ 255) :
    Calls Tryz.prog 140 #[ptrL b] w fun e w' => ∃ v, e = .returned (.agg #[.int .i64 y.ep, v]) ∧ OC w' w.heap.size v y.L ∧ Below w.heap.size w w' := by
  obtain ⟨ao, cap, mb, h1, h2, h3, h4, _⟩ := h.open
  obtain ⟨⟨c0, c1, c2, c3, c4, c5⟩, _⟩ := six_cells h1
  have hb := lt_of_block h1
  have HB := Lib.hid (below_new w (.cells #[.int .i64 0, .slice none 0 0] 29))
  have CC := Lib.hid (copyO_any y.ep ao cap y.L _ (h2.below HB.out) hl)
  clear h h1 h2 h3 hl c2 c3 c4 c5
  unfold ptrL
  go_enter Tryz.func140, Tryz.ntmps140
  go_wp2_with (go_at_call 31; refine CC.out.mono ?_; rintro e w1 ⟨v, rfl, hO, hb1⟩; obtain ⟨vo, vc, hv, _⟩ := hO.form; subst hv; have HO := Lib.hid hO; have HR := Lib.hid (below_heap hb1 (heap_alloc_new w (.cells #[.int .i64 0, .slice none 0 0] 29))); obtain ⟨t0, t1, g0, g1⟩ := two_cells HR.out; have HB1 := Lib.hid (HB.out.trans (hb1.mono HB.out.size)); have hsz : w.heap.size < w1.heap.size := lt_of_block HR.out; clear hO hb1)
  have hK := ((Kept.refl (fun k => w.heap.size + 1 ≤ k) w1).setCell (p := ⟨w.heap.size, 0, none⟩) (by simp) (.int .i64 y.ep)).setCell (p := ⟨w.heap.size, 1, none⟩) (by simp) (.slice vo y.L.length vc)
  exact proj_ret rfl (two_set1 (two_set0 HR.out (.int .i64 y.ep)) (.slice vo y.L.length vc)) rfl rfl ⟨_, rfl, (HO.out.keep hK (fun k h _ => by simpa using h)).lower (by simp), (HB1.out.setCell (by simp) _).setCell (by simp) _⟩
theorem lp_nil_now (w : World) : Calls Tryz.prog 140 #[.pointer none] w fun e w' => ∃ ep v, e = .returned (.agg #[.int .i64 ep, v]) ∧ OC w' w.heap.size v [] ∧ Below w.heap.size w w' := by
  have HR := heap_alloc_new w (.cells #[.int .i64 0, .slice none 0 0] 29)
  go_enter Tryz.func140, Tryz.ntmps140
  go_wp2_with fail
  exact proj_ret rfl (heap_alloc_new w (.cells #[.int .i64 0, .slice none 0 0] 29)) rfl rfl ⟨_, _, rfl, OC.nil _ _, below_new _ _⟩
theorem lp_nil_ask (w : World) (a : Ak) : Calls Tryz.prog 139 #[.pointer none, askV a] w fun e w' => e = .returned (ansV (anP 1 0 noL 0) none 0) ∧ Below w.heap.size w w' := by
  obtain ⟨k, un, ep, pg, sz, n, s, pe, L, ao, cap⟩ := a
  have HW := Lib.hid (two_blocks w #[.int .i64 k, .int .i64 un, .int .i64 ep, .int .i64 pg, .int .i64 sz, .int .i64 n, .string s, .int .i64 pe, .slice ao L.length cap] #[.int .i64 0, .int .i64 0, .string ⟨#[]⟩, .int .i64 0, .slice none 0 0, .int .i64 0, .int .i64 0, .int .i64 0] 37 33)
  have HB := Lib.hid (show Below w.heap.size w ((w.alloc (.cells #[.int .i64 k, .int .i64 un, .int .i64 ep, .int .i64 pg, .int .i64 sz, .int .i64 n, .string s, .int .i64 pe, .slice ao L.length cap] 37)).alloc (.cells #[.int .i64 0, .int .i64 0, .string ⟨#[]⟩, .int .i64 0, .slice none 0 0, .int .i64 0, .int .i64 0, .int .i64 0] 33)) from (below_new _ _).alloc (by simp) _)
  show Calls _ _ #[.pointer none, .agg #[.int .i64 k, .int .i64 un, .int .i64 ep, .int .i64 pg, .int .i64 sz, .int .i64 n, .string s, .int .i64 pe, .slice ao L.length cap]] w _
  go_enter Tryz.func139, Tryz.ntmps139
  go_wp2_with (go_at_call 141; refine (lcoded_any _ _).mono ?_; rintro e w2 ⟨rfl, hb2⟩; have HX := Lib.hid (below_heap hb2 HW.out.2); obtain ⟨⟨x0, x1, x2, x3, x4, x5, x6, x7⟩, f0, f1, f2, f3, f4, f5, f6, f7⟩ := eight_cells HX.out; have hx := lt_of_block HX.out; have HB2 := Lib.hid (HB.out.trans (hb2.mono HB.out.size)); clear hb2)
  exact ans_ret (x := anP 1 0 noL 0) (ao := none) (cap := 0) rfl (eight_set7 (eight_set6 (eight_set5 (eight_set4 (eight_set3 (eight_set2 (eight_set1 (eight_set0 HX.out _) _) _) _) _) _) _) _) rfl rfl ⟨rfl, ((((((((HB2.out.setCell (by simp) _).setCell (by simp) _).setCell (by simp) _).setCell (by simp) _).setCell (by simp) _).setCell (by simp) _).setCell (by simp) _).setCell (by simp) _)⟩
theorem three_cells_at {w : World} {b : Nat} {v0 v1 v2 : Value} {t : TypeId} (h : w.heap[b]? = some (.cells #[v0, v1, v2] t (0, 0))) : w.cell? ⟨b, 0, none⟩ = some v0 ∧ w.cell? ⟨b, 1, none⟩ = some v1 ∧ w.cell? ⟨b, 2, none⟩ = some v2 := ⟨cell_of h 0, cell_of h 1, cell_of h 2⟩
/-- what an answer's block is behind its eight stores -/
theorem eight_all {w : World} {b : Nat} {x0 x1 x2 x3 x4 x5 x6 x7 : Value} {t : TypeId} (h : w.heap[b]? = some (.cells #[x0, x1, x2, x3, x4, x5, x6, x7] t (0, 0))) (v0 v1 v2 v3 v4 v5 v6 v7 : Value) :
    ((((((((w.setCell ⟨b, 0, none⟩ v0).setCell ⟨b, 1, none⟩ v1).setCell ⟨b, 2, none⟩ v2).setCell ⟨b, 3, none⟩ v3).setCell ⟨b, 4, none⟩ v4).setCell ⟨b, 5, none⟩ v5).setCell ⟨b, 6, none⟩ v6).setCell ⟨b, 7, none⟩ v7).heap[b]? = some (.cells #[v0, v1, v2, v3, v4, v5, v6, v7] t (0, 0)) :=
  eight_set7 (eight_set6 (eight_set5 (eight_set4 (eight_set3 (eight_set2 (eight_set1 (eight_set0 h v0) v1) v2) v3) v4) v5) v6) v7
theorem eight_stay (W : World) (b : Nat) (v0 v1 v2 v3 v4 v5 v6 v7 : Value) : Kept (fun k => k ≠ b) W ((((((((W.setCell ⟨b, 0, none⟩ v0).setCell ⟨b, 1, none⟩ v1).setCell ⟨b, 2, none⟩ v2).setCell ⟨b, 3, none⟩ v3).setCell ⟨b, 4, none⟩ v4).setCell ⟨b, 5, none⟩ v5).setCell ⟨b, 6, none⟩ v6).setCell ⟨b, 7, none⟩ v7) :=
  ((((((((Kept.refl _ W).setCell (p := ⟨b, 0, none⟩) (fun h => h rfl) _).setCell (p := ⟨b, 1, none⟩) (fun h => h rfl) _).setCell (p := ⟨b, 2, none⟩) (fun h => h rfl) _).setCell (p := ⟨b, 3, none⟩) (fun h => h rfl) _).setCell (p := ⟨b, 4, none⟩) (fun h => h rfl) _).setCell (p := ⟨b, 5, none⟩) (fun h => h rfl) _).setCell (p := ⟨b, 6, none⟩) (fun h => h rfl) _).setCell (p := ⟨b, 7, none⟩) (fun h => h rfl) _
def zeroE : Array Value := #[.int .i64 0, .int .i64 0, .string ⟨#[]⟩, .int .i64 0, .slice none 0 0, .int .i64 0, .int .i64 0, .int .i64 0]
theorem lp_mark_no (b : Nat) (G : Nat → Prop) (w : World) (y : Ly) (h : LB b G w y) (p s n : Int) (hg : goodI p s n = false) :
    Calls Tryz.prog 144 #[ptrL b, .agg #[.int .i64 p, .int .i64 s, .int .i64 n]] w fun e w' => e = .returned (ansV (anP 1 0 noL 0) none 0) ∧ Leaves (LB b) G w w' y := by
  have HS := Lib.hid (boxv_start (lb_thing b) h 116 33 #[.int .i64 p, .int .i64 s, .int .i64 n] zeroE)
  unfold zeroE at HS
  have C1 := Lib.hid (fun w => lgood_any p s n w)
  rw [hg] at C1
  have hbw := h.small
  clear h hg
  unfold ptrL
  go_enter Tryz.func144, Tryz.ntmps144
  go_wp2_with (first
    | (go_at_call 146; refine (C1.out _).mono ?_; rintro e w1 ⟨rfl, hb1⟩; have HS1 := Lib.hid (HS.out.below (lb_thing b) hb1); clear hb1)
    | (go_at_call 141; refine (lcoded_any _ _).mono ?_; rintro e w2 ⟨rfl, hb2⟩; have HS2 := Lib.hid (HS1.out.below (lb_thing b) hb2); obtain ⟨⟨x0, x1, x2, x3, x4, x5, x6, x7⟩, f0, f1, f2, f3, f4, f5, f6, f7⟩ := eight_cells HS2.out.ans; obtain ⟨l1, l2⟩ := HS2.out.small; clear hb2))
  exact ans_ret (x := anP 1 0 noL 0) (ao := none) (cap := 0) rfl (eight_all HS2.out.ans _ _ _ _ _ _ _ _) rfl rfl ⟨rfl, HS2.out.fin (lb_thing b) (eight_stay _ _ _ _ _ _ _ _ _ _)⟩
theorem lp_mark_old (b : Nat) (G : Nat → Prop) (w : World) (y : Ly) (h : LB b G w y) (p s n : Int) (hg : goodI p s n = true) (hn : ¬ y.n < n) :
    Calls Tryz.prog 144 #[ptrL b, .agg #[.int .i64 p, .int .i64 s, .int .i64 n]] w fun e w' => e = .returned (ansV (anM y.n y.mark y.size) none 0) ∧ Leaves (LB b) G w w' y := by
  have HS := Lib.hid (boxv_start (lb_thing b) h 116 33 #[.int .i64 p, .int .i64 s, .int .i64 n] zeroE)
  unfold zeroE at HS
  have C1 := Lib.hid (fun w => lgood_any p s n w)
  rw [hg] at C1
  have C2 := Lib.hid (fun w => ltold_any y.mark y.size y.n w)
  have hbw := h.small
  have hd : decide (y.n < n) = false := decide_eq_false hn
  clear h hg hn
  unfold ptrL
  go_enter Tryz.func144, Tryz.ntmps144
  go_wp2_with (go_at_call 146; refine (C1.out _).mono ?_; rintro e w1 ⟨rfl, hb1⟩; have HS1 := Lib.hid (HS.out.below (lb_thing b) hb1); obtain ⟨H, hH, _⟩ := HS1.out.use; obtain ⟨ao, cap, mb, h1, _⟩ := hH.open; obtain ⟨⟨c0, c1, c2, c3, c4, c5⟩, _⟩ := six_cells h1; obtain ⟨i0, i1, i2⟩ := three_cells_at HS1.out.ask; have hb1' := lt_of_block h1; obtain ⟨l1, l2⟩ := HS1.out.small; clear hb1 hH h1)
  go_quiet (fail)
  go_wp2_with (go_at_call 142; refine (C2.out _).mono ?_; rintro e w2 ⟨rfl, hb2⟩; have HS2 := Lib.hid ((HS1.out.drewN (lb_thing b) _).below (lb_thing b) hb2); obtain ⟨⟨x0, x1, x2, x3, x4, x5, x6, x7⟩, f0, f1, f2, f3, f4, f5, f6, f7⟩ := eight_cells HS2.out.ans; obtain ⟨m1, m2⟩ := HS2.out.small; clear hb2)
  exact ans_ret (x := anM y.n y.mark y.size) (ao := none) (cap := 0) rfl (eight_all HS2.out.ans _ _ _ _ _ _ _ _) rfl rfl ⟨rfl, HS2.out.fin (lb_thing b) (eight_stay _ _ _ _ _ _ _ _ _ _)⟩
theorem lp_mark_new (b : Nat) (G : Nat → Prop) (w : World) (y : Ly) (h : LB b G w y) (p s n : Int) (hg : goodI p s n = true) (hn : y.n < n) :
    Calls Tryz.prog 144 #[ptrL b, .agg #[.int .i64 p, .int .i64 s, .int .i64 n]] w fun e w' => e = .returned (ansV (anM n p s) none 0) ∧ Leaves (LB b) G w w' ⟨y.ep, y.L, y.used, p, s, n⟩ := by
  have HS := Lib.hid (boxv_start (lb_thing b) h 116 33 #[.int .i64 p, .int .i64 s, .int .i64 n] zeroE)
  unfold zeroE at HS
  have C1 := Lib.hid (fun w => lgood_any p s n w)
  rw [hg] at C1
  have C2 := Lib.hid (fun w => ltold_any p s n w)
  have hbw := h.small
  have hd : decide (y.n < n) = true := decide_eq_true hn
  clear h hg hn
  unfold ptrL
  go_enter Tryz.func144, Tryz.ntmps144
  go_wp2_with (go_at_call 146; refine (C1.out _).mono ?_; rintro e w1 ⟨rfl, hb1⟩; have HS1 := Lib.hid (HS.out.below (lb_thing b) hb1); obtain ⟨H, hH, _⟩ := HS1.out.use; obtain ⟨ao, cap, mb, h1, _⟩ := hH.open; obtain ⟨⟨c0, c1, c2, c3, c4, c5⟩, g0, g1, g2, g3, g4, g5⟩ := six_cells h1; obtain ⟨i0, i1, i2⟩ := three_cells_at HS1.out.ask; have hb1' := lt_of_block h1; obtain ⟨l1, l2⟩ := HS1.out.small; clear hb1 hH h1)
  go_quiet (fail)
  go_wp2_with (go_at_call 142; refine (C2.out _).mono ?_; rintro e w2 ⟨rfl, hb2⟩; have HSQ := HS1.out.drewN (lb_thing b) nq; obtain ⟨H2, hH2, _, hU⟩ := HSQ.use2; have HS2 := Lib.hid ((hU (LB b) _ _ (hH2.mark p s n)).below (lb_thing b) hb2); obtain ⟨⟨x0, x1, x2, x3, x4, x5, x6, x7⟩, f0, f1, f2, f3, f4, f5, f6, f7⟩ := eight_cells HS2.out.ans; obtain ⟨m1, m2⟩ := HS2.out.small; clear hb2 hH2 hU HSQ)
  exact ans_ret (x := anM n p s) (ao := none) (cap := 0) rfl (eight_all HS2.out.ans _ _ _ _ _ _ _ _) rfl rfl ⟨rfl, HS2.out.fin (lb_thing b) (eight_stay _ _ _ _ _ _ _ _ _ _)⟩
end Go.Proofs.YtchhmfdalghgcaaGreat
namespace Go.Proofs.YtchhmfdalghgcaaGreat
set_option linter.unusedVariables false
open Go.RowKit
set_option maxRecDepth 20000
/-- block r is the document's hand, block rn its nodes -/
def RH (r rn : Nat) (G : Nat → Prop) (w : World) (h : Hd) : Prop :=
  h.held.length ≤ 64 ∧ ∃ (v : Value) (F : Nat → Prop), w.heap[r]? = some (.cells #[.pointer (some ⟨rn, 0, none⟩), v] 69 (0, 0)) ∧ OR 37 9 askC w 0 v h.held ∧ RN rn F w h.n ∧ G r ∧ ¬ F r ∧ (∀ k, F k → G k) ∧ (∀ k, v.ownBlock = some k → G k ∧ ¬ F k ∧ k ≠ r) ∧ ∀ k, G k → k < w.heap.size
theorem rh_thing (r rn : Nat) : Thing (RH r rn) where
  lt := by
    rintro G w h ⟨_, v, F, _, _, _, _, _, _, _, h1⟩
    exact h1
  keep := by
    rintro G S w w' h ⟨h0, v, F, h1, h2, h3, h4, h5, h6, h7, h8⟩ hk hS
    exact ⟨h0, v, F, hk.heap (hS r h4) h1, h2.keep hk (fun k e => hS k (h7 k e).1), (rn_thing rn).keep h3 hk (fun k hf => hS k (h6 k hf)), h4, h5, h6, h7, fun k hg => Nat.lt_of_lt_of_le (h8 k hg) hk.size⟩
section
variable {r rn : Nat} {G : Nat → Prop} {w : World} {h : Hd}
/-- a call on the nodes: what it leaves of the hand; C: memory that it handed out -/
theorem RH.turn (hh : RH r rn G w h) : ∃ F : Nat → Prop, RN rn F w h.n ∧ (∀ k, F k → G k) ∧ ∀ (C : Nat → Prop) (v : Value) (L : List (List Int)) W n', (∀ k, C k → w.heap.size ≤ k) → Leaves (Chained (RN rn) C v L) F w W n' → Leaves (Chained (RH r rn) C v L) G w W ⟨n', h.held⟩ := by
  obtain ⟨h0, v, F, h1, h2, h3, h4, h5, h6, h7, h8⟩ := hh
  refine ⟨F, h3, h6, fun C v2 L W n' hC hl => ?_⟩
  obtain ⟨H, ⟨H1, k1, k2, k3, k4, k5⟩, r2, r3⟩ := hl
  have hn : ∀ k, H1 k → F k ∨ w.heap.size ≤ k := fun k hk => r3 k ((k5 k).2 (.inl hk))
  have hsz := r2.size
  refine ⟨fun k => ((G k ∧ ¬ F k) ∨ H1 k) ∨ C k, ⟨fun k => (G k ∧ ¬ F k) ∨ H1 k, ⟨h0, v, H1, r2.heap h5 h1, h2.keep r2 (fun k e => (h7 k e).2.1), k1, .inl ⟨h4, h5⟩, fun hr => ?_, fun k hk => .inr hk, fun k e => ⟨.inl ⟨(h7 k e).1, (h7 k e).2.1⟩, fun hk => ?_, (h7 k e).2.2⟩, fun k hk => ?_⟩, k2, k3, fun k hk hg => ?_, fun k => Iff.rfl⟩, r2.mono (fun k hg hf => hg (h6 k hf)), fun k hk => ?_⟩
  · rcases hn r hr with h | h
    · exact h5 h
    · have := h8 r h4; omega
  · rcases hn k hk with h | h
    · exact (h7 k e).2.1 h
    · have := h8 k (h7 k e).1; omega
  · rcases hk with hk | hk
    · exact Nat.lt_of_lt_of_le (h8 k hk.1) hsz
    · exact (rn_thing rn).lt k1 k hk
  · rcases hg with hg | hg
    · have := h8 k hg.1; have := hC k hk; omega
    · exact k4 k hk hg
  · rcases hk with (hk | hk) | hk
    · exact .inl hk.1
    · exact (hn k hk).imp (h6 k) id
    · exact .inr (hC k hk)
theorem RH.cells (hh : RH r rn G w h) : ∃ v, w.heap[r]? = some (.cells #[.pointer (some ⟨rn, 0, none⟩), v] 69 (0, 0)) ∧ OR 37 9 askC w 0 v h.held := by
  obtain ⟨h0, v, F, h1, h2, _⟩ := hh
  exact ⟨v, h1, h2⟩
theorem RH.small (hh : RH r rn G w h) : r < w.heap.size := by
  obtain ⟨v, h1, _⟩ := hh.cells
  exact lt_of_block h1
/-- a row that was made anew is laid into the hand -/
theorem RH.lay (hh : RH r rn G w h) {w2 : World} (hb : Below w.heap.size w w2) {v2 : Value} {l : List Ak} (hO : OR 37 9 askC w2 w.heap.size v2 l) (hl : l.length ≤ 64) : Leaves (RH r rn) G w (w2.setCell ⟨r, 1, none⟩ v2) ⟨h.n, l⟩ := by
  obtain ⟨h0, v, F, h1, h2, h3, h4, h5, h6, h7, h8⟩ := hh
  have hlt := h8 r h4
  have hz := hb.size
  have hs : (w2.setCell ⟨r, 1, none⟩ v2).heap.size = w2.heap.size := by simp [World.setCell]
  have hk1 : Kept (fun k => k ≠ r) w2 (w2.setCell ⟨r, 1, none⟩ v2) := (Kept.refl _ w2).setCell (p := ⟨r, 1, none⟩) (fun h => h rfl) _
  have hk : Kept (fun k => ¬ G k) w (w2.setCell ⟨r, 1, none⟩ v2) := (Kept.ofBelow hb (fun k => ¬ G k)).setCell (p := ⟨r, 1, none⟩) (fun h => h h4) v2
  have hown : ∀ k, v2.ownBlock = some k → w.heap.size ≤ k ∧ k < w2.heap.size := fun k e => hO.lt k e
  refine ⟨fun k => G k ∨ (w.heap.size ≤ k ∧ k < w2.heap.size), ⟨hl, v2, F, two_set1 (below_heap hb h1) v2, (hO.keep hk1 (fun k e => ?_)).lower (Nat.zero_le _), (rn_thing rn).keep ((rn_thing rn).keep h3 (Kept.ofBelow hb (fun _ => True)) (fun _ _ => trivial)) hk1 (fun k hf e => h5 (e ▸ hf)), .inl h4, h5, fun k hf => .inl (h6 k hf), fun k e => ⟨.inr (hown k e), fun hf => ?_, ?_⟩, fun k hk => ?_⟩, hk, fun k hk => ?_⟩
  · have := hown k e; omega
  · have := h8 k (h6 k hf); have := hown k e; omega
  · have := hown k e; omega
  · rw [hs]
    rcases hk with hk | hk
    · exact Nat.lt_of_lt_of_le (h8 k hk) hz
    · exact hk.2
  · rcases hk with hk | hk
    · exact .inl hk
    · exact .inr hk.1
end
end Go.Proofs.YtchhmfdalghgcaaGreat
