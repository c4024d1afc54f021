/- What the program's tail tells of where it is, asks, tells at its end; what its end leaves; nil tails. Conditions: it lies where the call was told. (Written by gen/gentmp.py.) The program's own take: a question is taken out of those that are held. Conditions: as each statement says. (Written by gen/genhmpe.py.) Plain facts on tails that are asked for by a hand: what its questions leave of the sequencer, and what they tell. No conditions but those that the statements name. -/
import Derived.Test.YtchhmfdalghgcaaGreatG26b
import Derived.Test.YtchhmfdalghgcaaGreatG11b
set_option linter.unusedVariables false
namespace Go.Proofs.YtchhmfdalghgcaaGreat
set_option linter.unusedVariables false
open Go.RowKit
set_option maxRecDepth 20000
theorem tp_isOver (b : Nat) (G : Nat → Prop) (w : World) (t : Tl) (h : TM b G w t) :
    Calls Tryz.prog 34 #[ptrP b] w fun e w' => e = .returned (.bool (decide (t.at_ = 3))) ∧ w = w' := by
  obtain ⟨ao, cap, h1, hc, h3⟩ := h.open
  obtain ⟨⟨c0, c1, c2, c3, c4⟩, _⟩ := fv_of h1
  have hb := lt_of_block h1
  rw [show decide (t.at_ = 3) = decide (t.at_ - 1 = 2) from decide_eq_decide.2 (by omega)]
  clear h h1 hc h3
  unfold ptrP
  generalize t.at_ - 1 = m at *
  by_cases h5 : m = 2
  · subst h5
    go_enter Tryz.func34, Tryz.ntmps34
    go_wp2_with fail
    go_ret
    exact ⟨rfl, rfl⟩
  · have d5 : decide (m = 2) = false := decide_eq_false h5
    go_enter Tryz.func34, Tryz.ntmps34
    go_wp2_with fail
    go_ret
    exact ⟨rfl, rfl⟩
theorem tp_isOver_nil (w : World) : Calls Tryz.prog 34 #[.pointer none] w fun e w' => e = .returned (.bool true) ∧ w = w' := by
  go_enter Tryz.func34, Tryz.ntmps34
  go_wp2_with fail
  go_ret
  exact ⟨rfl, rfl⟩
theorem te_ok (b : Nat) (G : Nat → Prop) (w : World) (t : Tl) (n y : Int) (r1 : 0 ≤ n) (r2 : n ≤ 16384) (h : TM b G w t) :
    Calls Tryz.prog 33 #[ptrP b, .int .i64 n, .int .i64 0] w fun e w' => e = .returned (.tuple #[]) ∧ Leaves (TM b) G w w' (t.ends n 0) := by
  have h0 := h.ok
  obtain ⟨ao, cap, h1, hc, h3⟩ := h.open
  obtain ⟨⟨c0, c1, c2, c3, c4⟩, f0, f1, f2, f3, f4⟩ := fv_of h1
  have hb := lt_of_block h1
  have H3 := Lib.hid h3
  have H1 := Lib.hid h1
  have d1 : decide (n < 0) = false := decide_eq_false (by omega)
  have d2 : decide (16384 < n) = false := decide_eq_false (by omega)
  clear h h1 h3 hc
  unfold ptrP
  go_enter Tryz.func33, Tryz.ntmps33
  go_wp2_with fail
  go_end0
  exact ⟨rfl, H3.out _ (t.ends n 0) ((((Kept.refl _ _).setCell (p := ⟨b, 2, none⟩) (fun h => h rfl) _).setCell (p := ⟨b, 3, none⟩) (fun h => h rfl) _).setCell (p := ⟨b, 4, none⟩) (fun h => h rfl) _) rfl ⟨(by decide : (1 : Int) ≤ 3), (by decide : (3 : Int) ≤ 3), h0.2.2⟩ (fvset4 (fvset3 (fvset2 H1.out _) _) _)⟩
theorem te_low (b : Nat) (G : Nat → Prop) (w : World) (t : Tl) (n y : Int) (r1 : n < 0) (h : TM b G w t) :
    Calls Tryz.prog 33 #[ptrP b, .int .i64 n, .int .i64 0] w fun e w' => e = .returned (.tuple #[]) ∧ Leaves (TM b) G w w' (t.ends 0 1) := by
  have h0 := h.ok
  obtain ⟨ao, cap, h1, hc, h3⟩ := h.open
  obtain ⟨⟨c0, c1, c2, c3, c4⟩, f0, f1, f2, f3, f4⟩ := fv_of h1
  have hb := lt_of_block h1
  have H3 := Lib.hid h3
  have H1 := Lib.hid h1
  have d1 : decide (n < 0) = true := decide_eq_true r1
  clear h h1 h3 hc
  unfold ptrP
  go_enter Tryz.func33, Tryz.ntmps33
  go_wp2_with fail
  go_end0
  exact ⟨rfl, H3.out _ (t.ends 0 1) ((((Kept.refl _ _).setCell (p := ⟨b, 2, none⟩) (fun h => h rfl) _).setCell (p := ⟨b, 3, none⟩) (fun h => h rfl) _).setCell (p := ⟨b, 4, none⟩) (fun h => h rfl) _) rfl ⟨(by decide : (1 : Int) ≤ 3), (by decide : (3 : Int) ≤ 3), h0.2.2⟩ (fvset4 (fvset3 (fvset2 H1.out _) _) _)⟩
theorem te_high (b : Nat) (G : Nat → Prop) (w : World) (t : Tl) (n y : Int) (r2 : 16384 < n) (h : TM b G w t) :
    Calls Tryz.prog 33 #[ptrP b, .int .i64 n, .int .i64 0] w fun e w' => e = .returned (.tuple #[]) ∧ Leaves (TM b) G w w' (t.ends 0 1) := by
  have h0 := h.ok
  obtain ⟨ao, cap, h1, hc, h3⟩ := h.open
  obtain ⟨⟨c0, c1, c2, c3, c4⟩, f0, f1, f2, f3, f4⟩ := fv_of h1
  have hb := lt_of_block h1
  have H3 := Lib.hid h3
  have H1 := Lib.hid h1
  have d1 : decide (n < 0) = false := decide_eq_false (by omega)
  have d2 : decide (16384 < n) = true := decide_eq_true r2
  clear h h1 h3 hc
  unfold ptrP
  go_enter Tryz.func33, Tryz.ntmps33
  go_wp2_with fail
  go_end0
  exact ⟨rfl, H3.out _ (t.ends 0 1) ((((Kept.refl _ _).setCell (p := ⟨b, 2, none⟩) (fun h => h rfl) _).setCell (p := ⟨b, 3, none⟩) (fun h => h rfl) _).setCell (p := ⟨b, 4, none⟩) (fun h => h rfl) _) rfl ⟨(by decide : (1 : Int) ≤ 3), (by decide : (3 : Int) ≤ 3), h0.2.2⟩ (fvset4 (fvset3 (fvset2 H1.out _) _) _)⟩
theorem te_err (b : Nat) (G : Nat → Prop) (w : World) (t : Tl) (n y : Int) (e1 : ¬ y = 0) (h : TM b G w t) :
    Calls Tryz.prog 33 #[ptrP b, .int .i64 n, .int .i64 y] w fun e w' => e = .returned (.tuple #[]) ∧ Leaves (TM b) G w w' (t.ends 0 y) := by
  have h0 := h.ok
  obtain ⟨ao, cap, h1, hc, h3⟩ := h.open
  obtain ⟨⟨c0, c1, c2, c3, c4⟩, f0, f1, f2, f3, f4⟩ := fv_of h1
  have hb := lt_of_block h1
  have H3 := Lib.hid h3
  have H1 := Lib.hid h1
  have d1 : (y == 0) = false := by simpa using e1
  have d2 : (y != 0) = true := by simpa using e1
  clear h h1 h3 hc
  unfold ptrP
  go_enter Tryz.func33, Tryz.ntmps33
  go_wp2_with fail
  go_end0
  exact ⟨rfl, H3.out _ (t.ends 0 y) ((((Kept.refl _ _).setCell (p := ⟨b, 2, none⟩) (fun h => h rfl) _).setCell (p := ⟨b, 3, none⟩) (fun h => h rfl) _).setCell (p := ⟨b, 4, none⟩) (fun h => h rfl) _) rfl ⟨(by decide : (1 : Int) ≤ 3), (by decide : (3 : Int) ≤ 3), h0.2.2⟩ (fvset4 (fvset3 (fvset2 H1.out _) _) _)⟩
/-- how it ends by what the sequencer told -/
def Tl.fin (t : Tl) (n y : Int) : Tl := if y = 0 then (if 0 ≤ n ∧ n ≤ 16384 then t.ends n 0 else t.ends 0 1) else t.ends 0 y
theorem tp_end (b : Nat) (G : Nat → Prop) (w : World) (t : Tl) (n y : Int) (h : TM b G w t) :
    Calls Tryz.prog 33 #[ptrP b, .int .i64 n, .int .i64 y] w fun e w' => e = .returned (.tuple #[]) ∧ Leaves (TM b) G w w' (t.fin n y) := by
  unfold Tl.fin
  by_cases hy : y = 0
  · subst hy
    rw [if_pos rfl]
    by_cases hn : 0 ≤ n ∧ n ≤ 16384
    · rw [if_pos hn]
      exact te_ok b G w t n 0 hn.1 hn.2 h
    · rw [if_neg hn]
      by_cases h1 : n < 0
      · exact te_low b G w t n 0 h1 h
      · exact te_high b G w t n 0 (by omega) h
  · rw [if_neg hy]
    exact te_err b G w t n y hy h
theorem tp_ask_over (b : Nat) (G : Nat → Prop) (w : World) (t : Tl) (ha : t.at_ = 3) (h : TM b G w t) :
    Calls Tryz.prog 16 #[ptrP b] w fun e w' => e = .returned (.tuple #[askV (zeroK), .bool false]) ∧ Below w.heap.size w w' := by
  have C := Lib.hid (fun w (h : TM b G w t) => tp_isOver b G w t h)
  rw [decide_eq_true ha] at C
  have HB := Lib.hid (below_new w (.cells #[.int .i64 0, .int .i64 0, .int .i64 0, .int .i64 0, .int .i64 0, .int .i64 0, .string ⟨#[]⟩, .int .i64 0, .slice none 0 0] 37))
  have HZ := Lib.hid (heap_alloc_new w (.cells #[.int .i64 0, .int .i64 0, .int .i64 0, .int .i64 0, .int .i64 0, .int .i64 0, .string ⟨#[]⟩, .int .i64 0, .slice none 0 0] 37))
  have HA := Lib.hid (h.below HB.out)
  obtain ⟨ao, cap, h1, hc, h3⟩ := HA.out.open
  obtain ⟨⟨c0, c1, c2, c3, c4⟩, _⟩ := fv_of h1
  have hb := lt_of_block h1
  rw [ha] at c2
  clear h h1 hc h3
  unfold ptrP at *
  go_enter Tryz.func16, Tryz.ntmps16
  go_wp2_with (go_at_call 34; refine (C.out _ HA.out).mono ?_; rintro e w1 ⟨rfl, rfl⟩)
  exact ask_ret2 (x := zeroK) rfl HZ.out rfl rfl rfl ⟨rfl, HB.out⟩
theorem tp_ask_lay (b : Nat) (G : Nat → Prop) (w : World) (t : Tl) (ha : t.at_ = 1) (h : TM b G w t) :
    Calls Tryz.prog 16 #[ptrP b] w fun e w' => e = .returned (.tuple #[askV (layK), .bool true]) ∧ Below w.heap.size w w' := by
  have C := Lib.hid (fun w (h : TM b G w t) => tp_isOver b G w t h)
  rw [decide_eq_false (p := t.at_ = 3) (by omega)] at C
  have HB := Lib.hid (below_new w (.cells #[.int .i64 0, .int .i64 0, .int .i64 0, .int .i64 0, .int .i64 0, .int .i64 0, .string ⟨#[]⟩, .int .i64 0, .slice none 0 0] 37))
  have HZ := Lib.hid (heap_alloc_new w (.cells #[.int .i64 0, .int .i64 0, .int .i64 0, .int .i64 0, .int .i64 0, .int .i64 0, .string ⟨#[]⟩, .int .i64 0, .slice none 0 0] 37))
  have HA := Lib.hid (h.below HB.out)
  obtain ⟨ao, cap, h1, hc, h3⟩ := HA.out.open
  obtain ⟨⟨c0, c1, c2, c3, c4⟩, _⟩ := fv_of h1
  have hb := lt_of_block h1
  rw [ha] at c2
  clear h h1 hc h3
  unfold ptrP at *
  go_enter Tryz.func16, Tryz.ntmps16
  go_wp2_with (go_at_call 34; refine (C.out _ HA.out).mono ?_; rintro e w1 ⟨rfl, rfl⟩)
  exact ask_ret2 (x := layK) rfl (heap_alloc_new w (.cells #[.int .i64 9, .int .i64 0, .int .i64 0, .int .i64 0, .int .i64 0, .int .i64 0, .string ⟨#[]⟩, .int .i64 0, .slice none 0 0] 37)) rfl rfl rfl ⟨rfl, below_new w _⟩
theorem tp_ask_tail (b : Nat) (G : Nat → Prop) (w : World) (t : Tl) (ha : t.at_ = 2) (h : TM b G w t) :
    Calls Tryz.prog 16 #[ptrP b] w fun e w' => e = .returned (.tuple #[askV (askTl t.ep), .bool true]) ∧ Below w.heap.size w w' := by
  have C := Lib.hid (fun w (h : TM b G w t) => tp_isOver b G w t h)
  rw [decide_eq_false (p := t.at_ = 3) (by omega)] at C
  have HB := Lib.hid (below_new w (.cells #[.int .i64 0, .int .i64 0, .int .i64 0, .int .i64 0, .int .i64 0, .int .i64 0, .string ⟨#[]⟩, .int .i64 0, .slice none 0 0] 37))
  have HZ := Lib.hid (heap_alloc_new w (.cells #[.int .i64 0, .int .i64 0, .int .i64 0, .int .i64 0, .int .i64 0, .int .i64 0, .string ⟨#[]⟩, .int .i64 0, .slice none 0 0] 37))
  have HA := Lib.hid (h.below HB.out)
  obtain ⟨ao, cap, h1, hc, h3⟩ := HA.out.open
  obtain ⟨⟨c0, c1, c2, c3, c4⟩, _⟩ := fv_of h1
  have hb := lt_of_block h1
  rw [ha] at c2
  clear h h1 hc h3
  unfold ptrP at *
  go_enter Tryz.func16, Tryz.ntmps16
  go_wp2_with (go_at_call 34; refine (C.out _ HA.out).mono ?_; rintro e w1 ⟨rfl, rfl⟩)
  exact ask_ret2 (x := askTl t.ep) rfl (heap_alloc_new w (.cells #[.int .i64 7, .int .i64 0, .int .i64 t.ep, .int .i64 0, .int .i64 0, .int .i64 0, .string ⟨#[]⟩, .int .i64 0, .slice none 0 0] 37)) rfl rfl rfl ⟨rfl, below_new w _⟩
theorem tp_over (b : Nat) (G : Nat → Prop) (w : World) (t : Tl) (h : TM b G w t) :
    Calls Tryz.prog 18 #[ptrP b] w fun e w' => e = .returned (.tuple #[.int .i64 t.overN, .int .i64 t.overE, .bool t.overB]) ∧ Below w.heap.size w w' := by
  have C := Lib.hid (fun w (h : TM b G w t) => tp_isOver b G w t h)
  have HA := Lib.hid h
  obtain ⟨ao, cap, h1, hc, h3⟩ := HA.out.open
  obtain ⟨⟨c0, c1, c2, c3, c4⟩, _⟩ := fv_of h1
  have hb := lt_of_block h1
  clear h h1 hc h3
  unfold ptrP at *
  unfold Tl.overN Tl.overE Tl.overB
  by_cases ha : t.at_ = 3
  · rw [if_pos ha, if_pos ha, decide_eq_true ha]
    rw [decide_eq_true ha] at C
    clear ha c2
    go_enter Tryz.func18, Tryz.ntmps18
    go_wp2_with (go_at_call 34; refine (C.out _ HA.out).mono ?_; rintro e w1 ⟨rfl, rfl⟩)
    go_quiet (fail)
    go_wp2_with fail
    go_ret3
    exact ⟨rfl, below_drewN (Below.refl _ _) nq⟩
  · rw [if_neg ha, if_neg ha, decide_eq_false ha]
    rw [decide_eq_false ha] at C
    clear ha c2
    go_enter Tryz.func18, Tryz.ntmps18
    go_wp2_with (go_at_call 34; refine (C.out _ HA.out).mono ?_; rintro e w1 ⟨rfl, rfl⟩)
    go_ret3
    exact ⟨rfl, Below.refl _ _⟩
theorem tp_nil_over (w : World) : Calls Tryz.prog 18 #[.pointer none] w fun e w' => e = .returned (.tuple #[.int .i64 0, .int .i64 1, .bool true]) ∧ Below w.heap.size w w' := by
  go_enter Tryz.func18, Tryz.ntmps18
  go_wp2_with fail
  go_ret3
  exact ⟨rfl, Below.refl _ _⟩
set_option maxHeartbeats 2000000 in
theorem tp_P (b : Nat) (G : Nat → Prop) (w : World) (t : Tl) (h : TM b G w t) :
    Calls Tryz.prog 20 #[ptrP b] w fun e w' => ∃ (ao : Option Addr) (cap : Nat), e = .returned (.agg #[.int .i64 t.ep, .slice ao t.L.length cap]) ∧ CL w' ao t.L ∧ Below w.heap.size w w' := by
  have hf := h.ok.2.2
  have HB := Lib.hid (below_new w (.cells #[.int .i64 0, .slice none 0 0] 29))
  have HZ := Lib.hid (heap_alloc_new w (.cells #[.int .i64 0, .slice none 0 0] 29))
  have HA := Lib.hid (h.below HB.out)
  obtain ⟨ao, cap, h1, hc, h3⟩ := HA.out.open
  obtain ⟨⟨c0, c1, c2, c3, c4⟩, _⟩ := fv_of h1
  have hb := lt_of_block h1
  have HC := Lib.hid hc
  have CC := Lib.hid (fun W (hC : CL W ao t.L) => copyO_any t.ep ao cap t.L W hC hf)
  clear h h1 hc h3 hf
  unfold ptrP
  go_enter Tryz.func20, Tryz.ntmps20
  go_wp2_with (go_at_call 31; refine (CC.out _ HC.out).mono ?_; rintro e w3 ⟨v, rfl, hO, hb3⟩; obtain ⟨vo, vc, hv, _⟩ := hO.form; subst hv; have HO := Lib.hid hO; have HB3 := Lib.hid (HB.out.trans (hb3.mono HB.out.size)); have HR := Lib.hid (below_heap hb3 HZ.out); obtain ⟨_, _, g0, g1⟩ := two_cells HR.out; have hb := lt_of_block HR.out; clear hO hb3)
  have hs1 : (w.alloc (.cells #[.int .i64 0, .slice none 0 0] 29)).heap.size = w.heap.size + 1 := by simp
  obtain ⟨ao2, cap2, e2, hcl, _⟩ := ((CG.of HO.out).keep (S := fun k => k ≠ w.heap.size) (((Kept.refl _ w3).setCell (p := ⟨w.heap.size, 0, none⟩) (fun h => h rfl) (.int .i64 t.ep)).setCell (p := ⟨w.heap.size, 1, none⟩) (fun h => h rfl) (.slice vo t.L.length vc)) (fun k hk => by have h1 := hk.1; rw [hs1] at h1; omega)).cl
  injection e2 with q1 q2 q3
  subst q1 q3
  exact proj_ret rfl (two_set1 (two_set0 HR.out _) _) rfl rfl ⟨vo, vc, rfl, hcl, (HB3.out.setCell (p := ⟨w.heap.size, 0, none⟩) (Nat.le_refl _) _).setCell (p := ⟨w.heap.size, 1, none⟩) (Nat.le_refl _) _⟩
theorem tp_nil_P (w : World) : Calls Tryz.prog 20 #[.pointer none] w fun e w' => ∃ (ep : Int) (ao : Option Addr) (cap : Nat), e = .returned (.agg #[.int .i64 ep, .slice ao 0 cap]) ∧ Below w.heap.size w w' := by
  have HR := heap_alloc_new w (.cells #[.int .i64 0, .slice none 0 0] 29)
  go_enter Tryz.func20, Tryz.ntmps20
  go_wp2_with fail
  exact proj_ret rfl HR rfl rfl ⟨0, none, 0, rfl, below_new _ _⟩
theorem tp_nil_ask (w : World) : Calls Tryz.prog 16 #[.pointer none] w fun e w' => e = .returned (.tuple #[askV zeroK, .bool false]) ∧ Below w.heap.size w w' := by
  have C := Lib.hid (fun w => tp_isOver_nil w)
  have HR := heap_alloc_new w (.cells #[.int .i64 0, .int .i64 0, .int .i64 0, .int .i64 0, .int .i64 0, .int .i64 0, .string ⟨#[]⟩, .int .i64 0, .slice none 0 0] 37)
  have HB := Lib.hid (below_new w (.cells #[.int .i64 0, .int .i64 0, .int .i64 0, .int .i64 0, .int .i64 0, .int .i64 0, .string ⟨#[]⟩, .int .i64 0, .slice none 0 0] 37))
  go_enter Tryz.func16, Tryz.ntmps16
  go_wp2_with (go_at_call 34; refine (C.out _).mono ?_; rintro e w1 ⟨rfl, rfl⟩)
  exact ask_ret2 (x := zeroK) rfl HR rfl rfl rfl ⟨rfl, HB.out⟩
theorem tp_nil_hear (x : An) (ao : Option Addr) (cap : Nat) (c : Bool) (w : World) : Calls Tryz.prog 17 #[.pointer none, ansV x ao cap, .bool c] w fun e w' => e = .returned (.tuple #[]) ∧ Below w.heap.size w w' := by
  have C := Lib.hid (fun w => tp_isOver_nil w)
  obtain ⟨xc, xn, xd, xe, xL, xm, xs, xp⟩ := x
  show Calls _ _ #[.pointer none, .agg #[.int .i64 xc, .int .i64 xn, .string xd, .int .i64 xe, .slice ao xL.length cap, .int .i64 xm, .int .i64 xs, .int .i64 xp], .bool c] w _
  have HB := Lib.hid (below_new w (.cells #[.int .i64 xc, .int .i64 xn, .string xd, .int .i64 xe, .slice ao xL.length cap, .int .i64 xm, .int .i64 xs, .int .i64 xp] 33))
  cases c
  all_goals
    go_enter Tryz.func17, Tryz.ntmps17
    go_wp2_with fail
    generalize w.alloc _ = w1 at *
    refine wp_scope_straight ?_
    go_wp2_with (go_at_call 34; refine (C.out _).mono ?_; rintro e w2 ⟨rfl, rfl⟩)
    rw [Exit.noGoto_ret]
    exact bodyPost_ret (results_none rfl _ _ _) rfl ⟨rfl, HB.out⟩
end Go.Proofs.YtchhmfdalghgcaaGreat
namespace Go.Proofs.YtchhmfdalghgcaaGreat
set_option linter.unusedVariables false
open Go.RowKit
set_option maxRecDepth 20000
/-- nine cells of a block are written over -/
theorem over_heap {w : World} {g o : Nat} {cur : Array Value} {t : TypeId} (h : w.heap[g]? = some (.cells cur t (0, 0))) (u0 u1 u2 u3 u4 u5 u6 u7 u8 : Value) :
    ∃ cur2, (World.setCell (World.setCell (World.setCell (World.setCell (World.setCell (World.setCell (World.setCell (World.setCell (World.setCell (w) ⟨g, o, none⟩ u0) ⟨g, o + 1, none⟩ u1) ⟨g, o + 2, none⟩ u2) ⟨g, o + 3, none⟩ u3) ⟨g, o + 4, none⟩ u4) ⟨g, o + 5, none⟩ u5) ⟨g, o + 6, none⟩ u6) ⟨g, o + 7, none⟩ u7) ⟨g, o + 8, none⟩ u8).heap[g]? = some (.cells cur2 t (0, 0)) ∧ cur2.size = cur.size ∧ ∀ j, (j < o ∨ o + 9 ≤ j) → cur2[j]? = cur[j]? := by
  refine ⟨_, heap_setCell_same _ g (o + 8) _ t u8 (heap_setCell_same _ g (o + 7) _ t u7 (heap_setCell_same _ g (o + 6) _ t u6 (heap_setCell_same _ g (o + 5) _ t u5 (heap_setCell_same _ g (o + 4) _ t u4 (heap_setCell_same _ g (o + 3) _ t u3 (heap_setCell_same _ g (o + 2) _ t u2 (heap_setCell_same _ g (o + 1) _ t u1 (heap_setCell_same _ g o _ t u0 h)))))))), by simp, fun j hj => ?_⟩
  rw [Array.getElem?_setIfInBounds_ne (by omega), Array.getElem?_setIfInBounds_ne (by omega), Array.getElem?_setIfInBounds_ne (by omega), Array.getElem?_setIfInBounds_ne (by omega), Array.getElem?_setIfInBounds_ne (by omega), Array.getElem?_setIfInBounds_ne (by omega), Array.getElem?_setIfInBounds_ne (by omega), Array.getElem?_setIfInBounds_ne (by omega), Array.getElem?_setIfInBounds_ne (by omega)]
theorem over_kept (w : World) (g o : Nat) (u0 u1 u2 u3 u4 u5 u6 u7 u8 : Value) : Kept (fun k => k ≠ g) w (World.setCell (World.setCell (World.setCell (World.setCell (World.setCell (World.setCell (World.setCell (World.setCell (World.setCell (w) ⟨g, o, none⟩ u0) ⟨g, o + 1, none⟩ u1) ⟨g, o + 2, none⟩ u2) ⟨g, o + 3, none⟩ u3) ⟨g, o + 4, none⟩ u4) ⟨g, o + 5, none⟩ u5) ⟨g, o + 6, none⟩ u6) ⟨g, o + 7, none⟩ u7) ⟨g, o + 8, none⟩ u8) := ((((((((((Kept.refl _ w).setCell (p := ⟨g, o, none⟩) (fun h => h rfl) u0).setCell (p := ⟨g, o + 1, none⟩) (fun h => h rfl) u1).setCell (p := ⟨g, o + 2, none⟩) (fun h => h rfl) u2).setCell (p := ⟨g, o + 3, none⟩) (fun h => h rfl) u3).setCell (p := ⟨g, o + 4, none⟩) (fun h => h rfl) u4).setCell (p := ⟨g, o + 5, none⟩) (fun h => h rfl) u5).setCell (p := ⟨g, o + 6, none⟩) (fun h => h rfl) u6).setCell (p := ⟨g, o + 7, none⟩) (fun h => h rfl) u7).setCell (p := ⟨g, o + 8, none⟩) (fun h => h rfl) u8)
section
variable {w w' : World} {l : List Ak} {g k : Nat} {cur cur2 : Array Value} {t : TypeId}
/-- what stands ahead of it stays -/
theorem over_head (h3 : cur.toList.take (l.length * 9) = l.flatMap askC) (hk : k < l.length) (he : ∀ j, (j < k * 9 ∨ k * 9 + 9 ≤ j) → cur2[j]? = cur[j]?) : cur2.toList.take (k * 9) = (l.take k).flatMap askC := by
  have e1 : (l.take k).flatMap askC = (l.flatMap askC).take (k * 9) := by
    have h1 : l.flatMap askC = (l.take k).flatMap askC ++ (l.drop k).flatMap askC := by rw [← List.flatMap_append, List.take_append_drop]
    have h2 := ask_rows.flat_len (l.take k)
    rw [List.length_take, Nat.min_eq_left (Nat.le_of_lt hk)] at h2
    rw [h1, ← h2, List.take_left]
  rw [e1, ← h3, List.take_take, Nat.min_eq_left (by omega)]
  apply List.ext_getElem?
  intro j
  rw [List.getElem?_take, List.getElem?_take]
  by_cases hj : j < k * 9
  · rw [if_pos hj, if_pos hj, Array.getElem?_toList, Array.getElem?_toList]
    exact he j (.inl hj)
  · rw [if_neg hj, if_neg hj]
/-- what stands behind it stays -/
theorem over_tail (h : w.heap[g]? = some (.cells cur t (0, 0))) (h2 : w'.heap[g]? = some (.cells cur2 t (0, 0))) (h3 : cur.toList.take (l.length * 9) = l.flatMap askC) (he : ∀ j, (j < k * 9 ∨ k * 9 + 9 ≤ j) → cur2[j]? = cur[j]?) : Row w' (some ⟨g, (k + 1) * 9, none⟩) 9 askC (l.drop (k + 1)) := by
  intro i hi
  obtain ⟨bk, off, e, h1⟩ := (head_row h h3).drop (k + 1) i hi
  cases e
  refine ⟨g, (k + 1) * 9, rfl, fun j v hv => ?_⟩
  have h4 := h1 j v hv
  rw [Nat.zero_add, cell_of h] at h4
  rw [cell_of h2, he _ (.inr (by omega))]
  exact h4
/-- the row's k-th, cell by cell -/
theorem row_at (h : w.heap[g]? = some (.cells cur t (0, 0))) (h3 : cur.toList.take (l.length * 9) = l.flatMap askC) (hk : k < l.length) (j : Nat) (hj : j < 9) : w.cell? ⟨g, k * 9 + j, none⟩ = (askC l[k])[j]? := by
  obtain ⟨bk, off, e, h1⟩ := head_row h h3 k hk
  cases e
  have := h1 j ((askC l[k])[j]'hj) (List.getElem?_eq_getElem hj)
  rw [Nat.zero_add] at this
  rw [this, List.getElem?_eq_getElem hj]
end
section
variable {NG : Nat → (Nat → Prop) → World → Nd → Prop} {Z : List Ak} {b nb : Nat} {G : Nat → Prop} {w : World} {h : Hd}
def zeroQ : Ak := ⟨0, 0, 0, 0, 0, 0, ⟨#[]⟩, 0, [], none, 0⟩
/-- there is no k-th -/
theorem take_nil (k : Int) (w : World) : Calls Tryz.prog 30 #[.pointer none, .int .i64 k] w fun e w' => e = .returned (.tuple #[askV zeroQ, .bool false]) ∧ Below w.heap.size w w' := by
  have HQ := Lib.hid (heap_alloc_new w (.cells #[.int .i64 0, .int .i64 0, .int .i64 0, .int .i64 0, .int .i64 0, .int .i64 0, .string ⟨#[]⟩, .int .i64 0, .slice none 0 0] 37))
  obtain ⟨⟨y0, y1, y2, y3, y4, y5, y6, y7, y8⟩, z0, z1, z2, z3, z4, z5, z6, z7, z8⟩ := nine_of HQ.out
  have hb := below_new w (.cells #[.int .i64 0, .int .i64 0, .int .i64 0, .int .i64 0, .int .i64 0, .int .i64 0, .string ⟨#[]⟩, .int .i64 0, .slice none 0 0] 37)
  go_enter Tryz.func30, Tryz.ntmps30
  go_wp2_with fail
  exact ask_ret2 (x := zeroQ) (c := false) rfl HQ.out rfl rfl rfl ⟨rfl, hb⟩
theorem take_no (b nb : Nat) (G : Nat → Prop) (w : World) (h : Hd) (k : Int) (hh : HMz NG Z b nb G w h) (hk : ¬ (0 ≤ k ∧ k < h.held.length)) :
    Calls Tryz.prog 30 #[.pointer (some ⟨b, 0, none⟩), .int .i64 k] w fun e w' => e = .returned (.tuple #[askV zeroQ, .bool false]) ∧ Below w.heap.size w w' := by
  have HQ := Lib.hid (heap_alloc_new w (.cells #[.int .i64 0, .int .i64 0, .int .i64 0, .int .i64 0, .int .i64 0, .int .i64 0, .string ⟨#[]⟩, .int .i64 0, .slice none 0 0] 37))
  obtain ⟨⟨y0, y1, y2, y3, y4, y5, y6, y7, y8⟩, z0, z1, z2, z3, z4, z5, z6, z7, z8⟩ := nine_of HQ.out
  have HB := Lib.hid (below_new w (.cells #[.int .i64 0, .int .i64 0, .int .i64 0, .int .i64 0, .int .i64 0, .int .i64 0, .string ⟨#[]⟩, .int .i64 0, .slice none 0 0] 37))
  obtain ⟨v, l, hc, hR, hm, _⟩ := hh.cells
  obtain ⟨vo, vc, rfl, _, _, _, _, _⟩ := hR.form
  obtain ⟨c0, c1, _, _⟩ := two_cells hc
  have hb := hh.small
  rw [← hm, List.length_map] at hk
  have hl64 : (l.length : Int) ≤ 64 := by have := hh.1; rw [← hm, List.length_map] at this; omega
  clear hh hc hR hm
  by_cases h0 : k < 0
  · clear hk
    go_enter Tryz.func30, Tryz.ntmps30
    go_wp2_with fail
    exact ask_ret2 (x := zeroQ) (c := false) rfl HQ.out rfl rfl rfl ⟨rfl, HB.out⟩
  · have h1 : (l.length : Int) ≤ k := by omega
    have h2 : 0 ≤ k := by omega
    clear hk h0
    go_enter Tryz.func30, Tryz.ntmps30
    go_wp2_with fail
    exact ask_ret2 (x := zeroQ) (c := false) rfl HQ.out rfl rfl rfl ⟨rfl, HB.out⟩
end
end Go.Proofs.YtchhmfdalghgcaaGreat
namespace Go.Proofs.YtchhmfdalghgcaaGreat
set_option linter.unusedVariables false
open Go.RowKit
theorem askTl_is {e kd un ep pg : Int} {s : ByteArray} (h : askTl e = akN kd un ep pg s) : kd = 7 ∧ un = 0 ∧ ep = e ∧ pg = 0 ∧ s = ⟨#[]⟩ := by
  injection h with h1 h2 h3 h4 h5 h6 h7 h8 h9 h10 h11
  exact ⟨h1.symm, h2.symm, h3.symm, h4.symm, h7.symm⟩
/-- n tokens were told; questions for the tail alone are held -/
structure TkS (h : Hd) (n : Nat) : Prop where
  o : h.n.o = ⟨0, n, true⟩
  held : ∀ a ∈ h.held, a = askTl 0
  few : h.held.length ≤ 64
  used : h.n.l.used.length ≤ 100000
theorem o_tail_done (o : Od) : o.done (askTl 0) = o := by
  unfold Od.done
  rw [if_neg (fun h => absurd h.1 (by decide)), if_neg (fun h => absurd h.1 (by decide))]
theorem n_tail_done (n : Nd) : n.done (askTl 0) = n := by
  unfold Nd.done
  rw [if_neg (by decide), if_pos (by decide), o_tail_done]
  rfl
theorem tail_ans {n : Nd} {k : Nat} (h : n.o = ⟨0, k, true⟩) : n.ans (askTl 0) = anP 0 k noT 0 := by
  unfold Nd.ans
  rw [if_neg (by decide), if_pos (by decide), h]
  unfold Od.ans
  rw [if_neg (by decide), if_pos (by decide), if_neg (fun h => h rfl), if_neg (show ¬ (true = false) by decide), if_pos (by decide)]
theorem next_ansT {n : Nd} {k : Nat} (h : n.o = ⟨0, k, true⟩) (hk : k < 16384) : (n.ans (akN 6 0 0 0 ⟨#[]⟩)).n = k ∧ n.done (akN 6 0 0 0 ⟨#[]⟩) = n.putO ⟨0, (k + 1 : Nat), true⟩ := by
  constructor
  · unfold Nd.ans
    rw [if_neg (by decide), if_pos (by decide), h]
    unfold Od.ans
    rw [if_neg (by decide), if_pos (by decide), if_neg (fun h => h rfl), if_neg (show ¬ (true = false) by decide), if_neg (by decide), if_neg (fun e => by have e2 : (k : Int) = 16384 := e; omega)]
    rfl
  · unfold Nd.done
    rw [if_neg (by decide), if_pos (by decide), h]
    unfold Od.done
    rw [if_neg (fun h => absurd h.1 (by decide)), if_pos ⟨rfl, rfl, rfl, fun e => by have e2 : (k : Int) = 16384 := e; omega⟩]
    rfl
theorem TkS.next {h : Hd} {n : Nat} (H : TkS h n) (hn : n < 16384) : (h.heard (akN 6 0 0 0 ⟨#[]⟩) 0).n = n ∧ TkS (h.asked (akN 6 0 0 0 ⟨#[]⟩) 0) (n + 1) := by
  obtain ⟨a1, a2⟩ := next_ansT H.o hn
  unfold Hd.heard Hd.asked
  rw [if_pos rfl, if_pos (.inl rfl)]
  refine ⟨a1, ?_⟩
  rw [a2]
  exact ⟨rfl, H.held, H.few, H.used⟩
theorem TkS.ask {h : Hd} {n : Nat} (H : TkS h n) (m : Int) : TkS (h.asked (askTl 0) m) n := by
  obtain ⟨f1, f2⟩ := asked_held h (askTl 0) m
  have e : (h.asked (askTl 0) m).n = h.n := by
    unfold Hd.asked
    split
    · exact n_tail_done h.n
    · split <;> rfl
  exact ⟨by rw [e]; exact H.o, fun a ha => (f2 a ha).elim (H.held a) id, f1 H.few, by rw [e]; exact H.used⟩
theorem TkS.does {h : Hd} {n : Nat} (H : TkS h n) : TkS (h.does 0) n := by
  unfold Hd.does
  split
  · next hk =>
    have e : h.held[(0 : Int).toNat]'(by omega) = askTl 0 := H.held _ (List.getElem_mem _)
    rw [e, n_tail_done]
    have hl := lessK_length (l := h.held) (k := (0 : Int).toNat) (by omega)
    have := H.few
    exact ⟨H.o, fun a ha => H.held a (lessK_mem ha), by show (lessK h.held (0 : Int).toNat).length ≤ 64; omega, H.used⟩
  · exact H
/-- where a tail is whose first m questions have fates -/
def SeeP (n m k : Nat) (h : Hd) (t : Tl) : Prop := TkS h n ∧ ((t.at_ = 2 ∧ t.ep = 0 ∧ k ≤ m) ∨ (t.at_ = 3 ∧ t.n = n ∧ t.e = 0 ∧ k ≤ m + 1))
theorem SeeP.step {n m k : Nat} {h : Hd} {t : Tl} (H : SeeP n m k h t) (hn : n ≤ 16384) (h3 : t.at_ ≠ 3) (f : Int) (hf : ¬ k < m → f = 0) : t.ask = askTl 0 ∧ SeeP n m (k + 1) (h.asked t.ask f) (t.hear (h.heard t.ask f) (decide (f = 0))) := by
  obtain ⟨h1, h2⟩ := H
  have h2 : t.at_ = 2 ∧ t.ep = 0 ∧ k ≤ m := h2.elim id (fun e => absurd e.1 h3)
  obtain ⟨a2, e0, hk⟩ := h2
  have ea : t.ask = askTl 0 := by
    unfold Tl.ask
    rw [if_neg (by omega), if_pos a2, e0]
  rw [ea]
  refine ⟨rfl, h1.ask f, ?_⟩
  by_cases f0 : f = 0
  · subst f0
    unfold Hd.heard
    rw [if_pos rfl, tail_ans h1.o]
    refine .inr ?_
    have e : t.hear (anP 0 n noT 0) (decide ((0 : Int) = 0)) = t.ends n 0 := by
      unfold Tl.hear
      rw [if_neg (fun e => e.elim h3 (fun e => e.elim (by decide) (fun e => e.elim (show ¬ (0 : Int) = 45 by decide) (show ¬ (0 : Int) = 47 by decide)))), if_neg (show ¬ (anP 0 n noT 0).code = 40 from show ¬ (0 : Int) = 40 by decide), if_neg (by omega), if_pos (show (anP 0 n noT 0).code = 0 from rfl), if_pos (show 0 ≤ (anP 0 n noT 0).n ∧ (anP 0 n noT 0).n ≤ 16384 from ⟨Int.natCast_nonneg n, by show (n : Int) ≤ 16384; omega⟩)]
      rfl
    rw [e]
    exact ⟨rfl, rfl, rfl, by omega⟩
  · rw [decide_eq_false f0]
    have e : t.hear (h.heard (askTl 0) f) false = t := by
      unfold Tl.hear
      rw [if_pos (.inr (.inl rfl))]
    rw [e]
    refine .inl ⟨a2, e0, ?_⟩
    rcases Nat.lt_or_ge k m with g | g
    · omega
    · exact absurd (hf (by omega)) f0
theorem od_tail_done (o : Od) (e : Int) : o.done (askTl e) = o := by
  unfold Od.done
  rw [if_neg (fun h => absurd h.1 (show ¬ (7 : Int) = 8 by decide)), if_neg (fun h => absurd h.1 (show ¬ (7 : Int) = 6 by decide))]
theorem nd_tail_done (n : Nd) (e : Int) : n.done (askTl e) = n := by
  unfold Nd.done
  rw [if_neg (show ¬ (1 ≤ (askTl e).kind ∧ (askTl e).kind ≤ 5) from fun h => absurd h.2 (show ¬ (7 : Int) ≤ 5 by decide)), if_pos (show 6 ≤ (askTl e).kind ∧ (askTl e).kind ≤ 8 from ⟨of_decide_eq_true rfl, of_decide_eq_true rfl⟩), od_tail_done]
  rfl
theorem nd_tail_ans (n : Nd) (e : Int) : n.ans (askTl e) = (if e ≠ n.o.epoch then anP 40 0 noT n.o.epoch else if n.o.knows = false then anP 47 0 noT n.o.epoch else anP 0 n.o.tail noT n.o.epoch) := by
  unfold Nd.ans
  rw [if_neg (show ¬ (1 ≤ (askTl e).kind ∧ (askTl e).kind ≤ 5) from fun h => absurd h.2 (show ¬ (7 : Int) ≤ 5 by decide)), if_pos (show 6 ≤ (askTl e).kind ∧ (askTl e).kind ≤ 8 from ⟨of_decide_eq_true rfl, of_decide_eq_true rfl⟩)]
  unfold Od.ans
  rw [if_neg (show ¬ (askTl e).kind = 8 from show ¬ (7 : Int) = 8 by decide), if_pos (show (askTl e).kind = 6 ∨ (askTl e).kind = 7 from .inr rfl)]
  show (if e ≠ n.o.epoch then _ else _) = _
  rw [if_pos (show (askTl e).kind = 7 from rfl)]
theorem nd_lay_done (n : Nd) : n.done layK = n ∧ n.ans layK = ⟨0, n.l.n, noL, n.l.ep, n.l.L, n.l.mark, n.l.size, 0⟩ := by
  refine ⟨?_, ?_⟩
  · unfold Nd.done
    rw [if_neg (by decide), if_neg (by decide), if_pos (by decide)]
    have : n.l.done layK = n.l := by
      unfold Ly.done
      rw [if_neg (by decide), if_neg (fun e => absurd e.1 (by decide))]
    rw [this]
    rfl
  · unfold Nd.ans
    rw [if_neg (by decide), if_neg (by decide), if_pos (by decide)]
    unfold Ly.ans
    rw [if_pos (by decide)]
end Go.Proofs.YtchhmfdalghgcaaGreat
