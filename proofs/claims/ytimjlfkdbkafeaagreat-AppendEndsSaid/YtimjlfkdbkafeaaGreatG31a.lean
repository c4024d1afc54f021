/- What the program's append makes of an address that it hears. Conditions: it lies where the call was told; the answer's chains lie there too. (Written by gen/genamp.py.) The program's hand keeps all that the laws of a hand ask: the nodes are the program's own. No conditions. -/
import Derived.Test.YtimjlfkdbkafeaaGreatG30a
import Derived.Test.YtimjlfkdbkafeaaGreatG18b
import Derived.WalkMore
import Derived.ScopeJumps
import Derived.Test.YtimjlfkdbkafeaaGreatG28a
set_option linter.unusedVariables false
namespace Go.Proofs.YtimjlfkdbkafeaaGreat
set_option linter.unusedVariables false
open Go.RowKit
set_option maxRecDepth 20000
/-- a body with labels, of which one jump is taken -/
theorem wp_scope_one {P : Program} {c rest : Code} {a : Act} {w : World} {Q : Exit → Act → World → Prop} (l : Nat) (hf : findLabel c l = some rest)
    (h : c.wp P (Exit.jump l (fun a' w' => rest.wp P (Exit.noGoto Q) a' w') Q) a w) : (Code.scope c).wp P Q a w :=
  wp_scope_jumps l (fun a' w' => rest.wp P (Exit.noGoto Q) a' w') (fun _ _ => 0) hf h (fun a w hj => Code.wp_mono (fun e a w hq => by
    cases e with
    | goto l => exact hq.elim
    | _ => exact hq) hj)
theorem noGoto_normal {a : Act} {w : World} {Q : Exit → Act → World → Prop} : Exit.noGoto Q .normal a w = Q .normal a w := rfl
theorem jump_one {P : Program} {rest : Code} {a : Act} {w : World} {Q : Exit → Act → World → Prop} {l : Nat} (h : rest.wp P (Exit.noGoto Q) a w) : Exit.jump l (fun a' w' => rest.wp P (Exit.noGoto Q) a' w') Q (.goto l) a w := ⟨rfl, h⟩
theorem tok_keep {W : World} {b g : Nat} {t u : TypeId} {v0 v1 v2 v3 v4 v5 v6 v7 v8 x0 x1 x2 x3 x4 x5 x6 x7 : Value} {C : Prop} (h : C ∧ W.heap[b]? = some (.cells #[v0, v1, v2, v3, v4, v5, v6, v7, v8] t (0, 0)) ∧ W.heap[g]? = some (.cells #[x0, x1, x2, x3, x4, x5, x6, x7] u (0, 0))) :
    W.cell? ⟨b, 0, none⟩ = some v0 ∧ W.cell? ⟨b, 1, none⟩ = some v1 ∧ W.cell? ⟨g, 1, none⟩ = some x1 := ⟨cell_of h.2.1 0, cell_of h.2.1 1, cell_of h.2.2 1⟩
theorem zero_place {w1 w2 : World} (hb2 : Below (w1.alloc (.cells #[.int .i64 0, .int .i64 0] 49)).drew.heap.size (w1.alloc (.cells #[.int .i64 0, .int .i64 0] 49)).drew w2) : w2.cell? ⟨w1.heap.size, 0, none⟩ = some (.int .i64 0) ∧ w2.cell? ⟨w1.heap.size, 1, none⟩ = some (.int .i64 0) ∧ w2.frozen? ⟨w1.heap.size, 0, none⟩ = false ∧ w2.frozen? ⟨w1.heap.size, 1, none⟩ = false ∧ w1.heap.size < w2.heap.size := by
  have h : w2.heap[w1.heap.size]? = _ := below_heap hb2 (heap_alloc_new w1 (.cells #[.int .i64 0, .int .i64 0] 49))
  obtain ⟨p0, p1, g0, g1⟩ := two_cells h
  exact ⟨p0, p1, g0, g1, lt_of_block h⟩
set_option maxHeartbeats 2000000 in
theorem tok_yes (b : Nat) (G : Nat → Prop) (w : World) (q : Qa) (xc xn : Int) (xd : ByteArray) (xe : Int) (xL : List (List Int)) (xm xs xy : Int) (xo : Option Addr) (xp : Nat) (h : AQ b G w q) (ha : q.at_ = 2) (hf : fewL q.L) (ho : ofB q.ep q.L xn = true) :
    Calls Tryz.prog 40 #[ptrP b, .agg #[.int .i64 0, .int .i64 xn, .string xd, .int .i64 xe, .slice xo xL.length xp, .int .i64 xm, .int .i64 xs, .int .i64 xy]] w fun e w' => e = .returned (.tuple #[]) ∧ Leaves (AQ b) G w w' (q.told xn) := by
  obtain ⟨HG, HB, HX, HA, ⟨x0, x1, x2, x3, x4, x5, x6, x7⟩, ao, cap, ⟨c0, c1, c2, c3, c4, c5, c6, c7, c8⟩, ⟨f0, f1, f2, f3, f4, f5, f6, f7, f8⟩, hb, HC1, H1, H3⟩ := ans_start h 0 xn xd xe xo xL.length xp xm xs xy rfl
  have CO := Lib.hid (fun W (hC : CL W ao q.L) => pOf_any q.ep ao cap q.L xn W hC hf)
  unfold ofV at CO
  rw [ho] at CO
  generalize ofC q.ep q.L xn = oc at *
  generalize ofP q.ep q.L xn = op at *
  rw [ha] at c3
  clear h hf ho
  unfold ptrP at *
  go_enter Tryz.func40, Tryz.ntmps40
  go_wp2_with fail
  generalize w.alloc _ = w1 at *
  refine wp_scope_one 0 rfl ?_
  generalize hQ : Exit.jump _ _ _ = QJ
  go_wp2_with fail
  have HK := Lib.hid (fun W (hb : Below w1.heap.size w1 W) => And.intro (HC1.out.below hb) (And.intro (below_heap hb H1.out) (below_heap hb HX.out)))
  have hs1 : w.heap.size < w1.heap.size := lt_of_block HX.out
  go_region_held3 (fun W => W.cell? ⟨b, 0, none⟩ = some (.int .i64 q.ep) ∧ W.cell? ⟨b, 1, none⟩ = some (.slice ao q.L.length cap) ∧ W.cell? ⟨w.heap.size, 1, none⟩ = some (.int .i64 xn))
    (first | exact ⟨c0, c1, x1⟩ | assumption | exact tok_keep HW2.out | exact tok_keep (HK.out _ ((HB2.out.setCell (by simp) _).setCell (by simp) _)) | exact tok_keep (HK.out _ (HB2.out.alloc HB2.out.size _)) | exact tok_keep (HK.out _ (below_new w1 _).drew) | exact tok_keep (HK.out _ (below_new w1 _)) | exact tok_keep (HK.out _ (Below.refl _ w1).drew))
    (first | (go_at_call 60; refine (CO.out _ (HK.out _ (by first | exact (Below.refl _ _).drew | exact (below_new _ _).drew)).1).mono ?_; rintro e w2 ⟨rfl, hb2⟩; have HB2 := Lib.hid (below_on (w1 := w1) hb2 (by first | exact (Below.refl _ _).drew | exact (below_new _ _).drew)); have HW2 := Lib.hid (HK.out _ HB2.out); first | (have hZ := zero_place (w1 := w1) hb2; obtain ⟨p0, p1, g0, g1, hpl⟩ := hZ) | skip))
  all_goals
    first
      | (have HB3 := Lib.hid ((HB2.out.setCell (p := ⟨w1.heap.size, 0, none⟩) (Nat.le_refl _) (.int .i64 oc)).setCell (p := ⟨w1.heap.size, 1, none⟩) (Nat.le_refl _) (.int .i64 op)); clear p0 p1 g0 g1; generalize (w2.setCell _ _).setCell _ _ = w3 at *)
      | (have HB3 := Lib.hid (HB2.out.alloc HB2.out.size (.cells #[.int .i64 oc, .int .i64 op] 49)); generalize w2.alloc _ = w3 at *)
    obtain ⟨HB4, HA3, HX3, ⟨x0, x1, x2, x3, x4, x5, x6, x7⟩, ao3, cap3, ⟨d0, d1, d2, d3, d4, d5, d6, d7, d8⟩, ⟨f0, f1, f2, f3, f4, f5, f6, f7, f8⟩, hb3, R1, R3⟩ := ans_again HB HA HX HB3.out
    clear c0 c1 c2 c3 c4 c5 c6 c7 c8
    go_wp2_with fail
    go_step3
    show QJ (.goto 0) _ _
    rw [← hQ]
    refine jump_one ?_
    go_wp2_with fail
    rw [Exit.noGoto_ret]
    exact bodyPost_ret (results_none rfl _ _ _) rfl ⟨rfl, (R3.out _ (q.told xn) ((((Kept.refl _ w3).setCell (p := ⟨b, 5, none⟩) (fun h => h rfl) _).setCell (p := ⟨b, 6, none⟩) (fun h => h rfl) _).setCell (p := ⟨b, 3, none⟩) (fun h => h rfl) _) rfl (nset3 (nset6 (nset5 R1.out _) _) _)).ahead HG.out HB4.out⟩
set_option maxHeartbeats 2000000 in
theorem tok_full_ty (b : Nat) (G : Nat → Prop) (w : World) (q : Qa) (xc xn : Int) (xd : ByteArray) (xe : Int) (xL : List (List Int)) (xm xs xy : Int) (xo : Option Addr) (xp : Nat) (h : AQ b G w q) (ha : q.at_ = 2) (hf : fewL q.L) (ho : ofB q.ep q.L xn = true) (hm : q.may = true) :
    Calls Tryz.prog 40 #[ptrP b, .agg #[.int .i64 44, .int .i64 xn, .string xd, .int .i64 xe, .slice xo xL.length xp, .int .i64 xm, .int .i64 xs, .int .i64 xy]] w fun e w' => e = .returned (.tuple #[]) ∧ Leaves (AQ b) G w w' (q.ends 0 69) := by
  obtain ⟨HG, HB, HX, HA, ⟨x0, x1, x2, x3, x4, x5, x6, x7⟩, ao, cap, ⟨c0, c1, c2, c3, c4, c5, c6, c7, c8⟩, ⟨f0, f1, f2, f3, f4, f5, f6, f7, f8⟩, hb, HC1, H1, H3⟩ := ans_start h 44 xn xd xe xo xL.length xp xm xs xy rfl
  have CO := Lib.hid (fun W (hC : CL W ao q.L) => pOf_any q.ep ao cap q.L xn W hC hf)
  unfold ofV at CO
  rw [ho] at CO
  generalize ofC q.ep q.L xn = oc at *
  generalize ofP q.ep q.L xn = op at *
  rw [ha] at c3
  clear h hf ho
  unfold ptrP at *
  go_enter Tryz.func40, Tryz.ntmps40
  go_wp2_with fail
  generalize w.alloc _ = w1 at *
  refine wp_scope_one 1 rfl ?_
  generalize hQ : Exit.jump _ _ _ = QJ
  go_wp2_with fail
  have HK := Lib.hid (fun W (hb : Below w1.heap.size w1 W) => And.intro (HC1.out.below hb) (And.intro (below_heap hb H1.out) (below_heap hb HX.out)))
  have hs1 : w.heap.size < w1.heap.size := lt_of_block HX.out
  go_region_held3 (fun W => W.cell? ⟨b, 0, none⟩ = some (.int .i64 q.ep) ∧ W.cell? ⟨b, 1, none⟩ = some (.slice ao q.L.length cap) ∧ W.cell? ⟨w.heap.size, 1, none⟩ = some (.int .i64 xn))
    (first | exact ⟨c0, c1, x1⟩ | assumption | exact tok_keep HW2.out | exact tok_keep (HK.out _ ((HB2.out.setCell (by simp) _).setCell (by simp) _)) | exact tok_keep (HK.out _ (HB2.out.alloc HB2.out.size _)) | exact tok_keep (HK.out _ (below_new w1 _).drew) | exact tok_keep (HK.out _ (below_new w1 _)) | exact tok_keep (HK.out _ (Below.refl _ w1).drew))
    (first | (go_at_call 60; refine (CO.out _ (HK.out _ (by first | exact (Below.refl _ _).drew | exact (below_new _ _).drew)).1).mono ?_; rintro e w2 ⟨rfl, hb2⟩; have HB2 := Lib.hid (below_on (w1 := w1) hb2 (by first | exact (Below.refl _ _).drew | exact (below_new _ _).drew)); have HW2 := Lib.hid (HK.out _ HB2.out); first | (have hZ := zero_place (w1 := w1) hb2; obtain ⟨p0, p1, g0, g1, hpl⟩ := hZ) | skip))
  all_goals
    first
      | (have HB3 := Lib.hid ((HB2.out.setCell (p := ⟨w1.heap.size, 0, none⟩) (Nat.le_refl _) (.int .i64 oc)).setCell (p := ⟨w1.heap.size, 1, none⟩) (Nat.le_refl _) (.int .i64 op)); clear p0 p1 g0 g1; generalize (w2.setCell _ _).setCell _ _ = w3 at *)
      | (have HB3 := Lib.hid (HB2.out.alloc HB2.out.size (.cells #[.int .i64 oc, .int .i64 op] 49)); generalize w2.alloc _ = w3 at *)
    obtain ⟨HB4, HA3, HX3, ⟨x0, x1, x2, x3, x4, x5, x6, x7⟩, ao3, cap3, ⟨d0, d1, d2, d3, d4, d5, d6, d7, d8⟩, ⟨f0, f1, f2, f3, f4, f5, f6, f7, f8⟩, hb3, R1, R3⟩ := ans_again HB HA HX HB3.out
    clear c0 c1 c2 c3 c4 c5 c6 c7 c8
    rw [hm] at d7
    go_wp2_with fail
    go_step3
    show QJ (.goto 1) _ _
    rw [← hQ]
    refine jump_one ?_
    go_wp2_with fail
    go_step3
    go_wp2_with (go_at_call 34; refine (ap_end b _ _ q 0 69 HA3.out).mono ?_; rintro e w9 ⟨rfl, hl⟩; have HL := Lib.hid hl; clear hl)
    rw [noGoto_normal]
    go_end0
    exact ⟨rfl, HL.out.ahead HG.out HB4.out⟩
set_option maxHeartbeats 2000000 in
theorem tok_full_fy (b : Nat) (G : Nat → Prop) (w : World) (q : Qa) (xc xn : Int) (xd : ByteArray) (xe : Int) (xL : List (List Int)) (xm xs xy : Int) (xo : Option Addr) (xp : Nat) (h : AQ b G w q) (ha : q.at_ = 2) (hf : fewL q.L) (ho : ofB q.ep q.L xn = true) (hm : q.may = false) :
    Calls Tryz.prog 40 #[ptrP b, .agg #[.int .i64 44, .int .i64 xn, .string xd, .int .i64 xe, .slice xo xL.length xp, .int .i64 xm, .int .i64 xs, .int .i64 xy]] w fun e w' => e = .returned (.tuple #[]) ∧ Leaves (AQ b) G w w' (q.ends 0 44) := by
  obtain ⟨HG, HB, HX, HA, ⟨x0, x1, x2, x3, x4, x5, x6, x7⟩, ao, cap, ⟨c0, c1, c2, c3, c4, c5, c6, c7, c8⟩, ⟨f0, f1, f2, f3, f4, f5, f6, f7, f8⟩, hb, HC1, H1, H3⟩ := ans_start h 44 xn xd xe xo xL.length xp xm xs xy rfl
  have CO := Lib.hid (fun W (hC : CL W ao q.L) => pOf_any q.ep ao cap q.L xn W hC hf)
  unfold ofV at CO
  rw [ho] at CO
  generalize ofC q.ep q.L xn = oc at *
  generalize ofP q.ep q.L xn = op at *
  rw [ha] at c3
  clear h hf ho
  unfold ptrP at *
  go_enter Tryz.func40, Tryz.ntmps40
  go_wp2_with fail
  generalize w.alloc _ = w1 at *
  refine wp_scope_one 1 rfl ?_
  generalize hQ : Exit.jump _ _ _ = QJ
  go_wp2_with fail
  have HK := Lib.hid (fun W (hb : Below w1.heap.size w1 W) => And.intro (HC1.out.below hb) (And.intro (below_heap hb H1.out) (below_heap hb HX.out)))
  have hs1 : w.heap.size < w1.heap.size := lt_of_block HX.out
  go_region_held3 (fun W => W.cell? ⟨b, 0, none⟩ = some (.int .i64 q.ep) ∧ W.cell? ⟨b, 1, none⟩ = some (.slice ao q.L.length cap) ∧ W.cell? ⟨w.heap.size, 1, none⟩ = some (.int .i64 xn))
    (first | exact ⟨c0, c1, x1⟩ | assumption | exact tok_keep HW2.out | exact tok_keep (HK.out _ ((HB2.out.setCell (by simp) _).setCell (by simp) _)) | exact tok_keep (HK.out _ (HB2.out.alloc HB2.out.size _)) | exact tok_keep (HK.out _ (below_new w1 _).drew) | exact tok_keep (HK.out _ (below_new w1 _)) | exact tok_keep (HK.out _ (Below.refl _ w1).drew))
    (first | (go_at_call 60; refine (CO.out _ (HK.out _ (by first | exact (Below.refl _ _).drew | exact (below_new _ _).drew)).1).mono ?_; rintro e w2 ⟨rfl, hb2⟩; have HB2 := Lib.hid (below_on (w1 := w1) hb2 (by first | exact (Below.refl _ _).drew | exact (below_new _ _).drew)); have HW2 := Lib.hid (HK.out _ HB2.out); first | (have hZ := zero_place (w1 := w1) hb2; obtain ⟨p0, p1, g0, g1, hpl⟩ := hZ) | skip))
  all_goals
    first
      | (have HB3 := Lib.hid ((HB2.out.setCell (p := ⟨w1.heap.size, 0, none⟩) (Nat.le_refl _) (.int .i64 oc)).setCell (p := ⟨w1.heap.size, 1, none⟩) (Nat.le_refl _) (.int .i64 op)); clear p0 p1 g0 g1; generalize (w2.setCell _ _).setCell _ _ = w3 at *)
      | (have HB3 := Lib.hid (HB2.out.alloc HB2.out.size (.cells #[.int .i64 oc, .int .i64 op] 49)); generalize w2.alloc _ = w3 at *)
    obtain ⟨HB4, HA3, HX3, ⟨x0, x1, x2, x3, x4, x5, x6, x7⟩, ao3, cap3, ⟨d0, d1, d2, d3, d4, d5, d6, d7, d8⟩, ⟨f0, f1, f2, f3, f4, f5, f6, f7, f8⟩, hb3, R1, R3⟩ := ans_again HB HA HX HB3.out
    clear c0 c1 c2 c3 c4 c5 c6 c7 c8
    rw [hm] at d7
    go_wp2_with fail
    go_step3
    show QJ (.goto 1) _ _
    rw [← hQ]
    refine jump_one ?_
    go_wp2_with fail
    go_step3
    go_wp2_with (go_at_call 34; refine (ap_end b _ _ q 0 44 HA3.out).mono ?_; rintro e w9 ⟨rfl, hl⟩; have HL := Lib.hid hl; clear hl)
    rw [noGoto_normal]
    go_end0
    exact ⟨rfl, HL.out.ahead HG.out HB4.out⟩
set_option maxHeartbeats 2000000 in
theorem tok_full_tn (b : Nat) (G : Nat → Prop) (w : World) (q : Qa) (xc xn : Int) (xd : ByteArray) (xe : Int) (xL : List (List Int)) (xm xs xy : Int) (xo : Option Addr) (xp : Nat) (h : AQ b G w q) (ha : q.at_ = 2) (hf : fewL q.L) (ho : ofB q.ep q.L xn = false) (hm : q.may = true) :
    Calls Tryz.prog 40 #[ptrP b, .agg #[.int .i64 44, .int .i64 xn, .string xd, .int .i64 xe, .slice xo xL.length xp, .int .i64 xm, .int .i64 xs, .int .i64 xy]] w fun e w' => e = .returned (.tuple #[]) ∧ Leaves (AQ b) G w w' (q.ends 0 69) := by
  obtain ⟨HG, HB, HX, HA, ⟨x0, x1, x2, x3, x4, x5, x6, x7⟩, ao, cap, ⟨c0, c1, c2, c3, c4, c5, c6, c7, c8⟩, ⟨f0, f1, f2, f3, f4, f5, f6, f7, f8⟩, hb, HC1, H1, H3⟩ := ans_start h 44 xn xd xe xo xL.length xp xm xs xy rfl
  have CO := Lib.hid (fun W (hC : CL W ao q.L) => pOf_any q.ep ao cap q.L xn W hC hf)
  unfold ofV at CO
  rw [ho] at CO
  generalize ofC q.ep q.L xn = oc at *
  generalize ofP q.ep q.L xn = op at *
  rw [ha] at c3
  clear h hf ho
  unfold ptrP at *
  go_enter Tryz.func40, Tryz.ntmps40
  go_wp2_with fail
  generalize w.alloc _ = w1 at *
  refine wp_scope_one 1 rfl ?_
  generalize hQ : Exit.jump _ _ _ = QJ
  go_wp2_with fail
  have HK := Lib.hid (fun W (hb : Below w1.heap.size w1 W) => And.intro (HC1.out.below hb) (And.intro (below_heap hb H1.out) (below_heap hb HX.out)))
  have hs1 : w.heap.size < w1.heap.size := lt_of_block HX.out
  go_region_held3 (fun W => W.cell? ⟨b, 0, none⟩ = some (.int .i64 q.ep) ∧ W.cell? ⟨b, 1, none⟩ = some (.slice ao q.L.length cap) ∧ W.cell? ⟨w.heap.size, 1, none⟩ = some (.int .i64 xn))
    (first | exact ⟨c0, c1, x1⟩ | assumption | exact tok_keep HW2.out | exact tok_keep (HK.out _ ((HB2.out.setCell (by simp) _).setCell (by simp) _)) | exact tok_keep (HK.out _ (HB2.out.alloc HB2.out.size _)) | exact tok_keep (HK.out _ (below_new w1 _).drew) | exact tok_keep (HK.out _ (below_new w1 _)) | exact tok_keep (HK.out _ (Below.refl _ w1).drew))
    (first | (go_at_call 60; refine (CO.out _ (HK.out _ (by first | exact (Below.refl _ _).drew | exact (below_new _ _).drew)).1).mono ?_; rintro e w2 ⟨rfl, hb2⟩; have HB2 := Lib.hid (below_on (w1 := w1) hb2 (by first | exact (Below.refl _ _).drew | exact (below_new _ _).drew)); have HW2 := Lib.hid (HK.out _ HB2.out); first | (have hZ := zero_place (w1 := w1) hb2; obtain ⟨p0, p1, g0, g1, hpl⟩ := hZ) | skip))
  all_goals
    first
      | (have HB3 := Lib.hid ((HB2.out.setCell (p := ⟨w1.heap.size, 0, none⟩) (Nat.le_refl _) (.int .i64 oc)).setCell (p := ⟨w1.heap.size, 1, none⟩) (Nat.le_refl _) (.int .i64 op)); clear p0 p1 g0 g1; generalize (w2.setCell _ _).setCell _ _ = w3 at *)
      | (have HB3 := Lib.hid (HB2.out.alloc HB2.out.size (.cells #[.int .i64 oc, .int .i64 op] 49)); generalize w2.alloc _ = w3 at *)
    obtain ⟨HB4, HA3, HX3, ⟨x0, x1, x2, x3, x4, x5, x6, x7⟩, ao3, cap3, ⟨d0, d1, d2, d3, d4, d5, d6, d7, d8⟩, ⟨f0, f1, f2, f3, f4, f5, f6, f7, f8⟩, hb3, R1, R3⟩ := ans_again HB HA HX HB3.out
    clear c0 c1 c2 c3 c4 c5 c6 c7 c8
    rw [hm] at d7
    go_wp2_with fail
    go_step3
    show QJ (.goto 1) _ _
    rw [← hQ]
    refine jump_one ?_
    go_wp2_with fail
    go_step3
    go_wp2_with (go_at_call 34; refine (ap_end b _ _ q 0 69 HA3.out).mono ?_; rintro e w9 ⟨rfl, hl⟩; have HL := Lib.hid hl; clear hl)
    rw [noGoto_normal]
    go_end0
    exact ⟨rfl, HL.out.ahead HG.out HB4.out⟩
set_option maxHeartbeats 2000000 in
theorem tok_full_fn (b : Nat) (G : Nat → Prop) (w : World) (q : Qa) (xc xn : Int) (xd : ByteArray) (xe : Int) (xL : List (List Int)) (xm xs xy : Int) (xo : Option Addr) (xp : Nat) (h : AQ b G w q) (ha : q.at_ = 2) (hf : fewL q.L) (ho : ofB q.ep q.L xn = false) (hm : q.may = false) :
    Calls Tryz.prog 40 #[ptrP b, .agg #[.int .i64 44, .int .i64 xn, .string xd, .int .i64 xe, .slice xo xL.length xp, .int .i64 xm, .int .i64 xs, .int .i64 xy]] w fun e w' => e = .returned (.tuple #[]) ∧ Leaves (AQ b) G w w' (q.ends 0 44) := by
  obtain ⟨HG, HB, HX, HA, ⟨x0, x1, x2, x3, x4, x5, x6, x7⟩, ao, cap, ⟨c0, c1, c2, c3, c4, c5, c6, c7, c8⟩, ⟨f0, f1, f2, f3, f4, f5, f6, f7, f8⟩, hb, HC1, H1, H3⟩ := ans_start h 44 xn xd xe xo xL.length xp xm xs xy rfl
  have CO := Lib.hid (fun W (hC : CL W ao q.L) => pOf_any q.ep ao cap q.L xn W hC hf)
  unfold ofV at CO
  rw [ho] at CO
  generalize ofC q.ep q.L xn = oc at *
  generalize ofP q.ep q.L xn = op at *
  rw [ha] at c3
  clear h hf ho
  unfold ptrP at *
  go_enter Tryz.func40, Tryz.ntmps40
  go_wp2_with fail
  generalize w.alloc _ = w1 at *
  refine wp_scope_one 1 rfl ?_
  generalize hQ : Exit.jump _ _ _ = QJ
  go_wp2_with fail
  have HK := Lib.hid (fun W (hb : Below w1.heap.size w1 W) => And.intro (HC1.out.below hb) (And.intro (below_heap hb H1.out) (below_heap hb HX.out)))
  have hs1 : w.heap.size < w1.heap.size := lt_of_block HX.out
  go_region_held3 (fun W => W.cell? ⟨b, 0, none⟩ = some (.int .i64 q.ep) ∧ W.cell? ⟨b, 1, none⟩ = some (.slice ao q.L.length cap) ∧ W.cell? ⟨w.heap.size, 1, none⟩ = some (.int .i64 xn))
    (first | exact ⟨c0, c1, x1⟩ | assumption | exact tok_keep HW2.out | exact tok_keep (HK.out _ ((HB2.out.setCell (by simp) _).setCell (by simp) _)) | exact tok_keep (HK.out _ (HB2.out.alloc HB2.out.size _)) | exact tok_keep (HK.out _ (below_new w1 _).drew) | exact tok_keep (HK.out _ (below_new w1 _)) | exact tok_keep (HK.out _ (Below.refl _ w1).drew))
    (first | (go_at_call 60; refine (CO.out _ (HK.out _ (by first | exact (Below.refl _ _).drew | exact (below_new _ _).drew)).1).mono ?_; rintro e w2 ⟨rfl, hb2⟩; have HB2 := Lib.hid (below_on (w1 := w1) hb2 (by first | exact (Below.refl _ _).drew | exact (below_new _ _).drew)); have HW2 := Lib.hid (HK.out _ HB2.out); first | (have hZ := zero_place (w1 := w1) hb2; obtain ⟨p0, p1, g0, g1, hpl⟩ := hZ) | skip))
  all_goals
    first
      | (have HB3 := Lib.hid ((HB2.out.setCell (p := ⟨w1.heap.size, 0, none⟩) (Nat.le_refl _) (.int .i64 oc)).setCell (p := ⟨w1.heap.size, 1, none⟩) (Nat.le_refl _) (.int .i64 op)); clear p0 p1 g0 g1; generalize (w2.setCell _ _).setCell _ _ = w3 at *)
      | (have HB3 := Lib.hid (HB2.out.alloc HB2.out.size (.cells #[.int .i64 oc, .int .i64 op] 49)); generalize w2.alloc _ = w3 at *)
    obtain ⟨HB4, HA3, HX3, ⟨x0, x1, x2, x3, x4, x5, x6, x7⟩, ao3, cap3, ⟨d0, d1, d2, d3, d4, d5, d6, d7, d8⟩, ⟨f0, f1, f2, f3, f4, f5, f6, f7, f8⟩, hb3, R1, R3⟩ := ans_again HB HA HX HB3.out
    clear c0 c1 c2 c3 c4 c5 c6 c7 c8
    rw [hm] at d7
    go_wp2_with fail
    go_step3
    show QJ (.goto 1) _ _
    rw [← hQ]
    refine jump_one ?_
    go_wp2_with fail
    go_step3
    go_wp2_with (go_at_call 34; refine (ap_end b _ _ q 0 44 HA3.out).mono ?_; rintro e w9 ⟨rfl, hl⟩; have HL := Lib.hid hl; clear hl)
    rw [noGoto_normal]
    go_end0
    exact ⟨rfl, HL.out.ahead HG.out HB4.out⟩
set_option maxHeartbeats 2000000 in
theorem tok_again_y (b : Nat) (G : Nat → Prop) (w : World) (q : Qa) (xc xn : Int) (xd : ByteArray) (xe : Int) (xL : List (List Int)) (xm xs xy : Int) (xo : Option Addr) (xp : Nat) (h : AQ b G w q) (ha : q.at_ = 2) (hf : fewL q.L) (ho : ofB q.ep q.L xn = true) (n0 : ¬ xc = 0) (n44 : ¬ xc = 44) :
    Calls Tryz.prog 40 #[ptrP b, .agg #[.int .i64 xc, .int .i64 xn, .string xd, .int .i64 xe, .slice xo xL.length xp, .int .i64 xm, .int .i64 xs, .int .i64 xy]] w fun e w' => e = .returned (.tuple #[]) ∧ Leaves (AQ b) G w w' (q.to 2) := by
  obtain ⟨HG, HB, HX, HA, ⟨x0, x1, x2, x3, x4, x5, x6, x7⟩, ao, cap, ⟨c0, c1, c2, c3, c4, c5, c6, c7, c8⟩, ⟨f0, f1, f2, f3, f4, f5, f6, f7, f8⟩, hb, HC1, H1, H3⟩ := ans_start h xc xn xd xe xo xL.length xp xm xs xy rfl
  have CO := Lib.hid (fun W (hC : CL W ao q.L) => pOf_any q.ep ao cap q.L xn W hC hf)
  unfold ofV at CO
  rw [ho] at CO
  generalize ofC q.ep q.L xn = oc at *
  generalize ofP q.ep q.L xn = op at *
  rw [ha] at c3
  have e0 : (xc == 0) = false := by simpa using n0
  have e44 : (xc == 44) = false := by simpa using n44
  clear h hf ho
  unfold ptrP at *
  go_enter Tryz.func40, Tryz.ntmps40
  go_wp2_with fail
  generalize w.alloc _ = w1 at *
  refine wp_scope_one 2 rfl ?_
  generalize hQ : Exit.jump _ _ _ = QJ
  go_wp2_with fail
  have HK := Lib.hid (fun W (hb : Below w1.heap.size w1 W) => And.intro (HC1.out.below hb) (And.intro (below_heap hb H1.out) (below_heap hb HX.out)))
  have hs1 : w.heap.size < w1.heap.size := lt_of_block HX.out
  go_region_held3 (fun W => W.cell? ⟨b, 0, none⟩ = some (.int .i64 q.ep) ∧ W.cell? ⟨b, 1, none⟩ = some (.slice ao q.L.length cap) ∧ W.cell? ⟨w.heap.size, 1, none⟩ = some (.int .i64 xn))
    (first | exact ⟨c0, c1, x1⟩ | assumption | exact tok_keep HW2.out | exact tok_keep (HK.out _ ((HB2.out.setCell (by simp) _).setCell (by simp) _)) | exact tok_keep (HK.out _ (HB2.out.alloc HB2.out.size _)) | exact tok_keep (HK.out _ (below_new w1 _).drew) | exact tok_keep (HK.out _ (below_new w1 _)) | exact tok_keep (HK.out _ (Below.refl _ w1).drew))
    (first | (go_at_call 60; refine (CO.out _ (HK.out _ (by first | exact (Below.refl _ _).drew | exact (below_new _ _).drew)).1).mono ?_; rintro e w2 ⟨rfl, hb2⟩; have HB2 := Lib.hid (below_on (w1 := w1) hb2 (by first | exact (Below.refl _ _).drew | exact (below_new _ _).drew)); have HW2 := Lib.hid (HK.out _ HB2.out); first | (have hZ := zero_place (w1 := w1) hb2; obtain ⟨p0, p1, g0, g1, hpl⟩ := hZ) | skip))
  all_goals
    first
      | (have HB3 := Lib.hid ((HB2.out.setCell (p := ⟨w1.heap.size, 0, none⟩) (Nat.le_refl _) (.int .i64 oc)).setCell (p := ⟨w1.heap.size, 1, none⟩) (Nat.le_refl _) (.int .i64 op)); clear p0 p1 g0 g1; generalize (w2.setCell _ _).setCell _ _ = w3 at *)
      | (have HB3 := Lib.hid (HB2.out.alloc HB2.out.size (.cells #[.int .i64 oc, .int .i64 op] 49)); generalize w2.alloc _ = w3 at *)
    obtain ⟨HB4, HA3, HX3, ⟨x0, x1, x2, x3, x4, x5, x6, x7⟩, ao3, cap3, ⟨d0, d1, d2, d3, d4, d5, d6, d7, d8⟩, ⟨f0, f1, f2, f3, f4, f5, f6, f7, f8⟩, hb3, R1, R3⟩ := ans_again HB HA HX HB3.out
    clear c0 c1 c2 c3 c4 c5 c6 c7 c8
    go_wp2_with fail
    go_step3
    show QJ (.goto 2) _ _
    rw [← hQ]
    refine jump_one ?_
    go_wp2_with fail
    rw [Exit.noGoto_ret]
    exact bodyPost_ret (results_none rfl _ _ _) rfl ⟨rfl, (R3.out _ (q.to 2) ((Kept.refl _ w3).setCell (p := ⟨b, 3, none⟩) (fun h => h rfl) _) rfl (nset3 R1.out _)).ahead HG.out HB4.out⟩
set_option maxHeartbeats 2000000 in
theorem tok_again_n (b : Nat) (G : Nat → Prop) (w : World) (q : Qa) (xc xn : Int) (xd : ByteArray) (xe : Int) (xL : List (List Int)) (xm xs xy : Int) (xo : Option Addr) (xp : Nat) (h : AQ b G w q) (ha : q.at_ = 2) (hf : fewL q.L) (ho : ofB q.ep q.L xn = false) (n44 : ¬ xc = 44) :
    Calls Tryz.prog 40 #[ptrP b, .agg #[.int .i64 xc, .int .i64 xn, .string xd, .int .i64 xe, .slice xo xL.length xp, .int .i64 xm, .int .i64 xs, .int .i64 xy]] w fun e w' => e = .returned (.tuple #[]) ∧ Leaves (AQ b) G w w' (q.to 2) := by
  obtain ⟨HG, HB, HX, HA, ⟨x0, x1, x2, x3, x4, x5, x6, x7⟩, ao, cap, ⟨c0, c1, c2, c3, c4, c5, c6, c7, c8⟩, ⟨f0, f1, f2, f3, f4, f5, f6, f7, f8⟩, hb, HC1, H1, H3⟩ := ans_start h xc xn xd xe xo xL.length xp xm xs xy rfl
  have CO := Lib.hid (fun W (hC : CL W ao q.L) => pOf_any q.ep ao cap q.L xn W hC hf)
  unfold ofV at CO
  rw [ho] at CO
  generalize ofC q.ep q.L xn = oc at *
  generalize ofP q.ep q.L xn = op at *
  rw [ha] at c3
  have e44 : (xc == 44) = false := by simpa using n44
  clear h hf ho
  unfold ptrP at *
  go_enter Tryz.func40, Tryz.ntmps40
  go_wp2_with fail
  generalize w.alloc _ = w1 at *
  refine wp_scope_one 2 rfl ?_
  generalize hQ : Exit.jump _ _ _ = QJ
  go_wp2_with fail
  have HK := Lib.hid (fun W (hb : Below w1.heap.size w1 W) => And.intro (HC1.out.below hb) (And.intro (below_heap hb H1.out) (below_heap hb HX.out)))
  have hs1 : w.heap.size < w1.heap.size := lt_of_block HX.out
  go_region_held3 (fun W => W.cell? ⟨b, 0, none⟩ = some (.int .i64 q.ep) ∧ W.cell? ⟨b, 1, none⟩ = some (.slice ao q.L.length cap) ∧ W.cell? ⟨w.heap.size, 1, none⟩ = some (.int .i64 xn))
    (first | exact ⟨c0, c1, x1⟩ | assumption | exact tok_keep HW2.out | exact tok_keep (HK.out _ ((HB2.out.setCell (by simp) _).setCell (by simp) _)) | exact tok_keep (HK.out _ (HB2.out.alloc HB2.out.size _)) | exact tok_keep (HK.out _ (below_new w1 _).drew) | exact tok_keep (HK.out _ (below_new w1 _)) | exact tok_keep (HK.out _ (Below.refl _ w1).drew))
    (first | (go_at_call 60; refine (CO.out _ (HK.out _ (by first | exact (Below.refl _ _).drew | exact (below_new _ _).drew)).1).mono ?_; rintro e w2 ⟨rfl, hb2⟩; have HB2 := Lib.hid (below_on (w1 := w1) hb2 (by first | exact (Below.refl _ _).drew | exact (below_new _ _).drew)); have HW2 := Lib.hid (HK.out _ HB2.out); first | (have hZ := zero_place (w1 := w1) hb2; obtain ⟨p0, p1, g0, g1, hpl⟩ := hZ) | skip))
  all_goals
    first
      | (have HB3 := Lib.hid ((HB2.out.setCell (p := ⟨w1.heap.size, 0, none⟩) (Nat.le_refl _) (.int .i64 oc)).setCell (p := ⟨w1.heap.size, 1, none⟩) (Nat.le_refl _) (.int .i64 op)); clear p0 p1 g0 g1; generalize (w2.setCell _ _).setCell _ _ = w3 at *)
      | (have HB3 := Lib.hid (HB2.out.alloc HB2.out.size (.cells #[.int .i64 oc, .int .i64 op] 49)); generalize w2.alloc _ = w3 at *)
    obtain ⟨HB4, HA3, HX3, ⟨x0, x1, x2, x3, x4, x5, x6, x7⟩, ao3, cap3, ⟨d0, d1, d2, d3, d4, d5, d6, d7, d8⟩, ⟨f0, f1, f2, f3, f4, f5, f6, f7, f8⟩, hb3, R1, R3⟩ := ans_again HB HA HX HB3.out
    clear c0 c1 c2 c3 c4 c5 c6 c7 c8
    go_wp2_with fail
    go_step3
    show QJ (.goto 2) _ _
    rw [← hQ]
    refine jump_one ?_
    go_wp2_with fail
    rw [Exit.noGoto_ret]
    exact bodyPost_ret (results_none rfl _ _ _) rfl ⟨rfl, (R3.out _ (q.to 2) ((Kept.refl _ w3).setCell (p := ⟨b, 3, none⟩) (fun h => h rfl) _) rfl (nset3 R1.out _)).ahead HG.out HB4.out⟩
end Go.Proofs.YtimjlfkdbkafeaaGreat
namespace Go.Proofs.YtimjlfkdbkafeaaGreat
set_option linter.unusedVariables false
open Go.RowKit
set_option maxRecDepth 20000
section
variable {UG : Nat → Nat → (Nat → Prop) → World → Us → Prop} {OG : Nat → (Nat → Prop) → World → Od → Prop} {LG : Nat → (Nat → Prop) → World → Ly → Prop} {NG : Nat → (Nat → Prop) → World → Nd → Prop}
theorem handSays_of (S : RpcSays UG OG LG NG) : HandSays UG OG LG NG (HM NG) where
  rpc := S
  thing := fun b nb => hmz_thing S.thing [] b nb
  nodes_in := by
    rintro b nb G w h ⟨_, v, l, F, C, _, _, _, h4, _, _, h7, _⟩
    exact ⟨F, h4, fun k hk => (h7 k hk).1⟩
  few := fun h => h.1
  new := fun nb F w n hF => hnew_any NG S.thing nb F w n hF
  new_no := fun w => (hnew_no w).mono fun e w' ⟨b, he, hn, hb⟩ => ⟨some ⟨b, 0, none⟩, he, hb, fun w2 hb2 =>
    ⟨fun a fate _ _ => ask_none _ a fate w2 (fun W hW => nodes_noh (below_heap hW (below_heap hb2 hn))), fun k _ => do_noh (below_heap hb2 hn) k⟩⟩
  ask := fun b nb G w h a fate hh ok hL hs hu hf hA => by
    by_cases h0 : fate = 0
    · subst h0
      exact hask_heard S b nb G w h a hh ok hL hs hu hA
    by_cases h2 : fate = 2
    · subst h2
      exact hask_deaf S b nb G w h a hh ok hL hs hu hA
    by_cases h3 : fate = 3
    · subst h3
      by_cases hl : h.held.length < 64
      · have e1 : h.heard a 3 = zeroX := if_neg h0
        have e2 : h.asked a.plain 3 = ⟨h.n, h.held ++ [a.plain]⟩ := by
          unfold Hd.asked
          rw [if_neg (by omega), if_pos ⟨rfl, hl⟩]
        rw [e1, e2]
        exact hask_held S b nb G w h a hh ok hL hs hA hl
      · have e1 : h.heard a 3 = zeroX := if_neg h0
        have e2 : h.asked a.plain 3 = h := by
          unfold Hd.asked
          rw [if_neg (by omega), if_neg (fun h5 => hl h5.2)]
        rw [e1, e2]
        exact hask_full S b nb G w h a hh hl
    · have e1 : h.heard a fate = zeroX := if_neg h0
      have e2 : h.asked a.plain fate = h := by
        unfold Hd.asked
        rw [if_neg (by omega), if_neg (fun h5 => h3 h5.1)]
      rw [e1, e2, decide_eq_false h0]
      exact hask_lost S b nb G w h a hh fate h0 h2 h3
  does := fun b nb G w h k hh hu hk => by
    by_cases h1 : 0 ≤ k ∧ k < h.held.length
    · obtain ⟨n, rfl⟩ := Int.eq_ofNat_of_zero_le h1.1
      have hn : n < h.held.length := by omega
      refine (do_yes S b nb G w h n hh hn hu).mono ?_
      rintro e w' ⟨he, hl⟩
      unfold Hd.does Hd.has
      rw [dif_pos h1]
      exact ⟨by rw [he, decide_eq_true h1.1, decide_eq_true h1.2]; rfl, hl⟩
    · refine (do_no b nb G w h k hh h1).mono ?_
      rintro e w' ⟨he, hb⟩
      unfold Hd.does Hd.has
      rw [dif_neg h1]
      refine ⟨?_, Leaves.same (hmz_thing S.thing [] b nb) hh hb⟩
      rw [he]
      by_cases h2 : 0 ≤ k
      · rw [decide_eq_true h2, decide_eq_false (fun h3 => h1 ⟨h2, h3⟩)]; rfl
      · rw [decide_eq_false h2]; rfl
  nodes := fun b nb G w h hh => (hnodes_any b nb G w h hh).mono fun e w' ⟨he, hw⟩ => ⟨he, hw ▸ Below.refl _ _⟩
  nil_ask := fun a fate w _ _ => ask_none none a fate w (fun W _ => hnodes_nil W)
  nil_do := fun k w _ => do_nil_hand k w
  nil_nodes := fun w => (hnodes_nil w).mono fun e w' ⟨he, hw⟩ => ⟨he, hw ▸ Below.refl _ _⟩
end
theorem handSays : HandSays UM OM LM (RM UM OM LM) (HM (RM UM OM LM)) := handSays_of rpcSays
end Go.Proofs.YtimjlfkdbkafeaaGreat
