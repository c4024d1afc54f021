/- What the program's fetch makes of a layout that it hears. Conditions: it lies where the call was told; the answer's chains lie there too. (Written by gen/genfmp.py.) What the laws' own helpers return: chains that they lay out, what is fair, and that the laws are awake. Conditions: the program's functions return what HandSays, FetchSays and LooksSays say. (Written by gen/genfetwake.py.) The program's hand keeps all that the laws of a hand ask, over any nodes that keep what the laws of all nodes ask. Conditions: as each statement says. -/
import Derived.Test.YthffjanidjjkdaaGreatG29a
import Derived.Test.YthffjanidjjkdaaGreatG14a
import Derived.Test.YthffjanidjjkdaaGreatG05a
set_option linter.unusedVariables false
namespace Go.Proofs.YthffjanidjjkdaaGreat
set_option linter.unusedVariables false
open Go.RowKit
set_option maxRecDepth 20000
/-- an answer was boxed: what lies where -/
theorem fns_start {b : Nat} {G : Nat → Prop} {w : World} {q : Qf} (h : FQ b G w q) (xc xn : Int) (xd : ByteArray) (xe : Int) (xo : Option Addr) (n xp : Nat) (xm xs xy : Int) {w1 : World} (hw : w.alloc (.cells #[.int .i64 xc, .int .i64 xn, .string xd, .int .i64 xe, .slice xo n xp, .int .i64 xm, .int .i64 xs, .int .i64 xy] 58) = w1) :
    Hid (∀ k, G k → k < w.heap.size) ∧ Hid (Below w.heap.size w w1) ∧ Hid (w1.heap[w.heap.size]? = some (.cells #[.int .i64 xc, .int .i64 xn, .string xd, .int .i64 xe, .slice xo n xp, .int .i64 xm, .int .i64 xs, .int .i64 xy] 58 (0, 0))) ∧ Hid (FQ b G w1 q) ∧
    (w1.cell? ⟨w.heap.size, 0, none⟩ = some (.int .i64 xc) ∧ w1.cell? ⟨w.heap.size, 1, none⟩ = some (.int .i64 xn) ∧ w1.cell? ⟨w.heap.size, 2, none⟩ = some (.string xd) ∧ w1.cell? ⟨w.heap.size, 3, none⟩ = some (.int .i64 xe) ∧ w1.cell? ⟨w.heap.size, 4, none⟩ = some (.slice xo n xp) ∧ w1.cell? ⟨w.heap.size, 5, none⟩ = some (.int .i64 xm) ∧ w1.cell? ⟨w.heap.size, 6, none⟩ = some (.int .i64 xs) ∧ w1.cell? ⟨w.heap.size, 7, none⟩ = some (.int .i64 xy)) ∧
    ∃ ao cap, (w1.cell? ⟨b, 0, none⟩ = some (.int .i64 q.ep) ∧ w1.cell? ⟨b, 1, none⟩ = some (.slice ao q.L.length cap) ∧ w1.cell? ⟨b, 2, none⟩ = some (.int .i64 q.addr) ∧ w1.cell? ⟨b, 3, none⟩ = some (.bool q.fill) ∧ w1.cell? ⟨b, 4, none⟩ = some (.int .i64 q.at_) ∧ w1.cell? ⟨b, 5, none⟩ = some (.int .i64 q.was) ∧ w1.cell? ⟨b, 6, none⟩ = some (.int .i64 q.unit) ∧ w1.cell? ⟨b, 7, none⟩ = some (.int .i64 q.kind) ∧ w1.cell? ⟨b, 8, none⟩ = some (.string q.txt) ∧ w1.cell? ⟨b, 9, none⟩ = some (.int .i64 q.err)) ∧ (w1.frozen? ⟨b, 0, none⟩ = false ∧ w1.frozen? ⟨b, 1, none⟩ = false ∧ w1.frozen? ⟨b, 2, none⟩ = false ∧ w1.frozen? ⟨b, 3, none⟩ = false ∧ w1.frozen? ⟨b, 4, none⟩ = false ∧ w1.frozen? ⟨b, 5, none⟩ = false ∧ w1.frozen? ⟨b, 6, none⟩ = false ∧ w1.frozen? ⟨b, 7, none⟩ = false ∧ w1.frozen? ⟨b, 8, none⟩ = false ∧ w1.frozen? ⟨b, 9, none⟩ = false) ∧ b < w1.heap.size ∧ Hid (CL w1 ao q.L) ∧ Hid (w1.heap[b]? = some (.cells #[.int .i64 q.ep, .slice ao q.L.length cap, .int .i64 q.addr, .bool q.fill, .int .i64 q.at_, .int .i64 q.was, .int .i64 q.unit, .int .i64 q.kind, .string q.txt, .int .i64 q.err] 109 (0, 0))) ∧
    Hid (∀ (W : World) (q' : Qf), Kept (fun k => k ≠ b) w1 W → q'.L = q.L → W.heap[b]? = some (.cells #[.int .i64 q'.ep, .slice ao q.L.length cap, .int .i64 q'.addr, .bool q'.fill, .int .i64 q'.at_, .int .i64 q'.was, .int .i64 q'.unit, .int .i64 q'.kind, .string q'.txt, .int .i64 q'.err] 109 (0, 0)) → Leaves (FQ b) G w1 W q') := by
  subst hw
  have HB := below_new w (.cells #[.int .i64 xc, .int .i64 xn, .string xd, .int .i64 xe, .slice xo n xp, .int .i64 xm, .int .i64 xs, .int .i64 xy] 58)
  have HX := heap_alloc_new w (.cells #[.int .i64 xc, .int .i64 xn, .string xd, .int .i64 xe, .slice xo n xp, .int .i64 xm, .int .i64 xs, .int .i64 xy] 58)
  have HA := h.below HB
  obtain ⟨ao, cap, h1, hc1, h3⟩ := HA.open
  obtain ⟨k1, k2⟩ := ten_of h1
  exact ⟨Lib.hid (fun k hk => (fq_thing b).lt h k hk), Lib.hid HB, Lib.hid HX, Lib.hid HA, (eight_cells HX).1, ao, cap, k1, k2, lt_of_block h1, Lib.hid hc1, Lib.hid h1, Lib.hid h3⟩
/-- the world has gone on -/
theorem fns_open {b : Nat} {G : Nat → Prop} {w1 : World} {q : Qf} (h : FQ b G w1 q) :
    ∃ ao cap, (w1.cell? ⟨b, 0, none⟩ = some (.int .i64 q.ep) ∧ w1.cell? ⟨b, 1, none⟩ = some (.slice ao q.L.length cap) ∧ w1.cell? ⟨b, 2, none⟩ = some (.int .i64 q.addr) ∧ w1.cell? ⟨b, 3, none⟩ = some (.bool q.fill) ∧ w1.cell? ⟨b, 4, none⟩ = some (.int .i64 q.at_) ∧ w1.cell? ⟨b, 5, none⟩ = some (.int .i64 q.was) ∧ w1.cell? ⟨b, 6, none⟩ = some (.int .i64 q.unit) ∧ w1.cell? ⟨b, 7, none⟩ = some (.int .i64 q.kind) ∧ w1.cell? ⟨b, 8, none⟩ = some (.string q.txt) ∧ w1.cell? ⟨b, 9, none⟩ = some (.int .i64 q.err)) ∧ (w1.frozen? ⟨b, 0, none⟩ = false ∧ w1.frozen? ⟨b, 1, none⟩ = false ∧ w1.frozen? ⟨b, 2, none⟩ = false ∧ w1.frozen? ⟨b, 3, none⟩ = false ∧ w1.frozen? ⟨b, 4, none⟩ = false ∧ w1.frozen? ⟨b, 5, none⟩ = false ∧ w1.frozen? ⟨b, 6, none⟩ = false ∧ w1.frozen? ⟨b, 7, none⟩ = false ∧ w1.frozen? ⟨b, 8, none⟩ = false ∧ w1.frozen? ⟨b, 9, none⟩ = false) ∧ b < w1.heap.size ∧ Hid (CL w1 ao q.L) ∧ Hid (w1.heap[b]? = some (.cells #[.int .i64 q.ep, .slice ao q.L.length cap, .int .i64 q.addr, .bool q.fill, .int .i64 q.at_, .int .i64 q.was, .int .i64 q.unit, .int .i64 q.kind, .string q.txt, .int .i64 q.err] 109 (0, 0))) ∧
    Hid (∀ (W : World) (q' : Qf), Kept (fun k => k ≠ b) w1 W → q'.L = q.L → W.heap[b]? = some (.cells #[.int .i64 q'.ep, .slice ao q.L.length cap, .int .i64 q'.addr, .bool q'.fill, .int .i64 q'.at_, .int .i64 q'.was, .int .i64 q'.unit, .int .i64 q'.kind, .string q'.txt, .int .i64 q'.err] 109 (0, 0)) → Leaves (FQ b) G w1 W q') := by
  obtain ⟨ao, cap, h1, hc1, h3⟩ := h.open
  obtain ⟨k1, k2⟩ := ten_of h1
  exact ⟨ao, cap, k1, k2, lt_of_block h1, Lib.hid hc1, Lib.hid h1, Lib.hid h3⟩
set_option maxHeartbeats 2000000 in
theorem fp_begin (b : Nat) (G : Nat → Prop) (w : World) (q : Qf) (e : Int) (po : Option Addr) (pc : Nat) (L : List (List Int)) (h : FQ b G w q) (hc : CL w po L) (hf : fewL L) (hn : (chainR e L q.addr).length ≤ 100) :
    Calls Tryz.prog 47 #[ptrP b, .agg #[.int .i64 e, .slice po L.length pc]] w fun e2 w' => e2 = .returned (.tuple #[]) ∧ Leaves (FQ b) G w w' (q.proj e L) := by
  have HG := Lib.hid (fun k hk => (fq_thing b).lt h k hk)
  have HB := Lib.hid (below_new w (.cells #[.int .i64 e, .slice po L.length pc] 30))
  obtain ⟨x0, x1, _⟩ := two_cells (heap_alloc_new w (.cells #[.int .i64 e, .slice po L.length pc] 30))
  have HC := Lib.hid (hc.below HB.out)
  have HA := Lib.hid (h.below HB.out)
  have CC := Lib.hid (fun W (hC : CL W po L) => copyO_any e po pc L W hC hf)
  have CU := Lib.hid (fun (G : Nat → Prop) (W : World) (h : FQ b G W ⟨e, L, q.addr, q.fill, q.at_, q.was, q.unit, 0, noS, q.err⟩) => show Calls Tryz.prog 65 #[ptrP b] W fun e2 w' => e2 = .returned (.int .i64 ((chainR e L q.addr).length : Nat)) ∧ Below W.heap.size W w' from fp_units b G W _ h hf)
  have hn2 : ((chainR e L q.addr).length : Int) ≤ 100 := by omega
  have hwr : IntKind.i64.wrap (((chainR e L q.addr).length : Int) - 1) = ((chainR e L q.addr).length : Int) - 1 := IntWalk.i64_in _ (by omega)
  clear h hc hf hn
  unfold ptrP at *
  go_enter Tryz.func47, Tryz.ntmps47
  go_wp2_with (go_at_call 45; refine (CC.out _ HC.out).mono ?_; rintro e1 w3 ⟨v, rfl, hO, hb3⟩; obtain ⟨vo, vc, hv, _⟩ := hO.form; subst hv; have HO := Lib.hid hO; have HB3 := Lib.hid hb3; obtain ⟨_, _, h1, _⟩ := HA.out.open; have HR := Lib.hid (below_heap hb3 h1); obtain ⟨_, f0, f1, f2, f3, f4, f5, f6, f7, f8, f9⟩ := ten_of HR.out; have hb := lt_of_block HR.out; clear hO hb3 h1)
  have HL := Lib.hid (HA.out.chains (q' := ⟨e, L, q.addr, q.fill, q.at_, q.was, q.unit, 0, noS, q.err⟩) HB3.out HO.out (((((Kept.refl _ w3).setCell (p := ⟨b, 0, none⟩) (fun h => h rfl) (.int .i64 e)).setCell (p := ⟨b, 1, none⟩) (fun h => h rfl) (.slice vo L.length vc)).setCell (p := ⟨b, 7, none⟩) (fun h => h rfl) (.int .i64 0)).setCell (p := ⟨b, 8, none⟩) (fun h => h rfl) (.string ⟨#[]⟩)) (tset8 (tset7 (tset1 (tset0 HR.out _) _) _) _))
  generalize World.setCell _ _ _ = w5 at *
  obtain ⟨H, hA5, hU⟩ := lv_use (fun k hk => (fq_thing b).lt HA.out k hk) HL.out
  have HU := Lib.hid hU
  have HA5 := Lib.hid hA5
  have HH := Lib.hid (fun k hk => (fq_thing b).lt hA5 k hk)
  clear hA5 hU HL f0 f1 f2 f3 f4 f5 f6 f7 f8 f9 hb
  go_wp2_with (go_at_call 65; refine (CU.out _ _ HA5.out).mono ?_; rintro e1 w6 ⟨rfl, hb6⟩; have HB6 := Lib.hid hb6; obtain ⟨ao, cap, _, ⟨f0, f1, f2, f3, f4, f5, f6, f7, f8, f9⟩, hb, _, H1, H3⟩ := fns_open (HA5.out.below hb6); dsimp only at H1 H3; clear hb6)
  go_end0
  exact ⟨rfl, (HU.out _ _ ((H3.out _ (q.proj e L) (((Kept.refl _ w6).setCell (p := ⟨b, 4, none⟩) (fun h => h rfl) _).setCell (p := ⟨b, 6, none⟩) (fun h => h rfl) _) rfl (tset6 (tset4 H1.out _) _)).ahead HH.out HB6.out)).ahead HG.out HB.out⟩
set_option maxHeartbeats 2000000 in
theorem fl_a1 (b : Nat) (G : Nat → Prop) (w : World) (q : Qf) (xc xn : Int) (xd : ByteArray) (xe : Int) (xL : List (List Int)) (xm xs xy : Int) (xo : Option Addr) (xp : Nat) (h : FQ b G w q) (hf : fewL xL) (hx : CL w xo xL) (n0 : ¬ xc = 0) (ha : q.at_ = 1) :
    Calls Tryz.prog 42 #[ptrP b, .agg #[.int .i64 xc, .int .i64 xn, .string xd, .int .i64 xe, .slice xo xL.length xp, .int .i64 xm, .int .i64 xs, .int .i64 xy]] w fun e w' => e = .returned (.tuple #[]) ∧ Leaves (FQ b) G w w' (q.to q.was) := by
  obtain ⟨HG, HB, HX, HA, ⟨x0, x1, x2, x3, x4, x5, x6, x7⟩, ao, cap, ⟨c0, c1, c2, c3, c4, c5, c6, c7, c8, c9⟩, ⟨f0, f1, f2, f3, f4, f5, f6, f7, f8, f9⟩, hb, HC1, H1, H3⟩ := fns_start h xc xn xd xe xo xL.length xp xm xs xy rfl
  have HC := Lib.hid (hx.below HB.out)
  have e0 : (xc == 0) = false := by simpa using n0
  rw [ha] at c4
  clear h hf hx
  unfold ptrP at *
  go_enter Tryz.func42, Tryz.ntmps42
  go_wp2_with fail
  go_quiet (fail)
  have HDK := Lib.hid (below_drewN (Below.refl (w.alloc (.cells #[.int .i64 xc, .int .i64 xn, .string xd, .int .i64 xe, .slice xo xL.length xp, .int .i64 xm, .int .i64 xs, .int .i64 xy] 58)).heap.size (w.alloc (.cells #[.int .i64 xc, .int .i64 xn, .string xd, .int .i64 xe, .slice xo xL.length xp, .int .i64 xm, .int .i64 xs, .int .i64 xy] 58))) nq)
  go_wp2_with fail
  go_end0
  exact ⟨rfl, (H3.out _ (q.to q.was) ((Kept.ofBelow HDK.out _).setCell (p := ⟨b, 4, none⟩) (fun h => h rfl) _) rfl (tset4 (show (World.drewN (w.alloc (.cells #[.int .i64 xc, .int .i64 xn, .string xd, .int .i64 xe, .slice xo xL.length xp, .int .i64 xm, .int .i64 xs, .int .i64 xy] 58)) nq).heap[b]? = _ from H1.out) _)).ahead HG.out HB.out⟩
set_option maxHeartbeats 2000000 in
theorem fl_a0 (b : Nat) (G : Nat → Prop) (w : World) (q : Qf) (xc xn : Int) (xd : ByteArray) (xe : Int) (xL : List (List Int)) (xm xs xy : Int) (xo : Option Addr) (xp : Nat) (h : FQ b G w q) (hf : fewL xL) (hx : CL w xo xL) (n0 : ¬ xc = 0) (ha : q.at_ = 0) :
    Calls Tryz.prog 42 #[ptrP b, .agg #[.int .i64 xc, .int .i64 xn, .string xd, .int .i64 xe, .slice xo xL.length xp, .int .i64 xm, .int .i64 xs, .int .i64 xy]] w fun e w' => e = .returned (.tuple #[]) ∧ Leaves (FQ b) G w w' (q) := by
  obtain ⟨HG, HB, HX, HA, ⟨x0, x1, x2, x3, x4, x5, x6, x7⟩, ao, cap, ⟨c0, c1, c2, c3, c4, c5, c6, c7, c8, c9⟩, ⟨f0, f1, f2, f3, f4, f5, f6, f7, f8, f9⟩, hb, HC1, H1, H3⟩ := fns_start h xc xn xd xe xo xL.length xp xm xs xy rfl
  have HC := Lib.hid (hx.below HB.out)
  have e0 : (xc == 0) = false := by simpa using n0
  rw [ha] at c4
  clear h hf hx
  unfold ptrP at *
  go_enter Tryz.func42, Tryz.ntmps42
  go_wp2_with fail
  go_quiet (fail)
  go_wp2_with fail
  go_end0
  exact ⟨rfl, (Leaves.same (fq_thing b) HA.out (below_drewN (Below.refl _ _) nq)).ahead HG.out HB.out⟩
set_option maxHeartbeats 2000000 in
theorem fl_b1 (b : Nat) (G : Nat → Prop) (w : World) (q : Qf) (xc xn : Int) (xd : ByteArray) (xe : Int) (xL : List (List Int)) (xm xs xy : Int) (xo : Option Addr) (xp : Nat) (h : FQ b G w q) (hf : fewL xL) (hx : CL w xo xL) (hg : goodB xe xL = false) (ha : q.at_ = 1) :
    Calls Tryz.prog 42 #[ptrP b, .agg #[.int .i64 0, .int .i64 xn, .string xd, .int .i64 xe, .slice xo xL.length xp, .int .i64 xm, .int .i64 xs, .int .i64 xy]] w fun e w' => e = .returned (.tuple #[]) ∧ Leaves (FQ b) G w w' (q.to q.was) := by
  obtain ⟨HG, HB, HX, HA, ⟨x0, x1, x2, x3, x4, x5, x6, x7⟩, ao, cap, ⟨c0, c1, c2, c3, c4, c5, c6, c7, c8, c9⟩, ⟨f0, f1, f2, f3, f4, f5, f6, f7, f8, f9⟩, hb, HC1, H1, H3⟩ := fns_start h 0 xn xd xe xo xL.length xp xm xs xy rfl
  have HC := Lib.hid (hx.below HB.out)
  have CG := Lib.hid (fun W (hC : CL W xo xL) => pgood_any xe xo xp xL W hC hf)
  rw [hg] at CG
  clear h hf hx
  unfold ptrP at *
  go_enter Tryz.func42, Tryz.ntmps42
  go_wp2_with (go_at_call 64; refine (CG.out _ HC.out).mono ?_; rintro e w2 ⟨rfl, hb2⟩; have HC2 := Lib.hid (HC.out.below hb2); have HB2 := Lib.hid (HB.out.trans (hb2.mono HB.out.size)); have HA2 := Lib.hid (HA.out.below hb2); have HX2 := Lib.hid (below_heap hb2 HX.out); obtain ⟨⟨x0, x1, x2, x3, x4, x5, x6, x7⟩, _⟩ := eight_cells HX2.out; obtain ⟨ao, cap, ⟨c0, c1, c2, c3, c4, c5, c6, c7, c8, c9⟩, ⟨f0, f1, f2, f3, f4, f5, f6, f7, f8, f9⟩, hb, HC1, H1, H3⟩ := fns_open HA2.out; rw [ha] at c4; clear hb2)
  go_quiet (fail)
  have HDK := Lib.hid (below_drewN (Below.refl w2.heap.size w2) nq)
  go_wp2_with fail
  go_end0
  exact ⟨rfl, (H3.out _ (q.to q.was) ((Kept.ofBelow HDK.out _).setCell (p := ⟨b, 4, none⟩) (fun h => h rfl) _) rfl (tset4 (show (World.drewN w2 nq).heap[b]? = _ from H1.out) _)).ahead HG.out HB2.out⟩
set_option maxHeartbeats 2000000 in
theorem fl_b0 (b : Nat) (G : Nat → Prop) (w : World) (q : Qf) (xc xn : Int) (xd : ByteArray) (xe : Int) (xL : List (List Int)) (xm xs xy : Int) (xo : Option Addr) (xp : Nat) (h : FQ b G w q) (hf : fewL xL) (hx : CL w xo xL) (hg : goodB xe xL = false) (ha : q.at_ = 0) :
    Calls Tryz.prog 42 #[ptrP b, .agg #[.int .i64 0, .int .i64 xn, .string xd, .int .i64 xe, .slice xo xL.length xp, .int .i64 xm, .int .i64 xs, .int .i64 xy]] w fun e w' => e = .returned (.tuple #[]) ∧ Leaves (FQ b) G w w' (q) := by
  obtain ⟨HG, HB, HX, HA, ⟨x0, x1, x2, x3, x4, x5, x6, x7⟩, ao, cap, ⟨c0, c1, c2, c3, c4, c5, c6, c7, c8, c9⟩, ⟨f0, f1, f2, f3, f4, f5, f6, f7, f8, f9⟩, hb, HC1, H1, H3⟩ := fns_start h 0 xn xd xe xo xL.length xp xm xs xy rfl
  have HC := Lib.hid (hx.below HB.out)
  have CG := Lib.hid (fun W (hC : CL W xo xL) => pgood_any xe xo xp xL W hC hf)
  rw [hg] at CG
  clear h hf hx
  unfold ptrP at *
  go_enter Tryz.func42, Tryz.ntmps42
  go_wp2_with (go_at_call 64; refine (CG.out _ HC.out).mono ?_; rintro e w2 ⟨rfl, hb2⟩; have HC2 := Lib.hid (HC.out.below hb2); have HB2 := Lib.hid (HB.out.trans (hb2.mono HB.out.size)); have HA2 := Lib.hid (HA.out.below hb2); have HX2 := Lib.hid (below_heap hb2 HX.out); obtain ⟨⟨x0, x1, x2, x3, x4, x5, x6, x7⟩, _⟩ := eight_cells HX2.out; obtain ⟨ao, cap, ⟨c0, c1, c2, c3, c4, c5, c6, c7, c8, c9⟩, ⟨f0, f1, f2, f3, f4, f5, f6, f7, f8, f9⟩, hb, HC1, H1, H3⟩ := fns_open HA2.out; rw [ha] at c4; clear hb2)
  go_quiet (fail)
  go_wp2_with fail
  go_end0
  exact ⟨rfl, (Leaves.same (fq_thing b) HA2.out (below_drewN (Below.refl _ _) nq)).ahead HG.out HB2.out⟩
set_option maxHeartbeats 2000000 in
theorem fl_c (b : Nat) (G : Nat → Prop) (w : World) (q : Qf) (xc xn : Int) (xd : ByteArray) (xe : Int) (xL : List (List Int)) (xm xs xy : Int) (xo : Option Addr) (xp : Nat) (h : FQ b G w q) (hf : fewL xL) (hx : CL w xo xL) (hg : goodB xe xL = true) (ha : q.at_ = 0) (hn : (chainR xe xL q.addr).length ≤ 100) :
    Calls Tryz.prog 42 #[ptrP b, .agg #[.int .i64 0, .int .i64 xn, .string xd, .int .i64 xe, .slice xo xL.length xp, .int .i64 xm, .int .i64 xs, .int .i64 xy]] w fun e w' => e = .returned (.tuple #[]) ∧ Leaves (FQ b) G w w' (q.proj xe xL) := by
  obtain ⟨HG, HB, HX, HA, ⟨x0, x1, x2, x3, x4, x5, x6, x7⟩, ao, cap, ⟨c0, c1, c2, c3, c4, c5, c6, c7, c8, c9⟩, ⟨f0, f1, f2, f3, f4, f5, f6, f7, f8, f9⟩, hb, HC1, H1, H3⟩ := fns_start h 0 xn xd xe xo xL.length xp xm xs xy rfl
  have HC := Lib.hid (hx.below HB.out)
  have CG := Lib.hid (fun W (hC : CL W xo xL) => pgood_any xe xo xp xL W hC hf)
  rw [hg] at CG
  have CB := Lib.hid (fun W h hC => fp_begin b G W q xe xo xp xL h hC hf hn)
  clear h hf hx hn
  unfold ptrP at *
  go_enter Tryz.func42, Tryz.ntmps42
  go_wp2_with (go_at_call 64; refine (CG.out _ HC.out).mono ?_; rintro e w2 ⟨rfl, hb2⟩; have HC2 := Lib.hid (HC.out.below hb2); have HB2 := Lib.hid (HB.out.trans (hb2.mono HB.out.size)); have HA2 := Lib.hid (HA.out.below hb2); have HX2 := Lib.hid (below_heap hb2 HX.out); obtain ⟨⟨x0, x1, x2, x3, x4, x5, x6, x7⟩, _⟩ := eight_cells HX2.out; obtain ⟨ao, cap, ⟨c0, c1, c2, c3, c4, c5, c6, c7, c8, c9⟩, ⟨f0, f1, f2, f3, f4, f5, f6, f7, f8, f9⟩, hb, HC1, H1, H3⟩ := fns_open HA2.out; rw [ha] at c4; clear hb2)
  go_quiet (fail)
  have HDA := Lib.hid (HA2.out.below (below_drewN (Below.refl _ _) nq))
  have HDC := Lib.hid (HC2.out.below (below_drewN (Below.refl _ _) nq))
  have HDB := Lib.hid (below_drewN HB2.out nq)
  go_wp2_with (go_at_call 47; refine (CB.out _ HDA.out HDC.out).mono ?_; rintro e w9 ⟨rfl, hl⟩; have HL := Lib.hid hl; clear hl)
  go_end0
  exact ⟨rfl, HL.out.ahead HG.out HDB.out⟩
set_option maxHeartbeats 2000000 in
theorem fl_d (b : Nat) (G : Nat → Prop) (w : World) (q : Qf) (xc xn : Int) (xd : ByteArray) (xe : Int) (xL : List (List Int)) (xm xs xy : Int) (xo : Option Addr) (xp : Nat) (h : FQ b G w q) (hf : fewL xL) (hx : CL w xo xL) (hg : goodB xe xL = true) (ha : q.at_ = 1) (ne : ¬ xe = q.ep) (hn : (chainR xe xL q.addr).length ≤ 100) :
    Calls Tryz.prog 42 #[ptrP b, .agg #[.int .i64 0, .int .i64 xn, .string xd, .int .i64 xe, .slice xo xL.length xp, .int .i64 xm, .int .i64 xs, .int .i64 xy]] w fun e w' => e = .returned (.tuple #[]) ∧ Leaves (FQ b) G w w' (q.proj xe xL) := by
  obtain ⟨HG, HB, HX, HA, ⟨x0, x1, x2, x3, x4, x5, x6, x7⟩, ao, cap, ⟨c0, c1, c2, c3, c4, c5, c6, c7, c8, c9⟩, ⟨f0, f1, f2, f3, f4, f5, f6, f7, f8, f9⟩, hb, HC1, H1, H3⟩ := fns_start h 0 xn xd xe xo xL.length xp xm xs xy rfl
  have HC := Lib.hid (hx.below HB.out)
  have CG := Lib.hid (fun W (hC : CL W xo xL) => pgood_any xe xo xp xL W hC hf)
  rw [hg] at CG
  have CB := Lib.hid (fun W h hC => fp_begin b G W q xe xo xp xL h hC hf hn)
  have e5 : (xe != q.ep) = true := by simpa using ne
  clear h hf hx hn
  unfold ptrP at *
  go_enter Tryz.func42, Tryz.ntmps42
  go_wp2_with (go_at_call 64; refine (CG.out _ HC.out).mono ?_; rintro e w2 ⟨rfl, hb2⟩; have HC2 := Lib.hid (HC.out.below hb2); have HB2 := Lib.hid (HB.out.trans (hb2.mono HB.out.size)); have HA2 := Lib.hid (HA.out.below hb2); have HX2 := Lib.hid (below_heap hb2 HX.out); obtain ⟨⟨x0, x1, x2, x3, x4, x5, x6, x7⟩, _⟩ := eight_cells HX2.out; obtain ⟨ao, cap, ⟨c0, c1, c2, c3, c4, c5, c6, c7, c8, c9⟩, ⟨f0, f1, f2, f3, f4, f5, f6, f7, f8, f9⟩, hb, HC1, H1, H3⟩ := fns_open HA2.out; rw [ha] at c4; clear hb2)
  go_quiet (fail)
  have HDA := Lib.hid (HA2.out.below (below_drewN (Below.refl _ _) nq))
  have HDC := Lib.hid (HC2.out.below (below_drewN (Below.refl _ _) nq))
  have HDB := Lib.hid (below_drewN HB2.out nq)
  go_wp2_with (go_at_call 47; refine (CB.out _ HDA.out HDC.out).mono ?_; rintro e w9 ⟨rfl, hl⟩; have HL := Lib.hid hl; clear hl)
  go_end0
  exact ⟨rfl, HL.out.ahead HG.out HDB.out⟩
set_option maxHeartbeats 2000000 in
theorem fl_e (b : Nat) (G : Nat → Prop) (w : World) (q : Qf) (xc xn : Int) (xd : ByteArray) (xL : List (List Int)) (xm xs xy : Int) (xo : Option Addr) (xp : Nat) (h : FQ b G w q) (hf : fewL xL) (hx : CL w xo xL) (hg : goodB q.ep xL = true) (ha : q.at_ = 1) :
    Calls Tryz.prog 42 #[ptrP b, .agg #[.int .i64 0, .int .i64 xn, .string xd, .int .i64 q.ep, .slice xo xL.length xp, .int .i64 xm, .int .i64 xs, .int .i64 xy]] w fun e w' => e = .returned (.tuple #[]) ∧ Leaves (FQ b) G w w' (q.to q.was) := by
  obtain ⟨HG, HB, HX, HA, ⟨x0, x1, x2, x3, x4, x5, x6, x7⟩, ao, cap, ⟨c0, c1, c2, c3, c4, c5, c6, c7, c8, c9⟩, ⟨f0, f1, f2, f3, f4, f5, f6, f7, f8, f9⟩, hb, HC1, H1, H3⟩ := fns_start h 0 xn xd q.ep xo xL.length xp xm xs xy rfl
  have HC := Lib.hid (hx.below HB.out)
  have CG := Lib.hid (fun W (hC : CL W xo xL) => pgood_any q.ep xo xp xL W hC hf)
  rw [hg] at CG
  have e5 : (q.ep != q.ep) = false := by simp
  clear h hf hx
  unfold ptrP at *
  go_enter Tryz.func42, Tryz.ntmps42
  go_wp2_with (go_at_call 64; refine (CG.out _ HC.out).mono ?_; rintro e w2 ⟨rfl, hb2⟩; have HC2 := Lib.hid (HC.out.below hb2); have HB2 := Lib.hid (HB.out.trans (hb2.mono HB.out.size)); have HA2 := Lib.hid (HA.out.below hb2); have HX2 := Lib.hid (below_heap hb2 HX.out); obtain ⟨⟨x0, x1, x2, x3, x4, x5, x6, x7⟩, _⟩ := eight_cells HX2.out; obtain ⟨ao, cap, ⟨c0, c1, c2, c3, c4, c5, c6, c7, c8, c9⟩, ⟨f0, f1, f2, f3, f4, f5, f6, f7, f8, f9⟩, hb, HC1, H1, H3⟩ := fns_open HA2.out; rw [ha] at c4; clear hb2)
  go_quiet (fail)
  have HDK := Lib.hid (below_drewN (Below.refl w2.heap.size w2) nq)
  go_wp2_with fail
  go_end0
  exact ⟨rfl, (H3.out _ (q.to q.was) ((Kept.ofBelow HDK.out _).setCell (p := ⟨b, 4, none⟩) (fun h => h rfl) _) rfl (tset4 (show (World.drewN w2 nq).heap[b]? = _ from H1.out) _)).ahead HG.out HB2.out⟩
end Go.Proofs.YthffjanidjjkdaaGreat
namespace Go.Proofs.YthffjanidjjkdaaGreat
set_option linter.unusedVariables false
open Go.RowKit
set_option maxRecDepth 20000
def twF : List (List Int) := [[0, 1]]
theorem two16_any (w : World) : Calls Tryz.prog 34 #[] w fun e w' => ∃ ao : Option Addr, e = .returned (.agg #[.int .i64 0, .slice ao 1 1]) ∧ CL w' ao twF ∧ (ao = none → (1 : Nat) = 0) ∧ Below w.heap.size w w' := by
  have hs : (w.alloc (.cells #[.int .i64 0, .slice (some ⟨w.heap.size + 1 + 1, 0, none⟩) 1 1] 30)).heap.size = w.heap.size + 1 := by simp
  have h1 := (lit1_chain (w.alloc (.cells #[.int .i64 0, .slice (some ⟨w.heap.size + 1 + 1, 0, none⟩) 1 1] 30)) (l := [0, 1]) (num_small (by simp))).here.1
  have hb := lit1_below (w.alloc (.cells #[.int .i64 0, .slice (some ⟨w.heap.size + 1 + 1, 0, none⟩) 1 1] 30)) [0, 1]
  unfold lit1W at h1 hb
  rw [hs] at h1 hb
  have HC := Lib.hid (show CL (((w.alloc (.cells #[.int .i64 0, .slice (some ⟨w.heap.size + 1 + 1, 0, none⟩) 1 1] 30)).alloc (.cells #[.int .i64 0, .int .i64 1] 3)).alloc (.cells #[.slice (some ⟨w.heap.size + 1, 0, none⟩) 2 2] 36)) (some ⟨w.heap.size + 1 + 1, 0, none⟩) [[0, 1]] from h1)
  have HB := Lib.hid (show Below w.heap.size w (((w.alloc (.cells #[.int .i64 0, .slice (some ⟨w.heap.size + 1 + 1, 0, none⟩) 1 1] 30)).alloc (.cells #[.int .i64 0, .int .i64 1] 3)).alloc (.cells #[.slice (some ⟨w.heap.size + 1, 0, none⟩) 2 2] 36)) from (below_new w (.cells #[.int .i64 0, .slice (some ⟨w.heap.size + 1 + 1, 0, none⟩) 1 1] 30)).trans (hb.mono (Nat.le_succ _)))
  have HP := Lib.hid (below_heap (show Below (w.alloc (.cells #[.int .i64 0, .slice (some ⟨w.heap.size + 1 + 1, 0, none⟩) 1 1] 30)).heap.size (w.alloc (.cells #[.int .i64 0, .slice (some ⟨w.heap.size + 1 + 1, 0, none⟩) 1 1] 30)) (((w.alloc (.cells #[.int .i64 0, .slice (some ⟨w.heap.size + 1 + 1, 0, none⟩) 1 1] 30)).alloc (.cells #[.int .i64 0, .int .i64 1] 3)).alloc (.cells #[.slice (some ⟨w.heap.size + 1, 0, none⟩) 2 2] 36)) from by rw [hs]; exact hb) (heap_alloc_new w (.cells #[.int .i64 0, .slice (some ⟨w.heap.size + 1 + 1, 0, none⟩) 1 1] 30)))
  clear hs h1 hb
  go_enter Tryz.func34, Tryz.ntmps34
  go_wp2_with fail
  exact proj_ret rfl HP.out rfl rfl ⟨_, rfl, HC.out, fun e => (by cases e), HB.out⟩
/-- so many questions of a fetch, all heard -/
def runW (h : Hd) (f : Fe) : Nat → Hd × Fe
  | 0 => (h, f)
  | k + 1 => ((runW h f k).1.asked (runW h f k).2.ask 0, (runW h f k).2.hear ((runW h f k).1.heard (runW h f k).2.ask 0) true)
def halfS : ByteArray := ⟨#[104, 97, 108, 102]⟩
def fwA : Hd := (⟨newN 0 twF 9, []⟩ : Hd).asked (akN 1 0 0 3 halfS) 0
def fwB : Hd := (runW fwA (newFe 0 twF 3 true) 3).1
def fwC : Hd := (runW fwB (newFe 0 twF 4 true) 4).1
/-- such a run is as the laws' Read wants it -/
structure WakeR (h : Hd) (f : Fe) (K : Nat) : Prop where
  le : K ≤ 20
  used : ∀ k, k ≤ K → (runW h f k).1.n.l.used.length ≤ 100000
  more : ∀ k, k < K → (runW h f k).2.at_ ≠ 7
  small : ∀ k, k < K → SmallF (runW h f k).2.ask
  data : ∀ k, k < K → ((runW h f k).1.heard (runW h f k).2.ask 0).data.size ≤ 1000000
  ends : (runW h f K).2.at_ = 7
theorem WakeR.run {h : Hd} {f : Fe} {K : Nat} (H : WakeR h f K) : RunF 0 (fun k h' f' => k ≤ K ∧ (h', f') = runW h f k) := by
  have lt : ∀ k h' f', k ≤ K → (h', f') = runW h f k → f'.at_ ≠ 7 → k < K := fun k h' f' hk he h7 => by
    rcases Nat.lt_or_ge k K with g | g
    · exact g
    · obtain rfl : k = K := by omega
      exact absurd (by rw [show f' = (runW h f k).2 from congrArg Prod.snd he]; exact H.ends) h7
  refine ⟨?_, ?_, ?_, ?_⟩
  · rintro k h' f' ⟨hk, _⟩
    have := H.le
    omega
  · rintro k h' f' ⟨hk, he⟩
    rw [show h' = (runW h f k).1 from congrArg Prod.fst he]
    exact H.used k hk
  · rintro k h' f' ⟨hk, he⟩ h7
    have hl := lt k h' f' hk he h7
    obtain rfl : h' = (runW h f k).1 := congrArg Prod.fst he
    obtain rfl : f' = (runW h f k).2 := congrArg Prod.snd he
    refine ⟨H.small k hl, fun m => ?_⟩
    have h0 := H.data k hl
    unfold Hd.heard at h0 ⊢
    split
    · exact h0
    · show (noS : ByteArray).size ≤ _
      decide
  · rintro k h' f' m ⟨hk, he⟩ h7 hm
    have hl := lt k h' f' hk he h7
    obtain rfl : h' = (runW h f k).1 := congrArg Prod.fst he
    obtain rfl : f' = (runW h f k).2 := congrArg Prod.snd he
    obtain rfl : m = 0 := hm (Nat.not_lt_zero k)
    exact ⟨by omega, rfl⟩
theorem few_tw : fewL twF := ⟨by decide, by decide⟩
theorem fw_one : WakeR fwA (newFe 0 twF 3 true) 3 := by
  refine ⟨by decide, fun k hk => ?_, fun k hk => ?_, fun k hk => ?_, fun k hk => ?_, by decide +kernel⟩
  · have : k = 0 ∨ k = 1 ∨ k = 2 ∨ k = 3 := by omega
    rcases this with rfl | rfl | rfl | rfl
    all_goals decide +kernel
  · have : k = 0 ∨ k = 1 ∨ k = 2 := by omega
    rcases this with rfl | rfl | rfl
    all_goals decide +kernel
  · have : k = 0 ∨ k = 1 ∨ k = 2 := by omega
    rcases this with rfl | rfl | rfl
    all_goals exact ⟨by decide +kernel, by decide +kernel, by decide +kernel, by decide +kernel, by decide +kernel⟩
  · have : k = 0 ∨ k = 1 ∨ k = 2 := by omega
    rcases this with rfl | rfl | rfl
    all_goals decide +kernel
theorem fw_one_ends : (runW fwA (newFe 0 twF 3 true) 3).2.overK = 1 ∧ (runW fwA (newFe 0 twF 3 true) 3).2.overS = halfS ∧ (runW fwA (newFe 0 twF 3 true) 3).2.overE = 0 ∧ (runW fwA (newFe 0 twF 3 true) 3).2.overB = true := by decide +kernel
theorem fw_two : WakeR fwB (newFe 0 twF 4 true) 4 := by
  refine ⟨by decide, fun k hk => ?_, fun k hk => ?_, fun k hk => ?_, fun k hk => ?_, by decide +kernel⟩
  · have : k = 0 ∨ k = 1 ∨ k = 2 ∨ k = 3 ∨ k = 4 := by omega
    rcases this with rfl | rfl | rfl | rfl | rfl
    all_goals decide +kernel
  · have : k = 0 ∨ k = 1 ∨ k = 2 ∨ k = 3 := by omega
    rcases this with rfl | rfl | rfl | rfl
    all_goals decide +kernel
  · have : k = 0 ∨ k = 1 ∨ k = 2 ∨ k = 3 := by omega
    rcases this with rfl | rfl | rfl | rfl
    all_goals exact ⟨by decide +kernel, by decide +kernel, by decide +kernel, by decide +kernel, by decide +kernel⟩
  · have : k = 0 ∨ k = 1 ∨ k = 2 ∨ k = 3 := by omega
    rcases this with rfl | rfl | rfl | rfl
    all_goals decide +kernel
theorem fw_two_ends : (runW fwB (newFe 0 twF 4 true) 4).2.overK = 2 ∧ (runW fwB (newFe 0 twF 4 true) 4).2.overS = ⟨#[]⟩ ∧ (runW fwB (newFe 0 twF 4 true) 4).2.overE = 0 ∧ (runW fwB (newFe 0 twF 4 true) 4).2.overB = true := by decide +kernel
theorem fw_three : WakeR fwC (newFe 0 twF 5 false) 2 := by
  refine ⟨by decide, fun k hk => ?_, fun k hk => ?_, fun k hk => ?_, fun k hk => ?_, by decide +kernel⟩
  · have : k = 0 ∨ k = 1 ∨ k = 2 := by omega
    rcases this with rfl | rfl | rfl
    all_goals decide +kernel
  · have : k = 0 ∨ k = 1 := by omega
    rcases this with rfl | rfl
    all_goals decide +kernel
  · have : k = 0 ∨ k = 1 := by omega
    rcases this with rfl | rfl
    all_goals exact ⟨by decide +kernel, by decide +kernel, by decide +kernel, by decide +kernel, by decide +kernel⟩
  · have : k = 0 ∨ k = 1 := by omega
    rcases this with rfl | rfl
    all_goals decide +kernel
theorem fw_three_ends : (runW fwC (newFe 0 twF 5 false) 2).2.overK = 0 ∧ (runW fwC (newFe 0 twF 5 false) 2).2.overS = ⟨#[]⟩ ∧ (runW fwC (newFe 0 twF 5 false) 2).2.overE = 0 ∧ (runW fwC (newFe 0 twF 5 false) 2).2.overB = true := by decide +kernel
theorem fw_read : (fwB.n.u 1).p.readE 3 = 0 ∧ (fwB.n.u 1).p.readS 3 = halfS := by decide +kernel
theorem fread_wake {UG : Nat → Nat → (Nat → Prop) → World → Us → Prop} {OG : Nat → (Nat → Prop) → World → Od → Prop} {LG : Nat → (Nat → Prop) → World → Ly → Prop} {NG : Nat → (Nat → Prop) → World → Nd → Prop} {HG : Nat → Nat → (Nat → Prop) → World → Hd → Prop} {FG : Nat → (Nat → Prop) → World → Fe → Prop} (HS : HandSays UG OG LG NG HG) (FS : FetchSays FG) (b nb : Nat) (X : Nat → Prop) (w : World) (h0 : Hd) (hs : Solo (HG b nb) X w h0) (a : Int) (ha : 0 ≤ a ∧ a < 42) (fill : Bool) (ao : Option Addr) (hC : CL w ao twF) (hn : ao = none → (1 : Nat) = 0) (K : Nat) (H : WakeR h0 (newFe 0 twF a fill) K) (V : Int) (S : ByteArray)
    (hE : (runW h0 (newFe 0 twF a fill) K).2.overK = V ∧ (runW h0 (newFe 0 twF a fill) K).2.overS = S ∧ (runW h0 (newFe 0 twF a fill) K).2.overE = 0 ∧ (runW h0 (newFe 0 twF a fill) K).2.overB = true) :
    Calls Tryz.prog 19 #[.pointer (some ⟨b, 0, none⟩), .agg #[.int .i64 0, .slice ao 1 1], .int .i64 a, .bool fill, .slice none 0 0] w fun e w' => e = .returned (.tuple #[.int .i64 V, .string S, .int .i64 0, .bool true]) ∧ Solo (HG b nb) X w' (runW h0 (newFe 0 twF a fill) K).1 ∧ Kept X w w' := by
  refine (fread_run HS FS b nb X w h0 hs twF few_tw a ha fill ao 1 hC hn (Nat.le_refl _) none 0 [] (Nat.zero_le _) (fun W _ => Row.nil _ _ _ _) (fun x hx => by cases hx) _ H.run ⟨Nat.zero_le _, rfl⟩).mono ?_
  rintro e w' ⟨k, h', f', ⟨hk, he⟩, h7, rfl, h8, h9⟩
  have hkK : k = K := by
    rcases Nat.lt_or_ge k K with g | g
    · exact absurd (by rw [← show f' = (runW h0 (newFe 0 twF a fill) k).2 from congrArg Prod.snd he]; exact h7) (H.more k g)
    · omega
  subst hkK
  obtain rfl : h' = (runW h0 (newFe 0 twF a fill) k).1 := congrArg Prod.fst he
  obtain rfl : f' = (runW h0 (newFe 0 twF a fill) k).2 := congrArg Prod.snd he
  obtain ⟨e1, e2, e3, e4⟩ := hE
  rw [e1, e2, e3, e4]
  exact ⟨rfl, h8, h9⟩
theorem made16_two {UG : Nat → Nat → (Nat → Prop) → World → Us → Prop} {OG : Nat → (Nat → Prop) → World → Od → Prop} {LG : Nat → (Nat → Prop) → World → Ly → Prop} {NG : Nat → (Nat → Prop) → World → Nd → Prop} {HG : Nat → Nat → (Nat → Prop) → World → Hd → Prop} (HS : HandSays UG OG LG NG HG) (ao : Option Addr) (L : List (List Int)) (n : Nat) (hL : L.length = n) (room : Int) (w : World) (hC : CL w ao L) (hf : fewL L) (hg : goodB 0 L = true) (hr : 1 ≤ room ∧ room ≤ 4096) :
    Calls Tryz.prog 7 #[.agg #[.int .i64 0, .slice ao n n], .int .i64 room] w fun e w' => ∃ b nb : Nat, ∃ p : Value, e = .returned (.tuple #[.pointer (some ⟨b, 0, none⟩), p, .bool true]) ∧ Solo (HG b nb) (fun k => k < w.heap.size) w' ⟨newN 0 L room, []⟩ ∧ Below w.heap.size w w' := by
  subst hL
  refine (made14_yes HS 0 ao L.length L room w hC hf hg hr (i64w_small (x := 0) (by omega))).mono ?_
  rintro e w' ⟨b, nb, r, rn, he, hs, hb⟩
  exact ⟨b, nb, _, he, hs.left, hb⟩
set_option maxHeartbeats 8000000 in
theorem wakes16_any {UG : Nat → Nat → (Nat → Prop) → World → Us → Prop} {OG : Nat → (Nat → Prop) → World → Od → Prop} {LG : Nat → (Nat → Prop) → World → Ly → Prop} {NG : Nat → (Nat → Prop) → World → Nd → Prop} {HG : Nat → Nat → (Nat → Prop) → World → Hd → Prop} {FG : Nat → (Nat → Prop) → World → Fe → Prop} (HS : HandSays UG OG LG NG HG) (FS : FetchSays FG) (LS : LooksSays UG) (w : World) : Calls Tryz.prog 10 #[] w fun e w' => e = .returned (.bool true) ∧ Below w.heap.size w w' := by
  have ZZ := Lib.hid (fun (x : Int) (h : 0 ≤ x ∧ x ≤ 110) => show i64w x from WalkArith.wf_i64 (by omega))
  have TT := Lib.hid (fun b nb => HS.thing b nb)
  have CT := Lib.hid two16_any
  have CM := Lib.hid (fun ao w hC => made16_two HS ao twF 1 rfl 9 w hC few_tw (by decide +kernel) (by decide))
  have U0 := Lib.hid (show (⟨newN 0 twF 9, []⟩ : Hd).n.l.used.length ≤ 100000 from by decide +kernel)
  have D0 := Lib.hid (show halfS.size ≤ 1000000 from by decide)
  have CA := Lib.hid (fun b nb X W hs a ha fill ao hC hn => fun K H V S hE => fread_wake HS FS b nb X W fwA hs a ha fill ao hC hn K H V S hE)
  have CR := Lib.hid (fun b nb X W h hs a ha fill ao hC hn K H V S hE => fread_wake HS FS b nb X W h hs a ha fill ao hC hn K H V S hE)
  go_enter Tryz.func10, Tryz.ntmps10
  go_wp2_with (first
    | (go_at_call 19; refine (CR.out b nb (fun k => k < w.heap.size) _ fwC S12.out 5 (by omega) false ao12 C12.out N12.out 2 fw_three 0 ⟨#[]⟩ fw_three_ends).mono ?_; rintro e w13 ⟨rfl, hs13, hk13⟩; have S13 := Lib.hid hs13; have B13 := Lib.hid (B12.out.trans (hk13.toBelow B12.out.size (fun j h => h))); clear hs13 hk13)
    | (go_at_call 34; refine (CT.out w11).mono ?_; rintro e w12 ⟨ao12, rfl, hC, hn, hb⟩; have S12 := Lib.hid (S11.out.below (TT.out b nb) hb); have B12 := Lib.hid (B11.out.trans (hb.mono B11.out.size)); have C12 := Lib.hid hC; have N12 := Lib.hid hn; clear hC hn hb)
    | (go_at_call 19; refine (CR.out b nb (fun k => k < w.heap.size) _ fwB S10.out 4 (by omega) true ao10 C10.out N10.out 4 fw_two 2 ⟨#[]⟩ fw_two_ends).mono ?_; rintro e w11 ⟨rfl, hs11, hk11⟩; have S11 := Lib.hid (show Solo (HG b nb) (fun k => k < w.heap.size) w11 fwC from hs11); have B11 := Lib.hid (B10.out.trans (hk11.toBelow B10.out.size (fun j h => h))); clear hs11 hk11)
    | (go_at_call 34; refine (CT.out w9).mono ?_; rintro e w10 ⟨ao10, rfl, hC, hn, hb⟩; have S10 := Lib.hid (S9.out.below (TT.out b nb) hb); have B10 := Lib.hid (B9.out.trans (hb.mono B9.out.size)); have C10 := Lib.hid hC; have N10 := Lib.hid hn; clear hC hn hb)
    | (go_at_call 18; refine (LS.read bu pb F7 w8 _ 3 P8.out (ZZ.out 3 (by omega))).mono ?_; rw [show (fwB.n.u 1).p.readE 3 = 0 from fw_read.1, show (fwB.n.u 1).p.readS 3 = ⟨#[104, 97, 108, 102]⟩ from fw_read.2]; rintro e w9 ⟨rfl, hb⟩; have S9 := Lib.hid (S8.out.below (TT.out b nb) hb); have B9 := Lib.hid (B8.out.trans (hb.mono B8.out.size)); clear hb)
    | (go_at_call 17; refine (ho_pages HS P7.out).mono ?_; rintro e w8 ⟨rfl, hf, hb⟩; have P8 := Lib.hid hf; have S8 := Lib.hid (S7.out.below (TT.out b nb) hb); have B8 := Lib.hid (B7.out.trans (hb.mono B7.out.size)); clear hf hb)
    | (go_at_call 16; refine (ho_unit HS S6.out (i := 1) (by decide)).mono ?_; rintro e w7 ⟨bu, pb, rfl, hb, F7, hf⟩; have P7 := Lib.hid hf; have S7 := Lib.hid (S6.out.below (TT.out b nb) hb); have B7 := Lib.hid (B6.out.trans (hb.mono B6.out.size)); clear hf hb)
    | (go_at_call 15; refine (ho_nodes HS S5.out).mono ?_; rintro e w6 ⟨rfl, hs, hb⟩; have S6 := Lib.hid hs; have B6 := Lib.hid (B5.out.trans (hb.mono B5.out.size)); clear hs hb)
    | (go_at_call 19; refine (CR.out b nb (fun k => k < w.heap.size) _ fwA S4.out 3 (by omega) true ao4 C4.out N4.out 3 fw_one 1 ⟨#[104, 97, 108, 102]⟩ fw_one_ends).mono ?_; rintro e w5 ⟨rfl, hs5, hk5⟩; have S5 := Lib.hid (show Solo (HG b nb) (fun k => k < w.heap.size) w5 fwB from hs5); have B5 := Lib.hid (B4.out.trans (hk5.toBelow B4.out.size (fun j h => h))); clear hs5 hk5)
    | (go_at_call 34; refine (CT.out w3).mono ?_; rintro e w4 ⟨ao4, rfl, hC, hn, hb⟩; have S4 := Lib.hid (S3.out.below (TT.out b nb) hb); have B4 := Lib.hid (B3.out.trans (hb.mono B3.out.size)); have C4 := Lib.hid hC; have N4 := Lib.hid hn; clear hC hn hb)
    | (go_at_call 21; refine (ho_ask HS S2.out (k := 1) (un := 0) (e := 0) (p := 3) (s := halfS) (fate := 0) (by omega) (ZZ.out 0 (by omega)) (ZZ.out 0 (by omega)) (ZZ.out 3 (by omega)) D0.out U0.out (ZZ.out 0 (by omega))).mono ?_; rintro e w3 ⟨xc, xn, xm, xz, xe, xd, vo, vc, c, hc, rfl, hx, hs, hk⟩; have S3 := Lib.hid (show Solo (HG b nb) (fun k => k < w.heap.size) w3 fwA from hs); have B3 := Lib.hid (B2.out.trans (hk.toBelow B2.out.size (fun j h => h))); clear hs hk hx hc)
    | (go_at_call 7; refine (CM.out _ _ C1.out).mono ?_; rintro e w2 ⟨b, nb, p, rfl, hs2, hb2⟩; have S2 := Lib.hid (hs2.less (fun k hk => Nat.lt_of_lt_of_le hk B1.out.size)); have B2 := Lib.hid (B1.out.trans (hb2.mono B1.out.size)); clear hs2 hb2)
    | (go_at_call 34; refine (CT.out w).mono ?_; rintro e w1 ⟨ao1, rfl, hC1, hn1, hb1⟩; have B1 := Lib.hid hb1; have C1 := Lib.hid hC1; clear hC1 hn1 hb1))
  go_ret
  exact ⟨rfl, B13.out⟩
/-- texts that may be laid -/
def fairP (l : List Pt) : Bool := l.all (fun p => decide (p.s.size ≤ 1000))
theorem fair16_any (lo : Option Addr) (lc : Nat) (l : List Pt) (hl : l.length ≤ maxLen) (w : World) (hR : Row w lo 4 putC l) (hK : ∀ p ∈ l, p.s.size ≤ maxLen) :
    Calls Tryz.prog 9 #[.slice lo l.length lc] w fun e w' => e = .returned (.bool (fairP l)) ∧ w = w' := by
  unfold maxLen at hl hK
  have HR := Lib.hid hR
  have HK := Lib.hid hK
  have hl' : (l.length : Int) ≤ 9223372036854775807 := by omega
  clear hR hK
  go_enter Tryz.func9, Tryz.ntmps9
  go_wp2_with fail
  go_loopw [3] (fun i wr => ∃ k : Nat, i = .int .i64 k ∧ k ≤ l.length ∧ wr = w ∧ ∀ p ∈ l.take k, p.s.size ≤ 1000) (fun i _ => l.length - (intOf i).toNat)
  case atStart => exact ⟨0, rfl, Nat.zero_le _, rfl, fun p hp => by simp at hp⟩
  case round =>
    obtain ⟨k, rfl, hk, rfl, hp⟩ := hrel
    by_cases hkl : k < l.length
    · have n1 : (k : Int) < (l.length : Int) := by omega
      obtain ⟨bk, off, hlo, _, _, _, cs⟩ := put_at HR.out hkl
      subst hlo
      have hz := HK.out _ (List.getElem_mem hkl)
      have HP := Lib.hid hp
      have HE := Lib.hid (show l[k] ∈ l from List.getElem_mem hkl)
      have HTK := Lib.hid (show l.take (k + 1) = l.take k ++ [l[k]] from by rw [List.take_add_one, List.getElem?_eq_getElem hkl]; rfl)
      clear hp
      generalize l[k] = pt at *
      by_cases h1 : 1000 < pt.s.size
      · have h1' : (1000 : Int) < (pt.s.size : Int) := by omega
        have HF := Lib.hid (show fairP l = false from by
          unfold fairP
          rw [List.all_eq_false]
          exact ⟨pt, HE.out, by simp; omega⟩)
        clear h1
        go_wp2_with fail
        go_ret
        rw [HF.out]
        exact ⟨rfl, by first | rfl | trivial⟩
      · have h1' : ¬ (1000 : Int) < (pt.s.size : Int) := by omega
        go_wp2_with fail
        refine ⟨⟨k + 1, by go_num, by omega, by first | rfl | trivial, fun p hp => ?_⟩, by simp [intOf]; omega⟩
        rw [HTK.out] at hp
        rcases List.mem_append.1 hp with hp | hp
        · exact HP.out p hp
        · rw [List.mem_singleton.1 hp]; omega
    · have n1 : ¬ (k : Int) < (l.length : Int) := by omega
      have HF := Lib.hid (show fairP l = true from by
        unfold fairP
        rw [List.all_eq_true]
        intro p hp2
        rw [List.take_of_length_le (by omega)] at hp
        exact decide_eq_true (hp p hp2))
      clear hp
      go_wp2_with fail
      go_ret
      rw [HF.out]
      exact ⟨rfl, by first | rfl | trivial⟩
end Go.Proofs.YthffjanidjjkdaaGreat
namespace Go.Proofs.YthffjanidjjkdaaGreat
set_option linter.unusedVariables false
open Go.RowKit
set_option maxRecDepth 20000
section
variable {UG : Nat → Nat → (Nat → Prop) → World → Us → Prop} {OG : Nat → (Nat → Prop) → World → Od → Prop} {LG : Nat → (Nat → Prop) → World → Ly → Prop} {NG : Nat → (Nat → Prop) → World → Nd → Prop}
/-- a hand over no nodes -/
def NoH (b : Nat) (w : World) : Prop := w.heap[b]? = some (.cells #[.pointer none, .slice none 0 0] 87 (0, 0))
theorem nodes_noh {b : Nat} {w : World} (h : NoH b w) : Calls Tryz.prog 15 #[.pointer (some ⟨b, 0, none⟩)] w fun e w' => e = .returned (.pointer none) ∧ w = w' := by
  have c0 := cell_of h 0
  have hb := lt_of_block h
  clear h
  go_enter Tryz.func15, Tryz.ntmps15
  go_wp2_with fail
  go_ret
  exact ⟨rfl, rfl⟩
theorem ask_none (p : Option Addr) (a : Ak) (fate : Int) (w : World) (h : ∀ W, Below w.heap.size w W → Calls Tryz.prog 15 #[.pointer p] W fun e w' => e = .returned (.pointer none) ∧ W = w') :
    Calls Tryz.prog 21 #[.pointer p, askV a, .int .i64 fate] w fun e w' => e = .returned (heardT zeroX false none 0) ∧ Below w.heap.size w w' := by
  obtain ⟨k, un, ep, pg, sz, nn, s, pe, L, ao, cap⟩ := a
  have hb : Below w.heap.size w ((w.alloc (.cells #[.int .i64 k, .int .i64 un, .int .i64 ep, .int .i64 pg, .int .i64 sz, .int .i64 nn, .string s, .int .i64 pe, .slice ao L.length cap] 62)).alloc (.cells zero8 58)) := ((Below.refl _ _).alloc (Nat.le_refl _) _).alloc (by simp) _
  have hq := (two_blocks w #[.int .i64 k, .int .i64 un, .int .i64 ep, .int .i64 pg, .int .i64 sz, .int .i64 nn, .string s, .int .i64 pe, .slice ao L.length cap] zero8 62 58).2
  generalize hW0 : ((w.alloc (.cells #[.int .i64 k, .int .i64 un, .int .i64 ep, .int .i64 pg, .int .i64 sz, .int .i64 nn, .string s, .int .i64 pe, .slice ao L.length cap] 62)).alloc (.cells zero8 58)) = W0 at *
  have EW := Lib.hid (show ((w.alloc (.cells #[.int .i64 k, .int .i64 un, .int .i64 ep, .int .i64 pg, .int .i64 sz, .int .i64 nn, .string s, .int .i64 pe, .slice ao L.length cap] 62)).alloc (.cells #[.int .i64 0, .int .i64 0, .string ⟨#[]⟩, .int .i64 0, .slice none 0 0, .int .i64 0, .int .i64 0, .int .i64 0] 58)) = W0 from hW0)
  have HN := Lib.hid (h W0 hb)
  have HQ := Lib.hid hq
  have HB := Lib.hid hb
  have hl := lt_of_block hq
  obtain ⟨⟨ny0, ny1, ny2, ny3, ny4, ny5, ny6, ny7⟩, nf0, nf1, nf2, nf3, nf4, nf5, nf6, nf7⟩ := eight_cells hq
  clear hW0 hq hb h
  show Calls _ _ #[.pointer p, .agg #[.int .i64 k, .int .i64 un, .int .i64 ep, .int .i64 pg, .int .i64 sz, .int .i64 nn, .string s, .int .i64 pe, .slice ao L.length cap], .int .i64 fate] w _
  go_enter Tryz.func21, Tryz.ntmps21
  go_wp2_with (go_at_call 15; rw [EW.out]; refine HN.out.mono ?_; rintro e w1 ⟨rfl, rfl⟩)
  exact ans_ret2 (x := zeroX) (ao := none) (cap := 0) (c := false) rfl (hp_eight HQ.out (.int .i64 0) (.int .i64 0) (.string ⟨#[]⟩) (.int .i64 0) (.slice none 0 0) (.int .i64 0) (.int .i64 0) (.int .i64 0)) rfl rfl rfl ⟨rfl, HB.out.trans (((hp_eight_kept W0 (w.heap.size + 1) (.int .i64 0) (.int .i64 0) (.string ⟨#[]⟩) (.int .i64 0) (.slice none 0 0) (.int .i64 0) (.int .i64 0) (.int .i64 0)).mono (T := fun j => j < w.heap.size) (fun j h => by omega)).toBelow (by omega) (fun j h => h))⟩
theorem take_noh {b : Nat} {w : World} (h : NoH b w) (k : Int) : Calls Tryz.prog 121 #[.pointer (some ⟨b, 0, none⟩), .int .i64 k] w fun e w' => e = .returned (.tuple #[askV zeroQ, .bool false]) ∧ Below w.heap.size w w' := by
  have HQ := Lib.hid (heap_alloc_new w (.cells #[.int .i64 0, .int .i64 0, .int .i64 0, .int .i64 0, .int .i64 0, .int .i64 0, .string ⟨#[]⟩, .int .i64 0, .slice none 0 0] 62))
  have HB := Lib.hid (below_new w (.cells #[.int .i64 0, .int .i64 0, .int .i64 0, .int .i64 0, .int .i64 0, .int .i64 0, .string ⟨#[]⟩, .int .i64 0, .slice none 0 0] 62))
  have hb := lt_of_block h
  obtain ⟨_, c1, _, _⟩ := two_cells h
  clear h
  by_cases h0 : k < 0
  · go_enter Tryz.func121, Tryz.ntmps121
    go_wp2_with fail
    exact ask_ret2 (x := zeroQ) (c := false) rfl HQ.out rfl rfl rfl ⟨rfl, HB.out⟩
  · have h2 : 0 ≤ k := by omega
    clear h0
    go_enter Tryz.func121, Tryz.ntmps121
    go_wp2_with fail
    exact ask_ret2 (x := zeroQ) (c := false) rfl HQ.out rfl rfl rfl ⟨rfl, HB.out⟩
theorem do_noh {b : Nat} {w : World} (h : NoH b w) (k : Int) : Calls Tryz.prog 120 #[.pointer (some ⟨b, 0, none⟩), .int .i64 k] w fun e w' => e = .returned (.bool false) ∧ Below w.heap.size w w' := by
  have HT := Lib.hid (take_noh h k)
  clear h
  go_enter Tryz.func120, Tryz.ntmps120
  go_wp2_with (go_at_call 121; refine HT.out.mono ?_; rintro e w1 ⟨he, hb1⟩; obtain rfl : e = .returned (.tuple #[.agg #[.int .i64 0, .int .i64 0, .int .i64 0, .int .i64 0, .int .i64 0, .int .i64 0, .string ⟨#[]⟩, .int .i64 0, .slice none 0 0], .bool false]) := he)
  go_ret
  exact ⟨rfl, hb1.trans (below_new w1 _ |>.mono hb1.size)⟩
theorem hnew_no (w : World) : Calls Tryz.prog 33 #[.pointer none] w fun e w' => ∃ b : Nat, e = .returned (.pointer (some ⟨b, 0, none⟩)) ∧ NoH b w' ∧ Below w.heap.size w w' := by
  have HP := Lib.hid (heap_alloc_new w (.cells #[.pointer none, .slice none 0 0] 87))
  have HB := Lib.hid (below_new w (.cells #[.pointer none, .slice none 0 0] 87))
  go_enter Tryz.func33, Tryz.ntmps33
  go_wp2_with fail
  go_ret
  exact ⟨w.heap.size, rfl, HP.out, HB.out⟩
end
end Go.Proofs.YthffjanidjjkdaaGreat
