/- What the program's append makes of a layout that it hears. Conditions: it lies where the call was told; the answer's chains lie there too. (Written by gen/genamp.py.) The program's hand keeps all that the laws of a hand ask, over any nodes that keep what the laws of all nodes ask. Conditions: as each statement says. Plain facts on appends that go on between each other: one question more, as the hand hears it; the units of an address's chain; stores beside things. Conditions: as each statement says. -/
import Derived.Test.YtimjlfkdbkafeaaGreatG29a
import Derived.Test.YtimjlfkdbkafeaaGreatG14a
set_option linter.unusedVariables false
namespace Go.Proofs.YtimjlfkdbkafeaaGreat
set_option linter.unusedVariables false
open Go.RowKit
set_option maxRecDepth 20000
theorem lv_use {α : Type} {T : (Nat → Prop) → World → α → Prop} {G : Nat → Prop} {w W : World} {a : α} (hG : ∀ k, G k → k < w.heap.size) (h : Leaves T G w W a) :
    ∃ H : Nat → Prop, T H W a ∧ ∀ W2 a', Leaves T H W W2 a' → Leaves T G w W2 a' := by
  obtain ⟨H, h1, h2, h3⟩ := h
  refine ⟨H, h1, fun W2 a' hl => ?_⟩
  obtain ⟨H', r1, r2, r3⟩ := hl
  refine ⟨H', r1, ?_, fun k hk => ?_⟩
  · refine ⟨r2.os.trans h2.os, r2.tape.trans h2.tape, r2.output.trans h2.output, Nat.le_trans h2.size r2.size, fun k hg hkl => ?_⟩
    have hn : ¬ H k := fun hf => by
      rcases h3 k hf with h | h
      · exact hg h
      · omega
    rw [r2.block k hn (Nat.lt_of_lt_of_le hkl h2.size)]
    exact h2.block k hg hkl
  · rcases r3 k hk with h | h
    · exact h3 k h
    · exact .inr (Nat.le_trans h2.size h)
/-- an answer was boxed: what lies where -/
theorem ans_start {b : Nat} {G : Nat → Prop} {w : World} {q : Qa} (h : AQ b G w q) (xc xn : Int) (xd : ByteArray) (xe : Int) (xo : Option Addr) (n xp : Nat) (xm xs xy : Int) {w1 : World} (hw : w.alloc (.cells #[.int .i64 xc, .int .i64 xn, .string xd, .int .i64 xe, .slice xo n xp, .int .i64 xm, .int .i64 xs, .int .i64 xy] 40) = w1) :
    Hid (∀ k, G k → k < w.heap.size) ∧ Hid (Below w.heap.size w w1) ∧ Hid (w1.heap[w.heap.size]? = some (.cells #[.int .i64 xc, .int .i64 xn, .string xd, .int .i64 xe, .slice xo n xp, .int .i64 xm, .int .i64 xs, .int .i64 xy] 40)) ∧ Hid (AQ b G w1 q) ∧
    (w1.cell? ⟨w.heap.size, 0, none⟩ = some (.int .i64 xc) ∧ w1.cell? ⟨w.heap.size, 1, none⟩ = some (.int .i64 xn) ∧ w1.cell? ⟨w.heap.size, 2, none⟩ = some (.string xd) ∧ w1.cell? ⟨w.heap.size, 3, none⟩ = some (.int .i64 xe) ∧ w1.cell? ⟨w.heap.size, 4, none⟩ = some (.slice xo n xp) ∧ w1.cell? ⟨w.heap.size, 5, none⟩ = some (.int .i64 xm) ∧ w1.cell? ⟨w.heap.size, 6, none⟩ = some (.int .i64 xs) ∧ w1.cell? ⟨w.heap.size, 7, none⟩ = some (.int .i64 xy)) ∧
    ∃ ao cap, (w1.cell? ⟨b, 0, none⟩ = some (.int .i64 q.ep) ∧ w1.cell? ⟨b, 1, none⟩ = some (.slice ao q.L.length cap) ∧ w1.cell? ⟨b, 2, none⟩ = some (.string q.txt) ∧ w1.cell? ⟨b, 3, none⟩ = some (.int .i64 q.at_) ∧ w1.cell? ⟨b, 4, none⟩ = some (.int .i64 q.was) ∧ w1.cell? ⟨b, 5, none⟩ = some (.int .i64 q.addr) ∧ w1.cell? ⟨b, 6, none⟩ = some (.int .i64 q.unit) ∧ w1.cell? ⟨b, 7, none⟩ = some (.bool q.may) ∧ w1.cell? ⟨b, 8, none⟩ = some (.int .i64 q.err)) ∧ (w1.frozen? ⟨b, 0, none⟩ = false ∧ w1.frozen? ⟨b, 1, none⟩ = false ∧ w1.frozen? ⟨b, 2, none⟩ = false ∧ w1.frozen? ⟨b, 3, none⟩ = false ∧ w1.frozen? ⟨b, 4, none⟩ = false ∧ w1.frozen? ⟨b, 5, none⟩ = false ∧ w1.frozen? ⟨b, 6, none⟩ = false ∧ w1.frozen? ⟨b, 7, none⟩ = false ∧ w1.frozen? ⟨b, 8, none⟩ = false) ∧ b < w1.heap.size ∧ Hid (CL w1 ao q.L) ∧ Hid (w1.heap[b]? = some (.cells #[.int .i64 q.ep, .slice ao q.L.length cap, .string q.txt, .int .i64 q.at_, .int .i64 q.was, .int .i64 q.addr, .int .i64 q.unit, .bool q.may, .int .i64 q.err] 84 (0, 0))) ∧
    Hid (∀ (W : World) (q' : Qa), Kept (fun k => k ≠ b) w1 W → q'.L = q.L → W.heap[b]? = some (.cells #[.int .i64 q'.ep, .slice ao q.L.length cap, .string q'.txt, .int .i64 q'.at_, .int .i64 q'.was, .int .i64 q'.addr, .int .i64 q'.unit, .bool q'.may, .int .i64 q'.err] 84 (0, 0)) → Leaves (AQ b) G w1 W q') := by
  subst hw
  have HB := below_new w (.cells #[.int .i64 xc, .int .i64 xn, .string xd, .int .i64 xe, .slice xo n xp, .int .i64 xm, .int .i64 xs, .int .i64 xy] 40)
  have HX := heap_alloc_new w (.cells #[.int .i64 xc, .int .i64 xn, .string xd, .int .i64 xe, .slice xo n xp, .int .i64 xm, .int .i64 xs, .int .i64 xy] 40)
  have HA := h.below HB
  obtain ⟨ao, cap, h1, hc1, h3⟩ := HA.open
  obtain ⟨k1, k2⟩ := nine_of h1
  exact ⟨Lib.hid (fun k hk => (aq_thing b).lt h k hk), Lib.hid HB, Lib.hid HX, Lib.hid HA, (eight_cells HX).1, ao, cap, k1, k2, lt_of_block h1, Lib.hid hc1, Lib.hid h1, Lib.hid h3⟩
/-- memory was made meanwhile -/
theorem ans_again {b g : Nat} {G : Nat → Prop} {w w1 w2 : World} {q : Qa} {v0 v1 v2 v3 v4 v5 v6 v7 : Value} {t : TypeId} (HB : Hid (Below w.heap.size w w1)) (HA : Hid (AQ b G w1 q)) (HX : Hid (w1.heap[g]? = some (.cells #[v0, v1, v2, v3, v4, v5, v6, v7] t (0, 0)))) (hb2 : Below w1.heap.size w1 w2) :
    Hid (Below w.heap.size w w2) ∧ Hid (AQ b G w2 q) ∧ Hid (w2.heap[g]? = some (.cells #[v0, v1, v2, v3, v4, v5, v6, v7] t (0, 0))) ∧ (w2.cell? ⟨g, 0, none⟩ = some v0 ∧ w2.cell? ⟨g, 1, none⟩ = some v1 ∧ w2.cell? ⟨g, 2, none⟩ = some v2 ∧ w2.cell? ⟨g, 3, none⟩ = some v3 ∧ w2.cell? ⟨g, 4, none⟩ = some v4 ∧ w2.cell? ⟨g, 5, none⟩ = some v5 ∧ w2.cell? ⟨g, 6, none⟩ = some v6 ∧ w2.cell? ⟨g, 7, none⟩ = some v7) ∧
    ∃ ao cap, (w2.cell? ⟨b, 0, none⟩ = some (.int .i64 q.ep) ∧ w2.cell? ⟨b, 1, none⟩ = some (.slice ao q.L.length cap) ∧ w2.cell? ⟨b, 2, none⟩ = some (.string q.txt) ∧ w2.cell? ⟨b, 3, none⟩ = some (.int .i64 q.at_) ∧ w2.cell? ⟨b, 4, none⟩ = some (.int .i64 q.was) ∧ w2.cell? ⟨b, 5, none⟩ = some (.int .i64 q.addr) ∧ w2.cell? ⟨b, 6, none⟩ = some (.int .i64 q.unit) ∧ w2.cell? ⟨b, 7, none⟩ = some (.bool q.may) ∧ w2.cell? ⟨b, 8, none⟩ = some (.int .i64 q.err)) ∧ (w2.frozen? ⟨b, 0, none⟩ = false ∧ w2.frozen? ⟨b, 1, none⟩ = false ∧ w2.frozen? ⟨b, 2, none⟩ = false ∧ w2.frozen? ⟨b, 3, none⟩ = false ∧ w2.frozen? ⟨b, 4, none⟩ = false ∧ w2.frozen? ⟨b, 5, none⟩ = false ∧ w2.frozen? ⟨b, 6, none⟩ = false ∧ w2.frozen? ⟨b, 7, none⟩ = false ∧ w2.frozen? ⟨b, 8, none⟩ = false) ∧ b < w2.heap.size ∧ Hid (w2.heap[b]? = some (.cells #[.int .i64 q.ep, .slice ao q.L.length cap, .string q.txt, .int .i64 q.at_, .int .i64 q.was, .int .i64 q.addr, .int .i64 q.unit, .bool q.may, .int .i64 q.err] 84 (0, 0))) ∧
    Hid (∀ (W : World) (q' : Qa), Kept (fun k => k ≠ b) w2 W → q'.L = q.L → W.heap[b]? = some (.cells #[.int .i64 q'.ep, .slice ao q.L.length cap, .string q'.txt, .int .i64 q'.at_, .int .i64 q'.was, .int .i64 q'.addr, .int .i64 q'.unit, .bool q'.may, .int .i64 q'.err] 84 (0, 0)) → Leaves (AQ b) G w2 W q') := by
  have HA2 := HA.out.below hb2
  have HX2 := below_heap hb2 HX.out
  obtain ⟨ao, cap, h1, hc1, h3⟩ := HA2.open
  obtain ⟨k1, k2⟩ := nine_of h1
  exact ⟨Lib.hid (HB.out.trans (hb2.mono HB.out.size)), Lib.hid HA2, Lib.hid HX2, (eight_cells HX2).1, ao, cap, k1, k2, lt_of_block h1, Lib.hid h1, Lib.hid h3⟩
set_option maxHeartbeats 1000000 in
theorem learn_a1 (b : Nat) (G : Nat → Prop) (w : World) (q : Qa) (xc xn : Int) (xd : ByteArray) (xe : Int) (xL : List (List Int)) (xm xs xy : Int) (xo : Option Addr) (xp : Nat) (h : AQ b G w q) (hf : fewL xL) (hx : CL w xo xL) (n0 : ¬ xc = 0) (ha : q.at_ = 1) :
    Calls Tryz.prog 39 #[ptrP b, .agg #[.int .i64 xc, .int .i64 xn, .string xd, .int .i64 xe, .slice xo xL.length xp, .int .i64 xm, .int .i64 xs, .int .i64 xy]] w fun e w' => e = .returned (.tuple #[]) ∧ Leaves (AQ b) G w w' (q.to q.was) := by
  obtain ⟨HG, HB, HX, HA, ⟨x0, x1, x2, x3, x4, x5, x6, x7⟩, ao, cap, ⟨c0, c1, c2, c3, c4, c5, c6, c7, c8⟩, ⟨f0, f1, f2, f3, f4, f5, f6, f7, f8⟩, hb, HC1, H1, H3⟩ := ans_start h xc xn xd xe xo xL.length xp xm xs xy rfl
  have HC := Lib.hid (hx.below HB.out)
  have e0 : (xc == 0) = false := by simpa using n0
  rw [ha] at c3
  clear h hf hx
  unfold ptrP at *
  go_enter Tryz.func39, Tryz.ntmps39
  go_wp2_with fail
  go_quiet (fail)
  have HDK := Lib.hid (below_drewN (Below.refl (w.alloc (.cells #[.int .i64 xc, .int .i64 xn, .string xd, .int .i64 xe, .slice xo xL.length xp, .int .i64 xm, .int .i64 xs, .int .i64 xy] 40)).heap.size (w.alloc (.cells #[.int .i64 xc, .int .i64 xn, .string xd, .int .i64 xe, .slice xo xL.length xp, .int .i64 xm, .int .i64 xs, .int .i64 xy] 40))) nq)
  go_wp2_with fail
  go_end0
  exact ⟨rfl, (H3.out _ (q.to q.was) ((Kept.ofBelow HDK.out _).setCell (p := ⟨b, 3, none⟩) (fun h => h rfl) _) rfl (nset3 (show (World.drewN (w.alloc (.cells #[.int .i64 xc, .int .i64 xn, .string xd, .int .i64 xe, .slice xo xL.length xp, .int .i64 xm, .int .i64 xs, .int .i64 xy] 40)) nq).heap[b]? = _ from H1.out) _)).ahead HG.out HB.out⟩
set_option maxHeartbeats 1000000 in
theorem learn_a0 (b : Nat) (G : Nat → Prop) (w : World) (q : Qa) (xc xn : Int) (xd : ByteArray) (xe : Int) (xL : List (List Int)) (xm xs xy : Int) (xo : Option Addr) (xp : Nat) (h : AQ b G w q) (hf : fewL xL) (hx : CL w xo xL) (n0 : ¬ xc = 0) (n1 : ¬ q.at_ = 1) :
    Calls Tryz.prog 39 #[ptrP b, .agg #[.int .i64 xc, .int .i64 xn, .string xd, .int .i64 xe, .slice xo xL.length xp, .int .i64 xm, .int .i64 xs, .int .i64 xy]] w fun e w' => e = .returned (.tuple #[]) ∧ Leaves (AQ b) G w w' (q) := by
  obtain ⟨HG, HB, HX, HA, ⟨x0, x1, x2, x3, x4, x5, x6, x7⟩, ao, cap, ⟨c0, c1, c2, c3, c4, c5, c6, c7, c8⟩, ⟨f0, f1, f2, f3, f4, f5, f6, f7, f8⟩, hb, HC1, H1, H3⟩ := ans_start h xc xn xd xe xo xL.length xp xm xs xy rfl
  have HC := Lib.hid (hx.below HB.out)
  have e0 : (xc == 0) = false := by simpa using n0
  have e1 : (q.at_ == 1) = false := by simpa using n1
  clear h hf hx
  unfold ptrP at *
  go_enter Tryz.func39, Tryz.ntmps39
  go_wp2_with fail
  go_quiet (fail)
  go_wp2_with fail
  go_end0
  exact ⟨rfl, (Leaves.same (aq_thing b) HA.out (below_drewN (Below.refl _ _) nq)).ahead HG.out HB.out⟩
set_option maxHeartbeats 1000000 in
theorem learn_b1 (b : Nat) (G : Nat → Prop) (w : World) (q : Qa) (xc xn : Int) (xd : ByteArray) (xe : Int) (xL : List (List Int)) (xm xs xy : Int) (xo : Option Addr) (xp : Nat) (h : AQ b G w q) (hf : fewL xL) (hx : CL w xo xL) (hg : goodB xe xL = false) (ha : q.at_ = 1) :
    Calls Tryz.prog 39 #[ptrP b, .agg #[.int .i64 0, .int .i64 xn, .string xd, .int .i64 xe, .slice xo xL.length xp, .int .i64 xm, .int .i64 xs, .int .i64 xy]] w fun e w' => e = .returned (.tuple #[]) ∧ Leaves (AQ b) G w w' (q.to q.was) := by
  obtain ⟨HG, HB, HX, HA, ⟨x0, x1, x2, x3, x4, x5, x6, x7⟩, ao, cap, ⟨c0, c1, c2, c3, c4, c5, c6, c7, c8⟩, ⟨f0, f1, f2, f3, f4, f5, f6, f7, f8⟩, hb, HC1, H1, H3⟩ := ans_start h 0 xn xd xe xo xL.length xp xm xs xy rfl
  have HC := Lib.hid (hx.below HB.out)
  have CG := Lib.hid (fun W (hC : CL W xo xL) => pgood_any xe xo xp xL W hC hf)
  rw [hg] at CG
  clear h hf hx
  unfold ptrP at *
  go_enter Tryz.func39, Tryz.ntmps39
  go_wp2_with (first | (go_at_call 33; refine (CG.out _ HC.out).mono ?_; rintro e w2 ⟨rfl, hb2⟩; have HC2 := Lib.hid (HC.out.below hb2); obtain ⟨HB2, HA2, HX2, ⟨x0, x1, x2, x3, x4, x5, x6, x7⟩, ao, cap, ⟨c0, c1, c2, c3, c4, c5, c6, c7, c8⟩, ⟨f0, f1, f2, f3, f4, f5, f6, f7, f8⟩, hb, H1, H3⟩ := ans_again HB HA HX hb2; rw [ha] at c3; clear hb2))
  go_quiet (fail)
  have HDK := Lib.hid (below_drewN (Below.refl w2.heap.size w2) nq)
  go_wp2_with fail
  go_end0
  exact ⟨rfl, (H3.out _ (q.to q.was) ((Kept.ofBelow HDK.out _).setCell (p := ⟨b, 3, none⟩) (fun h => h rfl) _) rfl (nset3 (show (World.drewN w2 nq).heap[b]? = _ from H1.out) _)).ahead HG.out HB2.out⟩
set_option maxHeartbeats 1000000 in
theorem learn_b0 (b : Nat) (G : Nat → Prop) (w : World) (q : Qa) (xc xn : Int) (xd : ByteArray) (xe : Int) (xL : List (List Int)) (xm xs xy : Int) (xo : Option Addr) (xp : Nat) (h : AQ b G w q) (hf : fewL xL) (hx : CL w xo xL) (hg : goodB xe xL = false) (n1 : ¬ q.at_ = 1) :
    Calls Tryz.prog 39 #[ptrP b, .agg #[.int .i64 0, .int .i64 xn, .string xd, .int .i64 xe, .slice xo xL.length xp, .int .i64 xm, .int .i64 xs, .int .i64 xy]] w fun e w' => e = .returned (.tuple #[]) ∧ Leaves (AQ b) G w w' (q) := by
  obtain ⟨HG, HB, HX, HA, ⟨x0, x1, x2, x3, x4, x5, x6, x7⟩, ao, cap, ⟨c0, c1, c2, c3, c4, c5, c6, c7, c8⟩, ⟨f0, f1, f2, f3, f4, f5, f6, f7, f8⟩, hb, HC1, H1, H3⟩ := ans_start h 0 xn xd xe xo xL.length xp xm xs xy rfl
  have HC := Lib.hid (hx.below HB.out)
  have CG := Lib.hid (fun W (hC : CL W xo xL) => pgood_any xe xo xp xL W hC hf)
  rw [hg] at CG
  have e1 : (q.at_ == 1) = false := by simpa using n1
  clear h hf hx
  unfold ptrP at *
  go_enter Tryz.func39, Tryz.ntmps39
  go_wp2_with (first | (go_at_call 33; refine (CG.out _ HC.out).mono ?_; rintro e w2 ⟨rfl, hb2⟩; have HC2 := Lib.hid (HC.out.below hb2); obtain ⟨HB2, HA2, HX2, ⟨x0, x1, x2, x3, x4, x5, x6, x7⟩, ao, cap, ⟨c0, c1, c2, c3, c4, c5, c6, c7, c8⟩, ⟨f0, f1, f2, f3, f4, f5, f6, f7, f8⟩, hb, H1, H3⟩ := ans_again HB HA HX hb2; clear hb2))
  go_quiet (fail)
  go_wp2_with fail
  go_end0
  exact ⟨rfl, (Leaves.same (aq_thing b) HA2.out (below_drewN (Below.refl _ _) nq)).ahead HG.out HB2.out⟩
set_option maxHeartbeats 1000000 in
theorem learn_c (b : Nat) (G : Nat → Prop) (w : World) (q : Qa) (xc xn : Int) (xd : ByteArray) (xe : Int) (xL : List (List Int)) (xm xs xy : Int) (xo : Option Addr) (xp : Nat) (h : AQ b G w q) (hf : fewL xL) (hx : CL w xo xL) (hg : goodB xe xL = true) (ha : q.at_ = 0) :
    Calls Tryz.prog 39 #[ptrP b, .agg #[.int .i64 0, .int .i64 xn, .string xd, .int .i64 xe, .slice xo xL.length xp, .int .i64 xm, .int .i64 xs, .int .i64 xy]] w fun e w' => e = .returned (.tuple #[]) ∧ Leaves (AQ b) G w w' (q.proj xe xL) := by
  obtain ⟨HG, HB, HX, HA, ⟨x0, x1, x2, x3, x4, x5, x6, x7⟩, ao, cap, ⟨c0, c1, c2, c3, c4, c5, c6, c7, c8⟩, ⟨f0, f1, f2, f3, f4, f5, f6, f7, f8⟩, hb, HC1, H1, H3⟩ := ans_start h 0 xn xd xe xo xL.length xp xm xs xy rfl
  have HC := Lib.hid (hx.below HB.out)
  have CG := Lib.hid (fun W (hC : CL W xo xL) => pgood_any xe xo xp xL W hC hf)
  rw [hg] at CG
  have CC := Lib.hid (fun W (hC : CL W xo xL) => copyO_any xe xo xp xL W hC hf)
  clear h hf hx
  unfold ptrP at *
  go_enter Tryz.func39, Tryz.ntmps39
  go_wp2_with (first | (go_at_call 33; refine (CG.out _ HC.out).mono ?_; rintro e w2 ⟨rfl, hb2⟩; have HC2 := Lib.hid (HC.out.below hb2); obtain ⟨HB2, HA2, HX2, ⟨x0, x1, x2, x3, x4, x5, x6, x7⟩, ao, cap, ⟨c0, c1, c2, c3, c4, c5, c6, c7, c8⟩, ⟨f0, f1, f2, f3, f4, f5, f6, f7, f8⟩, hb, H1, H3⟩ := ans_again HB HA HX hb2; rw [ha] at c3; clear hb2))
  go_quiet (fail)
  have HDB := Lib.hid (below_drewN HB2.out nq)
  have HDA := Lib.hid (HA2.out.below (below_drewN (Below.refl _ _) nq))
  have HDC := Lib.hid (HC2.out.below (below_drewN (Below.refl _ _) nq))
  go_wp2_with (first
    | (go_at_call 32; refine (CC.out _ HDC.out).mono ?_; rintro e w3 ⟨v, rfl, hO, hb3⟩; obtain ⟨vo, vc, hv, _⟩ := hO.form; subst hv; have HO := Lib.hid hO; have HB3 := Lib.hid hb3; have HR := Lib.hid (below_heap hb3 (show (w2.drewN nq).heap[b]? = _ from H1.out)); obtain ⟨_, f0, f1, f2, f3, _⟩ := nine_of HR.out; have hb := lt_of_block HR.out; clear hO hb3))
  go_end0
  exact ⟨rfl, (HDA.out.chains HB3.out HO.out ((((Kept.refl _ w3).setCell (p := ⟨b, 0, none⟩) (fun h => h rfl) _).setCell (p := ⟨b, 1, none⟩) (fun h => h rfl) _).setCell (p := ⟨b, 3, none⟩) (fun h => h rfl) _) (nset3 (nset1 (nset0 HR.out _) _) _)).ahead HG.out HDB.out⟩
set_option maxHeartbeats 1000000 in
theorem learn_d (b : Nat) (G : Nat → Prop) (w : World) (q : Qa) (xc xn : Int) (xd : ByteArray) (xe : Int) (xL : List (List Int)) (xm xs xy : Int) (xo : Option Addr) (xp : Nat) (h : AQ b G w q) (hf : fewL xL) (hx : CL w xo xL) (hg : goodB xe xL = true) (n0 : ¬ q.at_ = 0) (ne : ¬ xe = q.ep) :
    Calls Tryz.prog 39 #[ptrP b, .agg #[.int .i64 0, .int .i64 xn, .string xd, .int .i64 xe, .slice xo xL.length xp, .int .i64 xm, .int .i64 xs, .int .i64 xy]] w fun e w' => e = .returned (.tuple #[]) ∧ Leaves (AQ b) G w w' (q.proj xe xL) := by
  obtain ⟨HG, HB, HX, HA, ⟨x0, x1, x2, x3, x4, x5, x6, x7⟩, ao, cap, ⟨c0, c1, c2, c3, c4, c5, c6, c7, c8⟩, ⟨f0, f1, f2, f3, f4, f5, f6, f7, f8⟩, hb, HC1, H1, H3⟩ := ans_start h 0 xn xd xe xo xL.length xp xm xs xy rfl
  have HC := Lib.hid (hx.below HB.out)
  have CG := Lib.hid (fun W (hC : CL W xo xL) => pgood_any xe xo xp xL W hC hf)
  rw [hg] at CG
  have CC := Lib.hid (fun W (hC : CL W xo xL) => copyO_any xe xo xp xL W hC hf)
  have z0 : (q.at_ == 0) = false := by simpa using n0
  have e5 : (xe != q.ep) = true := by simpa using ne
  clear h hf hx
  unfold ptrP at *
  go_enter Tryz.func39, Tryz.ntmps39
  go_wp2_with (first | (go_at_call 33; refine (CG.out _ HC.out).mono ?_; rintro e w2 ⟨rfl, hb2⟩; have HC2 := Lib.hid (HC.out.below hb2); obtain ⟨HB2, HA2, HX2, ⟨x0, x1, x2, x3, x4, x5, x6, x7⟩, ao, cap, ⟨c0, c1, c2, c3, c4, c5, c6, c7, c8⟩, ⟨f0, f1, f2, f3, f4, f5, f6, f7, f8⟩, hb, H1, H3⟩ := ans_again HB HA HX hb2; clear hb2))
  go_quiet (fail)
  have HDB := Lib.hid (below_drewN HB2.out nq)
  have HDA := Lib.hid (HA2.out.below (below_drewN (Below.refl _ _) nq))
  have HDC := Lib.hid (HC2.out.below (below_drewN (Below.refl _ _) nq))
  go_wp2_with (first
    | (go_at_call 32; refine (CC.out _ HDC.out).mono ?_; rintro e w3 ⟨v, rfl, hO, hb3⟩; obtain ⟨vo, vc, hv, _⟩ := hO.form; subst hv; have HO := Lib.hid hO; have HB3 := Lib.hid hb3; have HR := Lib.hid (below_heap hb3 (show (w2.drewN nq).heap[b]? = _ from H1.out)); obtain ⟨_, f0, f1, f2, f3, _⟩ := nine_of HR.out; have hb := lt_of_block HR.out; clear hO hb3))
  go_end0
  exact ⟨rfl, (HDA.out.chains HB3.out HO.out ((((Kept.refl _ w3).setCell (p := ⟨b, 0, none⟩) (fun h => h rfl) _).setCell (p := ⟨b, 1, none⟩) (fun h => h rfl) _).setCell (p := ⟨b, 3, none⟩) (fun h => h rfl) _) (nset3 (nset1 (nset0 HR.out _) _) _)).ahead HG.out HDB.out⟩
set_option maxHeartbeats 1000000 in
theorem learn_e1 (b : Nat) (G : Nat → Prop) (w : World) (q : Qa) (xc xn : Int) (xd : ByteArray) (xL : List (List Int)) (xm xs xy : Int) (xo : Option Addr) (xp : Nat) (h : AQ b G w q) (hf : fewL xL) (hx : CL w xo xL) (hg : goodB q.ep xL = true) (ha : q.at_ = 1) :
    Calls Tryz.prog 39 #[ptrP b, .agg #[.int .i64 0, .int .i64 xn, .string xd, .int .i64 q.ep, .slice xo xL.length xp, .int .i64 xm, .int .i64 xs, .int .i64 xy]] w fun e w' => e = .returned (.tuple #[]) ∧ Leaves (AQ b) G w w' (q.to q.was) := by
  obtain ⟨HG, HB, HX, HA, ⟨x0, x1, x2, x3, x4, x5, x6, x7⟩, ao, cap, ⟨c0, c1, c2, c3, c4, c5, c6, c7, c8⟩, ⟨f0, f1, f2, f3, f4, f5, f6, f7, f8⟩, hb, HC1, H1, H3⟩ := ans_start h 0 xn xd q.ep xo xL.length xp xm xs xy rfl
  have HC := Lib.hid (hx.below HB.out)
  have CG := Lib.hid (fun W (hC : CL W xo xL) => pgood_any q.ep xo xp xL W hC hf)
  rw [hg] at CG
  have e5 : (q.ep != q.ep) = false := by simp
  clear h hf hx
  unfold ptrP at *
  go_enter Tryz.func39, Tryz.ntmps39
  go_wp2_with (first | (go_at_call 33; refine (CG.out _ HC.out).mono ?_; rintro e w2 ⟨rfl, hb2⟩; have HC2 := Lib.hid (HC.out.below hb2); obtain ⟨HB2, HA2, HX2, ⟨x0, x1, x2, x3, x4, x5, x6, x7⟩, ao, cap, ⟨c0, c1, c2, c3, c4, c5, c6, c7, c8⟩, ⟨f0, f1, f2, f3, f4, f5, f6, f7, f8⟩, hb, H1, H3⟩ := ans_again HB HA HX hb2; rw [ha] at c3; clear hb2))
  go_quiet (fail)
  have HDK := Lib.hid (below_drewN (Below.refl w2.heap.size w2) nq)
  go_wp2_with fail
  go_end0
  exact ⟨rfl, (H3.out _ (q.to q.was) ((Kept.ofBelow HDK.out _).setCell (p := ⟨b, 3, none⟩) (fun h => h rfl) _) rfl (nset3 (show (World.drewN w2 nq).heap[b]? = _ from H1.out) _)).ahead HG.out HB2.out⟩
set_option maxHeartbeats 1000000 in
theorem learn_e0 (b : Nat) (G : Nat → Prop) (w : World) (q : Qa) (xc xn : Int) (xd : ByteArray) (xL : List (List Int)) (xm xs xy : Int) (xo : Option Addr) (xp : Nat) (h : AQ b G w q) (hf : fewL xL) (hx : CL w xo xL) (hg : goodB q.ep xL = true) (n0 : ¬ q.at_ = 0) (n1 : ¬ q.at_ = 1) :
    Calls Tryz.prog 39 #[ptrP b, .agg #[.int .i64 0, .int .i64 xn, .string xd, .int .i64 q.ep, .slice xo xL.length xp, .int .i64 xm, .int .i64 xs, .int .i64 xy]] w fun e w' => e = .returned (.tuple #[]) ∧ Leaves (AQ b) G w w' (q) := by
  obtain ⟨HG, HB, HX, HA, ⟨x0, x1, x2, x3, x4, x5, x6, x7⟩, ao, cap, ⟨c0, c1, c2, c3, c4, c5, c6, c7, c8⟩, ⟨f0, f1, f2, f3, f4, f5, f6, f7, f8⟩, hb, HC1, H1, H3⟩ := ans_start h 0 xn xd q.ep xo xL.length xp xm xs xy rfl
  have HC := Lib.hid (hx.below HB.out)
  have CG := Lib.hid (fun W (hC : CL W xo xL) => pgood_any q.ep xo xp xL W hC hf)
  rw [hg] at CG
  have e5 : (q.ep != q.ep) = false := by simp
  have z0 : (q.at_ == 0) = false := by simpa using n0
  have e1 : (q.at_ == 1) = false := by simpa using n1
  clear h hf hx
  unfold ptrP at *
  go_enter Tryz.func39, Tryz.ntmps39
  go_wp2_with (first | (go_at_call 33; refine (CG.out _ HC.out).mono ?_; rintro e w2 ⟨rfl, hb2⟩; have HC2 := Lib.hid (HC.out.below hb2); obtain ⟨HB2, HA2, HX2, ⟨x0, x1, x2, x3, x4, x5, x6, x7⟩, ao, cap, ⟨c0, c1, c2, c3, c4, c5, c6, c7, c8⟩, ⟨f0, f1, f2, f3, f4, f5, f6, f7, f8⟩, hb, H1, H3⟩ := ans_again HB HA HX hb2; clear hb2))
  go_quiet (fail)
  go_wp2_with fail
  go_end0
  exact ⟨rfl, (Leaves.same (aq_thing b) HA2.out (below_drewN (Below.refl _ _) nq)).ahead HG.out HB2.out⟩
end Go.Proofs.YtimjlfkdbkafeaaGreat
namespace Go.Proofs.YtimjlfkdbkafeaaGreat
set_option linter.unusedVariables false
open Go.RowKit
set_option maxRecDepth 20000
section
variable {UG : Nat → Nat → (Nat → Prop) → World → Us → Prop} {OG : Nat → (Nat → Prop) → World → Od → Prop} {LG : Nat → (Nat → Prop) → World → Ly → Prop} {NG : Nat → (Nat → Prop) → World → Nd → Prop}
/-- a hand over no nodes -/
def NoH (b : Nat) (w : World) : Prop := w.heap[b]? = some (.cells #[.pointer none, .slice none 0 0] 91 (0, 0))
theorem nodes_noh {b : Nat} {w : World} (h : NoH b w) : Calls Tryz.prog 17 #[.pointer (some ⟨b, 0, none⟩)] w fun e w' => e = .returned (.pointer none) ∧ w = w' := by
  have c0 := cell_of h 0
  have hb := lt_of_block h
  clear h
  go_enter Tryz.func17, Tryz.ntmps17
  go_wp2_with fail
  go_ret
  exact ⟨rfl, rfl⟩
theorem ask_none (p : Option Addr) (a : Ak) (fate : Int) (w : World) (h : ∀ W, Below w.heap.size w W → Calls Tryz.prog 17 #[.pointer p] W fun e w' => e = .returned (.pointer none) ∧ W = w') :
    Calls Tryz.prog 12 #[.pointer p, askV a, .int .i64 fate] w fun e w' => e = .returned (heardT zeroX false none 0) ∧ Below w.heap.size w w' := by
  obtain ⟨k, un, ep, pg, sz, nn, s, pe, L, ao, cap⟩ := a
  have hb : Below w.heap.size w ((w.alloc (.cells #[.int .i64 k, .int .i64 un, .int .i64 ep, .int .i64 pg, .int .i64 sz, .int .i64 nn, .string s, .int .i64 pe, .slice ao L.length cap] 35)).alloc (.cells zero8 40)) := ((Below.refl _ _).alloc (Nat.le_refl _) _).alloc (by simp) _
  have hq := (two_blocks w #[.int .i64 k, .int .i64 un, .int .i64 ep, .int .i64 pg, .int .i64 sz, .int .i64 nn, .string s, .int .i64 pe, .slice ao L.length cap] zero8 35 40).2
  generalize hW0 : ((w.alloc (.cells #[.int .i64 k, .int .i64 un, .int .i64 ep, .int .i64 pg, .int .i64 sz, .int .i64 nn, .string s, .int .i64 pe, .slice ao L.length cap] 35)).alloc (.cells zero8 40)) = W0 at *
  have EW := Lib.hid (show ((w.alloc (.cells #[.int .i64 k, .int .i64 un, .int .i64 ep, .int .i64 pg, .int .i64 sz, .int .i64 nn, .string s, .int .i64 pe, .slice ao L.length cap] 35)).alloc (.cells #[.int .i64 0, .int .i64 0, .string ⟨#[]⟩, .int .i64 0, .slice none 0 0, .int .i64 0, .int .i64 0, .int .i64 0] 40)) = W0 from hW0)
  have HN := Lib.hid (h W0 hb)
  have HQ := Lib.hid hq
  have HB := Lib.hid hb
  have hl := lt_of_block hq
  obtain ⟨⟨ny0, ny1, ny2, ny3, ny4, ny5, ny6, ny7⟩, nf0, nf1, nf2, nf3, nf4, nf5, nf6, nf7⟩ := eight_cells hq
  clear hW0 hq hb h
  show Calls _ _ #[.pointer p, .agg #[.int .i64 k, .int .i64 un, .int .i64 ep, .int .i64 pg, .int .i64 sz, .int .i64 nn, .string s, .int .i64 pe, .slice ao L.length cap], .int .i64 fate] w _
  go_enter Tryz.func12, Tryz.ntmps12
  go_wp2_with (go_at_call 17; rw [EW.out]; refine HN.out.mono ?_; rintro e w1 ⟨rfl, rfl⟩)
  exact ans_ret2 (x := zeroX) (ao := none) (cap := 0) (c := false) rfl (hp_eight HQ.out (.int .i64 0) (.int .i64 0) (.string ⟨#[]⟩) (.int .i64 0) (.slice none 0 0) (.int .i64 0) (.int .i64 0) (.int .i64 0)) rfl rfl rfl ⟨rfl, HB.out.trans (((hp_eight_kept W0 (w.heap.size + 1) (.int .i64 0) (.int .i64 0) (.string ⟨#[]⟩) (.int .i64 0) (.slice none 0 0) (.int .i64 0) (.int .i64 0) (.int .i64 0)).mono (T := fun j => j < w.heap.size) (fun j h => by omega)).toBelow (by omega) (fun j h => h))⟩
theorem take_noh {b : Nat} {w : World} (h : NoH b w) (k : Int) : Calls Tryz.prog 43 #[.pointer (some ⟨b, 0, none⟩), .int .i64 k] w fun e w' => e = .returned (.tuple #[askV zeroQ, .bool false]) ∧ Below w.heap.size w w' := by
  have HQ := Lib.hid (heap_alloc_new w (.cells #[.int .i64 0, .int .i64 0, .int .i64 0, .int .i64 0, .int .i64 0, .int .i64 0, .string ⟨#[]⟩, .int .i64 0, .slice none 0 0] 35))
  have HB := Lib.hid (below_new w (.cells #[.int .i64 0, .int .i64 0, .int .i64 0, .int .i64 0, .int .i64 0, .int .i64 0, .string ⟨#[]⟩, .int .i64 0, .slice none 0 0] 35))
  have hb := lt_of_block h
  obtain ⟨_, c1, _, _⟩ := two_cells h
  clear h
  by_cases h0 : k < 0
  · go_enter Tryz.func43, Tryz.ntmps43
    go_wp2_with fail
    exact ask_ret2 (x := zeroQ) (c := false) rfl HQ.out rfl rfl rfl ⟨rfl, HB.out⟩
  · have h2 : 0 ≤ k := by omega
    clear h0
    go_enter Tryz.func43, Tryz.ntmps43
    go_wp2_with fail
    exact ask_ret2 (x := zeroQ) (c := false) rfl HQ.out rfl rfl rfl ⟨rfl, HB.out⟩
theorem do_noh {b : Nat} {w : World} (h : NoH b w) (k : Int) : Calls Tryz.prog 13 #[.pointer (some ⟨b, 0, none⟩), .int .i64 k] w fun e w' => e = .returned (.bool false) ∧ Below w.heap.size w w' := by
  have HT := Lib.hid (take_noh h k)
  clear h
  go_enter Tryz.func13, Tryz.ntmps13
  go_wp2_with (go_at_call 43; refine HT.out.mono ?_; rintro e w1 ⟨he, hb1⟩; obtain rfl : e = .returned (.tuple #[.agg #[.int .i64 0, .int .i64 0, .int .i64 0, .int .i64 0, .int .i64 0, .int .i64 0, .string ⟨#[]⟩, .int .i64 0, .slice none 0 0], .bool false]) := he)
  go_ret
  exact ⟨rfl, hb1.trans (below_new w1 _ |>.mono hb1.size)⟩
theorem hnew_no (w : World) : Calls Tryz.prog 31 #[.pointer none] w fun e w' => ∃ b : Nat, e = .returned (.pointer (some ⟨b, 0, none⟩)) ∧ NoH b w' ∧ Below w.heap.size w w' := by
  have HP := Lib.hid (heap_alloc_new w (.cells #[.pointer none, .slice none 0 0] 91))
  have HB := Lib.hid (below_new w (.cells #[.pointer none, .slice none 0 0] 91))
  go_enter Tryz.func31, Tryz.ntmps31
  go_wp2_with fail
  go_ret
  exact ⟨w.heap.size, rfl, HP.out, HB.out⟩
end
end Go.Proofs.YtimjlfkdbkafeaaGreat
namespace Go.Proofs.YtimjlfkdbkafeaaGreat
set_option linter.unusedVariables false
open Go.RowKit
set_option maxRecDepth 20000
theorem or_turn {txt : Nat → ByteArray} {m i : Nat} {h : Hd} {A : Nat → Ap} (H : OrS txt m h.n A) (hm : m ≤ 12) (hi : i < m) (hs : (txt i).size ≤ 4096) (h6 : (A i).at_ ≠ 6) :
    OrS txt m (h.asked (A i).ask 0).n (putA A i ((A i).hear (h.heard (A i).ask 0) true)) ∧ leftO ((A i).hear (h.heard (A i).ask 0) true) + 1 ≤ leftO (A i) := by
  have e1 : h.asked (A i).ask 0 = ⟨h.n.done (A i).ask, h.held⟩ := by unfold Hd.asked; rw [if_pos (.inl rfl)]
  have e2 : h.heard (A i).ask 0 = h.n.ans (A i).ask := by unfold Hd.heard; rw [if_pos rfl]
  rw [e1, e2]
  exact H.turn hm hi hs h6
theorem leftO_le (a : Ap) : leftO a ≤ 3 := by
  unfold leftO
  repeat' split
  all_goals omega
/-- the units of an address's chain, and what is read there -/
theorem or_chain {n : Nd} {s : ByteArray} {x : Int} (hx : 0 ≤ x ∧ x < 64) (hr : ∀ j, j < 2 → (n.u (unitO x j).toNat).p.readE (x / 2) = 0 ∧ (n.u (unitO x j).toNat).p.readS (x / 2) = s) :
    (chainR 0 orL x).length = 2 ∧ ∀ j (hj : j < (chainR 0 orL x).length), ∃ i : Nat, i < 16 ∧ (chainR 0 orL x)[j] = (i : Int) ∧ (n.u i).p.readE (x / 2) = 0 ∧ (n.u i).p.readS (x / 2) = s := by
  have hl := orL_len (x := x) (by omega)
  refine ⟨hl, fun j hj => ?_⟩
  obtain ⟨h1, h2, h4⟩ := orL_unit (x := x) (by omega) (j := j) (by omega)
  refine ⟨(unitO x j).toNat, by omega, ?_, hr j (by omega)⟩
  rw [List.getD_eq_getElem?_getD, List.getElem?_eq_getElem hj] at h1
  have h5 : (chainR 0 orL x)[j] = unitO x j := h1
  omega
section
variable {α β : Type} {T : (Nat → Prop) → World → α → Prop} {U : (Nat → Prop) → World → β → Prop} {X : Nat → Prop} {w : World} {a : α} {b : β}
/-- a store into memory that is none of theirs -/
theorem Side.store (hT : Thing T) (hU : Thing U) (h : Side T U X w a b) {q : Nat} (hq : X q) (o : Nat) (v : Value) : Side T U X (w.setCell ⟨q, o, none⟩ v) a b := by
  obtain ⟨h1, F, G, h2, h3, h4, h5⟩ := h
  have hk : Kept (fun k => k ≠ q) w (w.setCell ⟨q, o, none⟩ v) := (Kept.refl _ w).setCell (p := ⟨q, o, none⟩) (fun h => h rfl) v
  exact ⟨fun k hk2 => Nat.lt_of_lt_of_le (h1 k hk2) hk.size, F, G, hT.keep h2 hk (fun k hf e => (h4 k (e ▸ hq)).1 hf), hU.keep h3 hk (fun k hg e => (h4 k (e ▸ hq)).2 hg), h4, h5⟩
end
/-- which addresses were met, as 64 cells -/
def metC (f : Nat → Bool) : Array Value := ((List.range 64).map (fun y => Value.bool (f y))).toArray
theorem metC_get (f : Nat → Bool) {y : Nat} (h : y < 64) : (metC f)[y]? = some (.bool (f y)) := by
  simp [metC, h]
theorem metC_put (f : Nat → Bool) {y : Nat} (h : y < 64) : (metC f).setIfInBounds y (.bool true) = metC (fun z => if z = y then true else f z) := by
  apply Array.ext_getElem?
  intro z
  have hs : (metC f).size = 64 := by simp [metC]
  by_cases hz : z < 64
  · rw [metC_get _ hz]
    by_cases e : z = y
    · subst e
      rw [Array.getElem?_setIfInBounds_self_of_lt (by omega), if_pos rfl]
    · rw [Array.getElem?_setIfInBounds_ne (fun h => e h.symm), metC_get f hz, if_neg e]
  · rw [Array.getElem?_eq_none (by rw [Array.size_setIfInBounds]; omega), Array.getElem?_eq_none (by simp [metC]; omega)]
/-- the first k are over; what was met are their addresses -/
structure Met (f : Nat → Bool) (k : Nat) (A : Nat → Ap) : Prop where
  over : ∀ j, j < k → (A j).at_ = 6
  addr : ∀ y : Nat, f y = true → ∃ j, j < k ∧ (A j).addr = (y : Int)
theorem Met.put {f : Nat → Bool} {k : Nat} {A : Nat → Ap} (h : Met f k A) (a : Ap) : Met f k (putA A k a) :=
  ⟨fun j hj => by rw [putA_off A a (by omega)]; exact h.over j hj, fun y hy => by
    obtain ⟨j, hj, e⟩ := h.addr y hy
    exact ⟨j, hj, by rw [putA_off A a (by omega)]; exact e⟩⟩
theorem Met.next {f : Nat → Bool} {k y : Nat} {A : Nat → Ap} (h : Met f k A) (h6 : (A k).at_ = 6) (hy : (A k).addr = (y : Int)) : Met (fun z => if z = y then true else f z) (k + 1) A := by
  refine ⟨fun j hj => ?_, fun z hz => ?_⟩
  · by_cases e : j = k
    · rw [e]; exact h6
    · exact h.over j (by omega)
  · by_cases e : z = y
    · exact ⟨k, by omega, by rw [e]; exact hy⟩
    · rw [if_neg e] at hz
      obtain ⟨j, hj, e2⟩ := h.addr z hz
      exact ⟨j, by omega, e2⟩
/-- an address that was not met yet -/
theorem Met.new {f : Nat → Bool} {m k y : Nat} {A : Nat → Ap} {txt : Nat → ByteArray} {n : Nd} (h : Met f k A) (H : OrS txt m n A) (hk : k < m) (h6 : (A k).at_ = 6) (hy : (A k).addr = (y : Int)) : f y = false := by
  cases hf : f y
  · rfl
  · obtain ⟨j, hj, e⟩ := h.addr y hf
    have := h.over j hj
    exact absurd (e.trans hy.symm) (H.once j k (by omega) hk (by omega) (by omega) (by omega))
end Go.Proofs.YtimjlfkdbkafeaaGreat
