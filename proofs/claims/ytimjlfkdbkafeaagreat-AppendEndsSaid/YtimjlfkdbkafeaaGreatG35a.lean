/- What the program's append makes of an answer that it hears, or of none. Conditions: it lies where the call was told; the answer's chains lie there too. (Written by gen/genamp.py.) -/
import Derived.Test.YtimjlfkdbkafeaaGreatG34a
set_option linter.unusedVariables false
namespace Go.Proofs.YtimjlfkdbkafeaaGreat
set_option linter.unusedVariables false
open Go.RowKit
set_option maxRecDepth 20000
theorem ap_wt {q p : Qa} {c : Int} {v : Bool} (hwt : q.waits c = v) (b : Nat) (H : Nat → Prop) (W : World) (hp : p.at_ = q.at_) (h : AQ b H W p) : Calls Tryz.prog 38 #[ptrP b, .int .i64 c] W fun e w' => e = .returned (.bool v) ∧ W = w' := by
  have e : p.waits c = v := by rw [← hwt]; unfold Qa.waits; rw [hp]
  rw [← e]
  exact ap_waits b H W p c h
set_option maxHeartbeats 2000000 in
theorem hr_over (hc : Bool) (b : Nat) (G : Nat → Prop) (w : World) (q : Qa) (xc xn : Int) (xd : ByteArray) (xe : Int) (xL : List (List Int)) (xm xs xy : Int) (xo : Option Addr) (xp : Nat) (h : AQ b G w q) (hf : fewL xL) (hx : CL w xo xL) (hq : fewL q.L) (ha : q.at_ = 5) :
    Calls Tryz.prog 11 #[ptrP b, .agg #[.int .i64 xc, .int .i64 xn, .string xd, .int .i64 xe, .slice xo xL.length xp, .int .i64 xm, .int .i64 xs, .int .i64 xy], .bool hc] w fun e w' => e = .returned (.tuple #[]) ∧ Leaves (AQ b) G w w' (q) := by
  obtain ⟨HG, HB, HX, HA, ⟨x0, x1, x2, x3, x4, x5, x6, x7⟩, ao, cap, ⟨c0, c1, c2, c3, c4, c5, c6, c7, c8⟩, ⟨f0, f1, f2, f3, f4, f5, f6, f7, f8⟩, hb, HC1, H1, H3⟩ := ans_start h xc xn xd xe xo xL.length xp xm xs xy rfl
  have C := Lib.hid (fun w (h : AQ b G w q) => ap_isOver b G w q h)
  rw [decide_eq_true ha] at C
  rw [ha] at c3
  clear h hf hx hq
  unfold ptrP at *
  go_enter Tryz.func11, Tryz.ntmps11
  go_wp2_with (go_at_call 36; refine (C.out _ HA.out).mono ?_; rintro e w1 ⟨rfl, rfl⟩)
  exact bodyPost_ret (results_none rfl _ _ _) rfl ⟨rfl, (Leaves.same (aq_thing b) HA.out (Below.refl _ _)).ahead HG.out HB.out⟩
set_option maxHeartbeats 2000000 in
theorem hr_s1 (b : Nat) (G : Nat → Prop) (w : World) (q : Qa) (xc xn : Int) (xd : ByteArray) (xe : Int) (xL : List (List Int)) (xm xs xy : Int) (xo : Option Addr) (xp : Nat) (h : AQ b G w q) (hf : fewL xL) (hx : CL w xo xL) (hq : fewL q.L) (ha : q.at_ = 3) :
    Calls Tryz.prog 11 #[ptrP b, .agg #[.int .i64 xc, .int .i64 xn, .string xd, .int .i64 xe, .slice xo xL.length xp, .int .i64 xm, .int .i64 xs, .int .i64 xy], .bool false] w fun e w' => e = .returned (.tuple #[]) ∧ Leaves (AQ b) G w w' (q.stand) := by
  obtain ⟨HG, HB, HX, HA, ⟨x0, x1, x2, x3, x4, x5, x6, x7⟩, ao, cap, ⟨c0, c1, c2, c3, c4, c5, c6, c7, c8⟩, ⟨f0, f1, f2, f3, f4, f5, f6, f7, f8⟩, hb, HC1, H1, H3⟩ := ans_start h xc xn xd xe xo xL.length xp xm xs xy rfl
  have C := Lib.hid (fun w (h : AQ b G w q) => ap_isOver b G w q h)
  rw [decide_eq_false (p := q.at_ = 5) (by omega)] at C
  rw [ha] at c3
  clear h hf hx hq
  unfold ptrP at *
  go_enter Tryz.func11, Tryz.ntmps11
  go_wp2_with (go_at_call 36; refine (C.out _ HA.out).mono ?_; rintro e w1 ⟨rfl, rfl⟩)
  exact bodyPost_ret (results_none rfl _ _ _) rfl ⟨rfl, (H3.out _ q.stand ((Kept.refl _ _).setCell (p := ⟨b, 7, none⟩) (fun h => h rfl) _) rfl (nset7 H1.out _)).ahead HG.out HB.out⟩
set_option maxHeartbeats 2000000 in
theorem hr_s2 (b : Nat) (G : Nat → Prop) (w : World) (q : Qa) (xc xn : Int) (xd : ByteArray) (xe : Int) (xL : List (List Int)) (xm xs xy : Int) (xo : Option Addr) (xp : Nat) (h : AQ b G w q) (hf : fewL xL) (hx : CL w xo xL) (hq : fewL q.L) (ha : q.at_ = 3) (hat : q.at_ = 2 ∨ q.at_ = 3 ∨ q.at_ = 4) (hub : q.at_ ≠ 2 → 0 ≤ q.unit ∧ q.unit ≤ 100) (hwt : q.waits 0 = false)  :
    Calls Tryz.prog 11 #[ptrP b, .agg #[.int .i64 0, .int .i64 xn, .string xd, .int .i64 xe, .slice xo xL.length xp, .int .i64 xm, .int .i64 xs, .int .i64 xy], .bool true] w fun e w' => e = .returned (.tuple #[]) ∧ Leaves (AQ b) G w w' (q.stand.step ⟨0, xn, xd, xe, xL, xm, xs, xy⟩) := by
  obtain ⟨HG, HB, HX, HA, ⟨x0, x1, x2, x3, x4, x5, x6, x7⟩, ao, cap, ⟨c0, c1, c2, c3, c4, c5, c6, c7, c8⟩, ⟨f0, f1, f2, f3, f4, f5, f6, f7, f8⟩, hb, HC1, H1, H3⟩ := ans_start h 0 xn xd xe xo xL.length xp xm xs xy rfl
  have C := Lib.hid (fun w (h : AQ b G w q) => ap_isOver b G w q h)
  rw [decide_eq_false (p := q.at_ = 5) (by omega)] at C
  have hwb : ¬ w.heap.size = b := fun e => by have := h.small; omega
  have CX := Lib.hid (fun W H h => ap_step b H W q.stand ⟨0, xn, xd, xe, xL, xm, xs, xy⟩ xo xp h hq hat hub)
  have CW := Lib.hid (fun W H p hp h => ap_wt hwt b H W (p := p) hp h)
  rw [ha] at c3
  clear h hf hx hq
  unfold ptrP at *
  go_enter Tryz.func11, Tryz.ntmps11
  go_wp2_with (go_at_call 36; refine (C.out _ HA.out).mono ?_; rintro e w1 ⟨rfl, rfl⟩)
  have HS := Lib.hid (H3.out _ q.stand ((Kept.refl _ (w.alloc (.cells #[.int .i64 0, .int .i64 xn, .string xd, .int .i64 xe, .slice xo xL.length xp, .int .i64 xm, .int .i64 xs, .int .i64 xy] 40))).setCell (p := ⟨b, 7, none⟩) (fun h => h rfl) (.bool true)) rfl (nset7 H1.out _))
  obtain ⟨H, hA2, hU⟩ := lv_use (fun k hk => (aq_thing b).lt HA.out k hk) HS.out
  have HA2 := Lib.hid hA2
  have HU := Lib.hid hU
  have HX2 := Lib.hid (((Kept.refl (fun k => k ≠ b) (w.alloc (.cells #[.int .i64 0, .int .i64 xn, .string xd, .int .i64 xe, .slice xo xL.length xp, .int .i64 xm, .int .i64 xs, .int .i64 xy] 40))).setCell (p := ⟨b, 7, none⟩) (fun h => h rfl) (.bool true)).heap hwb HX.out)
  clear hA2 hU x0 x1 x2 x3 x4 x5 x6 x7 c0 c1 c2 c3 c4 c5 c6 c7 c8 f0 f1 f2 f3 f4 f5 f6 f7 f8
  generalize World.setCell (w.alloc (.cells #[.int .i64 0, .int .i64 xn, .string xd, .int .i64 xe, .slice xo xL.length xp, .int .i64 xm, .int .i64 xs, .int .i64 xy] 40)) _ _ = w2 at *
  obtain ⟨⟨x0, x1, x2, x3, x4, x5, x6, x7⟩, _⟩ := eight_cells HX2.out
  obtain ⟨a2, k2, g1, _⟩ := HA2.out.open
  dsimp only [Qa.stand] at g1
  obtain ⟨⟨c0, c1, c2, c3, c4, c5, c6, c7, c8⟩, _⟩ := nine_of g1
  rw [ha] at c3
  go_wp2_with (first
    | (go_at_call 38; refine (CW.out _ _ q.stand rfl HA2.out).mono ?_; rintro e w3 ⟨rfl, rfl⟩)
    | (go_at_call 40; refine (CX.out _ _ HA2.out).mono ?_; rintro e w9 ⟨rfl, hl⟩; have HL := Lib.hid hl; clear hl))
  go_end0
  exact ⟨rfl, (HU.out _ _ HL.out).ahead HG.out HB.out⟩
set_option maxHeartbeats 2000000 in
theorem hr_n1 (b : Nat) (G : Nat → Prop) (w : World) (q : Qa) (xc xn : Int) (xd : ByteArray) (xe : Int) (xL : List (List Int)) (xm xs xy : Int) (xo : Option Addr) (xp : Nat) (h : AQ b G w q) (hf : fewL xL) (hx : CL w xo xL) (hq : fewL q.L) (n3 : ¬ q.at_ = 3) (n5 : ¬ q.at_ = 5) :
    Calls Tryz.prog 11 #[ptrP b, .agg #[.int .i64 xc, .int .i64 xn, .string xd, .int .i64 xe, .slice xo xL.length xp, .int .i64 xm, .int .i64 xs, .int .i64 xy], .bool false] w fun e w' => e = .returned (.tuple #[]) ∧ Leaves (AQ b) G w w' (q) := by
  obtain ⟨HG, HB, HX, HA, ⟨x0, x1, x2, x3, x4, x5, x6, x7⟩, ao, cap, ⟨c0, c1, c2, c3, c4, c5, c6, c7, c8⟩, ⟨f0, f1, f2, f3, f4, f5, f6, f7, f8⟩, hb, HC1, H1, H3⟩ := ans_start h xc xn xd xe xo xL.length xp xm xs xy rfl
  have C := Lib.hid (fun w (h : AQ b G w q) => ap_isOver b G w q h)
  rw [decide_eq_false (p := q.at_ = 5) (by omega)] at C
  have e3 : (q.at_ == 3) = false := by simpa using (show ¬ q.at_ = 3 by omega)
  clear h hf hx hq
  unfold ptrP at *
  go_enter Tryz.func11, Tryz.ntmps11
  go_wp2_with (go_at_call 36; refine (C.out _ HA.out).mono ?_; rintro e w1 ⟨rfl, rfl⟩)
  exact bodyPost_ret (results_none rfl _ _ _) rfl ⟨rfl, (Leaves.same (aq_thing b) HA.out (Below.refl _ _)).ahead HG.out HB.out⟩
set_option maxHeartbeats 2000000 in
theorem hr_n2a (b : Nat) (G : Nat → Prop) (w : World) (q : Qa) (xc xn : Int) (xd : ByteArray) (xe : Int) (xL : List (List Int)) (xm xs xy : Int) (xo : Option Addr) (xp : Nat) (h : AQ b G w q) (hf : fewL xL) (hx : CL w xo xL) (hq : fewL q.L) (ha : q.at_ = 3) (n0 : ¬ xc = 0) (hwt : q.waits xc = true)  :
    Calls Tryz.prog 11 #[ptrP b, .agg #[.int .i64 xc, .int .i64 xn, .string xd, .int .i64 xe, .slice xo xL.length xp, .int .i64 xm, .int .i64 xs, .int .i64 xy], .bool true] w fun e w' => e = .returned (.tuple #[]) ∧ Leaves (AQ b) G w w' (q) := by
  obtain ⟨HG, HB, HX, HA, ⟨x0, x1, x2, x3, x4, x5, x6, x7⟩, ao, cap, ⟨c0, c1, c2, c3, c4, c5, c6, c7, c8⟩, ⟨f0, f1, f2, f3, f4, f5, f6, f7, f8⟩, hb, HC1, H1, H3⟩ := ans_start h xc xn xd xe xo xL.length xp xm xs xy rfl
  have C := Lib.hid (fun w (h : AQ b G w q) => ap_isOver b G w q h)
  rw [decide_eq_false (p := q.at_ = 5) (by omega)] at C
  have e0 : (xc == 0) = false := by simpa using n0
  have CW := Lib.hid (fun W H p hp h => ap_wt hwt b H W (p := p) hp h)
  rw [ha] at c3
  clear h hf hx hq
  unfold ptrP at *
  go_enter Tryz.func11, Tryz.ntmps11
  go_wp2_with (first | (go_at_call 36; refine (C.out _ HA.out).mono ?_; rintro e w1 ⟨rfl, rfl⟩) | (go_at_call 38; refine (CW.out _ _ q rfl HA.out).mono ?_; rintro e w1 ⟨rfl, rfl⟩))
  exact bodyPost_ret (results_none rfl _ _ _) rfl ⟨rfl, (Leaves.same (aq_thing b) HA.out (Below.refl _ _)).ahead HG.out HB.out⟩
set_option maxHeartbeats 2000000 in
theorem hr_n2b (b : Nat) (G : Nat → Prop) (w : World) (q : Qa) (xc xn : Int) (xd : ByteArray) (xe : Int) (xL : List (List Int)) (xm xs xy : Int) (xo : Option Addr) (xp : Nat) (h : AQ b G w q) (hf : fewL xL) (hx : CL w xo xL) (hq : fewL q.L) (n3 : ¬ q.at_ = 3) (n5 : ¬ q.at_ = 5) (hwt : q.waits xc = true)  :
    Calls Tryz.prog 11 #[ptrP b, .agg #[.int .i64 xc, .int .i64 xn, .string xd, .int .i64 xe, .slice xo xL.length xp, .int .i64 xm, .int .i64 xs, .int .i64 xy], .bool true] w fun e w' => e = .returned (.tuple #[]) ∧ Leaves (AQ b) G w w' (q) := by
  obtain ⟨HG, HB, HX, HA, ⟨x0, x1, x2, x3, x4, x5, x6, x7⟩, ao, cap, ⟨c0, c1, c2, c3, c4, c5, c6, c7, c8⟩, ⟨f0, f1, f2, f3, f4, f5, f6, f7, f8⟩, hb, HC1, H1, H3⟩ := ans_start h xc xn xd xe xo xL.length xp xm xs xy rfl
  have C := Lib.hid (fun w (h : AQ b G w q) => ap_isOver b G w q h)
  rw [decide_eq_false (p := q.at_ = 5) (by omega)] at C
  have CW := Lib.hid (fun W H p hp h => ap_wt hwt b H W (p := p) hp h)
  have e3 : (q.at_ == 3) = false := by simpa using (show ¬ q.at_ = 3 by omega)
  clear h hf hx hq
  unfold ptrP at *
  go_enter Tryz.func11, Tryz.ntmps11
  go_wp2_with (first | (go_at_call 36; refine (C.out _ HA.out).mono ?_; rintro e w1 ⟨rfl, rfl⟩) | (go_at_call 38; refine (CW.out _ _ q rfl HA.out).mono ?_; rintro e w1 ⟨rfl, rfl⟩))
  exact bodyPost_ret (results_none rfl _ _ _) rfl ⟨rfl, (Leaves.same (aq_thing b) HA.out (Below.refl _ _)).ahead HG.out HB.out⟩
set_option maxHeartbeats 2000000 in
theorem hr_n3a (b : Nat) (G : Nat → Prop) (w : World) (q : Qa) (xc xn : Int) (xd : ByteArray) (xe : Int) (xL : List (List Int)) (xm xs xy : Int) (xo : Option Addr) (xp : Nat) (h : AQ b G w q) (hf : fewL xL) (hx : CL w xo xL) (hq : fewL q.L) (ha : q.at_ = 3) (hwt : q.waits 40 = false)  :
    Calls Tryz.prog 11 #[ptrP b, .agg #[.int .i64 40, .int .i64 xn, .string xd, .int .i64 xe, .slice xo xL.length xp, .int .i64 xm, .int .i64 xs, .int .i64 xy], .bool true] w fun e w' => e = .returned (.tuple #[]) ∧ Leaves (AQ b) G w w' (q.to 0) := by
  obtain ⟨HG, HB, HX, HA, ⟨x0, x1, x2, x3, x4, x5, x6, x7⟩, ao, cap, ⟨c0, c1, c2, c3, c4, c5, c6, c7, c8⟩, ⟨f0, f1, f2, f3, f4, f5, f6, f7, f8⟩, hb, HC1, H1, H3⟩ := ans_start h 40 xn xd xe xo xL.length xp xm xs xy rfl
  have C := Lib.hid (fun w (h : AQ b G w q) => ap_isOver b G w q h)
  rw [decide_eq_false (p := q.at_ = 5) (by omega)] at C
  have CW := Lib.hid (fun W H p hp h => ap_wt hwt b H W (p := p) hp h)
  rw [ha] at c3
  clear h hf hx hq
  unfold ptrP at *
  go_enter Tryz.func11, Tryz.ntmps11
  go_wp2_with (first | (go_at_call 36; refine (C.out _ HA.out).mono ?_; rintro e w1 ⟨rfl, rfl⟩) | (go_at_call 38; refine (CW.out _ _ q rfl HA.out).mono ?_; rintro e w1 ⟨rfl, rfl⟩))
  go_end0
  exact ⟨rfl, (H3.out _ (q.to 0) ((Kept.refl _ _).setCell (p := ⟨b, 3, none⟩) (fun h => h rfl) _) rfl (nset3 H1.out _)).ahead HG.out HB.out⟩
set_option maxHeartbeats 2000000 in
theorem hr_n3b (b : Nat) (G : Nat → Prop) (w : World) (q : Qa) (xc xn : Int) (xd : ByteArray) (xe : Int) (xL : List (List Int)) (xm xs xy : Int) (xo : Option Addr) (xp : Nat) (h : AQ b G w q) (hf : fewL xL) (hx : CL w xo xL) (hq : fewL q.L) (n3 : ¬ q.at_ = 3) (n5 : ¬ q.at_ = 5) (hwt : q.waits 40 = false)  :
    Calls Tryz.prog 11 #[ptrP b, .agg #[.int .i64 40, .int .i64 xn, .string xd, .int .i64 xe, .slice xo xL.length xp, .int .i64 xm, .int .i64 xs, .int .i64 xy], .bool true] w fun e w' => e = .returned (.tuple #[]) ∧ Leaves (AQ b) G w w' (q.to 0) := by
  obtain ⟨HG, HB, HX, HA, ⟨x0, x1, x2, x3, x4, x5, x6, x7⟩, ao, cap, ⟨c0, c1, c2, c3, c4, c5, c6, c7, c8⟩, ⟨f0, f1, f2, f3, f4, f5, f6, f7, f8⟩, hb, HC1, H1, H3⟩ := ans_start h 40 xn xd xe xo xL.length xp xm xs xy rfl
  have C := Lib.hid (fun w (h : AQ b G w q) => ap_isOver b G w q h)
  rw [decide_eq_false (p := q.at_ = 5) (by omega)] at C
  have CW := Lib.hid (fun W H p hp h => ap_wt hwt b H W (p := p) hp h)
  have e3 : (q.at_ == 3) = false := by simpa using (show ¬ q.at_ = 3 by omega)
  clear h hf hx hq
  unfold ptrP at *
  go_enter Tryz.func11, Tryz.ntmps11
  go_wp2_with (first | (go_at_call 36; refine (C.out _ HA.out).mono ?_; rintro e w1 ⟨rfl, rfl⟩) | (go_at_call 38; refine (CW.out _ _ q rfl HA.out).mono ?_; rintro e w1 ⟨rfl, rfl⟩))
  go_end0
  exact ⟨rfl, (H3.out _ (q.to 0) ((Kept.refl _ _).setCell (p := ⟨b, 3, none⟩) (fun h => h rfl) _) rfl (nset3 H1.out _)).ahead HG.out HB.out⟩
set_option maxHeartbeats 2000000 in
theorem hr_n4a (b : Nat) (G : Nat → Prop) (w : World) (q : Qa) (xc xn : Int) (xd : ByteArray) (xe : Int) (xL : List (List Int)) (xm xs xy : Int) (xo : Option Addr) (xp : Nat) (h : AQ b G w q) (hf : fewL xL) (hx : CL w xo xL) (hq : fewL q.L) (ha : q.at_ = 3) (hwt : q.waits 45 = false)  :
    Calls Tryz.prog 11 #[ptrP b, .agg #[.int .i64 45, .int .i64 xn, .string xd, .int .i64 xe, .slice xo xL.length xp, .int .i64 xm, .int .i64 xs, .int .i64 xy], .bool true] w fun e w' => e = .returned (.tuple #[]) ∧ Leaves (AQ b) G w w' (q.check) := by
  obtain ⟨HG, HB, HX, HA, ⟨x0, x1, x2, x3, x4, x5, x6, x7⟩, ao, cap, ⟨c0, c1, c2, c3, c4, c5, c6, c7, c8⟩, ⟨f0, f1, f2, f3, f4, f5, f6, f7, f8⟩, hb, HC1, H1, H3⟩ := ans_start h 45 xn xd xe xo xL.length xp xm xs xy rfl
  have C := Lib.hid (fun w (h : AQ b G w q) => ap_isOver b G w q h)
  rw [decide_eq_false (p := q.at_ = 5) (by omega)] at C
  have CW := Lib.hid (fun W H p hp h => ap_wt hwt b H W (p := p) hp h)
  rw [ha] at c3
  clear h hf hx hq
  unfold ptrP at *
  go_enter Tryz.func11, Tryz.ntmps11
  go_wp2_with (first | (go_at_call 36; refine (C.out _ HA.out).mono ?_; rintro e w1 ⟨rfl, rfl⟩) | (go_at_call 38; refine (CW.out _ _ q rfl HA.out).mono ?_; rintro e w1 ⟨rfl, rfl⟩))
  go_end0
  exact ⟨rfl, (H3.out _ q.check (((Kept.refl _ _).setCell (p := ⟨b, 3, none⟩) (fun h => h rfl) _).setCell (p := ⟨b, 4, none⟩) (fun h => h rfl) _) rfl (ha ▸ nset4 (nset3 H1.out _) _)).ahead HG.out HB.out⟩
set_option maxHeartbeats 2000000 in
theorem hr_n4b (b : Nat) (G : Nat → Prop) (w : World) (q : Qa) (xc xn : Int) (xd : ByteArray) (xe : Int) (xL : List (List Int)) (xm xs xy : Int) (xo : Option Addr) (xp : Nat) (h : AQ b G w q) (hf : fewL xL) (hx : CL w xo xL) (hq : fewL q.L) (n3 : ¬ q.at_ = 3) (n5 : ¬ q.at_ = 5) (hwt : q.waits 45 = false)  :
    Calls Tryz.prog 11 #[ptrP b, .agg #[.int .i64 45, .int .i64 xn, .string xd, .int .i64 xe, .slice xo xL.length xp, .int .i64 xm, .int .i64 xs, .int .i64 xy], .bool true] w fun e w' => e = .returned (.tuple #[]) ∧ Leaves (AQ b) G w w' (q.check) := by
  obtain ⟨HG, HB, HX, HA, ⟨x0, x1, x2, x3, x4, x5, x6, x7⟩, ao, cap, ⟨c0, c1, c2, c3, c4, c5, c6, c7, c8⟩, ⟨f0, f1, f2, f3, f4, f5, f6, f7, f8⟩, hb, HC1, H1, H3⟩ := ans_start h 45 xn xd xe xo xL.length xp xm xs xy rfl
  have C := Lib.hid (fun w (h : AQ b G w q) => ap_isOver b G w q h)
  rw [decide_eq_false (p := q.at_ = 5) (by omega)] at C
  have CW := Lib.hid (fun W H p hp h => ap_wt hwt b H W (p := p) hp h)
  have e3 : (q.at_ == 3) = false := by simpa using (show ¬ q.at_ = 3 by omega)
  clear h hf hx hq
  unfold ptrP at *
  go_enter Tryz.func11, Tryz.ntmps11
  go_wp2_with (first | (go_at_call 36; refine (C.out _ HA.out).mono ?_; rintro e w1 ⟨rfl, rfl⟩) | (go_at_call 38; refine (CW.out _ _ q rfl HA.out).mono ?_; rintro e w1 ⟨rfl, rfl⟩))
  go_end0
  exact ⟨rfl, (H3.out _ q.check (((Kept.refl _ _).setCell (p := ⟨b, 3, none⟩) (fun h => h rfl) _).setCell (p := ⟨b, 4, none⟩) (fun h => h rfl) _) rfl (nset4 (nset3 H1.out _) _)).ahead HG.out HB.out⟩
set_option maxHeartbeats 2000000 in
theorem hr_n5 (b : Nat) (G : Nat → Prop) (w : World) (q : Qa) (xc xn : Int) (xd : ByteArray) (xe : Int) (xL : List (List Int)) (xm xs xy : Int) (xo : Option Addr) (xp : Nat) (h : AQ b G w q) (hf : fewL xL) (hx : CL w xo xL) (hq : fewL q.L) (ha : q.at_ = 0) (n40 : ¬ xc = 40) (n45 : ¬ xc = 45) (hwt : q.waits xc = false)  :
    Calls Tryz.prog 11 #[ptrP b, .agg #[.int .i64 xc, .int .i64 xn, .string xd, .int .i64 xe, .slice xo xL.length xp, .int .i64 xm, .int .i64 xs, .int .i64 xy], .bool true] w fun e w' => e = .returned (.tuple #[]) ∧ Leaves (AQ b) G w w' (q.learn ⟨xc, xn, xd, xe, xL, xm, xs, xy⟩) := by
  obtain ⟨HG, HB, HX, HA, ⟨x0, x1, x2, x3, x4, x5, x6, x7⟩, ao, cap, ⟨c0, c1, c2, c3, c4, c5, c6, c7, c8⟩, ⟨f0, f1, f2, f3, f4, f5, f6, f7, f8⟩, hb, HC1, H1, H3⟩ := ans_start h xc xn xd xe xo xL.length xp xm xs xy rfl
  have C := Lib.hid (fun w (h : AQ b G w q) => ap_isOver b G w q h)
  rw [decide_eq_false (p := q.at_ = 5) (by omega)] at C
  have e40 : (xc == 40) = false := by simpa using n40
  have e45 : (xc == 45) = false := by simpa using n45
  have CX := Lib.hid (fun W h hx => ap_learn b G W q ⟨xc, xn, xd, xe, xL, xm, xs, xy⟩ xo xp h hf hx)
  have CW := Lib.hid (fun W H p hp h => ap_wt hwt b H W (p := p) hp h)
  have HC := Lib.hid (hx.below HB.out)
  rw [ha] at c3
  clear h hf hx hq
  unfold ptrP at *
  go_enter Tryz.func11, Tryz.ntmps11
  go_wp2_with (first | (go_at_call 36; refine (C.out _ HA.out).mono ?_; rintro e w1 ⟨rfl, rfl⟩) | (go_at_call 38; refine (CW.out _ _ q rfl HA.out).mono ?_; rintro e w1 ⟨rfl, rfl⟩) | (go_at_call 39; refine (CX.out _ HA.out HC.out).mono ?_; rintro e w9 ⟨rfl, hl⟩; have HL := Lib.hid hl; clear hl))
  go_end0
  exact ⟨rfl, HL.out.ahead HG.out HB.out⟩
set_option maxHeartbeats 2000000 in
theorem hr_n6 (b : Nat) (G : Nat → Prop) (w : World) (q : Qa) (xc xn : Int) (xd : ByteArray) (xe : Int) (xL : List (List Int)) (xm xs xy : Int) (xo : Option Addr) (xp : Nat) (h : AQ b G w q) (hf : fewL xL) (hx : CL w xo xL) (hq : fewL q.L) (ha : q.at_ = 1) (n40 : ¬ xc = 40) (n45 : ¬ xc = 45) (hwt : q.waits xc = false)  :
    Calls Tryz.prog 11 #[ptrP b, .agg #[.int .i64 xc, .int .i64 xn, .string xd, .int .i64 xe, .slice xo xL.length xp, .int .i64 xm, .int .i64 xs, .int .i64 xy], .bool true] w fun e w' => e = .returned (.tuple #[]) ∧ Leaves (AQ b) G w w' (q.learn ⟨xc, xn, xd, xe, xL, xm, xs, xy⟩) := by
  obtain ⟨HG, HB, HX, HA, ⟨x0, x1, x2, x3, x4, x5, x6, x7⟩, ao, cap, ⟨c0, c1, c2, c3, c4, c5, c6, c7, c8⟩, ⟨f0, f1, f2, f3, f4, f5, f6, f7, f8⟩, hb, HC1, H1, H3⟩ := ans_start h xc xn xd xe xo xL.length xp xm xs xy rfl
  have C := Lib.hid (fun w (h : AQ b G w q) => ap_isOver b G w q h)
  rw [decide_eq_false (p := q.at_ = 5) (by omega)] at C
  have e40 : (xc == 40) = false := by simpa using n40
  have e45 : (xc == 45) = false := by simpa using n45
  have CX := Lib.hid (fun W h hx => ap_learn b G W q ⟨xc, xn, xd, xe, xL, xm, xs, xy⟩ xo xp h hf hx)
  have CW := Lib.hid (fun W H p hp h => ap_wt hwt b H W (p := p) hp h)
  have HC := Lib.hid (hx.below HB.out)
  rw [ha] at c3
  clear h hf hx hq
  unfold ptrP at *
  go_enter Tryz.func11, Tryz.ntmps11
  go_wp2_with (first | (go_at_call 36; refine (C.out _ HA.out).mono ?_; rintro e w1 ⟨rfl, rfl⟩) | (go_at_call 38; refine (CW.out _ _ q rfl HA.out).mono ?_; rintro e w1 ⟨rfl, rfl⟩) | (go_at_call 39; refine (CX.out _ HA.out HC.out).mono ?_; rintro e w9 ⟨rfl, hl⟩; have HL := Lib.hid hl; clear hl))
  go_end0
  exact ⟨rfl, HL.out.ahead HG.out HB.out⟩
set_option maxHeartbeats 2000000 in
theorem hr_n7a (b : Nat) (G : Nat → Prop) (w : World) (q : Qa) (xc xn : Int) (xd : ByteArray) (xe : Int) (xL : List (List Int)) (xm xs xy : Int) (xo : Option Addr) (xp : Nat) (h : AQ b G w q) (hf : fewL xL) (hx : CL w xo xL) (hq : fewL q.L) (ha : q.at_ = 3) (n0 : ¬ xc = 0) (n40 : ¬ xc = 40) (n45 : ¬ xc = 45) (hat : q.at_ = 2 ∨ q.at_ = 3 ∨ q.at_ = 4) (hub : q.at_ ≠ 2 → 0 ≤ q.unit ∧ q.unit ≤ 100) (hwt : q.waits xc = false)  :
    Calls Tryz.prog 11 #[ptrP b, .agg #[.int .i64 xc, .int .i64 xn, .string xd, .int .i64 xe, .slice xo xL.length xp, .int .i64 xm, .int .i64 xs, .int .i64 xy], .bool true] w fun e w' => e = .returned (.tuple #[]) ∧ Leaves (AQ b) G w w' (q.step ⟨xc, xn, xd, xe, xL, xm, xs, xy⟩) := by
  obtain ⟨HG, HB, HX, HA, ⟨x0, x1, x2, x3, x4, x5, x6, x7⟩, ao, cap, ⟨c0, c1, c2, c3, c4, c5, c6, c7, c8⟩, ⟨f0, f1, f2, f3, f4, f5, f6, f7, f8⟩, hb, HC1, H1, H3⟩ := ans_start h xc xn xd xe xo xL.length xp xm xs xy rfl
  have C := Lib.hid (fun w (h : AQ b G w q) => ap_isOver b G w q h)
  rw [decide_eq_false (p := q.at_ = 5) (by omega)] at C
  have e0 : (xc == 0) = false := by simpa using n0
  have e40 : (xc == 40) = false := by simpa using n40
  have e45 : (xc == 45) = false := by simpa using n45
  have CX := Lib.hid (fun W h => ap_step b G W q ⟨xc, xn, xd, xe, xL, xm, xs, xy⟩ xo xp h hq hat hub)
  have CW := Lib.hid (fun W H p hp h => ap_wt hwt b H W (p := p) hp h)
  rw [ha] at c3
  clear h hf hx hq
  unfold ptrP at *
  go_enter Tryz.func11, Tryz.ntmps11
  go_wp2_with (first | (go_at_call 36; refine (C.out _ HA.out).mono ?_; rintro e w1 ⟨rfl, rfl⟩) | (go_at_call 38; refine (CW.out _ _ q rfl HA.out).mono ?_; rintro e w1 ⟨rfl, rfl⟩) | (go_at_call 40; refine (CX.out _ HA.out).mono ?_; rintro e w9 ⟨rfl, hl⟩; have HL := Lib.hid hl; clear hl))
  go_end0
  exact ⟨rfl, HL.out.ahead HG.out HB.out⟩
set_option maxHeartbeats 2000000 in
theorem hr_n7b (b : Nat) (G : Nat → Prop) (w : World) (q : Qa) (xc xn : Int) (xd : ByteArray) (xe : Int) (xL : List (List Int)) (xm xs xy : Int) (xo : Option Addr) (xp : Nat) (h : AQ b G w q) (hf : fewL xL) (hx : CL w xo xL) (hq : fewL q.L) (n3 : ¬ q.at_ = 3) (n40 : ¬ xc = 40) (n45 : ¬ xc = 45) (hat : q.at_ = 2 ∨ q.at_ = 3 ∨ q.at_ = 4) (hub : q.at_ ≠ 2 → 0 ≤ q.unit ∧ q.unit ≤ 100) (hwt : q.waits xc = false)  :
    Calls Tryz.prog 11 #[ptrP b, .agg #[.int .i64 xc, .int .i64 xn, .string xd, .int .i64 xe, .slice xo xL.length xp, .int .i64 xm, .int .i64 xs, .int .i64 xy], .bool true] w fun e w' => e = .returned (.tuple #[]) ∧ Leaves (AQ b) G w w' (q.step ⟨xc, xn, xd, xe, xL, xm, xs, xy⟩) := by
  obtain ⟨HG, HB, HX, HA, ⟨x0, x1, x2, x3, x4, x5, x6, x7⟩, ao, cap, ⟨c0, c1, c2, c3, c4, c5, c6, c7, c8⟩, ⟨f0, f1, f2, f3, f4, f5, f6, f7, f8⟩, hb, HC1, H1, H3⟩ := ans_start h xc xn xd xe xo xL.length xp xm xs xy rfl
  have C := Lib.hid (fun w (h : AQ b G w q) => ap_isOver b G w q h)
  rw [decide_eq_false (p := q.at_ = 5) (by omega)] at C
  have e40 : (xc == 40) = false := by simpa using n40
  have e45 : (xc == 45) = false := by simpa using n45
  have u0 : (q.at_ == 0) = false := by simpa using (show ¬ q.at_ = 0 by omega)
  have u1 : (q.at_ == 1) = false := by simpa using (show ¬ q.at_ = 1 by omega)
  have CX := Lib.hid (fun W h => ap_step b G W q ⟨xc, xn, xd, xe, xL, xm, xs, xy⟩ xo xp h hq hat hub)
  have CW := Lib.hid (fun W H p hp h => ap_wt hwt b H W (p := p) hp h)
  have e3 : (q.at_ == 3) = false := by simpa using (show ¬ q.at_ = 3 by omega)
  clear h hf hx hq
  unfold ptrP at *
  go_enter Tryz.func11, Tryz.ntmps11
  go_wp2_with (first | (go_at_call 36; refine (C.out _ HA.out).mono ?_; rintro e w1 ⟨rfl, rfl⟩) | (go_at_call 38; refine (CW.out _ _ q rfl HA.out).mono ?_; rintro e w1 ⟨rfl, rfl⟩) | (go_at_call 40; refine (CX.out _ HA.out).mono ?_; rintro e w9 ⟨rfl, hl⟩; have HL := Lib.hid hl; clear hl))
  go_end0
  exact ⟨rfl, HL.out.ahead HG.out HB.out⟩
end Go.Proofs.YtimjlfkdbkafeaaGreat
