/- What the program's fetch makes of an answer that it hears, or of none. Conditions: it lies where the call was told; the answer's chains lie there too. (Written by gen/genfmp.py.) -/
import Derived.Test.YthffjanidjjkdaaGreatG32a
set_option linter.unusedVariables false
namespace Go.Proofs.YthffjanidjjkdaaGreat
set_option linter.unusedVariables false
open Go.RowKit
set_option maxRecDepth 20000
theorem chain_small (ep : Int) (L : List (List Int)) (x : Int) : (chainR ep L x).length ≤ 100 := by
  cases h : ofB ep L x with
  | true => have := chainF_some h; omega
  | false => unfold chainR; rw [h, if_neg Bool.noConfusion]; exact Nat.zero_le _
theorem fp_learn (b : Nat) (G : Nat → Prop) (w : World) (q : Qf) (x : An) (xo : Option Addr) (xp : Nat) (h : FQ b G w q) (hf : fewL x.L) (hx : CL w xo x.L) (ha : q.at_ = 0 ∨ q.at_ = 1) :
    Calls Tryz.prog 42 #[ptrP b, ansV x xo xp] w fun e w' => e = .returned (.tuple #[]) ∧ Leaves (FQ b) G w w' (q.learn x) := by
  obtain ⟨xc, xn, xd, xe, xL, xm, xs, xy⟩ := x
  show Calls _ _ #[ptrP b, .agg #[.int .i64 xc, .int .i64 xn, .string xd, .int .i64 xe, .slice xo xL.length xp, .int .i64 xm, .int .i64 xs, .int .i64 xy]] w _
  unfold Qf.learn
  dsimp only at *
  have hn := chain_small xe xL q.addr
  by_cases c0 : xc = 0
  · subst c0
    cases hg : goodB xe xL with
    | true =>
      rcases ha with ha | ha
      · rw [if_pos ⟨rfl, rfl, .inl ha⟩]
        exact fl_c b G w q 0 xn xd xe xL xm xs xy xo xp h hf hx hg ha hn
      · by_cases ee : xe = q.ep
        · subst ee
          rw [if_neg (fun e => e.2.2.elim (by omega) (fun e => e rfl)), if_pos ha]
          exact fl_e b G w q 0 xn xd xL xm xs xy xo xp h hf hx hg ha
        · rw [if_pos ⟨rfl, rfl, .inr ee⟩]
          exact fl_d b G w q 0 xn xd xe xL xm xs xy xo xp h hf hx hg ha ee hn
    | false =>
      rw [if_neg (fun e => Bool.noConfusion e.2.1)]
      rcases ha with ha | ha
      · rw [if_neg (by omega)]
        exact fl_b0 b G w q 0 xn xd xe xL xm xs xy xo xp h hf hx hg ha
      · rw [if_pos ha]
        exact fl_b1 b G w q 0 xn xd xe xL xm xs xy xo xp h hf hx hg ha
  · rw [if_neg (fun e => c0 e.1)]
    rcases ha with ha | ha
    · rw [if_neg (by omega)]
      exact fl_a0 b G w q xc xn xd xe xL xm xs xy xo xp h hf hx c0 ha
    · rw [if_pos ha]
      exact fl_a1 b G w q xc xn xd xe xL xm xs xy xo xp h hf hx c0 ha
theorem fp_step (b : Nat) (G : Nat → Prop) (w : World) (q : Qf) (x : An) (xo : Option Addr) (xp : Nat) (h : FQ b G w q) (hf : fewL q.L) (ha : 2 ≤ q.at_ ∧ q.at_ ≤ 5) (hu : 0 ≤ q.unit ∧ q.unit ≤ 100) (hd : x.data.size ≤ 1000000) :
    Calls Tryz.prog 43 #[ptrP b, ansV x xo xp] w fun e w' => e = .returned (.tuple #[]) ∧ Leaves (FQ b) G w w' (q.step x) := by
  obtain ⟨xc, xn, xd, xe, xL, xm, xs, xy⟩ := x
  show Calls _ _ #[ptrP b, .agg #[.int .i64 xc, .int .i64 xn, .string xd, .int .i64 xe, .slice xo xL.length xp, .int .i64 xm, .int .i64 xs, .int .i64 xy]] w _
  unfold Qf.step
  dsimp only at *
  by_cases c43 : xc = 43
  · subst c43
    rw [if_pos rfl]
    exact fs_trim b G w q 0 xn xd xe xL xm xs xy xo xp h
  · rw [if_neg c43]
    by_cases a23 : q.at_ = 2 ∨ q.at_ = 3
    · rw [if_pos a23]
      by_cases c0 : xc = 0
      · subst c0
        rw [if_pos rfl]
        exact fs_text b G w q 0 xn xd xe xL xm xs xy xo xp h a23 hf hu hd
      · rw [if_neg c0]
        by_cases c46 : xc = 46
        · subst c46
          rw [if_pos rfl]
          exact fs_junk_r b G w q 0 xn xd xe xL xm xs xy xo xp h a23 hf hu
        · rw [if_neg c46]
          by_cases c42 : xc = 42
          · subst c42
            rw [if_pos rfl]
            by_cases u0 : 0 < q.unit
            · rw [if_pos u0]
              exact fs_first_r b G w q 0 xn xd xe xL xm xs xy xo xp h a23 u0
            · rw [if_neg u0]
              unfold Qf.unwr
              cases hl : q.fill with
              | true => rw [if_pos rfl]; exact fs_unwr_t b G w q 0 xn xd xe xL xm xs xy xo xp h a23 (by omega) hl
              | false => rw [if_neg Bool.noConfusion]; exact fs_unwr_f b G w q 0 xn xd xe xL xm xs xy xo xp h a23 (by omega) hl
          · rw [if_neg c42]
            exact fs_over_r b G w q xc xn xd xe xL xm xs xy xo xp h a23 c43 c0 c46 c42
    · rw [if_neg a23]
      by_cases a4 : q.at_ = 4
      · rw [if_pos a4]
        by_cases c0 : xc = 0
        · subst c0
          rw [if_pos rfl]
          exact fs_junk_j b G w q 0 xn xd xe xL xm xs xy xo xp h a4 hf hu
        · rw [if_neg c0]
          by_cases c41 : xc = 41
          · subst c41
            rw [if_pos rfl]
            exact fs_first_j b G w q 0 xn xd xe xL xm xs xy xo xp h a4
          · rw [if_neg c41]
            exact fs_over_w b G w q xc xn xd xe xL xm xs xy xo xp h (.inl a4) c43 c0 c41
      · rw [if_neg a4]
        have a5 : q.at_ = 5 := by omega
        by_cases c0 : xc = 0 ∨ xc = 41
        · rw [if_pos c0]
          exact fs_mend b G w q xc xn xd xe xL xm xs xy xo xp h a5 hf hu c0
        · rw [if_neg c0]
          exact fs_over_w b G w q xc xn xd xe xL xm xs xy xo xp h (.inr a5) c43 (fun e => c0 (.inl e)) (fun e => c0 (.inr e))
set_option maxHeartbeats 2000000 in
theorem fh_no (b : Nat) (G : Nat → Prop) (w : World) (q : Qf) (xc xn : Int) (xd : ByteArray) (xe : Int) (xL : List (List Int)) (xm xs xy : Int) (xo : Option Addr) (xp : Nat) (h : FQ b G w q)  :
    Calls Tryz.prog 25 #[ptrP b, .agg #[.int .i64 xc, .int .i64 xn, .string xd, .int .i64 xe, .slice xo xL.length xp, .int .i64 xm, .int .i64 xs, .int .i64 xy], .bool false] w fun e w' => e = .returned (.tuple #[]) ∧ Leaves (FQ b) G w w' (q) := by
  obtain ⟨HG, HB, HX, HA, ⟨x0, x1, x2, x3, x4, x5, x6, x7⟩, ao, cap, ⟨c0, c1, c2, c3, c4, c5, c6, c7, c8, c9⟩, ⟨f0, f1, f2, f3, f4, f5, f6, f7, f8, f9⟩, hb, HC1, H1, H3⟩ := fns_start h xc xn xd xe xo xL.length xp xm xs xy rfl
  clear h
  unfold ptrP at *
  go_enter Tryz.func25, Tryz.ntmps25
  go_wp2_with fail
  exact bodyPost_ret (results_none rfl _ _ _) rfl ⟨rfl, (Leaves.same (fq_thing b) HA.out (Below.refl _ _)).ahead HG.out HB.out⟩
set_option maxHeartbeats 2000000 in
theorem fh_over (b : Nat) (G : Nat → Prop) (w : World) (q : Qf) (xc xn : Int) (xd : ByteArray) (xe : Int) (xL : List (List Int)) (xm xs xy : Int) (xo : Option Addr) (xp : Nat) (h : FQ b G w q) (ha : q.at_ = 6) :
    Calls Tryz.prog 25 #[ptrP b, .agg #[.int .i64 xc, .int .i64 xn, .string xd, .int .i64 xe, .slice xo xL.length xp, .int .i64 xm, .int .i64 xs, .int .i64 xy], .bool true] w fun e w' => e = .returned (.tuple #[]) ∧ Leaves (FQ b) G w w' (q) := by
  obtain ⟨HG, HB, HX, HA, ⟨x0, x1, x2, x3, x4, x5, x6, x7⟩, ao, cap, ⟨c0, c1, c2, c3, c4, c5, c6, c7, c8, c9⟩, ⟨f0, f1, f2, f3, f4, f5, f6, f7, f8, f9⟩, hb, HC1, H1, H3⟩ := fns_start h xc xn xd xe xo xL.length xp xm xs xy rfl
  have C := Lib.hid (fun w (h : FQ b G w q) => fp_isOver b G w q h)
  rw [decide_eq_true ha] at C
  clear h
  unfold ptrP at *
  go_enter Tryz.func25, Tryz.ntmps25
  go_wp2_with (go_at_call 40; refine (C.out _ HA.out).mono ?_; rintro e w1 ⟨rfl, rfl⟩)
  exact bodyPost_ret (results_none rfl _ _ _) rfl ⟨rfl, (Leaves.same (fq_thing b) HA.out (Below.refl _ _)).ahead HG.out HB.out⟩
set_option maxHeartbeats 2000000 in
theorem fh_stay (b : Nat) (G : Nat → Prop) (w : World) (q : Qf) (xc xn : Int) (xd : ByteArray) (xe : Int) (xL : List (List Int)) (xm xs xy : Int) (xo : Option Addr) (xp : Nat) (h : FQ b G w q) (ha : q.at_ = 0 ∨ q.at_ = 1) :
    Calls Tryz.prog 25 #[ptrP b, .agg #[.int .i64 45, .int .i64 xn, .string xd, .int .i64 xe, .slice xo xL.length xp, .int .i64 xm, .int .i64 xs, .int .i64 xy], .bool true] w fun e w' => e = .returned (.tuple #[]) ∧ Leaves (FQ b) G w w' (q) := by
  obtain ⟨HG, HB, HX, HA, ⟨x0, x1, x2, x3, x4, x5, x6, x7⟩, ao, cap, ⟨c0, c1, c2, c3, c4, c5, c6, c7, c8, c9⟩, ⟨f0, f1, f2, f3, f4, f5, f6, f7, f8, f9⟩, hb, HC1, H1, H3⟩ := fns_start h 45 xn xd xe xo xL.length xp xm xs xy rfl
  have C := Lib.hid (fun w (h : FQ b G w q) => fp_isOver b G w q h)
  rw [decide_eq_false (p := q.at_ = 6) (by omega)] at C
  have CA := Lib.hid (fun w (h : FQ b G w q) => fp_asks b G w q h)
  rw [decide_eq_true ha] at CA
  clear h
  unfold ptrP at *
  go_enter Tryz.func25, Tryz.ntmps25
  go_wp2_with (first | (go_at_call 40; refine (C.out _ HA.out).mono ?_; rintro e w1 ⟨rfl, rfl⟩) | (go_at_call 41; refine (CA.out _ HA.out).mono ?_; rintro e w1 ⟨rfl, rfl⟩))
  go_end0
  exact ⟨rfl, (Leaves.same (fq_thing b) HA.out (Below.refl _ _)).ahead HG.out HB.out⟩
set_option maxHeartbeats 2000000 in
theorem fh_check (b : Nat) (G : Nat → Prop) (w : World) (q : Qf) (xc xn : Int) (xd : ByteArray) (xe : Int) (xL : List (List Int)) (xm xs xy : Int) (xo : Option Addr) (xp : Nat) (h : FQ b G w q) (ha : 2 ≤ q.at_ ∧ q.at_ ≤ 5) :
    Calls Tryz.prog 25 #[ptrP b, .agg #[.int .i64 45, .int .i64 xn, .string xd, .int .i64 xe, .slice xo xL.length xp, .int .i64 xm, .int .i64 xs, .int .i64 xy], .bool true] w fun e w' => e = .returned (.tuple #[]) ∧ Leaves (FQ b) G w w' (q.check) := by
  obtain ⟨HG, HB, HX, HA, ⟨x0, x1, x2, x3, x4, x5, x6, x7⟩, ao, cap, ⟨c0, c1, c2, c3, c4, c5, c6, c7, c8, c9⟩, ⟨f0, f1, f2, f3, f4, f5, f6, f7, f8, f9⟩, hb, HC1, H1, H3⟩ := fns_start h 45 xn xd xe xo xL.length xp xm xs xy rfl
  have C := Lib.hid (fun w (h : FQ b G w q) => fp_isOver b G w q h)
  rw [decide_eq_false (p := q.at_ = 6) (by omega)] at C
  have CA := Lib.hid (fun w (h : FQ b G w q) => fp_asks b G w q h)
  rw [decide_eq_false (p := q.at_ = 0 ∨ q.at_ = 1) (by omega)] at CA
  clear h
  unfold ptrP at *
  go_enter Tryz.func25, Tryz.ntmps25
  go_wp2_with (first | (go_at_call 40; refine (C.out _ HA.out).mono ?_; rintro e w1 ⟨rfl, rfl⟩) | (go_at_call 41; refine (CA.out _ HA.out).mono ?_; rintro e w1 ⟨rfl, rfl⟩))
  go_end0
  exact ⟨rfl, (H3.out _ q.check (((Kept.refl _ _).setCell (p := ⟨b, 4, none⟩) (fun h => h rfl) _).setCell (p := ⟨b, 5, none⟩) (fun h => h rfl) _) rfl (tset5 (tset4 H1.out _) _)).ahead HG.out HB.out⟩
set_option maxHeartbeats 2000000 in
theorem fh_lay (b : Nat) (G : Nat → Prop) (w : World) (q : Qf) (xc xn : Int) (xd : ByteArray) (xe : Int) (xL : List (List Int)) (xm xs xy : Int) (xo : Option Addr) (xp : Nat) (h : FQ b G w q) (ha : ¬ q.at_ = 6) :
    Calls Tryz.prog 25 #[ptrP b, .agg #[.int .i64 40, .int .i64 xn, .string xd, .int .i64 xe, .slice xo xL.length xp, .int .i64 xm, .int .i64 xs, .int .i64 xy], .bool true] w fun e w' => e = .returned (.tuple #[]) ∧ Leaves (FQ b) G w w' (q.lay) := by
  obtain ⟨HG, HB, HX, HA, ⟨x0, x1, x2, x3, x4, x5, x6, x7⟩, ao, cap, ⟨c0, c1, c2, c3, c4, c5, c6, c7, c8, c9⟩, ⟨f0, f1, f2, f3, f4, f5, f6, f7, f8, f9⟩, hb, HC1, H1, H3⟩ := fns_start h 40 xn xd xe xo xL.length xp xm xs xy rfl
  have C := Lib.hid (fun w (h : FQ b G w q) => fp_isOver b G w q h)
  rw [decide_eq_false (p := q.at_ = 6) (by omega)] at C
  clear h
  unfold ptrP at *
  go_enter Tryz.func25, Tryz.ntmps25
  go_wp2_with (go_at_call 40; refine (C.out _ HA.out).mono ?_; rintro e w1 ⟨rfl, rfl⟩)
  go_end0
  exact ⟨rfl, (H3.out _ q.lay ((((Kept.refl _ _).setCell (p := ⟨b, 4, none⟩) (fun h => h rfl) _).setCell (p := ⟨b, 7, none⟩) (fun h => h rfl) _).setCell (p := ⟨b, 8, none⟩) (fun h => h rfl) _) rfl (tset8 (tset7 (tset4 H1.out _) _) _)).ahead HG.out HB.out⟩
set_option maxHeartbeats 2000000 in
theorem fh_learn (b : Nat) (G : Nat → Prop) (w : World) (q : Qf) (xc xn : Int) (xd : ByteArray) (xe : Int) (xL : List (List Int)) (xm xs xy : Int) (xo : Option Addr) (xp : Nat) (h : FQ b G w q) (ha : q.at_ = 0 ∨ q.at_ = 1) (n40 : ¬ xc = 40) (n45 : ¬ xc = 45) (hf : fewL xL) (hx : CL w xo xL) :
    Calls Tryz.prog 25 #[ptrP b, .agg #[.int .i64 xc, .int .i64 xn, .string xd, .int .i64 xe, .slice xo xL.length xp, .int .i64 xm, .int .i64 xs, .int .i64 xy], .bool true] w fun e w' => e = .returned (.tuple #[]) ∧ Leaves (FQ b) G w w' (q.learn ⟨xc, xn, xd, xe, xL, xm, xs, xy⟩) := by
  obtain ⟨HG, HB, HX, HA, ⟨x0, x1, x2, x3, x4, x5, x6, x7⟩, ao, cap, ⟨c0, c1, c2, c3, c4, c5, c6, c7, c8, c9⟩, ⟨f0, f1, f2, f3, f4, f5, f6, f7, f8, f9⟩, hb, HC1, H1, H3⟩ := fns_start h xc xn xd xe xo xL.length xp xm xs xy rfl
  have C := Lib.hid (fun w (h : FQ b G w q) => fp_isOver b G w q h)
  rw [decide_eq_false (p := q.at_ = 6) (by omega)] at C
  have CA := Lib.hid (fun w (h : FQ b G w q) => fp_asks b G w q h)
  rw [decide_eq_true ha] at CA
  have e40 : (xc == 40) = false := by simpa using n40
  have e45 : (xc == 45) = false := by simpa using n45
  have CX := Lib.hid (fun W h hx => fp_learn b G W q ⟨xc, xn, xd, xe, xL, xm, xs, xy⟩ xo xp h hf hx ha)
  have HC := Lib.hid (hx.below HB.out)
  clear hf hx
  clear h
  unfold ptrP at *
  go_enter Tryz.func25, Tryz.ntmps25
  go_wp2_with (first | (go_at_call 40; refine (C.out _ HA.out).mono ?_; rintro e w1 ⟨rfl, rfl⟩) | (go_at_call 41; refine (CA.out _ HA.out).mono ?_; rintro e w1 ⟨rfl, rfl⟩) | (go_at_call 42; refine (CX.out _ HA.out HC.out).mono ?_; rintro e w9 ⟨rfl, hl⟩; have HL9 := Lib.hid hl; clear hl))
  go_end0
  exact ⟨rfl, HL9.out.ahead HG.out HB.out⟩
set_option maxHeartbeats 2000000 in
theorem fh_step (b : Nat) (G : Nat → Prop) (w : World) (q : Qf) (xc xn : Int) (xd : ByteArray) (xe : Int) (xL : List (List Int)) (xm xs xy : Int) (xo : Option Addr) (xp : Nat) (h : FQ b G w q) (ha : 2 ≤ q.at_ ∧ q.at_ ≤ 5) (n40 : ¬ xc = 40) (n45 : ¬ xc = 45) (hf : fewL q.L) (hu : 0 ≤ q.unit ∧ q.unit ≤ 100) (hd : xd.size ≤ 1000000) :
    Calls Tryz.prog 25 #[ptrP b, .agg #[.int .i64 xc, .int .i64 xn, .string xd, .int .i64 xe, .slice xo xL.length xp, .int .i64 xm, .int .i64 xs, .int .i64 xy], .bool true] w fun e w' => e = .returned (.tuple #[]) ∧ Leaves (FQ b) G w w' (q.step ⟨xc, xn, xd, xe, xL, xm, xs, xy⟩) := by
  obtain ⟨HG, HB, HX, HA, ⟨x0, x1, x2, x3, x4, x5, x6, x7⟩, ao, cap, ⟨c0, c1, c2, c3, c4, c5, c6, c7, c8, c9⟩, ⟨f0, f1, f2, f3, f4, f5, f6, f7, f8, f9⟩, hb, HC1, H1, H3⟩ := fns_start h xc xn xd xe xo xL.length xp xm xs xy rfl
  have C := Lib.hid (fun w (h : FQ b G w q) => fp_isOver b G w q h)
  rw [decide_eq_false (p := q.at_ = 6) (by omega)] at C
  have CA := Lib.hid (fun w (h : FQ b G w q) => fp_asks b G w q h)
  rw [decide_eq_false (p := q.at_ = 0 ∨ q.at_ = 1) (by omega)] at CA
  have e40 : (xc == 40) = false := by simpa using n40
  have e45 : (xc == 45) = false := by simpa using n45
  have CX := Lib.hid (fun W h => fp_step b G W q ⟨xc, xn, xd, xe, xL, xm, xs, xy⟩ xo xp h hf ha hu hd)
  clear hf
  clear h
  unfold ptrP at *
  go_enter Tryz.func25, Tryz.ntmps25
  go_wp2_with (first | (go_at_call 40; refine (C.out _ HA.out).mono ?_; rintro e w1 ⟨rfl, rfl⟩) | (go_at_call 41; refine (CA.out _ HA.out).mono ?_; rintro e w1 ⟨rfl, rfl⟩) | (go_at_call 43; refine (CX.out _ HA.out).mono ?_; rintro e w9 ⟨rfl, hl⟩; have HL9 := Lib.hid hl; clear hl))
  go_end0
  exact ⟨rfl, HL9.out.ahead HG.out HB.out⟩
theorem fp_hear (b : Nat) (G : Nat → Prop) (w : World) (q : Qf) (x : An) (xo : Option Addr) (xp : Nat) (c : Bool) (h : FQ b G w q) (hr : 0 ≤ q.at_ ∧ q.at_ ≤ 6) (hq : fewL q.L) (hu : 2 ≤ q.at_ ∧ q.at_ ≤ 5 → 0 ≤ q.unit ∧ q.unit ≤ 100) (hf : fewL x.L) (hx : CL w xo x.L) (hd : x.data.size ≤ 1000000) :
    Calls Tryz.prog 25 #[ptrP b, ansV x xo xp, .bool c] w fun e w' => e = .returned (.tuple #[]) ∧ Leaves (FQ b) G w w' (q.hear x c) := by
  obtain ⟨xc, xn, xd, xe, xL, xm, xs, xy⟩ := x
  show Calls _ _ #[ptrP b, .agg #[.int .i64 xc, .int .i64 xn, .string xd, .int .i64 xe, .slice xo xL.length xp, .int .i64 xm, .int .i64 xs, .int .i64 xy], .bool c] w _
  unfold Qf.hear
  dsimp only at *
  cases c with
  | false =>
    rw [if_pos (.inl rfl)]
    exact fh_no b G w q xc xn xd xe xL xm xs xy xo xp h
  | true =>
    by_cases a6 : q.at_ = 6
    · rw [if_pos (.inr a6)]
      exact fh_over b G w q xc xn xd xe xL xm xs xy xo xp h a6
    · rw [if_neg (fun e => e.elim Bool.noConfusion a6)]
      by_cases c45 : xc = 45
      · subst c45
        rw [if_pos rfl]
        by_cases a01 : q.at_ = 0 ∨ q.at_ = 1
        · rw [if_pos a01]
          exact fh_stay b G w q 0 xn xd xe xL xm xs xy xo xp h a01
        · rw [if_neg a01]
          exact fh_check b G w q 0 xn xd xe xL xm xs xy xo xp h (by omega)
      · rw [if_neg c45]
        by_cases c40 : xc = 40
        · subst c40
          rw [if_pos rfl]
          exact fh_lay b G w q 0 xn xd xe xL xm xs xy xo xp h a6
        · rw [if_neg c40]
          by_cases a01 : q.at_ = 0 ∨ q.at_ = 1
          · rw [if_pos a01]
            exact fh_learn b G w q xc xn xd xe xL xm xs xy xo xp h a01 c40 c45 hf hx
          · rw [if_neg a01]
            exact fh_step b G w q xc xn xd xe xL xm xs xy xo xp h (by omega) c40 c45 hq (hu (by omega)) hd
end Go.Proofs.YthffjanidjjkdaaGreat
