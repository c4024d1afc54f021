/- What the program's append makes of what the layout, the sequencer or a unit answers. Conditions: it lies where the call was told; the answer's chains lie there too. -/
import Derived.Test.YtimjlfkdbkafeaaGreatG33a
set_option linter.unusedVariables false
namespace Go.Proofs.YtimjlfkdbkafeaaGreat
set_option linter.unusedVariables false
open Go.RowKit
set_option maxRecDepth 20000
theorem ap_learn (b : Nat) (G : Nat → Prop) (w : World) (q : Qa) (x : An) (xo : Option Addr) (xp : Nat) (h : AQ b G w q) (hf : fewL x.L) (hx : CL w xo x.L) :
    Calls Tryz.prog 39 #[ptrP b, ansV x xo xp] w fun e w' => e = .returned (.tuple #[]) ∧ Leaves (AQ b) G w w' (q.learn x) := by
  obtain ⟨xc, xn, xd, xe, xL, xm, xs, xy⟩ := x
  show Calls _ _ #[ptrP b, .agg #[.int .i64 xc, .int .i64 xn, .string xd, .int .i64 xe, .slice xo xL.length xp, .int .i64 xm, .int .i64 xs, .int .i64 xy]] w _
  unfold Qa.learn
  dsimp only at *
  by_cases c0 : xc = 0
  · subst c0
    by_cases hg : goodB xe xL = true
    · by_cases ha : q.at_ = 0
      · rw [if_pos ⟨rfl, hg, .inl ha⟩]
        exact learn_c b G w q 0 xn xd xe xL xm xs xy xo xp h hf hx hg ha
      · by_cases ee : xe = q.ep
        · subst ee
          rw [if_neg (fun e => e.2.2.elim ha (fun e => e rfl))]
          by_cases h1 : q.at_ = 1
          · rw [if_pos h1]
            exact learn_e1 b G w q 0 xn xd xL xm xs xy xo xp h hf hx hg h1
          · rw [if_neg h1]
            exact learn_e0 b G w q 0 xn xd xL xm xs xy xo xp h hf hx hg ha h1
        · rw [if_pos ⟨rfl, hg, .inr ee⟩]
          exact learn_d b G w q 0 xn xd xe xL xm xs xy xo xp h hf hx hg ha ee
    · rw [if_neg (fun e => hg e.2.1)]
      have hg' : goodB xe xL = false := Bool.eq_false_iff.2 hg
      by_cases h1 : q.at_ = 1
      · rw [if_pos h1]
        exact learn_b1 b G w q 0 xn xd xe xL xm xs xy xo xp h hf hx hg' h1
      · rw [if_neg h1]
        exact learn_b0 b G w q 0 xn xd xe xL xm xs xy xo xp h hf hx hg' h1
  · rw [if_neg (fun e => c0 e.1)]
    by_cases h1 : q.at_ = 1
    · rw [if_pos h1]
      exact learn_a1 b G w q xc xn xd xe xL xm xs xy xo xp h hf hx c0 h1
    · rw [if_neg h1]
      exact learn_a0 b G w q xc xn xd xe xL xm xs xy xo xp h hf hx c0 h1
theorem ap_step (b : Nat) (G : Nat → Prop) (w : World) (q : Qa) (x : An) (xo : Option Addr) (xp : Nat) (h : AQ b G w q) (hf : fewL q.L) (hat : q.at_ = 2 ∨ q.at_ = 3 ∨ q.at_ = 4) (hub : q.at_ ≠ 2 → 0 ≤ q.unit ∧ q.unit ≤ 100) :
    Calls Tryz.prog 40 #[ptrP b, ansV x xo xp] w fun e w' => e = .returned (.tuple #[]) ∧ Leaves (AQ b) G w w' (q.step x) := by
  obtain ⟨xc, xn, xd, xe, xL, xm, xs, xy⟩ := x
  show Calls _ _ #[ptrP b, .agg #[.int .i64 xc, .int .i64 xn, .string xd, .int .i64 xe, .slice xo xL.length xp, .int .i64 xm, .int .i64 xs, .int .i64 xy]] w _
  unfold Qa.step
  by_cases a2 : q.at_ = 2
  · rw [if_pos a2]
    unfold Qa.token Qa.full
    dsimp only
    cases ho : ofB q.ep q.L xn with
    | true =>
      by_cases c0 : xc = 0
      · subst c0
        rw [if_pos ⟨rfl, rfl⟩]
        exact tok_yes b G w q 0 xn xd xe xL xm xs xy xo xp h a2 hf ho
      · rw [if_neg (fun e => c0 e.2)]
        by_cases c4 : xc = 44
        · subst c4
          rw [if_pos rfl]
          cases hm : q.may with
          | true => exact tok_full_ty b G w q 0 xn xd xe xL xm xs xy xo xp h a2 hf ho hm
          | false => exact tok_full_fy b G w q 0 xn xd xe xL xm xs xy xo xp h a2 hf ho hm
        · rw [if_neg c4]
          exact tok_again_y b G w q xc xn xd xe xL xm xs xy xo xp h a2 hf ho c0 c4
    | false =>
      rw [if_neg (fun e => Bool.noConfusion e.1)]
      by_cases c4 : xc = 44
      · subst c4
        rw [if_pos rfl]
        cases hm : q.may with
        | true => exact tok_full_tn b G w q 0 xn xd xe xL xm xs xy xo xp h a2 hf ho hm
        | false => exact tok_full_fn b G w q 0 xn xd xe xL xm xs xy xo xp h a2 hf ho hm
      · rw [if_neg c4]
        exact tok_again_n b G w q xc xn xd xe xL xm xs xy xo xp h a2 hf ho c4
  · rw [if_neg a2]
    have hu := hub a2
    by_cases a3 : q.at_ = 3
    · rw [if_pos a3]
      unfold Qa.write Qa.full Qa.next
      dsimp only
      by_cases c0 : xc = 0
      · subst c0
        rw [if_pos rfl]
        exact wr_next b G w q 0 xn xd xe xL xm xs xy xo xp h a3 hf hu _ (fun hn => if_pos hn) (fun hn => if_neg hn)
      · rw [if_neg c0]
        by_cases c1 : xc = 41
        · subst c1
          rw [if_pos rfl]
          exact wr_look b G w q 0 xn xd xe xL xm xs xy xo xp h a3
        · rw [if_neg c1]
          by_cases c3 : xc = 43
          · subst c3
            rw [if_pos rfl]
            exact wr_token b G w q 0 xn xd xe xL xm xs xy xo xp h a3
          · rw [if_neg c3]
            by_cases c4 : xc = 44
            · subst c4
              rw [if_pos rfl]
              cases hm : q.may with
              | true => exact wr_full_t b G w q 0 xn xd xe xL xm xs xy xo xp h a3 hm
              | false => exact wr_full_f b G w q 0 xn xd xe xL xm xs xy xo xp h a3 hm
            · rw [if_neg c4]
              exact wr_over b G w q xc xn xd xe xL xm xs xy xo xp h a3 c0 c1 c3 c4
    · rw [if_neg a3]
      have a4 : q.at_ = 4 := by omega
      unfold Qa.look Qa.next
      dsimp only
      by_cases c0 : xc = 0
      · subst c0
        by_cases hd : xd = q.txt
        · subst hd
          rw [if_pos ⟨rfl, rfl⟩]
          exact lk_next b G w q 0 xn xe xL xm xs xy xo xp h a4 hf hu _ (fun hn => if_pos hn) (fun hn => if_neg hn)
        · rw [if_neg (fun e => hd e.2), if_pos (.inl rfl)]
          exact lk_other b G w q 0 xn xd xe xL xm xs xy xo xp h a4 hd
      · rw [if_neg (fun e => c0 e.1)]
        by_cases c6 : xc = 46
        · subst c6
          rw [if_pos (.inr (.inl rfl))]
          exact lk_junk b G w q 0 xn xd xe xL xm xs xy xo xp h a4
        · by_cases c3 : xc = 43
          · subst c3
            rw [if_pos (.inr (.inr rfl))]
            exact lk_trimmed b G w q 0 xn xd xe xL xm xs xy xo xp h a4
          · rw [if_neg (fun e => e.elim c0 (fun e => e.elim c6 c3))]
            by_cases c2 : xc = 42
            · subst c2
              rw [if_pos rfl]
              exact lk_write b G w q 0 xn xd xe xL xm xs xy xo xp h a4
            · rw [if_neg c2]
              exact lk_over b G w q xc xn xd xe xL xm xs xy xo xp h a4 c0 c6 c3 c2
end Go.Proofs.YtimjlfkdbkafeaaGreat
