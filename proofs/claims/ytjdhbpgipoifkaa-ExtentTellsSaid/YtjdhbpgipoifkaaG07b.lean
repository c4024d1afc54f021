/- Plain facts: parts are good, one by one. No conditions but those that the statements name. -/
import Derived.Test.YtjdhbpgipoifkaaG06b
set_option linter.unusedVariables false
namespace Go.Proofs.Ytjdhbpgipoifkaa
set_option linter.unusedVariables false
set_option maxRecDepth 20000
open Go.RowKit
theorem rail_iff {l : List Pt} : railB l = true ↔ (∀ k (h : k < l.length), oneB l[k] = true) ∧ ∀ k (h : k + 1 < l.length), fitB l[k] l[k + 1] = true := by
  induction l with
  | nil => exact ⟨fun _ => ⟨fun k h => absurd h (Nat.not_lt_zero k), fun k h => absurd h (Nat.not_lt_zero _)⟩, fun _ => rfl⟩
  | cons x l ih =>
    constructor
    · intro h
      obtain ⟨h1, h2, h3⟩ := railB_cons h
      obtain ⟨g1, g2⟩ := ih.1 h2
      refine ⟨fun k hk => ?_, fun k hk => ?_⟩
      · cases k with
        | zero => exact h1
        | succ k => exact g1 k (by simpa using hk)
      · cases k with
        | zero =>
          cases l with
          | nil => simp at hk
          | cons y m => exact h3 y m rfl
        | succ k => exact g2 k (by simpa using hk)
    · rintro ⟨h1, h2⟩
      refine railB_of (h1 0 (by simp)) (ih.2 ⟨fun k hk => h1 (k + 1) (by simpa using hk), fun k hk => h2 (k + 1) (by simpa using hk)⟩) (fun y m e => ?_)
      subst e
      exact h2 0 (by simp)
/-- the first k are good, and each is no going on of the one ahead -/
def upB (l : List Pt) (k : Nat) : Prop := (∀ j (h : j < l.length), j < k → oneB l[j] = true) ∧ ∀ j (h : j + 1 < l.length), j + 1 < k → fitB l[j] l[j + 1] = true
theorem upB_zero (l : List Pt) : upB l 0 := ⟨fun _ _ h => absurd h (Nat.not_lt_zero _), fun _ _ h => absurd h (Nat.not_lt_zero _)⟩
theorem upB_one {l : List Pt} (h0 : 0 < l.length) (h1 : oneB l[0] = true) : upB l 1 := ⟨fun j hj hk => (by obtain rfl : j = 0 := (by omega); exact h1), fun j hj hk => (by omega)⟩
theorem upB_next {l : List Pt} {k : Nat} (h : upB l (k + 1)) (hk : k + 1 < l.length) (h1 : oneB l[k + 1] = true) (h2 : fitB l[k] l[k + 1] = true) : upB l (k + 1 + 1) := by
  refine ⟨fun j hj hjk => ?_, fun j hj hjk => ?_⟩
  · by_cases e : j < k + 1
    · exact h.1 j hj e
    · obtain rfl : j = k + 1 := by omega
      exact h1
  · by_cases e : j + 1 < k + 1
    · exact h.2 j hj e
    · obtain rfl : j = k := by omega
      exact h2
theorem upB_all {l : List Pt} (hl : l.length ≤ 64) (h : upB l l.length) : goodE l = true :=
  goodE_iff.2 ⟨hl, rail_iff.2 ⟨fun k hk => h.1 k hk hk, fun k hk => h.2 k hk hk⟩⟩
theorem good_long {l : List Pt} (hl : ¬ l.length ≤ 64) : goodE l = false := Bool.eq_false_iff.2 (fun e => hl (goodE_iff.1 e).1)
theorem good_no1 {l : List Pt} {k : Nat} (hk : k < l.length) (h : oneB l[k] = false) : goodE l = false := Bool.eq_false_iff.2 (fun e => by
  have := (rail_iff.1 (goodE_iff.1 e).2).1 k hk
  rw [h] at this
  cases this)
theorem good_no2 {l : List Pt} {k : Nat} (hk : k + 1 < l.length) (h : fitB l[k] l[k + 1] = false) : goodE l = false := Bool.eq_false_iff.2 (fun e => by
  have := (rail_iff.1 (goodE_iff.1 e).2).2 k hk
  rw [h] at this
  cases this)
theorem upB_nextP {l : List Pt} {k : Nat} (h0 : 0 < k) (h : upB l k) (hk : k < l.length) (h1 : oneB l[k] = true) (h2 : fitB (l[k - 1]'(by omega)) l[k] = true) : upB l (k + 1) := by
  cases k with
  | zero => cases h0
  | succ j => exact upB_next h hk h1 h2
theorem good_no2P {l : List Pt} {k : Nat} (h0 : 0 < k) (hk : k < l.length) (h : fitB (l[k - 1]'(by omega)) l[k] = false) : goodE l = false := by
  cases k with
  | zero => cases h0
  | succ j => exact good_no2 hk h
theorem fit_goes {x y : Pt} (hx : oneB x = true) : fitB x y = (decide (x.stop ≤ y.off) && !goesB x y) := by
  have ox := oneB_iff.1 hx
  rw [Bool.eq_iff_iff, fitB_iff, Bool.and_eq_true, decide_eq_true_iff, Bool.not_eq_true', ← Bool.not_eq_true, goesB_iff]
  refine ⟨fun ⟨a, b⟩ => ⟨a, fun c => b ⟨c.1, c.2.1, c.2.2.resolve_left (by omega)⟩⟩, fun ⟨a, b⟩ => ⟨a, fun c => b ⟨c.1, c.2.1, .inr c.2.2⟩⟩⟩
end Go.Proofs.Ytjdhbpgipoifkaa
