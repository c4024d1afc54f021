/- Plain facts: the numbers of pieces are within bounds. No conditions but those that the statements name. -/
import Derived.Test.YtjdhbpgipoifkaaG07b
set_option linter.unusedVariables false
namespace Go.Proofs.Ytjdhbpgipoifkaa
set_option linter.unusedVariables false
set_option maxRecDepth 20000
open Go.RowKit
/-- numbers of a part that stands in a file, or of a hole -/
def midP (x : Pt) : Prop := (0 ≤ x.off ∧ x.off ≤ 8192) ∧ (0 ≤ x.len ∧ x.len ≤ 8192) ∧ (-1 ≤ x.addr ∧ x.addr ≤ 16384) ∧ (0 ≤ x.src ∧ x.src ≤ 1024)
theorem midP_one {x : Pt} (h : oneB x = true) : midP x := by
  have := oneB_iff.1 h
  unfold midP
  omega
theorem byt_mid {g : MapF} (hg : soundG g) (i : Nat) : (-1 ≤ (bytG g i).1 ∧ (bytG g i).1 ≤ 16384) ∧ 0 ≤ (bytG g i).2 ∧ (bytG g i).2 ≤ 1024 := by
  unfold bytG
  cases e : g i with
  | none => exact ⟨⟨by decide, by decide⟩, by decide, by decide⟩
  | some x =>
    obtain ⟨a, f⟩ := x
    have := hg _ _ _ e
    show (-1 ≤ a ∧ a ≤ 16384) ∧ 0 ≤ f ∧ f ≤ 1024
    omega
theorem pc_mid {g : MapF} (hg : soundG g) {i : Nat} (hi : i < 8192) : midP (pcE (bytG g) i) := by
  have := byt_mid hg i
  exact ⟨⟨by show (0 : Int) ≤ (i : Int); omega, by show (i : Int) ≤ 8192; omega⟩, ⟨by show (0 : Int) ≤ 1; decide, by show (1 : Int) ≤ 8192; decide⟩, this.1, this.2⟩
theorem pcs_mid {g : MapF} (hg : soundG g) {o n : Nat} (hn : o + n ≤ 8192) : (pcsE (bytG g) o n).length ≤ n ∧ ∀ x ∈ pcsE (bytG g) o n, midP x := by
  induction n with
  | zero => exact ⟨Nat.le_refl _, fun x hx => by cases hx⟩
  | succ n ih =>
    obtain ⟨h1, h2⟩ := ih (by omega)
    have hp := pc_mid hg (i := o + n) (by omega)
    show (joinP (pcsE (bytG g) o n) (pcE (bytG g) (o + n))).length ≤ n + 1 ∧ ∀ x ∈ joinP (pcsE (bytG g) o n) (pcE (bytG g) (o + n)), midP x
    rcases pcs_last (bytG g) o n with ⟨e, rfl⟩ | ⟨m, y, e, g1, g2, g3⟩
    · rw [e, joinP_nil]
      refine ⟨Nat.le_refl _, fun x hx => ?_⟩
      rw [List.mem_singleton.1 hx]
      exact hp
    · rw [e] at h1 h2 ⊢
      rw [joinP_snoc]
      have ey : y.stop = y.off + y.len := rfl
      have hy := h2 y (by simp)
      by_cases c : goesB y (pcE (bytG g) (o + n)) = true
      · rw [if_pos c]
        refine ⟨by simp at h1 ⊢; omega, fun x hx => ?_⟩
        rcases List.mem_append.1 hx with hx | hx
        · exact h2 x (List.mem_append_left _ hx)
        · rw [List.mem_singleton.1 hx]
          obtain ⟨a1, a2, a3, a4⟩ := hy
          exact ⟨a1, ⟨by show 0 ≤ y.len + 1; omega, by show y.len + 1 ≤ 8192; omega⟩, a3, a4⟩
      · rw [if_neg c]
        refine ⟨by simp at h1 ⊢; omega, fun x hx => ?_⟩
        rcases List.mem_append.1 hx with hx | hx
        · exact h2 x hx
        · rw [List.mem_singleton.1 hx]
          exact hp
theorem pcs_succ (b : ByteF) (o n : Nat) : pcsE b o (n + 1) = joinP (pcsE b o n) (pcE b (o + n)) := rfl
theorem laid_step {l : List Pt} {k : Nat} (h : k < l.length) : laidE (l.take (k + 1)) = layG (laidE (l.take k)) l[k] := by
  rw [List.take_succ_eq_append_getElem h, laidE_snoc]
theorem partG_end {o e : Int} {g : MapF} {x : Pt} {at_ : Int} (h1 : max x.off o ≤ at_) (h2 : at_ ≤ max (max x.off o) (min x.stop e)) (h3 : ¬ at_ < min x.stop e) : partG o e g x at_ = clipG o e (layG g x) :=
  part_done (by omega)
theorem clip_none (o e : Int) : clipG o e (laidE []) = fun _ => none := by
  funext u
  unfold clipG laidE
  split <;> rfl
end Go.Proofs.Ytjdhbpgipoifkaa
