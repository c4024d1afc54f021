/- What the document's own Good returns. Conditions: the projection lies where the call was told, and is not too large. -/
import Derived.Test.YtphigibhgldnpaaG10a
set_option linter.unusedVariables false
namespace Go.Proofs.Ytphigibhgldnpaa
set_option linter.unusedVariables false
open Go.RowKit
set_option maxRecDepth 20000

theorem goodB_ep {ep : Int} {L : List (List Int)} (h : ep < 0 ∨ 2147483647 < ep) : goodB ep L = false := by
  rw [Bool.eq_false_iff]; intro e; have := (goodB_iff.1 e).1; omega
theorem goodB_len {ep : Int} {L : List (List Int)} (h : L.length < 1 ∨ 4 < L.length) : goodB ep L = false := by
  rw [Bool.eq_false_iff]; intro e; have := (goodB_iff.1 e).2.1; omega
theorem goodB_chain {ep : Int} {L : List (List Int)} {k : Nat} (hk : k < L.length) (h : L[k].length < 1 ∨ 4 < L[k].length) : goodB ep L = false := by
  rw [Bool.eq_false_iff]; intro e
  have := (chainB_iff.1 ((goodB_iff.1 e).2.2.1 _ (List.getElem_mem hk))).1
  omega
theorem goodB_unit {ep : Int} {L : List (List Int)} {k j : Nat} (hk : k < L.length) (hj : j < L[k].length) (h : L[k][j] < 0 ∨ 15 < L[k][j]) : goodB ep L = false := by
  rw [Bool.eq_false_iff]; intro e
  have := (chainB_iff.1 ((goodB_iff.1 e).2.2.1 _ (List.getElem_mem hk))).2 _ (List.getElem_mem hj)
  omega
theorem goodB_end {ep : Int} {L : List (List Int)} (h0 : 0 ≤ ep ∧ ep ≤ 2147483647) (h1 : 1 ≤ L.length ∧ L.length ≤ 4) (h : ∀ c ∈ L.take L.length, chainB c = true) : goodB ep L = decide ((unitsR L).length = (L.take L.length).flatten.length) := by
  rw [List.take_of_length_le (Nat.le_refl _)] at *
  rw [Bool.eq_iff_iff, goodB_iff, decide_eq_true_eq, unitsR_length]
  exact ⟨fun e => e.2.2.2, fun e => ⟨h0, h1, h, e⟩⟩
theorem flat_succ {L : List (List Int)} {k : Nat} (hk : k < L.length) : (L.take (k + 1)).flatten.length = (L.take k).flatten.length + L[k].length := by
  rw [List.take_succ_eq_append_getElem hk, List.flatten_append, List.length_append]
  simp
theorem flat_four {L : List (List Int)} {k : Nat} (hl : L.length ≤ 4) (h : ∀ c ∈ L.take k, chainB c = true) : (L.take k).flatten.length ≤ 16 := by
  have h1 := flat_le (L.take k) 4 (fun c hc => (chainB_iff.1 (h c hc)).1.2)
  have h2 : (L.take k).length ≤ 4 := by rw [List.length_take]; omega
  omega
end Go.Proofs.Ytphigibhgldnpaa
