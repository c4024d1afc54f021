/- What the document's own Units returns. Conditions: the projection lies where the call was told, and is not too large. -/
import Derived.Test.YtphigibhgldnpaaG09b
import Derived.Deep.RegionHeld3
import Derived.Deep.RegionHeldLaw
set_option linter.unusedVariables false
namespace Go.Proofs.Ytphigibhgldnpaa
set_option linter.unusedVariables false
open Go.RowKit
set_option maxRecDepth 20000

theorem flat_le (L : List (List Int)) (m : Nat) (h : ∀ c ∈ L, c.length ≤ m) : L.flatten.length ≤ m * L.length := by
  induction L with
  | nil => simp
  | cons c L ih =>
    have h1 := h c (by simp)
    have h2 := ih (fun d hd => h d (by simp [hd]))
    rw [List.flatten_cons, List.length_append, List.length_cons, Nat.mul_succ]
    omega
/-- the units so far: of i chains, and of k units of the next -/
def uptoU (L : List (List Int)) (i k : Nat) : List Int := insAll [] ((L.take i).flatten ++ (L.getD i []).take k)
theorem uptoU_len (L : List (List Int)) (i k : Nat) (hl : L.length ≤ 255 ∧ ∀ c ∈ L, c.length ≤ 3000) (hi : i < L.length) (hk : k ≤ L[i].length) : (uptoU L i k).length ≤ 800000 := by
  have h1 := (insAll_length [] ((L.take i).flatten ++ (L.getD i []).take k) List.Pairwise.nil).1
  have h2 := flat_le (L.take i) 3000 (fun c hc => hl.2 c (List.mem_of_mem_take hc))
  have h3 := hl.2 L[i] (List.getElem_mem hi)
  rw [List.length_append, List.length_nil] at h1
  have h4 : ((L.getD i []).take k).length ≤ k := List.length_take_le _ _
  have h5 : (L.take i).length ≤ 255 := by rw [List.length_take]; omega
  have h6 : 3000 * (L.take i).length ≤ 3000 * 255 := Nat.mul_le_mul_left _ h5
  unfold uptoU
  omega
theorem uptoU_next (L : List (List Int)) (i k : Nat) (hi : i < L.length) (hk : k < L[i].length) : uptoU L i (k + 1) = insU L[i][k] (uptoU L i k) := by
  unfold uptoU
  have e : L.getD i [] = L[i] := by simp [hi]
  rw [e, List.take_succ_eq_append_getElem hk, ← List.append_assoc, insAll_snoc]
theorem uptoU_chain (L : List (List Int)) (i : Nat) (hi : i < L.length) : uptoU L i L[i].length = uptoU L (i + 1) 0 := by
  unfold uptoU
  have e : L.getD i [] = L[i] := by simp [hi]
  rw [e, List.take_of_length_le (Nat.le_refl _), List.take_zero, List.append_nil, List.take_succ_eq_append_getElem hi, List.flatten_append]
  simp
theorem uptoU_all (L : List (List Int)) : uptoU L L.length 0 = unitsR L := by
  unfold uptoU unitsR
  rw [List.take_zero, List.append_nil, List.take_of_length_le (Nat.le_refl _)]
end Go.Proofs.Ytphigibhgldnpaa
