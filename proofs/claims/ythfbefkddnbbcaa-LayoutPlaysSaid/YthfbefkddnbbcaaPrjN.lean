/- Plain facts on projections: units that were met so far, chain by chain. No conditions. -/
import Derived.Test.YthfbefkddnbbcaaPrjH
import Derived.Test.YthfbefkddnbbcaaKeys
namespace Go.Proofs.Ythfbefkddnbbcaa
open Go.RowKit
/-- the units of n chains, and of k units of the next -/
def preU (L : List (List Int)) (n k : Nat) : List Int := (L.take n).flatten ++ (L.getD n []).take k
theorem preU_succ {L : List (List Int)} {n k : Nat} (hn : n < L.length) (hk : k < L[n].length) : preU L n (k + 1) = preU L n k ++ [L[n][k]] := by
  unfold preU
  have e : L.getD n [] = L[n] := by simp [hn]
  rw [e, List.take_succ_eq_append_getElem hk, List.append_assoc]
theorem preU_chain {L : List (List Int)} {n : Nat} (hn : n < L.length) : preU L n L[n].length = preU L (n + 1) 0 := by
  unfold preU
  have e : L.getD n [] = L[n] := by simp [hn]
  rw [e, List.take_of_length_le (Nat.le_refl _), List.take_zero, List.append_nil, List.take_succ_eq_append_getElem hn, List.flatten_append]
  simp
theorem preU_all (L : List (List Int)) : preU L L.length 0 = L.flatten := by
  unfold preU
  rw [List.take_zero, List.append_nil, List.take_of_length_le (Nat.le_refl _)]
theorem preU_zero (L : List (List Int)) : preU L 0 0 = [] := rfl
theorem preU_nodup {L : List (List Int)} (h : L.flatten.Nodup) {n k : Nat} (hn : n < L.length) (hk : k < L[n].length) : L[n][k] ∉ preU L n k := by
  have e : L.flatten = preU L n k ++ (L[n].drop k ++ (L.drop (n + 1)).flatten) := by
    unfold preU
    have e : L.getD n [] = L[n] := by simp [hn]
    rw [e]
    have h1 : L = L.take n ++ (L[n] :: L.drop (n + 1)) := by rw [← List.drop_eq_getElem_cons hn, List.take_append_drop]
    have h2 : L.flatten = (L.take n ++ (L[n] :: L.drop (n + 1))).flatten := congrArg List.flatten h1
    rw [h2, List.flatten_append, List.flatten_cons, List.append_assoc, ← List.append_assoc (L[n].take k), List.take_append_drop]
  rw [e, List.nodup_append] at h
  intro hin
  exact h.2.2 _ hin _ (List.mem_append_left _ (by rw [List.drop_eq_getElem_cons hk]; exact List.mem_cons_self)) rfl
theorem preU_len {L : List (List Int)} {n k : Nat} (hl : L.length ≤ 255 ∧ ∀ c ∈ L, c.length ≤ 255) (hn : n < L.length) : (preU L n k).length ≤ 70000 := by
  unfold preU
  have h2 := flat_le (L.take n) 255 (fun c hc => hl.2 c (List.mem_of_mem_take hc))
  have h3 := hl.2 L[n] (List.getElem_mem hn)
  have h4 : ((L.getD n []).take k).length ≤ L[n].length := by
    have e : L.getD n [] = L[n] := by simp [hn]
    rw [e, List.length_take]
    exact Nat.min_le_right _ _
  have h5 : (L.take n).length ≤ 255 := by rw [List.length_take]; omega
  have h6 : 255 * (L.take n).length ≤ 255 * 255 := Nat.mul_le_mul_left _ h5
  rw [List.length_append]
  omega
theorem preU_mem {L : List (List Int)} {n k : Nat} {u : Int} (h : u ∈ preU L n k) : u ∈ L.flatten := by
  unfold preU at h
  rcases List.mem_append.1 h with h | h
  · obtain ⟨c, hc, hu⟩ := List.mem_flatten.1 h
    exact List.mem_flatten.2 ⟨c, List.mem_of_mem_take hc, hu⟩
  · have h2 := List.mem_of_mem_take h
    by_cases hn : n < L.length
    · rw [show L.getD n [] = L[n] by simp [hn]] at h2
      exact List.mem_flatten.2 ⟨_, List.getElem_mem hn, h2⟩
    · rw [show L.getD n [] = [] by simp [hn]] at h2
      cases h2
theorem preU_wf {w : World} {ao : Option Addr} {L : List (List Int)} (h : CL w ao L) (n k : Nat) : ∀ u ∈ preU L n k, (Lit.int .i64 u).wf = true := by
  intro u hu
  obtain ⟨c, hc, huc⟩ := List.mem_flatten.1 (preU_mem hu)
  obtain ⟨i, hi, rfl⟩ := List.getElem_of_mem hc
  obtain ⟨_, _, _, _, _, _, hN⟩ := h i hi
  exact hN.wf u huc
theorem goodB_dup {ep : Int} {L : List (List Int)} {n k : Nat} (hn : n < L.length) (hk : k < L[n].length) (h : L[n][k] ∈ preU L n k) : goodB ep L = false := by
  rw [Bool.eq_false_iff]
  intro e
  exact preU_nodup (goodB_iff.1 e).2.2.2 hn hk h
theorem goodB_done {ep : Int} {L : List (List Int)} (h0 : 0 ≤ ep ∧ ep ≤ 2147483647) (h1 : 1 ≤ L.length ∧ L.length ≤ 4) (h : ∀ c ∈ L.take L.length, chainB c = true) (h2 : (preU L L.length 0).Nodup) : goodB ep L = true := by
  rw [List.take_of_length_le (Nat.le_refl _)] at h
  rw [preU_all] at h2
  exact goodB_iff.2 ⟨h0, h1, h, h2⟩
theorem nodup_snoc {l : List Int} {u : Int} (h : l.Nodup) (hu : u ∉ l) : (l ++ [u]).Nodup := by
  rw [List.nodup_append]
  refine ⟨h, by simp, fun a ha b hb e => ?_⟩
  rw [List.mem_singleton] at hb
  subst hb
  exact hu (e ▸ ha)
end Go.Proofs.Ythfbefkddnbbcaa
