/- What the document's own Next returns. Conditions: the projections lie where the call was told, and are not too large. -/
import Derived.Test.YtphigibhgldnpaaG12b
import Derived.Test.YtphigibhgldnpaaG08b
set_option linter.unusedVariables false
namespace Go.Proofs.Ytphigibhgldnpaa
set_option linter.unusedVariables false
open Go.RowKit
set_option maxRecDepth 20000

theorem zip_no {L1 L2 : List (List Int)} {f : List Int × List Int → Bool} {k : Nat} (h1 : k < L1.length) (h2 : k < L2.length) (h : f (L1[k], L2[k]) = false) : (L1.zip L2).all f = false := by
  rw [Bool.eq_false_iff]
  intro e
  have hm : (L1[k], L2[k]) ∈ L1.zip L2 := by
    have : (L1.zip L2)[k]'(by rw [List.length_zip]; omega) = (L1[k], L2[k]) := List.getElem_zip
    rw [← this]
    exact List.getElem_mem _
  rw [List.all_eq_true.1 e _ hm] at h
  cases h
theorem zip_yes {L1 L2 : List (List Int)} {f : List Int × List Int → Bool} (h : ∀ i, i < L1.length → ∀ (h1 : i < L1.length) (h2 : i < L2.length), f (L1[i], L2[i]) = true) : (L1.zip L2).all f = true := by
  rw [List.all_eq_true]
  intro c hc
  obtain ⟨i, hi, rfl⟩ := List.getElem_of_mem hc
  rw [List.length_zip] at hi
  rw [List.getElem_zip]
  exact h i (by omega) (by omega) (by omega)
def outB (U : List Int) (l : List Int) : Bool := l.all (fun y => !decide (y ∈ U))
theorem seq_end {U old now rest : List Int} {y : Nat} (h : ¬ ∃ h : y < now.length, now[y] ∈ old) : seqB U old (now.drop y) rest (decide (0 < y)) = (decide (0 < y) && outB U (now.drop y)) := by
  by_cases hy : y < now.length
  · rw [List.drop_eq_getElem_cons hy]
    show (if now[y] ∈ old then _ else _) = _
    rw [if_neg (fun e => h ⟨hy, e⟩)]
    rfl
  · rw [List.drop_of_length_le (by omega)]
    show decide (0 < y) = _
    simp [outB]
theorem seq_step {U old now rest : List Int} {y : Nat} {m : Bool} (hy : y < now.length) (hz : now[y] ∈ old) : seqB U old (now.drop y) rest m = match rest.dropWhile (fun t => t != now[y]) with | [] => false | _ :: r => seqB U old (now.drop (y + 1)) r true := by
  rw [List.drop_eq_getElem_cons hy]
  show (if now[y] ∈ old then _ else _) = _
  rw [if_pos hz]
  rfl
theorem seq_found {U old now rest r : List Int} {y : Nat} {m : Bool} {t : Int} (hy : y < now.length) (hz : now[y] ∈ old) (h : rest.dropWhile (fun t => t != now[y]) = t :: r) : seqB U old (now.drop y) rest m = seqB U old (now.drop (y + 1)) r (decide (0 < y + 1)) := by
  rw [seq_step hy hz, h]
  simp
theorem seq_lost {U old now rest : List Int} {y : Nat} {m : Bool} (hy : y < now.length) (hz : now[y] ∈ old) (h : rest.dropWhile (fun t => t != now[y]) = []) : seqB U old (now.drop y) rest m = false := by
  rw [seq_step hy hz, h]
theorem drop_at {l : List Int} {x : Nat} (h : x < l.length) {p : Int → Bool} (e : p l[x] = true) : (l.drop x).dropWhile p = (l.drop (x + 1)).dropWhile p := by
  rw [List.drop_eq_getElem_cons h, List.dropWhile_cons_of_pos e]
theorem drop_stop {l : List Int} {x : Nat} (h : x < l.length) {p : Int → Bool} (e : p l[x] = false) : (l.drop x).dropWhile p = l[x] :: l.drop (x + 1) := by
  rw [List.drop_eq_getElem_cons h, List.dropWhile_cons_of_neg (by rw [e]; decide)]
theorem out_step {U l : List Int} {y : Nat} (h : y < l.length) (e : l[y] ∉ U) : outB U (l.drop y) = outB U (l.drop (y + 1)) := by
  rw [List.drop_eq_getElem_cons h]
  show (!decide (l[y] ∈ U) && outB U (l.drop (y + 1))) = _
  rw [decide_eq_false e]
  rfl
theorem out_no {U l : List Int} {y : Nat} (h : y < l.length) (e : l[y] ∈ U) : outB U (l.drop y) = false := by
  rw [List.drop_eq_getElem_cons h]
  show (!decide (l[y] ∈ U) && outB U (l.drop (y + 1))) = _
  rw [decide_eq_true e]
  rfl
end Go.Proofs.Ytphigibhgldnpaa
