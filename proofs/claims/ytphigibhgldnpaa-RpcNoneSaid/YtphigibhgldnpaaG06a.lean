/- What the document's own New, Read, Write, Fill make of pages. Conditions: the object lies where the call was told; its pages are as the calls make them. -/
import Derived.Test.YtphigibhgldnpaaG05a
set_option linter.unusedVariables false
namespace Go.Proofs.Ytphigibhgldnpaa
open Go.RowKit
set_option maxRecDepth 20000
theorem Ps.Ok.small {p : Ps} (h : p.Ok) : p.l.length ≤ 4096 := by have := h.few; have := h.room; omega
theorem Ps.Ok.index {p : Ps} (h : p.Ok) {i j : Nat} (hi : i < p.l.length) (hj : j < p.l.length) (e : p.l[i].at_ = p.l[j].at_) : i = j := by
  have h1 := List.pairwise_iff_getElem.1 h.once
  rcases Nat.lt_trichotomy i j with h2 | h2 | h2
  · exact absurd (by rw [List.getElem_map, List.getElem_map]; exact e) (h1 i j (by simpa using hi) (by simpa using hj) h2)
  · exact h2
  · exact absurd (by rw [List.getElem_map, List.getElem_map]; exact e.symm) (h1 j i (by simpa using hj) (by simpa using hi) h2)
end Go.Proofs.Ytphigibhgldnpaa
