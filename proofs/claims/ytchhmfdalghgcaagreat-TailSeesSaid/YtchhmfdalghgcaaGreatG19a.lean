/- What the document's own layout answers, asked for a change that may come next. Conditions: it and the question lie where the call was told; no more than 100000 units were noted. -/
import Derived.Test.YtchhmfdalghgcaaGreatG18b
import Derived.Deep.RegionLaw
import Derived.Deep.RegionWith
set_option linter.unusedVariables false
namespace Go.Proofs.YtchhmfdalghgcaaGreat
set_option linter.unusedVariables false
open Go.RowKit
set_option maxRecDepth 20000
theorem may_good {y : Ly} {e : Int} {Q : List (List Int)} (h : y.may e Q = true) : goodB e Q = true := by
  unfold Ly.may nextB at h
  simp only [Bool.and_eq_true] at h
  exact h.1.2.1
end Go.Proofs.YtchhmfdalghgcaaGreat
