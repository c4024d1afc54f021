/- What the document's own layout answers any question, and is behind it. Conditions: it and the question lie where the call was told; no more than 100000 units were noted. -/
import Derived.Test.YthfbefkddnbbcaaLayF
import Derived.Test.YthfbefkddnbbcaaLayG
import Derived.Test.YthfbefkddnbbcaaLayH
import Derived.Test.YthfbefkddnbbcaaLayJ
namespace Go.Proofs.Ythfbefkddnbbcaa
set_option linter.unusedVariables false
open Go.RowKit
set_option maxRecDepth 20000
theorem units_16 {ep : Int} {L : List (List Int)} (h : goodB ep L = true) : (unitsR L).length ≤ 16 := by
  obtain ⟨_, h2, h3, _⟩ := goodB_iff.1 h
  have h4 := (insAll_length [] L.flatten List.Pairwise.nil).1
  have h5 := flat_le L 4 (fun c hc => (chainB_iff.1 (h3 c hc)).1.2)
  have h6 : 4 * L.length ≤ 4 * 4 := Nat.mul_le_mul_left _ h2.2
  unfold unitsR
  rw [List.length_nil] at h4
  omega
theorem done_used (y : Ly) (a : Ak) : (y.done a).used.length ≤ y.used.length + 16 := by
  unfold Ly.done
  split
  · split
    · next h =>
      have := units_16 (may_good h)
      simp
      omega
    · omega
  · split
    · exact Nat.le_add_right _ _
    · omega
theorem ldo_any (r : Nat) (G : Nat → Prop) (w : World) (y : Ly) (a : Ak) (h : RL r G w y) (hu : y.used.length ≤ 100000) (hA : ∀ W, Kept (fun k => ¬ G k) w W → CL W a.ao a.L) (hL : a.L.length ≤ 255 ∧ ∀ c ∈ a.L, c.length ≤ 255) :
    Calls Try.prog 14 #[ptrL r, askV a] w fun e w' => Tells (RL r) G w (y.done a) (y.ans a) e w' := by
  by_cases h9 : a.kind = 9
  · exact ldo_tell r G w y a h h9
  by_cases h10 : a.kind = 10
  · cases hm : y.may a.pe a.L
    · exact ldo_stay r G w y a h (by omega) h10 (hA w (Kept.refl _ w)) hL hm
    · exact ldo_turn r G w y a h hu h10 hA hL hm
  by_cases h11 : a.kind = 11
  · by_cases hb : badM a
    · exact ldo_bad r G w y a h h11 hb
    by_cases hn : y.n < a.n
    · exact ldo_new r G w y a h h11 hb hn
    · exact ldo_old r G w y a h h11 hb hn
  · exact ldo_other r G w y a h h9 h10 h11
/-- chains that an answer tells are few -/
theorem ans_small {y : Ly} (h : goodB y.ep y.L = true) (a : Ak) : (y.ans a).L.length ≤ 255 ∧ ∀ c ∈ (y.ans a).L, c.length ≤ 255 := by
  have h0 : (([] : List (List Int)).length ≤ 255 ∧ ∀ c ∈ ([] : List (List Int)), c.length ≤ 255) := ⟨Nat.zero_le _, fun c hc => (by cases hc)⟩
  unfold Ly.ans
  split
  · exact good_small h
  · split
    · split
      · next hm => exact good_small (may_good hm)
      · exact good_small h
    · split
      · split
        · exact h0
        · split <;> exact h0
      · exact h0
theorem done_good {y : Ly} (h : goodB y.ep y.L = true) (a : Ak) : goodB (y.done a).ep (y.done a).L = true := by
  unfold Ly.done
  split
  · split
    · next hm => exact may_good hm
    · exact h
  · split <;> exact h
end Go.Proofs.Ythfbefkddnbbcaa
