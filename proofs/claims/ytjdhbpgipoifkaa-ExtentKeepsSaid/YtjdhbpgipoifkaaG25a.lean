/- How long the plain answers are; an owned row of parts as a slice. No conditions. -/
import Derived.Test.YtjdhbpgipoifkaaG24a
import Derived.Test.YtjdhbpgipoifkaaG09c
import Derived.Test.YtjdhbpgipoifkaaG22d
import Derived.Test.YtjdhbpgipoifkaaG22a
import Derived.Test.YtjdhbpgipoifkaaG22c
import Derived.Test.YtjdhbpgipoifkaaG22b
set_option linter.unusedVariables false
namespace Go.Proofs.Ytjdhbpgipoifkaa
open Go.RowKit Go.Sort
set_option linter.unusedVariables false
set_option maxRecDepth 20000
theorem fewE_len (l : List Pt) : (fewE l).1.length ≤ 64 := by
  unfold fewE
  by_cases h : l.length ≤ 64
  · rw [if_pos h]; exact h
  · rw [if_neg h]; exact Nat.zero_le _
theorem cutE_len (l : List Pt) (s : Int) : (cutE l s).length ≤ 64 := by
  by_cases h : goodE l = true
  · rw [(cutE_few h).1, cut_is (goodE_iff.1 h).2]
    exact Nat.le_trans (cutL_len _ _) (goodE_iff.1 h).1
  · unfold cutE
    rw [if_neg h]
    exact Nat.zero_le _
theorem putE_len (l : List Pt) (x : Pt) : (putE l x).1.length ≤ 64 := by
  unfold putE
  by_cases h : goodE l = true
  · rw [if_pos h]
    by_cases g : oneB x = true
    · rw [if_pos g]; exact fewE_len _
    · rw [if_neg g]; exact Nat.zero_le _
  · rw [if_neg h]; exact Nat.zero_le _
theorem moveE_len (l : List Pt) (m : Mv) (to : Int) : (moveE l m to).1.length ≤ 64 := by
  unfold moveE
  by_cases h : goodE l = true
  · rw [if_pos h]
    by_cases g : mayB m to = true
    · rw [if_pos g]; exact fewE_len _
    · rw [if_neg g]; exact Nat.zero_le _
  · rw [if_neg h]; exact Nat.zero_le _
theorem planE_pcs {l : List Pt} {off n : Int} (h : goodE l = true) (g : planB off n = true) : planE l off n = pcsE (spF l) off.toNat n.toNat := by
  obtain ⟨h0, h1, h2, h3, h4⟩ := planB_iff.1 g
  unfold planE
  rw [if_pos ⟨h, g⟩, plan_pcs (goodE_iff.1 h).2 off.toNat n.toNat (fun i _ _ => rfl)]
  rw [Int.toNat_of_nonneg h0, show ((off.toNat + n.toNat : Nat) : Int) = off + n from by omega]
theorem planE_len (l : List Pt) (off n : Int) : (planE l off n).length ≤ 8192 := by
  by_cases h : goodE l = true ∧ planB off n = true
  · obtain ⟨h0, h1, h2, h3, h4⟩ := planB_iff.1 h.2
    rw [planE_pcs h.1 h.2]
    have := (pcs_mid (rail_sound (goodE_iff.1 h.1).2) (o := off.toNat) (n := n.toNat) (by omega)).1
    rw [bytG_at] at this
    omega
  · unfold planE
    rw [if_neg h]
    exact Nat.zero_le _
theorem OPa.sl {w : World} {B : Nat} {v : Value} {l : List Pt} (h : OPa w B v l) : ∃ a c, v = .slice a l.length c ∧ PaL w a l := by
  obtain ⟨a, c, h1, h2, _⟩ := OR.form par_rows h
  exact ⟨a, c, h1, h2⟩
end Go.Proofs.Ytjdhbpgipoifkaa
