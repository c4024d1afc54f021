/- What the statements' own Fair tells of a list of steps. Conditions: the list is one that was handed over. -/
import Derived.Test.YtaodmdoagngdnaaAskK
import Derived.Test.YtaodmdoagngdnaaUniS
namespace Go.Proofs.Ytaodmdoagngdnaa
set_option linter.unusedVariables false
open Go.RowKit
set_option maxRecDepth 20000
/-- the list is gone through -/
def fairS (l : List Sk) : Prop := l.length ≤ 150 ∧ ∀ s ∈ l, largeA s.a = false
def Fair10 (l : List Sk) (e : Ending) : Prop := ∃ c : Bool, e = .returned (.bool c) ∧ (c = true → fairS l)
set_option maxHeartbeats 4000000 in
theorem fair10_any (ao : Option Addr) (cap : Nat) (l : List Sk) (w : World) (hl : l.length ≤ maxLen) (h : Row w ao 10 stepC l) (hk : ∀ s ∈ l, SkIn w s) :
    Calls Try.prog 9 #[.slice ao l.length cap] w fun e w' => Fair10 l e ∧ Below w.heap.size w w' := by
  unfold maxLen at hl
  have hl' : (l.length : Int) ≤ 9223372036854775807 := by omega
  have HF := Lib.hid h
  have HK := Lib.hid hk
  clear h hk
  go_enter Try.func9, Try.ntmps9
  go_wp2_with fail
  go_loopw [3] (fun i wr => ∃ k : Nat, i = .int .i64 k ∧ k ≤ l.length ∧ Hid (∀ s ∈ l.take k, largeA s.a = false) ∧ Hid (Below w.heap.size w wr)) (fun i _ => l.length - (intOf i).toNat)
  case atStart => exact ⟨0, rfl, Nat.zero_le _, Lib.hid (by simp), Lib.hid (Below.refl _ _)⟩
  case round =>
    obtain ⟨k, rfl, hkl, HT, HB⟩ := hrel
    by_cases hlt : k < l.length
    · obtain ⟨bk, off, rfl, d0, d1, d2, d3, d4, d5, d6, d7, d8, d9⟩ := step_at (HF.out.below HB.out) hlt
      have k0 : (k : Int) < (l.length : Int) := by omega
      have HA := Lib.hid ((HK.out _ (List.getElem_mem hlt)).2.below HB.out)
      have CL1 := Lib.hid (largeAsk_any _ _ HA.out)
      have HT2 := Lib.hid (fun (e : largeA l[k].a = false) => show ∀ s ∈ l.take (k + 1), largeA s.a = false from by
        rw [List.take_succ_eq_append_getElem hlt]
        intro s hs
        rcases List.mem_append.1 hs with h1 | h1
        · exact HT.out s h1
        · rw [List.mem_singleton.1 h1]; exact e)
      cases hc : largeA l[k].a
      · rw [hc] at CL1
        have HT3 := Lib.hid (HT2.out hc)
        go_wp2_with (go_at_call 24; refine CL1.out.mono ?_; rintro e w1 ⟨rfl, hb1⟩; have HB1 := Lib.hid (HB.out.trans (hb1.mono HB.out.size)); clear hb1)
        go_roundw
        case rel => exact ⟨k + 1, by go_num, by omega, HT3, HB1⟩
        case measure => simp [intOf]; omega
      · rw [hc] at CL1
        go_wp2_with (go_at_call 24; refine CL1.out.mono ?_; rintro e w1 ⟨rfl, hb1⟩; have HB1 := Lib.hid (HB.out.trans (hb1.mono HB.out.size)); clear hb1)
        go_ret
        exact ⟨⟨false, rfl, fun e => by cases e⟩, HB1.out⟩
    · obtain rfl : k = l.length := by omega
      have HA := Lib.hid (show ∀ s ∈ l, largeA s.a = false from by have := HT.out; rwa [List.take_of_length_le (Nat.le_refl _)] at this)
      by_cases h2 : l.length ≤ 150
      · have d : decide ((l.length : Int) ≤ 150) = true := decide_eq_true (by omega)
        go_wp2_with fail
        go_ret
        exact ⟨⟨_, rfl, fun _ => ⟨h2, HA.out⟩⟩, HB.out⟩
      · have d : decide ((l.length : Int) ≤ 150) = false := decide_eq_false (by omega)
        go_wp2_with fail
        go_ret
        exact ⟨⟨false, rfl, fun e => by cases e⟩, HB.out⟩
end Go.Proofs.Ytaodmdoagngdnaa
