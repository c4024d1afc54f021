/- What the statements' own fair tells of a list of steps. Conditions: the list is one that was handed over. -/
import Derived.Test.YtlphffgdnacnkaaPagT
namespace Go.Proofs.Ytlphffgdnacnkaa
open Go.RowKit
/-- the list is gone through -/
def fairP (l : List Fld) : Prop := l.length ≤ 200 ∧ ∀ f ∈ l, f.s.size ≤ 6000
/-- what fair answers -/
def Fair9 (l : List Fld) (e : Ending) : Prop := ∃ c : Bool, e = .returned (.bool c) ∧ (c = true → fairP l)
theorem fair_any (ao : Option Addr) (cap : Nat) (l : List Fld) (w : World) (hl : l.length ≤ maxLen) (h : FL w ao l) :
    Calls Try.prog 9 #[.slice ao l.length cap] w fun e w' => Fair9 l e ∧ w = w' := by
  unfold maxLen at hl
  have hl' : (l.length : Int) ≤ 9223372036854775807 := by omega
  have HF := Lib.hid h
  clear h
  go_enter Try.func9, Try.ntmps9
  go_wp2_with fail
  go_loop [3] (fun i => ∃ k : Nat, i = .int .i64 k ∧ k ≤ l.length ∧ Hid (∀ f ∈ l.take k, f.s.size ≤ 6000)) (fun i => l.length - (intOf i).toNat)
  case atStart => exact ⟨0, rfl, Nat.zero_le _, Lib.hid (by simp)⟩
  case round =>
    obtain ⟨k, rfl, hk, HT⟩ := hrel
    by_cases hlt : k < l.length
    · obtain ⟨⟨bk, off, rfl, d0, d1, d2⟩, _, _, ok⟩ := HF.out k hlt
      have k0 : (k : Int) < (l.length : Int) := by omega
      unfold maxLen at ok
      have ok' : (l[k].s.size : Int) ≤ 9223372036854775807 := by omega
      by_cases hs : 6000 < l[k].s.size
      · have hs' : (6000 : Int) < (l[k].s.size : Int) := by omega
        clear hs ok
        generalize l[k].s = s at *
        go_wp2_with fail
        go_ret
        exact ⟨⟨false, rfl, fun e => by cases e⟩, rfl⟩
      · have hs' : (l[k].s.size : Int) ≤ 6000 := by omega
        have HT2 := Lib.hid (show ∀ f ∈ l.take (k + 1), f.s.size ≤ 6000 from by
          rw [List.take_succ_eq_append_getElem hlt]
          intro f hf
          rcases List.mem_append.1 hf with h1 | h1
          · exact HT.out f h1
          · rw [List.mem_singleton.1 h1]; omega)
        clear hs ok
        generalize l[k].s = s at *
        go_wp2_with fail
        go_round
        case rel => exact ⟨k + 1, by go_num, by omega, HT2⟩
        case measure => simp [intOf]; omega
    · obtain rfl : k = l.length := by omega
      have HA := Lib.hid (show ∀ f ∈ l, f.s.size ≤ 6000 from by have := HT.out; rwa [List.take_of_length_le (Nat.le_refl _)] at this)
      by_cases h2 : l.length ≤ 200
      · have d : decide ((l.length : Int) ≤ 200) = true := decide_eq_true (by omega)
        go_wp2_with fail
        go_ret
        exact ⟨⟨_, rfl, fun _ => ⟨h2, HA.out⟩⟩, rfl⟩
      · have d : decide ((l.length : Int) ≤ 200) = false := decide_eq_false (by omega)
        go_wp2_with fail
        go_ret
        exact ⟨⟨false, rfl, fun e => by cases e⟩, rfl⟩
end Go.Proofs.Ytlphffgdnacnkaa
