/- What the statements' own fair tells of a list of fields. Conditions: the list is one that was handed over. -/
import Derived.Test.YtddhdibcchoakaaFields
import Derived.Test.YtddhdibcchoakaaBase
namespace Go.Proofs.Ytddhdibcchoakaa
open Go.RowKit

def sumS : List Fld → Nat
  | [] => 0
  | f :: l => f.s.size + sumS l
theorem sumS_append (l m : List Fld) : sumS (l ++ m) = sumS l + sumS m := by
  induction l with
  | nil => simp [sumS]
  | cons f l ih => simp [sumS, ih]; omega
theorem sumS_take_le (l : List Fld) (k : Nat) : sumS (l.take k) ≤ sumS l := by
  have h := sumS_append (l.take k) (l.drop k)
  rw [List.take_append_drop] at h
  omega
theorem sumS_take_succ (l : List Fld) (k : Nat) (h : k < l.length) : sumS (l.take (k + 1)) = sumS (l.take k) + l[k].s.size := by
  rw [List.take_succ_eq_append_getElem h, sumS_append]
  simp [sumS]
/-- the list is gone through -/
def fairB (l : List Fld) : Prop := l.length ≤ 200 ∧ sumS l ≤ 300000

def SomeBool (l : List Fld) (e : Ending) : Prop := ∃ c : Bool, e = .returned (.bool c) ∧ (c = true → fairB l)
set_option maxHeartbeats 1000000 in
theorem fair_any (ao : Option Addr) (cap : Nat) (l : List Fld) (w : World) (hl : l.length ≤ maxLen) (h : FL w ao l) :
    Calls Try.prog 7 #[.slice ao l.length cap] w fun e w' => SomeBool l e ∧ w = w' := by
  unfold maxLen at hl
  go_enter Try.func7, Try.ntmps7
  go_wp2
  go_loop [3, 4] (fun v i => ∃ k : Nat, k ≤ l.length ∧ sumS (l.take k) ≤ 300000 ∧ i = .int .i64 k ∧ v = .int .i64 (sumS (l.take k))) (fun _ i => l.length - (intOf i).toNat)
  case atStart => exact ⟨0, Nat.zero_le _, by simp [sumS], rfl, by simp [sumS]⟩
  case round =>
    obtain ⟨k, hk, hs, rfl, rfl⟩ := hrel
    by_cases hlt : k < l.length
    · obtain ⟨⟨bk, off, rfl, h0, h1, h2⟩, _, _, ok⟩ := h k hlt
      have hss := sumS_take_succ l k hlt
      have hx : l[k].s.size ≤ 9223372036854775807 := ok
      clear ok
      generalize l[k].s = x at *
      generalize hq : sumS (l.take (k + 1)) = q at *
      generalize sumS (l.take k) = m at *
      have HQ := Lib.hid (show q = m + x.size from hss)
      have HQ2 := Lib.hid hq
      clear hss hq
      by_cases hb : x.size ≤ 70000
      · by_cases hc : m + x.size ≤ 300000
        · have hc' : (m : Int) + x.size ≤ 300000 := by omega
          go_wp2
          go_round
          case rel => exact ⟨k + 1, by omega, by rw [HQ2.out, HQ.out]; omega, by go_num, by rw [HQ2.out, HQ.out]; go_num⟩
          case measure => simp [intOf]; omega
        · have hc' : 300000 < (m : Int) + x.size := by omega
          go_wp2
          go_ret
          exact ⟨⟨false, rfl, fun h => by cases h⟩, rfl⟩
      · have hb' : 70000 < (x.size : Int) := by omega
        go_wp2
        go_ret
        exact ⟨⟨false, rfl, fun h => by cases h⟩, rfl⟩
    · obtain rfl : k = l.length := by omega
      have HS := Lib.hid hs
      clear hs
      go_wp2
      go_ret
      exact ⟨⟨_, rfl, fun h => ⟨Int.ofNat_le.1 (of_decide_eq_true h), by have := HS.out; rwa [List.take_of_length_le (Nat.le_refl _)] at this⟩⟩, rfl⟩
end Go.Proofs.Ytddhdibcchoakaa
