/- What the statements' own small function Texts returns: whether two lists of texts are alike. Conditions: the texts lie where the call was told; the lists are no longer than 1000000. -/
import Derived.Test.YtnladghhcghafaaStrs
import Derived.Test.YtnladghhcghafaaBytes
import Derived.Lib.Strings
namespace Go.Proofs.Ytnladghhcghafaa
open Go.RowKit

theorem take_eq_succ {A B : List ByteArray} {k : Nat} (ha : k < A.length) (hb : k < B.length) (h : A.take k = B.take k) (e : A[k] = B[k]) : A.take (k + 1) = B.take (k + 1) := by
  rw [List.take_succ_eq_append_getElem ha, List.take_succ_eq_append_getElem hb, h, e]
theorem ne_at {A B : List ByteArray} {k : Nat} (ha : k < A.length) (hb : k < B.length) (e : A[k] ≠ B[k]) : A ≠ B := by
  intro h
  subst h
  exact e rfl
theorem texts_any (A B : List ByteArray) (ao bo : Option Addr) (ca cb : Nat) (w : World) (hA : SL w ao A) (hB : SL w bo B) (lA : A.length ≤ 1000000) (lB : B.length ≤ 1000000) :
    Calls Try.prog 16 #[.slice ao A.length ca, .slice bo B.length cb] w fun e w' => e = .returned (.bool (decide (A = B))) ∧ ∃ n, w' = w.drewN n := by
  by_cases hl : A.length = B.length
  · have HN := Lib.hid (fun k (ha : k < A.length) (hb : k < B.length) => show A[k] ≠ B[k] → decide (A = B) = false from fun e => decide_eq_false (ne_at ha hb e))
    have HY := Lib.hid (show A.take A.length = B.take A.length → decide (A = B) = true from fun e => by
      rw [List.take_of_length_le (Nat.le_refl _), List.take_of_length_le (by omega)] at e
      exact decide_eq_true e)
    generalize decide (A = B) = R at *
    have hl1 : ((A.length : Int) != (B.length : Int)) = false := bne_eq_false_iff_eq.2 (by omega)
    have HA := Lib.hid hA
    have HB := Lib.hid hB
    have HL := Lib.hid hl
    have lA' : (A.length : Int) ≤ 1000000 := by omega
    have lB' : (B.length : Int) ≤ 1000000 := by omega
    clear hA hB hl
    go_enter Try.func16, Try.ntmps16
    go_wp2_with fail
    go_loopw [5] (fun i wr => ∃ k q : Nat, i = .int .i64 k ∧ k ≤ A.length ∧ wr = w.drewN q ∧ Hid (A.take k = B.take k)) (fun i _ => A.length - (intOf i).toNat)
    case atStart => exact ⟨0, 0, rfl, Nat.zero_le _, rfl, Lib.hid (by simp)⟩
    case round =>
      obtain ⟨k, q, rfl, hk, rfl, HT⟩ := hrel
      by_cases hlt : k < A.length
      · have hlb : k < B.length := by have := HL.out; omega
        obtain ⟨bk, off, rfl, c0⟩ := HA.out k hlt
        obtain ⟨bk2, off2, rfl, c1⟩ := HB.out k hlb
        have c0' : (w.drewN q).cell? ⟨bk, off + k, none⟩ = some (.string A[k]) := c0
        have c1' : (w.drewN q).cell? ⟨bk2, off2 + k, none⟩ = some (.string B[k]) := c1
        have k0 : (k : Int) < (A.length : Int) := by omega
        have k1 : (k : Int) < (B.length : Int) := by omega
        clear hl1
        by_cases he : A[k] = B[k]
        · have HT2 := Lib.hid (take_eq_succ hlt hlb HT.out he)
          have d1 : (A[k].toList == B[k].toList) = true := by rw [he, beq_iff_eq]
          clear he
          go_wp2_with fail
          go_quiet (fail)
          go_wp2_with fail
          go_roundw
          case rel => exact ⟨k + 1, q + nq, by go_num, by omega, by first | rfl | simp, HT2⟩
          case measure => simp [intOf]; omega
        · have HX := Lib.hid (HN.out k hlt hlb he)
          have d1 : (A[k].toList == B[k].toList) = false := by
            rw [beq_eq_false_iff_ne, Lib.toList_data, Lib.toList_data]
            intro e
            exact he (lof_inj e)
          clear he
          go_wp2_with fail
          go_quiet (fail)
          go_wp2_with fail
          go_ret
          rw [HX.out]
          exact ⟨rfl, q + nq, by simp⟩
      · obtain rfl : k = A.length := by omega
        have HX := Lib.hid (HY.out HT.out)
        go_wp2_with fail
        go_ret
        rw [HX.out]
        exact ⟨rfl, _, rfl⟩
  · rw [decide_eq_false (show ¬ A = B from fun e => hl (by rw [e]))]
    have hl1 : ((A.length : Int) != (B.length : Int)) = true := bne_iff_ne.2 (by omega)
    clear hl
    go_enter Try.func16, Try.ntmps16
    go_wp2_with fail
    go_ret
    exact ⟨rfl, 0, rfl⟩
end Go.Proofs.Ytnladghhcghafaa
