/- What Inside returns, of the document's own answer. Conditions: the texts are no longer than 1000000 bytes. -/
import Derived.Test.YtnladghhcghafaaPathG
namespace Go.Proofs.Ytnladghhcghafaa
open Go.RowKit

/-- do the names of the one begin those of the other? -/
def insideR (p q : ByteArray) : Bool := goodR p && (goodR q && decide ((namesR p).take (namesR q).length = namesR q))
theorem codeR_yes {p : ByteArray} (h : goodR p = true) : codeR p = 0 := by unfold codeR; rw [h]; rfl
theorem codeR_no {p : ByteArray} (h : goodR p = false) : codeR p = 11 := by unfold codeR; rw [h]; rfl
theorem pre_long {A B : List ByteArray} (h : A.length < B.length) : decide (A.take B.length = B) = false := by
  apply decide_eq_false
  intro e
  have := congrArg List.length e
  rw [List.length_take] at this
  omega
theorem pre_not {A B : List ByteArray} {k : Nat} (ha : k < A.length) (hb : k < B.length) (h : A[k] ≠ B[k]) : decide (A.take B.length = B) = false := by
  apply decide_eq_false
  intro e
  apply h
  have h1 : (A.take B.length)[k]? = some A[k] := by
    rw [List.getElem?_take, if_pos hb, List.getElem?_eq_getElem ha]
  rw [e, List.getElem?_eq_getElem hb] at h1
  exact (Option.some.inj h1).symm
set_option maxHeartbeats 1000000 in
theorem rinside_any (p q : ByteArray) (hp : p.size ≤ 1000000) (hq : q.size ≤ 1000000) (w : World) :
    Calls Try.prog 20 #[.string p, .string q] w fun e w' => e = .returned (.bool (insideR p q)) ∧ Below w.heap.size w w' := by
  have c := fun w => rsplit_any p hp w
  have c' := fun w => rsplit_any q hq w
  have lp := (names_le p).1
  have lq := (names_le q).1
  clear hp hq
  cases hg : goodR p
  · rw [show insideR p q = false by unfold insideR; rw [hg]; rfl]
    rw [codeR_no hg] at c
    clear hg
    generalize codeR q = x at *
    generalize namesR p = A at *
    generalize namesR q = B at *
    go_enter Try.func20, Try.ntmps20
    go_wp2_with (first | (go_at_call 9; ((with_reducible refine (c _).mono ?_); rintro e w1 ⟨ao, ca, rfl, hA, hb1, _⟩)) | (go_at_call 9; ((with_reducible refine (c' _).mono ?_); rintro e w2 ⟨bo, cb, rfl, hB, hb2, _⟩)))
    go_ret
    exact ⟨rfl, hb1.trans (hb2.mono hb1.size)⟩
  cases hgq : goodR q
  · rw [show insideR p q = false by unfold insideR; rw [hg, hgq]; rfl]
    rw [codeR_yes hg] at c
    rw [codeR_no hgq] at c'
    clear hg hgq
    generalize namesR p = A at *
    generalize namesR q = B at *
    go_enter Try.func20, Try.ntmps20
    go_wp2_with (first | (go_at_call 9; ((with_reducible refine (c _).mono ?_); rintro e w1 ⟨ao, ca, rfl, hA, hb1, _⟩)) | (go_at_call 9; ((with_reducible refine (c' _).mono ?_); rintro e w2 ⟨bo, cb, rfl, hB, hb2, _⟩)))
    go_ret
    exact ⟨rfl, hb1.trans (hb2.mono hb1.size)⟩
  rw [show insideR p q = decide ((namesR p).take (namesR q).length = namesR q) by unfold insideR; rw [hg, hgq]; rfl]
  rw [codeR_yes hg] at c
  rw [codeR_yes hgq] at c'
  clear hg hgq
  generalize namesR p = A at *
  generalize namesR q = B at *
  by_cases hl : A.length < B.length
  · rw [pre_long hl]
    go_enter Try.func20, Try.ntmps20
    go_wp2_with (first | (go_at_call 9; ((with_reducible refine (c _).mono ?_); rintro e w1 ⟨ao, ca, rfl, hA, hb1, _⟩)) | (go_at_call 9; ((with_reducible refine (c' _).mono ?_); rintro e w2 ⟨bo, cb, rfl, hB, hb2, _⟩)))
    go_ret
    exact ⟨rfl, hb1.trans (hb2.mono hb1.size)⟩
  have hl' : decide (A.length < B.length) = false := decide_eq_false hl
  have HN := Lib.hid (fun k (ha : k < A.length) (hb : k < B.length) => @pre_not A B k ha hb)
  have HY := Lib.hid (show A.take B.length = B.take B.length → decide (A.take B.length = B) = true from fun e => by
    rw [List.take_of_length_le (Nat.le_refl B.length)] at e
    exact decide_eq_true e)
  generalize decide (A.take B.length = B) = R at *
  go_enter Try.func20, Try.ntmps20
  go_wp2_with (first | (go_at_call 9; ((with_reducible refine (c _).mono ?_); rintro e w1 ⟨ao, ca, rfl, hA, hb1, _⟩)) | (go_at_call 9; ((with_reducible refine (c' _).mono ?_); rintro e w2 ⟨bo, cb, rfl, hB, hb2, _⟩)))
  have HA := Lib.hid (hA.below hb2)
  have HB := Lib.hid hB
  have HBB := Lib.hid (hb1.trans (hb2.mono hb1.size))
  clear hA hB hb1 hb2 c c' hl'
  go_loopw [9] (fun i wr => ∃ k n : Nat, i = .int .i64 k ∧ k ≤ B.length ∧ wr = w2.drewN n ∧ Hid (A.take k = B.take k)) (fun i _ => B.length - (intOf i).toNat)
  case atStart => exact ⟨0, 0, rfl, Nat.zero_le _, rfl, Lib.hid (by simp)⟩
  case round =>
    obtain ⟨k, n, rfl, hk, rfl, HT⟩ := hrel
    by_cases hlb : k < B.length
    · have hlt : k < A.length := by omega
      obtain ⟨bk, off, rfl, c0⟩ := HA.out k hlt
      obtain ⟨bk2, off2, rfl, c1⟩ := HB.out k hlb
      have c0' : (w2.drewN n).cell? ⟨bk, off + k, none⟩ = some (.string A[k]) := c0
      have c1' : (w2.drewN n).cell? ⟨bk2, off2 + k, none⟩ = some (.string B[k]) := c1
      have k0 : (k : Int) < (A.length : Int) := by omega
      have k1 : (k : Int) < (B.length : Int) := by omega
      by_cases he : A[k] = B[k]
      · have HT2 := Lib.hid (take_eq_succ hlt hlb HT.out he)
        have d1 : (A[k].toList == B[k].toList) = true := by rw [he, beq_iff_eq]
        clear he
        go_wp2_with fail
        go_quiet (fail)
        go_wp2_with fail
        go_roundw
        case rel => exact ⟨k + 1, n + nq, by go_num, by omega, by first | rfl | simp, HT2⟩
        case measure => simp [intOf]; omega
      · have HX := Lib.hid (HN.out k hlt hlb he)
        have d1 : (A[k].toList == B[k].toList) = false := by
          rw [beq_eq_false_iff_ne, Lib.toList_data, Lib.toList_data]
          intro e
          exact he (lof_inj e)
        clear he
        go_wp2_with fail
        go_quiet (fail)
        go_wp2_with fail
        go_ret
        rw [HX.out]
        exact ⟨rfl, below_drewN (below_drewN HBB.out n) nq⟩
    · obtain rfl : k = B.length := by omega
      have HX := Lib.hid (HY.out HT.out)
      go_wp2_with fail
      go_ret
      rw [HX.out]
      exact ⟨rfl, below_drewN HBB.out n⟩
end Go.Proofs.Ytnladghhcghafaa
