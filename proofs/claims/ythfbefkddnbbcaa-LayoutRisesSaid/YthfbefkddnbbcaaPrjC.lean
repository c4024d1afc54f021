/- What the statements' own small functions Ints, LargeProjection and the document's own Has return. Conditions: the lists lie where the call was told; lists of numbers no longer than 1000000. -/
import Derived.Test.YthfbefkddnbbcaaPrjB
import Derived.Test.YthfbefkddnbbcaaBase
import Derived.Test.YthfbefkddnbbcaaFrame
namespace Go.Proofs.Ythfbefkddnbbcaa
set_option linter.unusedVariables false
open Go.RowKit
set_option maxRecDepth 20000

theorem quiet_dr {P : Program} {f : FuncId} {args : Array Value} {w : World} {n : Nat} {v : Value}
    (h : Calls P f args (w.drewN n) fun e w' => e = .returned v ∧ ∃ k, w' = (w.drewN n).drewN k) : Calls P f args (w.drewN n) fun e w'' => e = .returned v ∧ ∃ m, w'' = w.drewN m :=
  h.mono fun _ _ ⟨he, k, hm⟩ => ⟨he, n + k, by rw [hm]; simp⟩
theorem quiet_drq {P : Program} {f : FuncId} {args : Array Value} {w : World} {q n : Nat} {v : Value}
    (h : Calls P f args (w.drewN (q + n)) fun e w' => e = .returned v ∧ ∃ k, w' = (w.drewN (q + n)).drewN k) : Calls P f args (w.drewN (q + n)) fun e w'' => e = .returned v ∧ ∃ m, w'' = w.drewN (q + m) :=
  h.mono fun _ _ ⟨he, k, hm⟩ => ⟨he, n + k, by rw [hm]; simp [Nat.add_assoc]⟩
theorem takeI_succ {A B : List Int} {k : Nat} (ha : k < A.length) (hb : k < B.length) (h : A.take k = B.take k) (e : A[k] = B[k]) : A.take (k + 1) = B.take (k + 1) := by
  rw [List.take_succ_eq_append_getElem ha, List.take_succ_eq_append_getElem hb, h, e]
theorem neI_at {A B : List Int} {k : Nat} (ha : k < A.length) (hb : k < B.length) (e : A[k] ≠ B[k]) : A ≠ B := by
  intro h
  subst h
  exact e rfl
/-- are two lists alike? -/
def intsB (A B : List Int) : Bool := decide (A = B)
theorem keepInts_any (A B : List Int) (ao bo : Option Addr) (ca cb : Nat) (w : World) (hA : NLI w ao ca A) (hB : NLI w bo cb B) (lA : A.length ≤ 1000000) (lB : B.length ≤ 1000000) :
    Calls Try.prog 17 #[.slice ao A.length ca, .slice bo B.length cb] w fun e w' => e = .returned (.bool (intsB A B)) ∧ ∃ n, w' = w.drewN n := by
  by_cases hl : A.length = B.length
  · have HN := Lib.hid (fun k (ha : k < A.length) (hb : k < B.length) => show A[k] ≠ B[k] → intsB A B = false from fun e => decide_eq_false (neI_at ha hb e))
    have HY := Lib.hid (show A.take A.length = B.take A.length → intsB A B = true from fun e => by
      rw [List.take_of_length_le (Nat.le_refl _), List.take_of_length_le (by omega)] at e
      exact decide_eq_true e)
    generalize intsB A B = R at *
    have hl1 : ((A.length : Int) != (B.length : Int)) = false := bne_eq_false_iff_eq.2 (by omega)
    have HA := Lib.hid hA
    have HB := Lib.hid hB
    have HL := Lib.hid hl
    have lA' : (A.length : Int) ≤ 1000000 := by omega
    have lB' : (B.length : Int) ≤ 1000000 := by omega
    clear hA hB hl
    go_enter Try.func17, Try.ntmps17
    go_wp2_with fail
    go_loopw [5] (fun i wr => ∃ k q : Nat, i = .int .i64 k ∧ k ≤ A.length ∧ wr = w.drewN q ∧ Hid (A.take k = B.take k)) (fun i _ => A.length - (intOf i).toNat)
    case atStart => exact ⟨0, 0, rfl, Nat.zero_le _, rfl, Lib.hid (by simp)⟩
    case round =>
      obtain ⟨k, q, rfl, hk, rfl, HT⟩ := hrel
      by_cases hlt : k < A.length
      · have hlb : k < B.length := by have := HL.out; omega
        obtain ⟨bk, off, rfl, c0⟩ := HA.out.at k hlt
        obtain ⟨bk2, off2, rfl, c1⟩ := HB.out.at k hlb
        have c0' : (w.drewN q).cell? ⟨bk, off + k, none⟩ = some (.int .i64 A[k]) := c0
        have c1' : (w.drewN q).cell? ⟨bk2, off2 + k, none⟩ = some (.int .i64 B[k]) := c1
        have k0 : (k : Int) < (A.length : Int) := by omega
        have k1 : (k : Int) < (B.length : Int) := by omega
        clear hl1
        by_cases he : A[k] = B[k]
        · have HT2 := Lib.hid (takeI_succ hlt hlb HT.out he)
          have d1 : (A[k] != B[k]) = false := bne_eq_false_iff_eq.2 he
          clear he
          go_wp2_with fail
          go_quiet (fail)
          go_wp2_with fail
          go_roundw
          case rel => exact ⟨k + 1, q + nq, by go_num, by omega, by first | rfl | simp, HT2⟩
          case measure => simp [intOf]; omega
        · have HX := Lib.hid (HN.out k hlt hlb he)
          have d1 : (A[k] != B[k]) = true := bne_iff_ne.2 he
          clear he
          go_wp2_with fail
          go_quiet (fail)
          go_wp2_with fail
          go_ret
          rw [HX.out]
          exact ⟨rfl, q + nq, by simp⟩
      · obtain rfl : k = A.length := by omega
        have HX := Lib.hid (HY.out HT.out)
        go_wp2_with fail
        go_ret
        rw [HX.out]
        exact ⟨rfl, _, rfl⟩
  · rw [show intsB A B = false from decide_eq_false (show ¬ A = B from fun e => hl (by rw [e]))]
    have hl1 : ((A.length : Int) != (B.length : Int)) = true := bne_iff_ne.2 (by omega)
    clear hl
    go_enter Try.func17, Try.ntmps17
    go_wp2_with fail
    go_ret
    exact ⟨rfl, 0, rfl⟩

/-- is a projection too large to be gone through? -/
def largeB (L : List (List Int)) : Bool := decide (50 < L.length) || L.any (fun c => decide (50 < c.length))
theorem largeB_no {L : List (List Int)} (h : largeB L = false) : L.length ≤ 50 ∧ ∀ c ∈ L, c.length ≤ 50 := by
  simp only [largeB, Bool.or_eq_false_iff, decide_eq_false_iff_not, List.any_eq_false, decide_eq_true_eq] at h
  exact ⟨by omega, fun c hc => by have := h.2 c hc; omega⟩
theorem largeB_many {L : List (List Int)} (h : 50 < L.length) : largeB L = true := by simp [largeB, h]
theorem largeB_one {L : List (List Int)} {k : Nat} (hk : k < L.length) (h : 50 < L[k].length) : largeB L = true := by
  simp only [largeB, Bool.or_eq_true, List.any_eq_true, decide_eq_true_eq]
  exact .inr ⟨L[k], List.getElem_mem hk, h⟩
theorem largeB_none {L : List (List Int)} (h : L.length ≤ 50) (h2 : ∀ c ∈ L, c.length ≤ 50) : largeB L = false := by
  simp only [largeB, Bool.or_eq_false_iff, decide_eq_false_iff_not, List.any_eq_false, decide_eq_true_eq]
  exact ⟨by omega, fun c hc => by have := h2 c hc; omega⟩
theorem all_take_succ {α : Type} {p : α → Prop} {L : List α} {k : Nat} (hk : k < L.length) (h : ∀ c ∈ L.take k, p c) (e : p L[k]) : ∀ c ∈ L.take (k + 1), p c := by
  intro c hc
  rw [List.take_succ_eq_append_getElem hk, List.mem_append, List.mem_singleton] at hc
  rcases hc with hc | rfl
  · exact h c hc
  · exact e
/-- the projection's block -/
def pbox (ep : Int) (ao : Option Addr) (n cap : Nat) : Obj := .cells #[.int .i64 ep, .slice ao n cap] 24
theorem large_any (ep : Int) (ao : Option Addr) (cap : Nat) (L : List (List Int)) (w : World) (h : CL w ao L) (hl : L.length ≤ maxLen) (hm : ∀ c ∈ L, c.length ≤ maxLen) :
    Calls Try.prog 6 #[.agg #[.int .i64 ep, .slice ao L.length cap]] w fun e w' => e = .returned (.bool (largeB L)) ∧ Below w.heap.size w w' := by
  have HB := Lib.hid ((Below.refl w.heap.size w).alloc (Nat.le_refl _) (.cells #[.int .i64 ep, .slice ao L.length cap] 24))
  have HC := Lib.hid (h.below HB.out)
  have HM := Lib.hid hm
  have HY := Lib.hid (fun k hk => @largeB_one L k hk)
  have HN := Lib.hid (fun e => @largeB_none L e)
  have HT := Lib.hid (@largeB_many L)
  unfold maxLen at hl
  have hl' : (L.length : Int) ≤ 9223372036854775807 := by omega
  generalize largeB L = R at *
  clear h hm
  by_cases h50 : 50 < L.length
  · obtain rfl := HT.out h50
    have h5 : (50 : Int) < (L.length : Int) := by omega
    go_enter Try.func6, Try.ntmps6
    go_wp2_with fail
    go_ret
    exact ⟨rfl, HB.out⟩
  · have h5 : (L.length : Int) ≤ 50 := by omega
    go_enter Try.func6, Try.ntmps6
    go_wp2_with fail
    go_loop [3] (fun i => ∃ k : Nat, i = .int .i64 k ∧ k ≤ L.length ∧ Hid (∀ c ∈ L.take k, c.length ≤ 50)) (fun i => L.length - (intOf i).toNat)
    case atStart => exact ⟨0, rfl, Nat.zero_le _, Lib.hid (by simp)⟩
    case round =>
      obtain ⟨k, rfl, hk, HA⟩ := hrel
      by_cases hlt : k < L.length
      · obtain ⟨bk, off, ai, ci, rfl, c0, _⟩ := HC.out k hlt
        have m0 := HM.out L[k] (List.getElem_mem hlt)
        unfold maxLen at m0
        by_cases he : 50 < L[k].length
        · obtain rfl := HY.out k hlt he
          have d1 : (50 : Int) < (L[k].length : Int) := by omega
          go_wp2_with fail
          go_ret
          exact ⟨rfl, HB.out⟩
        · have HA2 := Lib.hid (all_take_succ hlt HA.out (by omega))
          have d1 : (L[k].length : Int) ≤ 50 := by omega
          clear he
          go_wp2_with fail
          go_round
          case rel => exact ⟨k + 1, by go_num, by omega, HA2⟩
          case measure => simp [intOf]; omega
      · obtain rfl : k = L.length := by omega
        obtain rfl := HN.out (by omega) (by have := HA.out; rwa [List.take_of_length_le (Nat.le_refl _)] at this)
        go_wp2_with fail
        go_ret
        exact ⟨rfl, HB.out⟩
end Go.Proofs.Ythfbefkddnbbcaa
