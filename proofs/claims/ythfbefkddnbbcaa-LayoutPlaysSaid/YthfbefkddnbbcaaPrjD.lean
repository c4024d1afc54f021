/- What the statements' own small functions Projection and CopyProjection return. Conditions: the projections lie where the call was told, and are not too large to be gone through. -/
import Derived.Test.YthfbefkddnbbcaaPrjC
import Derived.Laws.Rows
import Derived.Laws.Tables
import Derived.Laws.CopyOwn
namespace Go.Proofs.Ythfbefkddnbbcaa
set_option linter.unusedVariables false
open Go.RowKit
set_option maxRecDepth 20000

theorem proj_ret {fn : Func} {p : Tmp} (h : fn.results = #[.cell p 24]) {a : Act} {w : World} {g : Nat} {x y : Value} {R : Ending → World → Prop}
    (hg : w.heap[g]? = some (.cells #[x, y] 24 (0, 0))) (hp : a.tmps.getD p undef = .pointer (some ⟨g, 0, none⟩)) (hd : a.defers = [])
    (hR : R (.returned (.agg #[x, y])) w) : bodyPost Try.prog fn R .ret a w :=
  bodyPost_ret (results_cell_row h a.tmps w g 24 #[x, y] (0, 0) _ hp hg Try.underlying24 rfl (by kernel_rfl)) hd hR
/-- are two projections alike? -/
def sameP (ea : Int) (A : List (List Int)) (eb : Int) (B : List (List Int)) : Bool := decide (ea = eb ∧ A = B)
theorem sameP_ep {ea eb : Int} {A B : List (List Int)} (h : ea ≠ eb) : sameP ea A eb B = false := decide_eq_false (fun e => h e.1)
theorem sameP_len {ea eb : Int} {A B : List (List Int)} (h : A.length ≠ B.length) : sameP ea A eb B = false := decide_eq_false (fun e => h (by rw [e.2]))
theorem takeC_succ {A B : List (List Int)} {k : Nat} (ha : k < A.length) (hb : k < B.length) (h : A.take k = B.take k) (e : A[k] = B[k]) : A.take (k + 1) = B.take (k + 1) := by
  rw [List.take_succ_eq_append_getElem ha, List.take_succ_eq_append_getElem hb, h, e]
theorem sameP_at {ea eb : Int} {A B : List (List Int)} {k : Nat} (ha : k < A.length) (hb : k < B.length) (e : A[k] ≠ B[k]) : sameP ea A eb B = false := decide_eq_false (by
  rintro ⟨_, h⟩
  subst h
  exact e rfl)
theorem sameP_all {ea eb : Int} {A B : List (List Int)} (h : ea = eb) (hl : A.length = B.length) (e : A.take A.length = B.take A.length) : sameP ea A eb B = true := by
  rw [List.take_of_length_le (Nat.le_refl _), List.take_of_length_le (by omega)] at e
  exact decide_eq_true ⟨h, e⟩
set_option maxHeartbeats 1000000 in
theorem keepProj_any (ea : Int) (ao : Option Addr) (ca : Nat) (A : List (List Int)) (eb : Int) (bo : Option Addr) (cb : Nat) (B : List (List Int)) (w : World) (hA : CL w ao A) (hB : CL w bo B)
    (lA : A.length ≤ 1000000 ∧ ∀ c ∈ A, c.length ≤ 1000000) (lB : B.length ≤ 1000000 ∧ ∀ c ∈ B, c.length ≤ 1000000) :
    Calls Try.prog 15 #[.agg #[.int .i64 ea, .slice ao A.length ca], .agg #[.int .i64 eb, .slice bo B.length cb]] w fun e w' => e = .returned (.bool (sameP ea A eb B)) ∧ Below w.heap.size w w' := by
  have HB0 := Lib.hid (((Below.refl w.heap.size w).alloc (Nat.le_refl _) (.cells #[.int .i64 ea, .slice ao A.length ca] 24)).alloc (by simp) (.cells #[.int .i64 eb, .slice bo B.length cb] 24))
  have HA := Lib.hid (hA.below HB0.out)
  have HB := Lib.hid (hB.below HB0.out)
  have lA' : (A.length : Int) ≤ 1000000 := by omega
  have lB' : (B.length : Int) ≤ 1000000 := by omega
  have LA := Lib.hid lA.2
  have LB := Lib.hid lB.2
  clear hA hB lA lB
  by_cases he : ea = eb
  · have hd1 : (ea != eb) = false := bne_eq_false_iff_eq.2 he
    by_cases hl : A.length = B.length
    · have HN := Lib.hid (fun k (ha : k < A.length) (hb : k < B.length) => @sameP_at ea eb A B k ha hb)
      have HY := Lib.hid (@sameP_all ea eb A B he hl)
      have hl1 : ((A.length : Int) != (B.length : Int)) = false := bne_eq_false_iff_eq.2 (by omega)
      have HL := Lib.hid hl
      generalize sameP ea A eb B = R at *
      clear he hl
      go_enter Try.func15, Try.ntmps15
      go_wp2_with fail
      go_loopw [5] (fun i wr => ∃ k q : Nat, i = .int .i64 k ∧ k ≤ A.length ∧ wr = (((w.alloc (.cells #[.int .i64 ea, .slice ao A.length ca] 24)).alloc (.cells #[.int .i64 eb, .slice bo B.length cb] 24))).drewN q ∧ Hid (A.take k = B.take k)) (fun i _ => A.length - (intOf i).toNat)
      case atStart => exact ⟨0, 0, rfl, Nat.zero_le _, rfl, Lib.hid (by simp)⟩
      case round =>
        obtain ⟨k, q, rfl, hk, rfl, HT⟩ := hrel
        by_cases hlt : k < A.length
        · have hlb : k < B.length := by have := HL.out; omega
          obtain ⟨bk, off, ai, ci, hao, c0, hN1⟩ := HA.out k hlt
          obtain ⟨bk2, off2, bi, di, hbo, c1, hN2⟩ := HB.out k hlb
          subst hao hbo
          have k0 : (k : Int) < (A.length : Int) := by omega
          have k1 : (k : Int) < (B.length : Int) := by omega
          have m0 := LA.out A[k] (List.getElem_mem hlt)
          have m1 := LB.out B[k] (List.getElem_mem hlb)
          have CI := Lib.hid (fun n => quiet_drq (w := ((w.alloc (.cells #[.int .i64 ea, .slice (some ⟨bk, off, none⟩) A.length ca] 24)).alloc (.cells #[.int .i64 eb, .slice (some ⟨bk2, off2, none⟩) B.length cb] 24))) (q := q) (n := n) (keepInts_any A[k] B[k] ai bi ci di _ (hN1.below (below_drewN (Below.refl _ _) _)) (hN2.below (below_drewN (Below.refl _ _) _)) m0 m1))
          clear hl1 hd1 hN1 hN2 m0 m1
          by_cases he : A[k] = B[k]
          · have HT2 := Lib.hid (takeC_succ hlt hlb HT.out he)
            have HI := Lib.hid (show intsB A[k] B[k] = true from decide_eq_true he)
            rw [HI.out] at CI
            clear he
            go_wp2_with fail
            go_quiet ((go_at_call 17; exact CI.out _))
            go_wp2_with fail
            go_roundw
            case rel => exact ⟨k + 1, q + nq, by go_num, by omega, by first | rfl | simp, HT2⟩
            case measure => simp [intOf]; omega
          · have HX := Lib.hid (HN.out k hlt hlb he)
            have HI := Lib.hid (show intsB A[k] B[k] = false from decide_eq_false he)
            rw [HI.out] at CI
            clear he
            go_wp2_with fail
            go_quiet ((go_at_call 17; exact CI.out _))
            go_wp2_with fail
            go_ret
            rw [HX.out]
            exact ⟨rfl, below_drewN (below_drewN HB0.out _) _⟩
        · obtain rfl : k = A.length := by omega
          have HX := Lib.hid (HY.out HT.out)
          go_wp2_with fail
          go_ret
          rw [HX.out]
          exact ⟨rfl, below_drewN HB0.out _⟩
    · have HX := Lib.hid (@sameP_len ea eb A B hl)
      have hl1 : ((A.length : Int) != (B.length : Int)) = true := bne_iff_ne.2 (by omega)
      clear he hl
      go_enter Try.func15, Try.ntmps15
      go_wp2_with fail
      go_ret
      rw [HX.out]
      exact ⟨rfl, HB0.out⟩
  · have HX := Lib.hid (@sameP_ep ea eb A B he)
    have hd1 : (ea != eb) = true := bne_iff_ne.2 he
    clear he
    go_enter Try.func15, Try.ntmps15
    go_wp2_with fail
    go_ret
    rw [HX.out]
    exact ⟨rfl, HB0.out⟩
end Go.Proofs.Ythfbefkddnbbcaa
