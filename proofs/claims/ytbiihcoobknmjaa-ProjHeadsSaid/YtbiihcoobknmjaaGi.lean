/- What the statements' own small functions Projection and CopyProjection return. Conditions: the projections lie where the call was told, and are not too large to be gone through. What the statements' own small function CopyProjection returns. Conditions: the projection lies where the call was told, and is not too large to be gone through. -/
import Derived.Test.YtbiihcoobknmjaaJPrjC
import Derived.Laws.Rows
import Derived.Laws.Tables
import Derived.Laws.CopyOwn
set_option linter.unusedVariables false
namespace Go.Proofs.Ytbiihcoobknmjaa
open Go.RowKit
set_option maxRecDepth 20000

theorem proj_ret {fn : Func} {p : Tmp} (h : fn.results = #[.cell p 24]) {a : Act} {w : World} {g : Nat} {x y : Value} {R : Ending → World → Prop}
    (hg : w.heap[g]? = some (.cells #[x, y] 24 (0, 0))) (hp : a.tmps.getD p undef = .pointer (some ⟨g, 0, none⟩)) (hd : a.defers = [])
    (hR : R (.returned (.agg #[x, y])) w) : bodyPost Try.prog fn R .ret a w :=
  bodyPost_ret (results_cell_row h a.tmps w g 24 #[x, y] (0, 0) _ hp hg Try.underlying24 rfl (by kernel_rfl)) hd hR
/-- are two projections alike? -/
def sameP (ea : Int) (A : List (List Int)) (eb : Int) (B : List (List Int)) : Bool := decide (ea = eb ∧ A = B)
theorem sameP_ep {ea eb : Int} {A B : List (List Int)} (h : ea ≠ eb) : sameP ea A eb B = false := decide_eq_false (fun e => h e.1)
theorem sameP_len {ea eb : Int} {A B : List (List Int)} (h : A.length ≠ B.length) : sameP ea A eb B = false := decide_eq_false (fun e => h (by rw [e.2]))
theorem takeC_succ {A B : List (List Int)} {k : Nat} (ha : k < A.length) (hb : k < B.length) (h : A.take k = B.take k) (e : A[k] = B[k]) : A.take (k + 1) = B.take (k + 1) := by
  rw [List.take_succ_eq_append_getElem ha, List.take_succ_eq_append_getElem hb, h, e]
theorem sameP_at {ea eb : Int} {A B : List (List Int)} {k : Nat} (ha : k < A.length) (hb : k < B.length) (e : A[k] ≠ B[k]) : sameP ea A eb B = false := decide_eq_false (by
  rintro ⟨_, h⟩
  subst h
  exact e rfl)
theorem sameP_all {ea eb : Int} {A B : List (List Int)} (h : ea = eb) (hl : A.length = B.length) (e : A.take A.length = B.take A.length) : sameP ea A eb B = true := by
  rw [List.take_of_length_le (Nat.le_refl _), List.take_of_length_le (by omega)] at e
  exact decide_eq_true ⟨h, e⟩
set_option maxHeartbeats 1000000 in
theorem keepProj_any (ea : Int) (ao : Option Addr) (ca : Nat) (A : List (List Int)) (eb : Int) (bo : Option Addr) (cb : Nat) (B : List (List Int)) (w : World) (hA : CL w ao A) (hB : CL w bo B)
    (lA : A.length ≤ 1000000 ∧ ∀ c ∈ A, c.length ≤ 1000000) (lB : B.length ≤ 1000000 ∧ ∀ c ∈ B, c.length ≤ 1000000) :
    Calls Try.prog 17 #[.agg #[.int .i64 ea, .slice ao A.length ca], .agg #[.int .i64 eb, .slice bo B.length cb]] w fun e w' => e = .returned (.bool (sameP ea A eb B)) ∧ Below w.heap.size w w' := by
  have HB0 := Lib.hid (((Below.refl w.heap.size w).alloc (Nat.le_refl _) (.cells #[.int .i64 ea, .slice ao A.length ca] 24)).alloc (by simp) (.cells #[.int .i64 eb, .slice bo B.length cb] 24))
  have HA := Lib.hid (hA.below HB0.out)
  have HB := Lib.hid (hB.below HB0.out)
  have lA' : (A.length : Int) ≤ 1000000 := by omega
  have lB' : (B.length : Int) ≤ 1000000 := by omega
  have LA := Lib.hid lA.2
  have LB := Lib.hid lB.2
  clear hA hB lA lB
  by_cases he : ea = eb
  · have hd1 : (ea != eb) = false := bne_eq_false_iff_eq.2 he
    by_cases hl : A.length = B.length
    · have HN := Lib.hid (fun k (ha : k < A.length) (hb : k < B.length) => @sameP_at ea eb A B k ha hb)
      have HY := Lib.hid (@sameP_all ea eb A B he hl)
      have hl1 : ((A.length : Int) != (B.length : Int)) = false := bne_eq_false_iff_eq.2 (by omega)
      have HL := Lib.hid hl
      generalize sameP ea A eb B = R at *
      clear he hl
      go_enter Try.func17, Try.ntmps17
      go_wp2_with fail
      go_loopw [5] (fun i wr => ∃ k q : Nat, i = .int .i64 k ∧ k ≤ A.length ∧ wr = (((w.alloc (.cells #[.int .i64 ea, .slice ao A.length ca] 24)).alloc (.cells #[.int .i64 eb, .slice bo B.length cb] 24))).drewN q ∧ Hid (A.take k = B.take k)) (fun i _ => A.length - (intOf i).toNat)
      case atStart => exact ⟨0, 0, rfl, Nat.zero_le _, rfl, Lib.hid (by simp)⟩
      case round =>
        obtain ⟨k, q, rfl, hk, rfl, HT⟩ := hrel
        by_cases hlt : k < A.length
        · have hlb : k < B.length := by have := HL.out; omega
          obtain ⟨bk, off, ai, ci, hao, c0, hN1⟩ := HA.out k hlt
          obtain ⟨bk2, off2, bi, di, hbo, c1, hN2⟩ := HB.out k hlb
          subst hao hbo
          have k0 : (k : Int) < (A.length : Int) := by omega
          have k1 : (k : Int) < (B.length : Int) := by omega
          have m0 := LA.out A[k] (List.getElem_mem hlt)
          have m1 := LB.out B[k] (List.getElem_mem hlb)
          have CI := Lib.hid (fun n => quiet_drq (w := ((w.alloc (.cells #[.int .i64 ea, .slice (some ⟨bk, off, none⟩) A.length ca] 24)).alloc (.cells #[.int .i64 eb, .slice (some ⟨bk2, off2, none⟩) B.length cb] 24))) (q := q) (n := n) (keepInts_any A[k] B[k] ai bi ci di _ (hN1.below (below_drewN (Below.refl _ _) _)) (hN2.below (below_drewN (Below.refl _ _) _)) m0 m1))
          clear hl1 hd1 hN1 hN2 m0 m1
          by_cases he : A[k] = B[k]
          · have HT2 := Lib.hid (takeC_succ hlt hlb HT.out he)
            have HI := Lib.hid (show intsB A[k] B[k] = true from decide_eq_true he)
            rw [HI.out] at CI
            clear he
            go_wp2_with fail
            go_quiet ((go_at_call 14; exact CI.out _))
            go_wp2_with fail
            go_roundw
            case rel => exact ⟨k + 1, q + nq, by go_num, by omega, by first | rfl | simp, HT2⟩
            case measure => simp [intOf]; omega
          · have HX := Lib.hid (HN.out k hlt hlb he)
            have HI := Lib.hid (show intsB A[k] B[k] = false from decide_eq_false he)
            rw [HI.out] at CI
            clear he
            go_wp2_with fail
            go_quiet ((go_at_call 14; exact CI.out _))
            go_wp2_with fail
            go_ret
            rw [HX.out]
            exact ⟨rfl, below_drewN (below_drewN HB0.out _) _⟩
        · obtain rfl : k = A.length := by omega
          have HX := Lib.hid (HY.out HT.out)
          go_wp2_with fail
          go_ret
          rw [HX.out]
          exact ⟨rfl, below_drewN HB0.out _⟩
    · have HX := Lib.hid (@sameP_len ea eb A B hl)
      have hl1 : ((A.length : Int) != (B.length : Int)) = true := bne_iff_ne.2 (by omega)
      clear he hl
      go_enter Try.func17, Try.ntmps17
      go_wp2_with fail
      go_ret
      rw [HX.out]
      exact ⟨rfl, HB0.out⟩
  · have HX := Lib.hid (@sameP_ep ea eb A B he)
    have hd1 : (ea != eb) = true := bne_iff_ne.2 he
    clear he
    go_enter Try.func17, Try.ntmps17
    go_wp2_with fail
    go_ret
    rw [HX.out]
    exact ⟨rfl, HB0.out⟩
end Go.Proofs.Ytbiihcoobknmjaa
namespace Go.Proofs.Ytbiihcoobknmjaa
open Go.RowKit
set_option maxRecDepth 20000

theorem bcell0 {B : Nat} {W w1 : World} (hb : Below B W w1) {b o : Nat} {v : Value} (h : W.cell? ⟨b, o, none⟩ = some v) (hl : b < B) : w1.cell? ⟨b, o, none⟩ = some v := (hb.cell (p := ⟨b, o, none⟩) hl).trans h
theorem bfree0 {B : Nat} {W w1 : World} (hb : Below B W w1) {b o : Nat} (h : W.frozen? ⟨b, o, none⟩ = false) (hl : b < B) : w1.frozen? ⟨b, o, none⟩ = false := (hb.frozen (p := ⟨b, o, none⟩) hl).trans h
set_option maxHeartbeats 2000000 in
theorem keepCopy_any (ep : Int) (ao : Option Addr) (cap : Nat) (L : List (List Int)) (w : World) (h : CL w ao L) (hl : L.length ≤ 1000 ∧ ∀ c ∈ L, c.length ≤ 1000) :
    Calls Try.prog 10 #[.agg #[.int .i64 ep, .slice ao L.length cap]] w fun e w' => ∃ bo cb, e = .returned (.agg #[.int .i64 ep, .slice bo L.length cb]) ∧ CL w' bo L ∧ (bo = none → cb = 0) ∧ L.length ≤ cb ∧ Below w.heap.size w w' := by
  have HB0 := Lib.hid (((Below.refl w.heap.size w).alloc (Nat.le_refl _) (.cells #[.int .i64 ep, .slice ao L.length cap] 24)).alloc (by simp) (.cells #[.int .i64 0, .slice none 0 0] 24))
  have HC := Lib.hid h
  have hl' : (L.length : Int) ≤ 1000 := by omega
  have hl2 : L.length ≤ 1000 := hl.1
  have HM := Lib.hid hl.2
  clear h hl
  go_enter Try.func10, Try.ntmps10
  go_wp2_with fail
  go_loopw [3, 4] (fun v i wr => ∃ k : Nat, i = .int .i64 k ∧ k ≤ L.length ∧ OC wr (w.heap.size + 2) v (L.take k) ∧ Below (w.heap.size + 2) ((w.alloc (.cells #[.int .i64 ep, .slice ao L.length cap] 24)).alloc (.cells #[.int .i64 0, .slice none 0 0] 24)) wr) (fun _ i _ => L.length - (intOf i).toNat)
  case atStart => exact ⟨0, rfl, Nat.zero_le _, by rw [List.take_zero]; exact OC.nil _ _, Below.refl _ _⟩
  case round =>
    obtain ⟨k, rfl, hk, hO, hb⟩ := hrel
    have b1 : wr.cell? ⟨w.heap.size, 1, none⟩ = some (.slice ao L.length cap) := bcell0 hb (by simp) (by omega)
    have HW := Lib.hid (HB0.out.trans (hb.mono (by omega)))
    have hsz : w.heap.size + 2 ≤ wr.heap.size := by have := hb.size; simpa using this
    have hsz0 : w.heap.size < wr.heap.size := by omega
    by_cases hlt : k < L.length
    · obtain ⟨bk, off, ai, ci, hao, c0, hN⟩ := (HC.out.below HW.out) k hlt
      subst hao
      have hbk := block_lt_of_cell c0
      have m0 := HM.out L[k] (List.getElem_mem hlt)
      have hNd := Lib.hid hN
      have HT := Lib.hid (show L.take (k + 1) = L.take k ++ [L[k]] from List.take_succ_eq_append_getElem hlt)
      have HO := Lib.hid hO
      have HB := Lib.hid hb
      clear hN hO hb
      go_wp2_with (first
        | (refine wpList_app_ints (o := ⟨some 19, _, _, _, _, _⟩) rfl (.tmp 13) (.tmp 18) rfl (B := wr.heap.size) (v := .slice (some ⟨wr.heap.size, 0, none⟩) 0 0) (D := []) rfl (OI.made wr (Nat.le_refl _)) (ao := ai) (cap := ci) (l := L[k]) rfl rfl (hNd.out.alloc _) (by simp; omega) (by simp) ?_; intro v1 w1 hI hg _; rw [List.nil_append] at hI; obtain ⟨a1, c1, hv1, hN1, hA1, _⟩ := hI.form; have HG := Lib.hid (below_app hg (fun k e => by cases e; exact Nat.le_refl _)); have HN1 := Lib.hid hN1; have HA1 := Lib.hid (HO.out.apart hsz hA1); clear hI hg hN1 hA1; subst hv1)
        | (refine wpList_app_chain (o := ⟨some 21, _, _, _, _, _⟩) (w := w1) rfl (.tmp 12) (.tmp 20) rfl (B := w.heap.size + 2) (v := u3) (L := L.take k) rfl (HO.out.below HG.out) (ai := a1) (ci := c1) (l := L[k]) rfl HN1.out HA1.out (by simp; omega) (Nat.le_trans hsz HG.out.size) ?_; intro v2 w2 hO2 hb2; rw [← HT.out] at hO2; have HO2 := Lib.hid hO2; have HB2 := Lib.hid ((HB.out.trans (HG.out.mono hsz)).trans hb2); clear hO2 hb2))
      go_roundw
      case rel => exact ⟨k + 1, by go_num, by omega, HO2.out, HB2.out⟩
      case measure => simp [intOf]; omega
    · obtain rfl : k = L.length := by omega
      rw [List.take_of_length_le (Nat.le_refl _)] at hO
      obtain ⟨bo, cb, rfl, hC2, hn2, hl2, ha2⟩ := hO.form
      have b0 : wr.cell? ⟨w.heap.size, 0, none⟩ = some (.int .i64 ep) := bcell0 hb (by simp) (by omega)
      have f1 : wr.frozen? ⟨w.heap.size, 1, none⟩ = false := bfree0 hb (by simp) (by omega)
      have r0 : wr.cell? ⟨w.heap.size + 1, 0, none⟩ = some (.int .i64 0) := bcell0 hb (by simp) (by omega)
      have r1 : wr.cell? ⟨w.heap.size + 1, 1, none⟩ = some (.slice none 0 0) := bcell0 hb (by simp) (by omega)
      have g0 : wr.frozen? ⟨w.heap.size + 1, 0, none⟩ = false := bfree0 hb (by simp) (by omega)
      have g1 : wr.frozen? ⟨w.heap.size + 1, 1, none⟩ = false := bfree0 hb (by simp) (by omega)
      have HR := Lib.hid ((hb.block (w.heap.size + 1) (by omega)).trans (show _ = some (.cells #[.int .i64 0, .slice none 0 0] 24 (0, 0)) by have := heap_alloc_new (w.alloc (.cells #[.int .i64 ep, .slice ao L.length cap] 24)) (.cells #[.int .i64 0, .slice none 0 0] 24); simpa using this))
      have HO := Lib.hid hO
      clear hO hC2 hn2 hl2 ha2 hb
      go_wp2_with fail
      have hR1 := two_set1 (two_set0 ((((Kept.refl (fun k => k = w.heap.size + 1) wr).setCell (p := ⟨w.heap.size, 1, none⟩) (by simp) (.slice bo L.length cb)).heap rfl HR.out)) (.int .i64 ep)) (.slice bo L.length cb)
      have hK := (((Kept.refl (fun k => w.heap.size + 2 ≤ k) wr).setCell (p := ⟨w.heap.size, 1, none⟩) (by simp) (.slice bo L.length cb)).setCell (p := ⟨w.heap.size + 1, 0, none⟩) (by simp) (.int .i64 ep)).setCell (p := ⟨w.heap.size + 1, 1, none⟩) (by simp) (.slice bo L.length cb)
      obtain ⟨bo2, cb2, e2, h3, h4, h5, _⟩ := (HO.out.keep hK (fun _ h _ => h)).form
      cases e2
      exact proj_ret rfl hR1 rfl rfl ⟨bo, cb, rfl, h3, h4, h5, ((HW.out.setCell (by simp) _).setCell (by simp) _).setCell (by simp) _⟩
end Go.Proofs.Ytbiihcoobknmjaa
