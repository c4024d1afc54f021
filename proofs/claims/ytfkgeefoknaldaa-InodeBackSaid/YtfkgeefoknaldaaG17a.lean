/- What the library's Grow of nothing and Concat of two lists of parts return. Conditions: as each statement says. -/
import Derived.Test.YtfkgeefoknaldaaG16a
import Derived.Lib.AppendZeros
set_option linter.unusedVariables false
namespace Go.Proofs.Ytfkgeefoknaldaa
open Go.RowKit Go.Sort
set_option linter.unusedVariables false
set_option maxRecDepth 20000
set_option maxHeartbeats 4000000 in
theorem egrow_nil (n : Nat) (h1 : 1 ≤ n) (h2 : n ≤ 100000) (w : World) :
    Calls Try.prog 77 #[.slice none 0 0, .int .i64 n] w fun e w' => ∃ v, e = .returned v ∧ OPa w' w.heap.size v [] ∧ Below w.heap.size w w' := by
  obtain ⟨i0, z, bytes, hi, hz0, hz1, hz2, hz3, hz4⟩ := par_rows.info
  have happ := Lib.run_append_nil_zeros (P := Try.prog) w 48 3 48 52 i0 z .i64 .i64 Try.underlying48 Try.underlying3 hi hz0 n h1 (by rw [hz1]; decide) (by omega) (by rw [hz2]; have := Nat.mul_le_mul h2 hz4; omega)
  generalize hcap : grownCap w n 0 52 = cap2 at happ
  have hcapge : n ≤ cap2 := by rw [← hcap]; exact grownCap_ge w _ 0 52
  have hcaple : cap2 ≤ maxLen := by rw [← hcap]; exact grownCap_le_maxLen w _ 0 52 (by unfold maxLen; omega)
  generalize hZ : (Builtin.zeroCells z.cells n ++ Builtin.zeroCells z.cells (cap2 - n)) = Z at happ
  have hZs : Z.size = cap2 * 4 := by rw [← hZ, Array.size_append, size_zeroCells, size_zeroCells, hz3, ← Nat.add_mul]; congr 1; omega
  have HR := Lib.hid happ
  have HO := Lib.hid (show OPa (w.drew.alloc (.cells Z 52)) w.heap.size (.slice (some ⟨w.heap.size, 0, none⟩) 0 cap2) [] from World.ownsRow_made w.drew Z cap2 (Nat.le_refl _) hcaple hZs)
  have HB := Lib.hid (show Below w.heap.size w (w.drew.alloc (.cells Z 52)) from (Below.refl _ _).drew.alloc (Nat.le_refl _) _)
  clear hcap hZ happ hi hz0 hz1 hz2 hz3 hz4 hZs
  unfold maxLen at hcaple
  go_enter Try.func77, Try.ntmps77
  go_wp2_with (at_builtin; refine Lib.wpList_append_run _ rfl _ _ _ _ rfl _ _ rfl rfl _ _ HR.out ?_)
  go_ret
  exact ⟨_, rfl, HO.out, HB.out⟩
/-- one behind the other -/
def catK (l m : List Pt) : Nat → List Pt
  | 0 => []
  | 1 => l
  | _ => l ++ m
set_option maxHeartbeats 4000000 in
theorem econcat_any (sb : Nat) (ao bo : Option Addr) (ca cb : Nat) (l m : List Pt) (w : World) (h : w.heap[sb]? = some (.cells #[.slice ao l.length ca, .slice bo m.length cb] 48 (0, 0)))
    (hl : PaL w ao l) (hln : ao = none → ca = 0) (hlc : l.length ≤ ca) (hm : PaL w bo m) (hmn : bo = none → cb = 0) (hmc : m.length ≤ cb) (hs1 : 1 ≤ l.length + m.length) (hs2 : l.length + m.length ≤ 1000) :
    Calls Try.prog 61 #[.slice (some ⟨sb, 0, none⟩) 2 2] w fun e w' => ∃ v, e = .returned v ∧ OPa w' w.heap.size v (l ++ m) ∧ Below w.heap.size w w' := by
  obtain ⟨s0, s1, _⟩ := two_cells h
  have HL := Lib.hid hl
  have HM := Lib.hid hm
  have HLN := Lib.hid hln
  have HMN := Lib.hid hmn
  have hl1 : (l.length : Int) ≤ 1000 := by omega
  have hm1 : (m.length : Int) ≤ 1000 := by omega
  have CG := Lib.hid (egrow_nil (l.length + m.length) hs1 (by omega) w)
  have HS0 := Lib.hid (show w.cell? ⟨sb, 0, none⟩ = _ from s0)
  have HS1 := Lib.hid (show w.cell? ⟨sb, 1, none⟩ = _ from s1)
  clear h hl hm hln hmn
  go_enter Try.func61, Try.ntmps61
  go_wp2_with fail
  go_loop [3, 11] (fun s i => ∃ k : Nat, i = .int .i64 k ∧ k ≤ 2 ∧ s = .int .i64 ((catK l m k).length : Int)) (fun _ i => 2 - (intOf i).toNat)
  case atStart => exact ⟨0, rfl, by decide, rfl⟩
  case round =>
    obtain ⟨k, rfl, hk, rfl⟩ := hrel
    by_cases hk0 : k = 0
    · subst hk0
      have e0 : (catK l m 0).length = 0 := rfl
      rw [e0]
      go_wp2_with fail
      exact ⟨⟨1, rfl, by decide, rfl⟩, by decide⟩
    by_cases hk1 : k = 1
    · subst hk1
      have e1 : (catK l m 1).length = l.length := rfl
      rw [e1]
      go_wp2_with fail
      exact ⟨⟨2, rfl, by decide, by show _ = Value.int .i64 (((l ++ m).length : Nat) : Int); rw [List.length_append]; go_num⟩, by decide⟩
    obtain rfl : k = 2 := by omega
    have e2 : (catK l m 2).length = l.length + m.length := by show (l ++ m).length = _; rw [List.length_append]
    rw [e2]
    go_wp2_with (go_at_call 77; refine CG.out.mono ?_; rintro e w1 ⟨v, rfl, hO, hB⟩; have HO1 := Lib.hid hO; have HB1 := Lib.hid hB; obtain ⟨a1, c1, hv, _⟩ := OR.form par_rows hO; subst hv; clear hO hB)
    clear s0 s1 e2
    go_loopw [6, 27] (fun v i wr => ∃ k : Nat, i = .int .i64 k ∧ k ≤ 2 ∧ Hid (OPa wr w.heap.size v (catK l m k)) ∧ Hid (Below w.heap.size w wr)) (fun _ i _ => 2 - (intOf i).toNat)
    case atStart => exact ⟨0, rfl, by decide, HO1, HB1⟩
    case round =>
      obtain ⟨k, rfl, hk, HO, HB⟩ := hrel
      have s0 : wr.cell? ⟨sb, 0, none⟩ = some (.slice ao l.length ca) := cellB HB.out (block_lt_of_cell HS0.out) HS0.out
      have s1 : wr.cell? ⟨sb, 1, none⟩ = some (.slice bo m.length cb) := cellB HB.out (block_lt_of_cell HS1.out) HS1.out
      by_cases hk0 : k = 0
      · subst hk0
        have HO2 := Lib.hid (show OPa wr w.heap.size _ [] from HO.out)
        go_wp2_with (refine wpList_app_rows par_rows (o := ⟨some 33, _, _, _, _, _⟩) rfl (.tmp 31) (.tmp 32) rfl (B := w.heap.size) (D := []) rfl HO2.out (ao := ao) (cap := ca) (l := l) (m := l.length) rfl rfl (HL.out.below HB.out) HLN.out hlc (by simp; omega) HB.out.size ?_; intro v5 w5 hI hg _; have HO5 := Lib.hid hI; have HB5 := Lib.hid (HB.out.grown hg HB.out.size (fun k e => (HO2.out.lt k e).1)); clear hI hg)
        exact ⟨⟨1, rfl, by decide, HO5, HB5⟩, by decide⟩
      by_cases hk1 : k = 1
      · subst hk1
        have HO2 := Lib.hid (show OPa wr w.heap.size _ l from HO.out)
        go_wp2_with (refine wpList_app_rows par_rows (o := ⟨some 33, _, _, _, _, _⟩) rfl (.tmp 31) (.tmp 32) rfl (B := w.heap.size) (D := l) rfl HO2.out (ao := bo) (cap := cb) (l := m) (m := m.length) rfl rfl (HM.out.below HB.out) HMN.out hmc (by omega) HB.out.size ?_; intro v5 w5 hI hg _; have HO5 := Lib.hid hI; have HB5 := Lib.hid (HB.out.grown hg HB.out.size (fun k e => (HO2.out.lt k e).1)); clear hI hg)
        exact ⟨⟨2, rfl, by decide, HO5, HB5⟩, by decide⟩
      obtain rfl : k = 2 := by omega
      have HO2 := Lib.hid (show OPa wr w.heap.size _ (l ++ m) from HO.out)
      go_wp2_with fail
      go_ret
      exact ⟨_, rfl, HO2.out, HB.out⟩
end Go.Proofs.Ytfkgeefoknaldaa
