/- What the program's own Chain returns. Conditions: the projection lies where the call was told, and is not too large. -/
import Derived.Test.YtffiocgeijeheaaJPlpB
import Derived.Lib.SliceRun
set_option linter.unusedVariables false
namespace Go.Proofs.Ytffiocgeijeheaa
open Go.RowKit
set_option maxRecDepth 20000
set_option maxHeartbeats 2000000 in
theorem pClone_any (ao : Option Addr) (cap : Nat) (l : List Int) (w : World) (h : NLI w ao cap l) (hl : l.length ≤ 255) :
    Calls Try.prog 26 #[.slice ao l.length cap] w fun e w' => ∃ bo cb, e = .returned (.slice bo l.length cb) ∧ NLI w' bo cb l ∧ Below w.heap.size w w' := by
  have HN := Lib.hid h
  have HL := Lib.hid (show ([] : List Int).length + l.length ≤ 1000000 from by simp; omega)
  have hEq := fun (w : World) (a : Option Addr) (n c : Nat) => Lib.run_eql_slice_nil (P := Try.prog) w 39 3 a n c 0 0 Try.underlying39
  cases ao with
  | none =>
    obtain ⟨rfl, rfl⟩ := h.of_none
    go_enter Try.func26, Try.ntmps26
    go_wp2_with fail
    go_ret
    exact ⟨none, 0, rfl, NLI.nil _, Below.refl _ _⟩
  | some x =>
    have HMD := Lib.hid (OI.made w (Nat.le_refl _))
    clear h
    go_enter Try.func26, Try.ntmps26
    go_wp2_with (refine wpList_app_ints (o := ⟨some 7, _, _, _, _, _⟩) rfl (.tmp 5) (.tmp 6) rfl (B := w.heap.size) (v := .slice (some ⟨w.heap.size, 0, none⟩) 0 0) (D := []) rfl HMD.out (ao := some x) (cap := cap) (l := l) rfl rfl (HN.out.below (below_alloc _ _)) HL.out (by simp) ?_; intro v2 w2 hI hg _; rw [List.nil_append] at hI; obtain ⟨a2, c2, hv2, hN2, _, _⟩ := hI.form; have HB2 := Lib.hid (((Below.refl w.heap.size w).alloc (Nat.le_refl _) _).grown hg (by simp) (fun k e => by have e2 : w.heap.size = k := Option.some.inj e; omega)); have HN2 := Lib.hid hN2; subst hv2; clear hI hg hN2)
    go_ret
    exact ⟨_, _, rfl, HN2.out, HB2.out⟩
set_option maxHeartbeats 4000000 in
theorem pChain_any (ep : Int) (ao : Option Addr) (cap : Nat) (L : List (List Int)) (a : Int) (w : World) (h : CL w ao L) (hl : L.length ≤ 255 ∧ ∀ c ∈ L, c.length ≤ 255) :
    Calls Try.prog 16 #[.agg #[.int .i64 ep, .slice ao L.length cap], .int .i64 a] w fun e w' => ∃ bo cb, e = .returned (.slice bo (chainR ep L a).length cb) ∧ NLI w' bo cb (chainR ep L a) ∧ Below w.heap.size w w' := by
  have HB0 := Lib.hid ((Below.refl w.heap.size w).alloc (Nat.le_refl _) (.cells #[.int .i64 ep, .slice ao L.length cap] 24))
  have HC := Lib.hid (h.below HB0.out)
  have HP := Lib.hid (show PB (w.alloc (.cells #[.int .i64 ep, .slice ao L.length cap] 24)) w.heap.size ep ao L.length cap from heap_alloc_new _ _)
  have CO := Lib.hid (pOf_any ep ao cap L a _ HC.out hl)
  have hl' : (L.length : Int) ≤ 255 := by have := hl.1; omega
  have HM := Lib.hid hl
  clear h hl
  by_cases ho : ofB ep L a = true
  · obtain ⟨hg, ha⟩ := ofB_iff.1 ho
    obtain ⟨n1, n4⟩ := good_len hg
    obtain ⟨r1, _, _⟩ := of_range (n := L.length) ⟨by omega, by omega⟩ ha
    obtain ⟨k, hk⟩ := Int.eq_ofNat_of_zero_le r1.1
    have hkl : k < L.length := by omega
    have HX := Lib.hid (chainR_yes ho hkl hk)
    rw [ofV_is ho, hk] at CO
    have mo := HM.out.2 _ (List.getElem_mem hkl)
    have k0 : (k : Int) < (L.length : Int) := by omega
    clear ho hg ha r1 hk
    generalize a / (L.length : Int) = q at *
    go_enter Try.func16, Try.ntmps16
    go_wp2_with (first
      | (go_at_call 11; refine CO.out.mono ?_; rintro e w1 ⟨rfl, hb1⟩; have HB1 := Lib.hid ((HB0.out.trans (hb1.mono HB0.out.size)).alloc (HB0.out.trans (hb1.mono HB0.out.size)).size (.cells #[.int .i64 k, .int .i64 q] 26)); have HP1 := Lib.hid ((HP.out.below hb1).below (below_alloc w1 (.cells #[.int .i64 k, .int .i64 q] 26))); obtain ⟨b0, b1⟩ := (HP.out.below hb1).cells; obtain ⟨bk, off, ai, ci, hao, c0, hN⟩ := (HC.out.below hb1) k hkl; subst hao; have HN := Lib.hid (hN.below (below_alloc w1 (.cells #[.int .i64 k, .int .i64 q] 26))); have hw1 := block_lt_of_cell b1; have hbk := block_lt_of_cell c0; clear hb1 hN)
      | (go_at_call 26; refine (pClone_any ai ci L[k] _ HN.out mo).mono ?_; rintro e w2 ⟨bo, cb, rfl, hN2, hb2⟩; have HN2 := Lib.hid hN2; have HB2 := Lib.hid (HB1.out.trans (hb2.mono HB1.out.size)); clear hN2 hb2))
    go_ret
    rw [HX.out]
    exact ⟨_, _, rfl, HN2.out, HB2.out⟩
  · have ho' : ofB ep L a = false := Bool.eq_false_iff.2 ho
    rw [ofV_no ho'] at CO
    rw [chainR_no ho']
    clear ho ho'
    go_enter Try.func16, Try.ntmps16
    go_wp2_with (go_at_call 11; refine CO.out.mono ?_; rintro e w1 ⟨rfl, hb1⟩; have HB1 := Lib.hid (HB0.out.trans (hb1.mono HB0.out.size)); clear hb1)
    go_ret
    exact ⟨none, 0, rfl, NLI.nil _, HB1.out.alloc HB1.out.size _⟩
end Go.Proofs.Ytffiocgeijeheaa
