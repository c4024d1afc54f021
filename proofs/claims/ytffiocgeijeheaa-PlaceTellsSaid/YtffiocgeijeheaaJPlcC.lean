/- What the document's own Chain returns. Conditions: the projection lies where the call was told, and is not too large. -/
import Derived.Test.YtffiocgeijeheaaJPlcA
set_option linter.unusedVariables false
namespace Go.Proofs.Ytffiocgeijeheaa
open Go.RowKit
set_option maxRecDepth 20000
theorem chainR_no {ep : Int} {L : List (List Int)} {a : Int} (h : ofB ep L a = false) : chainR ep L a = [] := if_neg (by rw [h]; decide)
theorem chainR_yes {ep : Int} {L : List (List Int)} {a : Int} (h : ofB ep L a = true) {k : Nat} (hk : k < L.length) (e : a % (L.length : Int) = k) : chainR ep L a = L[k] := by
  unfold chainR
  rw [if_pos h, e, Int.toNat_natCast]
  simp [hk]
theorem made_at (w : World) {B n : Nat} (hn : w.heap.size = n) (hB : B ≤ n) : OI (w.alloc (.cells #[] 3)) B (.slice (some ⟨n, 0, none⟩) 0 0) [] := by
  subst hn
  exact OI.made w hB
set_option maxHeartbeats 4000000 in
theorem refChain_any (ep : Int) (ao : Option Addr) (cap : Nat) (L : List (List Int)) (a : Int) (w : World) (h : CL w ao L) (hl : L.length ≤ 255 ∧ ∀ c ∈ L, c.length ≤ 255) :
    Calls Try.prog 17 #[.agg #[.int .i64 ep, .slice ao L.length cap], .int .i64 a] w fun e w' => ∃ bo cb, e = .returned (.slice bo (chainR ep L a).length cb) ∧ NLI w' bo cb (chainR ep L a) ∧ Below w.heap.size w w' := by
  have HB0 := Lib.hid ((Below.refl w.heap.size w).alloc (Nat.le_refl _) (.cells #[.int .i64 ep, .slice ao L.length cap] 24))
  have HC := Lib.hid (h.below HB0.out)
  have HP := Lib.hid (show PB (w.alloc (.cells #[.int .i64 ep, .slice ao L.length cap] 24)) w.heap.size ep ao L.length cap from heap_alloc_new _ _)
  have CO := Lib.hid (refOf_any ep ao cap L a _ HC.out hl)
  have hl' : (L.length : Int) ≤ 255 := by have := hl.1; omega
  have HM := Lib.hid hl
  clear h hl
  by_cases ho : ofB ep L a = true
  · obtain ⟨hg, ha⟩ := ofB_iff.1 ho
    obtain ⟨n1, n4⟩ := good_len hg
    obtain ⟨r1, _, _⟩ := of_range (n := L.length) ⟨by omega, by omega⟩ ha
    obtain ⟨k, hk⟩ := Int.eq_ofNat_of_zero_le r1.1
    have hkl : k < L.length := by omega
    have HX := Lib.hid (chainR_yes ho hkl hk)
    rw [gotV_yes ho, hk] at CO
    have mo := HM.out.2 _ (List.getElem_mem hkl)
    have mo' : L[k].length ≤ 1000000 := by omega
    have k0 : (k : Int) < (L.length : Int) := by omega
    clear ho hg ha r1 hk
    generalize a / (L.length : Int) = q at *
    go_enter Try.func17, Try.ntmps17
    go_wp2_with (first
      | (go_at_call 12; refine CO.out.mono ?_; rintro e w1 ⟨rfl, hb1⟩; have HB1 := Lib.hid (HB0.out.trans (hb1.mono HB0.out.size)); obtain ⟨b0, b1⟩ := (HP.out.below hb1).cells; obtain ⟨bk, off, ai, ci, hao, c0, hN⟩ := (HC.out.below hb1) k hkl; subst hao; have HN := Lib.hid hN; have hw1 := block_lt_of_cell b1; have hbk := block_lt_of_cell c0; have HMD := Lib.hid (made_at (w1.alloc (.cells #[.int .i64 k, .int .i64 q, .bool true] 33)) (B := w.heap.size) (n := w1.heap.size + 1) (by simp) (by have := HB1.out.size; simp; omega)); clear hb1 hN)
      | (refine wpList_app_ints (o := ⟨some 20, _, _, _, _, _⟩) rfl (.tmp 12) (.tmp 19) rfl (B := w.heap.size) (v := .slice (some ⟨w1.heap.size + 1, 0, none⟩) 0 0) (D := []) rfl HMD.out (ao := ai) (cap := ci) (l := L[k]) rfl rfl ((HN.out.alloc _).alloc _) (by simp; omega) (by have := HB1.out.size; simp; omega) ?_; intro v2 w2 hI hg _; rw [List.nil_append] at hI; obtain ⟨a2, c2, hv2, hN2, _, _⟩ := hI.form; have HB2 := Lib.hid (((HB1.out.alloc HB1.out.size _).alloc (by have := HB1.out.size; simp; omega) _).grown hg (by have := HB1.out.size; simp; omega) (fun k e => by have := HB1.out.size; have e2 : w1.heap.size + 1 = k := Option.some.inj e; omega)); have HN2 := Lib.hid hN2; subst hv2; clear hI hg hN2))
    go_ret
    rw [HX.out]
    exact ⟨_, _, rfl, HN2.out, HB2.out⟩
  · have ho' : ofB ep L a = false := Bool.eq_false_iff.2 ho
    rw [gotV_no ho'] at CO
    rw [chainR_no ho']
    clear ho ho'
    go_enter Try.func17, Try.ntmps17
    go_wp2_with (go_at_call 12; refine CO.out.mono ?_; rintro e w1 ⟨rfl, hb1⟩; have HB1 := Lib.hid (HB0.out.trans (hb1.mono HB0.out.size)); clear hb1)
    go_ret
    exact ⟨none, 0, rfl, NLI.nil _, HB1.out.alloc HB1.out.size _⟩
end Go.Proofs.Ytffiocgeijeheaa
