/- What the statements' own small functions LargeAsk and Answer return. Conditions: what is handed over lies where the call was told; the two answers are alike. -/
import Derived.Test.YtphigibhgldnpaaG07b
import Derived.Test.YtphigibhgldnpaaG08b
set_option linter.unusedVariables false
namespace Go.Proofs.Ytphigibhgldnpaa
set_option linter.unusedVariables false
open Go.RowKit
set_option maxRecDepth 20000
/-- is a question too large to be gone through? -/
def largeA (a : Ak) : Bool := decide (6000 < a.data.size) || largeB a.L
theorem largeA_no {a : Ak} (h : largeA a = false) : a.data.size ≤ 6000 ∧ a.L.length ≤ 50 ∧ ∀ c ∈ a.L, c.length ≤ 50 := by
  unfold largeA at h
  rw [Bool.or_eq_false_iff] at h
  have h1 := of_decide_eq_false h.1
  exact ⟨by omega, largeB_no h.2⟩
set_option maxHeartbeats 2000000 in
theorem largeAsk_any (a : Ak) (w : World) (h : AkIn w a) :
    Calls Try.prog 17 #[askV a] w fun e w' => e = .returned (.bool (largeA a)) ∧ Below w.heap.size w w' := by
  obtain ⟨⟨_, _, _, _, _, _, hd, _, hl, hm, _, _⟩, hC⟩ := h
  obtain ⟨k, u, ep, pg, sz, n, s, pe, L, ao, cap⟩ := a
  simp only at hd hl hm hC
  have HB0 := Lib.hid ((Below.refl w.heap.size w).alloc (Nat.le_refl _) (.cells #[.int .i64 k, .int .i64 u, .int .i64 ep, .int .i64 pg, .int .i64 sz, .int .i64 n, .string s, .int .i64 pe, .slice ao L.length cap] 37))
  have CL1 := Lib.hid (large_any pe ao cap L _ (hC.below HB0.out) hl hm)
  unfold maxLen at hd
  have hs' : (s.size : Int) ≤ 9223372036854775807 := by omega
  show Calls _ _ #[.agg #[.int .i64 k, .int .i64 u, .int .i64 ep, .int .i64 pg, .int .i64 sz, .int .i64 n, .string s, .int .i64 pe, .slice ao L.length cap]] w _
  by_cases hb : 6000 < s.size
  · have hb' : (6000 : Int) < (s.size : Int) := by omega
    rw [show largeA ⟨k, u, ep, pg, sz, n, s, pe, L, ao, cap⟩ = true from by unfold largeA; rw [decide_eq_true hb]; rfl]
    clear hl hm hC hd hb
    go_enter Try.func17, Try.ntmps17
    go_wp2_with fail
    go_ret
    exact ⟨rfl, HB0.out⟩
  · have hb' : decide ((6000 : Int) < (s.size : Int)) = false := decide_eq_false (by omega)
    rw [show largeA ⟨k, u, ep, pg, sz, n, s, pe, L, ao, cap⟩ = largeB L from by unfold largeA; rw [decide_eq_false hb]; rfl]
    clear hl hm hC hd hb
    go_enter Try.func17, Try.ntmps17
    go_wp2_with (go_at_call 26; refine CL1.out.mono ?_; rintro e w1 ⟨rfl, hb1⟩)
    go_ret
    exact ⟨rfl, HB0.out.trans (hb1.mono HB0.out.size)⟩
set_option maxHeartbeats 4000000 in
theorem answer_same (x : An) (ao bo : Option Addr) (ca cb : Nat) (w : World) (hA : CL w ao x.L) (hB : CL w bo x.L) (hl : x.L.length ≤ 1000000 ∧ ∀ c ∈ x.L, c.length ≤ 1000000) :
    Calls Try.prog 18 #[ansV x ao ca, ansV x bo cb] w fun e w' => e = .returned (.bool true) ∧ Below w.heap.size w w' := by
  obtain ⟨c, n, s, pe, L, mk, sz, ep⟩ := x
  simp only at hA hB hl
  have HB0 := Lib.hid (((Below.refl w.heap.size w).alloc (Nat.le_refl _) (.cells #[.int .i64 c, .int .i64 n, .string s, .int .i64 pe, .slice ao L.length ca, .int .i64 mk, .int .i64 sz, .int .i64 ep] 34)).alloc (by simp) (.cells #[.int .i64 c, .int .i64 n, .string s, .int .i64 pe, .slice bo L.length cb, .int .i64 mk, .int .i64 sz, .int .i64 ep] 34))
  have CP := Lib.hid (keepProj_any pe ao ca L pe bo cb L _ (hA.below HB0.out) (hB.below HB0.out) hl hl)
  have HS := Lib.hid (show sameP pe L pe L = true from decide_eq_true ⟨rfl, rfl⟩)
  rw [HS.out] at CP
  have HX := Lib.hid (two_blocks w #[.int .i64 c, .int .i64 n, .string s, .int .i64 pe, .slice ao L.length ca, .int .i64 mk, .int .i64 sz, .int .i64 ep] #[.int .i64 c, .int .i64 n, .string s, .int .i64 pe, .slice bo L.length cb, .int .i64 mk, .int .i64 sz, .int .i64 ep] 34 34)
  clear hA hB hl
  show Calls _ _ #[.agg #[.int .i64 c, .int .i64 n, .string s, .int .i64 pe, .slice ao L.length ca, .int .i64 mk, .int .i64 sz, .int .i64 ep], .agg #[.int .i64 c, .int .i64 n, .string s, .int .i64 pe, .slice bo L.length cb, .int .i64 mk, .int .i64 sz, .int .i64 ep]] w _
  go_enter Try.func18, Try.ntmps18
  go_wp2_with (go_at_call 27; refine CP.out.mono ?_; rintro e w1 ⟨rfl, hb1⟩; have X1 := below_heap hb1 HX.out.1; have X2 := below_heap hb1 HX.out.2; have HB1 := Lib.hid (HB0.out.trans (hb1.mono HB0.out.size)); have a5 := cell_of X1 5; have a6 := cell_of X1 6; have a7 := cell_of X1 7; have b5 := cell_of X2 5; have b6 := cell_of X2 6; have b7 := cell_of X2 7; clear X1 X2 hb1)
  go_ret
  exact ⟨rfl, HB1.out⟩
end Go.Proofs.Ytphigibhgldnpaa
