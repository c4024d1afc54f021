/- CrcJoins: for every text and every place, the text's sum is its beginning's gone on with what is behind it, and the join of both sums; the law's examples come out. No conditions. -/
import Derived.Test.YtkimbhblcgbidaaFrame
import Derived.Test.YtkimbhblcgbidaaKeep
import Derived.Test.YtkimbhblcgbidaaCrcE
namespace Go.Proofs.Ytkimbhblcgbidaa
open Go.ChangeShapes Go.WideShapes Go.ChangeAt Go.RowKit
open Go.ChangeMaps (open_string shut_string)
set_option linter.unusedVariables false

theorem extract_toList (s : ByteArray) (a b : Nat) : (s.extract a b).data.toList = (s.data.toList.take b).drop a := by
  rw [List.drop_take]
  simp [ByteArray.data_extract]
theorem sum_cut (s : ByteArray) (k : Nat) : moreR (sumR (s.extract 0 k)) (s.extract k s.size) = sumR s := by
  unfold moreR sumR
  rw [← csum_more, extract_toList, extract_toList, List.drop_zero, List.take_of_length_le (i := s.size) (by simp), List.take_append_drop]
theorem join_cut (s : ByteArray) (k : Nat) (h : k ≤ s.size) : joinR (sumR (s.extract 0 k)) (sumR (s.extract k s.size)) (s.size - k) = sumR s := by
  have hl : s.size - k = (s.extract k s.size).data.toList.length := by simp
  unfold joinR sumR
  rw [hl, ← csum_join, extract_toList, extract_toList, List.drop_zero, List.take_of_length_le (i := s.size) (by simp), List.take_append_drop]
theorem more_empty (x : Nat) : moreR x ⟨#[]⟩ = x := cmore_nil x
theorem extract_small (s : ByteArray) (a b : Nat) (hs : s.size ≤ maxLen) : (s.extract a b).size ≤ maxLen := by
  rw [ByteArray.size_extract]
  omega

set_option maxHeartbeats 1000000 in
theorem crcJoins_walk (a0 : ByteArray) (a1 : Int) (w0 : a0.size ≤ maxLen) (w1 : (Lit.int .i64 a1).wf = true) (w : World) :
    Calls Try.prog 3 #[.string a0, .int .i64 a1] w fun e w' => e = .returned (.bool true) ∧ Below w.heap.size w w' := by
  have hs : a0.size ≤ 9223372036854775807 := by unfold maxLen at w0; omega
  have HW := Lib.hid w0
  clear w0 w1
  by_cases hl : (a0.size : Int) ≤ 100000
  · obtain ⟨k, hk⟩ : ∃ k : Nat, a1 % ((a0.size : Int) + 1) = k := Int.eq_ofNat_of_zero_le (Int.emod_nonneg _ (by omega))
    have hks : k ≤ a0.size := by have := Int.emod_lt_of_pos a1 (show (0 : Int) < (a0.size : Int) + 1 by omega); omega
    have HK := Lib.hid hk
    clear hk
    have G1 := sum_cut a0 k
    have G2 := join_cut a0 k hks
    have G3 := more_empty (sumR a0)
    go_enter Try.func3, Try.ntmps3
    go_wp2_with (go_at_call 7; refine (mod_any _ _ (by omega) (by omega) _).mono ?_; rintro e w' ⟨rfl, rfl⟩; rw [HK.out])
    go_quiet (fail)
    have hb0 : Below w.heap.size w (w.drewN nq) := below_draws w nq
    go_wp2_with (first | (go_at_call 9; refine (sum_r _ (by first | exact HW.out | exact extract_small _ _ _ HW.out) _).mono ?_; rintro e w' ⟨rfl, rfl⟩) | (go_at_call 8; refine (more_r _ _ (sumR_lt _) (by first | exact extract_small _ _ _ HW.out | decide) _).mono ?_; rintro e w' ⟨rfl, rfl⟩) | (go_at_call 10; refine (join_r _ _ _ (sumR_lt _) (sumR_lt _) (by omega) _).mono ?_; rintro e w1 ⟨rfl, hb1⟩; replace hb0 := hb0.trans (hb1.mono hb0.size); clear hb1) | (go_at_call 6; refine (wakes_any _).mono ?_; rintro e w1 ⟨rfl, hb1⟩; replace hb0 := hb0.trans (hb1.mono hb0.size); clear hb1))
    go_ret
    exact ⟨rfl, hb0⟩
  · go_enter Try.func3, Try.ntmps3
    go_wp2_with (go_at_call 6; refine (wakes_any _).mono ?_; rintro e w1 ⟨rfl, hb1⟩)
    go_ret
    exact ⟨rfl, hb1⟩

set_option maxRecDepth 100000 in
theorem crcJoins_lifted (os : Os) (started : os.Started) (H : Type) (enc : TypeId × Value → H) :
    ReturnsInHanded {} Try.checked os 3 .any (Rows.crcJoinsSpec.pre6 enc Try.prog Try.f3 Rows.crcJoinsRow.domain false) (Rows.crcJoinsSpec.post enc Try.prog Try.f3 false true false false) := by
  refine returnsInHanded_of_change (C := Try.checked) own started (by kernel_rfl) Try.func3
    (ChangeSpec.witness6 (enc := enc) (C := Try.checked) false ⟨#[], #[.string ByteArray.empty, .int .i64 0], []⟩ 8 (by kernel_rfl) (by kernel_rfl) (by kernel_rfl) (by kernel_rfl)) ?_
  intro W base args ds gs before hval0 hW hcnd _
  have hval : ∀ (j : Nat) t v, Try.f3.params[j]? = some t → args[j]? = some v → Value.okWide Try.prog W .any base t v := hval0
  have hW' := hW
  obtain ⟨p, q, hA0, hV, rfl, hfz, hnd⟩ := hW
  have hA : DataW.TrodAll enc Try.prog W 0 (fun _ => true) true Try.f3.params.toList args.toList ds p := hA0
  rw [Try.params3] at hA hval
  obtain ⟨v0, vs0, d0, ds0, p0, q0, hargs, rfl, rfl, h0, r0⟩ := trodAll_cons hA
  obtain ⟨v1, vs1, d1, ds1, p1, q1, rfl, rfl, rfl, h1, r1⟩ := trodAll_cons r0
  obtain ⟨rfl, rfl, rfl⟩ := trodAll_nil r1
  obtain rfl : args = #[v0, v1] := by cases args; simp_all
  obtain ⟨rfl, rfl⟩ := trodVars_none hV
  have k0 := h0
  have lt0 : ∀ x ∈ p0, x.block < W.heap.size := by obtain ⟨m, hm⟩ := k0; exact DataW.trod_lt m _ _ _ hm
  have k1 := h1
  have lt1 : ∀ x ∈ p1, x.block < W.heap.size := by obtain ⟨m, hm⟩ := k1; exact DataW.trod_lt m _ _ _ hm
  obtain ⟨a0, rfl, rfl, rfl, w0⟩ := open_string Try.underlying9 (hval 0 9 v0 rfl rfl) h0
  obtain ⟨a1, rfl, rfl, rfl, w1⟩ := open_int Try.underlying3 (hval 1 3 v1 rfl rfl) h1
  clear hA0 hval0
  refine (crcJoins_walk a0 a1 w0 w1 W).mono fun e W' ⟨he, bel⟩ => ?_
  subst he
  exact ⟨_, rfl, _, _, _, [], _, [], hW', trodAll_mk1 (shut_bool Try.underlying4 _), (trodAll_cons_mk (Below.trod laidOut (by kernel_rfl) (of_decide_eq_true (by kernel_rfl)) k0 bel lt0) (trodAll_cons_mk (Below.trod laidOut (by kernel_rfl) (of_decide_eq_true (by kernel_rfl)) k1 bel lt1) trodAll_mk0)), rfl, bel.frame _, fun h => by cases h⟩

theorem crcJoins_over : Rows.crcJoinsRow.holds Try.pinned (OpenSpec.ofChange Rows.crcJoinsSpec) :=
  OpenClaim.holds_of_wide 3 Try.f3 rfl rfl rfl rfl rfl rfl rfl ⟨rfl, rfl, rfl, rfl, rfl⟩ rfl rfl rfl rfl rfl (by kernel_rfl) Try.func3 (by kernel_rfl)
    (of_decide_eq_true (by kernel_rfl)) (by unfold Func.isWrapper; first | (rw [if_pos (by decide +kernel)]; kernel_rfl) | (rw [if_neg (by decide +kernel)]; exact ⟨rfl, rfl⟩))
    (fun os started H enc _ => crcJoins_lifted os started H enc)

/-- THE STATEMENT -/
theorem crcJoins_holds : Rows.CrcJoinsSaid := crcJoins_over
end Go.Proofs.Ytkimbhblcgbidaa
