/- FrameCuts: a frame that is cut off is short, wherever; the law's examples come out. No conditions. -/
import Derived.Test.YtbfalmbmalmfoaaFrame
import Derived.Test.YtbfalmbmalmfoaaKeep
import Derived.Test.YtbfalmbmalmfoaaFrmE
namespace Go.Proofs.Ytbfalmbmalmfoaa
open Go.ChangeShapes Go.WideShapes Go.ChangeAt Go.RowKit
open Go.ChangeMaps (open_string shut_string)
set_option linter.unusedVariables false

theorem toList_ne (l : ByteArray) (h : l.size ≠ 0) : l.toList.isEmpty = false := by
  cases e : l.toList.isEmpty
  · rfl
  · exfalso
    apply h
    have : l.toList = [] := by simpa using e
    have h2 : l.toList.length = l.size := by rw [Lib.toList_data, ← Lib.size_eq]
    rw [← h2, this]
    rfl
theorem fc_next (s : ByteArray) (hs : s.size ≤ 65536) (k : Nat) (hk : k < (frR s).size) (w : World) :
    Calls Try.prog 13 #[.string ((frR s).extract 0 k)] w fun e w' => e = .returned (.tuple #[.string ⟨#[]⟩, .int .i64 0, .int .i64 10]) ∧ Below w.heap.size w w' := by
  have h := next_any ((frR s).extract 0 k) (by rw [ByteArray.size_extract]; rw [frR_size] at *; omega) w
  rwa [next_cuts s hs k hk] at h
set_option maxHeartbeats 1000000 in
theorem frameCuts_walk (a0 : ByteArray) (a1 : Int) (w0 : a0.size ≤ maxLen) (w1 : (Lit.int .i64 a1).wf = true) (w : World) :
    Calls Try.prog 7 #[.string a0, .int .i64 a1] w fun e w' => e = .returned (.bool true) ∧ Below w.heap.size w w' := by
  clear w0 w1
  by_cases g0 : (a0.size : Int) ≤ 20000
  · have hs : a0.size ≤ 65536 := by omega
    have c1 := fun w => seal_in a0 hs w
    have k0 : (frR a0).size ≠ 0 := by rw [frR_size]; omega
    have k1 : 1 ≤ (frR a0).size := by omega
    have k2 : ((frR a0).size : Int) ≤ 20008 := by rw [frR_size]; omega
    have d1 := toList_ne (frR a0) k0
    obtain ⟨k, hk⟩ : ∃ k : Nat, a1 % ((frR a0).size : Int) = k := Int.eq_ofNat_of_zero_le (Int.emod_nonneg _ (by omega))
    have hkl : k < (frR a0).size := by have := Int.emod_lt_of_pos a1 (show (0 : Int) < ((frR a0).size : Int) by omega); omega
    have c2 := fun w => fc_next a0 hs k hkl w
    have HK := Lib.hid hk
    clear hk hs k0
    generalize frR a0 = A at *
    go_enter Try.func7, Try.ntmps7
    go_wp2_with (first | (go_at_call 9; refine (c1 _).mono ?_; rintro e w1 ⟨rfl, hb1⟩) | (go_at_call 15; refine (mod_any _ _ (by omega) (by omega) _).mono ?_; rintro e w' ⟨rfl, rfl⟩; rw [HK.out]) | (go_at_call 13; refine (c2 _).mono ?_; rintro e w3 ⟨rfl, hb3⟩) | (go_at_call 8; refine (wakes_any _).mono ?_; rintro e w5 ⟨rfl, hb5⟩))
    go_ret
    have b3 := hb1.trans (hb3.mono hb1.size)
    exact ⟨rfl, b3.trans (hb5.mono b3.size)⟩
  · go_enter Try.func7, Try.ntmps7
    go_wp2_with (go_at_call 8; refine (wakes_any _).mono ?_; rintro e w3 ⟨rfl, hb3⟩)
    go_ret
    exact ⟨rfl, hb3⟩

set_option maxRecDepth 100000 in
theorem frameCuts_lifted (os : Os) (started : os.Started) (H : Type) (enc : TypeId × Value → H) :
    ReturnsInHanded {} Try.checked os 7 .any (Rows.frameCutsSpec.pre6 enc Try.prog Try.f7 Rows.frameCutsRow.domain false) (Rows.frameCutsSpec.post enc Try.prog Try.f7 false true false false) := by
  refine returnsInHanded_of_change (C := Try.checked) own started (by kernel_rfl) Try.func7
    (ChangeSpec.witness6 (enc := enc) (C := Try.checked) false ⟨#[], #[.string ByteArray.empty, .int .i64 0], []⟩ 8 (by kernel_rfl) (by kernel_rfl) (by kernel_rfl) (by kernel_rfl)) ?_
  intro W base args ds gs before hval0 hW hcnd _
  have hval : ∀ (j : Nat) t v, Try.f7.params[j]? = some t → args[j]? = some v → Value.okWide Try.prog W .any base t v := hval0
  have hW' := hW
  obtain ⟨p, q, hA0, hV, rfl, hfz, hnd⟩ := hW
  have hA : DataW.TrodAll enc Try.prog W 0 (fun _ => true) true Try.f7.params.toList args.toList ds p := hA0
  rw [Try.params7] at hA hval
  obtain ⟨v0, vs0, d0, ds0, p0, q0, hargs, rfl, rfl, h0, r0⟩ := trodAll_cons hA
  obtain ⟨v1, vs1, d1, ds1, p1, q1, rfl, rfl, rfl, h1, r1⟩ := trodAll_cons r0
  obtain ⟨rfl, rfl, rfl⟩ := trodAll_nil r1
  obtain rfl : args = #[v0, v1] := by cases args; simp_all
  obtain ⟨rfl, rfl⟩ := trodVars_none hV
  have k0 := h0
  have lt0 : ∀ x ∈ p0, x.block < W.heap.size := by obtain ⟨m, hm⟩ := k0; exact DataW.trod_lt m _ _ _ hm
  have k1 := h1
  have lt1 : ∀ x ∈ p1, x.block < W.heap.size := by obtain ⟨m, hm⟩ := k1; exact DataW.trod_lt m _ _ _ hm
  obtain ⟨a0, rfl, rfl, rfl, w0⟩ := open_string Try.underlying9 (hval 0 9 v0 rfl rfl) h0
  obtain ⟨a1, rfl, rfl, rfl, w1⟩ := open_int Try.underlying3 (hval 1 3 v1 rfl rfl) h1
  clear hA0 hval0
  refine (frameCuts_walk a0 a1 w0 w1 W).mono fun e W' ⟨he, bel⟩ => ?_
  subst he
  exact ⟨_, rfl, _, _, _, [], _, [], hW', trodAll_mk1 (shut_bool Try.underlying4 _), (trodAll_cons_mk (Below.trod laidOut (by kernel_rfl) (of_decide_eq_true (by kernel_rfl)) k0 bel lt0) (trodAll_cons_mk (Below.trod laidOut (by kernel_rfl) (of_decide_eq_true (by kernel_rfl)) k1 bel lt1) trodAll_mk0)), rfl, bel.frame _, fun h => by cases h⟩

theorem frameCuts_over : Rows.frameCutsRow.holds Try.pinned (OpenSpec.ofChange Rows.frameCutsSpec) :=
  OpenClaim.holds_of_wide 7 Try.f7 rfl rfl rfl rfl rfl rfl rfl ⟨rfl, rfl, rfl, rfl, rfl⟩ rfl rfl rfl rfl rfl (by kernel_rfl) Try.func7 (by kernel_rfl)
    (of_decide_eq_true (by kernel_rfl)) (by unfold Func.isWrapper; first | (rw [if_pos (by decide +kernel)]; kernel_rfl) | (rw [if_neg (by decide +kernel)]; exact ⟨rfl, rfl⟩))
    (fun os started H enc _ => frameCuts_lifted os started H enc)

/-- THE STATEMENT -/
theorem frameCuts_holds : Rows.FrameCutsSaid := frameCuts_over
end Go.Proofs.Ytbfalmbmalmfoaa
