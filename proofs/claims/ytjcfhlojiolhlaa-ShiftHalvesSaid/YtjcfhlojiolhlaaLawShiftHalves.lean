/- ShiftHalves: a number's bytes are its higher half's and its lower half's, one behind the other, for every number and every size, and read so they are the number again; the law's examples come out. No conditions. -/
import Derived.Test.YtjcfhlojiolhlaaFrame
import Derived.Test.YtjcfhlojiolhlaaWake
import Derived.Test.YtjcfhlojiolhlaaKeep
import Derived.Test.YtjcfhlojiolhlaaShiftF
namespace Go.Proofs.Ytjcfhlojiolhlaa
open Go.ChangeShapes Go.WideShapes Go.ChangeAt Go.RowKit
open Go.ChangeMaps (open_string shut_string)
set_option linter.unusedVariables false

theorem fieldR_U {v : Int} (hv : U64 v) (a n : Int) : U64 (fieldR v a n) := by
  unfold fieldR
  split
  · exact fieldI_U hv _ _
  · exact ⟨by decide, by decide⟩
theorem putR_size8 (v n : Int) : (putR v n).size ≤ 8 := by
  unfold putR
  split
  · rename_i h
    have e : (putS v n.toNat).size = n.toNat := by
      unfold putS
      rw [strOfNums_size]
      have : ∀ k, (putI v k).length = k := by
        intro k
        induction k with
        | zero => rfl
        | succ k ih => simp [putI, ih]
      exact this _
    rw [e]
    omega
  · decide
theorem putR_size (v n : Int) : (putR v n).size ≤ maxLen := by
  have := putR_size8 v n
  unfold maxLen
  omega
set_option maxHeartbeats 1000000 in
theorem shiftHalves_walk (a0 a1 : Int) (w0 : (Lit.int .u64 a0).wf = true) (w1 : (Lit.int .i64 a1).wf = true) (w : World) :
    Calls Try.prog 9 #[.int .u64 a0, .int .i64 a1] w fun e w' => e = .returned (.bool true) ∧ Below w.heap.size w w' := by
  have hv : U64 a0 := U64.of_wf w0
  clear w0 w1
  obtain ⟨m, hm⟩ : ∃ m, a1 % 5 = m := ⟨_, rfl⟩
  have m0 : 0 ≤ m := by omega
  have m1 : m ≤ 4 := by omega
  have HM := Lib.hid hm
  clear hm
  have G0 := halves_put hv m0 m1
  have G1 := halves_get_hi hv m0 m1
  have G2 := halves_get_lo hv m0 m1
  have G3 := halves_with hv m0 m1
  have b1 := putR_size8 (fieldR a0 (8 * m) (8 * m)) m
  have b2 := putR_size8 (fieldR a0 0 (8 * m)) m
  have hb0 : Below w.heap.size w w := Below.refl _ _
  go_enter Try.func9, Try.ntmps9
  go_wp2_with (first | (go_at_call 27; refine (mod_any _ _ (by omega) (by omega) _).mono ?_; rintro e w' ⟨rfl, rfl⟩; rw [HM.out]) | (go_at_call 19; refine (Calls.drawn (field_any _ _ _ hv (by omega) _)).mono ?_; rintro e w1 ⟨rfl, hb1⟩; replace hb0 := hb0.trans (hb1.mono hb0.size); clear hb1) | (go_at_call 11; refine (get_any _ _ _ (putR_size _ _) (by omega) (by omega) _).mono ?_; rintro e w' ⟨rfl, rfl⟩) | (go_at_call 13; refine (put_any _ _ (by first | exact hv | exact fieldR_U hv _ _) _).mono ?_; rintro e w1 ⟨rfl, hb1⟩; replace hb0 := hb0.trans (hb1.mono hb0.size); clear hb1) | (go_at_call 21; refine (Calls.drawn (with_any _ _ _ _ (fieldR_U hv _ _) (fieldR_U hv _ _) (by omega) _)).mono ?_; rintro e w1 ⟨rfl, hb1⟩; replace hb0 := hb0.trans (hb1.mono hb0.size); clear hb1) | (go_at_call 10; refine (wakes_any _).mono ?_; rintro e w1 ⟨rfl, hb1⟩; replace hb0 := hb0.trans (hb1.mono hb0.size); clear hb1))
  go_ret
  exact ⟨rfl, hb0⟩

set_option maxRecDepth 100000 in
theorem shiftHalves_lifted (os : Os) (started : os.Started) (H : Type) (enc : TypeId × Value → H) :
    ReturnsInHanded {} Try.checked os 9 .any (Rows.shiftHalvesSpec.pre6 enc Try.prog Try.f9 Rows.shiftHalvesRow.domain false) (Rows.shiftHalvesSpec.post enc Try.prog Try.f9 false true false false) := by
  refine returnsInHanded_of_change (C := Try.checked) own started (by kernel_rfl) Try.func9
    (ChangeSpec.witness6 (enc := enc) (C := Try.checked) false ⟨#[], #[.int .u64 0, .int .i64 0], []⟩ 8 (by kernel_rfl) (by kernel_rfl) (by kernel_rfl) (by kernel_rfl)) ?_
  intro W base args ds gs before hval0 hW hcnd _
  have hval : ∀ (j : Nat) t v, Try.f9.params[j]? = some t → args[j]? = some v → Value.okWide Try.prog W .any base t v := hval0
  have hW' := hW
  obtain ⟨p, q, hA0, hV, rfl, hfz, hnd⟩ := hW
  have hA : DataW.TrodAll enc Try.prog W 0 (fun _ => true) true Try.f9.params.toList args.toList ds p := hA0
  rw [Try.params9] at hA hval
  obtain ⟨v0, vs0, d0, ds0, p0, q0, hargs, rfl, rfl, h0, r0⟩ := trodAll_cons hA
  obtain ⟨v1, vs1, d1, ds1, p1, q1, rfl, rfl, rfl, h1, r1⟩ := trodAll_cons r0
  obtain ⟨rfl, rfl, rfl⟩ := trodAll_nil r1
  obtain rfl : args = #[v0, v1] := by cases args; simp_all
  obtain ⟨rfl, rfl⟩ := trodVars_none hV
  have k0 := h0
  have lt0 : ∀ x ∈ p0, x.block < W.heap.size := by obtain ⟨m, hm⟩ := k0; exact DataW.trod_lt m _ _ _ hm
  have k1 := h1
  have lt1 : ∀ x ∈ p1, x.block < W.heap.size := by obtain ⟨m, hm⟩ := k1; exact DataW.trod_lt m _ _ _ hm
  obtain ⟨a0, rfl, rfl, rfl, w0⟩ := open_int Try.underlying22 (hval 0 22 v0 rfl rfl) h0
  obtain ⟨a1, rfl, rfl, rfl, w1⟩ := open_int Try.underlying3 (hval 1 3 v1 rfl rfl) h1
  clear hA0 hval0
  refine (shiftHalves_walk a0 a1 w0 w1 W).mono fun e W' ⟨he, bel⟩ => ?_
  subst he
  exact ⟨_, rfl, _, _, _, [], _, [], hW', trodAll_mk1 (shut_bool Try.underlying4 _), (trodAll_cons_mk (Below.trod laidOut (by kernel_rfl) (of_decide_eq_true (by kernel_rfl)) k0 bel lt0) (trodAll_cons_mk (Below.trod laidOut (by kernel_rfl) (of_decide_eq_true (by kernel_rfl)) k1 bel lt1) trodAll_mk0)), rfl, bel.frame _, fun h => by cases h⟩

theorem shiftHalves_over : Rows.shiftHalvesRow.holds Try.pinned (OpenSpec.ofChange Rows.shiftHalvesSpec) :=
  OpenClaim.holds_of_wide 9 Try.f9 rfl rfl rfl rfl rfl rfl rfl ⟨rfl, rfl, rfl, rfl, rfl⟩ rfl rfl rfl rfl rfl (by kernel_rfl) Try.func9 (by kernel_rfl)
    (of_decide_eq_true (by kernel_rfl)) (by unfold Func.isWrapper; first | (rw [if_pos (by decide +kernel)]; kernel_rfl) | (rw [if_neg (by decide +kernel)]; exact ⟨rfl, rfl⟩))
    (fun os started H enc _ => shiftHalves_lifted os started H enc)

/-- THE STATEMENT -/
theorem shiftHalves_holds : Rows.ShiftHalvesSaid := shiftHalves_over
end Go.Proofs.Ytjcfhlojiolhlaa
