/- ShiftBack: what was put is got; what a field was set to it is, and no other bit turns; a turn and its opposite are none; for every number, field, place and count, and the law's examples come out. No conditions. -/
import Derived.Test.YtjcfhlojiolhlaaFrame
import Derived.Test.YtjcfhlojiolhlaaWake
import Derived.Test.YtjcfhlojiolhlaaKeep
import Derived.Test.YtjcfhlojiolhlaaShiftG
namespace Go.Proofs.Ytjcfhlojiolhlaa
open Go.ChangeShapes Go.WideShapes Go.ChangeAt Go.RowKit
open Go.ChangeMaps (open_string shut_string)
set_option linter.unusedVariables false

theorem xsy_size (v : Int) (n : Nat) (h : n ≤ 8) : ((⟨#[120]⟩ : ByteArray) ++ putR v n ++ ⟨#[121]⟩).size ≤ maxLen := by
  rw [ByteArray.size_append, ByteArray.size_append, putR_len v n h]
  unfold maxLen
  show 1 + n + 1 ≤ _
  omega
theorem turnR_U {v : Int} (h : U32 v) (n : Int) : U32 (turnR v n) := turnI_U h (by omega)
set_option maxHeartbeats 1000000 in
theorem shiftBack_walk (a0 a1 x2_0 x2_1 x2_2 : Int) (w0 : (Lit.int .u64 a0).wf = true) (w1 : (Lit.int .u64 a1).wf = true) (w2_0 : (Lit.int .i64 x2_0).wf = true) (w2_1 : (Lit.int .i64 x2_1).wf = true) (w2_2 : (Lit.int .i64 x2_2).wf = true) (w : World) :
    Calls Try.prog 7 #[.int .u64 a0, .int .u64 a1, .agg #[.int .i64 x2_0, .int .i64 x2_1, .int .i64 x2_2]] w fun e w' => e = .returned (.bool true) ∧ Below w.heap.size w w' := by
  have hv : U64 a0 := U64.of_wf w0
  have hf : U64 a1 := U64.of_wf w1
  obtain ⟨n0, n1⟩ := i64_of_wf w2_1
  have hv0 := hv.lo
  clear w0 w1 w2_0 w2_1 w2_2
  obtain ⟨s, hs⟩ : ∃ s : Nat, x2_0 % 9 = s := Int.eq_ofNat_of_zero_le (by omega)
  obtain ⟨a, ha⟩ : ∃ a : Nat, x2_1 % 65 = a := Int.eq_ofNat_of_zero_le (by omega)
  have a64 : a ≤ 64 := by omega
  obtain ⟨b, hb⟩ : ∃ b : Nat, x2_2 % (65 - (a : Int)) = b := Int.eq_ofNat_of_zero_le (Int.emod_nonneg _ (by omega))
  have b64 : a + b ≤ 64 := by have := Int.emod_lt_of_pos x2_2 (show (0 : Int) < 65 - (a : Int) by omega); omega
  have s8 : s ≤ 8 := by omega
  have HS := Lib.hid hs
  have HA := Lib.hid ha
  have HB := Lib.hid hb
  clear hs ha hb
  have F0 := putR_len a0 s s8
  have F1 := back_get hv s s8
  have F2 := set_field hv hf a b b64
  have F3 := set_below hv hf a b b64
  have F4 := set_above hv hf a b b64
  have hwU : U64 (withR a0 a b a1) := by rw [withR_eq (by omega) (by omega) (by omega)]; exact withI_U hv (by omega) hf.1
  have hu : U32 (a0 % 4294967296) := ⟨by omega, by omega⟩
  have hu64 : ∀ n, U64 (turnR (a0 % 4294967296) n) := fun n => by
    have h := turnI_U hu (show (n % 32).toNat ≤ 32 by omega)
    exact ⟨h.1, by have := h.2; unfold turnR; omega⟩
  have F5 := turn_back hu (x2_1.tmod 1000)
  have F6 := turn_add32 (a0 % 4294967296) (x2_1.tmod 1000)
  have F7 := turn_count hu (x2_1.tmod 1000)
  have t0 : -1000 ≤ x2_1.tmod 1000 := by have := tmod_pos x2_1 1000 (by decide); omega
  have t1 : x2_1.tmod 1000 ≤ 1000 := by have := tmod_pos x2_1 1000 (by decide); omega
  have hT : IntKind.u64.wrap (turnR (a0 % 4294967296) (x2_1.tmod 1000)) = turnR (a0 % 4294967296) (x2_1.tmod 1000) := wrapU_in (hu64 _)
  have HX := Lib.hid (xsy_size a0 s s8)
  go_enter Try.func7, Try.ntmps7
  go_wp2_with fail
  go_quiet ((go_at_call 27; exact quiet_eq (mod_any _ _ (by omega) (by omega) _)))
  rw [HS.out, HA.out]
  have hb0 : Below (w.heap.size + 1) (w.alloc (.cells #[.int .i64 x2_0, .int .i64 x2_1, .int .i64 x2_2] 39)) ((w.alloc (.cells #[.int .i64 x2_0, .int .i64 x2_1, .int .i64 x2_2] 39)).drewN nq) := below_drewN (Below.refl _ _) _
  have hz : w.heap.size + 1 ≤ ((w.alloc (.cells #[.int .i64 x2_0, .int .i64 x2_1, .int .i64 x2_2] 39)).drewN nq).heap.size := by simp
  go_wp2_with (first | (go_at_call 27; refine (mod_any _ _ (by omega) (by omega) _).mono ?_; rintro e w' ⟨rfl, rfl⟩; rw [HB.out]) | (go_at_call 13; refine (put_any _ _ hv _).mono ?_; rintro e w1 ⟨rfl, hb1⟩; replace hb0 := hb0.trans (hb1.mono hz); replace hz := Nat.le_trans hz hb1.size; clear hb1) | (go_at_call 11; refine (get_any _ _ _ HX.out (by omega) (by omega) _).mono ?_; rintro e w' ⟨rfl, rfl⟩) | (go_at_call 21; refine (Calls.drawn (with_any _ _ _ _ hv hf (by omega) _)).mono ?_; rintro e w1 ⟨rfl, hb1⟩; replace hb0 := hb0.trans (hb1.mono hz); replace hz := Nat.le_trans hz hb1.size; clear hb1) | (go_at_call 19; refine (Calls.drawn (field_any _ _ _ (by first | exact hv | exact hf | exact hwU) (by omega) _)).mono ?_; rintro e w1 ⟨rfl, hb1⟩; replace hb0 := hb0.trans (hb1.mono hz); replace hz := Nat.le_trans hz hb1.size; clear hb1))
  have hc := hb0.cell (p := ⟨w.heap.size, 1, none⟩) (by simp)
  rw [World.cell?_alloc_new] at hc
  simp at hc
  go_quiet (fail)
  go_wp2_with (first | (go_at_call 23; refine (turn_any _ _ (by first | exact hu | exact turnR_U hu _) _).mono ?_; rintro e w' ⟨rfl, rfl⟩) | (go_at_call 25; refine (count_any _ (by first | exact hu64 _ | exact ⟨by omega, by omega⟩) _).mono ?_; rintro e w' ⟨rfl, rfl⟩) | (go_at_call 10; refine (wakes_any _).mono ?_; rintro e w1 ⟨rfl, hb1⟩))
  go_ret
  refine ⟨rfl, ?_⟩
  have z1 := ((Below.refl w.heap.size w).alloc (Nat.le_refl _) (.cells #[.int .i64 x2_0, .int .i64 x2_1, .int .i64 x2_2] 39)).trans ((below_drewN hb0 nq).mono (Nat.le_succ _))
  exact z1.trans (hb1.mono (by simp; omega))

set_option maxRecDepth 100000 in
theorem shiftBack_lifted (os : Os) (started : os.Started) (H : Type) (enc : TypeId × Value → H) :
    ReturnsInHanded {} Try.checked os 7 .any (Rows.shiftBackSpec.pre6 enc Try.prog Try.f7 Rows.shiftBackRow.domain false) (Rows.shiftBackSpec.post enc Try.prog Try.f7 false true false false) := by
  refine returnsInHanded_of_change (C := Try.checked) own started (by kernel_rfl) Try.func7
    (ChangeSpec.witness6 (enc := enc) (C := Try.checked) false ⟨#[], #[.int .u64 0, .int .u64 0, .agg #[.int .i64 0, .int .i64 0, .int .i64 0]], []⟩ 8 (by kernel_rfl) (by kernel_rfl) (by kernel_rfl) (by kernel_rfl)) ?_
  intro W base args ds gs before hval0 hW hcnd _
  have hval : ∀ (j : Nat) t v, Try.f7.params[j]? = some t → args[j]? = some v → Value.okWide Try.prog W .any base t v := hval0
  have hW' := hW
  obtain ⟨p, q, hA0, hV, rfl, hfz, hnd⟩ := hW
  have hA : DataW.TrodAll enc Try.prog W 0 (fun _ => true) true Try.f7.params.toList args.toList ds p := hA0
  rw [Try.params7] at hA hval
  obtain ⟨v0, vs0, d0, ds0, p0, q0, hargs, rfl, rfl, h0, r0⟩ := trodAll_cons hA
  obtain ⟨v1, vs1, d1, ds1, p1, q1, rfl, rfl, rfl, h1, r1⟩ := trodAll_cons r0
  obtain ⟨v2, vs2, d2, ds2, p2, q2, rfl, rfl, rfl, h2, r2⟩ := trodAll_cons r1
  obtain ⟨rfl, rfl, rfl⟩ := trodAll_nil r2
  obtain rfl : args = #[v0, v1, v2] := by cases args; simp_all
  obtain ⟨rfl, rfl⟩ := trodVars_none hV
  have k0 := h0
  have lt0 : ∀ x ∈ p0, x.block < W.heap.size := by obtain ⟨m, hm⟩ := k0; exact DataW.trod_lt m _ _ _ hm
  have k1 := h1
  have lt1 : ∀ x ∈ p1, x.block < W.heap.size := by obtain ⟨m, hm⟩ := k1; exact DataW.trod_lt m _ _ _ hm
  have k2 := h2
  have lt2 : ∀ x ∈ p2, x.block < W.heap.size := by obtain ⟨m, hm⟩ := k2; exact DataW.trod_lt m _ _ _ hm
  obtain ⟨a0, rfl, rfl, rfl, w0⟩ := open_int Try.underlying22 (hval 0 22 v0 rfl rfl) h0
  obtain ⟨a1, rfl, rfl, rfl, w1⟩ := open_int Try.underlying22 (hval 1 22 v1 rfl rfl) h1
  obtain ⟨ns2, rfl, hl2, hw2⟩ := open_arr (k := .i64) Try.underlying39 Try.underlying3 (by kernel_rfl) (by kernel_rfl) (hval 2 39 v2 rfl rfl) h2
  obtain ⟨x2_0, x2_1, x2_2, rfl⟩ := three_of hl2
  have w2_0 := hw2 x2_0 (by simp)
  have w2_1 := hw2 x2_1 (by simp)
  have w2_2 := hw2 x2_2 (by simp)
  clear hA0 hval0
  refine (shiftBack_walk a0 a1 x2_0 x2_1 x2_2 w0 w1 w2_0 w2_1 w2_2 W).mono fun e W' ⟨he, bel⟩ => ?_
  subst he
  exact ⟨_, rfl, _, _, _, [], _, [], hW', trodAll_mk1 (shut_bool Try.underlying4 _), (trodAll_cons_mk (Below.trod laidOut (by kernel_rfl) (of_decide_eq_true (by kernel_rfl)) k0 bel lt0) (trodAll_cons_mk (Below.trod laidOut (by kernel_rfl) (of_decide_eq_true (by kernel_rfl)) k1 bel lt1) (trodAll_cons_mk (Below.trod laidOut (by kernel_rfl) (of_decide_eq_true (by kernel_rfl)) k2 bel lt2) trodAll_mk0))), rfl, bel.frame _, fun h => by cases h⟩

theorem shiftBack_over : Rows.shiftBackRow.holds Try.pinned (OpenSpec.ofChange Rows.shiftBackSpec) :=
  OpenClaim.holds_of_wide 7 Try.f7 rfl rfl rfl rfl rfl rfl rfl ⟨rfl, rfl, rfl, rfl, rfl⟩ rfl rfl rfl rfl rfl (by kernel_rfl) Try.func7 (by kernel_rfl)
    (of_decide_eq_true (by kernel_rfl)) (by unfold Func.isWrapper; first | (rw [if_pos (by decide +kernel)]; kernel_rfl) | (rw [if_neg (by decide +kernel)]; exact ⟨rfl, rfl⟩))
    (fun os started H enc _ => shiftBack_lifted os started H enc)

/-- THE STATEMENT -/
theorem shiftBack_holds : Rows.ShiftBackSaid := shiftBack_over
end Go.Proofs.Ytjcfhlojiolhlaa
