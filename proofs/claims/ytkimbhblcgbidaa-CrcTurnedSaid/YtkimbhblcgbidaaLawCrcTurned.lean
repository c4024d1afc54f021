/- CrcTurned: two texts of one length that differ in some of 32 bits side by side have not the same sum, wherever the bits stand; the law's examples come out. No conditions. -/
import Derived.Test.YtkimbhblcgbidaaFrame
import Derived.Test.YtkimbhblcgbidaaKeep
import Derived.Test.YtkimbhblcgbidaaCrcG
namespace Go.Proofs.Ytkimbhblcgbidaa
open Go.ChangeShapes Go.WideShapes Go.ChangeAt Go.RowKit
open Go.ChangeMaps (open_string shut_string)
set_option linter.unusedVariables false

set_option maxHeartbeats 1000000 in
theorem crcTurned_in (s : ByteArray) (at0 : Int) (f : Nat) (hs : s.size ≤ 100000) (h0 : 0 < s.size) (hf0 : 0 < f) (hf : f < 4294967296) (w : World) :
    Calls Try.prog 4 #[.string s, .int .i64 at0, .int .u32 f] w fun e w' => e = .returned (.bool true) ∧ Below w.heap.size w w' := by
  obtain ⟨k, hk⟩ : ∃ k : Nat, at0 % (8 * (s.size : Int)) = k := Int.eq_ofNat_of_zero_le (Int.emod_nonneg _ (by omega))
  have hks : k < 8 * s.size := by have := Int.emod_lt_of_pos at0 (show (0 : Int) < 8 * (s.size : Int) by omega); omega
  have HK := Lib.hid hk
  clear hk
  have g1 : (s.size : Int) ≤ 100000 := by omega
  have g2 : ((s.size : Int) == 0) = false := beq_eq_false_iff_ne.2 (by omega)
  have g3 : ((f : Int) == 0) = false := beq_eq_false_iff_ne.2 (by omega)
  have g5 : decide ((100000 : Int) < (s.size : Int)) = false := decide_eq_false (by omega)
  have HSS := Lib.hid (show s.size ≤ maxLen by unfold maxLen; omega)
  have HKS := Lib.hid hks
  have g4 : (f : Int) ≤ 4294967295 := by omega
  have hcv := fun w => run_bytes_of_string (P := Try.prog) w 9 29 5 s Try.underlying9 Try.underlying29 Try.underlying5
  go_enter Try.func4, Try.ntmps4
  go_wp2_with (go_at_call 7; refine (mod_any _ _ (by omega) (by omega) _).mono ?_; rintro e w' ⟨rfl, rfl⟩; rw [HK.out])
  obtain ⟨C, hC⟩ : ∃ C, C = grownCap w s.size 0 5 := ⟨_, rfl⟩
  have HT0 := Lib.hid (tb_start s w C _ ((bytesRow s C).size + 1) (bytesRow_ge s C))
  rw [← hC]
  clear hC hcv
  go_loopw [9, 10] (fun t i wr => ∃ m : Nat, m ≤ 32 ∧ k + m ≤ 8 * s.size ∧ i = .int .i64 m ∧ t = .bool (turnB f m) ∧ TB w wr (turnG s (turnX f k m)) s.size) (fun _ i _ => 32 - (intOf i).toNat)
  case atStart => exact ⟨0, Nat.zero_le _, by omega, rfl, by rw [turnB_zero], by rw [turnX_zero]; exact HT0.out⟩
  case round =>
    obtain ⟨m, hm, hkm, rfl, rfl, hT⟩ := hrel
    have HT := Lib.hid hT
    clear hT
    have b1 : (k : Int) ≤ 800000 := by omega
    by_cases hgo : m < 32 ∧ k + m < 8 * s.size
    · obtain ⟨l1, l2⟩ := hgo
      have l3 : (m : Int) < 32 := by omega
      have l4 : (k : Int) + m < 8 * s.size := by omega
      by_cases hbit : f / 2 ^ m % 2 = 1
      · have hb : (bits .and .u32 ((f : Int) / 2 ^ m) 1 == 1) = true := by rw [bit_val f m hf, hbit]; rfl
        have HST := Lib.hid (turn_step s f k m hbit)
        have HTB := Lib.hid (turnB_one f m hbit)
        have HRE := Lib.hid (turn_rest s f k m hbit)
        clear hbit
        have hz := (HT.out.1 ((k + m) / 8) (by omega)).1
        have hfz := (HT.out.1 ((k + m) / 8) (by omega)).2
        go_wp2_with fail
        rw [HST.out]
        go_roundw
        case rel => exact ⟨m + 1, by omega, by omega, by go_num, by rw [HTB.out], HT.out.set (turnG s (turnX f k (m + 1))) ((k + m) / 8) (by omega) HRE.out⟩
        case measure => simp [intOf]; omega
      · have hb : (bits .and .u32 ((f : Int) / 2 ^ m) 1 == 1) = false := by rw [bit_val f m hf, show f / 2 ^ m % 2 = 0 by omega]; rfl
        have HTB := Lib.hid (turnB_nought f m (by omega))
        have HTX := Lib.hid (turnX_nought f k m (by omega))
        clear hbit
        go_wp2_with fail
        go_roundw
        case rel => exact ⟨m + 1, by omega, by omega, by go_num, by rw [HTB.out], by rw [HTX.out]; exact HT.out⟩
        case measure => simp [intOf]; omega
    · have hcv := tb_string HT.out C
      have HSUM := Lib.hid (turn_sum s f k m (by omega) hf hkm hgo)
      have hsx : (strOfNums ((List.range s.size).map fun j => ((turnG s (turnX f k m) j : Nat) : Int))).size ≤ maxLen := by
        rw [strOfNums_size, List.length_map, List.length_range]
        exact HSS.out
      generalize strOfNums ((List.range s.size).map fun j => ((turnG s (turnX f k m) j : Nat) : Int)) = T at hcv HSUM hsx
      have HSX := Lib.hid hsx
      clear hsx
      have hb0 := HT.out.2
      have hB : turnB f m = (((sumR T : Nat) : Int) != ((sumR s : Nat) : Int)) := by
        unfold turnB
        by_cases hz : f % 2 ^ m = 0
        · rw [HSUM.out.2 hz]
          simp [hz]
        · have hne : ¬ sumR T = sumR s := fun c => hz (HSUM.out.1 c)
          rw [decide_eq_true hz]
          symm
          rw [bne_iff_ne]
          omega
      have HB := Lib.hid hB
      clear hB
      rw [HB.out]
      by_cases l3 : (m : Int) < 32
      · have l4 : ¬ (k : Int) + m < 8 * s.size := by omega
        clear hgo
        go_wp2_with (first | (go_at_call 9; refine (sum_r _ (by first | exact HSX.out | exact HSS.out) _).mono ?_; rintro e w' ⟨rfl, rfl⟩) | (go_at_call 6; refine (wakes_any _).mono ?_; rintro e w1 ⟨rfl, hb1⟩))
        go_ret
        exact ⟨rfl, hb0.trans (hb1.mono hb0.size)⟩
      · clear hgo
        go_wp2_with (first | (go_at_call 9; refine (sum_r _ (by first | exact HSX.out | exact HSS.out) _).mono ?_; rintro e w' ⟨rfl, rfl⟩) | (go_at_call 6; refine (wakes_any _).mono ?_; rintro e w1 ⟨rfl, hb1⟩))
        go_ret
        exact ⟨rfl, hb0.trans (hb1.mono hb0.size)⟩
theorem crcTurned_walk (a0 : ByteArray) (a1 a2 : Int) (w0 : a0.size ≤ maxLen) (w1 : (Lit.int .i64 a1).wf = true) (w2 : (Lit.int .u32 a2).wf = true) (w : World) :
    Calls Try.prog 4 #[.string a0, .int .i64 a1, .int .u32 a2] w fun e w' => e = .returned (.bool true) ∧ Below w.heap.size w w' := by
  have hf : U32 a2 := U32.of_wf w2
  obtain ⟨f, rfl⟩ := Int.eq_ofNat_of_zero_le hf.1
  have hf1 : f < 4294967296 := by have := hf.2; omega
  clear w1 w2 hf
  unfold maxLen at w0
  by_cases g1 : (a0.size : Int) ≤ 100000
  · by_cases g2 : a0.size = 0
    · have g3 : ((a0.size : Int) == 0) = true := beq_iff_eq.2 (by omega)
      clear g2
      go_enter Try.func4, Try.ntmps4
      go_wp2_with (go_at_call 6; refine (wakes_any _).mono ?_; rintro e w1 ⟨rfl, hb1⟩)
      go_ret
      exact ⟨rfl, hb1⟩
    · by_cases g4 : f = 0
      · have g3 : ((a0.size : Int) == 0) = false := beq_eq_false_iff_ne.2 (by omega)
        have g5 : ((f : Int) == 0) = true := beq_iff_eq.2 (by omega)
        clear g2 g4
        go_enter Try.func4, Try.ntmps4
        go_wp2_with (go_at_call 6; refine (wakes_any _).mono ?_; rintro e w1 ⟨rfl, hb1⟩)
        go_ret
        exact ⟨rfl, hb1⟩
      · exact crcTurned_in a0 a1 f (by omega) (by omega) (by omega) hf1 w
  · go_enter Try.func4, Try.ntmps4
    go_wp2_with (go_at_call 6; refine (wakes_any _).mono ?_; rintro e w1 ⟨rfl, hb1⟩)
    go_ret
    exact ⟨rfl, hb1⟩

set_option maxRecDepth 100000 in
theorem crcTurned_lifted (os : Os) (started : os.Started) (H : Type) (enc : TypeId × Value → H) :
    ReturnsInHanded {} Try.checked os 4 .any (Rows.crcTurnedSpec.pre6 enc Try.prog Try.f4 Rows.crcTurnedRow.domain false) (Rows.crcTurnedSpec.post enc Try.prog Try.f4 false true false false) := by
  refine returnsInHanded_of_change (C := Try.checked) own started (by kernel_rfl) Try.func4
    (ChangeSpec.witness6 (enc := enc) (C := Try.checked) false ⟨#[], #[.string ByteArray.empty, .int .i64 0, .int .u32 0], []⟩ 8 (by kernel_rfl) (by kernel_rfl) (by kernel_rfl) (by kernel_rfl)) ?_
  intro W base args ds gs before hval0 hW hcnd _
  have hval : ∀ (j : Nat) t v, Try.f4.params[j]? = some t → args[j]? = some v → Value.okWide Try.prog W .any base t v := hval0
  have hW' := hW
  obtain ⟨p, q, hA0, hV, rfl, hfz, hnd⟩ := hW
  have hA : DataW.TrodAll enc Try.prog W 0 (fun _ => true) true Try.f4.params.toList args.toList ds p := hA0
  rw [Try.params4] at hA hval
  obtain ⟨v0, vs0, d0, ds0, p0, q0, hargs, rfl, rfl, h0, r0⟩ := trodAll_cons hA
  obtain ⟨v1, vs1, d1, ds1, p1, q1, rfl, rfl, rfl, h1, r1⟩ := trodAll_cons r0
  obtain ⟨v2, vs2, d2, ds2, p2, q2, rfl, rfl, rfl, h2, r2⟩ := trodAll_cons r1
  obtain ⟨rfl, rfl, rfl⟩ := trodAll_nil r2
  obtain rfl : args = #[v0, v1, v2] := by cases args; simp_all
  obtain ⟨rfl, rfl⟩ := trodVars_none hV
  have k0 := h0
  have lt0 : ∀ x ∈ p0, x.block < W.heap.size := by obtain ⟨m, hm⟩ := k0; exact DataW.trod_lt m _ _ _ hm
  have k1 := h1
  have lt1 : ∀ x ∈ p1, x.block < W.heap.size := by obtain ⟨m, hm⟩ := k1; exact DataW.trod_lt m _ _ _ hm
  have k2 := h2
  have lt2 : ∀ x ∈ p2, x.block < W.heap.size := by obtain ⟨m, hm⟩ := k2; exact DataW.trod_lt m _ _ _ hm
  obtain ⟨a0, rfl, rfl, rfl, w0⟩ := open_string Try.underlying9 (hval 0 9 v0 rfl rfl) h0
  obtain ⟨a1, rfl, rfl, rfl, w1⟩ := open_int Try.underlying3 (hval 1 3 v1 rfl rfl) h1
  obtain ⟨a2, rfl, rfl, rfl, w2⟩ := open_int Try.underlying24 (hval 2 24 v2 rfl rfl) h2
  clear hA0 hval0
  refine (crcTurned_walk a0 a1 a2 w0 w1 w2 W).mono fun e W' ⟨he, bel⟩ => ?_
  subst he
  exact ⟨_, rfl, _, _, _, [], _, [], hW', trodAll_mk1 (shut_bool Try.underlying4 _), (trodAll_cons_mk (Below.trod laidOut (by kernel_rfl) (of_decide_eq_true (by kernel_rfl)) k0 bel lt0) (trodAll_cons_mk (Below.trod laidOut (by kernel_rfl) (of_decide_eq_true (by kernel_rfl)) k1 bel lt1) (trodAll_cons_mk (Below.trod laidOut (by kernel_rfl) (of_decide_eq_true (by kernel_rfl)) k2 bel lt2) trodAll_mk0))), rfl, bel.frame _, fun h => by cases h⟩

theorem crcTurned_over : Rows.crcTurnedRow.holds Try.pinned (OpenSpec.ofChange Rows.crcTurnedSpec) :=
  OpenClaim.holds_of_wide 4 Try.f4 rfl rfl rfl rfl rfl rfl rfl ⟨rfl, rfl, rfl, rfl, rfl⟩ rfl rfl rfl rfl rfl (by kernel_rfl) Try.func4 (by kernel_rfl)
    (of_decide_eq_true (by kernel_rfl)) (by unfold Func.isWrapper; first | (rw [if_pos (by decide +kernel)]; kernel_rfl) | (rw [if_neg (by decide +kernel)]; exact ⟨rfl, rfl⟩))
    (fun os started H enc _ => crcTurned_lifted os started H enc)

/-- THE STATEMENT -/
theorem crcTurned_holds : Rows.CrcTurnedSaid := crcTurned_over
end Go.Proofs.Ytkimbhblcgbidaa
