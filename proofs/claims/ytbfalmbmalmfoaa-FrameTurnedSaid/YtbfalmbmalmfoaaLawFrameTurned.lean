/- FrameTurned: a frame of which some of 32 bits side by side of its text, or some of its sum alone, are turned over is none, wherever the bits stand; the law's examples come out. No conditions. -/
import Derived.Test.YtbfalmbmalmfoaaFrame
import Derived.Test.YtbfalmbmalmfoaaKeep
import Derived.Test.YtbfalmbmalmfoaaFrmF
namespace Go.Proofs.Ytbfalmbmalmfoaa
open Go.ChangeShapes Go.WideShapes Go.ChangeAt Go.RowKit
open Go.ChangeMaps (open_string shut_string)
set_option linter.unusedVariables false

theorem turn_code (f m : Nat) : (((if f % 2 ^ m = 0 then (0 : Int) else 12) == 12) = turnB f m) ∧ (((if f % 2 ^ m = 0 then (0 : Int) else 12) == 0) = !turnB f m) := by
  unfold turnB
  by_cases h : f % 2 ^ m = 0
  · rw [if_pos h, decide_eq_false (by omega)]
    exact ⟨rfl, rfl⟩
  · rw [if_neg h, decide_eq_true (by omega)]
    exact ⟨rfl, rfl⟩
set_option maxHeartbeats 2000000 in
theorem ft_text (s : ByteArray) (at0 : Int) (f : Nat) (hs : s.size ≤ 20000) (hf0 : 0 < f) (hf : f < 4294967296) (ha : 0 ≤ at0) (h0 : 0 < s.size) (w : World) :
    Calls Try.prog 6 #[.string s, .int .i64 at0, .int .u32 f] w fun e w' => e = .returned (.bool true) ∧ Below w.heap.size w w' := by
  have c1 := fun w => seal_in s (by omega) w
  have z0 : (frR s).size = 8 + s.size := frR_size s
  have z1 : (((frR s).size : Int) != 8 + (s.size : Int)) = false := by rw [z0, bne_eq_false_iff_eq]; rfl
  have z2 : (8 : Int) ≤ ((frR s).size : Int) := by omega
  have z3 : ((frR s).size : Int) ≤ 20008 := by omega
  have z4 : (9 : Int) ≤ ((frR s).size : Int) := by omega
  have z5 : (0 : Int) < (s.size : Int) := by omega
  obtain ⟨k0, hk⟩ : ∃ k : Nat, at0 % (8 * ((frR s).size : Int) - 64) = k := Int.eq_ofNat_of_zero_le (Int.emod_nonneg _ (by omega))
  have hks : (k0 : Int) < 8 * ((frR s).size : Int) - 64 := by have := Int.emod_lt_of_pos at0 (show (0 : Int) < 8 * ((frR s).size : Int) - 64 by omega); omega
  have HE := Lib.hid (show ∀ m : Nat, m ≤ 32 → 64 + k0 + m ≤ 8 * (frR s).size → ¬ (m < 32 ∧ 64 + k0 + m < 8 * (frR s).size) → (openR (strOfNums ((List.range (frR s).size).map fun j => ((turnG (frR s) (turnX f (64 + k0) m) j : Nat) : Int)))).2 = if f % 2 ^ m = 0 then 0 else 12 from fun m h1 h2 h3 => frX_text s f (64 + k0) m (by omega) hf (by omega) (by omega) (by omega))
  have HK := Lib.hid hk
  have g1 : (s.size : Int) ≤ 20000 := by omega
  have g3 : ((f : Int) == 0) = false := beq_eq_false_iff_ne.2 (by omega)
  have g4 : (f : Int) ≤ 4294967295 := by omega
  clear hk hs z0
  generalize frR s = A at *
  have hcv := fun w => run_bytes_of_string (P := Try.prog) w 9 37 5 A Try.underlying9 Try.underlying37 Try.underlying5
  go_enter Try.func6, Try.ntmps6
  go_wp2_with (first | (go_at_call 9; refine (c1 _).mono ?_; rintro e ws ⟨rfl, hbs⟩) | (go_at_call 15; refine (mod_any _ _ (by omega) (by omega) _).mono ?_; rintro e w' ⟨rfl, rfl⟩; rw [HK.out]))
  obtain ⟨C, hC⟩ : ∃ C, C = grownCap ws A.size 0 5 := ⟨_, rfl⟩
  have HT0 := Lib.hid (tb_start A ws C _ ((bytesRow A C).size + 1) (bytesRow_ge A C))
  rw [← hC]
  clear hC hcv
  rw [show (64 : Int) + (k0 : Int) = ((64 + k0 : Nat) : Int) by omega]
  have hkl : ((64 + k0 : Nat) : Int) < 8 * A.size := by omega
  generalize 64 + k0 = k at *
  go_loopw [13, 14] (fun t i wr => ∃ m : Nat, m ≤ 32 ∧ (k : Int) + m ≤ 8 * A.size ∧ i = .int .i64 m ∧ t = .bool (turnB f m) ∧ TB ws wr (turnG A (turnX f k m)) A.size) (fun _ i _ => 32 - (intOf i).toNat)
  case atStart => exact ⟨0, Nat.zero_le _, by omega, rfl, by rw [turnB_zero], by rw [turnX_zero]; exact HT0.out⟩
  case round =>
    obtain ⟨m, hm, hkm, rfl, rfl, hT⟩ := hrel
    have HT := Lib.hid hT
    clear hT
    have b1 : (k : Int) ≤ 800000 := by omega
    by_cases hgo : m < 32 ∧ (k : Int) + m < 8 * A.size
    · obtain ⟨l1, l2⟩ := hgo
      have l3 : (m : Int) < 32 := by omega
      by_cases hbit : f / 2 ^ m % 2 = 1
      · have hb : (bits .and .u32 ((f : Int) / 2 ^ m) 1 == 1) = true := by rw [bit_val f m hf, hbit]; rfl
        have HST := Lib.hid (turn_step A f k m hbit)
        have HTB := Lib.hid (turnB_one f m hbit)
        have HRE := Lib.hid (turn_rest A f k m hbit)
        clear hbit
        have hz := (HT.out.1 ((k + m) / 8) (by omega)).1
        have hfz := (HT.out.1 ((k + m) / 8) (by omega)).2
        go_wp2_with fail
        rw [HST.out]
        go_roundw
        case rel => exact ⟨m + 1, by omega, by omega, by go_num, by rw [HTB.out], HT.out.set (turnG A (turnX f k (m + 1))) ((k + m) / 8) (by omega) HRE.out⟩
        case measure => simp [intOf]; omega
      · have hb : (bits .and .u32 ((f : Int) / 2 ^ m) 1 == 1) = false := by rw [bit_val f m hf, show f / 2 ^ m % 2 = 0 by omega]; rfl
        have HTB := Lib.hid (turnB_nought f m (by omega))
        have HTX := Lib.hid (turnX_nought f k m (by omega))
        clear hbit
        go_wp2_with fail
        go_roundw
        case rel => exact ⟨m + 1, by omega, by omega, by go_num, by rw [HTB.out], by rw [HTX.out]; exact HT.out⟩
        case measure => simp [intOf]; omega
    · have hcv := tb_string HT.out C
      have hE := HE.out m hm (by omega) (by omega)
      have hsx : (strOfNums ((List.range A.size).map fun j => ((turnG A (turnX f k m) j : Nat) : Int))).size ≤ 1099511627776 := by
        rw [strOfNums_size, List.length_map, List.length_range]
        omega
      generalize strOfNums ((List.range A.size).map fun j => ((turnG A (turnX f k m) j : Nat) : Int)) = T at hcv hE hsx
      have cT := fun w => open_any T hsx w
      rw [hE] at cT
      obtain ⟨q1, q2⟩ := turn_code f m
      clear hE
      generalize (if f % 2 ^ m = 0 then (0 : Int) else 12) = x at cT q1 q2
      generalize (openR T).1 = tx at cT
      have HB0 := HT.out.2
      clear hsx
      by_cases l3 : (m : Int) < 32
      · have l4 : ¬ (k : Int) + m < 8 * A.size := fun c => hgo ⟨by omega, c⟩
        clear hgo
        go_wp2_with (first | (go_at_call 11; refine (cT _).mono ?_; rintro e w2 ⟨rfl, hb2⟩) | (go_at_call 8; refine (wakes_any _).mono ?_; rintro e w3 ⟨rfl, hb3⟩))
        go_ret
        have hb1 := hbs.trans (HB0.mono hbs.size)
        have hb4 := hb1.trans (hb2.mono hb1.size)
        exact ⟨rfl, hb4.trans (hb3.mono hb4.size)⟩
      · clear hgo
        go_wp2_with (first | (go_at_call 11; refine (cT _).mono ?_; rintro e w2 ⟨rfl, hb2⟩) | (go_at_call 8; refine (wakes_any _).mono ?_; rintro e w3 ⟨rfl, hb3⟩))
        go_ret
        have hb1 := hbs.trans (HB0.mono hbs.size)
        have hb4 := hb1.trans (hb2.mono hb1.size)
        exact ⟨rfl, hb4.trans (hb3.mono hb4.size)⟩
set_option maxHeartbeats 2000000 in
theorem ft_sum (s : ByteArray) (at0 : Int) (f : Nat) (hs : s.size ≤ 20000) (hf0 : 0 < f) (hf : f < 4294967296) (ha : at0 < 0) (w : World) :
    Calls Try.prog 6 #[.string s, .int .i64 at0, .int .u32 f] w fun e w' => e = .returned (.bool true) ∧ Below w.heap.size w w' := by
  have c1 := fun w => seal_in s (by omega) w
  have z0 : (frR s).size = 8 + s.size := frR_size s
  have z1 : (((frR s).size : Int) != 8 + (s.size : Int)) = false := by rw [z0, bne_eq_false_iff_eq]; rfl
  have z2 : (8 : Int) ≤ ((frR s).size : Int) := by omega
  have z3 : ((frR s).size : Int) ≤ 20008 := by omega
  obtain ⟨k0, hk⟩ : ∃ k : Nat, at0 % (32) = k := Int.eq_ofNat_of_zero_le (Int.emod_nonneg _ (by omega))
  have hks : (k0 : Int) < 32 := by have := Int.emod_lt_of_pos at0 (show (0 : Int) < 32 by omega); omega
  have HE := Lib.hid (show ∀ m : Nat, m ≤ 32 → 32 + k0 + m ≤ 64 → ¬ (m < 32 ∧ 32 + k0 + m < 64) → (openR (strOfNums ((List.range (frR s).size).map fun j => ((turnG (frR s) (turnX f (32 + k0) m) j : Nat) : Int)))).2 = if f % 2 ^ m = 0 then 0 else 12 from fun m h1 h2 h3 => frX_sum s f (32 + k0) m (by omega) (by omega) (by omega))
  have HK := Lib.hid hk
  have g1 : (s.size : Int) ≤ 20000 := by omega
  have g3 : ((f : Int) == 0) = false := beq_eq_false_iff_ne.2 (by omega)
  have g4 : (f : Int) ≤ 4294967295 := by omega
  clear hk hs z0
  generalize frR s = A at *
  have hcv := fun w => run_bytes_of_string (P := Try.prog) w 9 37 5 A Try.underlying9 Try.underlying37 Try.underlying5
  go_enter Try.func6, Try.ntmps6
  go_wp2_with (first | (go_at_call 9; refine (c1 _).mono ?_; rintro e ws ⟨rfl, hbs⟩) | (go_at_call 15; refine (mod_any _ _ (by omega) (by omega) _).mono ?_; rintro e w' ⟨rfl, rfl⟩; rw [HK.out]))
  obtain ⟨C, hC⟩ : ∃ C, C = grownCap ws A.size 0 5 := ⟨_, rfl⟩
  have HT0 := Lib.hid (tb_start A ws C _ ((bytesRow A C).size + 1) (bytesRow_ge A C))
  rw [← hC]
  clear hC hcv
  rw [show (32 : Int) + (k0 : Int) = ((32 + k0 : Nat) : Int) by omega]
  have hkl : ((32 + k0 : Nat) : Int) < 64 := by omega
  generalize 32 + k0 = k at *
  go_loopw [13, 14] (fun t i wr => ∃ m : Nat, m ≤ 32 ∧ (k : Int) + m ≤ 64 ∧ i = .int .i64 m ∧ t = .bool (turnB f m) ∧ TB ws wr (turnG A (turnX f k m)) A.size) (fun _ i _ => 32 - (intOf i).toNat)
  case atStart => exact ⟨0, Nat.zero_le _, by omega, rfl, by rw [turnB_zero], by rw [turnX_zero]; exact HT0.out⟩
  case round =>
    obtain ⟨m, hm, hkm, rfl, rfl, hT⟩ := hrel
    have HT := Lib.hid hT
    clear hT
    have b1 : (k : Int) ≤ 800000 := by omega
    by_cases hgo : m < 32 ∧ (k : Int) + m < 64
    · obtain ⟨l1, l2⟩ := hgo
      have l3 : (m : Int) < 32 := by omega
      by_cases hbit : f / 2 ^ m % 2 = 1
      · have hb : (bits .and .u32 ((f : Int) / 2 ^ m) 1 == 1) = true := by rw [bit_val f m hf, hbit]; rfl
        have HST := Lib.hid (turn_step A f k m hbit)
        have HTB := Lib.hid (turnB_one f m hbit)
        have HRE := Lib.hid (turn_rest A f k m hbit)
        clear hbit
        have hz := (HT.out.1 ((k + m) / 8) (by omega)).1
        have hfz := (HT.out.1 ((k + m) / 8) (by omega)).2
        go_wp2_with fail
        rw [HST.out]
        go_roundw
        case rel => exact ⟨m + 1, by omega, by omega, by go_num, by rw [HTB.out], HT.out.set (turnG A (turnX f k (m + 1))) ((k + m) / 8) (by omega) HRE.out⟩
        case measure => simp [intOf]; omega
      · have hb : (bits .and .u32 ((f : Int) / 2 ^ m) 1 == 1) = false := by rw [bit_val f m hf, show f / 2 ^ m % 2 = 0 by omega]; rfl
        have HTB := Lib.hid (turnB_nought f m (by omega))
        have HTX := Lib.hid (turnX_nought f k m (by omega))
        clear hbit
        go_wp2_with fail
        go_roundw
        case rel => exact ⟨m + 1, by omega, by omega, by go_num, by rw [HTB.out], by rw [HTX.out]; exact HT.out⟩
        case measure => simp [intOf]; omega
    · have hcv := tb_string HT.out C
      have hE := HE.out m hm (by omega) (by omega)
      have hsx : (strOfNums ((List.range A.size).map fun j => ((turnG A (turnX f k m) j : Nat) : Int))).size ≤ 1099511627776 := by
        rw [strOfNums_size, List.length_map, List.length_range]
        omega
      generalize strOfNums ((List.range A.size).map fun j => ((turnG A (turnX f k m) j : Nat) : Int)) = T at hcv hE hsx
      have cT := fun w => open_any T hsx w
      rw [hE] at cT
      obtain ⟨q1, q2⟩ := turn_code f m
      clear hE
      generalize (if f % 2 ^ m = 0 then (0 : Int) else 12) = x at cT q1 q2
      generalize (openR T).1 = tx at cT
      have HB0 := HT.out.2
      clear hsx
      by_cases l3 : (m : Int) < 32
      · have l4 : ¬ (k : Int) + m < 64 := fun c => hgo ⟨by omega, c⟩
        clear hgo
        go_wp2_with (first | (go_at_call 11; refine (cT _).mono ?_; rintro e w2 ⟨rfl, hb2⟩) | (go_at_call 8; refine (wakes_any _).mono ?_; rintro e w3 ⟨rfl, hb3⟩))
        go_ret
        have hb1 := hbs.trans (HB0.mono hbs.size)
        have hb4 := hb1.trans (hb2.mono hb1.size)
        exact ⟨rfl, hb4.trans (hb3.mono hb4.size)⟩
      · clear hgo
        go_wp2_with (first | (go_at_call 11; refine (cT _).mono ?_; rintro e w2 ⟨rfl, hb2⟩) | (go_at_call 8; refine (wakes_any _).mono ?_; rintro e w3 ⟨rfl, hb3⟩))
        go_ret
        have hb1 := hbs.trans (HB0.mono hbs.size)
        have hb4 := hb1.trans (hb2.mono hb1.size)
        exact ⟨rfl, hb4.trans (hb3.mono hb4.size)⟩
set_option maxHeartbeats 2000000 in
theorem ft_none (s : ByteArray) (at0 : Int) (f : Nat) (hs : s.size ≤ 20000) (hf0 : 0 < f) (hf : f < 4294967296) (ha : 0 ≤ at0) (h0 : s.size = 0) (w : World) :
    Calls Try.prog 6 #[.string s, .int .i64 at0, .int .u32 f] w fun e w' => e = .returned (.bool true) ∧ Below w.heap.size w w' := by
  have c1 := fun w => seal_in s (by omega) w
  have z0 : (frR s).size = 8 + s.size := frR_size s
  have z1 : (((frR s).size : Int) != 8 + (s.size : Int)) = false := by rw [z0, bne_eq_false_iff_eq]; rfl
  have z2 : (8 : Int) ≤ ((frR s).size : Int) := by omega
  have z3 : ((frR s).size : Int) ≤ 20008 := by omega
  have z5 : (s.size : Int) ≤ 0 := by omega
  clear h0
  obtain ⟨k0, hk⟩ : ∃ k : Nat, at0 % (32) = k := Int.eq_ofNat_of_zero_le (Int.emod_nonneg _ (by omega))
  have hks : (k0 : Int) < 32 := by have := Int.emod_lt_of_pos at0 (show (0 : Int) < 32 by omega); omega
  have HE := Lib.hid (show ∀ m : Nat, m ≤ 32 → 32 + k0 + m ≤ 64 → ¬ (m < 32 ∧ 32 + k0 + m < 64) → (openR (strOfNums ((List.range (frR s).size).map fun j => ((turnG (frR s) (turnX f (32 + k0) m) j : Nat) : Int)))).2 = if f % 2 ^ m = 0 then 0 else 12 from fun m h1 h2 h3 => frX_sum s f (32 + k0) m (by omega) (by omega) (by omega))
  have HK := Lib.hid hk
  have g1 : (s.size : Int) ≤ 20000 := by omega
  have g3 : ((f : Int) == 0) = false := beq_eq_false_iff_ne.2 (by omega)
  have g4 : (f : Int) ≤ 4294967295 := by omega
  clear hk hs z0
  generalize frR s = A at *
  have hcv := fun w => run_bytes_of_string (P := Try.prog) w 9 37 5 A Try.underlying9 Try.underlying37 Try.underlying5
  go_enter Try.func6, Try.ntmps6
  go_wp2_with (first | (go_at_call 9; refine (c1 _).mono ?_; rintro e ws ⟨rfl, hbs⟩) | (go_at_call 15; refine (mod_any _ _ (by omega) (by omega) _).mono ?_; rintro e w' ⟨rfl, rfl⟩; rw [HK.out]))
  obtain ⟨C, hC⟩ : ∃ C, C = grownCap ws A.size 0 5 := ⟨_, rfl⟩
  have HT0 := Lib.hid (tb_start A ws C _ ((bytesRow A C).size + 1) (bytesRow_ge A C))
  rw [← hC]
  clear hC hcv
  rw [show (32 : Int) + (k0 : Int) = ((32 + k0 : Nat) : Int) by omega]
  have hkl : ((32 + k0 : Nat) : Int) < 64 := by omega
  generalize 32 + k0 = k at *
  go_loopw [13, 14] (fun t i wr => ∃ m : Nat, m ≤ 32 ∧ (k : Int) + m ≤ 64 ∧ i = .int .i64 m ∧ t = .bool (turnB f m) ∧ TB ws wr (turnG A (turnX f k m)) A.size) (fun _ i _ => 32 - (intOf i).toNat)
  case atStart => exact ⟨0, Nat.zero_le _, by omega, rfl, by rw [turnB_zero], by rw [turnX_zero]; exact HT0.out⟩
  case round =>
    obtain ⟨m, hm, hkm, rfl, rfl, hT⟩ := hrel
    have HT := Lib.hid hT
    clear hT
    have b1 : (k : Int) ≤ 800000 := by omega
    by_cases hgo : m < 32 ∧ (k : Int) + m < 64
    · obtain ⟨l1, l2⟩ := hgo
      have l3 : (m : Int) < 32 := by omega
      by_cases hbit : f / 2 ^ m % 2 = 1
      · have hb : (bits .and .u32 ((f : Int) / 2 ^ m) 1 == 1) = true := by rw [bit_val f m hf, hbit]; rfl
        have HST := Lib.hid (turn_step A f k m hbit)
        have HTB := Lib.hid (turnB_one f m hbit)
        have HRE := Lib.hid (turn_rest A f k m hbit)
        clear hbit
        have hz := (HT.out.1 ((k + m) / 8) (by omega)).1
        have hfz := (HT.out.1 ((k + m) / 8) (by omega)).2
        go_wp2_with fail
        rw [HST.out]
        go_roundw
        case rel => exact ⟨m + 1, by omega, by omega, by go_num, by rw [HTB.out], HT.out.set (turnG A (turnX f k (m + 1))) ((k + m) / 8) (by omega) HRE.out⟩
        case measure => simp [intOf]; omega
      · have hb : (bits .and .u32 ((f : Int) / 2 ^ m) 1 == 1) = false := by rw [bit_val f m hf, show f / 2 ^ m % 2 = 0 by omega]; rfl
        have HTB := Lib.hid (turnB_nought f m (by omega))
        have HTX := Lib.hid (turnX_nought f k m (by omega))
        clear hbit
        go_wp2_with fail
        go_roundw
        case rel => exact ⟨m + 1, by omega, by omega, by go_num, by rw [HTB.out], by rw [HTX.out]; exact HT.out⟩
        case measure => simp [intOf]; omega
    · have hcv := tb_string HT.out C
      have hE := HE.out m hm (by omega) (by omega)
      have hsx : (strOfNums ((List.range A.size).map fun j => ((turnG A (turnX f k m) j : Nat) : Int))).size ≤ 1099511627776 := by
        rw [strOfNums_size, List.length_map, List.length_range]
        omega
      generalize strOfNums ((List.range A.size).map fun j => ((turnG A (turnX f k m) j : Nat) : Int)) = T at hcv hE hsx
      have cT := fun w => open_any T hsx w
      rw [hE] at cT
      obtain ⟨q1, q2⟩ := turn_code f m
      clear hE
      generalize (if f % 2 ^ m = 0 then (0 : Int) else 12) = x at cT q1 q2
      generalize (openR T).1 = tx at cT
      have HB0 := HT.out.2
      clear hsx
      by_cases l3 : (m : Int) < 32
      · have l4 : ¬ (k : Int) + m < 64 := fun c => hgo ⟨by omega, c⟩
        clear hgo
        go_wp2_with (first | (go_at_call 11; refine (cT _).mono ?_; rintro e w2 ⟨rfl, hb2⟩) | (go_at_call 8; refine (wakes_any _).mono ?_; rintro e w3 ⟨rfl, hb3⟩))
        go_ret
        have hb1 := hbs.trans (HB0.mono hbs.size)
        have hb4 := hb1.trans (hb2.mono hb1.size)
        exact ⟨rfl, hb4.trans (hb3.mono hb4.size)⟩
      · clear hgo
        go_wp2_with (first | (go_at_call 11; refine (cT _).mono ?_; rintro e w2 ⟨rfl, hb2⟩) | (go_at_call 8; refine (wakes_any _).mono ?_; rintro e w3 ⟨rfl, hb3⟩))
        go_ret
        have hb1 := hbs.trans (HB0.mono hbs.size)
        have hb4 := hb1.trans (hb2.mono hb1.size)
        exact ⟨rfl, hb4.trans (hb3.mono hb4.size)⟩
theorem frameTurned_walk (a0 : ByteArray) (a1 a2 : Int) (w0 : a0.size ≤ maxLen) (w1 : (Lit.int .i64 a1).wf = true) (w2 : (Lit.int .u32 a2).wf = true) (w : World) :
    Calls Try.prog 6 #[.string a0, .int .i64 a1, .int .u32 a2] w fun e w' => e = .returned (.bool true) ∧ Below w.heap.size w w' := by
  have hf : U32 a2 := U32.of_wf w2
  obtain ⟨f, rfl⟩ := Int.eq_ofNat_of_zero_le hf.1
  have hf1 : f < 4294967296 := by have := hf.2; omega
  clear w1 w2 hf w0
  by_cases g1 : (a0.size : Int) ≤ 20000
  · by_cases g4 : f = 0
    · have g5 : ((f : Int) == 0) = true := beq_iff_eq.2 (by omega)
      clear g4
      go_enter Try.func6, Try.ntmps6
      go_wp2_with (go_at_call 8; refine (wakes_any _).mono ?_; rintro e w1 ⟨rfl, hb1⟩)
      go_ret
      exact ⟨rfl, hb1⟩
    · by_cases g2 : 0 ≤ a1
      · by_cases g3 : a0.size = 0
        · exact ft_none a0 a1 f (by omega) (by omega) hf1 g2 g3 w
        · exact ft_text a0 a1 f (by omega) (by omega) hf1 g2 (by omega) w
      · exact ft_sum a0 a1 f (by omega) (by omega) hf1 (by omega) w
  · go_enter Try.func6, Try.ntmps6
    go_wp2_with (go_at_call 8; refine (wakes_any _).mono ?_; rintro e w1 ⟨rfl, hb1⟩)
    go_ret
    exact ⟨rfl, hb1⟩

set_option maxRecDepth 100000 in
theorem frameTurned_lifted (os : Os) (started : os.Started) (H : Type) (enc : TypeId × Value → H) :
    ReturnsInHanded {} Try.checked os 6 .any (Rows.frameTurnedSpec.pre6 enc Try.prog Try.f6 Rows.frameTurnedRow.domain false) (Rows.frameTurnedSpec.post enc Try.prog Try.f6 false true false false) := by
  refine returnsInHanded_of_change (C := Try.checked) own started (by kernel_rfl) Try.func6
    (ChangeSpec.witness6 (enc := enc) (C := Try.checked) false ⟨#[], #[.string ByteArray.empty, .int .i64 0, .int .u32 0], []⟩ 8 (by kernel_rfl) (by kernel_rfl) (by kernel_rfl) (by kernel_rfl)) ?_
  intro W base args ds gs before hval0 hW hcnd _
  have hval : ∀ (j : Nat) t v, Try.f6.params[j]? = some t → args[j]? = some v → Value.okWide Try.prog W .any base t v := hval0
  have hW' := hW
  obtain ⟨p, q, hA0, hV, rfl, hfz, hnd⟩ := hW
  have hA : DataW.TrodAll enc Try.prog W 0 (fun _ => true) true Try.f6.params.toList args.toList ds p := hA0
  rw [Try.params6] at hA hval
  obtain ⟨v0, vs0, d0, ds0, p0, q0, hargs, rfl, rfl, h0, r0⟩ := trodAll_cons hA
  obtain ⟨v1, vs1, d1, ds1, p1, q1, rfl, rfl, rfl, h1, r1⟩ := trodAll_cons r0
  obtain ⟨v2, vs2, d2, ds2, p2, q2, rfl, rfl, rfl, h2, r2⟩ := trodAll_cons r1
  obtain ⟨rfl, rfl, rfl⟩ := trodAll_nil r2
  obtain rfl : args = #[v0, v1, v2] := by cases args; simp_all
  obtain ⟨rfl, rfl⟩ := trodVars_none hV
  have k0 := h0
  have lt0 : ∀ x ∈ p0, x.block < W.heap.size := by obtain ⟨m, hm⟩ := k0; exact DataW.trod_lt m _ _ _ hm
  have k1 := h1
  have lt1 : ∀ x ∈ p1, x.block < W.heap.size := by obtain ⟨m, hm⟩ := k1; exact DataW.trod_lt m _ _ _ hm
  have k2 := h2
  have lt2 : ∀ x ∈ p2, x.block < W.heap.size := by obtain ⟨m, hm⟩ := k2; exact DataW.trod_lt m _ _ _ hm
  obtain ⟨a0, rfl, rfl, rfl, w0⟩ := open_string Try.underlying9 (hval 0 9 v0 rfl rfl) h0
  obtain ⟨a1, rfl, rfl, rfl, w1⟩ := open_int Try.underlying3 (hval 1 3 v1 rfl rfl) h1
  obtain ⟨a2, rfl, rfl, rfl, w2⟩ := open_int Try.underlying36 (hval 2 36 v2 rfl rfl) h2
  clear hA0 hval0
  refine (frameTurned_walk a0 a1 a2 w0 w1 w2 W).mono fun e W' ⟨he, bel⟩ => ?_
  subst he
  exact ⟨_, rfl, _, _, _, [], _, [], hW', trodAll_mk1 (shut_bool Try.underlying4 _), (trodAll_cons_mk (Below.trod laidOut (by kernel_rfl) (of_decide_eq_true (by kernel_rfl)) k0 bel lt0) (trodAll_cons_mk (Below.trod laidOut (by kernel_rfl) (of_decide_eq_true (by kernel_rfl)) k1 bel lt1) (trodAll_cons_mk (Below.trod laidOut (by kernel_rfl) (of_decide_eq_true (by kernel_rfl)) k2 bel lt2) trodAll_mk0))), rfl, bel.frame _, fun h => by cases h⟩

theorem frameTurned_over : Rows.frameTurnedRow.holds Try.pinned (OpenSpec.ofChange Rows.frameTurnedSpec) :=
  OpenClaim.holds_of_wide 6 Try.f6 rfl rfl rfl rfl rfl rfl rfl ⟨rfl, rfl, rfl, rfl, rfl⟩ rfl rfl rfl rfl rfl (by kernel_rfl) Try.func6 (by kernel_rfl)
    (of_decide_eq_true (by kernel_rfl)) (by unfold Func.isWrapper; first | (rw [if_pos (by decide +kernel)]; kernel_rfl) | (rw [if_neg (by decide +kernel)]; exact ⟨rfl, rfl⟩))
    (fun os started H enc _ => frameTurned_lifted os started H enc)

/-- THE STATEMENT -/
theorem frameTurned_holds : Rows.FrameTurnedSaid := frameTurned_over
end Go.Proofs.Ytbfalmbmalmfoaa
