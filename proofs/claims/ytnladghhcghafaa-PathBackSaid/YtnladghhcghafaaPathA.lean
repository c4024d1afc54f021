/- What Name returns, of path and of the document's own answer: whether a text is a name. Conditions: none but that a text is no longer than any may be. -/
import Derived.Test.YtnladghhcghafaaPathM
namespace Go.Proofs.Ytnladghhcghafaa
open Go.RowKit

theorem nameC_yes1 {c : UInt8} (h1 : 97 ≤ c.toNat) (h2 : c.toNat ≤ 122) : nameC c = true := by simp [nameC, h1, h2]
theorem nameC_yes2 {c : UInt8} (h1 : 48 ≤ c.toNat) (h2 : c.toNat ≤ 57) : nameC c = true := by simp [nameC, h1, h2]
theorem nameC_yes3 {c : UInt8} (h1 : c.toNat = 95) : nameC c = true := by simp [nameC, h1]
theorem nameC_no {c : UInt8} (h1 : ¬ (97 ≤ c.toNat ∧ c.toNat ≤ 122)) (h2 : ¬ (48 ≤ c.toNat ∧ c.toNat ≤ 57)) (h3 : c.toNat ≠ 95) : nameC c = false := by
  simp only [nameC, Bool.or_eq_false_iff, Bool.and_eq_false_iff, decide_eq_false_iff_not]
  omega
theorem inName_any (c : UInt8) (w : World) :
    Calls Try.prog 24 #[.int .u8 (c.toNat : Int)] w fun e w' => e = .returned (.bool (nameC c)) ∧ w = w' := by
  have hn := c.toNat_lt
  have y1 := @nameC_yes1 c
  have y2 := @nameC_yes2 c
  have y3 := @nameC_yes3 c
  have y4 := @nameC_no c
  generalize nameC c = B at *
  generalize c.toNat = n at *
  by_cases a1 : n < 48
  · obtain rfl := y4 (by omega) (by omega) (by omega)
    have d := beq_eq_false_iff_ne.2 (show (n : Int) ≠ 95 by omega)
    have b1 : (n : Int) < 48 := by omega
    clear y1 y2 y3 y4 a1 hn
    go_enter Try.func24, Try.ntmps24
    go_wp2
    go_ret
    exact ⟨rfl, rfl⟩
  by_cases a2 : n ≤ 57
  · obtain rfl := y2 (by omega) (by omega)
    have b1 : (48 : Int) ≤ (n : Int) := by omega
    have b2 : (n : Int) ≤ 57 := by omega
    clear y1 y2 y3 y4 a1 a2 hn
    go_enter Try.func24, Try.ntmps24
    go_wp2
    go_ret
    exact ⟨rfl, rfl⟩
  by_cases a3 : n = 95
  · obtain rfl := y3 a3
    subst a3
    clear y1 y2 y3 y4 a1 a2 hn
    go_enter Try.func24, Try.ntmps24
    go_wp2
    go_ret
    exact ⟨rfl, rfl⟩
  have d := beq_eq_false_iff_ne.2 (show (n : Int) ≠ 95 by omega)
  by_cases a4 : n < 97
  · obtain rfl := y4 (by omega) (by omega) (by omega)
    have b1 : decide ((n : Int) ≤ 57) = false := decide_eq_false (by omega)
    have b2 : (n : Int) < 97 := by omega
    have b3 : (48 : Int) ≤ (n : Int) := by omega
    clear y1 y2 y3 y4 a1 a2 a3 a4 hn
    go_enter Try.func24, Try.ntmps24
    go_wp2
    go_ret
    exact ⟨rfl, rfl⟩
  by_cases a5 : n ≤ 122
  · obtain rfl := y1 (by omega) (by omega)
    have b1 : (97 : Int) ≤ (n : Int) := by omega
    have b2 : (n : Int) ≤ 122 := by omega
    clear y1 y2 y3 y4 a1 a2 a3 a4 a5 hn d
    go_enter Try.func24, Try.ntmps24
    go_wp2
    go_ret
    exact ⟨rfl, rfl⟩
  · obtain rfl := y4 (by omega) (by omega) (by omega)
    have b1 : decide ((n : Int) ≤ 57) = false := decide_eq_false (by omega)
    have b2 : decide ((n : Int) ≤ 122) = false := decide_eq_false (by omega)
    have b3 : (97 : Int) ≤ (n : Int) := by omega
    have b4 : (48 : Int) ≤ (n : Int) := by omega
    clear y1 y2 y3 y4 a1 a2 a3 a4 a5 hn
    go_enter Try.func24, Try.ntmps24
    go_wp2
    go_ret
    exact ⟨rfl, rfl⟩
theorem all_snoc (s : ByteArray) (k : Nat) (h : k < s.size) (ha : ((lof s).take k).all nameC = true) (hc : nameC s[k] = true) : ((lof s).take (k + 1)).all nameC = true := by
  rw [List.take_succ_eq_append_getElem (by rw [← lof_size]; exact h), List.all_append, ha]
  show (nameC s[k] && true) = true
  rw [hc]
  rfl
theorem all_not (s : ByteArray) (k : Nat) (h : k < s.size) (hc : nameC s[k] = false) : nameB s = false := by
  apply Bool.eq_false_iff.2
  intro hb
  have h2 := List.all_eq_true.1 ((nameB_iff s).1 hb).2.2 s[k] (List.mem_of_getElem? (lof_get s k h))
  rw [hc] at h2
  cases h2
theorem name_short {s : ByteArray} (h : s.size < 1) : nameB s = false := by simp [nameB]; omega
theorem name_long {s : ByteArray} (h : 8 < s.size) : nameB s = false := by simp [nameB]; omega
theorem name_yes {s : ByteArray} (h1 : 1 ≤ s.size) (h2 : s.size ≤ 8) (h : ((lof s).take s.size).all nameC = true) : nameB s = true := by
  rw [List.take_of_length_le (by rw [← lof_size]; exact Nat.le_refl _)] at h
  exact (nameB_iff s).2 ⟨h1, h2, h⟩
set_option maxHeartbeats 400000 in
theorem name_any (s : ByteArray) (w : World) :
    Calls Try.prog 12 #[.string s] w fun e w' => e = .returned (.bool (nameB s)) ∧ w = w' := by
  by_cases h1 : s.size < 1
  · have h1' : (s.size : Int) < 1 := by omega
    rw [name_short h1]
    clear h1
    go_enter Try.func12, Try.ntmps12
    go_wp2
    go_ret
    exact ⟨rfl, rfl⟩
  by_cases h2 : 8 < s.size
  · have h2' : 8 < (s.size : Int) := by omega
    rw [name_long h2]
    clear h1 h2
    go_enter Try.func12, Try.ntmps12
    go_wp2
    go_ret
    exact ⟨rfl, rfl⟩
  have h1' : 1 ≤ (s.size : Int) := by omega
  have h2' : (s.size : Int) ≤ 8 := by omega
  have h3 : 1 ≤ s.size := by omega
  have h4 : s.size ≤ 8 := by omega
  clear h1 h2
  go_enter Try.func12, Try.ntmps12
  go_wp2
  go_loop [14] (fun i => ∃ k : Nat, k ≤ s.size ∧ i = .int .i64 k ∧ ((lof s).take k).all nameC = true) (fun i => s.size - (intOf i).toNat)
  case atStart => exact ⟨0, Nat.zero_le _, rfl, rfl⟩
  case round =>
    obtain ⟨k, hk, rfl, ha⟩ := hrel
    have HA := Lib.hid ha
    clear ha
    by_cases hlt : k < s.size
    · have c := fun w => inName_any s[k] w
      have HY := Lib.hid (all_snoc s k hlt HA.out)
      have HN := Lib.hid (all_not s k hlt)
      cases hc : nameC s[k]
      · rw [hc] at c HN
        have HN' := Lib.hid (HN.out rfl)
        clear HN HY hc
        go_wp2_with (go_at_call 24; refine (c _).mono ?_; rintro e w' ⟨rfl, rfl⟩)
        go_ret
        rw [HN'.out]
        exact ⟨rfl, rfl⟩
      · rw [hc] at c HY
        have HY' := Lib.hid (HY.out rfl)
        clear HN HY hc
        go_wp2_with (go_at_call 24; refine (c _).mono ?_; rintro e w' ⟨rfl, rfl⟩)
        go_round
        case rel => exact ⟨k + 1, by omega, by go_num, HY'.out⟩
        case measure => simp [intOf]; omega
    · obtain rfl : k = s.size := by omega
      go_wp2
      go_ret
      rw [name_yes h3 h4 HA.out]
      exact ⟨rfl, rfl⟩
set_option maxHeartbeats 1000000 in
theorem rname_any (s : ByteArray) (w : World) :
    Calls Try.prog 13 #[.string s] w fun e w' => e = .returned (.bool (nameB s)) ∧ w = w' := by
  by_cases h1 : s.size < 1
  · have h1' : (s.size : Int) < 1 := by omega
    rw [name_short h1]
    clear h1
    go_enter Try.func13, Try.ntmps13
    go_wp2
    go_ret
    exact ⟨rfl, rfl⟩
  by_cases h2 : 8 < s.size
  · have h2' : 8 < (s.size : Int) := by omega
    rw [name_long h2]
    clear h1 h2
    go_enter Try.func13, Try.ntmps13
    go_wp2
    go_ret
    exact ⟨rfl, rfl⟩
  have h1' : 1 ≤ (s.size : Int) := by omega
  have h2' : (s.size : Int) ≤ 8 := by omega
  have h3 : 1 ≤ s.size := by omega
  have h4 : s.size ≤ 8 := by omega
  clear h1 h2
  go_enter Try.func13, Try.ntmps13
  go_wp2
  go_loop [3] (fun i => ∃ k : Nat, k ≤ s.size ∧ i = .int .i64 k ∧ ((lof s).take k).all nameC = true) (fun i => s.size - (intOf i).toNat)
  case atStart => exact ⟨0, Nat.zero_le _, rfl, rfl⟩
  case round =>
    obtain ⟨k, hk, rfl, ha⟩ := hrel
    have HA := Lib.hid ha
    clear ha
    by_cases hlt : k < s.size
    · have HY := Lib.hid (all_snoc s k hlt HA.out)
      have HN := Lib.hid (all_not s k hlt)
      have hn := s[k].toNat_lt
      have Y1 := Lib.hid (@nameC_yes1 s[k])
      have Y2 := Lib.hid (@nameC_yes2 s[k])
      have Y3 := Lib.hid (@nameC_yes3 s[k])
      have Y4 := Lib.hid (@nameC_no s[k])
      by_cases a1 : s[k].toNat < 48
      · have HN' := Lib.hid (HN.out (Y4.out (by omega) (by omega) (by omega)))
        have d := beq_eq_false_iff_ne.2 (show (s[k].toNat : Int) ≠ 95 by omega)
        have b1 : (s[k].toNat : Int) < 48 := by omega
        clear HN HY Y1 Y2 Y3 Y4 a1 hn
        go_wp2
        go_ret
        rw [HN'.out]
        exact ⟨rfl, rfl⟩
      by_cases a2 : s[k].toNat ≤ 57
      · have HY' := Lib.hid (HY.out (Y2.out (by omega) (by omega)))
        have b1 : (48 : Int) ≤ (s[k].toNat : Int) := by omega
        have b2 : (s[k].toNat : Int) ≤ 57 := by omega
        clear HN HY Y1 Y2 Y3 Y4 a1 a2 hn
        go_wp2
        go_round
        case rel => exact ⟨k + 1, by omega, by go_num, HY'.out⟩
        case measure => simp [intOf]; omega
      by_cases a3 : s[k].toNat = 95
      · have HY' := Lib.hid (HY.out (Y3.out a3))
        have d := beq_iff_eq.2 (show (s[k].toNat : Int) = 95 by omega)
        have b1 : decide ((s[k].toNat : Int) ≤ 57) = false := decide_eq_false (by omega)
        have b3 : (48 : Int) ≤ (s[k].toNat : Int) := by omega
        have b4 : (s[k].toNat : Int) < 97 := by omega
        clear HN HY Y1 Y2 Y3 Y4 a1 a2 a3 hn
        go_wp2
        go_round
        case rel => exact ⟨k + 1, by omega, by go_num, HY'.out⟩
        case measure => simp [intOf]; omega
      have d := beq_eq_false_iff_ne.2 (show (s[k].toNat : Int) ≠ 95 by omega)
      by_cases a4 : s[k].toNat < 97
      · have HN' := Lib.hid (HN.out (Y4.out (by omega) (by omega) (by omega)))
        have b1 : decide ((s[k].toNat : Int) ≤ 57) = false := decide_eq_false (by omega)
        have b2 : (s[k].toNat : Int) < 97 := by omega
        have b3 : (48 : Int) ≤ (s[k].toNat : Int) := by omega
        clear HN HY Y1 Y2 Y3 Y4 a1 a2 a3 a4 hn
        go_wp2
        go_ret
        rw [HN'.out]
        exact ⟨rfl, rfl⟩
      by_cases a5 : s[k].toNat ≤ 122
      · have HY' := Lib.hid (HY.out (Y1.out (by omega) (by omega)))
        have b1 : (97 : Int) ≤ (s[k].toNat : Int) := by omega
        have b2 : (s[k].toNat : Int) ≤ 122 := by omega
        clear HN HY Y1 Y2 Y3 Y4 a1 a2 a3 a4 a5 hn d
        go_wp2
        go_round
        case rel => exact ⟨k + 1, by omega, by go_num, HY'.out⟩
        case measure => simp [intOf]; omega
      · have HN' := Lib.hid (HN.out (Y4.out (by omega) (by omega) (by omega)))
        have b1 : decide ((s[k].toNat : Int) ≤ 57) = false := decide_eq_false (by omega)
        have b2 : decide ((s[k].toNat : Int) ≤ 122) = false := decide_eq_false (by omega)
        have b3 : (97 : Int) ≤ (s[k].toNat : Int) := by omega
        have b4 : (48 : Int) ≤ (s[k].toNat : Int) := by omega
        clear HN HY Y1 Y2 Y3 Y4 a1 a2 a3 a4 a5 hn
        go_wp2
        go_ret
        rw [HN'.out]
        exact ⟨rfl, rfl⟩
    · obtain rfl : k = s.size := by omega
      go_wp2
      go_ret
      rw [name_yes h3 h4 HA.out]
      exact ⟨rfl, rfl⟩
end Go.Proofs.Ytnladghhcghafaa
