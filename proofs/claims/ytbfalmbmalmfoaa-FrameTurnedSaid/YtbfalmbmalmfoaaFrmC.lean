/- What Next and Open return, of frame. Conditions: the text is no longer than 2^40 bytes. -/
import Derived.Test.YtbfalmbmalmfoaaFrmB
import Derived.Test.YtbfalmbmalmfoaaClone
namespace Go.Proofs.Ytbfalmbmalmfoaa
open Go.RowKit

def lenV (f : ByteArray) : Int := getI (cutL f 0 4)
def sumV (f : ByteArray) : Int := getI (cutL f 4 4)
theorem get4_lt (f : ByteArray) (a : Nat) (h : a + 4 ≤ f.size) : 0 ≤ getI (cutL f a 4) ∧ getI (cutL f a 4) < 4294967296 := by
  obtain ⟨h0, h1⟩ := getI_bound (cutL f a 4)
  rw [cutL_length f a 4 h] at h1
  exact ⟨h0, h1⟩
/-- the text that a frame is ahead of -/
def bodyR (f : ByteArray) : ByteArray := f.extract 8 (8 + (lenV f).toNat)
def headR (f : ByteArray) : ByteArray := f.extract 0 4
/-- what Next tells: the text, the size, the error -/
def nextR (f : ByteArray) : ByteArray × Int × Int :=
  if f.size < 8 then (⟨#[]⟩, 0, 10) else if 65536 < lenV f then (⟨#[]⟩, 0, 2) else if (f.size : Int) < 8 + lenV f then (⟨#[]⟩, 0, 10)
  else if sumV f = (sumR (headR f ++ bodyR f) : Nat) then (bodyR f, 8 + lenV f, 0) else (⟨#[]⟩, 0, 12)
theorem nextR_short (f : ByteArray) (h : f.size < 8) : nextR f = (⟨#[]⟩, 0, 10) := if_pos h
theorem nextR_long (f : ByteArray) (h : 8 ≤ f.size) (h1 : 65536 < lenV f) : nextR f = (⟨#[]⟩, 0, 2) := by
  unfold nextR
  rw [if_neg (by omega), if_pos h1]
theorem nextR_cut (f : ByteArray) (h : 8 ≤ f.size) (h1 : lenV f ≤ 65536) (h2 : (f.size : Int) < 8 + lenV f) : nextR f = (⟨#[]⟩, 0, 10) := by
  unfold nextR
  rw [if_neg (by omega), if_neg (by omega), if_pos h2]
theorem nextR_is (f : ByteArray) (h : 8 ≤ f.size) (h1 : lenV f ≤ 65536) (h2 : 8 + lenV f ≤ (f.size : Int)) (h3 : sumV f = (sumR (headR f ++ bodyR f) : Nat)) : nextR f = (bodyR f, 8 + lenV f, 0) := by
  unfold nextR
  rw [if_neg (by omega), if_neg (by omega), if_neg (by omega), if_pos h3]
theorem nextR_sum (f : ByteArray) (h : 8 ≤ f.size) (h1 : lenV f ≤ 65536) (h2 : 8 + lenV f ≤ (f.size : Int)) (h3 : sumV f ≠ (sumR (headR f ++ bodyR f) : Nat)) : nextR f = (⟨#[]⟩, 0, 12) := by
  unfold nextR
  rw [if_neg (by omega), if_neg (by omega), if_neg (by omega), if_neg h3]
theorem getLen (f : ByteArray) (hs : f.size ≤ maxLen) (h : 8 ≤ f.size) (w : World) :
    Calls Try.prog 21 #[.string f, .int .i64 0, .int .i64 4] w fun e w' => e = .returned (.tuple #[.int .u64 (lenV f), .bool true]) ∧ w = w' := get_in f 0 4 hs (by omega) (by omega) w
theorem getSum (f : ByteArray) (hs : f.size ≤ maxLen) (h : 8 ≤ f.size) (w : World) :
    Calls Try.prog 21 #[.string f, .int .i64 4, .int .i64 4] w fun e w' => e = .returned (.tuple #[.int .u64 (sumV f), .bool true]) ∧ w = w' := get_in f 4 4 hs (by omega) (by omega) w
theorem refGetLen (f : ByteArray) (hs : f.size ≤ maxLen) (h : 8 ≤ f.size) (w : World) :
    Calls Try.prog 23 #[.string f, .int .i64 0, .int .i64 4] w fun e w' => e = .returned (.tuple #[.int .u64 (lenV f), .bool true]) ∧ w = w' := refGet_in f 0 4 hs (by omega) (by omega) w
theorem refGetSum (f : ByteArray) (hs : f.size ≤ maxLen) (h : 8 ≤ f.size) (w : World) :
    Calls Try.prog 23 #[.string f, .int .i64 4, .int .i64 4] w fun e w' => e = .returned (.tuple #[.int .u64 (sumV f), .bool true]) ∧ w = w' := refGet_in f 4 4 hs (by omega) (by omega) w

theorem next_short (f : ByteArray) (h : f.size < 8) (w : World) :
    Calls Try.prog 13 #[.string f] w fun e w' => e = .returned (.tuple #[.string ⟨#[]⟩, .int .i64 0, .int .i64 10]) ∧ w = w' := by
  have h1 : (f.size : Int) < 8 := by omega
  clear h
  go_enter Try.func13, Try.ntmps13
  go_wp2_with fail
  go_ret3
  exact ⟨rfl, rfl⟩
theorem next_long (f : ByteArray) (hs : f.size ≤ maxLen) (h : 8 ≤ f.size) (hl : 65536 < lenV f) (w : World) :
    Calls Try.prog 13 #[.string f] w fun e w' => e = .returned (.tuple #[.string ⟨#[]⟩, .int .i64 0, .int .i64 2]) ∧ w = w' := by
  have c := fun w => getLen f hs h w
  have h1 : (8 : Int) ≤ (f.size : Int) := by omega
  generalize lenV f = n at *
  clear h hs
  go_enter Try.func13, Try.ntmps13
  go_wp2_with (go_at_call 21; refine (c _).mono ?_; rintro e w' ⟨rfl, rfl⟩)
  go_ret3
  exact ⟨rfl, rfl⟩
theorem next_cut (f : ByteArray) (hs : f.size ≤ maxLen) (h : 8 ≤ f.size) (hl : lenV f ≤ 65536) (hc : (f.size : Int) < 8 + lenV f) (w : World) :
    Calls Try.prog 13 #[.string f] w fun e w' => e = .returned (.tuple #[.string ⟨#[]⟩, .int .i64 0, .int .i64 10]) ∧ w = w' := by
  have c := fun w => getLen f hs h w
  have h0 := (get4_lt f 0 (by omega)).1
  have h1 : (8 : Int) ≤ (f.size : Int) := by omega
  change 0 ≤ lenV f at h0
  generalize lenV f = n at *
  clear h hs
  go_enter Try.func13, Try.ntmps13
  go_wp2_with (go_at_call 21; refine (c _).mono ?_; rintro e w' ⟨rfl, rfl⟩)
  go_ret3
  exact ⟨rfl, rfl⟩
set_option maxHeartbeats 1000000 in
theorem next_in (f : ByteArray) (hs : f.size ≤ 1099511627776) (h : 8 ≤ f.size) (hl : lenV f ≤ 65536) (hc : 8 + lenV f ≤ (f.size : Int)) (w : World) :
    Calls Try.prog 13 #[.string f] w fun e w' => e = .returned (.tuple #[.string (nextR f).1, .int .i64 (nextR f).2.1, .int .i64 (nextR f).2.2]) ∧ Below w.heap.size w w' := by
  have hm : f.size ≤ maxLen := by unfold maxLen; omega
  have c := fun w => getLen f hm h w
  have c' := fun w => getSum f hm h w
  have h0 := (get4_lt f 0 (by omega)).1
  have h1 : (8 : Int) ≤ (f.size : Int) := by omega
  have h2 := get4_lt f 4 (by omega)
  have H4 := nextR_is f h hl hc
  have H5 := nextR_sum f h hl hc
  unfold headR bodyR at H4 H5
  change 0 ≤ lenV f at h0
  change 0 ≤ sumV f ∧ sumV f < 4294967296 at h2
  obtain ⟨h2, h3⟩ := h2
  generalize lenV f = n at *
  generalize sumV f = x at *
  obtain ⟨n, rfl⟩ := Int.eq_ofNat_of_zero_le h0
  rw [Int.toNat_natCast] at H4 H5
  have lb : (f.extract 8 (8 + n)).size ≤ 1099511627776 := by rw [ByteArray.size_extract]; omega
  have L1 := Lib.hid (show (f.extract 0 4).size ≤ maxLen by rw [ByteArray.size_extract]; unfold maxLen; omega)
  have L2 := Lib.hid (show (f.extract 8 (8 + n)).size ≤ maxLen by unfold maxLen; omega)
  have LB := Lib.hid lb
  clear lb h hm hs
  by_cases he : x = (sumR (f.extract 0 4 ++ f.extract 8 (8 + n)) : Nat)
  · have H := Lib.hid (H4 he)
    have hd : (x != ((sumR (f.extract 0 4 ++ f.extract 8 (8 + n)) : Nat) : Int)) = false := bne_eq_false_iff_eq.2 he
    clear H4 H5 he
    go_enter Try.func13, Try.ntmps13
    go_wp2_with (first | (go_at_call 21; (with_reducible refine (c _).mono ?_); rintro e w' ⟨rfl, rfl⟩) | (go_at_call 21; (with_reducible refine (c' _).mono ?_); rintro e w' ⟨rfl, rfl⟩) | (go_at_call 17; refine (sumOf_made _ _ _ L1.out L2.out).mono ?_; rintro e w2 ⟨rfl, rfl⟩) | (go_at_call 22; refine (clone_any _ _ LB.out).mono ?_; rintro e w3 ⟨rfl, hb3⟩))
    go_ret3
    rw [H.out]
    exact ⟨rfl, ((Below.refl _ _).alloc (Nat.le_refl _) _).trans (hb3.mono (by simp))⟩
  · have H := Lib.hid (H5 he)
    have hd : (x != ((sumR (f.extract 0 4 ++ f.extract 8 (8 + n)) : Nat) : Int)) = true := bne_iff_ne.2 he
    clear H4 H5 he
    go_enter Try.func13, Try.ntmps13
    go_wp2_with (first | (go_at_call 21; (with_reducible refine (c _).mono ?_); rintro e w' ⟨rfl, rfl⟩) | (go_at_call 21; (with_reducible refine (c' _).mono ?_); rintro e w' ⟨rfl, rfl⟩) | (go_at_call 17; refine (sumOf_made _ _ _ L1.out L2.out).mono ?_; rintro e w2 ⟨rfl, rfl⟩))
    go_ret3
    rw [H.out]
    exact ⟨rfl, (Below.refl _ _).alloc (Nat.le_refl _) _⟩
theorem next_any (f : ByteArray) (hs : f.size ≤ 1099511627776) (w : World) :
    Calls Try.prog 13 #[.string f] w fun e w' => e = .returned (.tuple #[.string (nextR f).1, .int .i64 (nextR f).2.1, .int .i64 (nextR f).2.2]) ∧ Below w.heap.size w w' := by
  have hm : f.size ≤ maxLen := by unfold maxLen; omega
  by_cases h : f.size < 8
  · rw [nextR_short f h]
    exact (next_short f h w).mono fun _ _ ⟨he, hw⟩ => ⟨he, hw ▸ Below.refl _ _⟩
  · by_cases h1 : 65536 < lenV f
    · rw [nextR_long f (by omega) h1]
      exact (next_long f hm (by omega) h1 w).mono fun _ _ ⟨he, hw⟩ => ⟨he, hw ▸ Below.refl _ _⟩
    · by_cases h2 : (f.size : Int) < 8 + lenV f
      · rw [nextR_cut f (by omega) (by omega) h2]
        exact (next_cut f hm (by omega) (by omega) h2 w).mono fun _ _ ⟨he, hw⟩ => ⟨he, hw ▸ Below.refl _ _⟩
      · exact next_in f hs (by omega) (by omega) (by omega) w
/-- what Open tells: the text, the error -/
def openR (f : ByteArray) : ByteArray × Int :=
  if (nextR f).2.2 ≠ 0 then (⟨#[]⟩, (nextR f).2.2) else if (nextR f).2.1 < (f.size : Int) then (⟨#[]⟩, 11) else ((nextR f).1, 0)
theorem nextR_le (f : ByteArray) : 0 ≤ (nextR f).2.1 ∧ (nextR f).2.1 ≤ (f.size : Int) := by
  unfold nextR
  split
  · exact ⟨Int.le_refl _, by simp⟩
  · next h =>
    have := (get4_lt f 0 (by omega)).1
    change 0 ≤ lenV f at this
    repeat' split
    all_goals (constructor <;> simp <;> omega)
theorem open_any (f : ByteArray) (hs : f.size ≤ 1099511627776) (w : World) :
    Calls Try.prog 11 #[.string f] w fun e w' => e = .returned (.tuple #[.string (openR f).1, .int .i64 (openR f).2]) ∧ Below w.heap.size w w' := by
  have c := next_any f hs w
  obtain ⟨b0, b1⟩ := nextR_le f
  have b2 : (f.size : Int) ≤ 1099511627776 := by omega
  have HO := Lib.hid (show openR f = if (nextR f).2.2 ≠ 0 then (⟨#[]⟩, (nextR f).2.2) else if (nextR f).2.1 < (f.size : Int) then (⟨#[]⟩, 11) else ((nextR f).1, 0) from rfl)
  generalize nextR f = r at *
  obtain ⟨t, n, x⟩ := r
  simp only at b0 b1 c HO
  generalize openR f = o at *
  by_cases hx : x = 0
  · subst hx
    by_cases hn : n < (f.size : Int)
    · obtain rfl := HO.out.trans ((if_neg (by simp)).trans (if_pos hn))
      clear HO hs
      go_enter Try.func11, Try.ntmps11
      go_wp2_with (go_at_call 13; refine c.mono ?_; rintro e w1 ⟨rfl, hb1⟩)
      go_ret2
      exact ⟨rfl, hb1⟩
    · obtain rfl := HO.out.trans ((if_neg (by simp)).trans (if_neg hn))
      have hn' : (f.size : Int) ≤ n := by omega
      clear HO hs hn
      go_enter Try.func11, Try.ntmps11
      go_wp2_with (go_at_call 13; refine c.mono ?_; rintro e w1 ⟨rfl, hb1⟩)
      go_ret2
      exact ⟨rfl, hb1⟩
  · obtain rfl := HO.out.trans (if_pos hx)
    have hd : (x != 0) = true := bne_iff_ne.2 hx
    clear HO hs hx
    go_enter Try.func11, Try.ntmps11
    go_wp2_with (go_at_call 13; refine c.mono ?_; rintro e w1 ⟨rfl, hb1⟩)
    go_ret2
    exact ⟨rfl, hb1⟩
end Go.Proofs.Ytbfalmbmalmfoaa
