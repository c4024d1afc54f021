/- What Num and Text of the document's own unpacker do, told of what is left of its text. Conditions: its block is as RK says; its text is no longer than 2^40 bytes. -/
import Derived.Test.YtddhdibcchoakaaPackK
namespace Go.Proofs.Ytddhdibcchoakaa
open Go.RowKit

theorem ext_list (s : ByteArray) (a b : Nat) : (s.extract a b).data.toList = (s.data.toList.drop a).take (b - a) := by
  rw [ByteArray.data_extract]
  simp [Array.toList_extract, List.extract]
theorem bytes_ext {s t : ByteArray} (h : s.data.toList = t.data.toList) : s = t := ByteArray.ext (Array.toList_inj.1 h)
theorem ext_ext (s : ByteArray) (a b c : Nat) (hb : b ≤ s.size - a) (hc : c ≤ s.size - a) : (s.extract a s.size).extract b c = s.extract (a + b) (a + c) := by
  apply bytes_ext
  rw [ext_list, ext_list, ext_list, List.drop_take, List.drop_drop, List.take_take]
  congr 1
  omega
theorem cut_left (s : ByteArray) (a k : Nat) (h : a + k ≤ s.size) : cutL (s.extract a s.size) 0 k = cutL s a k := by
  unfold cutL
  rw [ext_list, List.drop_zero, List.take_take]
  congr 1
  omega
theorem left_size (s : ByteArray) (a : Nat) : (s.extract a s.size).size = s.size - a := by
  rw [ByteArray.size_extract]
  omega
theorem ext_all (s : ByteArray) : s.extract 0 s.size = s := by simp

/-- block b is the document's own unpacker of s, and o is what is left -/
def RKo (w : World) (b : Nat) (s : ByteArray) (o : Option ByteArray) : Prop := ∃ a bad, RK w b s a bad ∧ rkO s a bad = o
theorem RKo.keep {T : Nat → Prop} {w w' : World} {b : Nat} {s : ByteArray} {o : Option ByteArray} (h : RKo w b s o) (hk : Kept T w w') (hb : T b) : RKo w' b s o := by
  obtain ⟨a, bad, h1, h2⟩ := h
  exact ⟨a, bad, h1.keep hk hb, h2⟩
theorem rk_spoil {w : World} {b : Nat} {s : ByteArray} {a : Nat} {bad : Bool} (h : RK w b s a bad) (k : Nat) : RKo ((w.drewN k).setCell ⟨b, 2, none⟩ (.bool true)) b s none ∧ Kept (fun k => k ≠ b) w ((w.drewN k).setCell ⟨b, 2, none⟩ (.bool true)) :=
  ⟨⟨a, true, ⟨three_set2 (((Kept.refl (fun _ => True) w).drewN k).heap trivial h.1) _, h.2⟩, rfl⟩, ((Kept.refl _ w).drewN k).setCell (fun h => h rfl) _⟩
theorem rk_move {w : World} {b : Nat} {s : ByteArray} {a a' : Nat} (h : RK w b s a false) (k : Nat) (ha : a' ≤ s.size) : RKo ((w.drewN k).setCell ⟨b, 1, none⟩ (.int .i64 a')) b s (some (s.extract a' s.size)) ∧ Kept (fun k => k ≠ b) w ((w.drewN k).setCell ⟨b, 1, none⟩ (.int .i64 a')) :=
  ⟨⟨a', false, ⟨three_set1 (((Kept.refl (fun _ => True) w).drewN k).heap trivial h.1) _, ha⟩, rfl⟩, ((Kept.refl _ w).drewN k).setCell (fun h => h rfl) _⟩

set_option maxHeartbeats 1000000 in
theorem rNum_in (w : World) (b : Nat) (s : ByteArray) (a n : Nat) (h : RK w b s a false) (hl : s.size ≤ 1099511627776) (hok : okN s a n) :
    Calls Try.prog 22 #[.pointer (some ⟨b, 0, none⟩), .int .i64 n] w fun e w' => e = .returned (.int .i64 (getI (cutL s a n))) ∧ RKo w' b s (some (s.extract (a + n) s.size)) ∧ Kept (fun k => k ≠ b) w w' := by
  obtain ⟨c0, c1, c2, f0, f1, f2⟩ := three_cells h.1
  obtain ⟨hs, hn, hv⟩ := hok
  have n8 : n ≤ 8 := by omega
  have x0 := getI_nonneg (cutL s a n)
  have hr := getR_hit n8 hn
  generalize getI (cutL s a n) = x at *
  have HR := Lib.hid hr
  have HS := Lib.hid (show decide ((n : Int) = 1 ∨ (n : Int) = 2 ∨ (n : Int) = 4 ∨ (n : Int) = 8) = true by simp; omega)
  have hm : s.size ≤ maxLen := by unfold maxLen; omega
  have hv' : ¬ (9223372036854775808 : Int) ≤ x := by omega
  clear hr hs
  go_enter Try.func22, Try.ntmps22
  go_wp2_with fail
  go_quiet ((go_at_call 35; exact quiet_eq (refGet_any s a n hm (by omega) (by omega) _)))
  rw [HR.out]
  go_wp2_with (go_at_call 32; refine (refSize_any n _).mono ?_; rintro e w' ⟨rfl, rfl⟩; rw [HS.out])
  go_ret
  exact ⟨rfl, rk_move (a' := a + n) h nq hn⟩

set_option maxHeartbeats 1000000 in
theorem rNum_out (w : World) (b : Nat) (s : ByteArray) (a : Nat) (bad : Bool) (n : Int) (h : RK w b s a bad) (hl : s.size ≤ 1099511627776) (hi : -9223372036854775808 ≤ n ∧ n ≤ 9223372036854775807) (hno : bad = true ∨ ¬ (0 ≤ n ∧ okN s a n.toNat)) :
    Calls Try.prog 22 #[.pointer (some ⟨b, 0, none⟩), .int .i64 n] w fun e w' => e = .returned (.int .i64 0) ∧ RKo w' b s none ∧ Kept (fun k => k ≠ b) w w' := by
  obtain ⟨c0, c1, c2, f0, f1, f2⟩ := three_cells h.1
  have hm : s.size ≤ maxLen := by unfold maxLen; omega
  cases bad with
  | true =>
    clear hno
    go_enter Try.func22, Try.ntmps22
    go_wp2_with fail
    go_quiet ((go_at_call 35; exact quiet_eq (refGet_any s a n hm (by omega) (by omega) _)))
    go_wp2_with fail
    go_ret
    exact ⟨rfl, rk_spoil h nq⟩
  | false =>
    have hno : ¬ (0 ≤ n ∧ okN s a n.toNat) := by
      rcases hno with h | h
      · cases h
      · exact h
    by_cases hs : n = 1 ∨ n = 2 ∨ n = 4 ∨ n = 8
    · have HS := Lib.hid (show decide (n = 1 ∨ n = 2 ∨ n = 4 ∨ n = 8) = true by simpa using hs)
      obtain ⟨k, rfl⟩ := Int.eq_ofNat_of_zero_le (show 0 ≤ n by omega)
      have k8 : k ≤ 8 := by omega
      have hs' : k = 1 ∨ k = 2 ∨ k = 4 ∨ k = 8 := by omega
      rw [Int.toNat_natCast] at hno
      unfold okN at hno
      by_cases hf : a + k ≤ s.size
      · have hr := getR_hit k8 hf
        have x0 := getI_nonneg (cutL s a k)
        generalize getI (cutL s a k) = x at *
        have hv : 9223372036854775808 ≤ x := by
          rcases Int.lt_or_le x 9223372036854775808 with h | h
          · exact absurd ⟨by omega, hs', hf, h⟩ hno
          · exact h
        have HR := Lib.hid hr
        clear hr hs hs' hno
        go_enter Try.func22, Try.ntmps22
        go_wp2_with fail
        go_quiet ((go_at_call 35; exact quiet_eq (refGet_any s a k hm (by omega) (by omega) _)))
        rw [HR.out]
        go_wp2_with (go_at_call 32; refine (refSize_any k _).mono ?_; rintro e w' ⟨rfl, rfl⟩; rw [HS.out])
        go_ret
        exact ⟨rfl, rk_spoil h nq⟩
      · have HR := Lib.hid (show getR s a k = (0, false) from if_neg (by omega))
        clear hs hs' hno
        go_enter Try.func22, Try.ntmps22
        go_wp2_with fail
        go_quiet ((go_at_call 35; exact quiet_eq (refGet_any s a k hm (by omega) (by omega) _)))
        rw [HR.out]
        go_wp2_with (go_at_call 32; refine (refSize_any k _).mono ?_; rintro e w' ⟨rfl, rfl⟩; rw [HS.out])
        go_ret
        exact ⟨rfl, rk_spoil h nq⟩
    · have HS := Lib.hid (show decide (n = 1 ∨ n = 2 ∨ n = 4 ∨ n = 8) = false by simpa using hs)
      clear hs hno
      go_enter Try.func22, Try.ntmps22
      go_wp2_with fail
      go_quiet ((go_at_call 35; exact quiet_eq (refGet_any s a n hm (by omega) (by omega) _)))
      generalize getR s a n = r
      go_wp2_with (go_at_call 32; refine (refSize_any n _).mono ?_; rintro e w' ⟨rfl, rfl⟩; rw [HS.out])
      go_ret
      exact ⟨rfl, rk_spoil h nq⟩

theorem has_left (s : ByteArray) (a : Nat) (n : Int) (ha : a ≤ s.size) : hasN (ukL (rkO s a false)) n ↔ (0 ≤ n ∧ okN s a n.toNat) := by
  show hasN (s.extract a s.size) n ↔ _
  unfold hasN okN
  rw [left_size]
  by_cases hk : a + n.toNat ≤ s.size
  · rw [cut_left s a n.toNat hk]
    constructor
    · rintro ⟨h0, h1, h2, h3⟩; exact ⟨h0, h1, hk, h3⟩
    · rintro ⟨h0, h1, h2, h3⟩; exact ⟨h0, h1, by omega, h3⟩
  · constructor
    · rintro ⟨h0, h1, h2, h3⟩; omega
    · rintro ⟨h0, h1, h2, h3⟩; omega
theorem rNum_any (w : World) (b : Nat) (s : ByteArray) (o : Option ByteArray) (n : Int) (h : RKo w b s o) (hl : s.size ≤ 1099511627776) (hi : -9223372036854775808 ≤ n ∧ n ≤ 9223372036854775807) :
    Calls Try.prog 22 #[.pointer (some ⟨b, 0, none⟩), .int .i64 n] w fun e w' => e = .returned (.int .i64 (numV o n)) ∧ RKo w' b s (numO o n) ∧ Kept (fun k => k ≠ b) w w' := by
  obtain ⟨a, bad, h, rfl⟩ := h
  cases bad with
  | true =>
    have e1 : ¬ hasN (ukL (rkO s a true)) n := fun hx => by have := hasN_some hx; cases this
    rw [show numV (rkO s a true) n = 0 from if_neg e1, show numO (rkO s a true) n = none from if_neg e1]
    exact rNum_out w b s a true n h hl hi (.inl rfl)
  | false =>
    by_cases hok : 0 ≤ n ∧ okN s a n.toNat
    · have e1 := (has_left s a n h.2).2 hok
      obtain ⟨k, rfl⟩ := Int.eq_ofNat_of_zero_le hok.1
      have hok' := hok.2
      rw [Int.toNat_natCast] at hok'
      rw [show numV (rkO s a false) k = getI (cutL s a k) from by
        rw [show numV (rkO s a false) k = getI (cutL (s.extract a s.size) 0 (k : Int).toNat) from if_pos e1, Int.toNat_natCast, cut_left s a k hok'.2.1]]
      rw [show numO (rkO s a false) k = some (s.extract (a + k) s.size) from by
        rw [show numO (rkO s a false) k = some ((s.extract a s.size).extract (k : Int).toNat (s.extract a s.size).size) from if_pos e1, Int.toNat_natCast, left_size, ext_ext s a k (s.size - a) (by have := hok'.2.1; omega) (Nat.le_refl _), Nat.add_sub_cancel' h.2]]
      exact rNum_in w b s a k h hl hok'
    · have e1 : ¬ hasN (ukL (rkO s a false)) n := fun hx => hok ((has_left s a n h.2).1 hx)
      rw [show numV (rkO s a false) n = 0 from if_neg e1, show numO (rkO s a false) n = none from if_neg e1]
      exact rNum_out w b s a false n h hl hi (.inr hok)
end Go.Proofs.Ytddhdibcchoakaa
