/- What Num and Text of the document's own unpacker do, told of what is left of its text. Conditions: its block is as RK says; its text is no longer than 2^40 bytes. What End of the document's own unpacker answers, told of what is left of its text. Conditions: its block is as RKo says. Plain facts: what was packed is taken out: one number, one text. Conditions: they are such as are packed. Plain facts: what was taken out stood there as it is packed: one number, one text. No conditions. -/
import Derived.Test.YtbiihcoobknmjaaGg
set_option linter.unusedVariables false
namespace Go.Proofs.Ytbiihcoobknmjaa
open Go.RowKit
set_option maxRecDepth 20000

theorem ext_list (s : ByteArray) (a b : Nat) : (s.extract a b).data.toList = (s.data.toList.drop a).take (b - a) := by
  rw [ByteArray.data_extract]
  simp [Array.toList_extract, List.extract]
theorem bytes_ext {s t : ByteArray} (h : s.data.toList = t.data.toList) : s = t := ByteArray.ext (Array.toList_inj.1 h)
theorem ext_ext (s : ByteArray) (a b c : Nat) (hb : b ≤ s.size - a) (hc : c ≤ s.size - a) : (s.extract a s.size).extract b c = s.extract (a + b) (a + c) := by
  apply bytes_ext
  rw [ext_list, ext_list, ext_list, List.drop_take, List.drop_drop, List.take_take]
  congr 1
  omega
theorem cut_left (s : ByteArray) (a k : Nat) (h : a + k ≤ s.size) : cutL (s.extract a s.size) 0 k = cutL s a k := by
  unfold cutL
  rw [ext_list, List.drop_zero, List.take_take]
  congr 1
  omega
theorem left_size (s : ByteArray) (a : Nat) : (s.extract a s.size).size = s.size - a := by
  rw [ByteArray.size_extract]
  omega
theorem ext_all (s : ByteArray) : s.extract 0 s.size = s := by simp

/-- block b is the document's own unpacker of s, and o is what is left -/
def RKo (w : World) (b : Nat) (s : ByteArray) (o : Option ByteArray) : Prop := ∃ a bad, RK w b s a bad ∧ rkO s a bad = o
theorem RKo.keep {T : Nat → Prop} {w w' : World} {b : Nat} {s : ByteArray} {o : Option ByteArray} (h : RKo w b s o) (hk : Kept T w w') (hb : T b) : RKo w' b s o := by
  obtain ⟨a, bad, h1, h2⟩ := h
  exact ⟨a, bad, h1.keep hk hb, h2⟩
theorem rk_spoil {w : World} {b : Nat} {s : ByteArray} {a : Nat} {bad : Bool} (h : RK w b s a bad) (k : Nat) : RKo ((w.drewN k).setCell ⟨b, 2, none⟩ (.bool true)) b s none ∧ Kept (fun k => k ≠ b) w ((w.drewN k).setCell ⟨b, 2, none⟩ (.bool true)) :=
  ⟨⟨a, true, ⟨three_set2 (((Kept.refl (fun _ => True) w).drewN k).heap trivial h.1) _, h.2⟩, rfl⟩, ((Kept.refl _ w).drewN k).setCell (fun h => h rfl) _⟩
theorem rk_move {w : World} {b : Nat} {s : ByteArray} {a a' : Nat} (h : RK w b s a false) (k : Nat) (ha : a' ≤ s.size) : RKo ((w.drewN k).setCell ⟨b, 1, none⟩ (.int .i64 a')) b s (some (s.extract a' s.size)) ∧ Kept (fun k => k ≠ b) w ((w.drewN k).setCell ⟨b, 1, none⟩ (.int .i64 a')) :=
  ⟨⟨a', false, ⟨three_set1 (((Kept.refl (fun _ => True) w).drewN k).heap trivial h.1) _, ha⟩, rfl⟩, ((Kept.refl _ w).drewN k).setCell (fun h => h rfl) _⟩

set_option maxHeartbeats 1000000 in
theorem rNum_in (w : World) (b : Nat) (s : ByteArray) (a n : Nat) (h : RK w b s a false) (hl : s.size ≤ 1099511627776) (hok : okN s a n) :
    Calls Try.prog 41 #[.pointer (some ⟨b, 0, none⟩), .int .i64 n] w fun e w' => e = .returned (.int .i64 (getI (cutL s a n))) ∧ RKo w' b s (some (s.extract (a + n) s.size)) ∧ Kept (fun k => k ≠ b) w w' := by
  obtain ⟨c0, c1, c2, f0, f1, f2⟩ := three_cells h.1
  obtain ⟨hs, hn, hv⟩ := hok
  have n8 : n ≤ 8 := by omega
  have x0 := getI_nonneg (cutL s a n)
  have hr := getR_hit n8 hn
  generalize getI (cutL s a n) = x at *
  have HR := Lib.hid hr
  have HS := Lib.hid (show decide ((n : Int) = 1 ∨ (n : Int) = 2 ∨ (n : Int) = 4 ∨ (n : Int) = 8) = true by simp; omega)
  have hm : s.size ≤ maxLen := by unfold maxLen; omega
  have hv' : ¬ (9223372036854775808 : Int) ≤ x := by omega
  clear hr hs
  go_enter Try.func41, Try.ntmps41
  go_wp2_with fail
  go_quiet ((go_at_call 54; exact quiet_eq (refGet_any s a n hm (by omega) (by omega) _)))
  rw [HR.out]
  go_wp2_with (go_at_call 49; refine (refSize_any n _).mono ?_; rintro e w' ⟨rfl, rfl⟩; rw [HS.out])
  go_ret
  exact ⟨rfl, rk_move (a' := a + n) h nq hn⟩

set_option maxHeartbeats 1000000 in
theorem rNum_out (w : World) (b : Nat) (s : ByteArray) (a : Nat) (bad : Bool) (n : Int) (h : RK w b s a bad) (hl : s.size ≤ 1099511627776) (hi : -9223372036854775808 ≤ n ∧ n ≤ 9223372036854775807) (hno : bad = true ∨ ¬ (0 ≤ n ∧ okN s a n.toNat)) :
    Calls Try.prog 41 #[.pointer (some ⟨b, 0, none⟩), .int .i64 n] w fun e w' => e = .returned (.int .i64 0) ∧ RKo w' b s none ∧ Kept (fun k => k ≠ b) w w' := by
  obtain ⟨c0, c1, c2, f0, f1, f2⟩ := three_cells h.1
  have hm : s.size ≤ maxLen := by unfold maxLen; omega
  cases bad with
  | true =>
    clear hno
    go_enter Try.func41, Try.ntmps41
    go_wp2_with fail
    go_quiet ((go_at_call 54; exact quiet_eq (refGet_any s a n hm (by omega) (by omega) _)))
    go_wp2_with fail
    go_ret
    exact ⟨rfl, rk_spoil h nq⟩
  | false =>
    have hno : ¬ (0 ≤ n ∧ okN s a n.toNat) := by
      rcases hno with h | h
      · cases h
      · exact h
    by_cases hs : n = 1 ∨ n = 2 ∨ n = 4 ∨ n = 8
    · have HS := Lib.hid (show decide (n = 1 ∨ n = 2 ∨ n = 4 ∨ n = 8) = true by simpa using hs)
      obtain ⟨k, rfl⟩ := Int.eq_ofNat_of_zero_le (show 0 ≤ n by omega)
      have k8 : k ≤ 8 := by omega
      have hs' : k = 1 ∨ k = 2 ∨ k = 4 ∨ k = 8 := by omega
      rw [Int.toNat_natCast] at hno
      unfold okN at hno
      by_cases hf : a + k ≤ s.size
      · have hr := getR_hit k8 hf
        have x0 := getI_nonneg (cutL s a k)
        generalize getI (cutL s a k) = x at *
        have hv : 9223372036854775808 ≤ x := by
          rcases Int.lt_or_le x 9223372036854775808 with h | h
          · exact absurd ⟨by omega, hs', hf, h⟩ hno
          · exact h
        have HR := Lib.hid hr
        clear hr hs hs' hno
        go_enter Try.func41, Try.ntmps41
        go_wp2_with fail
        go_quiet ((go_at_call 54; exact quiet_eq (refGet_any s a k hm (by omega) (by omega) _)))
        rw [HR.out]
        go_wp2_with (go_at_call 49; refine (refSize_any k _).mono ?_; rintro e w' ⟨rfl, rfl⟩; rw [HS.out])
        go_ret
        exact ⟨rfl, rk_spoil h nq⟩
      · have HR := Lib.hid (show getR s a k = (0, false) from if_neg (by omega))
        clear hs hs' hno
        go_enter Try.func41, Try.ntmps41
        go_wp2_with fail
        go_quiet ((go_at_call 54; exact quiet_eq (refGet_any s a k hm (by omega) (by omega) _)))
        rw [HR.out]
        go_wp2_with (go_at_call 49; refine (refSize_any k _).mono ?_; rintro e w' ⟨rfl, rfl⟩; rw [HS.out])
        go_ret
        exact ⟨rfl, rk_spoil h nq⟩
    · have HS := Lib.hid (show decide (n = 1 ∨ n = 2 ∨ n = 4 ∨ n = 8) = false by simpa using hs)
      clear hs hno
      go_enter Try.func41, Try.ntmps41
      go_wp2_with fail
      go_quiet ((go_at_call 54; exact quiet_eq (refGet_any s a n hm (by omega) (by omega) _)))
      generalize getR s a n = r
      go_wp2_with (go_at_call 49; refine (refSize_any n _).mono ?_; rintro e w' ⟨rfl, rfl⟩; rw [HS.out])
      go_ret
      exact ⟨rfl, rk_spoil h nq⟩

theorem has_left (s : ByteArray) (a : Nat) (n : Int) (ha : a ≤ s.size) : hasN (ukL (rkO s a false)) n ↔ (0 ≤ n ∧ okN s a n.toNat) := by
  show hasN (s.extract a s.size) n ↔ _
  unfold hasN okN
  rw [left_size]
  by_cases hk : a + n.toNat ≤ s.size
  · rw [cut_left s a n.toNat hk]
    constructor
    · rintro ⟨h0, h1, h2, h3⟩; exact ⟨h0, h1, hk, h3⟩
    · rintro ⟨h0, h1, h2, h3⟩; exact ⟨h0, h1, by omega, h3⟩
  · constructor
    · rintro ⟨h0, h1, h2, h3⟩; omega
    · rintro ⟨h0, h1, h2, h3⟩; omega
theorem rNum_any (w : World) (b : Nat) (s : ByteArray) (o : Option ByteArray) (n : Int) (h : RKo w b s o) (hl : s.size ≤ 1099511627776) (hi : -9223372036854775808 ≤ n ∧ n ≤ 9223372036854775807) :
    Calls Try.prog 41 #[.pointer (some ⟨b, 0, none⟩), .int .i64 n] w fun e w' => e = .returned (.int .i64 (numV o n)) ∧ RKo w' b s (numO o n) ∧ Kept (fun k => k ≠ b) w w' := by
  obtain ⟨a, bad, h, rfl⟩ := h
  cases bad with
  | true =>
    have e1 : ¬ hasN (ukL (rkO s a true)) n := fun hx => by have := hasN_some hx; cases this
    rw [show numV (rkO s a true) n = 0 from if_neg e1, show numO (rkO s a true) n = none from if_neg e1]
    exact rNum_out w b s a true n h hl hi (.inl rfl)
  | false =>
    by_cases hok : 0 ≤ n ∧ okN s a n.toNat
    · have e1 := (has_left s a n h.2).2 hok
      obtain ⟨k, rfl⟩ := Int.eq_ofNat_of_zero_le hok.1
      have hok' := hok.2
      rw [Int.toNat_natCast] at hok'
      rw [show numV (rkO s a false) k = getI (cutL s a k) from by
        rw [show numV (rkO s a false) k = getI (cutL (s.extract a s.size) 0 (k : Int).toNat) from if_pos e1, Int.toNat_natCast, cut_left s a k hok'.2.1]]
      rw [show numO (rkO s a false) k = some (s.extract (a + k) s.size) from by
        rw [show numO (rkO s a false) k = some ((s.extract a s.size).extract (k : Int).toNat (s.extract a s.size).size) from if_pos e1, Int.toNat_natCast, left_size, ext_ext s a k (s.size - a) (by have := hok'.2.1; omega) (Nat.le_refl _), Nat.add_sub_cancel' h.2]]
      exact rNum_in w b s a k h hl hok'
    · have e1 : ¬ hasN (ukL (rkO s a false)) n := fun hx => hok ((has_left s a n h.2).1 hx)
      rw [show numV (rkO s a false) n = 0 from if_neg e1, show numO (rkO s a false) n = none from if_neg e1]
      exact rNum_out w b s a false n h hl hi (.inr hok)
end Go.Proofs.Ytbiihcoobknmjaa
namespace Go.Proofs.Ytbiihcoobknmjaa
open Go.RowKit
set_option maxRecDepth 20000

theorem refEnd_o (w : World) (b : Nat) (s : ByteArray) (o : Option ByteArray) (h : RKo w b s o) :
    Calls Try.prog 42 #[.pointer (some ⟨b, 0, none⟩)] w fun e w' => e = .returned (.int .i64 (ukE o)) ∧ ∃ k, w' = w.drewN k := by
  obtain ⟨a, bad, h, rfl⟩ := h
  exact refEnd_any w b s a bad h
theorem ukE_range (o : Option ByteArray) : 0 ≤ ukE o ∧ ukE o ≤ 11 := by
  cases o with
  | none => exact ⟨by decide, by decide⟩
  | some l => unfold ukE; simp only; split <;> exact ⟨by decide, by decide⟩
end Go.Proofs.Ytbiihcoobknmjaa
namespace Go.Proofs.Ytbiihcoobknmjaa
open Go.RowKit
set_option maxRecDepth 20000

theorem empty_append (x : ByteArray) : (⟨#[]⟩ : ByteArray) ++ x = x := by
  apply bytes_ext
  rw [ByteArray.data_append, Array.toList_append]
  rfl
theorem append_empty (x : ByteArray) : x ++ (⟨#[]⟩ : ByteArray) = x := by
  apply bytes_ext
  rw [ByteArray.data_append, Array.toList_append]
  simp
theorem ext_front (a b : ByteArray) : (a ++ b).extract 0 a.size = a := by
  apply bytes_ext
  rw [ext_list, ByteArray.data_append, Array.toList_append, List.drop_zero, Nat.sub_zero, List.take_append_of_le_length (by rw [← Lib.size_eq]; exact Nat.le_refl _), List.take_of_length_le (by rw [← Lib.size_eq]; exact Nat.le_refl _)]
theorem ext_back (a b : ByteArray) : (a ++ b).extract a.size (a ++ b).size = b := by
  apply bytes_ext
  rw [ext_list, ByteArray.data_append, Array.toList_append, List.drop_append_of_le_length (by rw [← Lib.size_eq]; exact Nat.le_refl _), List.drop_of_length_le (by rw [← Lib.size_eq]; exact Nat.le_refl _), List.nil_append, List.take_of_length_le (by rw [ByteArray.size_append, ← Lib.size_eq]; omega)]
theorem cut_front (a b : ByteArray) : cutL (a ++ b) 0 a.size = a.data.toList := by
  unfold cutL
  rw [ByteArray.data_append, Array.toList_append, List.drop_zero, List.take_append_of_le_length (by rw [← Lib.size_eq]; exact Nat.le_refl _), List.take_of_length_le (by rw [← Lib.size_eq]; exact Nat.le_refl _)]
/-- a number that was put is there, and behind it what follows -/
theorem num_back (v n : Int) (R : ByteArray) (h : numOk v n) (hv : v ≤ 9223372036854775807) : numV (some (putR v n ++ R)) n = v ∧ numO (some (putR v n ++ R)) n = some R := by
  have hn := numOk_n h
  have h0 := numOk_nonneg h
  have hs : n = 1 ∨ n = 2 ∨ n = 4 ∨ n = 8 := by unfold numOk at h; omega
  obtain ⟨x, rfl⟩ := Int.eq_ofNat_of_zero_le h0
  obtain ⟨k, rfl⟩ := Int.eq_ofNat_of_zero_le (show 0 ≤ n by omega)
  have hk : (putR (x : Int) k).size = k := putR_len x k (by omega)
  have hl : (putR (x : Int) k).data.toList = bl x k := by rw [putR_eq (by omega) (by omega), Int.toNat_natCast, putS_list]
  have hc : cutL (putR (x : Int) k ++ R) 0 k = bl x k := by
    have h := cut_front (putR (x : Int) k) R
    rwa [hk, hl] at h
  have hx : x % 256 ^ k = x := by
    apply Nat.mod_eq_of_lt
    unfold numOk at h
    rcases h with ⟨h, _, h'⟩ | ⟨h, _, h'⟩ | ⟨h, _, h'⟩ | ⟨h, _⟩
    · obtain rfl : k = 1 := by omega
      omega
    · obtain rfl : k = 2 := by omega
      omega
    · obtain rfl : k = 4 := by omega
      omega
    · obtain rfl : k = 8 := by omega
      omega
  have hg : getI (cutL (putR (x : Int) k ++ R) 0 k) = x := by rw [hc, getI_bl, hx]
  have hh : hasN (ukL (some (putR (x : Int) k ++ R))) k := by
    refine ⟨by omega, ?_⟩
    rw [Int.toNat_natCast]
    refine ⟨by omega, ?_, ?_⟩
    · show 0 + k ≤ (putR (x : Int) k ++ R).size
      rw [ByteArray.size_append, hk]; omega
    · show getI (cutL (putR (x : Int) k ++ R) 0 k) < _
      rw [hg]; omega
  refine ⟨?_, ?_⟩
  · rw [show numV (some (putR (x : Int) k ++ R)) k = getI (cutL (putR (x : Int) k ++ R) 0 (k : Int).toNat) from if_pos hh, Int.toNat_natCast, hg]
  · rw [show numO (some (putR (x : Int) k ++ R)) k = some ((putR (x : Int) k ++ R).extract (k : Int).toNat (putR (x : Int) k ++ R).size) from if_pos hh, Int.toNat_natCast]
    have h := ext_back (putR (x : Int) k) R
    rw [hk] at h
    rw [h]
theorem text_back (x R : ByteArray) (h : x.size ≤ 65535) : textV (some ((putR x.size 2 ++ x) ++ R)) 65535 = x ∧ textO (some ((putR x.size 2 ++ x) ++ R)) 65535 = some R := by
  obtain ⟨e1, e2⟩ := num_back x.size 2 (x ++ R) (.inr (.inl ⟨rfl, by omega, by omega⟩)) (by omega)
  rw [← ByteArray.append_assoc] at e1 e2
  have ht : hasT (some ((putR x.size 2 ++ x) ++ R)) 65535 := by
    unfold hasT
    rw [e1, e2]
    refine ⟨rfl, by omega, ?_⟩
    show (x.size : Int) ≤ (x ++ R).size
    rw [ByteArray.size_append]; omega
  refine ⟨?_, ?_⟩
  · rw [show textV (some ((putR x.size 2 ++ x) ++ R)) 65535 = (ukL (numO (some ((putR x.size 2 ++ x) ++ R)) 2)).extract 0 (numV (some ((putR x.size 2 ++ x) ++ R)) 2).toNat from if_pos ht, e1, e2, Int.toNat_natCast]
    exact ext_front x R
  · rw [show textO (some ((putR x.size 2 ++ x) ++ R)) 65535 = some ((ukL (numO (some ((putR x.size 2 ++ x) ++ R)) 2)).extract (numV (some ((putR x.size 2 ++ x) ++ R)) 2).toNat (ukL (numO (some ((putR x.size 2 ++ x) ++ R)) 2)).size) from if_pos ht, e1, e2, Int.toNat_natCast]
    exact congrArg some (ext_back x R)
theorem none_left1 : numV (some ⟨#[]⟩) 1 = 0 ∧ numO (some ⟨#[]⟩) 1 = none := by decide +kernel
end Go.Proofs.Ytbiihcoobknmjaa
namespace Go.Proofs.Ytbiihcoobknmjaa
open Go.RowKit
set_option maxRecDepth 20000

theorem bl_getI (l : List UInt8) : ∀ x : Nat, (x : Int) = getI l → bl x l.length = l := by
  rw [← List.reverse_reverse l]
  generalize l.reverse = r
  induction r with
  | nil => intro x _; rfl
  | cons c r ih =>
    intro x hx
    rw [List.reverse_cons, getI_snoc] at hx
    have hp := (getI_bound r.reverse).1
    have hc := c.toNat_lt
    rw [List.reverse_cons, List.length_append, List.length_singleton, bl_add]
    have e1 : x / 256 ^ 1 = (getI r.reverse).toNat := by omega
    have e2 : bl x 1 = [c] := by
      have hm : x % 256 = c.toNat := by omega
      apply List.ext_getElem (by rw [bl_length]; rfl)
      intro i h1 h2
      obtain rfl : i = 0 := by simp at h2; exact h2
      simp [bl, hm]
    rw [e1, e2, ih _ (by omega)]
theorem cut_parts (x : ByteArray) (n : Nat) (h : n ≤ x.size) : x.extract 0 n ++ x.extract n x.size = x := by
  apply bytes_ext
  rw [ByteArray.data_append, Array.toList_append, ext_list, ext_list, List.drop_zero, Nat.sub_zero, List.take_of_length_le (l := x.data.toList.drop n) (by rw [List.length_drop, ← Lib.size_eq]; exact Nat.le_refl _), List.take_append_drop]
theorem num_forth {u : Option ByteArray} {n : Int} {R : ByteArray} (h : numO u n = some R) : u = some (putR (numV u n) n ++ R) ∧ numOk (numV u n) n ∧ numV u n ≤ 9223372036854775807 := by
  unfold numO at h
  unfold numV
  split at h
  · next hh =>
    rw [if_pos hh]
    cases h
    obtain ⟨hn, h1, h2, h3⟩ := hh
    obtain ⟨k, rfl⟩ := Int.eq_ofNat_of_zero_le hn
    rw [Int.toNat_natCast] at *
    cases u with
    | none =>
      exfalso
      have : (ukL none).size = 0 := rfl
      omega
    | some x =>
      replace h2 : 0 + k ≤ x.size := h2
      replace h3 : getI (cutL x 0 k) < 9223372036854775808 := h3
      show some x = some (putR (getI (cutL x 0 k)) k ++ x.extract k x.size) ∧ numOk (getI (cutL x 0 k)) k ∧ getI (cutL x 0 k) ≤ 9223372036854775807
      have hb := getI_bound (cutL x 0 k)
      have hlen : (cutL x 0 k).length = k := by
        unfold cutL
        rw [List.length_take, List.length_drop, ← Lib.size_eq]
        omega
      rw [hlen] at hb
      obtain ⟨y, hy⟩ := Int.eq_ofNat_of_zero_le hb.1
      have e : putR (getI (cutL x 0 k)) k = x.extract 0 k := by
        rw [hy, putR_eq (by omega) (by omega), Int.toNat_natCast]
        apply bytes_ext
        rw [putS_list, ext_list, Nat.sub_zero]
        have := bl_getI (cutL x 0 k) y hy.symm
        rw [hlen] at this
        exact this
      refine ⟨?_, ?_, by omega⟩
      · rw [e, cut_parts x k (by omega)]
      · rcases h1 with rfl | rfl | rfl | rfl
        · exact .inl ⟨rfl, hb.1, hb.2⟩
        · exact .inr (.inl ⟨rfl, hb.1, hb.2⟩)
        · exact .inr (.inr (.inl ⟨rfl, hb.1, hb.2⟩))
        · exact .inr (.inr (.inr ⟨rfl, hb.1⟩))
  · cases h
theorem text_forth {u : Option ByteArray} {R : ByteArray} (h : textO u 65535 = some R) : u = some ((putR (textV u 65535).size 2 ++ textV u 65535) ++ R) ∧ (textV u 65535).size ≤ 65535 := by
  unfold textO at h
  unfold textV
  split at h
  · next hh =>
    rw [if_pos hh]
    cases h
    obtain ⟨h1, h2, h3⟩ := hh
    obtain ⟨L, hL⟩ := Option.isSome_iff_exists.1 h1
    obtain ⟨e, hk, _⟩ := num_forth hL
    have h0 := numOk_nonneg hk
    rw [hL] at h3
    rw [hL]
    replace h3 : numV u 2 ≤ L.size := h3
    show u = some ((putR (L.extract 0 (numV u 2).toNat).size 2 ++ L.extract 0 (numV u 2).toNat) ++ L.extract (numV u 2).toNat L.size) ∧ (L.extract 0 (numV u 2).toNat).size ≤ 65535
    generalize numV u 2 = v at *
    obtain ⟨k, rfl⟩ := Int.eq_ofNat_of_zero_le h0
    rw [Int.toNat_natCast] at *
    have hs : (L.extract 0 k).size = k := by rw [ByteArray.size_extract]; omega
    rw [hs]
    refine ⟨?_, by omega⟩
    rw [e, ByteArray.append_assoc, cut_parts L k (by omega)]
  · cases h
theorem end_forth {u : Option ByteArray} (h : ukE u = 0) : u = some ⟨#[]⟩ := by
  cases u with
  | none => cases h
  | some x =>
    unfold ukE at h
    simp only [] at h
    split at h
    · next hx => rw [empty_of x hx]
    · cases h
end Go.Proofs.Ytbiihcoobknmjaa
