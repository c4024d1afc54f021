/- What Text of the document's own unpacker does, told of what is left of its text. Conditions: its block is as RK says; its text is no longer than 2^40 bytes. -/
import Derived.Test.YtddhdibcchoakaaPackO
namespace Go.Proofs.Ytddhdibcchoakaa
open Go.RowKit

theorem getI_two (s : ByteArray) (a : Nat) (h : a + 2 ≤ s.size) : getI (cutL s a 2) < 65536 := by
  have h1 := (getI_bound (cutL s a 2)).2
  rw [cutL_length s a 2 h] at h1
  exact h1
set_option maxHeartbeats 1000000 in
theorem rText_in (w : World) (b : Nat) (s : ByteArray) (a v : Nat) (most : Int) (h : RK w b s a false) (hl : s.size ≤ 1099511627776) (h2 : a + 2 ≤ s.size) (hv : getI (cutL s a 2) = v) (hm : (v : Int) ≤ most) (hz : v ≤ s.size - a - 2) :
    Calls Try.prog 20 #[.pointer (some ⟨b, 0, none⟩), .int .i64 most] w fun e w' => e = .returned (.string (s.extract (a + 2) (a + 2 + v))) ∧ RKo w' b s (some (s.extract (a + 2 + v) s.size)) ∧ Kept (fun k => k ≠ b) w w' := by
  obtain ⟨c0, c1, c2, f0, f1, f2⟩ := three_cells h.1
  have hr := getR_hit (l := s) (a := a) (n := 2) (by decide) h2
  rw [hv] at hr
  have hv2 := getI_two s a h2
  rw [hv] at hv2
  have HR := Lib.hid (show getR s a 2 = ((v : Int), true) from hr)
  have hml : s.size ≤ maxLen := by unfold maxLen; omega
  have d1 : decide (most < (v : Int)) = false := by simp; omega
  have d2 : decide ((s.size : Int) - a - 2 < (v : Int)) = false := by simp; omega
  have z2 : (a : Int) + 2 + v ≤ s.size := by omega
  have z1 : (v : Int) ≤ (s.size : Int) - a - 2 := by omega
  clear hr hv
  go_enter Try.func20, Try.ntmps20
  go_wp2_with fail
  go_quiet ((go_at_call 35; exact quiet_eq (refGet_any s a 2 hml (by omega) (by omega) _)))
  rw [HR.out]
  go_wp2_with fail
  go_quiet (fail)
  go_wp2_with fail
  go_quiet (fail)
  go_wp2_with fail
  go_ret
  rename_i n1 n2
  obtain ⟨r1, r2⟩ := rk_move (a' := a + 2 + v) h (n1 + n2) (by omega)
  exact ⟨rfl, r1.keep ((Kept.refl (fun _ => True) _).drewN nq) trivial, r2.drewN nq⟩

set_option maxHeartbeats 1000000 in
theorem rText_out (w : World) (b : Nat) (s : ByteArray) (a : Nat) (bad : Bool) (most : Int) (h : RK w b s a bad) (hl : s.size ≤ 1099511627776) (hno : bad = true ∨ ¬ (a + 2 ≤ s.size ∧ getI (cutL s a 2) ≤ most ∧ getI (cutL s a 2) ≤ (s.size : Int) - a - 2)) :
    Calls Try.prog 20 #[.pointer (some ⟨b, 0, none⟩), .int .i64 most] w fun e w' => e = .returned (.string ⟨#[]⟩) ∧ RKo w' b s none ∧ Kept (fun k => k ≠ b) w w' := by
  obtain ⟨c0, c1, c2, f0, f1, f2⟩ := three_cells h.1
  have hml : s.size ≤ maxLen := by unfold maxLen; omega
  cases bad with
  | true =>
    clear hno
    go_enter Try.func20, Try.ntmps20
    go_wp2_with fail
    go_quiet ((go_at_call 35; exact quiet_eq (refGet_any s a 2 hml (by omega) (by omega) _)))
    generalize getR s a 2 = r
    go_wp2_with fail
    go_quiet (fail)
    go_wp2_with fail
    go_ret
    exact ⟨rfl, rk_spoil h _⟩
  | false =>
    have hno : ¬ (a + 2 ≤ s.size ∧ getI (cutL s a 2) ≤ most ∧ getI (cutL s a 2) ≤ (s.size : Int) - a - 2) := by
      rcases hno with h | h
      · cases h
      · exact h
    by_cases h2 : a + 2 ≤ s.size
    · have hr := getR_hit (l := s) (a := a) (n := 2) (by decide) h2
      have hv2 := getI_two s a h2
      have x0 := getI_nonneg (cutL s a 2)
      generalize getI (cutL s a 2) = x at *
      have HR := Lib.hid (show getR s a 2 = (x, true) from hr)
      clear hr
      by_cases hm : x ≤ most
      · have d1 : decide (most < x) = false := by simpa using hm
        have d2 : decide ((s.size : Int) - a - 2 < x) = true := by
          simp
          rcases Int.lt_or_le ((s.size : Int) - a - 2) x with h | h
          · exact h
          · exact absurd ⟨h2, hm, h⟩ hno
        have z2 : (s.size : Int) - a - 2 < x := of_decide_eq_true d2
        clear hno
        go_enter Try.func20, Try.ntmps20
        go_wp2_with fail
        go_quiet ((go_at_call 35; exact quiet_eq (refGet_any s a 2 hml (by omega) (by omega) _)))
        rw [HR.out]
        go_wp2_with fail
        go_quiet (fail)
        go_wp2_with fail
        go_ret
        exact ⟨rfl, rk_spoil h _⟩
      · have d1 : decide (most < x) = true := by simp; omega
        have z1 : most < x := by omega
        clear hno hm
        go_enter Try.func20, Try.ntmps20
        go_wp2_with fail
        go_quiet ((go_at_call 35; exact quiet_eq (refGet_any s a 2 hml (by omega) (by omega) _)))
        rw [HR.out]
        go_wp2_with fail
        go_quiet (fail)
        go_wp2_with fail
        go_ret
        exact ⟨rfl, rk_spoil h _⟩
    · have HR := Lib.hid (show getR s a 2 = (0, false) from if_neg (by omega))
      clear hno
      go_enter Try.func20, Try.ntmps20
      go_wp2_with fail
      go_quiet ((go_at_call 35; exact quiet_eq (refGet_any s a 2 hml (by omega) (by omega) _)))
      rw [HR.out]
      go_wp2_with fail
      go_quiet (fail)
      go_wp2_with fail
      go_ret
      exact ⟨rfl, rk_spoil h _⟩

theorem rText_any (w : World) (b : Nat) (s : ByteArray) (o : Option ByteArray) (most : Int) (h : RKo w b s o) (hl : s.size ≤ 1099511627776) :
    Calls Try.prog 20 #[.pointer (some ⟨b, 0, none⟩), .int .i64 most] w fun e w' => e = .returned (.string (textV o most)) ∧ RKo w' b s (textO o most) ∧ Kept (fun k => k ≠ b) w w' := by
  obtain ⟨a, bad, h, rfl⟩ := h
  cases bad with
  | true =>
    have e1 : ¬ hasT (rkO s a true) most := fun hx => by
      have h1 := hx.1
      have e0 : ¬ hasN (ukL (rkO s a true)) 2 := fun hx => by have := hasN_some hx; cases this
      rw [show numO (rkO s a true) 2 = none from if_neg e0] at h1
      cases h1
    rw [show textV (rkO s a true) most = ⟨#[]⟩ from if_neg e1, show textO (rkO s a true) most = none from if_neg e1]
    exact rText_out w b s a true most h hl (.inl rfl)
  | false =>
    by_cases h2 : a + 2 ≤ s.size
    · have hv2 := getI_two s a h2
      have x0 := getI_nonneg (cutL s a 2)
      have hok : (0 : Int) ≤ 2 ∧ okN s a (2 : Int).toNat := ⟨by decide, .inr (.inl rfl), h2, by show getI (cutL s a 2) < _; omega⟩
      have e0 := (has_left s a 2 h.2).2 hok
      have eV : numV (rkO s a false) 2 = getI (cutL s a 2) := by
        rw [show numV (rkO s a false) 2 = getI (cutL (s.extract a s.size) 0 2) from if_pos e0, cut_left s a 2 h2]
      have eO : numO (rkO s a false) 2 = some (s.extract (a + 2) s.size) := by
        rw [show numO (rkO s a false) 2 = some ((s.extract a s.size).extract 2 (s.extract a s.size).size) from if_pos e0, left_size, ext_ext s a 2 (s.size - a) (by omega) (Nat.le_refl _), Nat.add_sub_cancel' h.2]
      have eT : hasT (rkO s a false) most ↔ (getI (cutL s a 2) ≤ most ∧ getI (cutL s a 2) ≤ (s.size : Int) - a - 2) := by
        unfold hasT
        rw [eV, eO, show ukL (some (s.extract (a + 2) s.size)) = s.extract (a + 2) s.size from rfl, left_size]
        constructor
        · rintro ⟨_, q1, q2⟩; exact ⟨q1, by omega⟩
        · rintro ⟨q1, q2⟩; exact ⟨rfl, q1, by omega⟩
      by_cases ht : getI (cutL s a 2) ≤ most ∧ getI (cutL s a 2) ≤ (s.size : Int) - a - 2
      · have e1 := eT.2 ht
        obtain ⟨v, hv⟩ := Int.eq_ofNat_of_zero_le x0
        rw [show textV (rkO s a false) most = (s.extract (a + 2) s.size).extract 0 v from by
            rw [show textV (rkO s a false) most = (ukL (numO (rkO s a false) 2)).extract 0 (numV (rkO s a false) 2).toNat from if_pos e1, eV, eO, hv]; rfl,
          show textO (rkO s a false) most = some ((s.extract (a + 2) s.size).extract v (s.extract (a + 2) s.size).size) from by
            rw [show textO (rkO s a false) most = some ((ukL (numO (rkO s a false) 2)).extract (numV (rkO s a false) 2).toNat (ukL (numO (rkO s a false) 2)).size) from if_pos e1, eV, eO, hv]; rfl]
        rw [hv] at ht
        have hz : v ≤ s.size - a - 2 := by omega
        rw [left_size, ext_ext s (a + 2) 0 v (by omega) (by omega), ext_ext s (a + 2) v (s.size - (a + 2)) (by omega) (Nat.le_refl _), Nat.add_sub_cancel' h2, Nat.add_zero]
        exact rText_in w b s a v most h hl h2 hv ht.1 hz
      · have e1 : ¬ hasT (rkO s a false) most := fun hx => ht (eT.1 hx)
        rw [show textV (rkO s a false) most = ⟨#[]⟩ from if_neg e1, show textO (rkO s a false) most = none from if_neg e1]
        exact rText_out w b s a false most h hl (.inr fun hx => ht hx.2)
    · have e1 : ¬ hasT (rkO s a false) most := fun hx => by
        have h1 := hx.1
        have e0 : ¬ hasN (ukL (rkO s a false)) 2 := fun hx => by
          have := ((has_left s a 2 h.2).1 hx).2.2.1
          have : a + 2 ≤ s.size := this
          omega
        rw [show numO (rkO s a false) 2 = none from if_neg e0] at h1
        cases h1
      rw [show textV (rkO s a false) most = ⟨#[]⟩ from if_neg e1, show textO (rkO s a false) most = none from if_neg e1]
      exact rText_out w b s a false most h hl (.inr fun hx => h2 hx.1)
theorem refLeft_o (w : World) (b : Nat) (s : ByteArray) (o : Option ByteArray) (h : RKo w b s o) (hl : s.size ≤ 1099511627776) :
    Calls Try.prog 24 #[.pointer (some ⟨b, 0, none⟩)] w fun e w' => e = .returned (.int .i64 (ukL o).size) ∧ ∃ k, w' = w.drewN k := by
  obtain ⟨a, bad, h, rfl⟩ := h
  exact refLeft_any w b s a bad h hl
theorem refEnd_o (w : World) (b : Nat) (s : ByteArray) (o : Option ByteArray) (h : RKo w b s o) :
    Calls Try.prog 26 #[.pointer (some ⟨b, 0, none⟩)] w fun e w' => e = .returned (.int .i64 (ukE o)) ∧ ∃ k, w' = w.drewN k := by
  obtain ⟨a, bad, h, rfl⟩ := h
  exact refEnd_any w b s a bad h
theorem ukE_range (o : Option ByteArray) : 0 ≤ ukE o ∧ ukE o ≤ 11 := by
  cases o with
  | none => exact ⟨by decide, by decide⟩
  | some l => unfold ukE; simp only; split <;> exact ⟨by decide, by decide⟩
end Go.Proofs.Ytddhdibcchoakaa
