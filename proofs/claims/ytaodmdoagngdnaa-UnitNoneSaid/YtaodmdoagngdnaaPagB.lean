/- What the document's own there, find, Kind, Read, Used, Edge, Tail tell of pages. Conditions: the object lies where the call was told. -/
import Derived.Test.YtaodmdoagngdnaaPagA
import Derived.Test.YtaodmdoagngdnaaBase
namespace Go.Proofs.Ytaodmdoagngdnaa
open Go.RowKit
set_option maxRecDepth 20000
theorem rthere_any (a : Int) (w : World) : Calls Try.prog 37 #[.int .i64 a] w fun e w' => e = .returned (.bool (thereB a)) ∧ w = w' := by
  by_cases h0 : 0 ≤ a
  · by_cases h1 : a < 4096
    · rw [show thereB a = true from thereB_iff.2 ⟨h0, h1⟩]
      have d1 : decide (a < 4096) = true := decide_eq_true h1
      go_enter Try.func37, Try.ntmps37
      go_wp2_with fail
      go_ret
      exact ⟨rfl, rfl⟩
    · rw [show thereB a = false from Bool.eq_false_iff.2 (fun e => h1 (thereB_iff.1 e).2)]
      have d1 : decide (a < 4096) = false := decide_eq_false h1
      clear h1
      go_enter Try.func37, Try.ntmps37
      go_wp2_with fail
      go_ret
      exact ⟨rfl, rfl⟩
  · rw [show thereB a = false from Bool.eq_false_iff.2 (fun e => h0 (thereB_iff.1 e).1)]
    have d1 : decide (0 ≤ a) = false := decide_eq_false h0
    clear h0
    go_enter Try.func37, Try.ntmps37
    go_wp2_with fail
    go_ret
    exact ⟨rfl, rfl⟩
theorem no_take_succ {l : List Pg} {k : Nat} {a : Int} (hk : k < l.length) (h : ∀ x ∈ l.take k, x.at_ ≠ a) (e : l[k].at_ ≠ a) : ∀ x ∈ l.take (k + 1), x.at_ ≠ a := by
  rw [List.take_succ_eq_append_getElem hk]
  intro x hx
  rcases List.mem_append.1 hx with h1 | h1
  · exact h x h1
  · rw [List.mem_singleton.1 h1]; exact e
theorem rfind_any (G : Nat → Prop) (w : World) (b : Nat) (p : Ps) (a : Int) (h : RG G w b p) (hl : p.l.length ≤ 100000) :
    Calls Try.prog 39 #[.pointer (some ⟨b, 0, none⟩), .int .i64 a] w fun e w' => ∃ r : Int, e = .returned (.int .i64 r) ∧ w = w' ∧ ((r = -1 ∧ findP p.l a = none) ∨ ∃ k : Nat, r = k ∧ ∃ hk : k < p.l.length, findP p.l a = some p.l[k]) := by
  obtain ⟨v, h1, h2, _⟩ := h
  obtain ⟨ao, cap, rfl, hP, _, _⟩ := h2.form
  obtain ⟨c0, c1, c2, _, _, _⟩ := three_cells h1
  have HP := Lib.hid hP
  have hl' : (p.l.length : Int) ≤ 100000 := by omega
  clear h1 h2 hP
  go_enter Try.func39, Try.ntmps39
  go_wp2_with fail
  go_loop [5] (fun i => ∃ k : Nat, i = .int .i64 k ∧ k ≤ p.l.length ∧ Hid (∀ x ∈ p.l.take k, x.at_ ≠ a)) (fun i => p.l.length - (intOf i).toNat)
  case atStart => exact ⟨0, rfl, Nat.zero_le _, Lib.hid (by simp)⟩
  case round =>
    obtain ⟨k, rfl, hk, HT⟩ := hrel
    by_cases hlt : k < p.l.length
    · obtain ⟨bk, off, rfl, d0, d1, d2⟩ := HP.out k hlt
      have k0 : (k : Int) < (p.l.length : Int) := by omega
      by_cases he : p.l[k].at_ = a
      · have HF := Lib.hid (findP_take hlt HT.out he)
        have q1 : (p.l[k].at_ == a) = true := beq_iff_eq.2 he
        clear he
        go_wp2_with fail
        go_ret
        exact ⟨_, rfl, rfl, .inr ⟨k, rfl, hlt, HF.out⟩⟩
      · have HT2 := Lib.hid (no_take_succ hlt HT.out he)
        have q1 : (p.l[k].at_ == a) = false := beq_eq_false_iff_ne.2 he
        clear he
        go_wp2_with fail
        go_round
        case rel => exact ⟨k + 1, by go_num, by omega, HT2⟩
        case measure => simp [intOf]; omega
    · obtain rfl : k = p.l.length := by omega
      have HF := Lib.hid (show findP p.l a = none from findP_none.2 (by have := HT.out; rwa [List.take_of_length_le (Nat.le_refl _)] at this))
      go_wp2_with fail
      go_ret
      exact ⟨_, rfl, rfl, .inl ⟨rfl, HF.out⟩⟩
theorem rfind_no (G : Nat → Prop) (w : World) (b : Nat) (p : Ps) (a : Int) (h : RG G w b p) (hl : p.l.length ≤ 100000) (hn : findP p.l a = none) :
    Calls Try.prog 39 #[.pointer (some ⟨b, 0, none⟩), .int .i64 a] w fun e w' => e = .returned (.int .i64 (-1)) ∧ w = w' := by
  refine (rfind_any G w b p a h hl).mono ?_
  rintro e w' ⟨r, rfl, rfl, ⟨rfl, _⟩ | ⟨k, rfl, hk, hf⟩⟩
  · exact ⟨rfl, rfl⟩
  · rw [hn] at hf
    cases hf
theorem rfind_yes (G : Nat → Prop) (w : World) (b : Nat) (p : Ps) (a : Int) (h : RG G w b p) (hl : p.l.length ≤ 100000) (x : Pg) (hn : findP p.l a = some x) :
    Calls Try.prog 39 #[.pointer (some ⟨b, 0, none⟩), .int .i64 a] w fun e w' => ∃ (k : Nat) (hk : k < p.l.length), e = .returned (.int .i64 k) ∧ w = w' ∧ p.l[k] = x := by
  refine (rfind_any G w b p a h hl).mono ?_
  rintro e w' ⟨r, rfl, rfl, ⟨rfl, hf⟩ | ⟨k, rfl, hk, hf⟩⟩
  · rw [hn] at hf
    cases hf
  · rw [hn] at hf
    exact ⟨k, hk, rfl, rfl, (Option.some.inj hf).symm⟩
set_option maxHeartbeats 1000000 in
theorem rkind_any (G : Nat → Prop) (w : World) (b : Nat) (p : Ps) (a : Int) (h : RG G w b p) (hl : p.l.length ≤ 100000) :
    Calls Try.prog 38 #[.pointer (some ⟨b, 0, none⟩), .int .i64 a] w fun e w' => e = .returned (.int .i64 (p.kind a)) ∧ w = w' := by
  have HG := Lib.hid h
  have CT := Lib.hid (rthere_any a w)
  have hl' : (p.l.length : Int) ≤ 100000 := by omega
  by_cases ht : thereB a = true
  · rw [ht] at CT
    obtain ⟨v, h1, h2, _⟩ := h
    obtain ⟨ao, cap, rfl, hP, _, _⟩ := h2.form
    obtain ⟨c0, c1, c2, _, _, _⟩ := three_cells h1
    by_cases he : a < p.edge
    · rw [show p.kind a = 3 from by unfold Ps.kind; rw [if_pos ht, if_pos he]]
      clear h1 h2 hP
      go_enter Try.func38, Try.ntmps38
      go_wp2_with (go_at_call 37; refine CT.out.mono ?_; rintro e w1 ⟨rfl, rfl⟩)
      go_ret
      exact ⟨rfl, rfl⟩
    have he' : p.edge ≤ a := by omega
    cases hf : findP p.l a with
    | none =>
      rw [show p.kind a = 0 from by unfold Ps.kind; rw [if_pos ht, if_neg he, hf]]
      have CF := Lib.hid (rfind_no G w b p a HG.out hl hf)
      clear h1 h2 hP he hf
      go_enter Try.func38, Try.ntmps38
      go_wp2_with (first | (go_at_call 37; refine CT.out.mono ?_; rintro e w1 ⟨rfl, rfl⟩) | (go_at_call 39; refine CF.out.mono ?_; rintro e w2 ⟨rfl, rfl⟩))
      go_ret
      exact ⟨rfl, rfl⟩
    | some x =>
      rw [show p.kind a = x.kind from by unfold Ps.kind; rw [if_pos ht, if_neg he, hf]]
      have CF := Lib.hid (rfind_yes G w b p a HG.out hl x hf)
      have HP := Lib.hid hP
      clear h1 h2 hP he hf
      go_enter Try.func38, Try.ntmps38
      go_wp2_with (first | (go_at_call 37; refine CT.out.mono ?_; rintro e w1 ⟨rfl, rfl⟩) | (go_at_call 39; refine CF.out.mono ?_; rintro e w2 ⟨k, hk, rfl, rfl, hx⟩; have k0 : (k : Int) < (p.l.length : Int) := (by omega); have k1 : (0 : Int) ≤ (k : Int) := (by omega); obtain ⟨bk, off, hao, d0, d1, d2⟩ := HP.out k hk; subst hao; rw [hx] at d1))
      go_ret
      exact ⟨rfl, rfl⟩
  · have ht' : thereB a = false := Bool.eq_false_iff.2 ht
    rw [ht'] at CT
    rw [show p.kind a = 0 from by unfold Ps.kind; rw [if_neg ht]]
    clear h ht ht'
    go_enter Try.func38, Try.ntmps38
    go_wp2_with (go_at_call 37; refine CT.out.mono ?_; rintro e w1 ⟨rfl, rfl⟩)
    go_ret
    exact ⟨rfl, rfl⟩
theorem rused_any (G : Nat → Prop) (w : World) (b : Nat) (p : Ps) (h : RG G w b p) : Calls Try.prog 20 #[.pointer (some ⟨b, 0, none⟩)] w fun e w' => e = .returned (.int .i64 p.l.length) ∧ w = w' := by
  obtain ⟨v, h1, h2, _⟩ := h
  obtain ⟨ao, cap, rfl, _, _, _⟩ := h2.form
  obtain ⟨c0, c1, c2, _, _, _⟩ := three_cells h1
  go_enter Try.func20, Try.ntmps20
  go_wp2_with fail
  go_ret
  exact ⟨rfl, rfl⟩
theorem tailP_next {l : List Pg} {k : Nat} (hk : k < l.length) (t : Int) : tailP (l.take (k + 1)) t = max (tailP (l.take k) t) (l[k].at_ + 1) := by
  rw [List.take_succ_eq_append_getElem hk, tailP_snoc]
set_option maxHeartbeats 1000000 in
theorem rtail_any (G : Nat → Prop) (w : World) (b : Nat) (p : Ps) (h : RG G w b p) (hok : p.Ok) : Calls Try.prog 22 #[.pointer (some ⟨b, 0, none⟩)] w fun e w' => e = .returned (.int .i64 p.tail) ∧ w = w' := by
  obtain ⟨v, h1, h2, _⟩ := h
  obtain ⟨ao, cap, rfl, hP, _, _⟩ := h2.form
  obtain ⟨c0, c1, c2, _, _, _⟩ := three_cells h1
  have HP := Lib.hid hP
  have hl' : (p.l.length : Int) ≤ 4096 := by have := hok.few; have := hok.room; omega
  have he := hok.edge
  have HE := Lib.hid (fun (k : Nat) (hk : k < p.l.length) => hok.each _ (List.getElem_mem hk))
  have HN := Lib.hid (fun (k : Nat) (hk : k < p.l.length) => tailP_next hk p.edge)
  have HR := Lib.hid (show p.tail = tailP (p.l.take p.l.length) p.edge from by rw [List.take_of_length_le (Nat.le_refl _)]; rfl)
  clear h1 h2 hP hok
  go_enter Try.func22, Try.ntmps22
  go_wp2_with fail
  go_loop [3, 4] (fun n i => ∃ (k : Nat) (t : Int), i = .int .i64 k ∧ n = .int .i64 t ∧ k ≤ p.l.length ∧ 0 ≤ t ∧ t ≤ 4096 ∧ Hid (t = tailP (p.l.take k) p.edge)) (fun _ i => p.l.length - (intOf i).toNat)
  case atStart => exact ⟨0, p.edge, rfl, rfl, Nat.zero_le _, he.1, he.2, Lib.hid rfl⟩
  case round =>
    obtain ⟨k, t, rfl, rfl, hk, t0, t1, HT⟩ := hrel
    by_cases hlt : k < p.l.length
    · obtain ⟨bk, off, rfl, d0, d1, d2⟩ := HP.out k hlt
      have k0 : (k : Int) < (p.l.length : Int) := by omega
      obtain ⟨⟨e0, e1⟩, _⟩ := HE.out k hlt
      have HN2 := Lib.hid (HN.out k hlt)
      rw [← HT.out] at HN2
      generalize p.l[k].at_ = x at *
      obtain ⟨t5, ht5⟩ : ∃ t5, (if t < x + 1 then x + 1 else t) = t5 := ⟨_, rfl⟩
      have h5 : max t (x + 1) = t5 := by rw [← ht5]; split <;> omega
      have HT2 := Lib.hid (show t5 = tailP (p.l.take (k + 1)) p.edge from by rw [HN2.out, h5])
      have b0 : 0 ≤ t5 ∧ t5 ≤ 4096 := by rw [← h5]; omega
      clear h5
      go_wp2_with fail
      go_round
      case rel => exact ⟨k + 1, t5, by go_num, rfl, by omega, b0.1, b0.2, HT2⟩
      case measure => simp [intOf]; omega
    · obtain rfl : k = p.l.length := by omega
      go_wp2_with fail
      go_ret
      rw [HR.out, ← HT.out]
      exact ⟨rfl, rfl⟩
end Go.Proofs.Ytaodmdoagngdnaa
