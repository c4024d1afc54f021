/- What the document's own New, Read, Write, Fill make of pages. Conditions: the object lies where the call was told; its pages are as the calls make them. -/
import Derived.Test.YtaodmdoagngdnaaPagB
namespace Go.Proofs.Ytaodmdoagngdnaa
open Go.RowKit
set_option maxRecDepth 20000
theorem rnew_yes (room : Int) (w : World) (h : 1 ≤ room ∧ room ≤ 4096) :
    Calls Try.prog 26 #[.int .i64 room] w fun e w' => e = .returned (.tuple #[.pointer (some ⟨w.heap.size, 0, none⟩), .int .i64 0]) ∧ RG (fun k => k = w.heap.size) w' w.heap.size (newP room) ∧ Below w.heap.size w w' := by
  obtain ⟨h0, h1⟩ := h
  go_enter Try.func26, Try.ntmps26
  go_wp2_with fail
  go_ret2
  exact ⟨rfl, ⟨.slice none 0 0, heap_alloc_new _ _, OG.nil _ _, fun k e => (by cases e), rfl, fun k hk => (by subst hk; simp)⟩, (Below.refl _ _).alloc (Nat.le_refl _) _⟩
theorem rnew_no (room : Int) (w : World) (h : room < 1 ∨ 4096 < room) :
    Calls Try.prog 26 #[.int .i64 room] w fun e w' => e = .returned (.tuple #[.pointer none, .int .i64 1]) ∧ w = w' := by
  by_cases h0 : room < 1
  · clear h
    go_enter Try.func26, Try.ntmps26
    go_wp2_with fail
    go_ret2
    exact ⟨rfl, rfl⟩
  · have h1 : 4096 < room := by omega
    have h2 : 1 ≤ room := by omega
    clear h h0
    go_enter Try.func26, Try.ntmps26
    go_wp2_with fail
    go_ret2
    exact ⟨rfl, rfl⟩
theorem Ps.Ok.small {p : Ps} (h : p.Ok) : p.l.length ≤ 4096 := by have := h.few; have := h.room; omega
theorem Ps.Ok.index {p : Ps} (h : p.Ok) {i j : Nat} (hi : i < p.l.length) (hj : j < p.l.length) (e : p.l[i].at_ = p.l[j].at_) : i = j := by
  have h1 := List.pairwise_iff_getElem.1 h.once
  rcases Nat.lt_trichotomy i j with h2 | h2 | h2
  · exact absurd (by rw [List.getElem_map, List.getElem_map]; exact e) (h1 i j (by simpa using hi) (by simpa using hj) h2)
  · exact h2
  · exact absurd (by rw [List.getElem_map, List.getElem_map]; exact e.symm) (h1 j i (by simpa using hj) (by simpa using hi) h2)
theorem rfind_at (G : Nat → Prop) (w : World) (b : Nat) (p : Ps) (h : RG G w b p) (hok : p.Ok) {k : Nat} (hk : k < p.l.length) (a : Int) (ha : p.l[k].at_ = a) :
    Calls Try.prog 39 #[.pointer (some ⟨b, 0, none⟩), .int .i64 a] w fun e w' => e = .returned (.int .i64 k) ∧ w = w' := by
  refine (rfind_any G w b p a h (by have := hok.small; omega)).mono ?_
  rintro e w' ⟨r, rfl, rfl, ⟨rfl, hf⟩ | ⟨j, rfl, hj, hf⟩⟩
  · exact absurd ha (findP_none.1 hf _ (List.getElem_mem hk))
  · obtain ⟨_, h2⟩ := findP_some hf
    rw [hok.index hj hk (h2.trans ha.symm)]
    exact ⟨rfl, rfl⟩
set_option maxHeartbeats 2000000 in
theorem rread_any (G : Nat → Prop) (w : World) (b : Nat) (p : Ps) (a : Int) (h : RG G w b p) (hok : p.Ok) :
    Calls Try.prog 32 #[.pointer (some ⟨b, 0, none⟩), .int .i64 a] w fun e w' => e = .returned (.tuple #[.string (p.readS a), .int .i64 (p.readE a)]) ∧ ∃ q, w' = w.drewN q := by
  have CT := Lib.hid (rthere_any a w)
  have CK := Lib.hid (rkind_any G w b p a h (by have := hok.small; omega))
  by_cases ht : thereB a = true
  · rw [ht] at CT
    have ht' : ¬ thereB a = false := by rw [ht]; decide
    have hks := hok.kinds a
    by_cases h3 : p.kind a = 3
    · have HE := Lib.hid (show p.readE a = 43 from by unfold Ps.readE; rw [if_neg ht', if_pos h3])
      have HS := Lib.hid (show p.readS a = ⟨#[]⟩ from by unfold Ps.readS; rw [HE.out]; rfl)
      rw [h3] at CK
      clear h hok h3 hks ht ht'
      go_enter Try.func32, Try.ntmps32
      go_wp2_with (first | (go_at_call 37; refine CT.out.mono ?_; rintro e w1 ⟨rfl, rfl⟩) | (go_at_call 38; refine CK.out.mono ?_; rintro e w2 ⟨rfl, rfl⟩))
      go_ret2
      rw [HE.out, HS.out]
      exact ⟨rfl, 0, rfl⟩
    by_cases h0 : p.kind a = 0
    · have HE := Lib.hid (show p.readE a = 42 from by unfold Ps.readE; rw [if_neg ht', if_neg h3, if_pos h0])
      have HS := Lib.hid (show p.readS a = ⟨#[]⟩ from by unfold Ps.readS; rw [HE.out]; rfl)
      rw [h0] at CK
      clear h hok h3 h0 hks ht ht'
      go_enter Try.func32, Try.ntmps32
      go_wp2_with (first | (go_at_call 37; refine CT.out.mono ?_; rintro e w1 ⟨rfl, rfl⟩) | (go_at_call 38; refine CK.out.mono ?_; rintro e w2 ⟨rfl, rfl⟩))
      go_ret2
      rw [HE.out, HS.out]
      exact ⟨rfl, 0, rfl⟩
    by_cases h2 : p.kind a = 2
    · have HE := Lib.hid (show p.readE a = 46 from by unfold Ps.readE; rw [if_neg ht', if_neg h3, if_neg h0, if_pos h2])
      have HS := Lib.hid (show p.readS a = ⟨#[]⟩ from by unfold Ps.readS; rw [HE.out]; rfl)
      rw [h2] at CK
      clear h hok h3 h0 h2 hks ht ht'
      go_enter Try.func32, Try.ntmps32
      go_wp2_with (first | (go_at_call 37; refine CT.out.mono ?_; rintro e w1 ⟨rfl, rfl⟩) | (go_at_call 38; refine CK.out.mono ?_; rintro e w2 ⟨rfl, rfl⟩))
      go_ret2
      rw [HE.out, HS.out]
      exact ⟨rfl, 0, rfl⟩
    have h1 : p.kind a = 1 := by omega
    have HE := Lib.hid (show p.readE a = 0 from by unfold Ps.readE; rw [if_neg ht', if_neg h3, if_neg h0, if_neg h2])
    obtain ⟨k, hk, hka, hkt⟩ : ∃ (k : Nat) (hk : k < p.l.length), p.l[k].at_ = a ∧ p.text a = p.l[k].s := by
      cases hf : findP p.l a with
      | none =>
        exfalso
        unfold Ps.kind at h1
        rw [if_pos ht, hf] at h1
        split at h1
        · omega
        · simp at h1
      | some x =>
        obtain ⟨hx, e⟩ := findP_some hf
        obtain ⟨k, hk, rfl⟩ := List.getElem_of_mem hx
        exact ⟨k, hk, e, by unfold Ps.text; rw [hf]⟩
    have HS := Lib.hid (show p.readS a = p.l[k].s from by unfold Ps.readS; rw [if_pos HE.out, hkt])
    have CF := Lib.hid (fun n => rfind_at G (w.drewN n) b p (h.below (below_drewN (Below.refl _ _) n)) hok hk a hka)
    obtain ⟨v, g1, g2, _⟩ := h
    obtain ⟨ao, cap, rfl, hP, _, _⟩ := g2.form
    obtain ⟨c0, c1, c2, _, _, _⟩ := three_cells g1
    obtain ⟨bk, off, rfl, d0, d1, d2⟩ := hP k hk
    have k0 : (k : Int) < (p.l.length : Int) := by omega
    have k1 : (0 : Int) ≤ (k : Int) := by omega
    rw [h1] at CK
    clear hok h0 h1 h2 h3 hks ht ht' g1 g2 hP hkt
    go_enter Try.func32, Try.ntmps32
    go_wp2_with (first | (go_at_call 37; refine CT.out.mono ?_; rintro e w1 ⟨rfl, rfl⟩) | (go_at_call 38; refine CK.out.mono ?_; rintro e w2 ⟨rfl, rfl⟩))
    go_quiet ((go_at_call 39; exact quiet_eq (CF.out _)))
    go_wp2_with fail
    go_ret2
    rw [HE.out, HS.out]
    exact ⟨rfl, nq, by first | rfl | simp⟩
  · have ht' : thereB a = false := Bool.eq_false_iff.2 ht
    have HE := Lib.hid (show p.readE a = 1 from by unfold Ps.readE; rw [if_pos ht'])
    have HS := Lib.hid (show p.readS a = ⟨#[]⟩ from by unfold Ps.readS; rw [HE.out]; rfl)
    rw [ht'] at CT
    clear h hok ht ht'
    go_enter Try.func32, Try.ntmps32
    go_wp2_with (go_at_call 37; refine CT.out.mono ?_; rintro e w1 ⟨rfl, rfl⟩)
    go_ret2
    rw [HE.out, HS.out]
    exact ⟨rfl, 0, rfl⟩
end Go.Proofs.Ytaodmdoagngdnaa
