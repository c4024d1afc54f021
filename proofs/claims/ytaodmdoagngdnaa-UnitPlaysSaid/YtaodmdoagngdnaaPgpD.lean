/- What the program's own Write, Fill and Read return, and make of pages. Conditions: the object lies where the call was told; its pages are as the calls make them. -/
import Derived.Test.YtaodmdoagngdnaaPgpC
namespace Go.Proofs.Ytaodmdoagngdnaa
open Go.RowKit Go.Maps
set_option linter.unusedVariables false
set_option maxRecDepth 20000
theorem Ps.Ok.none {p : Ps} (h : p.Ok) {a : Int} (ht : thereB a = true) (hk : p.kind a = 0) : a ∉ p.l.map (·.at_) := by
  intro hm
  obtain ⟨x, hx, e⟩ := List.mem_map.1 hm
  exact (h.kind_zero ht hk).2 x hx e
theorem Ps.Ok.most {p : Ps} (h : p.Ok) : p.l.length ≤ 100000 := by have := h.few; have := h.room; omega
set_option maxHeartbeats 8000000 in
theorem pwrite_any (G : Nat → Prop) (w : World) (b : Nat) (p : Ps) (a : Int) (s : ByteArray) (h : PGm G w b p) (hok : p.Ok) (hs : s.size ≤ 1000000) :
    Calls Try.prog 45 #[.pointer (some ⟨b, 0, none⟩), .int .i64 a, .string s] w fun e w' => e = .returned (.int .i64 (p.writeE a s)) ∧ Left PGm G w w' b (p.write a s) := by
  have CN := Lib.hid (isNone_any b a w)
  have CK := Lib.hid (kind_any G w b p a h)
  have HNO := Lib.hid (show ∀ c, p.writeE a s = c → c ≠ 0 → Left PGm G w w b (p.write a s) from fun c e hc => by
    unfold Ps.write
    rw [if_neg (by rw [e]; exact hc)]
    exact left_same h)
  by_cases ht : thereB a = true
  · rw [ht] at CN
    have ht' : ¬ thereB a = false := by rw [ht]; decide
    by_cases hz : 4096 < s.size
    · have HE := Lib.hid (show p.writeE a s = 2 from by unfold Ps.writeE; rw [if_neg ht', if_pos hz])
      have hz' : (4096 : Int) < (s.size : Int) := by omega
      clear h hok hz ht ht'
      generalize p.kind a = kd at *
      go_enter Try.func45, Try.ntmps45
      go_wp2_with (first | (go_at_call 50; refine CN.out.mono ?_; rintro e w1 ⟨rfl, rfl⟩) | (go_at_call 49; refine CK.out.mono ?_; rintro e w2 ⟨rfl, rfl⟩))
      go_ret
      rw [HE.out]
      exact ⟨rfl, HNO.out 2 HE.out (by decide)⟩
    have hz' : (s.size : Int) ≤ 4096 := by omega
    by_cases h3 : p.kind a = 3
    · have HE := Lib.hid (show p.writeE a s = 43 from by unfold Ps.writeE; rw [if_neg ht', if_neg hz, if_pos h3])
      rw [h3] at CK
      clear h hok h3 hz ht ht'
      go_enter Try.func45, Try.ntmps45
      go_wp2_with (first | (go_at_call 50; refine CN.out.mono ?_; rintro e w1 ⟨rfl, rfl⟩) | (go_at_call 49; refine CK.out.mono ?_; rintro e w2 ⟨rfl, rfl⟩))
      go_ret
      rw [HE.out]
      exact ⟨rfl, HNO.out 43 HE.out (by decide)⟩
    have d3 : (p.kind a == 3) = false := beq_eq_false_iff_ne.2 h3
    by_cases h0 : p.kind a = 0
    · rw [h0] at CK
      have CP := Lib.hid (put_any G w b p a 1 s h ht (hok.none ht h0) hs hok.most)
      have HE := Lib.hid (show (if p.room ≤ p.l.length then (44 : Int) else 0) = p.writeE a s from by unfold Ps.writeE; rw [if_neg ht', if_neg hz, if_neg h3, if_neg (show ¬ p.kind a ≠ 0 from by rw [h0]; decide)])
      have HW := Lib.hid (show (if p.room ≤ p.l.length then p else p.add ⟨a, 1, s⟩) = p.write a s from by
        unfold Ps.write
        rw [← HE.out]
        by_cases hr : p.room ≤ p.l.length
        · rw [if_pos hr, if_pos hr, if_neg (by decide)]
        · rw [if_neg hr, if_neg hr, if_pos rfl])
      rw [HE.out, HW.out] at CP
      clear h hok h3 h0 hz ht ht' d3
      go_enter Try.func45, Try.ntmps45
      go_wp2_with (first | (go_at_call 50; refine CN.out.mono ?_; rintro e w1 ⟨rfl, rfl⟩) | (go_at_call 49; refine CK.out.mono ?_; rintro e w2 ⟨rfl, rfl⟩) | (go_at_call 51; refine CP.out.mono ?_; rintro e w3 ⟨rfl, h3⟩))
      go_ret
      exact ⟨rfl, h3⟩
    · have HE := Lib.hid (show p.writeE a s = 41 from by unfold Ps.writeE; rw [if_neg ht', if_neg hz, if_neg h3, if_pos h0])
      have d0 : (p.kind a != 0) = true := bne_iff_ne.2 h0
      clear h hok h3 h0 hz ht ht'
      generalize p.kind a = kd at *
      go_enter Try.func45, Try.ntmps45
      go_wp2_with (first | (go_at_call 50; refine CN.out.mono ?_; rintro e w1 ⟨rfl, rfl⟩) | (go_at_call 49; refine CK.out.mono ?_; rintro e w2 ⟨rfl, rfl⟩))
      go_ret
      rw [HE.out]
      exact ⟨rfl, HNO.out 41 HE.out (by decide)⟩
  · have ht' : thereB a = false := Bool.eq_false_iff.2 ht
    have HE := Lib.hid (show p.writeE a s = 1 from by unfold Ps.writeE; rw [if_pos ht'])
    rw [ht'] at CN
    clear h hok ht ht'
    generalize p.kind a = kd at *
    go_enter Try.func45, Try.ntmps45
    go_wp2_with (first | (go_at_call 50; refine CN.out.mono ?_; rintro e w1 ⟨rfl, rfl⟩) | (go_at_call 49; refine CK.out.mono ?_; rintro e w2 ⟨rfl, rfl⟩))
    go_ret
    rw [HE.out]
    exact ⟨rfl, HNO.out 1 HE.out (by decide)⟩
theorem pwrite_nil (a : Int) (s : ByteArray) (w : World) (hs : s.size ≤ maxLen) : Calls Try.prog 45 #[.pointer none, .int .i64 a, .string s] w fun e w' => e = .returned (.int .i64 1) ∧ w = w' := by
  have CN := Lib.hid (isNone_nil a w)
  have CK := Lib.hid (kind_nil a w)
  go_enter Try.func45, Try.ntmps45
  go_wp2_with (first | (go_at_call 50; refine CN.out.mono ?_; rintro e w1 ⟨rfl, rfl⟩) | (go_at_call 49; refine CK.out.mono ?_; rintro e w2 ⟨rfl, rfl⟩))
  go_ret
  exact ⟨rfl, rfl⟩
set_option maxHeartbeats 8000000 in
theorem pfill_any (G : Nat → Prop) (w : World) (b : Nat) (p : Ps) (a : Int) (h : PGm G w b p) (hok : p.Ok) :
    Calls Try.prog 46 #[.pointer (some ⟨b, 0, none⟩), .int .i64 a] w fun e w' => e = .returned (.int .i64 (p.fillE a)) ∧ Left PGm G w w' b (p.fill a) := by
  have CN := Lib.hid (isNone_any b a w)
  have CK := Lib.hid (kind_any G w b p a h)
  have HNO := Lib.hid (show ∀ c, p.fillE a = c → (c ≠ 0 ∨ p.kind a = 2) → Left PGm G w w b (p.fill a) from fun c e hc => by
    unfold Ps.fill
    rw [if_neg (by rw [e]; rintro ⟨h1, h2⟩; rcases hc with hc | hc; exact hc h1; exact h2 hc)]
    exact left_same h)
  by_cases ht : thereB a = true
  · rw [ht] at CN
    have ht' : ¬ thereB a = false := by rw [ht]; decide
    have hks := hok.kinds a
    by_cases h3 : p.kind a = 3
    · have HE := Lib.hid (show p.fillE a = 43 from by unfold Ps.fillE; rw [if_neg ht', if_pos h3])
      rw [h3] at CK
      clear h hok h3 ht ht' hks
      go_enter Try.func46, Try.ntmps46
      go_wp2_with (first | (go_at_call 50; refine CN.out.mono ?_; rintro e w1 ⟨rfl, rfl⟩) | (go_at_call 49; refine CK.out.mono ?_; rintro e w2 ⟨rfl, rfl⟩))
      go_ret
      rw [HE.out]
      exact ⟨rfl, HNO.out 43 HE.out (.inl (by decide))⟩
    by_cases h2 : p.kind a = 2
    · have HE := Lib.hid (show p.fillE a = 0 from by unfold Ps.fillE; rw [if_neg ht', if_neg h3, if_pos h2])
      have HK := Lib.hid h2
      rw [h2] at CK
      clear h hok h3 h2 ht ht' hks
      go_enter Try.func46, Try.ntmps46
      go_wp2_with (first | (go_at_call 50; refine CN.out.mono ?_; rintro e w1 ⟨rfl, rfl⟩) | (go_at_call 49; refine CK.out.mono ?_; rintro e w2 ⟨rfl, rfl⟩))
      go_ret
      rw [HE.out]
      exact ⟨rfl, HNO.out 0 HE.out (.inr HK.out)⟩
    by_cases h1 : p.kind a = 1
    · have HE := Lib.hid (show p.fillE a = 41 from by unfold Ps.fillE; rw [if_neg ht', if_neg h3, if_neg h2, if_pos h1])
      rw [h1] at CK
      clear h hok h3 h2 h1 ht ht' hks
      go_enter Try.func46, Try.ntmps46
      go_wp2_with (first | (go_at_call 50; refine CN.out.mono ?_; rintro e w1 ⟨rfl, rfl⟩) | (go_at_call 49; refine CK.out.mono ?_; rintro e w2 ⟨rfl, rfl⟩))
      go_ret
      rw [HE.out]
      exact ⟨rfl, HNO.out 41 HE.out (.inl (by decide))⟩
    have h0 : p.kind a = 0 := by omega
    have CP := Lib.hid (put_any G w b p a 2 ⟨#[]⟩ h ht (hok.none ht h0) (by decide) hok.most)
    have HE := Lib.hid (show (if p.room ≤ p.l.length then (44 : Int) else 0) = p.fillE a from by unfold Ps.fillE; rw [if_neg ht', if_neg h3, if_neg h2, if_neg h1])
    have HW := Lib.hid (show (if p.room ≤ p.l.length then p else p.add ⟨a, 2, ⟨#[]⟩⟩) = p.fill a from by
      unfold Ps.fill
      rw [← HE.out]
      by_cases hr : p.room ≤ p.l.length
      · rw [if_pos hr, if_pos hr, if_neg (by rintro ⟨h, _⟩; exact absurd h (by decide))]
      · rw [if_neg hr, if_neg hr, if_pos ⟨rfl, h2⟩])
    rw [HE.out, HW.out] at CP
    rw [h0] at CK
    clear h hok h3 h0 h1 h2 ht ht' hks
    go_enter Try.func46, Try.ntmps46
    go_wp2_with (first | (go_at_call 50; refine CN.out.mono ?_; rintro e w1 ⟨rfl, rfl⟩) | (go_at_call 49; refine CK.out.mono ?_; rintro e w2 ⟨rfl, rfl⟩) | (go_at_call 51; refine CP.out.mono ?_; rintro e w3 ⟨rfl, h3⟩))
    go_ret
    exact ⟨rfl, h3⟩
  · have ht' : thereB a = false := Bool.eq_false_iff.2 ht
    have HE := Lib.hid (show p.fillE a = 1 from by unfold Ps.fillE; rw [if_pos ht'])
    rw [ht'] at CN
    clear h hok ht ht'
    go_enter Try.func46, Try.ntmps46
    go_wp2_with (go_at_call 50; refine CN.out.mono ?_; rintro e w1 ⟨rfl, rfl⟩)
    go_ret
    rw [HE.out]
    exact ⟨rfl, HNO.out 1 HE.out (.inl (by decide))⟩
theorem pfill_nil (a : Int) (w : World) : Calls Try.prog 46 #[.pointer none, .int .i64 a] w fun e w' => e = .returned (.int .i64 1) ∧ w = w' := by
  have CN := Lib.hid (isNone_nil a w)
  go_enter Try.func46, Try.ntmps46
  go_wp2_with (go_at_call 50; refine CN.out.mono ?_; rintro e w1 ⟨rfl, rfl⟩)
  go_ret
  exact ⟨rfl, rfl⟩
set_option maxHeartbeats 8000000 in
theorem pread_any (G : Nat → Prop) (w : World) (b : Nat) (p : Ps) (a : Int) (h : PGm G w b p) (hok : p.Ok) :
    Calls Try.prog 47 #[.pointer (some ⟨b, 0, none⟩), .int .i64 a] w fun e w' => e = .returned (.tuple #[.string (p.readS a), .int .i64 (p.readE a)]) ∧ Below w.heap.size w w' := by
  have CN := Lib.hid (isNone_any b a w)
  have CK := Lib.hid (kind_any G w b p a h)
  by_cases ht : thereB a = true
  · rw [ht] at CN
    have ht' : ¬ thereB a = false := by rw [ht]; decide
    have hks := hok.kinds a
    by_cases h3 : p.kind a = 3
    · have HE := Lib.hid (show p.readE a = 43 from by unfold Ps.readE; rw [if_neg ht', if_pos h3])
      have HS := Lib.hid (show p.readS a = ⟨#[]⟩ from by unfold Ps.readS; rw [HE.out]; rfl)
      rw [h3] at CK
      clear h hok h3 hks ht ht'
      go_enter Try.func47, Try.ntmps47
      go_wp2_with (first | (go_at_call 50; refine CN.out.mono ?_; rintro e w1 ⟨rfl, rfl⟩) | (go_at_call 49; refine CK.out.mono ?_; rintro e w2 ⟨rfl, rfl⟩))
      go_ret2
      rw [HE.out, HS.out]
      exact ⟨rfl, Below.refl _ _⟩
    by_cases h0 : p.kind a = 0
    · have HE := Lib.hid (show p.readE a = 42 from by unfold Ps.readE; rw [if_neg ht', if_neg h3, if_pos h0])
      have HS := Lib.hid (show p.readS a = ⟨#[]⟩ from by unfold Ps.readS; rw [HE.out]; rfl)
      rw [h0] at CK
      clear h hok h3 h0 hks ht ht'
      go_enter Try.func47, Try.ntmps47
      go_wp2_with (first | (go_at_call 50; refine CN.out.mono ?_; rintro e w1 ⟨rfl, rfl⟩) | (go_at_call 49; refine CK.out.mono ?_; rintro e w2 ⟨rfl, rfl⟩))
      go_ret2
      rw [HE.out, HS.out]
      exact ⟨rfl, Below.refl _ _⟩
    by_cases h2 : p.kind a = 2
    · have HE := Lib.hid (show p.readE a = 46 from by unfold Ps.readE; rw [if_neg ht', if_neg h3, if_neg h0, if_pos h2])
      have HS := Lib.hid (show p.readS a = ⟨#[]⟩ from by unfold Ps.readS; rw [HE.out]; rfl)
      rw [h2] at CK
      clear h hok h3 h0 h2 hks ht ht'
      go_enter Try.func47, Try.ntmps47
      go_wp2_with (first | (go_at_call 50; refine CN.out.mono ?_; rintro e w1 ⟨rfl, rfl⟩) | (go_at_call 49; refine CK.out.mono ?_; rintro e w2 ⟨rfl, rfl⟩))
      go_ret2
      rw [HE.out, HS.out]
      exact ⟨rfl, Below.refl _ _⟩
    have h1 : p.kind a = 1 := by omega
    have HE := Lib.hid (show p.readE a = 0 from by unfold Ps.readE; rw [if_neg ht', if_neg h3, if_neg h0, if_neg h2])
    have HS := Lib.hid (show p.readS a = textL p.l a from by unfold Ps.readS; rw [if_pos HE.out]; rfl)
    have HZ := Lib.hid (show (textL p.l a).size ≤ 1099511627776 from by
      unfold textL
      cases e : findP p.l a with
      | none => exact Nat.zero_le _
      | some x => have := (hok.each x (findP_some e).1).2.2; show x.s.size ≤ _; omega)
    obtain ⟨mb, g1, g2, _⟩ := h
    obtain ⟨c0, c1, c2, _⟩ := three_cells g1
    have hl := g2.look (there_wf ht)
    have hf := sheet_text
    rw [h1] at CK
    clear g1 g2 hok h3 h0 h1 h2 hks ht ht'
    generalize kindL p.l a = kk at *
    generalize textL p.l a = tt at *
    go_enter Try.func47, Try.ntmps47
    go_wp2_with (first | (go_at_call 50; refine CN.out.mono ?_; rintro e w1 ⟨rfl, rfl⟩) | (go_at_call 49; refine CK.out.mono ?_; rintro e w2 ⟨rfl, rfl⟩) | (go_at_call 52; refine (clone_any tt _ HZ.out).mono ?_; rintro e w3 ⟨rfl, hb3⟩))
    go_ret2
    rw [HE.out, HS.out]
    exact ⟨rfl, hb3⟩
  · have ht' : thereB a = false := Bool.eq_false_iff.2 ht
    have HE := Lib.hid (show p.readE a = 1 from by unfold Ps.readE; rw [if_pos ht'])
    have HS := Lib.hid (show p.readS a = ⟨#[]⟩ from by unfold Ps.readS; rw [HE.out]; rfl)
    rw [ht'] at CN
    clear h hok ht ht'
    go_enter Try.func47, Try.ntmps47
    go_wp2_with (go_at_call 50; refine CN.out.mono ?_; rintro e w1 ⟨rfl, rfl⟩)
    go_ret2
    rw [HE.out, HS.out]
    exact ⟨rfl, Below.refl _ _⟩
theorem pread_nil (a : Int) (w : World) : Calls Try.prog 47 #[.pointer none, .int .i64 a] w fun e w' => e = .returned (.tuple #[.string ⟨#[]⟩, .int .i64 1]) ∧ w = w' := by
  have CN := Lib.hid (isNone_nil a w)
  go_enter Try.func47, Try.ntmps47
  go_wp2_with (go_at_call 50; refine CN.out.mono ?_; rintro e w1 ⟨rfl, rfl⟩)
  go_ret2
  exact ⟨rfl, rfl⟩
end Go.Proofs.Ytaodmdoagngdnaa
