/- That proj is awake: the laws' own examples come out. Conditions: the program's functions return what ProgSays says. -/
import Derived.Test.YtbiihcoobknmjaaJPrjS
set_option linter.unusedVariables false
namespace Go.Proofs.Ytbiihcoobknmjaa
open Go.RowKit
set_option maxRecDepth 20000

theorem lay_eq (w : World) : (((((((((((w.alloc (.cells #[.int .i64 0, .int .i64 1] 3)).alloc (.cells #[.int .i64 2, .int .i64 3] 3)).alloc (.cells #[.slice (some ⟨w.heap.size, 0, none⟩) 2 2, .slice (some ⟨w.heap.size + 1, 0, none⟩) 2 2] 28)).alloc (.cells #[.int .i64 0, .slice (some ⟨w.heap.size + 1 + 1, 0, none⟩) 2 2] 24)).alloc (.cells #[.int .i64 1] 3)).alloc (.cells #[.int .i64 2, .int .i64 3, .int .i64 4] 3)).alloc (.cells #[.slice (some ⟨w.heap.size + 1 + 1 + 1 + 1, 0, none⟩) 1 1, .slice (some ⟨w.heap.size + 1 + 1 + 1 + 1 + 1, 0, none⟩) 3 3] 28)).alloc (.cells #[.int .i64 1, .slice (some ⟨w.heap.size + 1 + 1 + 1 + 1 + 1 + 1, 0, none⟩) 2 2] 24)).alloc (.cells #[.int .i64 1, .int .i64 0] 3)).alloc (.cells #[.int .i64 2, .int .i64 3] 3)).alloc (.cells #[.slice (some ⟨w.heap.size + 1 + 1 + 1 + 1 + 1 + 1 + 1 + 1, 0, none⟩) 2 2, .slice (some ⟨w.heap.size + 1 + 1 + 1 + 1 + 1 + 1 + 1 + 1 + 1, 0, none⟩) 2 2] 28)).alloc (.cells #[.int .i64 1, .slice (some ⟨w.heap.size + 1 + 1 + 1 + 1 + 1 + 1 + 1 + 1 + 1 + 1, 0, none⟩) 2 2] 24) = layP (layP (layP w 0 [0, 1] [2, 3]) 1 [1] [2, 3, 4]) 1 [1, 0] [2, 3] := by
  simp [layP]
theorem wfs {l : List Int} (h : ∀ u ∈ l, -9223372036854775808 ≤ u ∧ u ≤ 9223372036854775807) : ∀ u ∈ l, (Lit.int .i64 u).wf = true := fun u hu => WalkArith.wf_i64 (h u hu)
theorem lay_told (w W : World) (h : W = layP (layP (layP w 0 [0, 1] [2, 3]) 1 [1] [2, 3, 4]) 1 [1, 0] [2, 3]) :
    (Told W (some ⟨w.heap.size + 1 + 1, 0, none⟩) 2 exP ∧ PB W (w.heap.size + 1 + 1 + 1) 0 (some ⟨w.heap.size + 1 + 1, 0, none⟩) 2 2) ∧ (Told W (some ⟨w.heap.size + 1 + 1 + 1 + 1 + 1 + 1, 0, none⟩) 2 exQ ∧ PB W (w.heap.size + 1 + 1 + 1 + 1 + 1 + 1 + 1) 1 (some ⟨w.heap.size + 1 + 1 + 1 + 1 + 1 + 1, 0, none⟩) 2 2) ∧
    (Told W (some ⟨w.heap.size + 1 + 1 + 1 + 1 + 1 + 1 + 1 + 1 + 1 + 1, 0, none⟩) 2 exR ∧ PB W (w.heap.size + 1 + 1 + 1 + 1 + 1 + 1 + 1 + 1 + 1 + 1 + 1) 1 (some ⟨w.heap.size + 1 + 1 + 1 + 1 + 1 + 1 + 1 + 1 + 1 + 1, 0, none⟩) 2 2) ∧ Below w.heap.size w W ∧ W.heap.size = w.heap.size + 12 := by
  subst h
  obtain ⟨p1, p2⟩ := layP_told w 0 [0, 1] [2, 3] (wfs (by decide)) (wfs (by decide))
  have b1 := layP_below w 0 [0, 1] [2, 3]
  have s1 := layP_size w 0 [0, 1] [2, 3]
  generalize layP w 0 [0, 1] [2, 3] = W1 at *
  obtain ⟨q1, q2⟩ := layP_told W1 1 [1] [2, 3, 4] (wfs (by decide)) (wfs (by decide))
  have b2 := layP_below W1 1 [1] [2, 3, 4]
  have s2 := layP_size W1 1 [1] [2, 3, 4]
  rw [s1] at q1 q2 s2
  have p1 := p1.below b2
  have p2 := p2.below b2
  generalize layP W1 1 [1] [2, 3, 4] = W2 at *
  obtain ⟨r1, r2⟩ := layP_told W2 1 [1, 0] [2, 3] (wfs (by decide)) (wfs (by decide))
  have b3 := layP_below W2 1 [1, 0] [2, 3]
  have s3 := layP_size W2 1 [1, 0] [2, 3]
  rw [s2] at r1 r2 s3
  exact ⟨⟨p1.below b3, p2.below b3⟩, ⟨q1.below b3, q2.below b3⟩, ⟨r1, r2⟩, b1.trans ((b2.mono b1.size).trans (b3.mono (Nat.le_trans b1.size b2.size))), s3⟩
set_option maxHeartbeats 4000000 in
theorem wakes7_any (HS : ProgSays) (w : World) : Calls Try.prog 9 #[] w fun e w' => e = .returned (.bool true) ∧ Below w.heap.size w w' := by
  have SM := Lib.hid ex_small
  have FA := Lib.hid ex_facts
  have CO := Lib.hid ex_code
  go_enter Try.func9, Try.ntmps9
  go_wp2_with fail
  rw [lay_eq w]
  obtain ⟨W, hW⟩ : ∃ W, W = layP (layP (layP w 0 [0, 1] [2, 3]) 1 [1] [2, 3, 4]) 1 [1, 0] [2, 3] := ⟨_, rfl⟩
  rw [← hW]
  obtain ⟨⟨p1, p2⟩, ⟨q1, q2⟩, ⟨r1, r2⟩, hb, hs⟩ := lay_told w W hW
  have HW := Lib.hid hW
  have HB := Lib.hid hb
  have HP := Lib.hid p1
  have HQ := Lib.hid q1
  have HR := Lib.hid r1
  have HP2 := Lib.hid p2
  have HQ2 := Lib.hid q2
  have HR2 := Lib.hid r2
  have hlt : w.heap.size + 12 ≤ W.heap.size := by omega
  clear hW hb p1 q1 r1 p2 q2 r2 hs
  refine (HS.encode 0 _ 2 exP W HP.out SM.out.1 (by decide)).mono ?_
  rintro e w1 ⟨rfl, hb1⟩
  rw [CO.out.1, CO.out.2.1]
  have H1 := Lib.hid hb1
  have HD := Lib.hid CO.out.2.2
  clear hb1
  generalize projB 0 exP = s at *
  obtain ⟨x0, x1⟩ := (HP2.out.below H1.out).cells
  obtain ⟨y0, y1⟩ := (HQ2.out.below H1.out).cells
  obtain ⟨z0, z1⟩ := (HR2.out.below H1.out).cells
  go_wp2_with fail
  refine (HS.decode s w1 (by have := HD.out.2.2.2; omega)).mono ?_
  rintro e w2 ⟨bo, cb, rfl, ht, hb2⟩
  rw [HD.out.1, HD.out.2.2.1]
  rw [HD.out.2.1] at ht ⊢
  rw [show exP.length = 2 from rfl]
  have HT := Lib.hid (ht.below ((Below.refl _ _).alloc (Nat.le_refl _) (.cells #[.int .i64 0, .slice bo 2 cb] 24)))
  have HTB := Lib.hid (show PB (w2.alloc (.cells #[.int .i64 0, .slice bo 2 cb] 24)) w2.heap.size 0 bo 2 cb from heap_alloc_new _ _)
  have H2 := Lib.hid (H1.out.trans ((hb2.trans ((Below.refl _ _).alloc hb2.size (.cells #[.int .i64 0, .slice bo 2 cb] 24))).mono H1.out.size))
  have hlt2 : W.heap.size ≤ w2.heap.size := Nat.le_trans H1.out.size hb2.size
  have c0 := (HP2.out.below (H1.out.trans (hb2.mono H1.out.size))).cells
  obtain ⟨v0, v1⟩ := c0
  have hlt3 : w.heap.size + 1 + 1 + 1 < w2.heap.size := by omega
  clear x0 x1 y0 y1 z0 z1 ht hb2
  go_wp2_with fail
  refine (HS.good 0 _ 2 exP _ (HP.out.below H2.out) SM.out.1).mono ?_
  rintro e w3 ⟨rfl, hb3⟩
  rw [FA.out.1]
  clear v0 v1
  have H3 := Lib.hid (H2.out.trans (hb3.mono H2.out.size))
  have HTB3 := Lib.hid (HTB.out.below hb3)
  have HT3 := Lib.hid (HT.out.below hb3)
  obtain ⟨x0, x1⟩ := (HP2.out.below H3.out).cells
  obtain ⟨y0, y1⟩ := (HQ2.out.below H3.out).cells
  clear hb3
  go_wp2_with fail
  refine (HS.next 0 _ 2 exP 1 _ 2 exQ w3 (HP.out.below H3.out) (HQ.out.below H3.out) SM.out.1 SM.out.2.1).mono ?_
  rintro e w4 ⟨rfl, hb4⟩
  rw [FA.out.2.1]
  have H4 := Lib.hid (H3.out.trans (hb4.mono H3.out.size))
  have HTB4 := Lib.hid (HTB3.out.below hb4)
  have HT4 := Lib.hid (HT3.out.below hb4)
  clear x0 x1 y0 y1 hb4
  obtain ⟨x0, x1⟩ := (HP2.out.below H4.out).cells
  obtain ⟨z0, z1⟩ := (HR2.out.below H4.out).cells
  go_wp2_with fail
  refine (HS.next 0 _ 2 exP 1 _ 2 exR w4 (HP.out.below H4.out) (HR.out.below H4.out) SM.out.1 SM.out.2.2).mono ?_
  rintro e w5 ⟨rfl, hb5⟩
  rw [FA.out.2.2.1]
  have H5 := Lib.hid (H4.out.trans (hb5.mono H4.out.size))
  have HTB5 := Lib.hid (HTB4.out.below hb5)
  have HT5 := Lib.hid (HT4.out.below hb5)
  clear x0 x1 z0 z1 hb5
  obtain ⟨x0, x1⟩ := (HP2.out.below H5.out).cells
  obtain ⟨t0, t1⟩ := HTB5.out.cells
  go_wp2_with fail
  refine (keepProj_any 0 _ 2 exP 0 bo cb exP w5 (HP.out.below H5.out).1 HT5.out.1 ⟨by decide, by decide⟩ ⟨by decide, by decide⟩).mono ?_
  rintro e w6 ⟨rfl, hb6⟩
  rw [show sameP 0 exP 0 exP = true from decide_eq_true ⟨rfl, rfl⟩]
  have H6 := Lib.hid (H5.out.trans (hb6.mono H5.out.size))
  clear x0 x1 t0 t1 hb6
  obtain ⟨y0, y1⟩ := (HQ2.out.below H6.out).cells
  go_wp2_with fail
  refine (HS.units 1 _ 2 exQ w6 (HQ.out.below H6.out) SM.out.2.1).mono ?_
  rintro e w7 ⟨uo, uc, rfl, _, hb7⟩
  rw [FA.out.2.2.2]
  have H7 := Lib.hid (H6.out.trans (hb7.mono H6.out.size))
  clear hb7 y0 y1
  go_wp2_with fail
  go_ret
  exact ⟨rfl, HB.out.trans (H7.out.mono HB.out.size)⟩
end Go.Proofs.Ytbiihcoobknmjaa
