/- What the program's own Units returns. Conditions: the projection lies where the call was told, and is not too large. The program's unit in memory, and what its New, Crash, Start, Down, Epoch, Pages and coded return. No conditions but those that the statements name. -/
import Derived.Test.YtchhmfdalghgcaaGreatG14c
import Derived.Test.YtchhmfdalghgcaaGreatG14b
import Derived.Test.YtchhmfdalghgcaaGreatG08b
import Derived.Test.YtchhmfdalghgcaaGreatG07b
set_option linter.unusedVariables false
namespace Go.Proofs.YtchhmfdalghgcaaGreat
open Go.RowKit Go.Maps
set_option maxRecDepth 20000
theorem flat_small {L : List (List Int)} (hl : L.length ≤ 255 ∧ ∀ c ∈ L, c.length ≤ 255) : L.flatten.length ≤ 70000 := by
  have h4 := flat_le L 255 hl.2
  have h5 : 255 * L.length ≤ 255 * 255 := Nat.mul_le_mul_left _ hl.1
  omega
theorem Ms.le {L : List (List Int)} {D : DataW Unit} (h : Ms L D L.flatten) : Maps.size D ≤ L.flatten.length := by
  rw [h.size]
  have h3 := (insAll_length [] L.flatten List.Pairwise.nil).1
  simpa using h3
set_option maxHeartbeats 4000000 in
theorem punitsO_any (ep : Int) (ao : Option Addr) (cap : Nat) (L : List (List Int)) (w : World) (h : CL w ao L) (hl : L.length ≤ 255 ∧ ∀ c ∈ L, c.length ≤ 255) :
    Calls Tryz.prog 62 #[.agg #[.int .i64 ep, .slice ao L.length cap]] w fun e w' => ∃ v, e = .returned v ∧ OI w' w.heap.size v (unitsR L) ∧ Below w.heap.size w w' := by
  have HB0 := Lib.hid ((Below.refl w.heap.size w).alloc (Nat.le_refl _) (.cells #[.int .i64 ep, .slice ao L.length cap] 29))
  have HC := Lib.hid (h.below HB0.out)
  have HM := Lib.hid hl
  have CM := Lib.hid (met_any ep ao cap L _ HC.out HM.out)
  have HSM := Lib.hid (flat_small hl)
  have HWF := Lib.hid (preU_wf2 h)
  clear h hl
  go_enter Tryz.func62, Tryz.ntmps62
  go_wp2_with (first
    | (go_at_call 53; refine CM.out.mono ?_; rintro e w1 ⟨b, rfl, hb, ⟨D, hD, hMs⟩, hb1⟩; obtain ⟨nn, hnn⟩ : ∃ nn, nn = L.flatten.length := ⟨_, rfl⟩; rw [← hnn] at hD; have HNN := Lib.hid hnn; have HD := Lib.hid hD; clear hnn; have HMS := Lib.hid hMs; have HB1 := Lib.hid (HB0.out.trans (hb1.mono (by simp))); have HBL := Lib.hid hD.lt; clear hb hD hMs hb1)
    | (at_range; refine wpList_range_own _ rfl _ 112 rfl 143 141 unit_law Tryz.underlying112 spotR b _ _ rfl HD.out ?_; intro w2 hrg0 hg0 hs0))
  go_frame
  have HB2 := Lib.hid (HB1.out.grown hg0 HB1.out.size (fun j hj => by cases hj))
  have hbr := HBL.out
  have hB1 := HB1.out.size
  clear hg0
  go_loopw [3] (fun v wr => ∃ (left : Lit → Bool) (cnt : Nat) (l : List Int), Hid (wr.ranges Tryz.prog 143 spotR b w1.heap.size nn D left cnt) ∧ Hid (OI wr w2.heap.size v l) ∧ Hid (Coll L.flatten left l) ∧ Hid (l.length + cnt ≤ nn) ∧ Hid (Below w.heap.size w wr) ∧ w2.heap.size ≤ wr.heap.size) (fun _ wr => wr.rangeLeft b w1.heap.size)
  case atStart => exact ⟨_, _, [], Lib.hid hrg0, Lib.hid (OI.nil _ _), Lib.hid (Coll.start HMS.out), Lib.hid (by rw [HNN.out]; have := HMS.out.le; exact (Nat.zero_add _).symm ▸ this), HB2, Nat.le_refl _⟩
  case round =>
    obtain ⟨left, cnt, l, HR, HO, HL, HN, HB, hsz⟩ := hrel
    clear hrg0
    go_wp2_with (at_next; refine wpList_next_ranges (α := Int) (β := Int × Int) _ rfl _ rfl 143 unit_law spotR (fun x => .agg #[.int .i64 x]) (fun c => .agg #[.int .i64 c.1, .int .i64 c.2]) (fun key kl hkey => by obtain ⟨u, e, _⟩ := unit_inv hkey; exact ⟨u, e⟩) (fun v y hv => by obtain ⟨i, j, e, _⟩ := spotR_inv hv; exact ⟨(i, j), e⟩) b w1.heap.size _ _ _ _ rfl HR.out ?_ ?_)
    · intro hc0 hl0
      have HX := Lib.hid (sort_units HL.out.1 (HL.out.done hl0 HWF.out HO.out.2))
      have hlen : l.length ≤ 1000000 := by have := HN.out; have := HSM.out; have := HNN.out; omega
      have CS := Lib.hid (sort_ownO (HO.out.lower (show w.heap.size ≤ w2.heap.size by omega)) hlen HB.out.size)
      rw [HX.out] at CS
      go_wp2_with (go_at_call 68; refine CS.out.mono ?_; rintro e w3 ⟨rfl, hO3, hb3⟩; have HO3 := Lib.hid hO3; have HB3 := Lib.hid (HB.out.trans hb3); clear hO3 hb3)
      go_ret
      exact ⟨_, rfl, HO3.out, HB3.out⟩
    · intro x ci cj kl y1 y2 w3 cnt3 hkey hlk hv hat hrg3 hlt hg3 hs3 hen
      obtain ⟨u, e, hwf⟩ := unit_inv hkey
      obtain rfl : x = u := unit_inj x u e
      obtain rfl : kl = klU x := Option.some.inj (hkey.symm.trans (unit_key x hwf))
      have HCO := Lib.hid (HL.out.step HMS.out hwf hlk hat)
      have HR3 := Lib.hid hrg3
      have HW := Lib.hid hwf
      have HO3 := Lib.hid (HO.out.kept hg3 (by
        cases e : u3.ownBlock with
        | none => exact .inl rfl
        | some k => exact .inr (fun e2 => by have := (HO.out.1.lt k e).1; have := Option.some.inj e2; omega)))
      have HB3 := Lib.hid (HB.out.grown hg3 HB.out.size (fun j hj => by cases hj; exact hB1))
      have hlen : l.length + 1 ≤ 1000000 := by have := HN.out; have := HSM.out; have := HNN.out; omega
      have HN3 := Lib.hid (show (l ++ [x]).length + cnt3 ≤ nn from by have := HN.out; rw [List.length_append]; simp; omega)
      have HMK := Lib.hid (show NLI ((w3.alloc (.cells #[.int .i64 x] 143)).alloc (.cells #[.int .i64 x] 3)) (some ⟨wr.heap.size + 1, 0, none⟩) 1 [x] from by
        have h1 := NLI.made (w3.alloc (.cells #[.int .i64 x] 143)) x hwf
        rw [show (w3.alloc (.cells #[.int .i64 x] 143)).heap.size = wr.heap.size + 1 from by simp [hs3]] at h1
        exact h1)
      clear e hkey hlk hv hat hrg3 hg3 hwf
      go_wp2_with (refine wpList_app_ints (o := ⟨some 16, _, _, _, _, _⟩) rfl (.tmp 12) (.tmp 15) rfl (B := w2.heap.size) (v := u3) (D := l) rfl ((HO3.out.alloc _).alloc _) (ao := some ⟨_, 0, none⟩) (cap := 1) (l := [x]) (m := 1) rfl rfl HMK.out hlen (by simp; omega) ?_; intro v7 w7 hI hg _; have HO7 := Lib.hid hI; have HR7 := Lib.hid (((HR3.out.alloc _).alloc _).kept hg (fun e => by have := (HO3.out.1.lt _ e.symm).1; omega) (fun e => by have := (HO3.out.1.lt _ e.symm).1; omega)); have HB7 := Lib.hid (((HB3.out.alloc HB3.out.size _).alloc (by have := HB3.out.size; simp; omega) _).grown hg (by have := HB3.out.size; simp; omega) (fun k e => by have := (HO3.out.1.lt k e).1; omega)); have hsz7 : w2.heap.size ≤ w7.heap.size := (by have := hg.size; simp at this; omega); clear hI hg)
      go_roundw
      case rel => exact ⟨_, cnt3, l ++ [x], HR7, HO7, HCO, HN3, HB7, hsz7⟩
      case measure => rw [HR7.out.left_eq, HR.out.left_eq]; exact hlt
theorem punits_any (ep : Int) (ao : Option Addr) (cap : Nat) (L : List (List Int)) (w : World) (h : CL w ao L) (hl : L.length ≤ 255 ∧ ∀ c ∈ L, c.length ≤ 255) :
    Calls Tryz.prog 62 #[.agg #[.int .i64 ep, .slice ao L.length cap]] w fun e w' => ∃ bo cb, e = .returned (.slice bo (unitsR L).length cb) ∧ NLI w' bo cb (unitsR L) ∧ Below w.heap.size w w' := by
  refine (punitsO_any ep ao cap L w h hl).mono ?_
  rintro e w' ⟨v, rfl, hO, hb⟩
  obtain ⟨bo, cb, e, hN, _⟩ := hO.form
  exact ⟨bo, cb, by rw [e], hN, hb⟩
end Go.Proofs.YtchhmfdalghgcaaGreat
namespace Go.Proofs.YtchhmfdalghgcaaGreat
set_option linter.unusedVariables false
open Go.RowKit
set_option maxRecDepth 20000
/-- block b is the program's unit, block q its pages -/
def UM (b q : Nat) (G : Nat → Prop) (w : World) (u : Us) : Prop :=
  (u.p.Ok ∧ i64w u.epoch) ∧ w.heap[b]? = some (.cells #[ptrV q, .int .i64 u.epoch, .bool u.down] 124 (0, 0)) ∧ G b ∧ ∃ F : Nat → Prop, PGm F w q u.p ∧ (∀ k, F k → G k) ∧ ¬ F b ∧ ∀ k, G k → F k ∨ k = b
theorem um_thing (b q : Nat) : Thing (UM b q) where
  lt := by
    rintro G w u ⟨_, h1, _, F, h3, _, _, h6⟩ k hk
    rcases h6 k hk with h | h
    · exact h3.lt k h
    · rw [h]; exact lt_of_block h1
  keep := by
    rintro G S w w' u ⟨h0, h1, h2, F, h3, h4, h5, h6⟩ hk hS
    exact ⟨h0, hk.heap (hS b h2) h1, h2, F, h3.keep hk (fun k hf => hS k (h4 k hf)), h4, h5, h6⟩
section
variable {w : World} {b q : Nat} {G : Nat → Prop} {u : Us}
theorem UM.cells (h : UM b q G w u) : w.heap[b]? = some (.cells #[.pointer (some ⟨q, 0, none⟩), .int .i64 u.epoch, .bool u.down] 124 (0, 0)) := h.2.1
theorem UM.small (h : UM b q G w u) : b < w.heap.size := lt_of_block h.2.1
/-- a call on the pages -/
theorem UM.ready (h : UM b q G w u) : ∃ F : Nat → Prop, PGm F w q u.p ∧ u.p.Ok ∧ ∀ W2 p', p'.Ok → Left PGm F w W2 q p' → Leaves (UM b q) G w W2 ⟨p', u.epoch, u.down⟩ := by
  obtain ⟨⟨k1, k2⟩, k3, k4, F, k5, k6, k7, k8⟩ := h
  refine ⟨F, k5, k1, fun W2 p' hok hl => ?_⟩
  obtain ⟨F', r1, r2, r3⟩ := hl
  have hb := lt_of_block k3
  refine ⟨fun k => F' k ∨ k = b, ⟨⟨hok, k2⟩, r2.heap k7 k3, .inr rfl, F', r1, fun k hk => .inl hk, fun hf => ?_, fun k hk => hk⟩, ?_, fun k hk => ?_⟩
  · rcases r3 b hf with h3 | h3
    · exact k7 h3
    · omega
  · exact ⟨r2.os, r2.tape, r2.output, r2.size, fun k hg hkl => r2.block k (fun hf => hg (k6 k hf)) hkl⟩
  · rcases hk with hk | hk
    · exact (r3 k hk).imp (fun h => k6 k h) id
    · exact .inl (hk ▸ k4)
/-- the unit's epoch is another -/
theorem UM.seal (h : UM b q G w u) {ep : Int} (he : i64w ep) : Leaves (UM b q) G w (w.setCell ⟨b, 1, none⟩ (.int .i64 ep)) ⟨u.p, ep, u.down⟩ := by
  obtain ⟨⟨k1, k2⟩, k3, k4, F, k5, k6, k7, k8⟩ := h
  have hk : Kept (fun k => k ≠ b) w (w.setCell ⟨b, 1, none⟩ (.int .i64 ep)) := (Kept.refl _ w).setCell (p := ⟨b, 1, none⟩) (fun h => h rfl) _
  exact ⟨G, ⟨⟨k1, he⟩, three_set1 k3 _, k4, F, k5.keep hk (fun k hf e => k7 (e ▸ hf)), k6, k7, k8⟩, hk.mono (fun k hg e => hg (e ▸ k4)), fun k hk => .inl hk⟩
/-- it is down, or up -/
theorem UM.turn (h : UM b q G w u) (d : Bool) : Leaves (UM b q) G w (w.setCell ⟨b, 2, none⟩ (.bool d)) ⟨u.p, u.epoch, d⟩ := by
  obtain ⟨k0, k3, k4, F, k5, k6, k7, k8⟩ := h
  have hk : Kept (fun k => k ≠ b) w (w.setCell ⟨b, 2, none⟩ (.bool d)) := (Kept.refl _ w).setCell (p := ⟨b, 2, none⟩) (fun h => h rfl) _
  exact ⟨G, ⟨k0, three_set2 k3 _, k4, F, k5.keep hk (fun k hf e => k7 (e ▸ hf)), k6, k7, k8⟩, hk.mono (fun k hg e => hg (e ▸ k4)), fun k hk => .inl hk⟩
end
theorem un_new_yes (room : Int) (w : World) (h : 1 ≤ room ∧ room ≤ 4096) :
    Calls Tryz.prog 39 #[.int .i64 room] w fun e w' => ∃ (b q : Nat) (G : Nat → Prop), e = .returned (.tuple #[ptrV b, .int .i64 0]) ∧ UM b q G w' (newU room) ∧ (∀ k, G k → w.heap.size ≤ k) ∧ Below w.heap.size w w' := by
  have CN := Lib.hid (pnew_yes room w h)
  have HN := Lib.hid (newP_ok h)
  go_enter Tryz.func39, Tryz.ntmps39
  go_wp2_with (go_at_call 55; refine CN.out.mono ?_; rintro e w1 ⟨q, F, rfl, hg1, hg2, hb1⟩; have HG := Lib.hid hg1; have HF := Lib.hid hg2; have HB := Lib.hid hb1; clear hg1 hb1 hg2)
  go_ret2
  have hlt := HG.out.lt
  have hnf : ¬ F w1.heap.size := fun hf => Nat.lt_irrefl _ (hlt _ hf)
  have hb2 : Below w1.heap.size w1 (w1.alloc (.cells #[.pointer (some ⟨q, 0, none⟩), .int .i64 0, .bool false] 124)) := (Below.refl _ _).alloc (Nat.le_refl _) _
  refine ⟨w1.heap.size, q, fun k => F k ∨ k = w1.heap.size, rfl, ⟨⟨HN.out, WalkArith.wf_i64 (n := 0) (by decide)⟩, heap_alloc_new _ _, .inr rfl, F, HG.out.keep (Kept.ofBelow hb2 (fun _ => True)) (fun _ _ => trivial), fun k hk => .inl hk, hnf, fun k hk => hk⟩, fun k hk => ?_, HB.out.alloc HB.out.size _⟩
  rcases hk with h | h
  · exact HF.out k h
  · rw [h]; exact HB.out.size
theorem un_new_no (room : Int) (w : World) (h : room < 1 ∨ 4096 < room) (hr : i64w room) :
    Calls Tryz.prog 39 #[.int .i64 room] w fun e w' => e = .returned (.tuple #[.pointer none, .int .i64 1]) ∧ Below w.heap.size w w' := by
  have CN := Lib.hid (pnew_no room w h)
  clear h
  go_enter Tryz.func39, Tryz.ntmps39
  go_wp2_with (go_at_call 55; refine CN.out.mono ?_; rintro e w1 ⟨rfl, hb1⟩; have HB := Lib.hid hb1; clear hb1)
  go_ret2
  exact ⟨rfl, HB.out⟩
theorem coded_any (c : Int) (w : World) : Calls Tryz.prog 123 #[.int .i64 c] w fun e w' => e = .returned (anV c 0 noS 0) ∧ Below w.heap.size w w' := by
  go_enter Tryz.func123, Tryz.ntmps123
  go_wp2
  exact ans_ret (x := anP c 0 noS 0) (ao := none) (cap := 0) rfl (heap_alloc_new _ _) rfl rfl ⟨rfl, (Below.refl _ _).alloc (Nat.le_refl _) _⟩
end Go.Proofs.YtchhmfdalghgcaaGreat
