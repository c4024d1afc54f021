/- What the program's own Units returns. Conditions: the projection lies where the call was told, and is not too large. Many things in memory, each of them in blocks of its own, as one thing whose blocks are theirs. Conditions: as each statement says. -/
import Derived.Test.YtphigibhgldnpaaGreatG14b
set_option linter.unusedVariables false
namespace Go.Proofs.YtphigibhgldnpaaGreat
open Go.RowKit Go.Maps
set_option maxRecDepth 20000
theorem flat_small {L : List (List Int)} (hl : L.length ≤ 255 ∧ ∀ c ∈ L, c.length ≤ 255) : L.flatten.length ≤ 70000 := by
  have h4 := flat_le L 255 hl.2
  have h5 : 255 * L.length ≤ 255 * 255 := Nat.mul_le_mul_left _ hl.1
  omega
theorem Ms.le {L : List (List Int)} {D : DataW Unit} (h : Ms L D L.flatten) : Maps.size D ≤ L.flatten.length := by
  rw [h.size]
  have h3 := (insAll_length [] L.flatten List.Pairwise.nil).1
  simpa using h3
set_option maxHeartbeats 4000000 in
theorem punitsO_any (ep : Int) (ao : Option Addr) (cap : Nat) (L : List (List Int)) (w : World) (h : CL w ao L) (hl : L.length ≤ 255 ∧ ∀ c ∈ L, c.length ≤ 255) :
    Calls Tryz.prog 63 #[.agg #[.int .i64 ep, .slice ao L.length cap]] w fun e w' => ∃ v, e = .returned v ∧ OI w' w.heap.size v (unitsR L) ∧ Below w.heap.size w w' := by
  have HB0 := Lib.hid ((Below.refl w.heap.size w).alloc (Nat.le_refl _) (.cells #[.int .i64 ep, .slice ao L.length cap] 24))
  have HC := Lib.hid (h.below HB0.out)
  have HM := Lib.hid hl
  have CM := Lib.hid (met_any ep ao cap L _ HC.out HM.out)
  have HSM := Lib.hid (flat_small hl)
  have HWF := Lib.hid (preU_wf2 h)
  clear h hl
  go_enter Tryz.func63, Tryz.ntmps63
  go_wp2_with (first
    | (go_at_call 62; refine CM.out.mono ?_; rintro e w1 ⟨b, rfl, hb, ⟨D, hD, hMs⟩, hb1⟩; obtain ⟨nn, hnn⟩ : ∃ nn, nn = L.flatten.length := ⟨_, rfl⟩; rw [← hnn] at hD; have HNN := Lib.hid hnn; have HD := Lib.hid hD; clear hnn; have HMS := Lib.hid hMs; have HB1 := Lib.hid (HB0.out.trans (hb1.mono (by simp))); have HBL := Lib.hid hD.lt; clear hb hD hMs hb1)
    | (at_range; refine wpList_range_own _ rfl _ 125 rfl 134 132 unit_law Tryz.underlying125 spotR b _ _ rfl HD.out ?_; intro w2 hrg0 hg0 hs0))
  go_frame
  have HB2 := Lib.hid (HB1.out.grown hg0 HB1.out.size (fun j hj => by cases hj))
  have hbr := HBL.out
  have hB1 := HB1.out.size
  clear hg0
  go_loopw [3] (fun v wr => ∃ (left : Lit → Bool) (cnt : Nat) (l : List Int), Hid (wr.ranges Tryz.prog 134 spotR b w1.heap.size nn D left cnt) ∧ Hid (OI wr w2.heap.size v l) ∧ Hid (Coll L.flatten left l) ∧ Hid (l.length + cnt ≤ nn) ∧ Hid (Below w.heap.size w wr) ∧ w2.heap.size ≤ wr.heap.size) (fun _ wr => wr.rangeLeft b w1.heap.size)
  case atStart => exact ⟨_, _, [], Lib.hid hrg0, Lib.hid (OI.nil _ _), Lib.hid (Coll.start HMS.out), Lib.hid (by rw [HNN.out]; have := HMS.out.le; exact (Nat.zero_add _).symm ▸ this), HB2, Nat.le_refl _⟩
  case round =>
    obtain ⟨left, cnt, l, HR, HO, HL, HN, HB, hsz⟩ := hrel
    clear hrg0
    go_wp2_with (at_next; refine wpList_next_ranges (α := Int) (β := Int × Int) _ rfl _ rfl 134 unit_law spotR (fun x => .agg #[.int .i64 x]) (fun c => .agg #[.int .i64 c.1, .int .i64 c.2]) (fun key kl hkey => by obtain ⟨u, e, _⟩ := unit_inv hkey; exact ⟨u, e⟩) (fun v y hv => by obtain ⟨i, j, e, _⟩ := spotR_inv hv; exact ⟨(i, j), e⟩) b w1.heap.size _ _ _ _ rfl HR.out ?_ ?_)
    · intro hc0 hl0
      have HX := Lib.hid (sort_units HL.out.1 (HL.out.done hl0 HWF.out HO.out.2))
      have hlen : l.length ≤ 1000000 := by have := HN.out; have := HSM.out; have := HNN.out; omega
      have CS := Lib.hid (sort_ownO (HO.out.lower (show w.heap.size ≤ w2.heap.size by omega)) hlen HB.out.size)
      rw [HX.out] at CS
      go_wp2_with (go_at_call 74; refine CS.out.mono ?_; rintro e w3 ⟨rfl, hO3, hb3⟩; have HO3 := Lib.hid hO3; have HB3 := Lib.hid (HB.out.trans hb3); clear hO3 hb3)
      go_ret
      exact ⟨_, rfl, HO3.out, HB3.out⟩
    · intro x ci cj kl y1 y2 w3 cnt3 hkey hlk hv hat hrg3 hlt hg3 hs3 hen
      obtain ⟨u, e, hwf⟩ := unit_inv hkey
      obtain rfl : x = u := unit_inj x u e
      obtain rfl : kl = klU x := Option.some.inj (hkey.symm.trans (unit_key x hwf))
      have HCO := Lib.hid (HL.out.step HMS.out hwf hlk hat)
      have HR3 := Lib.hid hrg3
      have HW := Lib.hid hwf
      have HO3 := Lib.hid (HO.out.kept hg3 (by
        cases e : u3.ownBlock with
        | none => exact .inl rfl
        | some k => exact .inr (fun e2 => by have := (HO.out.1.lt k e).1; have := Option.some.inj e2; omega)))
      have HB3 := Lib.hid (HB.out.grown hg3 HB.out.size (fun j hj => by cases hj; exact hB1))
      have hlen : l.length + 1 ≤ 1000000 := by have := HN.out; have := HSM.out; have := HNN.out; omega
      have HN3 := Lib.hid (show (l ++ [x]).length + cnt3 ≤ nn from by have := HN.out; rw [List.length_append]; simp; omega)
      have HMK := Lib.hid (show NLI ((w3.alloc (.cells #[.int .i64 x] 134)).alloc (.cells #[.int .i64 x] 3)) (some ⟨wr.heap.size + 1, 0, none⟩) 1 [x] from by
        have h1 := NLI.made (w3.alloc (.cells #[.int .i64 x] 134)) x hwf
        rw [show (w3.alloc (.cells #[.int .i64 x] 134)).heap.size = wr.heap.size + 1 from by simp [hs3]] at h1
        exact h1)
      clear e hkey hlk hv hat hrg3 hg3 hwf
      go_wp2_with (refine wpList_app_ints (o := ⟨some 16, _, _, _, _, _⟩) rfl (.tmp 12) (.tmp 15) rfl (B := w2.heap.size) (v := u3) (D := l) rfl ((HO3.out.alloc _).alloc _) (ao := some ⟨_, 0, none⟩) (cap := 1) (l := [x]) (m := 1) rfl rfl HMK.out hlen (by simp; omega) ?_; intro v7 w7 hI hg _; have HO7 := Lib.hid hI; have HR7 := Lib.hid (((HR3.out.alloc _).alloc _).kept hg (fun e => by have := (HO3.out.1.lt _ e.symm).1; omega) (fun e => by have := (HO3.out.1.lt _ e.symm).1; omega)); have HB7 := Lib.hid (((HB3.out.alloc HB3.out.size _).alloc (by have := HB3.out.size; simp; omega) _).grown hg (by have := HB3.out.size; simp; omega) (fun k e => by have := (HO3.out.1.lt k e).1; omega)); have hsz7 : w2.heap.size ≤ w7.heap.size := (by have := hg.size; simp at this; omega); clear hI hg)
      go_roundw
      case rel => exact ⟨_, cnt3, l ++ [x], HR7, HO7, HCO, HN3, HB7, hsz7⟩
      case measure => rw [HR7.out.left_eq, HR.out.left_eq]; exact hlt
theorem punits_any (ep : Int) (ao : Option Addr) (cap : Nat) (L : List (List Int)) (w : World) (h : CL w ao L) (hl : L.length ≤ 255 ∧ ∀ c ∈ L, c.length ≤ 255) :
    Calls Tryz.prog 63 #[.agg #[.int .i64 ep, .slice ao L.length cap]] w fun e w' => ∃ bo cb, e = .returned (.slice bo (unitsR L).length cb) ∧ NLI w' bo cb (unitsR L) ∧ Below w.heap.size w w' := by
  refine (punitsO_any ep ao cap L w h hl).mono ?_
  rintro e w' ⟨v, rfl, hO, hb⟩
  obtain ⟨bo, cb, e, hN, _⟩ := hO.form
  exact ⟨bo, cb, by rw [e], hN, hb⟩
end Go.Proofs.YtphigibhgldnpaaGreat
namespace Go.Proofs.YtphigibhgldnpaaGreat
set_option linter.unusedVariables false
open Go.RowKit
set_option maxRecDepth 20000
/-- the things T 0 .. T (n - 1), in blocks of their own that are all of G -/
def BundG (n : Nat) (T : Nat → (Nat → Prop) → World → Prop) (G : Nat → Prop) (w : World) : Prop :=
  ∃ F : Nat → Nat → Prop, (∀ i, i < n → T i (F i) w) ∧ (∀ i j, i < n → j < n → i ≠ j → ∀ k, F i k → ¬ F j k) ∧ ∀ k, G k ↔ ∃ i, i < n ∧ F i k
section
variable {n i : Nat} {T : Nat → (Nat → Prop) → World → Prop} {U : (Nat → Prop) → World → Prop} {G C : Nat → Prop} {w w' : World}
theorem BundG.lt (hT : ∀ i, i < n → Part (T i)) (h : BundG n T G w) : ∀ k, G k → k < w.heap.size := by
  obtain ⟨F, h1, h2, h3⟩ := h
  intro k hk
  obtain ⟨i, hi, hf⟩ := (h3 k).1 hk
  exact (hT i hi).lt (h1 i hi) k hf
theorem BundG.keep (hT : ∀ i, i < n → Part (T i)) (h : BundG n T G w) {S : Nat → Prop} (hk : Kept S w w') (hS : ∀ k, G k → S k) : BundG n T G w' := by
  obtain ⟨F, h1, h2, h3⟩ := h
  exact ⟨F, fun i hi => (hT i hi).keep (h1 i hi) hk (fun k hf => hS k ((h3 k).2 ⟨i, hi, hf⟩)), h2, h3⟩
theorem BundG.same {T2 : Nat → (Nat → Prop) → World → Prop} (h : BundG n T G w) (e : ∀ i, i < n → ∀ F W, T i F W → T2 i F W) : BundG n T2 G w := by
  obtain ⟨F, h1, h2, h3⟩ := h
  exact ⟨F, fun i hi => e i hi _ _ (h1 i hi), h2, h3⟩
theorem BundG.look (h : BundG n T G w) (hi : i < n) : ∃ F, T i F w ∧ ∀ k, F k → G k := by
  obtain ⟨F, h1, h2, h3⟩ := h
  exact ⟨F i, h1 i hi, fun k hf => (h3 k).2 ⟨i, hi, hf⟩⟩
/-- one of them has turned, in its own blocks and new ones; C: new memory that was handed out besides -/
theorem bundg_turn {F : Nat → Nat → Prop} {F' : Nat → Prop} (hT : ∀ i, i < n → Part (T i)) (h1 : ∀ i, i < n → T i (F i) w) (h2 : ∀ i j, i < n → j < n → i ≠ j → ∀ k, F i k → ¬ F j k) (h3 : ∀ k, G k ↔ ∃ i, i < n ∧ F i k) (hi : i < n) (hC : ∀ k, C k → w.heap.size ≤ k)
    (r1 : U F' w') (r2 : ∀ k, C k → ¬ F' k) (r3 : Kept (fun k => ¬ F i k) w w') (r4 : ∀ k, F' k → F i k ∨ w.heap.size ≤ k) :
    ∃ G' : Nat → Prop, BundG n (swapP T i U) G' w' ∧ (∀ k, C k → ¬ G' k) ∧ Kept (fun k => ¬ G k) w w' ∧ ∀ k, G' k → G k ∨ w.heap.size ≤ k := by
  refine ⟨fun k => ∃ j, j < n ∧ (if j = i then F' else F j) k, ⟨fun j => if j = i then F' else F j, fun j hj => ?_, fun j l hj hl hne k hf hg => ?_, fun k => Iff.rfl⟩, ?_, r3.mono (fun k hn hf => hn ((h3 k).2 ⟨i, hi, hf⟩)), ?_⟩
  · unfold swapP
    by_cases e : j = i
    · simp only [e, if_true]
      exact r1
    · simp only [e, if_false]
      exact (hT j hj).keep (h1 j hj) r3 (fun k hf hg => h2 j i hj hi e k hf hg)
  · by_cases e : j = i
    · have e2 : l ≠ i := fun h => hne (e.trans h.symm)
      simp only [e, if_true] at hf
      simp only [e2, if_false] at hg
      rcases r4 k hf with h | h
      · exact h2 i l hi hl (fun h => e2 h.symm) k h hg
      · have := (hT l hl).lt (h1 l hl) k hg; omega
    · simp only [e, if_false] at hf
      by_cases e2 : l = i
      · simp only [e2, if_true] at hg
        rcases r4 k hg with h | h
        · exact h2 j i hj hi e k hf h
        · have := (hT j hj).lt (h1 j hj) k hf; omega
      · simp only [e2, if_false] at hg
        exact h2 j l hj hl hne k hf hg
  · rintro k hk ⟨j, hj, hf⟩
    by_cases e : j = i
    · simp only [e, if_true] at hf
      exact r2 k hk hf
    · simp only [e, if_false] at hf
      have := (hT j hj).lt (h1 j hj) k hf
      have := hC k hk
      omega
  · rintro k ⟨j, hj, hf⟩
    by_cases e : j = i
    · simp only [e, if_true] at hf
      rcases r4 k hf with h | h
      · exact .inl ((h3 k).2 ⟨i, hi, h⟩)
      · exact .inr h
    · simp only [e, if_false] at hf
      exact .inl ((h3 k).2 ⟨j, hj, hf⟩)
/-- a question that one of them answers, as one to all of them: S is what they are together, s' what behind it -/
theorem bundg_tells {α β : Type} {V : (Nat → Prop) → World → α → Prop} {N : (Nat → Prop) → World → β → Prop} {v' : α} {s' : β} {x : An} {P : Program} {fn : FuncId} {args : Array Value} (hT : ∀ i, i < n → Part (T i)) (h : BundG n T G w) (hi : i < n)
    (hN : ∀ G' W, BundG n (swapP T i (fun F W => V F W v')) G' W → N G' W s') (hc : ∀ F : Nat → Prop, T i F w → (∀ k, F k → G k) → Calls P fn args w fun e w' => Tells V F w v' x e w') : Calls P fn args w fun e w' => Tells N G w s' x e w' := by
  obtain ⟨F, h1, h2, h3⟩ := h
  refine (hc (F i) (h1 i hi) (fun k hf => (h3 k).2 ⟨i, hi, hf⟩)).mono ?_
  rintro e w' ⟨ao, cap, C, he, hC1, hC2, F', r1, r2, r3, r4⟩
  obtain ⟨G', s1, s2, s3, s4⟩ := bundg_turn (U := fun F W => V F W v') hT h1 h2 h3 hi (fun k hk => (hC2 k hk).1) r1 r2 r3 r4
  exact ⟨ao, cap, C, he, hC1, hC2, G', hN G' w' s1, s2, s3, s4⟩
/-- one more is made, in new memory -/
theorem BundG.more (hT : ∀ i, i < n → Part (T i)) (h : BundG n T G w) (hb : Below w.heap.size w w') {H : Nat → Prop} (hu : U H w') (hH : ∀ k, H k → w.heap.size ≤ k) : BundG (n + 1) (swapP T n U) (fun k => G k ∨ H k) w' := by
  obtain ⟨F, h1, h2, h3⟩ := h
  have hold : ∀ j, j < n → T j (F j) w' := fun j hj => (hT j hj).keep (h1 j hj) (Kept.ofBelow hb (fun _ => True)) (fun _ _ => trivial)
  refine ⟨fun j => if j = n then H else F j, fun j hj => ?_, fun j l hj hl hne k hf hg => ?_, fun k => ⟨fun hk => ?_, ?_⟩⟩
  · unfold swapP
    by_cases e : j = n
    · simp only [e, if_true]
      exact hu
    · simp only [e, if_false]
      exact hold j (by omega)
  · by_cases e : j = n
    · have e2 : l ≠ n := fun h => hne (e.trans h.symm)
      simp only [e, if_true] at hf
      simp only [e2, if_false] at hg
      have := (hT l (by omega)).lt (h1 l (by omega)) k hg
      have := hH k hf
      omega
    · simp only [e, if_false] at hf
      by_cases e2 : l = n
      · simp only [e2, if_true] at hg
        have := (hT j (by omega)).lt (h1 j (by omega)) k hf
        have := hH k hg
        omega
      · simp only [e2, if_false] at hg
        exact h2 j l (by omega) (by omega) hne k hf hg
  · rcases hk with hk | hk
    · obtain ⟨j, hj, hf⟩ := (h3 k).1 hk
      exact ⟨j, by omega, by show (if j = n then H else F j) k; rw [if_neg (by omega)]; exact hf⟩
    · exact ⟨n, by omega, by show (if n = n then H else F n) k; rw [if_pos rfl]; exact hk⟩
  · rintro ⟨j, hj, hf⟩
    by_cases e : j = n
    · rw [if_pos e] at hf
      exact .inr hf
    · rw [if_neg e] at hf
      exact .inl ((h3 k).2 ⟨j, by omega, hf⟩)
end
end Go.Proofs.YtphigibhgldnpaaGreat
