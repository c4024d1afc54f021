/- What the program's own Units returns. Conditions: the projection lies where the call was told, and is not too large. May a projection come next? What the document's own layout tells. Conditions: it and the projection lie where the call was told; no more than 1000000 units were noted. -/
import Derived.Test.YtphigibhgldnpaaG14d
import Derived.Test.YtphigibhgldnpaaG14b
set_option linter.unusedVariables false
namespace Go.Proofs.Ytphigibhgldnpaa
open Go.RowKit Go.Maps
set_option maxRecDepth 20000
theorem flat_small {L : List (List Int)} (hl : L.length ≤ 255 ∧ ∀ c ∈ L, c.length ≤ 255) : L.flatten.length ≤ 70000 := by
  have h4 := flat_le L 255 hl.2
  have h5 : 255 * L.length ≤ 255 * 255 := Nat.mul_le_mul_left _ hl.1
  omega
theorem Ms.le {L : List (List Int)} {D : DataW Unit} (h : Ms L D L.flatten) : Maps.size D ≤ L.flatten.length := by
  rw [h.size]
  have h3 := (insAll_length [] L.flatten List.Pairwise.nil).1
  simpa using h3
set_option maxHeartbeats 4000000 in
theorem punitsO_any (ep : Int) (ao : Option Addr) (cap : Nat) (L : List (List Int)) (w : World) (h : CL w ao L) (hl : L.length ≤ 255 ∧ ∀ c ∈ L, c.length ≤ 255) :
    Calls Try.prog 39 #[.agg #[.int .i64 ep, .slice ao L.length cap]] w fun e w' => ∃ v, e = .returned v ∧ OI w' w.heap.size v (unitsR L) ∧ Below w.heap.size w w' := by
  have HB0 := Lib.hid ((Below.refl w.heap.size w).alloc (Nat.le_refl _) (.cells #[.int .i64 ep, .slice ao L.length cap] 30))
  have HC := Lib.hid (h.below HB0.out)
  have HM := Lib.hid hl
  have CM := Lib.hid (met_any ep ao cap L _ HC.out HM.out)
  have HSM := Lib.hid (flat_small hl)
  have HWF := Lib.hid (preU_wf2 h)
  clear h hl
  go_enter Try.func39, Try.ntmps39
  go_wp2_with (first
    | (go_at_call 38; refine CM.out.mono ?_; rintro e w1 ⟨b, rfl, hb, ⟨D, hD, hMs⟩, hb1⟩; obtain ⟨nn, hnn⟩ : ∃ nn, nn = L.flatten.length := ⟨_, rfl⟩; rw [← hnn] at hD; have HNN := Lib.hid hnn; have HD := Lib.hid hD; clear hnn; have HMS := Lib.hid hMs; have HB1 := Lib.hid (HB0.out.trans (hb1.mono (by simp))); have HBL := Lib.hid hD.lt; clear hb hD hMs hb1)
    | (at_range; refine wpList_range_own _ rfl _ 89 rfl 99 97 unit_law Try.underlying89 spotR b _ _ rfl HD.out ?_; intro w2 hrg0 hg0 hs0))
  go_frame
  have HB2 := Lib.hid (HB1.out.grown hg0 HB1.out.size (fun j hj => by cases hj))
  have hbr := HBL.out
  have hB1 := HB1.out.size
  clear hg0
  go_loopw [3] (fun v wr => ∃ (left : Lit → Bool) (cnt : Nat) (l : List Int), Hid (wr.ranges Try.prog 99 spotR b w1.heap.size nn D left cnt) ∧ Hid (OI wr w2.heap.size v l) ∧ Hid (Coll L.flatten left l) ∧ Hid (l.length + cnt ≤ nn) ∧ Hid (Below w.heap.size w wr) ∧ w2.heap.size ≤ wr.heap.size) (fun _ wr => wr.rangeLeft b w1.heap.size)
  case atStart => exact ⟨_, _, [], Lib.hid hrg0, Lib.hid (OI.nil _ _), Lib.hid (Coll.start HMS.out), Lib.hid (by rw [HNN.out]; have := HMS.out.le; exact (Nat.zero_add _).symm ▸ this), HB2, Nat.le_refl _⟩
  case round =>
    obtain ⟨left, cnt, l, HR, HO, HL, HN, HB, hsz⟩ := hrel
    clear hrg0
    go_wp2_with (at_next; refine wpList_next_ranges (α := Int) (β := Int × Int) _ rfl _ rfl 99 unit_law spotR (fun x => .agg #[.int .i64 x]) (fun c => .agg #[.int .i64 c.1, .int .i64 c.2]) (fun key kl hkey => by obtain ⟨u, e, _⟩ := unit_inv hkey; exact ⟨u, e⟩) (fun v y hv => by obtain ⟨i, j, e, _⟩ := spotR_inv hv; exact ⟨(i, j), e⟩) b w1.heap.size _ _ _ _ rfl HR.out ?_ ?_)
    · intro hc0 hl0
      have HX := Lib.hid (sort_units HL.out.1 (HL.out.done hl0 HWF.out HO.out.2))
      have hlen : l.length ≤ 1000000 := by have := HN.out; have := HSM.out; have := HNN.out; omega
      have CS := Lib.hid (sort_ownO (HO.out.lower (show w.heap.size ≤ w2.heap.size by omega)) hlen HB.out.size)
      rw [HX.out] at CS
      go_wp2_with (go_at_call 45; refine CS.out.mono ?_; rintro e w3 ⟨rfl, hO3, hb3⟩; have HO3 := Lib.hid hO3; have HB3 := Lib.hid (HB.out.trans hb3); clear hO3 hb3)
      go_ret
      exact ⟨_, rfl, HO3.out, HB3.out⟩
    · intro x ci cj kl y1 y2 w3 cnt3 hkey hlk hv hat hrg3 hlt hg3 hs3 hen
      obtain ⟨u, e, hwf⟩ := unit_inv hkey
      obtain rfl : x = u := unit_inj x u e
      obtain rfl : kl = klU x := Option.some.inj (hkey.symm.trans (unit_key x hwf))
      have HCO := Lib.hid (HL.out.step HMS.out hwf hlk hat)
      have HR3 := Lib.hid hrg3
      have HW := Lib.hid hwf
      have HO3 := Lib.hid (HO.out.kept hg3 (by
        cases e : u3.ownBlock with
        | none => exact .inl rfl
        | some k => exact .inr (fun e2 => by have := (HO.out.1.lt k e).1; have := Option.some.inj e2; omega)))
      have HB3 := Lib.hid (HB.out.grown hg3 HB.out.size (fun j hj => by cases hj; exact hB1))
      have hlen : l.length + 1 ≤ 1000000 := by have := HN.out; have := HSM.out; have := HNN.out; omega
      have HN3 := Lib.hid (show (l ++ [x]).length + cnt3 ≤ nn from by have := HN.out; rw [List.length_append]; simp; omega)
      have HMK := Lib.hid (show NLI ((w3.alloc (.cells #[.int .i64 x] 99)).alloc (.cells #[.int .i64 x] 3)) (some ⟨wr.heap.size + 1, 0, none⟩) 1 [x] from by
        have h1 := NLI.made (w3.alloc (.cells #[.int .i64 x] 99)) x hwf
        rw [show (w3.alloc (.cells #[.int .i64 x] 99)).heap.size = wr.heap.size + 1 from by simp [hs3]] at h1
        exact h1)
      clear e hkey hlk hv hat hrg3 hg3 hwf
      go_wp2_with (refine wpList_app_ints (o := ⟨some 16, _, _, _, _, _⟩) rfl (.tmp 12) (.tmp 15) rfl (B := w2.heap.size) (v := u3) (D := l) rfl ((HO3.out.alloc _).alloc _) (ao := some ⟨_, 0, none⟩) (cap := 1) (l := [x]) (m := 1) rfl rfl HMK.out hlen (by simp; omega) ?_; intro v7 w7 hI hg _; have HO7 := Lib.hid hI; have HR7 := Lib.hid (((HR3.out.alloc _).alloc _).kept hg (fun e => by have := (HO3.out.1.lt _ e.symm).1; omega) (fun e => by have := (HO3.out.1.lt _ e.symm).1; omega)); have HB7 := Lib.hid (((HB3.out.alloc HB3.out.size _).alloc (by have := HB3.out.size; simp; omega) _).grown hg (by have := HB3.out.size; simp; omega) (fun k e => by have := (HO3.out.1.lt k e).1; omega)); have hsz7 : w2.heap.size ≤ w7.heap.size := (by have := hg.size; simp at this; omega); clear hI hg)
      go_roundw
      case rel => exact ⟨_, cnt3, l ++ [x], HR7, HO7, HCO, HN3, HB7, hsz7⟩
      case measure => rw [HR7.out.left_eq, HR.out.left_eq]; exact hlt
theorem punits_any (ep : Int) (ao : Option Addr) (cap : Nat) (L : List (List Int)) (w : World) (h : CL w ao L) (hl : L.length ≤ 255 ∧ ∀ c ∈ L, c.length ≤ 255) :
    Calls Try.prog 39 #[.agg #[.int .i64 ep, .slice ao L.length cap]] w fun e w' => ∃ bo cb, e = .returned (.slice bo (unitsR L).length cb) ∧ NLI w' bo cb (unitsR L) ∧ Below w.heap.size w w' := by
  refine (punitsO_any ep ao cap L w h hl).mono ?_
  rintro e w' ⟨v, rfl, hO, hb⟩
  obtain ⟨bo, cb, e, hN, _⟩ := hO.form
  exact ⟨bo, cb, by rw [e], hN, hb⟩
end Go.Proofs.Ytphigibhgldnpaa
namespace Go.Proofs.Ytphigibhgldnpaa
set_option linter.unusedVariables false
open Go.RowKit
set_option maxRecDepth 20000
theorem quiet_lay {P : Program} {f : FuncId} {args : Array Value} {w : World} {q n : Nat} {v : Value}
    (h : Calls P f args (w.drewN (q + n)) fun e w' => e = .returned v ∧ w.drewN (q + n) = w') : Calls P f args (w.drewN (q + n)) fun e w'' => e = .returned v ∧ ∃ m, w'' = w.drewN (q + m) :=
  h.mono fun _ _ ⟨he, hm⟩ => ⟨he, n, hm.symm⟩
def mayF (N U : List Int) (u : Int) : Bool := hasB N u || !hasB U u
theorem may_no {y : Ly} {e : Int} {Q : List (List Int)} (h : nextB y.ep y.L e Q = false) : y.may e Q = false := by simp [Ly.may, h]
theorem may_yes {y : Ly} {e : Int} {Q : List (List Int)} (h : nextB y.ep y.L e Q = true) : y.may e Q = (unitsR Q).all (mayF (unitsR y.L) y.used) := by
  unfold Ly.may
  rw [h, Bool.true_and]
  rfl
theorem units_few {L : List (List Int)} (l1 : L.length ≤ 255 ∧ ∀ c ∈ L, c.length ≤ 255) : (unitsR L).length ≤ 70000 := by
  have h3 := (insAll_length [] L.flatten List.Pairwise.nil).1
  have h4 := flat_le L 255 l1.2
  have h5 : 255 * L.length ≤ 255 * 255 := Nat.mul_le_mul_left _ l1.1
  unfold unitsR
  rw [List.length_nil] at h3
  omega
section
variable {w W W' : World} {r b B : Nat} {e1 e2 : Int} {v1 v2 : Value}
theorem mw_on (h : W.cell? ⟨r, 0, none⟩ = some (.int .i64 e1) ∧ W.cell? ⟨r, 1, none⟩ = some v1 ∧ W.cell? ⟨b, 0, none⟩ = some (.int .i64 e2) ∧ W.cell? ⟨b, 1, none⟩ = some v2 ∧ Below B w W ∧ B ≤ W.heap.size) (hb : Below W.heap.size W W') :
    W'.cell? ⟨r, 0, none⟩ = some (.int .i64 e1) ∧ W'.cell? ⟨r, 1, none⟩ = some v1 ∧ W'.cell? ⟨b, 0, none⟩ = some (.int .i64 e2) ∧ W'.cell? ⟨b, 1, none⟩ = some v2 ∧ Below B w W' ∧ B ≤ W'.heap.size :=
  ⟨cellB hb (block_lt_of_cell h.1) h.1, cellB hb (block_lt_of_cell h.2.1) h.2.1, cellB hb (block_lt_of_cell h.2.2.1) h.2.2.1, cellB hb (block_lt_of_cell h.2.2.2.1) h.2.2.2.1, h.2.2.2.2.1.trans (hb.mono h.2.2.2.2.2), Nat.le_trans h.2.2.2.2.2 hb.size⟩
theorem mw_b (h : W.cell? ⟨r, 0, none⟩ = some (.int .i64 e1) ∧ W.cell? ⟨r, 1, none⟩ = some v1 ∧ W.cell? ⟨b, 0, none⟩ = some (.int .i64 e2) ∧ W.cell? ⟨b, 1, none⟩ = some v2 ∧ Below B w W ∧ B ≤ W.heap.size) : Below B w W := h.2.2.2.2.1
end
end Go.Proofs.Ytphigibhgldnpaa
