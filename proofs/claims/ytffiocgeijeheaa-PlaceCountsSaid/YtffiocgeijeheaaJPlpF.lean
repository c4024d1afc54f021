/- What the program's own Tail returns; all that the laws of places ask of the program. Conditions: the projection and the counts lie where the call was told, and are not too large. -/
import Derived.Test.YtffiocgeijeheaaJPlpE
set_option linter.unusedVariables false
namespace Go.Proofs.Ytffiocgeijeheaa
open Go.RowKit Go.Maps
set_option maxRecDepth 20000
theorem below_grown {w w' : World} (h : Below w.heap.size w w') : w.grownBy w' none := ⟨h.os, h.tape, h.output, h.size, fun k hk _ => h.block k hk⟩
/-- t is the greatest of what lies just behind the places that were met -/
def Grt (n : Int) (S : List (Int × Int)) (left : Lit → Bool) (t : Int) : Prop := (t = 0 ∨ ∃ x ∈ S, t = x.2 * n + x.1 + 1) ∧ ∀ x ∈ S, left (klP x) = false → x.2 * n + x.1 + 1 ≤ t
theorem Grt.start {n : Int} {S : List (Int × Int)} (hS : ∀ x ∈ S, wfP x) : Grt n S (Maps.has (setP S)) 0 := by
  refine ⟨.inl rfl, fun x hx hl => ?_⟩
  rw [setP_has hS (hS x hx), decide_eq_true hx] at hl
  cases hl
theorem met_in {S : List (Int × Int)} (hS : ∀ x ∈ S, wfP x) {x : Int × Int} (hx : wfP x) {y : DataW Unit} (hat : ∀ z, (setP S).atKey (klP x) z = y) : x ∈ S := by
  have h1 := has_true_of_atKey hat
  rw [setP_has hS hx] at h1
  exact of_decide_eq_true h1
theorem Grt.step {n t : Int} {S : List (Int × Int)} {left : Lit → Bool} (h : Grt n S left t) (hS : ∀ x ∈ S, wfP x) {x : Int × Int} (hx : x ∈ S) : Grt n S (fun z => left z && !z.sameKey (klP x)) (max t (x.2 * n + x.1 + 1)) := by
  refine ⟨?_, fun y hy hl => ?_⟩
  · rcases Int.le_total t (x.2 * n + x.1 + 1) with h4 | h4
    · exact .inr ⟨x, hx, by omega⟩
    · rw [show max t (x.2 * n + x.1 + 1) = t by omega]; exact h.1
  · by_cases e : y = x
    · subst e; omega
    · have h1 : (left (klP y) && !(klP y).sameKey (klP x)) = false := hl
      rw [sameKey_ne (fun e2 => e (klP_inj (hS y hy) (hS x hx) e2))] at h1
      have := h.2 y hy (by simpa using h1)
      omega
theorem gain_of {n i v : Int} (h : 0 < v) : gain n i v = (min v 4096 - 1) * n + i + 1 := by
  unfold gain
  rw [if_neg (by omega)]
theorem Grt.done {K : List (Int × Int)} {L : List (List Int)} {left : Lit → Bool} {t : Int} (h : Grt L.length (endsL K L L.length 0) left t) (h0 : ∀ z, left z = false) (ht : 0 ≤ t) (hK : (K.map (·.1)).Nodup) : t = tailN L K L.length := by
  refine tailN_of ht ?_ (fun i hi u hu e he hf => ?_)
  · rcases h.1 with h1 | ⟨x, hx, h1⟩
    · exact .inl h1
    · obtain ⟨i, hi, u, hu, hp, rfl⟩ := endsL_mem hx
      obtain ⟨e, he, hf, hv, hpg⟩ := valK_pos hp
      have hil : i < L.length := by
        rcases Nat.lt_or_ge i L.length with h5 | h5
        · exact h5
        · rw [show L.getD i [] = [] from by simp [h5]] at hu; cases hu
      exact .inr ⟨i, hil, u, hu, e, he, hf, by rw [gain_of hv, ← hpg]; exact h1⟩
  · by_cases hv : 0 < e.2
    · have hp : pagK K u = min e.2 4096 := by
        unfold pagK
        rw [← hf, valK_mem hK he]
        split <;> omega
      have := h.2 _ (endsL_in (K := K) hi hu (by rw [hp]; omega)) (h0 _)
      rw [gain_of hv, ← hp]
      exact this
    · unfold gain
      rw [if_pos (by omega)]
      exact ht
theorem ends_addr {ep : Int} {K : List (Int × Int)} {L : List (List Int)} (hg : goodB ep L = true) {x : Int × Int} (hx : x ∈ endsL K L L.length 0) : addrV ep L x.1 x.2 = .tuple #[.int .i64 (x.2 * L.length + x.1), .bool true] ∧ 0 ≤ x.2 * (L.length : Int) + x.1 ∧ x.2 * (L.length : Int) + x.1 < 16384 := by
  obtain ⟨n1, n4⟩ := good_len hg
  obtain ⟨i, hi, u, hu, hp, rfl⟩ := endsL_mem hx
  have hil : i < L.length := by
    rcases Nat.lt_or_ge i L.length with h5 | h5
    · exact h5
    · rw [show L.getD i [] = [] from by simp [h5]] at hu; cases hu
  have hm := pagK_most K u
  generalize pagK K u = p at *
  have h1 : 0 ≤ (p - 1) * (L.length : Int) + i ∧ (p - 1) * (L.length : Int) + i < 16384 := by
    rcases len_cases (n := L.length) ⟨by omega, by omega⟩ with e | e | e | e <;> rw [e] <;> omega
  have : addrR ep L i (p - 1) = (p - 1) * L.length + i := if_pos ⟨hg, ⟨by omega, by omega⟩, ⟨by omega, by omega⟩, h1.2⟩
  refine ⟨?_, h1⟩
  show addrV ep L i (p - 1) = _
  unfold addrV
  rw [this, decide_eq_true h1.1, show max ((p - 1) * (L.length : Int) + i) 0 = (p - 1) * (L.length : Int) + i by omega]
set_option maxHeartbeats 8000000 in
theorem pTail_any (ep : Int) (ao : Option Addr) (cap : Nat) (L : List (List Int)) (tb : Nat) (K : List (Int × Int)) (w : World) (h : CL w ao L) (hl : L.length ≤ 255 ∧ ∀ c ∈ L, c.length ≤ 255) (hK : Tm w tb K) :
    Calls Try.prog 19 #[.agg #[.int .i64 ep, .slice ao L.length cap], .map (some tb)] w fun e w' => e = .returned (.int .i64 (tailR ep L K)) ∧ Below w.heap.size w w' := by
  have HB0 := Lib.hid ((Below.refl w.heap.size w).alloc (Nat.le_refl _) (.cells #[.int .i64 ep, .slice ao L.length cap] 24))
  have HC := Lib.hid (h.below HB0.out)
  have HP := Lib.hid (show PB (w.alloc (.cells #[.int .i64 ep, .slice ao L.length cap] 24)) w.heap.size ep ao L.length cap from heap_alloc_new _ _)
  have HKN := Lib.hid (show (K.map (·.1)).Nodup from by obtain ⟨D, _, h3⟩ := hK; exact h3.once)
  have HK := Lib.hid (hK.below HB0.out)
  have HM := Lib.hid hl
  have CG := Lib.hid (pgood_any ep ao cap L _ HC.out hl)
  have hl' : (L.length : Int) ≤ 255 := by have := hl.1; omega
  clear h hl hK
  by_cases hg : goodB ep L = true
  · rw [hg] at CG
    rw [show tailR ep L K = tailN L K L.length from if_pos hg]
    have HAD := Lib.hid (fun x hx => @ends_addr ep K L hg x hx)
    have HSW := Lib.hid (endsL_wf (K := K) (L := L) (n := L.length) (k := 0) HM.out.1)
    clear hg
    go_enter Try.func19, Try.ntmps19
    go_wp2_with (first
      | (go_at_call 25; refine CG.out.mono ?_; rintro e w1 ⟨rfl, hb1⟩; have HB1 := Lib.hid (HB0.out.trans (hb1.mono HB0.out.size)); have HP1 := Lib.hid (HP.out.below hb1); have HC1 := Lib.hid (HC.out.below hb1); have HK1 := Lib.hid (HK.out.below hb1); obtain ⟨c0, c1⟩ := HP1.out.cells; clear hb1)
      | (go_at_call 27; refine (ends_any ep ao cap L tb K w1 HC1.out HM.out HK1.out).mono ?_; rintro e w2 ⟨b, rfl, hb, ⟨m, hD, _⟩, hb2⟩; have HD := Lib.hid hD; have HB2 := Lib.hid (HB1.out.trans (hb2.mono HB1.out.size)); have HP2 := Lib.hid (HP1.out.below hb2); have HC2 := Lib.hid (HC1.out.below hb2); have HBL := Lib.hid hD.lt; have HWB := Lib.hid (Nat.le_trans HB1.out.size hb); clear hb hD hb2 c0 c1)
      | (at_range; refine wpList_range_own _ rfl _ 57 rfl 26 65 place_law Try.underlying57 (unitElem (H := Unit)) b _ _ rfl HD.out ?_; intro w3 hrg0 hg0 hs0))
    go_frame
    have HB3 := Lib.hid (HB2.out.grown hg0 HB2.out.size (fun j hj => by cases hj))
    have HX3 := Lib.hid (show Below w2.heap.size w2 w3 from (Below.refl _ _).grown hg0 (Nat.le_refl _) (fun j hj => by cases hj))
    have hbr := HBL.out
    have hwb := HWB.out
    have hw2 := HB2.out.size
    clear hg0
    go_loopw [5] (fun v wr => ∃ (left : Lit → Bool) (cnt : Nat) (t : Int), v = .int .i64 t ∧ Hid (wr.ranges Try.prog 26 (unitElem (H := Unit)) b w2.heap.size m (setP (endsL K L L.length 0)) left cnt) ∧ Hid (Grt L.length (endsL K L L.length 0) left t) ∧ 0 ≤ t ∧ t ≤ 16384 ∧ Hid (Below w2.heap.size w2 wr)) (fun _ wr => wr.rangeLeft b w2.heap.size)
    case atStart => exact ⟨_, _, 0, rfl, Lib.hid hrg0, Lib.hid (Grt.start HSW.out), by omega, by omega, HX3⟩
    case round =>
      obtain ⟨left, cnt, t, rfl, HR, HG, t0, t1, HX⟩ := hrel
      clear hrg0
      go_wp2_with (at_next; refine wpList_next_ranges (α := Int × Int) (β := Unit) _ rfl _ rfl 26 place_law (unitElem (H := Unit)) (fun x => .agg #[.int .i64 x.1, .int .i64 x.2]) (fun _ => .agg #[]) (fun key kl hkey => by obtain ⟨x, e, _⟩ := place_inv hkey; exact ⟨x, e⟩) (fun v y hv => ⟨(), (unitElem_inv hv).1⟩) b w2.heap.size _ _ _ _ rfl HR.out ?_ ?_)
      · intro hc0 hl0
        have HT := Lib.hid (HG.out.done hl0 t0 HKN.out)
        have HF := Lib.hid (HB2.out.trans (HX.out.mono hw2))
        go_wp2_with fail
        go_ret
        rw [← HT.out]
        exact ⟨rfl, HF.out⟩
      · intro x1 x2 kl y1 y2 w4 cnt4 hkey hlk hv hat hrg4 hlt hg4 hs4 hen
        obtain ⟨x, e, hwf⟩ := place_inv hkey
        obtain rfl : (x1, x2) = x := place_inj (x := (x1, x2)) e
        obtain rfl : kl = klP (x1, x2) := Option.some.inj (hkey.symm.trans (place_key (x1, x2) hwf))
        have hin := met_in HSW.out hwf hat
        obtain ⟨ha, hA0, hA1⟩ := HAD.out _ hin
        have hg5 := HG.out.step HSW.out hin
        simp only at ha hA0 hA1 hg5
        have HA := Lib.hid ha
        have HG5 := Lib.hid hg5
        have HX4 := Lib.hid (((HX.out.grown hg4 HX.out.size (fun j hj => by cases hj; exact Nat.le_refl _)).alloc (HX.out.grown hg4 HX.out.size (fun j hj => by cases hj; exact Nat.le_refl _)).size (.cells #[.int .i64 x1, .int .i64 x2] 26)))
        have HP4 := Lib.hid (HP2.out.below HX4.out)
        have HR4 := Lib.hid (hrg4.alloc (.cells #[.int .i64 x1, .int .i64 x2] 26))
        have CA := Lib.hid (pAddr_any ep ao cap L x1 x2 _ (HC2.out.below HX4.out) HM.out)
        obtain ⟨c0, c1⟩ := HP4.out.cells
        have hw4 : w2.heap.size < w4.heap.size := hrg4.lt
        clear e hkey hlk hv hat hrg4 hg4 hwf hin ha hg5
        generalize x2 * (L.length : Int) + x1 = A at *
        obtain ⟨t2, ht2⟩ : ∃ t2, (if t < A + 1 then A + 1 else t) = t2 := ⟨_, rfl⟩
        have h5 : max t (A + 1) = t2 := by rw [← ht2]; split <;> omega
        rw [h5] at HG5
        have t20 : 0 ≤ t2 := by omega
        have t21 : t2 ≤ 16384 := by omega
        clear h5
        go_wp2_with (go_at_call 13; refine CA.out.mono ?_; rintro e w5 ⟨rfl, hb5⟩; rw [HA.out]; have HR5 := Lib.hid (HR4.out.kept (below_grown hb5) (by simp) (by simp)); have HX5 := Lib.hid (HX4.out.trans (hb5.mono HX4.out.size)); clear hb5 c0 c1)
        go_roundw
        case rel => exact ⟨_, cnt4, t2, rfl, HR5, HG5, t20, t21, HX5⟩
        case measure => rw [HR5.out.left_eq, HR.out.left_eq]; exact hlt
  · rw [show tailR ep L K = 0 from if_neg hg]
    rw [Bool.eq_false_iff.2 hg] at CG
    clear hg
    go_enter Try.func19, Try.ntmps19
    go_wp2_with (go_at_call 25; refine CG.out.mono ?_; rintro e w1 ⟨rfl, hb1⟩; have HB1 := Lib.hid (HB0.out.trans (hb1.mono HB0.out.size)); clear hb1)
    go_ret
    exact ⟨rfl, HB1.out⟩
theorem placeSays : PlaceSays where
  of := fun ep ao cap L a w hT hS _ _ => pOf_any ep ao cap L a w hT.1 hS
  addr := fun ep ao cap L c p w hT hS _ _ _ => pAddr_any ep ao cap L c p w hT.1 hS
  chain := fun ep ao cap L a w hT hS _ _ => pChain_any ep ao cap L a w hT.1 hS
  tail := fun ep ao cap L b K w hT hS _ hK _ _ => pTail_any ep ao cap L b K w hT.1 hS hK
  below := fun ep ao cap L a c w hT hS _ _ _ => pBelow_any ep ao cap L a c w hT.1 hS
end Go.Proofs.Ytffiocgeijeheaa
