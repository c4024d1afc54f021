/- What the document's own Encode returns. Conditions: the projection lies where the call was told, and is not too large. -/
import Derived.Test.YtbiihcoobknmjaaGj
import Derived.Test.YtbiihcoobknmjaaJPrjE
import Derived.Test.YtbiihcoobknmjaaJPackG
set_option linter.unusedVariables false
namespace Go.Proofs.Ytbiihcoobknmjaa
open Go.RowKit
set_option maxRecDepth 20000

theorem putsN_size (t : St) (c : List Int) : (putsN t c).s.size ≤ t.s.size + 8 * c.length := by
  induction c generalizing t with
  | nil => exact Nat.le_add_right _ _
  | cons u c ih =>
    have h1 := ih (t.num u 1)
    have h2 := t.num_size u 1 (by decide)
    show (putsN (t.num u 1) c).s.size ≤ _
    rw [List.length_cons]
    omega
theorem foldC_size (t : St) (L : List (List Int)) : (L.foldl packC t).s.size ≤ t.s.size + 8 * (L.length + L.flatten.length) := by
  induction L generalizing t with
  | nil => exact Nat.le_add_right _ _
  | cons c L ih =>
    have h1 := ih (packC t c)
    have h2 := putsN_size (t.num c.length 1) c
    have h3 := t.num_size c.length 1 (by decide)
    rw [List.foldl_cons, List.flatten_cons, List.length_append, List.length_cons]
    unfold packC at h1 ⊢
    omega
/-- the packer behind n chains -/
def packN (ep : Int) (L : List (List Int)) (n : Nat) : St := (L.take n).foldl packC ((stZ.num ep 4).num L.length 1)
theorem packN_size (ep : Int) (L : List (List Int)) (n : Nat) (hl : L.length ≤ 255 ∧ ∀ c ∈ L, c.length ≤ 255) : (packN ep L n).s.size ≤ 600000 := by
  have h1 := foldC_size ((stZ.num ep 4).num L.length 1) (L.take n)
  have h2 := flat_le (L.take n) 255 (fun c hc => hl.2 c (List.mem_of_mem_take hc))
  have h3 : (L.take n).length ≤ 255 := by rw [List.length_take]; omega
  have h4 := (stZ.num ep 4).num_size L.length 1 (by decide)
  have h5 := stZ.num_size ep 4 (by decide)
  have h6 : stZ.s.size = 0 := rfl
  have h7 : 255 * (L.take n).length ≤ 255 * 255 := Nat.mul_le_mul_left _ h3
  unfold packN
  omega
theorem packN_next (ep : Int) (L : List (List Int)) (n : Nat) (h : n < L.length) : packN ep L (n + 1) = putsN ((packN ep L n).num L[n].length 1) (L[n].take L[n].length) := by
  unfold packN
  rw [List.take_succ_eq_append_getElem h, foldC_snoc, List.take_of_length_le (Nat.le_refl _)]
  rfl
theorem packN_all (ep : Int) (L : List (List Int)) : packN ep L L.length = packP ep L := by
  unfold packN packP
  rw [List.take_of_length_le (Nat.le_refl _)]
def encB (ep : Int) (L : List (List Int)) : ByteArray := if goodB ep L = true then projB ep L else ⟨#[]⟩
def encC (ep : Int) (L : List (List Int)) : Int := if goodB ep L = true then 0 else 11
theorem stay {B : Nat} {w1 wr w2 : World} (hb : Below B w1 wr) (hB : B ≤ w1.heap.size) (hk : Kept (fun k => k ≠ B) wr w2) : Below B w1 w2 :=
  hb.trans (hk.toBelow (Nat.le_trans hB hb.size) (fun k h => by omega))
set_option maxHeartbeats 4000000 in
theorem renc_any (ep : Int) (ao : Option Addr) (cap : Nat) (L : List (List Int)) (w : World) (h : CL w ao L) (hl : L.length ≤ 255 ∧ ∀ c ∈ L, c.length ≤ 255) (hw : -9223372036854775808 ≤ ep ∧ ep ≤ 9223372036854775807) :
    Calls Try.prog 21 #[.agg #[.int .i64 ep, .slice ao L.length cap]] w fun e w' => e = .returned (.tuple #[.string (encB ep L), .int .i64 (encC ep L)]) ∧ Below w.heap.size w w' := by
  have HB0 := Lib.hid ((Below.refl w.heap.size w).alloc (Nat.le_refl _) (.cells #[.int .i64 ep, .slice ao L.length cap] 24))
  have HP := Lib.hid (show PB (w.alloc (.cells #[.int .i64 ep, .slice ao L.length cap] 24)) w.heap.size ep ao L.length cap from heap_alloc_new _ _)
  have HC := Lib.hid (h.below HB0.out)
  have hl' : (L.length : Int) ≤ 255 := by omega
  have HM := Lib.hid hl
  have CG := Lib.hid (rgood_any ep ao cap L _ HC.out HM.out)
  clear h hl
  by_cases hg : goodB ep L = true
  · have HE := Lib.hid (show encB ep L = projB ep L ∧ encC ep L = 0 from ⟨if_pos hg, if_pos hg⟩)
    have HPG := Lib.hid (packP_good hg)
    rw [hg] at CG
    have S0 := Lib.hid (show stZ.s.size ≤ 1099511627776 ∧ (stZ.num ep 4).s.size ≤ 1099511627776 from by
      have h5 := stZ.num_size ep 4 (by decide)
      have h6 : stZ.s.size = 0 := rfl
      exact ⟨by omega, by omega⟩)
    have SN := Lib.hid (fun n => packN_size ep L n HM.out)
    have HNX := Lib.hid (fun n h => packN_next ep L n h)
    have HALL := Lib.hid (packN_all ep L)
    have H0 := Lib.hid (show packN ep L 0 = (stZ.num ep 4).num L.length 1 from rfl)
    have HW := Lib.hid hw
    clear hg hw
    go_enter Try.func21, Try.ntmps21
    go_wp2_with (first
      | (go_at_call 13; refine CG.out.mono ?_; rintro e w1 ⟨rfl, hb1⟩; have HB1 := Lib.hid (HB0.out.trans (hb1.mono HB0.out.size)); have HP1 := Lib.hid (HP.out.below hb1); have HC1 := Lib.hid (HC.out.below hb1); clear hb1 CG HC HP)
      | (go_at_call 34; refine (refNew_any _).mono ?_; rintro e w2 ⟨rfl, hq2, hb2⟩; have HQ2 := Lib.hid hq2; have HB2 := Lib.hid hb2; obtain ⟨y0, y1⟩ := (HP1.out.below hb2).cells; clear hq2 hb2)
      | (go_at_call 35; refine (refNum_any w3 w1.heap.size _ L.length 1 HQ3.out S0.out.2 (by omega)).mono ?_; rintro e w4 ⟨rfl, hq4, hk4⟩; have HQ4 := Lib.hid hq4; have HB4 := Lib.hid (stay HB3.out (Nat.le_refl _) hk4); clear hq4 hk4)
      | (go_at_call 35; refine (refNum_any w2 w1.heap.size stZ ep 4 HQ2.out S0.out.1 HW.out).mono ?_; rintro e w3 ⟨rfl, hq3, hk3⟩; have HQ3 := Lib.hid hq3; have HB3 := Lib.hid (stay HB2.out (Nat.le_refl _) hk3); obtain ⟨z0, z1⟩ := (HP1.out.below HB3.out).cells; clear hq3 hk3 y0 y1))
    clear z0 z1 HQ2 HB2 HQ3 HB3
    go_loopw [5] (fun i wr => ∃ n : Nat, i = .int .i64 n ∧ n ≤ L.length ∧ Hid (QK wr w1.heap.size (packN ep L n)) ∧ Hid (Below w1.heap.size w1 wr)) (fun i _ => L.length - (intOf i).toNat)
    case atStart => exact ⟨0, rfl, Nat.zero_le _, by rw [H0.out]; exact HQ4, HB4⟩
    case round =>
      obtain ⟨n, rfl, hn, HQ, HB⟩ := hrel
      obtain ⟨z0, z1⟩ := (HP1.out.below HB.out).cells
      by_cases hlt : n < L.length
      · obtain ⟨bk, off, ai, ci, hao, c0, _⟩ := (HC1.out.below HB.out) n hlt
        subst hao
        have k0 : (n : Int) < (L.length : Int) := by omega
        have mo := HM.out.2 _ (List.getElem_mem hlt)
        have mo' : (L[n].length : Int) ≤ 255 := by omega
        have HX := Lib.hid (HNX.out n hlt)
        have HS := Lib.hid (show (packN ep L n).s.size ≤ 1099511627776 by have := SN.out n; omega)
        have HS2 := Lib.hid (fun k => show (putsN ((packN ep L n).num L[n].length 1) (L[n].take k)).s.size ≤ 1099511627776 from by
          have h1 := putsN_size ((packN ep L n).num L[n].length 1) (L[n].take k)
          have h2 := (packN ep L n).num_size L[n].length 1 (by decide)
          have h3 := SN.out n
          have h4 : (L[n].take k).length ≤ L[n].length := by rw [List.length_take]; omega
          omega)
        have HSN := Lib.hid (fun k (h : k < L[n].length) => show putsN ((packN ep L n).num L[n].length 1) (L[n].take (k + 1)) = (putsN ((packN ep L n).num L[n].length 1) (L[n].take k)).num L[n][k] 1 from by rw [List.take_succ_eq_append_getElem h, putsN_snoc])
        have HS0 := Lib.hid (show putsN ((packN ep L n).num L[n].length 1) (L[n].take 0) = (packN ep L n).num L[n].length 1 from rfl)
        go_wp2_with (go_at_call 35; refine (refNum_any wr w1.heap.size _ L[n].length 1 HQ.out HS.out (by omega)).mono ?_; rintro e w5 ⟨rfl, hq5, hk5⟩; have HQ5 := Lib.hid hq5; have HB5 := Lib.hid (stay HB.out (Nat.le_refl _) hk5); clear hq5 hk5)
        go_loopw [6] (fun k wq => ∃ j : Nat, k = .int .i64 j ∧ j ≤ L[n].length ∧ Hid (QK wq w1.heap.size (putsN ((packN ep L n).num L[n].length 1) (L[n].take j))) ∧ Hid (Below w1.heap.size w1 wq)) (fun k _ => L[n].length - (intOf k).toNat)
        case atStart => exact ⟨0, rfl, Nat.zero_le _, by rw [HS0.out]; exact HQ5, HB5⟩
        case round =>
          obtain ⟨j, rfl, hj, HQJ, HBJ⟩ := hrel
          obtain ⟨v0, v1⟩ := (HP1.out.below HBJ.out).cells
          obtain ⟨bk2, off2, ai2, ci2, hao2, c2, hN2⟩ := (HC1.out.below HBJ.out) n hlt
          cases hao2
          clear z0 z1
          by_cases hjt : j < L[n].length
          · obtain ⟨b5, o5, hai, c5⟩ := hN2.at j hjt
            have hr := hN2.rng j hjt
            subst hai
            have k5 : (j : Int) < (L[n].length : Int) := by omega
            have HSJ := Lib.hid (HSN.out j hjt)
            generalize L[n][j] = u at *
            go_wp2_with (go_at_call 35; refine (refNum_any wr w1.heap.size _ u 1 HQJ.out (HS2.out j) hr).mono ?_; rintro e w6 ⟨rfl, hq6, hk6⟩; have HQ6 := Lib.hid hq6; have HB6 := Lib.hid (stay HBJ.out (Nat.le_refl _) hk6); clear hq6 hk6)
            go_roundw
            case rel => exact ⟨j + 1, by go_num, by omega, by rw [HSJ.out]; exact HQ6, HB6⟩
            case measure => simp [intOf]; omega
          · obtain rfl : j = L[n].length := by omega
            go_wp2_with fail
            go_roundw
            case rel => exact ⟨n + 1, by go_num, by omega, by rw [HX.out]; exact HQJ, HBJ⟩
            case measure => simp [intOf]; omega
      · obtain rfl : n = L.length := by omega
        have hs := SN.out L.length
        rw [HALL.out] at HQ hs
        have CD := Lib.hid (refDone_any wr w1.heap.size _ HQ.out (by omega))
        rw [HPG.out.1, HPG.out.2] at CD
        clear hs
        go_wp2_with (go_at_call 36; refine CD.out.mono ?_; rintro e w7 ⟨rfl, rfl⟩)
        go_ret2
        rw [HE.out.1, HE.out.2]
        exact ⟨rfl, HB1.out.trans (HB.out.mono HB1.out.size)⟩
  · have HE := Lib.hid (show encB ep L = ⟨#[]⟩ ∧ encC ep L = 11 from ⟨if_neg hg, if_neg hg⟩)
    rw [Bool.eq_false_iff.2 hg] at CG
    clear hg
    go_enter Try.func21, Try.ntmps21
    go_wp2_with (go_at_call 13; refine CG.out.mono ?_; rintro e w1 ⟨rfl, hb1⟩)
    go_ret2
    rw [HE.out.1, HE.out.2]
    exact ⟨rfl, HB0.out.trans (hb1.mono HB0.out.size)⟩
end Go.Proofs.Ytbiihcoobknmjaa
