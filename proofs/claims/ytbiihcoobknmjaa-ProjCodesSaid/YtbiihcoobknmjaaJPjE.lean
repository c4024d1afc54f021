/- What the program's own Encode returns. Conditions: the projection lies where the call was told, and is not too large. -/
import Derived.Test.YtbiihcoobknmjaaJPjB
import Derived.Test.YtbiihcoobknmjaaJPrjK
import Derived.Test.YtbiihcoobknmjaaGe
set_option linter.unusedVariables false
namespace Go.Proofs.Ytbiihcoobknmjaa
open Go.RowKit Go.Maps
set_option maxRecDepth 20000
theorem stayS {B : Nat} {w1 wr w2 : World} (hb : Below B w1 wr) (hB : B ≤ w1.heap.size) (hk : Kept (fun k => k < B) wr w2) : Below B w1 w2 :=
  hb.trans (hk.toBelow (Nat.le_trans hB hb.size) (fun _ h => h))
set_option maxHeartbeats 4000000 in
theorem penc_any (ep : Int) (ao : Option Addr) (cap : Nat) (L : List (List Int)) (w : World) (h : CL w ao L) (hl : L.length ≤ 255 ∧ ∀ c ∈ L, c.length ≤ 255) (hw : -9223372036854775808 ≤ ep ∧ ep ≤ 9223372036854775807) :
    Calls Try.prog 20 #[.agg #[.int .i64 ep, .slice ao L.length cap]] w fun e w' => e = .returned (.tuple #[.string (encB ep L), .int .i64 (encC ep L)]) ∧ Below w.heap.size w w' := by
  have HB0 := Lib.hid ((Below.refl w.heap.size w).alloc (Nat.le_refl _) (.cells #[.int .i64 ep, .slice ao L.length cap] 24))
  have HP := Lib.hid (show PB (w.alloc (.cells #[.int .i64 ep, .slice ao L.length cap] 24)) w.heap.size ep ao L.length cap from heap_alloc_new _ _)
  have HC := Lib.hid (h.below HB0.out)
  have hl' : (L.length : Int) ≤ 255 := by omega
  have HM := Lib.hid hl
  have CG := Lib.hid (pgood_any ep ao cap L _ HC.out HM.out)
  clear h hl
  by_cases hg : goodB ep L = true
  · have HE := Lib.hid (show encB ep L = projB ep L ∧ encC ep L = 0 from ⟨if_pos hg, if_pos hg⟩)
    have HPG := Lib.hid (packP_good hg)
    rw [hg] at CG
    have HNX := Lib.hid (fun n h => packN_next ep L n h)
    have HALL := Lib.hid (packN_all ep L)
    have H0 := Lib.hid (show packN ep L 0 = (stZ.num ep 4).num L.length 1 from rfl)
    have HW := Lib.hid hw
    clear hg hw
    go_enter Try.func20, Try.ntmps20
    go_wp2_with (first
      | (go_at_call 12; refine CG.out.mono ?_; rintro e w1 ⟨rfl, hb1⟩; have HB1 := Lib.hid (HB0.out.trans (hb1.mono HB0.out.size)); have HP1 := Lib.hid (HP.out.below hb1); have HC1 := Lib.hid (HC.out.below hb1); clear hb1 CG HC HP)
      | (go_at_call 31; refine (new_any (fun k => k < w1.heap.size) _ (fun _ h => h)).mono ?_; rintro e w2 ⟨rfl, hq2, hb2⟩; have HQ2 := Lib.hid (show PKs (fun k => k < w1.heap.size) w2 w1.heap.size stZ from hq2); have HB2 := Lib.hid hb2; obtain ⟨y0, y1⟩ := (HP1.out.below hb2).cells; clear hq2 hb2)
      | (go_at_call 32; refine (nums_any _ w3 w1.heap.size _ L.length 1 HQ3.out (by omega)).mono ?_; rintro e w4 ⟨rfl, hq4, hk4⟩; have HQ4 := Lib.hid hq4; have HB4 := Lib.hid (stayS HB3.out (Nat.le_refl _) hk4); obtain ⟨x0, x1⟩ := (HP1.out.below HB4.out).cells; clear hq4 hk4)
      | (go_at_call 32; refine (nums_any _ w2 w1.heap.size stZ ep 4 HQ2.out HW.out).mono ?_; rintro e w3 ⟨rfl, hq3, hk3⟩; have HQ3 := Lib.hid hq3; have HB3 := Lib.hid (stayS HB2.out (Nat.le_refl _) hk3); obtain ⟨z0, z1⟩ := (HP1.out.below HB3.out).cells; clear hq3 hk3 y0 y1))
    clear z0 z1 x0 x1 HQ2 HB2 HQ3 HB3
    go_loopw [25] (fun i wr => ∃ n : Nat, i = .int .i64 n ∧ n ≤ L.length ∧ Hid (PKs (fun k => k < w1.heap.size) wr w1.heap.size (packN ep L n)) ∧ Hid (Below w1.heap.size w1 wr)) (fun i _ => L.length - (intOf i).toNat)
    case atStart => exact ⟨0, rfl, Nat.zero_le _, by rw [H0.out]; exact HQ4, HB4⟩
    case round =>
      obtain ⟨n, rfl, hn, HQ, HB⟩ := hrel
      by_cases hlt : n < L.length
      · obtain ⟨bk, off, ai, ci, hao, c0, _⟩ := (HC1.out.below HB.out) n hlt
        subst hao
        have k0 : (n : Int) < (L.length : Int) := by omega
        have mo := HM.out.2 _ (List.getElem_mem hlt)
        have mo' : (L[n].length : Int) ≤ 255 := by omega
        have HX := Lib.hid (HNX.out n hlt)
        have HSN := Lib.hid (fun k (h : k < L[n].length) => show putsN ((packN ep L n).num L[n].length 1) (L[n].take (k + 1)) = (putsN ((packN ep L n).num L[n].length 1) (L[n].take k)).num L[n][k] 1 from by rw [List.take_succ_eq_append_getElem h, putsN_snoc])
        have HS0 := Lib.hid (show putsN ((packN ep L n).num L[n].length 1) (L[n].take 0) = (packN ep L n).num L[n].length 1 from rfl)
        go_wp2_with (go_at_call 32; refine (nums_any _ wr w1.heap.size _ L[n].length 1 HQ.out (by omega)).mono ?_; rintro e w5 ⟨rfl, hq5, hk5⟩; have HQ5 := Lib.hid hq5; have HB5 := Lib.hid (stayS HB.out (Nat.le_refl _) hk5); clear hq5 hk5)
        go_loopw [35] (fun k wq => ∃ j : Nat, k = .int .i64 j ∧ j ≤ L[n].length ∧ Hid (PKs (fun k => k < w1.heap.size) wq w1.heap.size (putsN ((packN ep L n).num L[n].length 1) (L[n].take j))) ∧ Hid (Below w1.heap.size w1 wq)) (fun k _ => L[n].length - (intOf k).toNat)
        case atStart => exact ⟨0, rfl, Nat.zero_le _, by rw [HS0.out]; exact HQ5, HB5⟩
        case round =>
          obtain ⟨j, rfl, hj, HQJ, HBJ⟩ := hrel
          obtain ⟨bk2, off2, ai2, ci2, hao2, c2, hN2⟩ := (HC1.out.below HBJ.out) n hlt
          cases hao2
          have e2 : ai2 = ai ∧ ci2 = ci := by
            obtain ⟨bk3, off3, ai3, ci3, hao3, c3, _⟩ := HC1.out n hlt
            cases hao3
            have h1 := cellB HB.out (block_lt_of_cell c3) c3
            have h2 := cellB HBJ.out (block_lt_of_cell c3) c3
            have h3 := (Option.some.inj (h1.symm.trans c0))
            have h4 := (Option.some.inj (h2.symm.trans c2))
            injection h3 with h5 h6 h7
            injection h4 with h8 h9 h10
            exact ⟨h8.symm.trans h5, h10.symm.trans h7⟩
          obtain ⟨rfl, rfl⟩ := e2
          clear c0 c2
          by_cases hjt : j < L[n].length
          · obtain ⟨b5, o5, hai, c5⟩ := hN2.at j hjt
            have hr := hN2.rng j hjt
            subst hai
            have k5 : (j : Int) < (L[n].length : Int) := by omega
            have HSJ := Lib.hid (HSN.out j hjt)
            generalize L[n][j] = u at *
            go_wp2_with (go_at_call 32; refine (nums_any _ wr w1.heap.size _ u 1 HQJ.out hr).mono ?_; rintro e w6 ⟨rfl, hq6, hk6⟩; have HQ6 := Lib.hid hq6; have HB6 := Lib.hid (stayS HBJ.out (Nat.le_refl _) hk6); clear hq6 hk6)
            go_roundw
            case rel => exact ⟨j + 1, by go_num, by omega, by rw [HSJ.out]; exact HQ6, HB6⟩
            case measure => simp [intOf]; omega
          · obtain rfl : j = L[n].length := by omega
            go_wp2_with fail
            go_roundw
            case rel => exact ⟨n + 1, by go_num, by omega, by rw [HX.out]; exact HQJ, HBJ⟩
            case measure => simp [intOf]; omega
      · obtain rfl : n = L.length := by omega
        rw [HALL.out] at HQ
        have CD := Lib.hid (done_any _ wr w1.heap.size _ _ HQ.out)
        rw [HPG.out.1, HPG.out.2] at CD
        go_wp2_with (go_at_call 33; refine CD.out.mono ?_; rintro e w7 ⟨rfl, q, rfl⟩)
        go_ret2
        rw [HE.out.1, HE.out.2]
        exact ⟨rfl, below_drewN (HB1.out.trans (HB.out.mono HB1.out.size)) q⟩
  · have HE := Lib.hid (show encB ep L = ⟨#[]⟩ ∧ encC ep L = 11 from ⟨if_neg hg, if_neg hg⟩)
    rw [Bool.eq_false_iff.2 hg] at CG
    clear hg
    go_enter Try.func20, Try.ntmps20
    go_wp2_with (go_at_call 12; refine CG.out.mono ?_; rintro e w1 ⟨rfl, hb1⟩)
    go_ret2
    rw [HE.out.1, HE.out.2]
    exact ⟨rfl, HB0.out.trans (hb1.mono HB0.out.size)⟩
end Go.Proofs.Ytbiihcoobknmjaa
