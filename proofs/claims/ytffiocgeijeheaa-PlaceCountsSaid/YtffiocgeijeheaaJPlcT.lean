/- What the document's own Tail returns. Conditions: the projection and the counts lie where the call was told, and are not too large. -/
import Derived.Test.YtffiocgeijeheaaJPlcP
import Derived.Test.YtffiocgeijeheaaJPlcB
set_option linter.unusedVariables false
namespace Go.Proofs.Ytffiocgeijeheaa
open Go.RowKit
set_option maxRecDepth 20000
theorem most_eq (v : Int) : ∃ (m1 : Int) (m2 : Nat), (if (4096 : Int) < v then (4096 : Int) else v) = m1 ∧ (if (0 : Int) < m1 then m1 else (0 : Int)) = m2 ∧ (m2 : Int) = max 0 (min v 4096) ∧ m2 ≤ 4096 := by
  refine ⟨_, (max 0 (min v 4096)).toNat, rfl, ?_, ?_, ?_⟩
  · split <;> split <;> omega
  · omega
  · omega
theorem tailK_zero (n i : Int) (K : List (Int × Int)) (c : List Int) (t : Int) : tailK n i K (c.take 0) t = t := rfl
theorem tailJ_zero (n i u : Int) (K : List (Int × Int)) (t : Int) : tailJ n i u (K.take 0) t = t := rfl
theorem tailJ_next (n i u : Int) {K : List (Int × Int)} {j : Nat} (h : j < K.length) (t : Int) : tailJ n i u (K.take (j + 1)) t = if K[j].1 = u then max (tailJ n i u (K.take j) t) (gain n i K[j].2) else tailJ n i u (K.take j) t := by
  rw [List.take_succ_eq_append_getElem h, tailJ_snoc]
theorem tailK_next (n i : Int) (K : List (Int × Int)) {c : List Int} {k : Nat} (h : k < c.length) (t : Int) : tailK n i K (c.take (k + 1)) t = tailJ n i c[k] (K.take K.length) (tailK n i K (c.take k) t) := by
  rw [List.take_succ_eq_append_getElem h, tailK_snoc, List.take_of_length_le (Nat.le_refl _)]
theorem tailN_next {L : List (List Int)} (K : List (Int × Int)) {i : Nat} (h : i < L.length) : tailN L K (i + 1) = tailK L.length i K (L[i].take L[i].length) (tailN L K i) := by
  rw [tailN_succ, List.take_of_length_le (Nat.le_refl _)]
  simp [h]
theorem max_gain {n i t v : Int} (hn : 1 ≤ n ∧ n ≤ 4) (hi : 0 ≤ i ∧ i < n) (ht : 0 ≤ t ∧ t ≤ 16384) : 0 ≤ max t (gain n i v) ∧ max t (gain n i v) ≤ 16384 := by
  have := gain_range (v := v) hn hi
  omega
set_option maxHeartbeats 8000000 in
theorem refTail_any (ep : Int) (ao : Option Addr) (cap : Nat) (L : List (List Int)) (bo : Option Addr) (cb : Nat) (K : List (Int × Int)) (w : World) (h : CL w ao L) (hl : L.length ≤ 255 ∧ ∀ c ∈ L, c.length ≤ 255) (hK : PL w bo K) (kl : K.length ≤ 1000) :
    Calls Try.prog 20 #[.agg #[.int .i64 ep, .slice ao L.length cap], .slice bo K.length cb] w fun e w' => e = .returned (.int .i64 (tailR ep L K)) ∧ Below w.heap.size w w' := by
  have HB0 := Lib.hid ((Below.refl w.heap.size w).alloc (Nat.le_refl _) (.cells #[.int .i64 ep, .slice ao L.length cap] 24))
  have HC := Lib.hid (h.below HB0.out)
  have HK := Lib.hid (hK.below HB0.out)
  have HP := Lib.hid (show PB (w.alloc (.cells #[.int .i64 ep, .slice ao L.length cap] 24)) w.heap.size ep ao L.length cap from heap_alloc_new _ _)
  have CG := Lib.hid (rgood_any ep ao cap L _ HC.out hl)
  have hl' : (L.length : Int) ≤ 255 := by have := hl.1; omega
  have kl' : (K.length : Int) ≤ 1000 := by omega
  have HM := Lib.hid hl.2
  clear h hl hK
  by_cases hg : goodB ep L = true
  · rw [hg] at CG
    have HR := Lib.hid (show tailR ep L K = tailN L K L.length from if_pos hg)
    obtain ⟨n1, n4⟩ := good_len hg
    have HN := Lib.hid (show (1 : Int) ≤ L.length ∧ (L.length : Int) ≤ 4 from ⟨by omega, by omega⟩)
    have HT0 := Lib.hid (show (0 : Int) = tailN L K 0 from rfl)
    have HTN := Lib.hid (fun (i : Nat) (hi : i < L.length) => tailN_next K hi)
    clear hg
    go_enter Try.func20, Try.ntmps20
    go_wp2_with (go_at_call 23; refine CG.out.mono ?_; rintro e w1 ⟨rfl, hb1⟩; have HB1 := Lib.hid (HB0.out.trans (hb1.mono HB0.out.size)); obtain ⟨b0, b1⟩ := (HP.out.below hb1).cells; have HC1 := Lib.hid (HC.out.below hb1); have HK1 := Lib.hid (HK.out.below hb1); clear hb1)
    clear CG HP HC HK
    go_loopw [6, 7] (fun tl ii wr => ∃ (i q : Nat) (t : Int), ii = .int .i64 i ∧ tl = .int .i64 t ∧ i ≤ L.length ∧ wr = w1.drewN q ∧ 0 ≤ t ∧ t ≤ 16384 ∧ Hid (t = tailN L K i)) (fun _ ii _ => L.length - (intOf ii).toNat)
    case atStart => exact ⟨0, 0, 0, rfl, rfl, Nat.zero_le _, rfl, by omega, by omega, HT0⟩
    case round =>
      obtain ⟨i, q, t, rfl, rfl, hi, rfl, t0, t1, HT⟩ := hrel
      by_cases hlt : i < L.length
      · obtain ⟨bk, off, ai, ci, hao, c0, hN⟩ := HC1.out i hlt
        subst hao
        have k0 : (i : Int) < (L.length : Int) := by omega
        have HI := Lib.hid (show (0 : Int) ≤ i ∧ (i : Int) < L.length from ⟨by omega, k0⟩)
        have mo := HM.out _ (List.getElem_mem hlt)
        have HNN := Lib.hid hN
        have HX := Lib.hid (HTN.out i hlt)
        rw [← HT.out] at HX
        have HKZ := Lib.hid (tailK_zero L.length i K L[i] t).symm
        have HKN := Lib.hid (fun (k : Nat) (hk : k < L[i].length) => tailK_next L.length i K hk t)
        clear hN HT
        generalize hLi : L[i] = c at *
        have mo' : (c.length : Int) ≤ 255 := by omega
        go_wp2_with fail
        go_loopw [6, 8] (fun tl kk wr => ∃ (k q : Nat) (t2 : Int), kk = .int .i64 k ∧ tl = .int .i64 t2 ∧ k ≤ c.length ∧ wr = w1.drewN q ∧ 0 ≤ t2 ∧ t2 ≤ 16384 ∧ Hid (t2 = tailK L.length i K (c.take k) t)) (fun _ kk _ => c.length - (intOf kk).toNat)
        case atStart => exact ⟨0, q, t, rfl, rfl, Nat.zero_le _, rfl, t0, t1, HKZ⟩
        case round =>
          obtain ⟨k, q2, t2, rfl, rfl, hk, rfl, t20, t21, HT2⟩ := hrel
          by_cases hkt : k < c.length
          · obtain ⟨b5, o5, hai, c5⟩ := HNN.out.at k hkt
            subst hai
            have k1 : (k : Int) < (c.length : Int) := by omega
            have HX2 := Lib.hid (HKN.out k hkt)
            rw [← HT2.out] at HX2
            have HJZ := Lib.hid (tailJ_zero L.length i c[k] K t2).symm
            have HJN := Lib.hid (fun (j : Nat) (hj : j < K.length) => tailJ_next L.length i c[k] hj t2)
            clear HT2
            generalize c[k] = u at *
            go_wp2_with fail
            go_loopw [6, 9] (fun tl jj wr => ∃ (j q : Nat) (t3 : Int), jj = .int .i64 j ∧ tl = .int .i64 t3 ∧ j ≤ K.length ∧ wr = w1.drewN q ∧ 0 ≤ t3 ∧ t3 ≤ 16384 ∧ Hid (t3 = tailJ L.length i u (K.take j) t2)) (fun _ jj _ => K.length - (intOf jj).toNat)
            case atStart => exact ⟨0, q2, t2, rfl, rfl, Nat.zero_le _, rfl, t20, t21, HJZ⟩
            case round =>
              obtain ⟨j, q3, t3, rfl, rfl, hj, rfl, t30, t31, HT3⟩ := hrel
              by_cases hjt : j < K.length
              · obtain ⟨b6, o6, hbo, c6, c7, wf6, wf7⟩ := HK1.out j hjt
                subst hbo
                have k2 : (j : Int) < (K.length : Int) := by omega
                have HX3 := Lib.hid (HJN.out j hjt)
                rw [← HT3.out] at HX3
                clear HT3
                by_cases hu : K[j].1 = u
                · rw [if_pos hu] at HX3
                  have d1 : (K[j].1 != u) = false := bne_eq_false_iff_eq.2 hu
                  clear hu
                  generalize K[j].1 = x at *
                  generalize K[j].2 = v at *
                  obtain ⟨m1, m2, e1, e2, e3, e4⟩ := most_eq v
                  have HGM := Lib.hid (show gain L.length i v = gain L.length i m2 from by rw [gain_most, e3])
                  have HGS := Lib.hid (fun (p : Nat) (hp : p < m2) => gain_step (n := L.length) (i := i) (t := t3) (k := p) HN.out HI.out (by omega) p rfl)
                  have HGR := Lib.hid (fun v => max_gain (n := L.length) (i := i) (t := t3) (v := v) HN.out HI.out ⟨t30, t31⟩)
                  have HG0 := Lib.hid (show t3 = max t3 (gain L.length i ((0 : Nat) : Int)) from by have := gain_zero L.length i; simp only [Int.natCast_zero] at *; omega)
                  clear e3
                  go_wp2_with fail
                  go_quiet (fail)
                  go_wp2_with fail
                  go_loopw [6, 11] (fun tl pp wr => ∃ (p q : Nat) (t4 : Int), pp = .int .i64 p ∧ tl = .int .i64 t4 ∧ p ≤ m2 ∧ wr = w1.drewN q ∧ 0 ≤ t4 ∧ t4 ≤ 16384 ∧ Hid (t4 = max t3 (gain L.length i p))) (fun _ pp _ => m2 - (intOf pp).toNat)
                  case atStart => exact ⟨0, q3 + nq, t3, rfl, rfl, Nat.zero_le _, by first | rfl | simp, t30, t31, HG0⟩
                  case round =>
                    obtain ⟨p, q4, t4, rfl, rfl, hp, rfl, t40, t41, HT4⟩ := hrel
                    by_cases hpt : p < m2
                    · have k3 : (p : Int) < (m2 : Int) := by omega
                      obtain ⟨g1, g2⟩ := HGS.out p hpt
                      rw [← HT4.out] at g1
                      have g3 := HGR.out ((p : Int) + 1)
                      rw [← g1] at g3
                      have g4 := mul_small (p := p) (n := L.length) ⟨by omega, by omega⟩ HN.out
                      generalize hq : (p : Int) * (L.length : Int) = P at *
                      obtain ⟨t5, ht5⟩ : ∃ t5, (if t4 < P + i + 1 then P + i + 1 else t4) = t5 := ⟨_, rfl⟩
                      have h5 : max t4 (P + i + 1) = t5 := by rw [← ht5]; split <;> omega
                      rw [h5] at g1 g3
                      have HG1 := Lib.hid g1
                      obtain ⟨g5, g6⟩ := g3
                      clear g1 h5
                      go_wp2_with fail
                      go_roundw
                      case rel => exact ⟨p + 1, q4, t5, by go_num, rfl, by omega, rfl, g5, g6, HG1⟩
                      case measure => simp [intOf]; omega
                    · obtain rfl : p = m2 := by omega
                      have HX4 := Lib.hid (show t4 = tailJ L.length i u (K.take (j + 1)) t2 from by rw [HX3.out, HGM.out, ← HT4.out])
                      go_wp2_with fail
                      go_roundw
                      case rel => exact ⟨j + 1, q4, t4, by go_num, rfl, by omega, rfl, t40, t41, HX4⟩
                      case measure => simp [intOf]; omega
                · rw [if_neg hu] at HX3
                  have d1 : (K[j].1 != u) = true := bne_iff_ne.2 hu
                  have HX4 := Lib.hid HX3.out.symm
                  clear hu
                  go_wp2_with fail
                  go_quiet (fail)
                  go_wp2_with fail
                  go_roundw
                  case rel => exact ⟨j + 1, q3 + nq, t3, by go_num, rfl, by omega, by first | rfl | simp, t30, t31, HX4⟩
                  case measure => simp [intOf]; omega
              · obtain rfl : j = K.length := by omega
                have HX4 := Lib.hid (HT3.out.trans HX2.out.symm)
                go_wp2_with fail
                go_roundw
                case rel => exact ⟨k + 1, q3, t3, by go_num, rfl, by omega, rfl, t30, t31, HX4⟩
                case measure => simp [intOf]; omega
          · obtain rfl : k = c.length := by omega
            have HX4 := Lib.hid (HT2.out.trans HX.out.symm)
            go_wp2_with fail
            go_roundw
            case rel => exact ⟨i + 1, q2, t2, by go_num, rfl, by omega, rfl, t20, t21, HX4⟩
            case measure => simp [intOf]; omega
      · obtain rfl : i = L.length := by omega
        go_wp2_with fail
        go_ret
        rw [HR.out, ← HT.out]
        exact ⟨rfl, below_drewN HB1.out q⟩
  · rw [show tailR ep L K = 0 from if_neg hg]
    rw [Bool.eq_false_iff.2 hg] at CG
    clear hg
    go_enter Try.func20, Try.ntmps20
    go_wp2_with (go_at_call 23; refine CG.out.mono ?_; rintro e w1 ⟨rfl, hb1⟩; have HB1 := Lib.hid (HB0.out.trans (hb1.mono HB0.out.size)); clear hb1)
    go_ret
    exact ⟨rfl, HB1.out⟩
end Go.Proofs.Ytffiocgeijeheaa
