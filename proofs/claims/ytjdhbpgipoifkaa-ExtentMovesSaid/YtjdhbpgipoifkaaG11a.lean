/- What the program's own Good and End return. Conditions: the parts lie where the call was told. -/
import Derived.Test.YtjdhbpgipoifkaaG10a
import Derived.Test.YtjdhbpgipoifkaaG07b
set_option linter.unusedVariables false
namespace Go.Proofs.Ytjdhbpgipoifkaa
open Go.RowKit Go.Sort
set_option linter.unusedVariables false
set_option maxRecDepth 20000
set_option maxHeartbeats 4000000 in
theorem egood_any (ao : Option Addr) (cap : Nat) (l : List Pt) (w : World) (h : PaL w ao l) (hlen : l.length ≤ maxLen) :
    Calls Try.prog 12 #[.slice ao l.length cap] w fun e w' => e = .returned (.bool (goodE l)) ∧ Below w.heap.size w w' := by
  by_cases hl : ¬ l.length ≤ 64
  · rw [good_long hl]
    have hl64 : (64 : Int) < (l.length : Int) := by omega
    unfold maxLen at hlen
    clear h hl
    go_enter Try.func12, Try.ntmps12
    go_wp2_with fail
    go_ret
    exact ⟨rfl, Below.refl _ _⟩
  have hl : l.length ≤ 64 := by omega
  have hl64 : (l.length : Int) ≤ 64 := by omega
  have HP := Lib.hid h
  have HY := Lib.hid (fun h => @upB_all l hl h)
  have HN1 := Lib.hid (fun k hk h => @good_no1 l k hk h)
  have HN2 := Lib.hid (fun k h0 hk h => @good_no2P l k h0 hk h)
  generalize goodE l = R at *
  clear h hlen hl
  go_enter Try.func12, Try.ntmps12
  go_wp2_with fail
  go_loopw [10] (fun i wr => ∃ k : Nat, i = .int .i64 k ∧ k ≤ l.length ∧ Hid (upB l k) ∧ Hid (Below w.heap.size w wr)) (fun i _ => l.length - (intOf i).toNat)
  case atStart => exact ⟨0, rfl, Nat.zero_le _, Lib.hid (upB_zero l), Lib.hid (Below.refl _ _)⟩
  case round =>
    obtain ⟨k, rfl, hk, HU, HB⟩ := hrel
    by_cases hlt : k < l.length
    · obtain ⟨bk, off, rfl, c0, c1, c2, c3⟩ := (HP.out.below HB.out).at k hlt
      have k0 : (k : Int) < (l.length : Int) := by omega
      obtain ⟨x, hx⟩ : ∃ x, Hid (l[k] = x) := ⟨_, Lib.hid rfl⟩
      rw [hx.out] at c0 c1 c2 c3
      have HB1 := Lib.hid (blwO (blwA wr (.cells #[.int .i64 x.off, .int .i64 x.len, .int .i64 x.addr, .int .i64 x.src] 31)) HB.out)
      have HX := Lib.hid (show PtB (wr.alloc (.cells #[.int .i64 x.off, .int .i64 x.len, .int .i64 x.addr, .int .i64 x.src] 31)) wr.heap.size x from heap_alloc_new _ _)
      have CA := Lib.hid (quiet_on (fun W => ealone_any x W))
      by_cases ho : oneB x = false
      · have HF := Lib.hid (show R = false from HN1.out k hlt (by rw [hx.out]; exact ho))
        rw [ho] at CA
        clear ho
        go_wp2_with fail
        generalize World.alloc _ _ = W0 at *
        obtain ⟨x0, x1, x2, x3⟩ := HX.out.quiet
        refine wp_region_quiet_below (by kernel_rfl) (by kernel_rfl) ?_
        repeat (go_big_quiet_step (first | with_reducible exact CA.out _ _ _))
        refine wpQuiet_nil ?_
        intro _ hw'
        obtain ⟨⟨dq, osq⟩, hw''⟩ := hw'
        subst hw''
        go_wp2_with fail
        go_ret
        rw [HF.out]
        exact ⟨rfl, blwO (below_regrown _ dq osq) HB1.out⟩
      have ho1 : oneB x = true := by simpa using ho
      rw [ho1] at CA
      by_cases hk0 : k = 0
      · have HN := Lib.hid (show upB l (k + 1) from by subst hk0; exact upB_one hlt (by rw [hx.out]; exact ho1))
        have i3 : decide (0 < k) = false := decide_eq_false (by omega)
        clear ho ho1 hk0
        go_wp2_with fail
        generalize World.alloc _ _ = W0 at *
        obtain ⟨x0, x1, x2, x3⟩ := HX.out.quiet
        refine wp_region_quiet_below (by kernel_rfl) (by kernel_rfl) ?_
        repeat (go_big_quiet_step (first | with_reducible exact CA.out _ _ _))
        refine wpQuiet_nil ?_
        intro _ hw'
        obtain ⟨⟨dq, osq⟩, hw''⟩ := hw'
        subst hw''
        go_wp2_with fail
        go_roundw
        case rel => exact ⟨k + 1, by go_num, by omega, HN, Lib.hid (blwO (below_regrown _ dq osq) HB1.out)⟩
        case measure => simp [intOf]; omega
      have hjl : k - 1 < l.length := by omega
      obtain ⟨y, hy⟩ : ∃ y, Hid (l[k - 1] = y) := ⟨_, Lib.hid rfl⟩
      have o1 : oneB y = true := by rw [← hy.out]; exact HU.out.1 (k - 1) hjl (by omega)
      have CE := Lib.hid (quiet_on (fun W => eend_any y (midP_one o1) W))
      have CG := Lib.hid (quiet_on (fun W => egoes_any y x (midP_one o1) W))
      obtain ⟨bk2, off2, he, b0, b1, b2, b3⟩ := (HP.out.below HB1.out).at (k - 1) hjl
      cases he
      rw [hy.out] at b0 b1 b2 b3
      have q0 := Lib.hid (cell_regrown b0)
      have q1 := Lib.hid (cell_regrown b1)
      have q2 := Lib.hid (cell_regrown b2)
      have q3 := Lib.hid (cell_regrown b3)
      have i1 : (0 : Int) ≤ (k : Int) - 1 := by omega
      have i2 : (k : Int) - 1 < (l.length : Int) := by omega
      have i3 : decide (0 < k) = true := decide_eq_true (by omega)
      have HG := Lib.hid (@fit_goes y x o1)
      have HNX := Lib.hid (show fitB y x = true → upB l (k + 1) from fun h => upB_nextP (by omega) HU.out hlt (by rw [hx.out]; exact ho1) (by rw [hx.out, hy.out]; exact h))
      have HFX := Lib.hid (show fitB y x = false → R = false from fun h => HN2.out k (by omega) hlt (by rw [hx.out, hy.out]; exact h))
      clear b0 b1 b2 b3 ho ho1 o1 hk0
      by_cases hf : y.stop ≤ x.off
      · have ft : decide (x.off < y.stop) = false := decide_eq_false (by omega)
        cases hg : goesB y x
        · rw [hg] at CG
          have HN := Lib.hid (HNX.out (by rw [HG.out, hg, decide_eq_true hf]; rfl))
          clear hf hg
          go_wp2_with fail
          generalize World.alloc _ _ = W0 at *
          obtain ⟨x0, x1, x2, x3⟩ := HX.out.quiet
          have q0 := q0.out
          have q1 := q1.out
          have q2 := q2.out
          have q3 := q3.out
          refine wp_region_quiet_below (by kernel_rfl) (by kernel_rfl) ?_
          repeat (go_big_quiet_step (first | with_reducible exact CA.out _ _ _ | with_reducible exact CE.out _ _ _ | with_reducible exact CG.out _ _ _))
          refine wpQuiet_nil ?_
          intro _ hw'
          obtain ⟨⟨dq, osq⟩, hw''⟩ := hw'
          subst hw''
          go_wp2_with fail
          go_roundw
          case rel => exact ⟨k + 1, by go_num, by omega, HN, Lib.hid (blwO (below_regrown _ dq osq) HB1.out)⟩
          case measure => simp [intOf]; omega
        · rw [hg] at CG
          have HF := Lib.hid (HFX.out (by rw [HG.out, hg, Bool.and_comm]; rfl))
          clear hf hg
          go_wp2_with fail
          generalize World.alloc _ _ = W0 at *
          obtain ⟨x0, x1, x2, x3⟩ := HX.out.quiet
          have q0 := q0.out
          have q1 := q1.out
          have q2 := q2.out
          have q3 := q3.out
          refine wp_region_quiet_below (by kernel_rfl) (by kernel_rfl) ?_
          repeat (go_big_quiet_step (first | with_reducible exact CA.out _ _ _ | with_reducible exact CE.out _ _ _ | with_reducible exact CG.out _ _ _))
          refine wpQuiet_nil ?_
          intro _ hw'
          obtain ⟨⟨dq, osq⟩, hw''⟩ := hw'
          subst hw''
          go_wp2_with fail
          go_ret
          rw [HF.out]
          exact ⟨rfl, blwO (below_regrown _ dq osq) HB1.out⟩
      · have ft : decide (x.off < y.stop) = true := decide_eq_true (by omega)
        have HF := Lib.hid (HFX.out (by rw [HG.out, decide_eq_false hf]; rfl))
        clear hf
        go_wp2_with fail
        generalize World.alloc _ _ = W0 at *
        obtain ⟨x0, x1, x2, x3⟩ := HX.out.quiet
        have q0 := q0.out
        have q1 := q1.out
        have q2 := q2.out
        have q3 := q3.out
        refine wp_region_quiet_below (by kernel_rfl) (by kernel_rfl) ?_
        repeat (go_big_quiet_step (first | with_reducible exact CA.out _ _ _ | with_reducible exact CE.out _ _ _))
        refine wpQuiet_nil ?_
        intro _ hw'
        obtain ⟨⟨dq, osq⟩, hw''⟩ := hw'
        subst hw''
        go_wp2_with fail
        go_ret
        rw [HF.out]
        exact ⟨rfl, blwO (below_regrown _ dq osq) HB1.out⟩
    · obtain rfl : k = l.length := by omega
      have HF := Lib.hid (HY.out HU.out)
      go_wp2_with fail
      go_ret
      rw [HF.out]
      exact ⟨rfl, HB.out⟩
theorem endE_none : endE [] = 0 := rfl
theorem endL_last {l : List Pt} (h : 0 < l.length) : endL l = (l[l.length - 1]'(by omega)).stop := by
  unfold endL
  rw [List.getLast?_eq_getElem?, List.getElem?_eq_getElem (by omega)]
set_option maxHeartbeats 4000000 in
theorem eEnd_any (ao : Option Addr) (cap : Nat) (l : List Pt) (w : World) (h : PaL w ao l) (hlen : l.length ≤ maxLen) :
    Calls Try.prog 14 #[.slice ao l.length cap] w fun e w' => e = .returned (.int .i64 (endE l)) ∧ Below w.heap.size w w' := by
  have CG := Lib.hid (egood_any ao cap l w h hlen)
  have HP := Lib.hid h
  have HR := Lib.hid (show endE l = if goodE l = true then endL l else 0 from rfl)
  have HL := Lib.hid (@endL_last l)
  unfold maxLen at hlen
  have hlen' : (l.length : Int) ≤ 9223372036854775807 := by omega
  clear h
  by_cases h0 : l.length = 0
  · obtain rfl := List.eq_nil_of_length_eq_zero h0
    clear CG h0
    go_enter Try.func14, Try.ntmps14
    go_wp2_with fail
    go_ret
    exact ⟨rfl, Below.refl _ _⟩
  have z0 : ((l.length : Int) == 0) = false := beq_eq_false_iff_ne.2 (by omega)
  cases hg : goodE l
  · rw [hg] at CG HR
    clear hg h0 hlen
    go_enter Try.func14, Try.ntmps14
    go_wp2_with (go_at_call 12; refine CG.out.mono ?_; rintro e w1 ⟨rfl, hb1⟩; have HB1 := Lib.hid hb1; clear hb1)
    go_ret
    rw [HR.out]
    exact ⟨rfl, HB1.out⟩
  · rw [hg, if_pos rfl] at HR
    rw [hg] at CG
    have hjl : l.length - 1 < l.length := by omega
    obtain ⟨y, hy⟩ : ∃ y, Hid (l[l.length - 1] = y) := ⟨_, Lib.hid rfl⟩
    have HLL := Lib.hid (show endL l = y.stop from by rw [HL.out (by omega), hy.out])
    have CE := Lib.hid (fun W => eend_any y (by rw [← hy.out]; exact midP_one ((rail_iff.1 (goodE_iff.1 hg).2).1 _ hjl)) W)
    have i1 : (0 : Int) ≤ (l.length : Int) - 1 := by omega
    clear hg h0 hlen
    go_enter Try.func14, Try.ntmps14
    go_wp2_with (first
      | (go_at_call 28; with_reducible refine (CE.out _).mono ?_; rintro e w2 ⟨rfl, hb2⟩; have HB2 := Lib.hid (blwO hb2 HB1.out); clear hb2)
      | (go_at_call 12; refine CG.out.mono ?_; rintro e w1 ⟨rfl, hb1⟩; have HB1 := Lib.hid hb1; clear hb1; obtain ⟨bk, off, hao, c0, c1, c2, c3⟩ := (HP.out.below HB1.out).at (l.length - 1) hjl; subst hao; rw [hy.out] at c0 c1 c2 c3))
    go_ret
    rw [HR.out, HLL.out]
    exact ⟨rfl, HB2.out⟩
end Go.Proofs.Ytjdhbpgipoifkaa
