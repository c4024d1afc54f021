/- What the document's own Good returns. Conditions: the parts lie where the call was told. -/
import Derived.Test.YtjdhbpgipoifkaaG09a
set_option linter.unusedVariables false
namespace Go.Proofs.Ytjdhbpgipoifkaa
open Go.RowKit Go.Sort
set_option linter.unusedVariables false
set_option maxRecDepth 20000
set_option maxHeartbeats 4000000 in
theorem rgoodE_any (ao : Option Addr) (cap : Nat) (l : List Pt) (w : World) (h : PaL w ao l) (hlen : l.length ≤ maxLen) :
    Calls Try.prog 13 #[.slice ao l.length cap] w fun e w' => e = .returned (.bool (goodE l)) ∧ Below w.heap.size w w' := by
  by_cases hl : ¬ l.length ≤ 64
  · rw [good_long hl]
    have hl64 : (64 : Int) < (l.length : Int) := by omega
    unfold maxLen at hlen
    clear h hl
    go_enter Try.func13, Try.ntmps13
    go_wp2_with fail
    go_ret
    exact ⟨rfl, Below.refl _ _⟩
  have hl : l.length ≤ 64 := by omega
  have hl64 : (l.length : Int) ≤ 64 := by omega
  have HP := Lib.hid h
  have HY := Lib.hid (fun h => @upB_all l hl h)
  have HN1 := Lib.hid (fun k hk h => @good_no1 l k hk h)
  have HN2 := Lib.hid (fun k h0 hk h => @good_no2P l k h0 hk h)
  generalize goodE l = R at *
  clear h hlen hl
  go_enter Try.func13, Try.ntmps13
  go_wp2_with fail
  go_loopw [3] (fun i wr => ∃ k : Nat, i = .int .i64 k ∧ k ≤ l.length ∧ Hid (upB l k) ∧ Hid (Below w.heap.size w wr)) (fun i _ => l.length - (intOf i).toNat)
  case atStart => exact ⟨0, rfl, Nat.zero_le _, Lib.hid (upB_zero l), Lib.hid (Below.refl _ _)⟩
  case round =>
    obtain ⟨k, rfl, hk, HU, HB⟩ := hrel
    by_cases hlt : k < l.length
    · obtain ⟨bk, off, rfl, c0, c1, c2, c3⟩ := (HP.out.below HB.out).at k hlt
      have k0 : (k : Int) < (l.length : Int) := by omega
      obtain ⟨x, hx⟩ : ∃ x, Hid (l[k] = x) := ⟨_, Lib.hid rfl⟩
      rw [hx.out] at c0 c1 c2 c3
      have CA := Lib.hid (fun W => rone_any x W)
      by_cases ho : oneB x = false
      · have HF := Lib.hid (show R = false from HN1.out k hlt (by rw [hx.out]; exact ho))
        rw [ho] at CA
        clear ho
        go_wp2_with (go_at_call 30; refine (CA.out _).mono ?_; rintro e w1 ⟨rfl, hb1⟩; have HB1 := Lib.hid (blwO hb1 HB.out); clear hb1)
        go_ret
        rw [HF.out]
        exact ⟨rfl, HB1.out⟩
      have ho1 : oneB x = true := by simpa using ho
      rw [ho1] at CA
      by_cases hk0 : k = 0
      · have HN := Lib.hid (show upB l (k + 1) from by subst hk0; exact upB_one hlt (by rw [hx.out]; exact ho1))
        have i3 : ((k : Int) == 0) = true := beq_iff_eq.2 (by omega)
        clear ho ho1 hk0
        go_wp2_with (go_at_call 30; refine (CA.out _).mono ?_; rintro e w1 ⟨rfl, hb1⟩; have HB1 := Lib.hid (blwO hb1 HB.out); clear hb1)
        go_roundw
        case rel => exact ⟨k + 1, by go_num, by omega, HN, HB1⟩
        case measure => simp [intOf]; omega
      have hjl : k - 1 < l.length := by omega
      obtain ⟨y, hy⟩ : ∃ y, Hid (l[k - 1] = y) := ⟨_, Lib.hid rfl⟩
      have o1 : oneB y = true := by rw [← hy.out]; exact HU.out.1 (k - 1) hjl (by omega)
      obtain ⟨y1, y2, y3, y4, y5, y6, y7⟩ := oneB_iff.1 o1
      obtain ⟨z1, z2, z3, z4, z5, z6, z7⟩ := oneB_iff.1 ho1
      have i1 : (0 : Int) ≤ (k : Int) - 1 := by omega
      have i2 : (k : Int) - 1 < (l.length : Int) := by omega
      have i3 : ((k : Int) == 0) = false := beq_eq_false_iff_ne.2 (by omega)
      have HG := Lib.hid (@fitB_iff y x)
      have HNX := Lib.hid (show fitB y x = true → upB l (k + 1) from fun h => upB_nextP (by omega) HU.out hlt (by rw [hx.out]; exact ho1) (by rw [hx.out, hy.out]; exact h))
      have HFX := Lib.hid (show fitB y x = false → R = false from fun h => HN2.out k (by omega) hlt (by rw [hx.out, hy.out]; exact h))
      have hst : y.stop = y.off + y.len := rfl
      have HC := Lib.hid (fun W (hb : Below wr.heap.size wr W) => And.intro ((HP.out.below (blwO hb HB.out)).at k hlt) ((HP.out.below (blwO hb HB.out)).at (k - 1) hjl))
      have HQ := Lib.hid (show fitB y x = true ↔ y.off + y.len ≤ x.off ∧ ¬ (y.off + y.len = x.off ∧ y.addr = x.addr ∧ y.src + y.len = x.src) from HG.out)
      clear ho ho1 o1 hk0 hst HG
      by_cases hf : y.off + y.len ≤ x.off
      · have ft : decide (x.off < y.off + y.len) = false := decide_eq_false (by omega)
        by_cases hq : y.off + y.len = x.off
        · have q1 : (y.off + y.len == x.off) = true := beq_iff_eq.2 hq
          by_cases ha : y.addr = x.addr
          · have q2 : (y.addr == x.addr) = true := beq_iff_eq.2 ha
            by_cases hsr : y.src + y.len = x.src
            · have q3 : (y.src + y.len == x.src) = true := beq_iff_eq.2 hsr
              have HF := Lib.hid (HFX.out (Bool.eq_false_iff.2 (fun e => (HQ.out.1 e).2 ⟨hq, ha, hsr⟩)))
              clear hq ha hsr hf
              go_wp2_with (go_at_call 30; refine (CA.out _).mono ?_; rintro e w1 ⟨rfl, hb1⟩; have HB1 := Lib.hid (blwO hb1 HB.out); obtain ⟨⟨_, _, he1, p0, p1, p2, p3⟩, ⟨_, _, he2, r0, r1, r2, r3⟩⟩ := HC.out _ hb1; cases he1; cases he2; rw [hx.out] at p0 p1 p2 p3; rw [hy.out] at r0 r1 r2 r3; clear hb1)
              go_quiet (fail)
              go_wp2_with fail
              go_quiet (fail)
              go_wp2_with fail
              go_ret
              rw [HF.out]
              exact ⟨rfl, below_drewN (below_drewN HB1.out _) _⟩
            · have q3 : (y.src + y.len == x.src) = false := beq_eq_false_iff_ne.2 hsr
              have HN := Lib.hid (HNX.out (HQ.out.2 ⟨hf, fun c => hsr c.2.2⟩))
              clear hq ha hsr hf
              go_wp2_with (go_at_call 30; refine (CA.out _).mono ?_; rintro e w1 ⟨rfl, hb1⟩; have HB1 := Lib.hid (blwO hb1 HB.out); obtain ⟨⟨_, _, he1, p0, p1, p2, p3⟩, ⟨_, _, he2, r0, r1, r2, r3⟩⟩ := HC.out _ hb1; cases he1; cases he2; rw [hx.out] at p0 p1 p2 p3; rw [hy.out] at r0 r1 r2 r3; clear hb1)
              go_quiet (fail)
              go_wp2_with fail
              go_quiet (fail)
              go_wp2_with fail
              go_roundw
              case rel => exact ⟨k + 1, by go_num, by omega, HN, Lib.hid (below_drewN HB1.out _)⟩
              case measure => simp [intOf]; omega
          · have q2 : (y.addr == x.addr) = false := beq_eq_false_iff_ne.2 ha
            have HN := Lib.hid (HNX.out (HQ.out.2 ⟨hf, fun c => ha c.2.1⟩))
            clear hq ha hf
            go_wp2_with (go_at_call 30; refine (CA.out _).mono ?_; rintro e w1 ⟨rfl, hb1⟩; have HB1 := Lib.hid (blwO hb1 HB.out); obtain ⟨⟨_, _, he1, p0, p1, p2, p3⟩, ⟨_, _, he2, r0, r1, r2, r3⟩⟩ := HC.out _ hb1; cases he1; cases he2; rw [hx.out] at p0 p1 p2 p3; rw [hy.out] at r0 r1 r2 r3; clear hb1)
            go_quiet (fail)
            go_wp2_with fail
            go_quiet (fail)
            go_wp2_with fail
            go_roundw
            case rel => exact ⟨k + 1, by go_num, by omega, HN, Lib.hid (below_drewN HB1.out _)⟩
            case measure => simp [intOf]; omega
        · have q1 : (y.off + y.len == x.off) = false := beq_eq_false_iff_ne.2 hq
          have HN := Lib.hid (HNX.out (HQ.out.2 ⟨hf, fun c => hq c.1⟩))
          clear hq hf
          go_wp2_with (go_at_call 30; refine (CA.out _).mono ?_; rintro e w1 ⟨rfl, hb1⟩; have HB1 := Lib.hid (blwO hb1 HB.out); obtain ⟨⟨_, _, he1, p0, p1, p2, p3⟩, ⟨_, _, he2, r0, r1, r2, r3⟩⟩ := HC.out _ hb1; cases he1; cases he2; rw [hx.out] at p0 p1 p2 p3; rw [hy.out] at r0 r1 r2 r3; clear hb1)
          go_quiet (fail)
          go_wp2_with fail
          go_quiet (fail)
          go_wp2_with fail
          go_roundw
          case rel => exact ⟨k + 1, by go_num, by omega, HN, Lib.hid (below_drewN HB1.out _)⟩
          case measure => simp [intOf]; omega
      · have ft : decide (x.off < y.off + y.len) = true := decide_eq_true (by omega)
        have HF := Lib.hid (HFX.out (Bool.eq_false_iff.2 (fun e => hf (HQ.out.1 e).1)))
        clear hf
        go_wp2_with (go_at_call 30; refine (CA.out _).mono ?_; rintro e w1 ⟨rfl, hb1⟩; have HB1 := Lib.hid (blwO hb1 HB.out); obtain ⟨⟨_, _, he1, p0, p1, p2, p3⟩, ⟨_, _, he2, r0, r1, r2, r3⟩⟩ := HC.out _ hb1; cases he1; cases he2; rw [hx.out] at p0 p1 p2 p3; rw [hy.out] at r0 r1 r2 r3; clear hb1)
        go_quiet (fail)
        go_wp2_with fail
        go_quiet (fail)
        go_wp2_with fail
        go_ret
        rw [HF.out]
        exact ⟨rfl, below_drewN (below_drewN HB1.out _) _⟩
    · obtain rfl : k = l.length := by omega
      have HF := Lib.hid (HY.out HU.out)
      go_wp2_with fail
      go_ret
      rw [HF.out]
      exact ⟨rfl, HB.out⟩
end Go.Proofs.Ytjdhbpgipoifkaa
