/- Stage 20: a cell of the document's table is turned; file, space. No conditions. What the document's own Good returns. Conditions: the parts lie where the call was told. -/
import Derived.Test.YtfkgeefoknaldaaG09a
import Derived.Test.YtfkgeefoknaldaaG09b
set_option linter.unusedVariables false
namespace Go.Proofs.Ytfkgeefoknaldaa
open Go.RowKit
set_option linter.unusedVariables false
set_option maxRecDepth 20000
theorem flat_set (a r : List Iv) (y y' : Iv) (c : Nat) (v : Value) (hc : c < 6) (h : (ivC y).set c v = ivC y') : ((a ++ y :: r).flatMap ivC).set (a.length * 6 + c) v = (a ++ y' :: r).flatMap ivC := by
  rw [List.flatMap_append, List.flatMap_append, List.flatMap_cons, List.flatMap_cons]
  have h1 := iv_rows.flat_len a
  rw [List.set_append_right _ _ (by omega), h1, show a.length * 6 + c - a.length * 6 = c from by omega]
  rw [List.set_append_left _ _ (by rw [iv_rows.len]; exact hc), h]
theorem PaL.kept {S : Nat → Prop} {w w' : World} {ao : Option Addr} {l : List Pt} (h : PaL w ao l) (hk : Kept S w w') (hS : ∀ a, ao = some a → S a.block) : PaL w' ao l := by
  intro i hi
  obtain ⟨bk, off, e, h1⟩ := h i hi
  refine ⟨bk, off, e, fun j v hv => ?_⟩
  have h2 := h1 j v hv
  have hb := hk.block bk (hS _ e) (block_lt_of_cell h2)
  rw [← h2]
  simp [World.cell?, hb]
theorem IvIn.kept {w w' : World} {q g : Nat} {y : Iv} (h : IvIn w q g y) (hk : Kept (fun k => k ≠ g) w w') : IvIn w' q g y :=
  ⟨PaL.kept h.1 hk (fun a e => (h.2.2.2 a e).2.2), h.2.1, h.2.2.1, fun a e => ⟨Nat.lt_of_lt_of_le (h.2.2.2 a e).1 hk.size, (h.2.2.2 a e).2⟩⟩
/-- one cell of one inode is turned -/
theorem DTab.put {w : World} {B q g cap N : Nat} {a r : List Iv} {y y' : Iv} {next : Int} (h : DTab w B q g cap (a ++ y :: r) next) (c : Nat) (v : Value) (hc : c < 6) (hv : (ivC y).set c v = ivC y') (hy : IvIn w q g y') (hN : N = a.length) :
    DTab (w.setCell ⟨g, N * 6 + c, none⟩ v) B q g cap (a ++ y' :: r) next := by
  subst hN
  have hl : (a ++ y' :: r).length = (a ++ y :: r).length := by simp
  have hk : Kept (fun k => k ≠ g) w (w.setCell ⟨g, a.length * 6 + c, none⟩ v) := (Kept.refl _ w).setCell (fun e => e rfl) v
  refine ⟨?_, ?_, h.low, h.two, fun z hz => ?_⟩
  · rw [hl]
    exact hk.heap h.two h.head
  · have h2 := h.row
    unfold OIv OR at h2 ⊢
    rw [hl, ← flat_set a r y y' c v hc hv]
    exact (h2.stored (a.length * 6 + c) v).1
  · rcases List.mem_append.1 hz with hz | hz
    · exact (h.each z (List.mem_append_left _ hz)).kept hk
    · rcases List.mem_cons.1 hz with rfl | hz
      · exact hy.kept hk
      · exact (h.each z (List.mem_append_right _ (List.mem_cons_of_mem _ hz))).kept hk
theorem DTab.free {w : World} {B q g cap : Nat} {l : List Iv} {next : Int} (h : DTab w B q g cap l next) (j : Nat) : w.frozen? ⟨g, j, none⟩ = false ∧ w.frozen? ⟨q, j, none⟩ = false := by
  refine ⟨?_, free_of h.head j⟩
  rcases h.row.2 with ⟨e, _⟩ | ⟨g2, cap2, cur, e, _, hh, _⟩
  · cases e
  · cases e
    exact free_of hh j
set_option maxHeartbeats 4000000 in
theorem rspace_any (e : Int) (w : World) : Calls Try.prog 54 #[.int .i64 e] w fun r w' => r = .returned (.int .i64 (spaceI e)) ∧ w = w' := by
  by_cases h : e = 3
  · rw [show spaceI e = 67 from if_pos h]
    have e1 : (e == 3) = true := beq_iff_eq.2 h
    go_enter Try.func54, Try.ntmps54
    go_wp2_with fail
    go_ret
    exact ⟨rfl, rfl⟩
  · rw [show spaceI e = e from if_neg h]
    have e1 : (e == 3) = false := beq_eq_false_iff_ne.2 h
    go_enter Try.func54, Try.ntmps54
    go_wp2_with fail
    go_ret
    exact ⟨rfl, rfl⟩
/-- where a file stands -/
theorem rfile_none (w : World) (B q g cap : Nat) (l : List Iv) (next n : Int) (h : DTab w B q g cap l next) (hl : l.length ≤ 100) (hr : ∀ j (hj : j < l.length), l[j].x.ino ≠ n) :
    Calls Try.prog 52 #[.pointer (some ⟨q, 0, none⟩), .int .i64 n] w fun e w' => e = .returned (.tuple #[.int .i64 (-1), .int .i64 60]) ∧ w = w' := by
  have CF := Lib.hid (rfind_any w B q g cap l next n h hl (-1) (.inl ⟨rfl, hr⟩))
  clear h hr
  go_enter Try.func52, Try.ntmps52
  go_wp2_with (go_at_call 35; refine CF.out.mono ?_; rintro e w' ⟨rfl, rfl⟩)
  go_ret2
  exact ⟨rfl, rfl⟩
theorem rfile_some (w : World) (B q g cap : Nat) (l : List Iv) (next n : Int) (h : DTab w B q g cap l next) (hl : l.length ≤ 100) (k : Nat) (hk : k < l.length) (hx : l[k].x.ino = n) (hr : ∀ j (hj : j < k), l[j].x.ino ≠ n) (r : Int) (he : (l[k].x.kind = 1 ∧ r = 63) ∨ (¬ l[k].x.kind = 1 ∧ r = 0)) :
    Calls Try.prog 52 #[.pointer (some ⟨q, 0, none⟩), .int .i64 n] w fun e w' => e = .returned (.tuple #[.int .i64 (k : Int), .int .i64 r]) ∧ w = w' := by
  have CF := Lib.hid (rfind_any w B q g cap l next n h hl (k : Int) (.inr ⟨k, rfl, hk, hx, hr⟩))
  obtain ⟨c0, c1⟩ := h.cells
  obtain ⟨_, b1, _⟩ := h.at k hk
  have k0 : (k : Int) < (l.length : Int) := by omega
  have hlI : (l.length : Int) ≤ 100 := by omega
  clear h hr hx
  generalize l[k].x.kind = kd at *
  rcases he with ⟨h1, rfl⟩ | ⟨h1, rfl⟩
  · have e1 : (kd == 1) = true := beq_iff_eq.2 h1
    go_enter Try.func52, Try.ntmps52
    go_wp2_with (go_at_call 35; refine CF.out.mono ?_; rintro e w' ⟨rfl, rfl⟩)
    go_ret2
    exact ⟨rfl, rfl⟩
  · have e1 : (kd == 1) = false := beq_eq_false_iff_ne.2 h1
    go_enter Try.func52, Try.ntmps52
    go_wp2_with (go_at_call 35; refine CF.out.mono ?_; rintro e w' ⟨rfl, rfl⟩)
    go_ret2
    exact ⟨rfl, rfl⟩
end Go.Proofs.Ytfkgeefoknaldaa
namespace Go.Proofs.Ytfkgeefoknaldaa
open Go.RowKit Go.Sort
set_option linter.unusedVariables false
set_option maxRecDepth 20000
set_option maxHeartbeats 4000000 in
theorem rgoodE_any (ao : Option Addr) (cap : Nat) (l : List Pt) (w : World) (h : PaL w ao l) (hlen : l.length ≤ maxLen) :
    Calls Try.prog 70 #[.slice ao l.length cap] w fun e w' => e = .returned (.bool (goodE l)) ∧ Below w.heap.size w w' := by
  by_cases hl : ¬ l.length ≤ 64
  · rw [good_long hl]
    have hl64 : (64 : Int) < (l.length : Int) := by omega
    unfold maxLen at hlen
    clear h hl
    go_enter Try.func70, Try.ntmps70
    go_wp2_with fail
    go_ret
    exact ⟨rfl, Below.refl _ _⟩
  have hl : l.length ≤ 64 := by omega
  have hl64 : (l.length : Int) ≤ 64 := by omega
  have HP := Lib.hid h
  have HY := Lib.hid (fun h => @upB_all l hl h)
  have HN1 := Lib.hid (fun k hk h => @good_no1 l k hk h)
  have HN2 := Lib.hid (fun k h0 hk h => @good_no2P l k h0 hk h)
  generalize goodE l = R at *
  clear h hlen hl
  go_enter Try.func70, Try.ntmps70
  go_wp2_with fail
  go_loopw [3] (fun i wr => ∃ k : Nat, i = .int .i64 k ∧ k ≤ l.length ∧ Hid (upB l k) ∧ Hid (Below w.heap.size w wr)) (fun i _ => l.length - (intOf i).toNat)
  case atStart => exact ⟨0, rfl, Nat.zero_le _, Lib.hid (upB_zero l), Lib.hid (Below.refl _ _)⟩
  case round =>
    obtain ⟨k, rfl, hk, HU, HB⟩ := hrel
    by_cases hlt : k < l.length
    · obtain ⟨bk, off, rfl, c0, c1, c2, c3⟩ := (HP.out.below HB.out).at k hlt
      have k0 : (k : Int) < (l.length : Int) := by omega
      obtain ⟨x, hx⟩ : ∃ x, Hid (l[k] = x) := ⟨_, Lib.hid rfl⟩
      rw [hx.out] at c0 c1 c2 c3
      have CA := Lib.hid (fun W => rone_any x W)
      by_cases ho : oneB x = false
      · have HF := Lib.hid (show R = false from HN1.out k hlt (by rw [hx.out]; exact ho))
        rw [ho] at CA
        clear ho
        go_wp2_with (go_at_call 71; refine (CA.out _).mono ?_; rintro e w1 ⟨rfl, hb1⟩; have HB1 := Lib.hid (blwO hb1 HB.out); clear hb1)
        go_ret
        rw [HF.out]
        exact ⟨rfl, HB1.out⟩
      have ho1 : oneB x = true := by simpa using ho
      rw [ho1] at CA
      by_cases hk0 : k = 0
      · have HN := Lib.hid (show upB l (k + 1) from by subst hk0; exact upB_one hlt (by rw [hx.out]; exact ho1))
        have i3 : ((k : Int) == 0) = true := beq_iff_eq.2 (by omega)
        clear ho ho1 hk0
        go_wp2_with (go_at_call 71; refine (CA.out _).mono ?_; rintro e w1 ⟨rfl, hb1⟩; have HB1 := Lib.hid (blwO hb1 HB.out); clear hb1)
        go_roundw
        case rel => exact ⟨k + 1, by go_num, by omega, HN, HB1⟩
        case measure => simp [intOf]; omega
      have hjl : k - 1 < l.length := by omega
      obtain ⟨y, hy⟩ : ∃ y, Hid (l[k - 1] = y) := ⟨_, Lib.hid rfl⟩
      have o1 : oneB y = true := by rw [← hy.out]; exact HU.out.1 (k - 1) hjl (by omega)
      obtain ⟨y1, y2, y3, y4, y5, y6, y7⟩ := oneB_iff.1 o1
      obtain ⟨z1, z2, z3, z4, z5, z6, z7⟩ := oneB_iff.1 ho1
      have i1 : (0 : Int) ≤ (k : Int) - 1 := by omega
      have i2 : (k : Int) - 1 < (l.length : Int) := by omega
      have i3 : ((k : Int) == 0) = false := beq_eq_false_iff_ne.2 (by omega)
      have HG := Lib.hid (@fitB_iff y x)
      have HNX := Lib.hid (show fitB y x = true → upB l (k + 1) from fun h => upB_nextP (by omega) HU.out hlt (by rw [hx.out]; exact ho1) (by rw [hx.out, hy.out]; exact h))
      have HFX := Lib.hid (show fitB y x = false → R = false from fun h => HN2.out k (by omega) hlt (by rw [hx.out, hy.out]; exact h))
      have hst : y.stop = y.off + y.len := rfl
      have HC := Lib.hid (fun W (hb : Below wr.heap.size wr W) => And.intro ((HP.out.below (blwO hb HB.out)).at k hlt) ((HP.out.below (blwO hb HB.out)).at (k - 1) hjl))
      have HQ := Lib.hid (show fitB y x = true ↔ y.off + y.len ≤ x.off ∧ ¬ (y.off + y.len = x.off ∧ y.addr = x.addr ∧ y.src + y.len = x.src) from HG.out)
      clear ho ho1 o1 hk0 hst HG
      by_cases hf : y.off + y.len ≤ x.off
      · have ft : decide (x.off < y.off + y.len) = false := decide_eq_false (by omega)
        by_cases hq : y.off + y.len = x.off
        · have q1 : (y.off + y.len == x.off) = true := beq_iff_eq.2 hq
          by_cases ha : y.addr = x.addr
          · have q2 : (y.addr == x.addr) = true := beq_iff_eq.2 ha
            by_cases hsr : y.src + y.len = x.src
            · have q3 : (y.src + y.len == x.src) = true := beq_iff_eq.2 hsr
              have HF := Lib.hid (HFX.out (Bool.eq_false_iff.2 (fun e => (HQ.out.1 e).2 ⟨hq, ha, hsr⟩)))
              clear hq ha hsr hf
              go_wp2_with (go_at_call 71; refine (CA.out _).mono ?_; rintro e w1 ⟨rfl, hb1⟩; have HB1 := Lib.hid (blwO hb1 HB.out); obtain ⟨⟨_, _, he1, p0, p1, p2, p3⟩, ⟨_, _, he2, r0, r1, r2, r3⟩⟩ := HC.out _ hb1; cases he1; cases he2; rw [hx.out] at p0 p1 p2 p3; rw [hy.out] at r0 r1 r2 r3; clear hb1)
              go_quiet (fail)
              go_wp2_with fail
              go_quiet (fail)
              go_wp2_with fail
              go_ret
              rw [HF.out]
              exact ⟨rfl, below_drewN (below_drewN HB1.out _) _⟩
            · have q3 : (y.src + y.len == x.src) = false := beq_eq_false_iff_ne.2 hsr
              have HN := Lib.hid (HNX.out (HQ.out.2 ⟨hf, fun c => hsr c.2.2⟩))
              clear hq ha hsr hf
              go_wp2_with (go_at_call 71; refine (CA.out _).mono ?_; rintro e w1 ⟨rfl, hb1⟩; have HB1 := Lib.hid (blwO hb1 HB.out); obtain ⟨⟨_, _, he1, p0, p1, p2, p3⟩, ⟨_, _, he2, r0, r1, r2, r3⟩⟩ := HC.out _ hb1; cases he1; cases he2; rw [hx.out] at p0 p1 p2 p3; rw [hy.out] at r0 r1 r2 r3; clear hb1)
              go_quiet (fail)
              go_wp2_with fail
              go_quiet (fail)
              go_wp2_with fail
              go_roundw
              case rel => exact ⟨k + 1, by go_num, by omega, HN, Lib.hid (below_drewN HB1.out _)⟩
              case measure => simp [intOf]; omega
          · have q2 : (y.addr == x.addr) = false := beq_eq_false_iff_ne.2 ha
            have HN := Lib.hid (HNX.out (HQ.out.2 ⟨hf, fun c => ha c.2.1⟩))
            clear hq ha hf
            go_wp2_with (go_at_call 71; refine (CA.out _).mono ?_; rintro e w1 ⟨rfl, hb1⟩; have HB1 := Lib.hid (blwO hb1 HB.out); obtain ⟨⟨_, _, he1, p0, p1, p2, p3⟩, ⟨_, _, he2, r0, r1, r2, r3⟩⟩ := HC.out _ hb1; cases he1; cases he2; rw [hx.out] at p0 p1 p2 p3; rw [hy.out] at r0 r1 r2 r3; clear hb1)
            go_quiet (fail)
            go_wp2_with fail
            go_quiet (fail)
            go_wp2_with fail
            go_roundw
            case rel => exact ⟨k + 1, by go_num, by omega, HN, Lib.hid (below_drewN HB1.out _)⟩
            case measure => simp [intOf]; omega
        · have q1 : (y.off + y.len == x.off) = false := beq_eq_false_iff_ne.2 hq
          have HN := Lib.hid (HNX.out (HQ.out.2 ⟨hf, fun c => hq c.1⟩))
          clear hq hf
          go_wp2_with (go_at_call 71; refine (CA.out _).mono ?_; rintro e w1 ⟨rfl, hb1⟩; have HB1 := Lib.hid (blwO hb1 HB.out); obtain ⟨⟨_, _, he1, p0, p1, p2, p3⟩, ⟨_, _, he2, r0, r1, r2, r3⟩⟩ := HC.out _ hb1; cases he1; cases he2; rw [hx.out] at p0 p1 p2 p3; rw [hy.out] at r0 r1 r2 r3; clear hb1)
          go_quiet (fail)
          go_wp2_with fail
          go_quiet (fail)
          go_wp2_with fail
          go_roundw
          case rel => exact ⟨k + 1, by go_num, by omega, HN, Lib.hid (below_drewN HB1.out _)⟩
          case measure => simp [intOf]; omega
      · have ft : decide (x.off < y.off + y.len) = true := decide_eq_true (by omega)
        have HF := Lib.hid (HFX.out (Bool.eq_false_iff.2 (fun e => hf (HQ.out.1 e).1)))
        clear hf
        go_wp2_with (go_at_call 71; refine (CA.out _).mono ?_; rintro e w1 ⟨rfl, hb1⟩; have HB1 := Lib.hid (blwO hb1 HB.out); obtain ⟨⟨_, _, he1, p0, p1, p2, p3⟩, ⟨_, _, he2, r0, r1, r2, r3⟩⟩ := HC.out _ hb1; cases he1; cases he2; rw [hx.out] at p0 p1 p2 p3; rw [hy.out] at r0 r1 r2 r3; clear hb1)
        go_quiet (fail)
        go_wp2_with fail
        go_quiet (fail)
        go_wp2_with fail
        go_ret
        rw [HF.out]
        exact ⟨rfl, below_drewN (below_drewN HB1.out _) _⟩
    · obtain rfl : k = l.length := by omega
      have HF := Lib.hid (HY.out HU.out)
      go_wp2_with fail
      go_ret
      rw [HF.out]
      exact ⟨rfl, HB.out⟩
end Go.Proofs.Ytfkgeefoknaldaa
