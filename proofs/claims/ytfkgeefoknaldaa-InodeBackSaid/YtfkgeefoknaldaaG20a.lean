/- What the program's own Move returns. Conditions: the parts lie where the call was told; numbers of 64 bits. -/
import Derived.Test.YtfkgeefoknaldaaG19a
set_option linter.unusedVariables false
namespace Go.Proofs.Ytfkgeefoknaldaa
open Go.RowKit Go.Sort
set_option linter.unusedVariables false
set_option maxRecDepth 20000
/-- a move that was boxed -/
def MvB (w : World) (b : Nat) (m : Mv) : Prop := w.heap[b]? = some (.cells #[.int .i64 m.addr, .int .i64 m.src, .int .i64 m.len, .int .i64 m.at_] 91 (0, 0))
theorem MvB.below {w w' : World} {b : Nat} {m : Mv} (h : MvB w b m) (hb : Below w.heap.size w w') : MvB w' b m := below_heap hb h
theorem MvB.cells {w : World} {b : Nat} {m : Mv} (h : MvB w b m) : w.cell? ⟨b, 0, none⟩ = some (.int .i64 m.addr) ∧ w.cell? ⟨b, 1, none⟩ = some (.int .i64 m.src) ∧ w.cell? ⟨b, 2, none⟩ = some (.int .i64 m.len) ∧ w.cell? ⟨b, 3, none⟩ = some (.int .i64 m.at_) := (four_cells h).1
theorem mayB_parts (m : Mv) (to : Int) : mayB m to = (betB m.len 1 1024 && (betB m.src 0 (1024 - m.len) && (betB m.at_ 0 (1024 - m.len) && (betB m.addr 0 16383 && betB to 0 16383)))) := by
  rw [Bool.eq_iff_iff, mayB_iff, Bool.and_eq_true, Bool.and_eq_true, Bool.and_eq_true, Bool.and_eq_true, betB_iff, betB_iff, betB_iff, betB_iff, betB_iff]
  omega
theorem moveE_bad {l : List Pt} {m : Mv} {to : Int} (h : goodE l = false) : moveE l m to = ([], 11) := if_neg (by rw [h]; decide)
theorem moveE_no {l : List Pt} {m : Mv} {to : Int} (h : goodE l = true) (hm : mayB m to = false) : moveE l m to = ([], 1) := by
  unfold moveE
  rw [if_pos h, if_neg (by rw [hm]; decide)]
theorem moveE_yes {l : List Pt} {m : Mv} {to : Int} (h : goodE l = true) (hm : mayB m to = true) : moveE l m to = fewE (gatE (mvF m to (spF l)) 8192) := by
  unfold moveE
  rw [if_pos h, if_pos hm]
theorem movG_at (m : Mv) (to : Int) (g : MapF) (k : Int) : movG m to g k k = g k := if_neg (by omega)
theorem mov_none {m : Mv} {to : Int} {g : MapF} {k : Int} (hk : 0 ≤ k) (h : g k = none) : movG m to g (k + 1) = movG m to g k := movG_same hk (by rw [h]; rfl)
theorem mov_same {m : Mv} {to : Int} {g : MapF} {k a f : Int} (hk : 0 ≤ k) (h : g k = some (a, f)) (hn : ¬ (a = m.addr ∧ 0 ≤ f - m.src ∧ f - m.src < m.len)) : movG m to g (k + 1) = movG m to g k :=
  movG_same hk (by rw [h]; show some (mv1 m to (a, f)) = _; unfold mv1; rw [if_neg hn])
theorem mov_set {m : Mv} {to : Int} {g : MapF} {k f : Int} (hk : 0 ≤ k) (h : g k = some (m.addr, f)) (h1 : 0 ≤ f - m.src) (h2 : f - m.src < m.len) : setG (movG m to g k) k (to, m.at_ + (f - m.src)) = movG m to g (k + 1) := by
  rw [← movG_set hk h]
  unfold mv1
  rw [if_pos ⟨rfl, h1, h2⟩]
set_option maxHeartbeats 8000000 in
theorem emove_any (ao : Option Addr) (cap : Nat) (l : List Pt) (m : Mv) (to : Int) (w : World) (h : PaL w ao l) (hlen : l.length ≤ maxLen) :
    Calls Try.prog 48 #[.slice ao l.length cap, .agg #[.int .i64 m.addr, .int .i64 m.src, .int .i64 m.len, .int .i64 m.at_], .int .i64 to] w fun e w' => ∃ v, e = .returned (.tuple #[v, .int .i64 (moveE l m to).2]) ∧ OPa w' w.heap.size v (moveE l m to).1 ∧ Below w.heap.size w w' := by
  have HB0 := Lib.hid (blwA w (.cells #[.int .i64 m.addr, .int .i64 m.src, .int .i64 m.len, .int .i64 m.at_] 91))
  have HX0 := Lib.hid (show MvB (w.alloc (.cells #[.int .i64 m.addr, .int .i64 m.src, .int .i64 m.len, .int .i64 m.at_] 91)) w.heap.size m from heap_alloc_new _ _)
  have CG := Lib.hid (egood_any ao cap l (w.alloc (.cells #[.int .i64 m.addr, .int .i64 m.src, .int .i64 m.len, .int .i64 m.at_] 91)) (h.below HB0.out) hlen)
  have HP := Lib.hid h
  have HLN := Lib.hid hlen
  cases hg : goodE l
  · rw [moveE_bad hg]
    rw [hg] at CG
    clear hg h hlen
    go_enter Try.func48, Try.ntmps48
    go_wp2_with (go_at_call 59; refine CG.out.mono ?_; rintro e w1 ⟨rfl, hb1⟩; have HB1 := Lib.hid (blwO hb1 HB0.out); clear hb1)
    go_ret2
    exact ⟨_, rfl, OR.nil _ _, HB1.out⟩
  rw [hg] at CG
  have C1 := Lib.hid (fun w => ewithin_any m.len 1 1024 w)
  have C2 := Lib.hid (fun w => ewithin_any m.src 0 (1024 - m.len) w)
  have C3 := Lib.hid (fun w => ewithin_any m.at_ 0 (1024 - m.len) w)
  have C4 := Lib.hid (fun w => ewithin_any m.addr 0 16383 w)
  have C5 := Lib.hid (fun w => ewithin_any to 0 16383 w)
  have HMB := Lib.hid (mayB_parts m to)
  have HNO := Lib.hid (@moveE_no l m to hg)
  cases e1 : betB m.len 1 1024
  · rw [HNO.out (by rw [HMB.out, e1]; rfl)]
    rw [e1] at C1
    clear hg h hlen e1
    go_enter Try.func48, Try.ntmps48
    go_wp2_with (first
      | (go_at_call 66; first | ((with_reducible refine (C1.out _).mono ?_); rintro e w1 ⟨rfl, rfl⟩))
      | (go_at_call 59; refine CG.out.mono ?_; rintro e w1 ⟨rfl, hb1⟩; have HB1 := Lib.hid (blwO hb1 HB0.out); obtain ⟨x0, x1, x2, x3⟩ := (HX0.out.below hb1).cells; clear hb1))
    go_ret2
    exact ⟨_, rfl, OR.nil _ _, HB1.out⟩
  obtain ⟨n1, n2⟩ := betB_iff.1 e1
  rw [e1] at C1
  cases e2 : betB m.src 0 (1024 - m.len)
  · rw [HNO.out (by rw [HMB.out, e1, e2]; rfl)]
    rw [e2] at C2
    clear hg h hlen e1 e2
    go_enter Try.func48, Try.ntmps48
    go_wp2_with (first
      | (go_at_call 66; first | ((with_reducible refine (C1.out _).mono ?_); rintro e w1 ⟨rfl, rfl⟩) | ((with_reducible refine (C2.out _).mono ?_); rintro e w1 ⟨rfl, rfl⟩))
      | (go_at_call 59; refine CG.out.mono ?_; rintro e w1 ⟨rfl, hb1⟩; have HB1 := Lib.hid (blwO hb1 HB0.out); obtain ⟨x0, x1, x2, x3⟩ := (HX0.out.below hb1).cells; clear hb1))
    go_ret2
    exact ⟨_, rfl, OR.nil _ _, HB1.out⟩
  obtain ⟨s1, s2⟩ := betB_iff.1 e2
  rw [e2] at C2
  cases e3 : betB m.at_ 0 (1024 - m.len)
  · rw [HNO.out (by rw [HMB.out, e1, e2, e3]; rfl)]
    rw [e3] at C3
    clear hg h hlen e1 e2 e3
    go_enter Try.func48, Try.ntmps48
    go_wp2_with (first
      | (go_at_call 66; first | ((with_reducible refine (C1.out _).mono ?_); rintro e w1 ⟨rfl, rfl⟩) | ((with_reducible refine (C2.out _).mono ?_); rintro e w1 ⟨rfl, rfl⟩) | ((with_reducible refine (C3.out _).mono ?_); rintro e w1 ⟨rfl, rfl⟩))
      | (go_at_call 59; refine CG.out.mono ?_; rintro e w1 ⟨rfl, hb1⟩; have HB1 := Lib.hid (blwO hb1 HB0.out); obtain ⟨x0, x1, x2, x3⟩ := (HX0.out.below hb1).cells; clear hb1))
    go_ret2
    exact ⟨_, rfl, OR.nil _ _, HB1.out⟩
  obtain ⟨t1, t2⟩ := betB_iff.1 e3
  rw [e3] at C3
  cases e4 : betB m.addr 0 16383
  · rw [HNO.out (by rw [HMB.out, e1, e2, e3, e4]; rfl)]
    rw [e4] at C4
    clear hg h hlen e1 e2 e3 e4
    go_enter Try.func48, Try.ntmps48
    go_wp2_with (first
      | (go_at_call 66; first | ((with_reducible refine (C1.out _).mono ?_); rintro e w1 ⟨rfl, rfl⟩) | ((with_reducible refine (C2.out _).mono ?_); rintro e w1 ⟨rfl, rfl⟩) | ((with_reducible refine (C3.out _).mono ?_); rintro e w1 ⟨rfl, rfl⟩) | ((with_reducible refine (C4.out _).mono ?_); rintro e w1 ⟨rfl, rfl⟩))
      | (go_at_call 59; refine CG.out.mono ?_; rintro e w1 ⟨rfl, hb1⟩; have HB1 := Lib.hid (blwO hb1 HB0.out); obtain ⟨x0, x1, x2, x3⟩ := (HX0.out.below hb1).cells; clear hb1))
    go_ret2
    exact ⟨_, rfl, OR.nil _ _, HB1.out⟩
  obtain ⟨d1, d2⟩ := betB_iff.1 e4
  rw [e4] at C4
  cases e5 : betB to 0 16383
  · rw [HNO.out (by rw [HMB.out, e1, e2, e3, e4, e5]; rfl)]
    rw [e5] at C5
    clear hg h hlen e1 e2 e3 e4 e5
    go_enter Try.func48, Try.ntmps48
    go_wp2_with (first
      | (go_at_call 66; first | ((with_reducible refine (C1.out _).mono ?_); rintro e w1 ⟨rfl, rfl⟩) | ((with_reducible refine (C2.out _).mono ?_); rintro e w1 ⟨rfl, rfl⟩) | ((with_reducible refine (C3.out _).mono ?_); rintro e w1 ⟨rfl, rfl⟩) | ((with_reducible refine (C4.out _).mono ?_); rintro e w1 ⟨rfl, rfl⟩) | ((with_reducible refine (C5.out _).mono ?_); rintro e w1 ⟨rfl, rfl⟩))
      | (go_at_call 59; refine CG.out.mono ?_; rintro e w1 ⟨rfl, hb1⟩; have HB1 := Lib.hid (blwO hb1 HB0.out); obtain ⟨x0, x1, x2, x3⟩ := (HX0.out.below hb1).cells; clear hb1))
    go_ret2
    exact ⟨_, rfl, OR.nil _ _, HB1.out⟩
  obtain ⟨u1, u2⟩ := betB_iff.1 e5
  rw [e5] at C5
  have hm : mayB m to = true := by rw [HMB.out, e1, e2, e3, e4, e5]; rfl
  rw [moveE_yes hg hm]
  obtain ⟨hg1, hg2⟩ := goodE_iff.1 hg
  obtain ⟨⟨r1, r2⟩, _⟩ := rail_end hg2
  have HEL := Lib.hid (show endE l = endL l from if_pos hg)
  have CE := Lib.hid (fun (W : World) (hb : Below w.heap.size w W) => eEnd_any ao cap l W (HP.out.below hb) HLN.out)
  obtain ⟨N, hN⟩ : ∃ N : Nat, endL l = N := ⟨(endL l).toNat, by omega⟩
  rw [HEL.out, hN] at CE
  have HEQ := Lib.hid (@mov_parts l hg2 m to hm N hN.symm)
  have HGS := Lib.hid (show soundG (clipG 0 8192 (laidE l)) from soundG.clip (by rw [laid_rail hg2]; exact rail_sound hg2) 0 8192)
  have HSG := Lib.hid (show soundG (movG m to (clipG 0 8192 (laidE l)) N) from fun u a f q => by
    unfold movG at q
    split at q
    · cases e : clipG 0 8192 (laidE l) u with
      | none => rw [e] at q; cases q
      | some x =>
        obtain ⟨a0, f0⟩ := x
        rw [e] at q
        have h1 := mv1_sound hm (HGS.out u a0 f0 e)
        have h2 : mv1 m to (a0, f0) = (a, f) := Option.some.inj q
        rw [h2] at h1
        exact h1
    · exact HGS.out u a f q)
  have CPP := Lib.hid (fun (W : World) (b : Nat) (hF : FE W b 200000 (movG m to (clipG 0 8192 (laidE l)) N)) => eparts_any W b 200000 _ (N : Int) N (by simp) (by omega) (by omega) HSG.out hF)
  rw [HEQ.out] at CPP
  have CLY := Lib.hid (fun (W : World) (hb : Below w.heap.size w W) => elay_any ao cap l 0 8192 W (HP.out.below hb) (by omega) (rail_one hg2) ⟨by decide, by decide⟩ ⟨by decide, by decide⟩)
  generalize fewE (gatE (mvF m to (spF l)) 8192) = R at *
  generalize clipG 0 8192 (laidE l) = G at *
  have hNI : (N : Int) ≤ 8192 := by omega
  clear hg h hlen hg1 hg2 e1 e2 e3 e4 e5 hm hN r1 r2
  go_enter Try.func48, Try.ntmps48
  go_wp2_with (first
    | (go_at_call 66; first | ((with_reducible refine (C1.out _).mono ?_); rintro e w1 ⟨rfl, rfl⟩) | ((with_reducible refine (C2.out _).mono ?_); rintro e w1 ⟨rfl, rfl⟩) | ((with_reducible refine (C3.out _).mono ?_); rintro e w1 ⟨rfl, rfl⟩) | ((with_reducible refine (C4.out _).mono ?_); rintro e w1 ⟨rfl, rfl⟩) | ((with_reducible refine (C5.out _).mono ?_); rintro e w1 ⟨rfl, rfl⟩))
    | (go_at_call 64; refine (CE.out _ HB2.out).mono ?_; rintro e w3 ⟨rfl, hB⟩; have HB3 := Lib.hid (blwO hB HB2.out); have HF3 := Lib.hid (HF2.out.below hB); have HX3 := Lib.hid (HX2.out.below hB); clear hB)
    | (go_at_call 62; refine (CLY.out _ HB1.out).mono ?_; rintro e w2 ⟨b, rfl, hb4, hF, hB⟩; have HB2 := Lib.hid (blwO hB HB1.out); have HX2 := Lib.hid (HX1.out.below hB); have HF2 := Lib.hid hF; have hmb : w.heap.size ≤ b := Nat.le_trans HB1.out.size hb4; have HXM := Lib.hid (show w.heap.size < b from Nat.lt_of_lt_of_le (lt_of_block HX1.out) hb4); clear hF hB)
    | (go_at_call 59; refine CG.out.mono ?_; rintro e w1 ⟨rfl, hb1⟩; have HB1 := Lib.hid (blwO hb1 HB0.out); have HX1 := Lib.hid (HX0.out.below hb1); obtain ⟨x0, x1, x2, x3⟩ := HX1.out.cells; clear hb1))
  clear x0 x1 x2 x3
  go_loopw [48] (fun i wr => ∃ k nn : Nat, i = .int .i64 k ∧ k ≤ N ∧ nn ≤ 100000 + k ∧ Hid (FE wr b nn (movG m to G k)) ∧ Hid (MvB wr w.heap.size m) ∧ Hid (Below w.heap.size w wr)) (fun i _ => N - (intOf i).toNat)
  case atStart => exact ⟨0, 100000, rfl, Nat.zero_le _, Nat.le_refl _, Lib.hid (by rw [show ((0 : Nat) : Int) = 0 from rfl, movG_zero]; exact HF3.out), HX3, HB3⟩
  case round =>
    obtain ⟨k, nn, rfl, hk, hnn, HF, HX, HB⟩ := hrel
    by_cases hlt : k < N
    · have k0 : (k : Int) < (N : Int) := by omega
      have hu : (Lit.int .i64 (k : Int)).wf = true := WalkArith.wf_i64 (by omega)
      have hl := HF.out.look hu
      have HGA := Lib.hid (movG_at m to G k)
      cases e : G k with
      | none =>
        have HNX := Lib.hid (show movG m to G ((k + 1 : Nat) : Int) = movG m to G k from mov_none (k := (k : Int)) (by omega) e)
        rw [show lookA (movG m to G k) k = 0 from by unfold lookA; rw [HGA.out, e], show lookS (movG m to G k) k = 0 from by unfold lookS; rw [HGA.out, e], show (movG m to G k k).isSome = false from by rw [HGA.out, e]; rfl] at hl
        have HB4 := Lib.hid (blwO (blwA wr (.cells #[.int .i64 0, .int .i64 0] 111)) HB.out)
        have HF4 := Lib.hid (HF.out.below (blwA wr (.cells #[.int .i64 0, .int .i64 0] 111)))
        have HX4 := Lib.hid (HX.out.below (blwA wr (.cells #[.int .i64 0, .int .i64 0] 111)))
        obtain ⟨x0, x1, x2, x3⟩ := HX.out.cells
        have hxl : w.heap.size < wr.heap.size := lt_of_block HX.out
        clear e hu
        go_wp2_with fail
        go_roundw
        case rel => exact ⟨k + 1, nn, by go_num, by omega, by omega, by rw [HNX.out]; exact HF4, HX4, HB4⟩
        case measure => simp [intOf]; omega
      | some x =>
        obtain ⟨a, f⟩ := x
        obtain ⟨a1, a2, f1, f2⟩ := HGS.out _ _ _ e
        rw [show lookA (movG m to G k) k = a from by unfold lookA; rw [HGA.out, e], show lookS (movG m to G k) k = f from by unfold lookS; rw [HGA.out, e], show (movG m to G k k).isSome = true from by rw [HGA.out, e]; rfl] at hl
        have HB4 := Lib.hid (blwO (blwA wr (.cells #[.int .i64 a, .int .i64 f] 111)) HB.out)
        have HF4 := Lib.hid (HF.out.below (blwA wr (.cells #[.int .i64 a, .int .i64 f] 111)))
        have HX4 := Lib.hid (HX.out.below (blwA wr (.cells #[.int .i64 a, .int .i64 f] 111)))
        obtain ⟨x0, x1, x2, x3⟩ := HX.out.cells
        have hxl : w.heap.size < wr.heap.size := lt_of_block HX.out
        by_cases ha : a = m.addr
        · have q1 : (a == m.addr) = true := beq_iff_eq.2 ha
          have CK := Lib.hid (fun w => ewithin_any (f - m.src) 0 (m.len - 1) w)
          cases hb : betB (f - m.src) 0 (m.len - 1)
          · rw [hb] at CK
            have hb' : ¬ (0 ≤ f - m.src ∧ f - m.src ≤ m.len - 1) := fun h => by rw [betB_iff.2 h] at hb; cases hb
            have HNX := Lib.hid (show movG m to G ((k + 1 : Nat) : Int) = movG m to G k from mov_same (k := (k : Int)) (by omega) e (fun h => hb' ⟨h.2.1, by omega⟩))
            clear e hb hb' ha hu
            go_wp2_with (go_at_call 66; (with_reducible refine (CK.out _).mono ?_); rintro e w1 ⟨rfl, rfl⟩)
            go_roundw
            case rel => exact ⟨k + 1, nn, by go_num, by omega, by omega, by rw [HNX.out]; exact HF4, HX4, HB4⟩
            case measure => simp [intOf]; omega
          · rw [hb] at CK
            obtain ⟨b1, b2⟩ := betB_iff.1 hb
            have HNX := Lib.hid (show setG (movG m to G k) k (to, m.at_ + (f - m.src)) = movG m to G ((k + 1 : Nat) : Int) from mov_set (k := (k : Int)) (by omega) (by rw [e, ha]) b1 (by omega))
            have HU := Lib.hid hu
            clear e hb ha hu
            go_wp2_with (first
              | (go_at_call 66; (with_reducible refine (CK.out _).mono ?_); rintro e w1 ⟨rfl, rfl⟩)
              | (at_mapUpdate; refine wpList_set_byte rfl _ _ _ rfl rfl HF4.out (by omega) HU.out rfl rfl ?_; intro w6 hF hg; have HF6 := Lib.hid hF; have HB6 := Lib.hid (HB4.out.grown hg HB4.out.size (fun k e => by cases e; exact hmb)); have HX6 := Lib.hid (show MvB w6 w.heap.size m from (hg.block w.heap.size (lt_of_block HX4.out) (by intro e; cases e; exact absurd HXM.out (Nat.lt_irrefl _))).trans HX4.out); clear hF hg))
            exact ⟨⟨k + 1, nn + 1, by go_num, by omega, by omega, Lib.hid (by rw [← HNX.out]; exact HF6.out), HX6, HB6⟩, by simp [intOf]; omega⟩
        · have q1 : (a == m.addr) = false := beq_eq_false_iff_ne.2 ha
          have HNX := Lib.hid (show movG m to G ((k + 1 : Nat) : Int) = movG m to G k from mov_same (k := (k : Int)) (by omega) e (fun h => ha h.1))
          clear e ha hu
          go_wp2_with fail
          go_roundw
          case rel => exact ⟨k + 1, nn, by go_num, by omega, by omega, by rw [HNX.out]; exact HF4, HX4, HB4⟩
          case measure => simp [intOf]; omega
    · obtain rfl : k = N := by omega
      have HF4 := Lib.hid (fun (W : World) (hb : Below wr.heap.size wr W) => (HF.out.mono (show nn ≤ 200000 by omega)).below hb)
      go_wp2_with (first
        | (go_at_call 63; refine (CPP.out _ _ HF5.out).mono ?_; rintro e w6 ⟨v6, rfl, hO, hB⟩; have HB6 := Lib.hid (blwO hB HB5.out); have HO6 := Lib.hid (OPa.lower hO HB5.out.size); obtain ⟨a6, c6, hv6, _⟩ := OR.form par_rows hO; subst hv6; clear hO hB)
        | (go_at_call 64; refine (CE.out _ HB.out).mono ?_; rintro e w5 ⟨rfl, hB⟩; have HB5 := Lib.hid (blwO hB HB.out); have HF5 := Lib.hid (HF4.out _ hB); clear hB))
      go_ret2
      exact ⟨_, rfl, HO6.out, HB6.out⟩
end Go.Proofs.Ytfkgeefoknaldaa
