/- What the document's own Move returns. Conditions: the parts lie where the call was told. What the document's own Cut and End return. Conditions: the parts lie where the call was told; numbers of 64 bits. What the statements' own function Parts returns of two lists that are one. Conditions: the parts lie where the call was told. -/
import Derived.Test.YtfkgeefoknaldaaG21a
import Derived.Test.YtfkgeefoknaldaaG02a
set_option linter.unusedVariables false
namespace Go.Proofs.Ytfkgeefoknaldaa
open Go.RowKit Go.Sort
set_option linter.unusedVariables false
set_option maxRecDepth 20000
theorem MvB.set {w : World} {b : Nat} {m : Mv} (h : MvB w b m) {p : Addr} (hp : p.block ≠ b) (u : Value) : MvB (w.setCell p u) b m := (heap_setCell_other w p b u (fun e => hp e.symm)).trans h
/-- while bytes are moved: below k -/
def movK (m : Mv) (to : Int) (F : ByteF) (k : Nat) : ByteF := fun j => if j < k then mvF m to F j else F j
theorem movK_zero (m : Mv) (to : Int) (F : ByteF) : movK m to F 0 = F := by
  funext j
  exact if_neg (Nat.not_lt_zero j)
theorem movK_at (m : Mv) (to : Int) (F : ByteF) (k : Nat) : movK m to F k k = F k := if_neg (Nat.lt_irrefl k)
theorem movK_same {m : Mv} {to : Int} {F : ByteF} {k : Nat} (h : ¬ ((F k).1 = m.addr ∧ 0 ≤ (F k).2 - m.src ∧ (F k).2 - m.src < m.len)) : movK m to F (k + 1) = movK m to F k := by
  funext j
  unfold movK
  by_cases e : j = k
  · subst e
    rw [if_pos (Nat.lt_succ_self _), if_neg (Nat.lt_irrefl _)]
    exact if_neg h
  · by_cases e2 : j < k
    · rw [if_pos e2, if_pos (by omega)]
    · rw [if_neg e2, if_neg (by omega)]
theorem movK_set {m : Mv} {to : Int} {F : ByteF} {k : Nat} (h : (F k).1 = m.addr ∧ 0 ≤ (F k).2 - m.src ∧ (F k).2 - m.src < m.len) (j : Nat) : (if j = k then (to, m.at_ + ((F k).2 - m.src)) else movK m to F k j) = movK m to F (k + 1) j := by
  unfold movK
  by_cases e : j = k
  · subst e
    rw [if_pos rfl, if_pos (Nat.lt_succ_self _)]
    exact (if_pos h).symm
  · rw [if_neg e]
    by_cases e2 : j < k
    · rw [if_pos e2, if_pos (by omega)]
    · rw [if_neg e2, if_neg (by omega)]
/-- one byte is set -/
theorem WB.setF {w : World} {g : Nat} {F : ByteF} (h : WB w g F) {i : Nat} (hi : i < 8192) (a f : Int) : WB ((w.setCell ⟨g, i * 2, none⟩ (.int .i64 a)).setCell ⟨g, i * 2 + 1, none⟩ (.int .i64 f)) g (fun j => if j = i then (a, f) else F j) :=
  ((h.set1 hi a).set2 hi f).congr (fun j hj => by
    show (if j = i then ((if j = i then (a, (F j).2) else F j).1, f) else if j = i then (a, (F j).2) else F j) = if j = i then (a, f) else F j
    by_cases e : j = i
    · rw [if_pos e, if_pos e, if_pos e]
    · rw [if_neg e, if_neg e, if_neg e])
set_option maxRecDepth 200000 in
set_option maxHeartbeats 8000000 in
theorem rmove_any (ao : Option Addr) (cap : Nat) (l : List Pt) (m : Mv) (to : Int) (w : World) (h : PaL w ao l) (hlen : l.length ≤ maxLen) :
    Calls Try.prog 56 #[.slice ao l.length cap, .agg #[.int .i64 m.addr, .int .i64 m.src, .int .i64 m.len, .int .i64 m.at_], .int .i64 to] w fun e w' => ∃ v, e = .returned (.tuple #[v, .int .i64 (moveE l m to).2]) ∧ OPa w' w.heap.size v (moveE l m to).1 ∧ Below w.heap.size w w' := by
  have HB0 := Lib.hid (blwA w (.cells #[.int .i64 m.addr, .int .i64 m.src, .int .i64 m.len, .int .i64 m.at_] 91))
  have HX0 := Lib.hid (show MvB (w.alloc (.cells #[.int .i64 m.addr, .int .i64 m.src, .int .i64 m.len, .int .i64 m.at_] 91)) w.heap.size m from heap_alloc_new _ _)
  have CG := Lib.hid (rgoodE_any ao cap l (w.alloc (.cells #[.int .i64 m.addr, .int .i64 m.src, .int .i64 m.len, .int .i64 m.at_] 91)) (h.below HB0.out) hlen)
  have HP := Lib.hid h
  cases hg : goodE l
  · rw [moveE_bad hg]
    rw [hg] at CG
    clear hg h hlen
    go_enter Try.func56, Try.ntmps56
    go_wp2_with (go_at_call 70; refine CG.out.mono ?_; rintro e w1 ⟨rfl, hb1⟩; have HB1 := Lib.hid (blwO hb1 HB0.out); clear hb1)
    go_ret2
    exact ⟨_, rfl, OR.nil _ _, HB1.out⟩
  rw [hg] at CG
  have CA := Lib.hid (fun W => rmay_any m to W)
  cases hm : mayB m to
  · rw [moveE_no hg hm]
    rw [hm] at CA
    clear hg hm h hlen
    go_enter Try.func56, Try.ntmps56
    go_wp2_with (first
      | (go_at_call 75; with_reducible refine (CA.out _).mono ?_; rintro e w2 ⟨rfl, hb2⟩; have HB2 := Lib.hid (blwO hb2 HB1.out); clear hb2)
      | (go_at_call 70; refine CG.out.mono ?_; rintro e w1 ⟨rfl, hb1⟩; have HB1 := Lib.hid (blwO hb1 HB0.out); obtain ⟨x0, x1, x2, x3⟩ := (HX0.out.below hb1).cells; clear hb1))
    go_ret2
    exact ⟨_, rfl, OR.nil _ _, HB2.out⟩
  rw [moveE_yes hg hm]
  rw [hm] at CA
  obtain ⟨hg1, hg2⟩ := goodE_iff.1 hg
  have hl64 : (l.length : Int) ≤ 64 := by omega
  have CS := Lib.hid (fun (W : World) (hb : Below w.heap.size w W) => rspread_any ao cap l W (HP.out.below hb) (by omega) (rail_one hg2))
  rw [laid_rail hg2] at CS
  obtain ⟨m1, m2, m3, m4, m5, m6, m7, m8, m9⟩ := mayB_iff.1 hm
  have HSF := Lib.hid (show soundF (mvF m to (spF l)) 8192 from movF_sound (spF_sound hg2 _) m9 m4 m7)
  have CGA := Lib.hid (fun (W : World) (g : Nat) (hW : WB W g (mvF m to (spF l))) => rgather_any g _ W hW HSF.out)
  have HGL := Lib.hid (@gat_len (mvF m to (spF l)) 8192)
  have HBM := Lib.hid (fun i => byt_mid (rail_sound hg2) i)
  have HFM := Lib.hid (show ∀ j, j < 8192 → movK m to (spF l) 8192 j = mvF m to (spF l) j from fun j hj => if_pos hj)
  generalize gatE (mvF m to (spF l)) 8192 = R at *
  have hRl : (R.length : Int) ≤ 8192 := by have := HGL.out; omega
  clear hg hm h hlen hg1 hg2
  go_enter Try.func56, Try.ntmps56
  go_wp2_with (first
    | (go_at_call 72; refine (CS.out _ HB2.out).mono ?_; rintro e w3 ⟨g, rfl, hgs, hW, hB⟩; have HB3 := Lib.hid (blwO hB HB2.out); have HX3 := Lib.hid (HX2.out.below hB); have hgw : w.heap.size ≤ g := Nat.le_trans HB2.out.size hgs; have hgx : w.heap.size < g := Nat.lt_of_lt_of_le (lt_of_block HX2.out) hgs; have HW3 := Lib.hid (show WB w3 g (movK m to (spF l) 0) from by rw [movK_zero]; exact hW.congr clip_bytes); clear hgs hW hB x0 x1 x2 x3)
    | (go_at_call 75; with_reducible refine (CA.out _).mono ?_; rintro e w2 ⟨rfl, hb2⟩; have HB2 := Lib.hid (blwO hb2 HB1.out); have HX2 := Lib.hid (HX1.out.below hb2); clear x0 x1 x2 x3; obtain ⟨x0, x1, x2, x3⟩ := HX2.out.cells; clear hb2)
    | (go_at_call 70; refine CG.out.mono ?_; rintro e w1 ⟨rfl, hb1⟩; have HB1 := Lib.hid (blwO hb1 HB0.out); have HX1 := Lib.hid (HX0.out.below hb1); obtain ⟨x0, x1, x2, x3⟩ := HX1.out.cells; clear hb1))
  go_loopw [9] (fun i wq => ∃ k : Nat, i = .int .i64 k ∧ k ≤ 8192 ∧ Hid (WB wq g (movK m to (spF l) k)) ∧ Hid (MvB wq w.heap.size m) ∧ Hid (Below w.heap.size w wq)) (fun i _ => 8192 - (intOf i).toNat)
  case atStart => exact ⟨0, rfl, by decide, HW3, HX3, HB3⟩
  case round =>
    obtain ⟨k, rfl, hk, HW, HX, HB⟩ := hrel
    by_cases hlt : k < 8192
    · have k0 : (k : Int) < 8192 := by omega
      obtain ⟨x0, x1, x2, x3⟩ := HX.out.cells
      obtain ⟨⟨d0, d1⟩, f0, f1⟩ := HW.out.at hlt
      rw [movK_at] at d0 d1
      have HSM := Lib.hid (@movK_same m to (spF l) k)
      have HST := Lib.hid (@movK_set m to (spF l) k)
      have hbm : (-1 ≤ (spF l k).1 ∧ (spF l k).1 ≤ 16384) ∧ 0 ≤ (spF l k).2 ∧ (spF l k).2 ≤ 1024 := HBM.out k
      generalize (spF l k).1 = fa at *
      generalize (spF l k).2 = fs at *
      obtain ⟨_, n1, n2⟩ := hbm
      obtain ⟨d, hd⟩ : ∃ d, fs - m.src = d := ⟨_, rfl⟩
      have hdr : -1024 ≤ d ∧ d ≤ 1024 := by omega
      have hw0 : IntKind.i64.wrap d = d := IntWalk.i64_in _ (by omega)
      rw [hd] at HSM HST
      by_cases h1 : fa = m.addr
      · have q1 : (fa == m.addr) = true := beq_iff_eq.2 h1
        by_cases h2 : 0 ≤ d
        · have q2 : decide (0 ≤ d) = true := decide_eq_true h2
          by_cases h3 : d < m.len
          · have q3 : decide (d < m.len) = true := decide_eq_true h3
            have HW5 := Lib.hid ((HW.out.setF hlt to (m.at_ + d)).congr (fun j _ => HST.out ⟨h1, h2, h3⟩ j))
            have HWD := Lib.hid (fun n => show WB ((((wr.drewN n).setCell ⟨g, k * 2, none⟩ (.int .i64 to))).setCell ⟨g, k * 2 + 1, none⟩ (.int .i64 (m.at_ + d))) g (movK m to (spF l) (k + 1)) from HW5.out)
            have HBD := Lib.hid (fun n => (((below_drewN HB.out n).setCell (p := ⟨g, k * 2, none⟩) hgw (.int .i64 to)).setCell (p := ⟨g, k * 2 + 1, none⟩) hgw (.int .i64 (m.at_ + d))))
            have HXD := Lib.hid (fun n => ((show MvB (wr.drewN n) w.heap.size m from HX.out.below (below_drewN (Below.refl _ _) n)).set (p := ⟨g, k * 2, none⟩) (Nat.ne_of_gt hgx) (.int .i64 to)).set (p := ⟨g, k * 2 + 1, none⟩) (Nat.ne_of_gt hgx) (.int .i64 (m.at_ + d)))
            clear h1 h2 h3
            go_wp2_with fail
            go_quiet (fail)
            go_wp2_with fail
            go_quiet (fail)
            go_wp2_with fail
            exact ⟨⟨k + 1, by go_num, by omega, Lib.hid (HWD.out _), Lib.hid (HXD.out _), Lib.hid (HBD.out _)⟩, by simp [intOf]; omega⟩
          · have q3 : decide (d < m.len) = false := decide_eq_false h3
            have HW5 := Lib.hid (show WB wr g (movK m to (spF l) (k + 1)) from by rw [HSM.out (fun h => h3 h.2.2)]; exact HW.out)
            clear h1 h2 h3
            go_wp2_with fail
            go_quiet (fail)
            go_wp2_with fail
            go_quiet (fail)
            go_wp2_with fail
            go_roundw
            case rel => exact ⟨k + 1, by go_num, by omega, Lib.hid (HW5.out.below (below_drewN (Below.refl _ _) _)), Lib.hid (HX.out.below (below_drewN (Below.refl _ _) _)), Lib.hid (below_drewN HB.out _)⟩
            case measure => simp [intOf]; omega
        · have q2 : decide (0 ≤ d) = false := decide_eq_false h2
          have HW5 := Lib.hid (show WB wr g (movK m to (spF l) (k + 1)) from by rw [HSM.out (fun h => h2 h.2.1)]; exact HW.out)
          clear h1 h2
          go_wp2_with fail
          go_quiet (fail)
          go_wp2_with fail
          go_quiet (fail)
          go_wp2_with fail
          go_roundw
          case rel => exact ⟨k + 1, by go_num, by omega, Lib.hid (HW5.out.below (below_drewN (Below.refl _ _) _)), Lib.hid (HX.out.below (below_drewN (Below.refl _ _) _)), Lib.hid (below_drewN HB.out _)⟩
          case measure => simp [intOf]; omega
      · have q1 : (fa == m.addr) = false := beq_eq_false_iff_ne.2 h1
        have HW5 := Lib.hid (show WB wr g (movK m to (spF l) (k + 1)) from by rw [HSM.out (fun h => h1 h.1)]; exact HW.out)
        clear h1
        go_wp2_with fail
        go_quiet (fail)
        go_wp2_with fail
        go_quiet (fail)
        go_wp2_with fail
        go_roundw
        case rel => exact ⟨k + 1, by go_num, by omega, Lib.hid (HW5.out.below (below_drewN (Below.refl _ _) _)), Lib.hid (HX.out.below (below_drewN (Below.refl _ _) _)), Lib.hid (below_drewN HB.out _)⟩
        case measure => simp [intOf]; omega
    · have k0 : ¬ (k : Int) < 8192 := by omega
      have hk8 : k = 8192 := by omega
      rw [hk8] at HW
      have HW4 := Lib.hid (HW.out.congr HFM.out)
      clear hk8 hk hlt
      by_cases hf : R.length ≤ 64
      · have HFE := Lib.hid (fewE_yes hf)
        have CF := Lib.hid (fun ao cap W => rfew_yes ao cap R W hf)
        clear hf
        go_wp2_with (first
          | (go_at_call 73; (with_reducible refine (CF.out _ _ _).mono ?_); rintro e w8 ⟨rfl, rfl⟩)
          | (go_at_call 74; refine (CGA.out _ _ HW4.out).mono ?_; rintro e w7 ⟨v7, rfl, hO, hB⟩; have HB7 := Lib.hid (blwO hB HB.out); have HO7 := Lib.hid (OPa.lower hO HB.out.size); obtain ⟨a7, c7, hv7, _⟩ := OR.form par_rows hO; subst hv7; clear hO hB))
        go_ret2
        rw [HFE.out]
        exact ⟨_, rfl, HO7.out, HB7.out⟩
      · have HFE := Lib.hid (fewE_no hf)
        have CF := Lib.hid (fun ao cap W => rfew_no ao cap R W hf HGL.out)
        clear hf
        go_wp2_with (first
          | (go_at_call 73; (with_reducible refine (CF.out _ _ _).mono ?_); rintro e w8 ⟨rfl, rfl⟩)
          | (go_at_call 74; refine (CGA.out _ _ HW4.out).mono ?_; rintro e w7 ⟨v7, rfl, hO, hB⟩; have HB7 := Lib.hid (blwO hB HB.out); have HO7 := Lib.hid (OPa.lower hO HB.out.size); obtain ⟨a7, c7, hv7, _⟩ := OR.form par_rows hO; subst hv7; clear hO hB))
        go_ret2
        rw [HFE.out]
        exact ⟨_, rfl, OR.nil _ _, HB7.out⟩
end Go.Proofs.Ytfkgeefoknaldaa
namespace Go.Proofs.Ytfkgeefoknaldaa
open Go.RowKit Go.Sort
set_option linter.unusedVariables false
set_option maxRecDepth 20000
/-- while bytes are cut off: from s on, below k -/
def cutK (F : ByteF) (s k : Nat) : ByteF := fun j => if s ≤ j ∧ j < k then (-1, (F j).2) else F j
theorem cutK_zero (F : ByteF) (s : Nat) : cutK F s s = F := by
  funext j
  exact if_neg (by omega)
theorem cutK_next (F : ByteF) {s k : Nat} (h : s ≤ k) (j : Nat) : (if j = k then (-1, (cutK F s k j).2) else cutK F s k j) = cutK F s (k + 1) j := by
  unfold cutK
  by_cases e : j = k
  · subst e
    rw [if_pos rfl, if_neg (by omega), if_pos (by omega)]
  · rw [if_neg e]
    by_cases e2 : s ≤ j ∧ j < k
    · rw [if_pos e2, if_pos (by omega)]
    · rw [if_neg e2, if_neg (by omega)]
theorem cutK_done (F : ByteF) {s k : Nat} {z : Int} (hz : z = s) (h : 8192 ≤ k) (j : Nat) (hj : j < 8192) : cutK F s k j = cutF F z j := by
  unfold cutK cutF
  by_cases e : s ≤ j
  · rw [if_pos (by omega), if_pos (by omega)]
  · rw [if_neg (by omega), if_neg (by omega)]
set_option maxRecDepth 200000 in
set_option maxHeartbeats 8000000 in
theorem rcut_any (ao : Option Addr) (cap : Nat) (l : List Pt) (s : Int) (hs : -9223372036854775808 ≤ s ∧ s ≤ 9223372036854775807) (w : World) (h : PaL w ao l) (hlen : l.length ≤ maxLen) :
    Calls Try.prog 55 #[.slice ao l.length cap, .int .i64 s] w fun e w' => ∃ v, e = .returned v ∧ OPa w' w.heap.size v (cutE l s) ∧ Below w.heap.size w w' := by
  have CG := Lib.hid (rgoodE_any ao cap l w h hlen)
  have HP := Lib.hid h
  cases hg : goodE l
  · rw [cutE_bad hg]
    rw [hg] at CG
    clear hg h hlen
    go_enter Try.func55, Try.ntmps55
    go_wp2_with (go_at_call 70; refine CG.out.mono ?_; rintro e w1 ⟨rfl, hb1⟩; have HB1 := Lib.hid hb1; clear hb1)
    go_ret
    exact ⟨_, rfl, OR.nil _ _, HB1.out⟩
  rw [hg] at CG
  obtain ⟨hg1, hg2⟩ := goodE_iff.1 hg
  rw [(@cutE_few l s hg).1]
  have CS := Lib.hid (fun (W : World) (hb : Below w.heap.size w W) => rspread_any ao cap l W (HP.out.below hb) (by omega) (rail_one hg2))
  rw [laid_rail hg2] at CS
  obtain ⟨n0, hn0⟩ : ∃ n0 : Nat, max s 0 = n0 := ⟨(max s 0).toNat, by omega⟩
  have HN0 := Lib.hid hn0
  have hnI : (n0 : Int) ≤ 9223372036854775807 := by omega
  rw [hn0]
  have HSF := Lib.hid (show soundF (cutF (spF l) n0) 8192 from cutF_sound (spF_sound hg2 _) _)
  have CGA := Lib.hid (fun (W : World) (g : Nat) (hW : WB W g (cutF (spF l) n0)) => rgather_any g _ W hW HSF.out)
  generalize gatE (cutF (spF l) n0) 8192 = R at *
  clear hg h hlen hg1 hg2
  go_enter Try.func55, Try.ntmps55
  go_wp2_with (first
    | (go_at_call 72; refine (CS.out _ HB1.out).mono ?_; rintro e w3 ⟨g, rfl, hgs, hW, hB⟩; have HB3 := Lib.hid (blwO hB HB1.out); have hgw : w.heap.size ≤ g := Nat.le_trans HB1.out.size hgs; have HW3 := Lib.hid (show WB w3 g (cutK (spF l) n0 n0) from by rw [cutK_zero]; exact hW.congr clip_bytes); clear hgs hW hB)
    | (go_at_call 70; refine CG.out.mono ?_; rintro e w1 ⟨rfl, hb1⟩; have HB1 := Lib.hid hb1; clear hb1))
  go_loopw [6] (fun i wq => ∃ k : Nat, i = .int .i64 k ∧ n0 ≤ k ∧ (k = n0 ∨ k ≤ 8192) ∧ Hid (WB wq g (cutK (spF l) n0 k)) ∧ Hid (Below w.heap.size w wq)) (fun i _ => 8192 - (intOf i).toNat)
  case atStart => exact ⟨n0, rfl, Nat.le_refl _, .inl rfl, HW3, HB3⟩
  case round =>
    obtain ⟨k, rfl, hk1, hk2, HW, HB⟩ := hrel
    by_cases hlt : k < 8192
    · have k0 : (k : Int) < 8192 := by omega
      obtain ⟨⟨d0, d1⟩, f0, f1⟩ := HW.out.at hlt
      have HW5 := Lib.hid ((HW.out.set1 hlt (-1)).congr (fun j _ => cutK_next (spF l) hk1 j))
      have HB5 := Lib.hid (HB.out.setCell (p := ⟨g, k * 2, none⟩) hgw (.int .i64 (-1)))
      go_wp2_with fail
      go_roundw
      case rel => exact ⟨k + 1, by go_num, by omega, by omega, HW5, HB5⟩
      case measure => simp [intOf]; omega
    · have k0 : ¬ (k : Int) < 8192 := by omega
      have kI : (k : Int) ≤ 9223372036854775807 := by omega
      have HW5 := Lib.hid (HW.out.congr (fun j hj => cutK_done (spF l) (z := (n0 : Int)) rfl (by omega) j hj))
      clear hlt
      go_wp2_with (go_at_call 74; refine (CGA.out _ _ HW5.out).mono ?_; rintro e w7 ⟨v7, rfl, hO, hB⟩; have HB7 := Lib.hid (blwO hB HB.out); have HO7 := Lib.hid (OPa.lower hO HB.out.size); obtain ⟨a7, c7, hv7, _⟩ := OR.form par_rows hO; subst hv7; clear hO hB)
      go_ret
      exact ⟨_, rfl, HO7.out, HB7.out⟩
end Go.Proofs.Ytfkgeefoknaldaa
namespace Go.Proofs.Ytfkgeefoknaldaa
open Go.RowKit Go.Sort
set_option linter.unusedVariables false
set_option maxRecDepth 20000
set_option maxHeartbeats 4000000 in
theorem kparts_same (ao bo : Option Addr) (ca cb : Nat) (l : List Pt) (w : World) (hA : PaL w ao l) (hB : PaL w bo l) (hlen : l.length ≤ maxLen) :
    Calls Try.prog 43 #[.slice ao l.length ca, .slice bo l.length cb] w fun e w' => e = .returned (.bool true) ∧ Below w.heap.size w w' := by
  have HA := Lib.hid hA
  have HB := Lib.hid hB
  unfold maxLen at hlen
  have hlI : (l.length : Int) ≤ 9223372036854775807 := by omega
  clear hA hB
  go_enter Try.func43, Try.ntmps43
  go_wp2_with fail
  go_loopw [5] (fun i wr => ∃ k : Nat, i = .int .i64 k ∧ k ≤ l.length ∧ Hid (Below w.heap.size w wr)) (fun i _ => l.length - (intOf i).toNat)
  case atStart => exact ⟨0, rfl, Nat.zero_le _, Lib.hid (Below.refl _ _)⟩
  case round =>
    obtain ⟨k, rfl, hk, HW⟩ := hrel
    by_cases hlt : k < l.length
    · have k0 : (k : Int) < (l.length : Int) := by omega
      obtain ⟨ab, ax, rfl, a0, a1, a2, a3⟩ := (HA.out.below HW.out).at k hlt
      obtain ⟨bb, bx, rfl, b0, b1, b2, b3⟩ := (HB.out.below HW.out).at k hlt
      obtain ⟨x, hx⟩ : ∃ x, Hid (l[k] = x) := ⟨_, Lib.hid rfl⟩
      rw [hx.out] at a0 a1 a2 a3 b0 b1 b2 b3
      have HS := Lib.hid (fun W (hb : Below wr.heap.size wr W) => show (W.cell? ⟨ab, ax + k * 4, none⟩ = some (.int .i64 x.off) ∧ W.cell? ⟨ab, ax + k * 4 + 1, none⟩ = some (.int .i64 x.len) ∧ W.cell? ⟨ab, ax + k * 4 + 2, none⟩ = some (.int .i64 x.addr) ∧ W.cell? ⟨ab, ax + k * 4 + 3, none⟩ = some (.int .i64 x.src)) ∧ W.cell? ⟨bb, bx + k * 4, none⟩ = some (.int .i64 x.off) ∧ W.cell? ⟨bb, bx + k * 4 + 1, none⟩ = some (.int .i64 x.len) ∧ W.cell? ⟨bb, bx + k * 4 + 2, none⟩ = some (.int .i64 x.addr) ∧ W.cell? ⟨bb, bx + k * 4 + 3, none⟩ = some (.int .i64 x.src) from
        ⟨⟨cellB hb (block_lt_of_cell a0) a0, cellB hb (block_lt_of_cell a1) a1, cellB hb (block_lt_of_cell a2) a2, cellB hb (block_lt_of_cell a3) a3⟩, cellB hb (block_lt_of_cell b0) b0, cellB hb (block_lt_of_cell b1) b1, cellB hb (block_lt_of_cell b2) b2, cellB hb (block_lt_of_cell b3) b3⟩)
      have la := block_lt_of_cell a0
      have lb := block_lt_of_cell b0
      go_wp2_with fail
      have S0 := Lib.hid (HS.out _ (Below.refl _ _).drew)
      have S1 := Lib.hid (HS.out _ ((Below.refl wr.heap.size wr).alloc (Nat.le_refl _) (.cells #[.int .i64 0, .int .i64 0, .int .i64 0, .int .i64 0] 52)).drew)
      have S2 := Lib.hid (HS.out _ ((Below.refl wr.heap.size wr).alloc (Nat.le_refl _) (.cells #[.int .i64 x.off, .int .i64 x.len, .int .i64 x.addr, .int .i64 x.src] 52)).drew)
      have S3 := Lib.hid (fun c d => HS.out _ (((Below.refl wr.heap.size wr).alloc (Nat.le_refl _) (.cells c 52)).alloc (by simp) (.cells d 52)).drew)
      go_region_held3 (fun W => (W.cell? ⟨ab, ax + k * 4, none⟩ = some (.int .i64 x.off) ∧ W.cell? ⟨ab, ax + k * 4 + 1, none⟩ = some (.int .i64 x.len) ∧ W.cell? ⟨ab, ax + k * 4 + 2, none⟩ = some (.int .i64 x.addr) ∧ W.cell? ⟨ab, ax + k * 4 + 3, none⟩ = some (.int .i64 x.src)) ∧ W.cell? ⟨bb, bx + k * 4, none⟩ = some (.int .i64 x.off) ∧ W.cell? ⟨bb, bx + k * 4 + 1, none⟩ = some (.int .i64 x.len) ∧ W.cell? ⟨bb, bx + k * 4 + 2, none⟩ = some (.int .i64 x.addr) ∧ W.cell? ⟨bb, bx + k * 4 + 3, none⟩ = some (.int .i64 x.src))
        (first | exact S0.out | exact S1.out | exact S2.out | exact S3.out _ _)
        (fail)
      all_goals
        have HBX := Lib.hid (fun c d => ((HW.out.alloc HW.out.size (.cells c 52)).alloc (by have := HW.out.size; simp; omega) (.cells d 52)).drew)
        go_wp2_with fail
        go_roundw
        case rel => exact ⟨k + 1, by go_num, by omega, Lib.hid (HBX.out _ _)⟩
        case measure => simp [intOf]; omega
    · obtain rfl : k = l.length := by omega
      go_wp2_with fail
      go_ret
      exact ⟨rfl, HW.out⟩
end Go.Proofs.Ytfkgeefoknaldaa
