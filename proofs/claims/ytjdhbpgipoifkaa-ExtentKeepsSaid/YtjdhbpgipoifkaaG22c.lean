/- What the document's own Move returns. Conditions: the parts lie where the call was told. -/
import Derived.Test.YtjdhbpgipoifkaaG21a
import Derived.Test.YtjdhbpgipoifkaaG21b
set_option linter.unusedVariables false
namespace Go.Proofs.Ytjdhbpgipoifkaa
open Go.RowKit Go.Sort
set_option linter.unusedVariables false
set_option maxRecDepth 20000
theorem MvB.set {w : World} {b : Nat} {m : Mv} (h : MvB w b m) {p : Addr} (hp : p.block ≠ b) (u : Value) : MvB (w.setCell p u) b m := (heap_setCell_other w p b u (fun e => hp e.symm)).trans h
/-- while bytes are moved: below k -/
def movK (m : Mv) (to : Int) (F : ByteF) (k : Nat) : ByteF := fun j => if j < k then mvF m to F j else F j
theorem movK_zero (m : Mv) (to : Int) (F : ByteF) : movK m to F 0 = F := by
  funext j
  exact if_neg (Nat.not_lt_zero j)
theorem movK_at (m : Mv) (to : Int) (F : ByteF) (k : Nat) : movK m to F k k = F k := if_neg (Nat.lt_irrefl k)
theorem movK_same {m : Mv} {to : Int} {F : ByteF} {k : Nat} (h : ¬ ((F k).1 = m.addr ∧ 0 ≤ (F k).2 - m.src ∧ (F k).2 - m.src < m.len)) : movK m to F (k + 1) = movK m to F k := by
  funext j
  unfold movK
  by_cases e : j = k
  · subst e
    rw [if_pos (Nat.lt_succ_self _), if_neg (Nat.lt_irrefl _)]
    exact if_neg h
  · by_cases e2 : j < k
    · rw [if_pos e2, if_pos (by omega)]
    · rw [if_neg e2, if_neg (by omega)]
theorem movK_set {m : Mv} {to : Int} {F : ByteF} {k : Nat} (h : (F k).1 = m.addr ∧ 0 ≤ (F k).2 - m.src ∧ (F k).2 - m.src < m.len) (j : Nat) : (if j = k then (to, m.at_ + ((F k).2 - m.src)) else movK m to F k j) = movK m to F (k + 1) j := by
  unfold movK
  by_cases e : j = k
  · subst e
    rw [if_pos rfl, if_pos (Nat.lt_succ_self _)]
    exact (if_pos h).symm
  · rw [if_neg e]
    by_cases e2 : j < k
    · rw [if_pos e2, if_pos (by omega)]
    · rw [if_neg e2, if_neg (by omega)]
/-- one byte is set -/
theorem WB.setF {w : World} {g : Nat} {F : ByteF} (h : WB w g F) {i : Nat} (hi : i < 8192) (a f : Int) : WB ((w.setCell ⟨g, i * 2, none⟩ (.int .i64 a)).setCell ⟨g, i * 2 + 1, none⟩ (.int .i64 f)) g (fun j => if j = i then (a, f) else F j) :=
  ((h.set1 hi a).set2 hi f).congr (fun j hj => by
    show (if j = i then ((if j = i then (a, (F j).2) else F j).1, f) else if j = i then (a, (F j).2) else F j) = if j = i then (a, f) else F j
    by_cases e : j = i
    · rw [if_pos e, if_pos e, if_pos e]
    · rw [if_neg e, if_neg e, if_neg e])
set_option maxRecDepth 200000 in
set_option maxHeartbeats 8000000 in
theorem rmove_any (ao : Option Addr) (cap : Nat) (l : List Pt) (m : Mv) (to : Int) (w : World) (h : PaL w ao l) (hlen : l.length ≤ maxLen) :
    Calls Try.prog 24 #[.slice ao l.length cap, .agg #[.int .i64 m.addr, .int .i64 m.src, .int .i64 m.len, .int .i64 m.at_], .int .i64 to] w fun e w' => ∃ v, e = .returned (.tuple #[v, .int .i64 (moveE l m to).2]) ∧ OPa w' w.heap.size v (moveE l m to).1 ∧ Below w.heap.size w w' := by
  have HB0 := Lib.hid (blwA w (.cells #[.int .i64 m.addr, .int .i64 m.src, .int .i64 m.len, .int .i64 m.at_] 41))
  have HX0 := Lib.hid (show MvB (w.alloc (.cells #[.int .i64 m.addr, .int .i64 m.src, .int .i64 m.len, .int .i64 m.at_] 41)) w.heap.size m from heap_alloc_new _ _)
  have CG := Lib.hid (rgoodE_any ao cap l (w.alloc (.cells #[.int .i64 m.addr, .int .i64 m.src, .int .i64 m.len, .int .i64 m.at_] 41)) (h.below HB0.out) hlen)
  have HP := Lib.hid h
  cases hg : goodE l
  · rw [moveE_bad hg]
    rw [hg] at CG
    clear hg h hlen
    go_enter Try.func24, Try.ntmps24
    go_wp2_with (go_at_call 13; refine CG.out.mono ?_; rintro e w1 ⟨rfl, hb1⟩; have HB1 := Lib.hid (blwO hb1 HB0.out); clear hb1)
    go_ret2
    exact ⟨_, rfl, OR.nil _ _, HB1.out⟩
  rw [hg] at CG
  have CA := Lib.hid (fun W => rmay_any m to W)
  cases hm : mayB m to
  · rw [moveE_no hg hm]
    rw [hm] at CA
    clear hg hm h hlen
    go_enter Try.func24, Try.ntmps24
    go_wp2_with (first
      | (go_at_call 39; with_reducible refine (CA.out _).mono ?_; rintro e w2 ⟨rfl, hb2⟩; have HB2 := Lib.hid (blwO hb2 HB1.out); clear hb2)
      | (go_at_call 13; refine CG.out.mono ?_; rintro e w1 ⟨rfl, hb1⟩; have HB1 := Lib.hid (blwO hb1 HB0.out); obtain ⟨x0, x1, x2, x3⟩ := (HX0.out.below hb1).cells; clear hb1))
    go_ret2
    exact ⟨_, rfl, OR.nil _ _, HB2.out⟩
  rw [moveE_yes hg hm]
  rw [hm] at CA
  obtain ⟨hg1, hg2⟩ := goodE_iff.1 hg
  have hl64 : (l.length : Int) ≤ 64 := by omega
  have CS := Lib.hid (fun (W : World) (hb : Below w.heap.size w W) => rspread_any ao cap l W (HP.out.below hb) (by omega) (rail_one hg2))
  rw [laid_rail hg2] at CS
  obtain ⟨m1, m2, m3, m4, m5, m6, m7, m8, m9⟩ := mayB_iff.1 hm
  have HSF := Lib.hid (show soundF (mvF m to (spF l)) 8192 from movF_sound (spF_sound hg2 _) m9 m4 m7)
  have CGA := Lib.hid (fun (W : World) (g : Nat) (hW : WB W g (mvF m to (spF l))) => rgather_any g _ W hW HSF.out)
  have HGL := Lib.hid (@gat_len (mvF m to (spF l)) 8192)
  have HBM := Lib.hid (fun i => byt_mid (rail_sound hg2) i)
  have HFM := Lib.hid (show ∀ j, j < 8192 → movK m to (spF l) 8192 j = mvF m to (spF l) j from fun j hj => if_pos hj)
  generalize gatE (mvF m to (spF l)) 8192 = R at *
  have hRl : (R.length : Int) ≤ 8192 := by have := HGL.out; omega
  clear hg hm h hlen hg1 hg2
  go_enter Try.func24, Try.ntmps24
  go_wp2_with (first
    | (go_at_call 33; refine (CS.out _ HB2.out).mono ?_; rintro e w3 ⟨g, rfl, hgs, hW, hB⟩; have HB3 := Lib.hid (blwO hB HB2.out); have HX3 := Lib.hid (HX2.out.below hB); have hgw : w.heap.size ≤ g := Nat.le_trans HB2.out.size hgs; have hgx : w.heap.size < g := Nat.lt_of_lt_of_le (lt_of_block HX2.out) hgs; have HW3 := Lib.hid (show WB w3 g (movK m to (spF l) 0) from by rw [movK_zero]; exact hW.congr clip_bytes); clear hgs hW hB x0 x1 x2 x3)
    | (go_at_call 39; with_reducible refine (CA.out _).mono ?_; rintro e w2 ⟨rfl, hb2⟩; have HB2 := Lib.hid (blwO hb2 HB1.out); have HX2 := Lib.hid (HX1.out.below hb2); clear x0 x1 x2 x3; obtain ⟨x0, x1, x2, x3⟩ := HX2.out.cells; clear hb2)
    | (go_at_call 13; refine CG.out.mono ?_; rintro e w1 ⟨rfl, hb1⟩; have HB1 := Lib.hid (blwO hb1 HB0.out); have HX1 := Lib.hid (HX0.out.below hb1); obtain ⟨x0, x1, x2, x3⟩ := HX1.out.cells; clear hb1))
  go_loopw [9] (fun i wq => ∃ k : Nat, i = .int .i64 k ∧ k ≤ 8192 ∧ Hid (WB wq g (movK m to (spF l) k)) ∧ Hid (MvB wq w.heap.size m) ∧ Hid (Below w.heap.size w wq)) (fun i _ => 8192 - (intOf i).toNat)
  case atStart => exact ⟨0, rfl, by decide, HW3, HX3, HB3⟩
  case round =>
    obtain ⟨k, rfl, hk, HW, HX, HB⟩ := hrel
    by_cases hlt : k < 8192
    · have k0 : (k : Int) < 8192 := by omega
      obtain ⟨x0, x1, x2, x3⟩ := HX.out.cells
      obtain ⟨⟨d0, d1⟩, f0, f1⟩ := HW.out.at hlt
      rw [movK_at] at d0 d1
      have HSM := Lib.hid (@movK_same m to (spF l) k)
      have HST := Lib.hid (@movK_set m to (spF l) k)
      have hbm : (-1 ≤ (spF l k).1 ∧ (spF l k).1 ≤ 16384) ∧ 0 ≤ (spF l k).2 ∧ (spF l k).2 ≤ 1024 := HBM.out k
      generalize (spF l k).1 = fa at *
      generalize (spF l k).2 = fs at *
      obtain ⟨_, n1, n2⟩ := hbm
      obtain ⟨d, hd⟩ : ∃ d, fs - m.src = d := ⟨_, rfl⟩
      have hdr : -1024 ≤ d ∧ d ≤ 1024 := by omega
      have hw0 : IntKind.i64.wrap d = d := IntWalk.i64_in _ (by omega)
      rw [hd] at HSM HST
      by_cases h1 : fa = m.addr
      · have q1 : (fa == m.addr) = true := beq_iff_eq.2 h1
        by_cases h2 : 0 ≤ d
        · have q2 : decide (0 ≤ d) = true := decide_eq_true h2
          by_cases h3 : d < m.len
          · have q3 : decide (d < m.len) = true := decide_eq_true h3
            have HW5 := Lib.hid ((HW.out.setF hlt to (m.at_ + d)).congr (fun j _ => HST.out ⟨h1, h2, h3⟩ j))
            have HWD := Lib.hid (fun n => show WB ((((wr.drewN n).setCell ⟨g, k * 2, none⟩ (.int .i64 to))).setCell ⟨g, k * 2 + 1, none⟩ (.int .i64 (m.at_ + d))) g (movK m to (spF l) (k + 1)) from HW5.out)
            have HBD := Lib.hid (fun n => (((below_drewN HB.out n).setCell (p := ⟨g, k * 2, none⟩) hgw (.int .i64 to)).setCell (p := ⟨g, k * 2 + 1, none⟩) hgw (.int .i64 (m.at_ + d))))
            have HXD := Lib.hid (fun n => ((show MvB (wr.drewN n) w.heap.size m from HX.out.below (below_drewN (Below.refl _ _) n)).set (p := ⟨g, k * 2, none⟩) (Nat.ne_of_gt hgx) (.int .i64 to)).set (p := ⟨g, k * 2 + 1, none⟩) (Nat.ne_of_gt hgx) (.int .i64 (m.at_ + d)))
            clear h1 h2 h3
            go_wp2_with fail
            go_quiet (fail)
            go_wp2_with fail
            go_quiet (fail)
            go_wp2_with fail
            exact ⟨⟨k + 1, by go_num, by omega, Lib.hid (HWD.out _), Lib.hid (HXD.out _), Lib.hid (HBD.out _)⟩, by simp [intOf]; omega⟩
          · have q3 : decide (d < m.len) = false := decide_eq_false h3
            have HW5 := Lib.hid (show WB wr g (movK m to (spF l) (k + 1)) from by rw [HSM.out (fun h => h3 h.2.2)]; exact HW.out)
            clear h1 h2 h3
            go_wp2_with fail
            go_quiet (fail)
            go_wp2_with fail
            go_quiet (fail)
            go_wp2_with fail
            go_roundw
            case rel => exact ⟨k + 1, by go_num, by omega, Lib.hid (HW5.out.below (below_drewN (Below.refl _ _) _)), Lib.hid (HX.out.below (below_drewN (Below.refl _ _) _)), Lib.hid (below_drewN HB.out _)⟩
            case measure => simp [intOf]; omega
        · have q2 : decide (0 ≤ d) = false := decide_eq_false h2
          have HW5 := Lib.hid (show WB wr g (movK m to (spF l) (k + 1)) from by rw [HSM.out (fun h => h2 h.2.1)]; exact HW.out)
          clear h1 h2
          go_wp2_with fail
          go_quiet (fail)
          go_wp2_with fail
          go_quiet (fail)
          go_wp2_with fail
          go_roundw
          case rel => exact ⟨k + 1, by go_num, by omega, Lib.hid (HW5.out.below (below_drewN (Below.refl _ _) _)), Lib.hid (HX.out.below (below_drewN (Below.refl _ _) _)), Lib.hid (below_drewN HB.out _)⟩
          case measure => simp [intOf]; omega
      · have q1 : (fa == m.addr) = false := beq_eq_false_iff_ne.2 h1
        have HW5 := Lib.hid (show WB wr g (movK m to (spF l) (k + 1)) from by rw [HSM.out (fun h => h1 h.1)]; exact HW.out)
        clear h1
        go_wp2_with fail
        go_quiet (fail)
        go_wp2_with fail
        go_quiet (fail)
        go_wp2_with fail
        go_roundw
        case rel => exact ⟨k + 1, by go_num, by omega, Lib.hid (HW5.out.below (below_drewN (Below.refl _ _) _)), Lib.hid (HX.out.below (below_drewN (Below.refl _ _) _)), Lib.hid (below_drewN HB.out _)⟩
        case measure => simp [intOf]; omega
    · have k0 : ¬ (k : Int) < 8192 := by omega
      have hk8 : k = 8192 := by omega
      rw [hk8] at HW
      have HW4 := Lib.hid (HW.out.congr HFM.out)
      clear hk8 hk hlt
      by_cases hf : R.length ≤ 64
      · have HFE := Lib.hid (fewE_yes hf)
        have CF := Lib.hid (fun ao cap W => rfew_yes ao cap R W hf)
        clear hf
        go_wp2_with (first
          | (go_at_call 36; (with_reducible refine (CF.out _ _ _).mono ?_); rintro e w8 ⟨rfl, rfl⟩)
          | (go_at_call 34; refine (CGA.out _ _ HW4.out).mono ?_; rintro e w7 ⟨v7, rfl, hO, hB⟩; have HB7 := Lib.hid (blwO hB HB.out); have HO7 := Lib.hid (OPa.lower hO HB.out.size); obtain ⟨a7, c7, hv7, _⟩ := OR.form par_rows hO; subst hv7; clear hO hB))
        go_ret2
        rw [HFE.out]
        exact ⟨_, rfl, HO7.out, HB7.out⟩
      · have HFE := Lib.hid (fewE_no hf)
        have CF := Lib.hid (fun ao cap W => rfew_no ao cap R W hf HGL.out)
        clear hf
        go_wp2_with (first
          | (go_at_call 36; (with_reducible refine (CF.out _ _ _).mono ?_); rintro e w8 ⟨rfl, rfl⟩)
          | (go_at_call 34; refine (CGA.out _ _ HW4.out).mono ?_; rintro e w7 ⟨v7, rfl, hO, hB⟩; have HB7 := Lib.hid (blwO hB HB.out); have HO7 := Lib.hid (OPa.lower hO HB.out.size); obtain ⟨a7, c7, hv7, _⟩ := OR.form par_rows hO; subst hv7; clear hO hB))
        go_ret2
        rw [HFE.out]
        exact ⟨_, rfl, OR.nil _ _, HB7.out⟩
end Go.Proofs.Ytjdhbpgipoifkaa
