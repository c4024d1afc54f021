/- What the document's own Put returns. Conditions: the parts lie where the call was told. What the document's own May returns. No conditions. -/
import Derived.Test.YtfkgeefoknaldaaG12a
import Derived.Test.YtfkgeefoknaldaaG20a
set_option linter.unusedVariables false
namespace Go.Proofs.Ytfkgeefoknaldaa
open Go.RowKit Go.Sort
set_option linter.unusedVariables false
set_option maxRecDepth 20000
theorem PtB.set {w : World} {b : Nat} {x : Pt} (h : PtB w b x) {p : Addr} (hp : p.block ≠ b) (u : Value) : PtB (w.setCell p u) b x := (heap_setCell_other w p b u (fun e => hp e.symm)).trans h
theorem put_bytes {l : List Pt} {x : Pt} (hx : oneB x = true) (i : Nat) (hi : i < 8192) : bytG (clipG 0 8192 (layG (atE l) x)) i = putF (spF l) x i := by
  rw [clip_in (by omega)]
  unfold bytG layG putF
  by_cases h : x.off ≤ (i : Int) ∧ (i : Int) < x.off + x.len
  · rw [if_pos h, if_pos h]
  · rw [if_neg h, if_neg h]
    rfl
theorem clip_bytes {l : List Pt} (i : Nat) (hi : i < 8192) : bytG (clipG 0 8192 (atE l)) i = spF l i := by
  rw [clip_in (by omega)]
  rfl
set_option maxRecDepth 200000 in
set_option maxHeartbeats 8000000 in
theorem rput_any (ao : Option Addr) (cap : Nat) (l : List Pt) (x : Pt) (w : World) (h : PaL w ao l) (hlen : l.length ≤ maxLen) :
    Calls Try.prog 53 #[.slice ao l.length cap, .agg #[.int .i64 x.off, .int .i64 x.len, .int .i64 x.addr, .int .i64 x.src]] w fun e w' => ∃ v, e = .returned (.tuple #[v, .int .i64 (putE l x).2]) ∧ OPa w' w.heap.size v (putE l x).1 ∧ Below w.heap.size w w' := by
  have HB0 := Lib.hid (blwA w (.cells #[.int .i64 x.off, .int .i64 x.len, .int .i64 x.addr, .int .i64 x.src] 52))
  have HX0 := Lib.hid (show PtB (w.alloc (.cells #[.int .i64 x.off, .int .i64 x.len, .int .i64 x.addr, .int .i64 x.src] 52)) w.heap.size x from heap_alloc_new _ _)
  have CG := Lib.hid (rgoodE_any ao cap l (w.alloc (.cells #[.int .i64 x.off, .int .i64 x.len, .int .i64 x.addr, .int .i64 x.src] 52)) (h.below HB0.out) hlen)
  have HP := Lib.hid h
  have HLN := Lib.hid hlen
  cases hg : goodE l
  · rw [putE_bad hg]
    rw [hg] at CG
    clear hg h hlen
    go_enter Try.func53, Try.ntmps53
    go_wp2_with (go_at_call 70; refine CG.out.mono ?_; rintro e w1 ⟨rfl, hb1⟩; have HB1 := Lib.hid (blwO hb1 HB0.out); clear hb1)
    go_ret2
    exact ⟨_, rfl, OR.nil _ _, HB1.out⟩
  rw [hg] at CG
  have CA := Lib.hid (fun W => rone_any x W)
  cases ho : oneB x
  · rw [putE_no hg ho]
    rw [ho] at CA
    clear hg ho h hlen
    go_enter Try.func53, Try.ntmps53
    go_wp2_with (first
      | (go_at_call 71; with_reducible refine (CA.out _).mono ?_; rintro e w2 ⟨rfl, hb2⟩; have HB2 := Lib.hid (blwO hb2 HB1.out); clear hb2)
      | (go_at_call 70; refine CG.out.mono ?_; rintro e w1 ⟨rfl, hb1⟩; have HB1 := Lib.hid (blwO hb1 HB0.out); obtain ⟨x0, x1, x2, x3⟩ := (HX0.out.below hb1).cells; clear hb1))
    go_ret2
    exact ⟨_, rfl, OR.nil _ _, HB2.out⟩
  rw [putE_yes hg ho]
  rw [ho] at CA
  obtain ⟨hg1, hg2⟩ := goodE_iff.1 hg
  have hl64 : (l.length : Int) ≤ 64 := by omega
  have CS := Lib.hid (fun (W : World) (hb : Below w.heap.size w W) => rspread_any ao cap l W (HP.out.below hb) (by omega) (rail_one hg2))
  rw [laid_rail hg2] at CS
  have HPB := Lib.hid (@put_bytes l x ho)
  have HSF := Lib.hid (show soundF (putF (spF l) x) 8192 from putF_sound (spF_sound hg2 _) ho)
  have CGA := Lib.hid (fun (W : World) (g : Nat) (hW : WB W g (putF (spF l) x)) => rgather_any g _ W hW HSF.out)
  have HGL := Lib.hid (@gat_len (putF (spF l) x) 8192)
  obtain ⟨o1, o2, o3, o4, o5, o6, o7⟩ := oneB_iff.1 ho
  have HPE := Lib.hid (show partG 0 8192 (atE l) x (x.off + x.len) = clipG 0 8192 (layG (atE l) x) from part_done (by have : x.stop = x.off + x.len := rfl; omega))
  have HPN := Lib.hid (fun (a : Int) (h1 : x.off ≤ a) => @part_next 0 8192 (atE l) x a (by omega))
  have HP0 := Lib.hid (show clipG 0 8192 (atE l) = partG 0 8192 (atE l) x (x.off + ((0 : Nat) : Int)) from by rw [show x.off + ((0 : Nat) : Int) = max x.off 0 by omega, part_zero])
  rw [HP0.out] at CS
  generalize gatE (putF (spF l) x) 8192 = R at *
  have hRl : (R.length : Int) ≤ 8192 := by have := HGL.out; omega
  clear hg ho h hlen hg1 hg2
  go_enter Try.func53, Try.ntmps53
  go_wp2_with (first
    | (go_at_call 72; refine (CS.out _ HB2.out).mono ?_; rintro e w3 ⟨g, rfl, hgs, hW, hB⟩; have HB3 := Lib.hid (blwO hB HB2.out); have HX3 := Lib.hid (HX2.out.below hB); have hgw : w.heap.size ≤ g := Nat.le_trans HB2.out.size hgs; have hgx : w.heap.size < g := Nat.lt_of_lt_of_le HX2.out.lt hgs; have HW3 := Lib.hid hW; clear hgs hW hB x0 x1 x2 x3)
    | (go_at_call 71; with_reducible refine (CA.out _).mono ?_; rintro e w2 ⟨rfl, hb2⟩; have HB2 := Lib.hid (blwO hb2 HB1.out); have HX2 := Lib.hid (HX1.out.below hb2); clear x0 x1 x2 x3; obtain ⟨x0, x1, x2, x3⟩ := HX2.out.cells; clear hb2)
    | (go_at_call 70; refine CG.out.mono ?_; rintro e w1 ⟨rfl, hb1⟩; have HB1 := Lib.hid (blwO hb1 HB0.out); have HX1 := Lib.hid (HX0.out.below hb1); obtain ⟨x0, x1, x2, x3⟩ := HX1.out.cells; clear hb1))
  go_loopw [7] (fun i wq => ∃ j : Nat, i = .int .i64 j ∧ (j : Int) ≤ x.len ∧ Hid (WB wq g (bytG (partG 0 8192 (atE l) x (x.off + (j : Int))))) ∧ Hid (PtB wq w.heap.size x) ∧ Hid (Below w.heap.size w wq)) (fun i _ => (x.len - intOf i).toNat)
  case atStart => exact ⟨0, rfl, by omega, HW3, HX3, HB3⟩
  case round =>
    obtain ⟨j, rfl, hj, HW, HX, HB⟩ := hrel
    obtain ⟨x0, x1, x2, x3⟩ := HX.out.cells
    by_cases hjt : (j : Int) < x.len
    · obtain ⟨p, hp⟩ : ∃ p : Nat, x.off + (j : Int) = p := ⟨(x.off + (j : Int)).toNat, by omega⟩
      have hpl : p < 8192 := by omega
      have hpI : (p : Int) < 8192 := by omega
      have HPS := Lib.hid (show setG (partG 0 8192 (atE l) x p) p (x.addr, x.src + (j : Int)) = partG 0 8192 (atE l) x ((p : Int) + 1) from by rw [← HPN.out p (by omega)]; congr 2; omega)
      have HPQ := Lib.hid (show x.off + ((j + 1 : Nat) : Int) = (p : Int) + 1 by omega)
      have HW4 := Lib.hid (show WB wr g (bytG (partG 0 8192 (atE l) x p)) from by rw [← hp]; exact HW.out)
      obtain ⟨⟨d0, d1⟩, f0, f1⟩ := HW4.out.at hpl
      have HW5 := Lib.hid (HW4.out.set hpl x.addr (x.src + (j : Int)))
      rw [HPS.out] at HW5
      have HB5 := Lib.hid (((HB.out.setCell (p := ⟨g, p * 2, none⟩) hgw (.int .i64 x.addr)).setCell (p := ⟨g, p * 2 + 1, none⟩) hgw (.int .i64 (x.src + (j : Int)))))
      have HX5 := Lib.hid ((HX.out.set (p := ⟨g, p * 2, none⟩) (Nat.ne_of_gt hgx) (.int .i64 x.addr)).set (p := ⟨g, p * 2 + 1, none⟩) (Nat.ne_of_gt hgx) (.int .i64 (x.src + (j : Int))))
      have hw1 : IntKind.i64.wrap (p : Int) = (p : Int) := IntWalk.i64_in _ (by omega)
      go_wp2_with fail
      go_roundw
      case rel => exact ⟨j + 1, by go_num, by omega, Lib.hid (by rw [HPQ.out]; exact HW5.out), HX5, HB5⟩
      case measure => simp [intOf]; omega
    · have hje : (j : Int) = x.len := by omega
      have HW4 := Lib.hid (show WB wr g (putF (spF l) x) from (show WB wr g (bytG (clipG 0 8192 (layG (atE l) x))) from by rw [← HPE.out, ← hje]; exact HW.out).congr HPB.out)
      by_cases hf : R.length ≤ 64
      · have HFE := Lib.hid (fewE_yes hf)
        have CF := Lib.hid (fun ao cap W => rfew_yes ao cap R W hf)
        clear hf hje
        go_wp2_with (first
          | (go_at_call 73; (with_reducible refine (CF.out _ _ _).mono ?_); rintro e w8 ⟨rfl, rfl⟩)
          | (go_at_call 74; refine (CGA.out _ _ HW4.out).mono ?_; rintro e w7 ⟨v7, rfl, hO, hB⟩; have HB7 := Lib.hid (blwO hB HB.out); have HO7 := Lib.hid (OPa.lower hO HB.out.size); obtain ⟨a7, c7, hv7, _⟩ := OR.form par_rows hO; subst hv7; clear hO hB))
        go_ret2
        rw [HFE.out]
        exact ⟨_, rfl, HO7.out, HB7.out⟩
      · have HFE := Lib.hid (fewE_no hf)
        have CF := Lib.hid (fun ao cap W => rfew_no ao cap R W hf HGL.out)
        clear hf hje
        go_wp2_with (first
          | (go_at_call 73; (with_reducible refine (CF.out _ _ _).mono ?_); rintro e w8 ⟨rfl, rfl⟩)
          | (go_at_call 74; refine (CGA.out _ _ HW4.out).mono ?_; rintro e w7 ⟨v7, rfl, hO, hB⟩; have HB7 := Lib.hid (blwO hB HB.out); have HO7 := Lib.hid (OPa.lower hO HB.out.size); obtain ⟨a7, c7, hv7, _⟩ := OR.form par_rows hO; subst hv7; clear hO hB))
        go_ret2
        rw [HFE.out]
        exact ⟨_, rfl, OR.nil _ _, HB7.out⟩
end Go.Proofs.Ytfkgeefoknaldaa
namespace Go.Proofs.Ytfkgeefoknaldaa
open Go.RowKit Go.Sort
set_option linter.unusedVariables false
set_option maxRecDepth 20000
set_option maxHeartbeats 4000000 in
theorem rmay_any (m : Mv) (to : Int) (w : World) :
    Calls Try.prog 75 #[.agg #[.int .i64 m.addr, .int .i64 m.src, .int .i64 m.len, .int .i64 m.at_], .int .i64 to] w fun e w' => e = .returned (.bool (mayB m to)) ∧ Below w.heap.size w w' := by
  have HI := Lib.hid (@mayB_iff m to)
  generalize mayB m to = R at *
  obtain ⟨ad, src, len, at_⟩ := m
  dsimp only at *
  have HB := Lib.hid (blwA w (.cells #[.int .i64 ad, .int .i64 src, .int .i64 len, .int .i64 at_] 91))
  by_cases c0 : ¬ (0 ≤ ad)
  · obtain rfl : R = false := Bool.eq_false_iff.2 (fun e => by have := HI.out.1 e; omega)
    have d0 : decide (0 ≤ ad) = false := decide_eq_false c0
    clear c0 HI
    go_enter Try.func75, Try.ntmps75
    go_wp2_with fail
    go_ret
    exact ⟨rfl, HB.out⟩
  have c0 : 0 ≤ ad := by omega
  by_cases c1 : ¬ (ad < 16384)
  · obtain rfl : R = false := Bool.eq_false_iff.2 (fun e => by have := HI.out.1 e; omega)
    have d1 : decide (ad < 16384) = false := decide_eq_false c1
    clear c1 HI
    go_enter Try.func75, Try.ntmps75
    go_wp2_with fail
    go_ret
    exact ⟨rfl, HB.out⟩
  have c1 : ad < 16384 := by omega
  by_cases c2 : ¬ (0 ≤ src)
  · obtain rfl : R = false := Bool.eq_false_iff.2 (fun e => by have := HI.out.1 e; omega)
    have d2 : decide (0 ≤ src) = false := decide_eq_false c2
    clear c2 HI
    go_enter Try.func75, Try.ntmps75
    go_wp2_with fail
    go_ret
    exact ⟨rfl, HB.out⟩
  have c2 : 0 ≤ src := by omega
  by_cases c3 : ¬ (src ≤ 1024)
  · obtain rfl : R = false := Bool.eq_false_iff.2 (fun e => by have := HI.out.1 e; omega)
    have d3 : decide (src ≤ 1024) = false := decide_eq_false c3
    clear c3 HI
    go_enter Try.func75, Try.ntmps75
    go_wp2_with fail
    go_ret
    exact ⟨rfl, HB.out⟩
  have c3 : src ≤ 1024 := by omega
  by_cases c4 : ¬ (0 ≤ at_)
  · obtain rfl : R = false := Bool.eq_false_iff.2 (fun e => by have := HI.out.1 e; omega)
    have d4 : decide (0 ≤ at_) = false := decide_eq_false c4
    clear c4 HI
    go_enter Try.func75, Try.ntmps75
    go_wp2_with fail
    go_ret
    exact ⟨rfl, HB.out⟩
  have c4 : 0 ≤ at_ := by omega
  by_cases c5 : ¬ (at_ ≤ 1024)
  · obtain rfl : R = false := Bool.eq_false_iff.2 (fun e => by have := HI.out.1 e; omega)
    have d5 : decide (at_ ≤ 1024) = false := decide_eq_false c5
    clear c5 HI
    go_enter Try.func75, Try.ntmps75
    go_wp2_with fail
    go_ret
    exact ⟨rfl, HB.out⟩
  have c5 : at_ ≤ 1024 := by omega
  by_cases c6 : ¬ (1 ≤ len)
  · obtain rfl : R = false := Bool.eq_false_iff.2 (fun e => by have := HI.out.1 e; omega)
    have d6 : decide (1 ≤ len) = false := decide_eq_false c6
    clear c6 HI
    go_enter Try.func75, Try.ntmps75
    go_wp2_with fail
    go_ret
    exact ⟨rfl, HB.out⟩
  have c6 : 1 ≤ len := by omega
  by_cases c7 : ¬ (len ≤ 1024)
  · obtain rfl : R = false := Bool.eq_false_iff.2 (fun e => by have := HI.out.1 e; omega)
    have d7 : decide (len ≤ 1024) = false := decide_eq_false c7
    clear c7 HI
    go_enter Try.func75, Try.ntmps75
    go_wp2_with fail
    go_ret
    exact ⟨rfl, HB.out⟩
  have c7 : len ≤ 1024 := by omega
  by_cases c8 : ¬ (src + len ≤ 1024)
  · obtain rfl : R = false := Bool.eq_false_iff.2 (fun e => by have := HI.out.1 e; omega)
    have d8 : decide (src + len ≤ 1024) = false := decide_eq_false c8
    clear c8 HI
    go_enter Try.func75, Try.ntmps75
    go_wp2_with fail
    go_ret
    exact ⟨rfl, HB.out⟩
  have c8 : src + len ≤ 1024 := by omega
  by_cases c9 : ¬ (at_ + len ≤ 1024)
  · obtain rfl : R = false := Bool.eq_false_iff.2 (fun e => by have := HI.out.1 e; omega)
    have d9 : decide (at_ + len ≤ 1024) = false := decide_eq_false c9
    clear c9 HI
    go_enter Try.func75, Try.ntmps75
    go_wp2_with fail
    go_ret
    exact ⟨rfl, HB.out⟩
  have c9 : at_ + len ≤ 1024 := by omega
  by_cases c10 : ¬ (0 ≤ to)
  · obtain rfl : R = false := Bool.eq_false_iff.2 (fun e => by have := HI.out.1 e; omega)
    have d10 : decide (0 ≤ to) = false := decide_eq_false c10
    clear c10 HI
    go_enter Try.func75, Try.ntmps75
    go_wp2_with fail
    go_ret
    exact ⟨rfl, HB.out⟩
  have c10 : 0 ≤ to := by omega
  by_cases c11 : ¬ (to < 16384)
  · obtain rfl : R = false := Bool.eq_false_iff.2 (fun e => by have := HI.out.1 e; omega)
    have d11 : decide (to < 16384) = false := decide_eq_false c11
    clear c11 HI
    go_enter Try.func75, Try.ntmps75
    go_wp2_with fail
    go_ret
    exact ⟨rfl, HB.out⟩
  have c11 : to < 16384 := by omega
  obtain rfl : R = true := HI.out.2 (by omega)
  clear HI
  go_enter Try.func75, Try.ntmps75
  go_wp2_with fail
  go_ret
  exact ⟨rfl, HB.out⟩
end Go.Proofs.Ytfkgeefoknaldaa
