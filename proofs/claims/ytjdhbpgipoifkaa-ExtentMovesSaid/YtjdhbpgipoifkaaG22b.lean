/- What the document's own Plan returns. Conditions: the parts lie where the call was told. -/
import Derived.Test.YtjdhbpgipoifkaaG21a
set_option linter.unusedVariables false
namespace Go.Proofs.Ytjdhbpgipoifkaa
open Go.RowKit Go.Sort
set_option linter.unusedVariables false
set_option maxRecDepth 20000
theorem planL_nil (o e a : Int) : planL o e [] a = if a < e then [⟨a, e - a, -1, 0⟩] else [] := rfl
theorem planL_skip {o e a : Int} {x : Pt} {l : List Pt} (h : min x.stop e ≤ max x.off o) : planL o e (x :: l) a = planL o e l a := if_pos h
theorem planL_hole {o e a : Int} {x : Pt} {l : List Pt} (h : ¬ min x.stop e ≤ max x.off o) (h2 : a < max x.off o) : planL o e (x :: l) a = ⟨a, max x.off o - a, -1, 0⟩ :: ⟨max x.off o, min x.stop e - max x.off o, x.addr, x.src + max x.off o - x.off⟩ :: planL o e l (min x.stop e) := by
  show (if min x.stop e ≤ max x.off o then planL o e l a else (if a < max x.off o then [(⟨a, max x.off o - a, -1, 0⟩ : Pt)] else []) ++ (⟨max x.off o, min x.stop e - max x.off o, x.addr, x.src + max x.off o - x.off⟩ : Pt) :: planL o e l (min x.stop e)) = _
  rw [if_neg h, if_pos h2]
  rfl
theorem planL_part {o e a : Int} {x : Pt} {l : List Pt} (h : ¬ min x.stop e ≤ max x.off o) (h2 : ¬ a < max x.off o) : planL o e (x :: l) a = ⟨max x.off o, min x.stop e - max x.off o, x.addr, x.src + max x.off o - x.off⟩ :: planL o e l (min x.stop e) := by
  show (if min x.stop e ≤ max x.off o then planL o e l a else (if a < max x.off o then [(⟨a, max x.off o - a, -1, 0⟩ : Pt)] else []) ++ (⟨max x.off o, min x.stop e - max x.off o, x.addr, x.src + max x.off o - x.off⟩ : Pt) :: planL o e l (min x.stop e)) = _
  rw [if_neg h, if_neg h2]
  rfl
set_option maxHeartbeats 8000000 in
theorem rplan_any (ao : Option Addr) (cap : Nat) (l : List Pt) (off n : Int) (w : World) (h : PaL w ao l) (hlen : l.length ≤ maxLen) :
    Calls Try.prog 22 #[.slice ao l.length cap, .int .i64 off, .int .i64 n] w fun e w' => ∃ v, e = .returned v ∧ OPa w' w.heap.size v (planE l off n) ∧ Below w.heap.size w w' := by
  have CG := Lib.hid (rgoodE_any ao cap l w h hlen)
  have HP := Lib.hid h
  have HNO := Lib.hid (@planE_no l off n)
  have HPB := Lib.hid (@planB_iff off n)
  cases hg : goodE l
  · rw [HNO.out (by rw [hg]; exact fun e => by cases e.1)]
    rw [hg] at CG
    clear hg h hlen
    go_enter Try.func22, Try.ntmps22
    go_wp2_with (go_at_call 13; refine CG.out.mono ?_; rintro e w1 ⟨rfl, hb1⟩; have HB1 := Lib.hid hb1; clear hb1)
    go_ret
    exact ⟨_, rfl, OR.nil _ _, HB1.out⟩
  rw [hg] at CG
  by_cases c0 : ¬ (0 ≤ off)
  · rw [HNO.out (fun e => by have := HPB.out.1 e.2; omega)]
    have d0 : decide (off < 0) = true := decide_eq_true (by omega)
    clear c0 HPB HNO hg h hlen
    go_enter Try.func22, Try.ntmps22
    go_wp2_with (go_at_call 13; refine CG.out.mono ?_; rintro e w1 ⟨rfl, hb1⟩; have HB1 := Lib.hid hb1; clear hb1)
    go_ret
    exact ⟨_, rfl, OR.nil _ _, HB1.out⟩
  have c0 : 0 ≤ off := by omega
  by_cases c1 : ¬ (off ≤ 8192)
  · rw [HNO.out (fun e => by have := HPB.out.1 e.2; omega)]
    have d1 : decide (8192 < off) = true := decide_eq_true (by omega)
    clear c1 HPB HNO hg h hlen
    go_enter Try.func22, Try.ntmps22
    go_wp2_with (go_at_call 13; refine CG.out.mono ?_; rintro e w1 ⟨rfl, hb1⟩; have HB1 := Lib.hid hb1; clear hb1)
    go_ret
    exact ⟨_, rfl, OR.nil _ _, HB1.out⟩
  have c1 : off ≤ 8192 := by omega
  by_cases c2 : ¬ (1 ≤ n)
  · rw [HNO.out (fun e => by have := HPB.out.1 e.2; omega)]
    have d2 : decide (n < 1) = true := decide_eq_true (by omega)
    clear c2 HPB HNO hg h hlen
    go_enter Try.func22, Try.ntmps22
    go_wp2_with (go_at_call 13; refine CG.out.mono ?_; rintro e w1 ⟨rfl, hb1⟩; have HB1 := Lib.hid hb1; clear hb1)
    go_ret
    exact ⟨_, rfl, OR.nil _ _, HB1.out⟩
  have c2 : 1 ≤ n := by omega
  by_cases c3 : ¬ (n ≤ 8192)
  · rw [HNO.out (fun e => by have := HPB.out.1 e.2; omega)]
    have d3 : decide (8192 < n) = true := decide_eq_true (by omega)
    clear c3 HPB HNO hg h hlen
    go_enter Try.func22, Try.ntmps22
    go_wp2_with (go_at_call 13; refine CG.out.mono ?_; rintro e w1 ⟨rfl, hb1⟩; have HB1 := Lib.hid hb1; clear hb1)
    go_ret
    exact ⟨_, rfl, OR.nil _ _, HB1.out⟩
  have c3 : n ≤ 8192 := by omega
  by_cases c4 : ¬ (off + n ≤ 8192)
  · rw [HNO.out (fun e => by have := HPB.out.1 e.2; omega)]
    have d4 : decide (8192 < off + n) = true := decide_eq_true (by omega)
    clear c4 HPB HNO hg h hlen
    go_enter Try.func22, Try.ntmps22
    go_wp2_with (go_at_call 13; refine CG.out.mono ?_; rintro e w1 ⟨rfl, hb1⟩; have HB1 := Lib.hid hb1; clear hb1)
    go_ret
    exact ⟨_, rfl, OR.nil _ _, HB1.out⟩
  have c4 : off + n ≤ 8192 := by omega
  rw [show planE l off n = planL off (off + n) l off from if_pos ⟨hg, HPB.out.2 ⟨c0, c1, c2, c3, c4⟩⟩]
  obtain ⟨hg1, hg2⟩ := goodE_iff.1 hg
  have H1 := Lib.hid (rail_one hg2)
  have hl64 : (l.length : Int) ≤ 64 := by omega
  obtain ⟨E, hE⟩ : ∃ E, off + n = E := ⟨_, rfl⟩
  have hEr : 0 ≤ E ∧ E ≤ 8192 := by omega
  rw [hE]
  generalize hR : planL off E l off = R
  have HR := Lib.hid hR
  have d0 : decide (off < 0) = false := decide_eq_false (by omega)
  have d1 : decide (8192 < off) = false := decide_eq_false (by omega)
  have d2 : decide (n < 1) = false := decide_eq_false (by omega)
  have d3 : decide (8192 < n) = false := decide_eq_false (by omega)
  have d4 : decide (8192 < E) = false := decide_eq_false (by omega)
  clear hg h hlen hg1 hg2 hR HPB HNO
  go_enter Try.func22, Try.ntmps22
  go_wp2_with (go_at_call 13; refine CG.out.mono ?_; rintro e w1 ⟨rfl, hb1⟩; have HB1 := Lib.hid hb1; clear hb1)
  go_loopw [7, 8, 9] (fun v s8 s9 wr => ∃ (k : Nat) (a : Int) (O : List Pt), s9 = .int .i64 k ∧ s8 = .int .i64 a ∧ k ≤ l.length ∧ 0 ≤ a ∧ a ≤ 8192 ∧ O.length ≤ 2 * k ∧ Hid (O ++ planL off E (l.drop k) a = R) ∧ Hid (OPa wr w.heap.size v O) ∧ Hid (Below w.heap.size w wr)) (fun _ _ s9 _ => l.length - (intOf s9).toNat)
  case atStart => exact ⟨0, off, [], rfl, rfl, Nat.zero_le _, c0, c1, Nat.le_refl _, HR, Lib.hid (OR.nil _ _), HB1⟩
  case round =>
    obtain ⟨k, a, O, rfl, rfl, hk, a0, a1, hO1, HE, HO, HB⟩ := hrel
    obtain ⟨vo, vc, hv, _⟩ := OR.form par_rows HO.out
    subst hv
    have hOI : (O.length : Int) ≤ 128 := by omega
    by_cases hlt : k < l.length
    · have k0 : (k : Int) < (l.length : Int) := by omega
      obtain ⟨bk, bo, hao, b0, b1, b2, b3⟩ := (HP.out.below HB.out).at k hlt
      subst hao
      have HC := Lib.hid (fun W (hb : Below w.heap.size w W) => PaL.at (HP.out.below hb) k hlt)
      have HDR := Lib.hid (List.drop_eq_getElem_cons hlt)
      have ob := H1.out _ (List.getElem_mem hlt)
      obtain ⟨x, hx⟩ : ∃ x, Hid (l[k] = x) := ⟨_, Lib.hid rfl⟩
      rw [hx.out] at b0 b1 b2 b3 HDR ob
      rw [HDR.out] at HE
      obtain ⟨o1, o2, o3, o4, o5, o6, o7⟩ := oneB_iff.1 ob
      have hst : x.stop = x.off + x.len := rfl
      obtain ⟨fr, hfr⟩ : ∃ fr, max x.off off = fr := ⟨_, rfl⟩
      obtain ⟨tt, htt⟩ : ∃ tt, min (x.off + x.len) E = tt := ⟨_, rfl⟩
      have HFR := Lib.hid hfr
      have HTT := Lib.hid (show min x.stop E = tt from htt)
      have fr1 : 0 ≤ fr ∧ fr ≤ 8192 ∧ x.off ≤ fr := by omega
      have tt1 : 0 ≤ tt ∧ tt ≤ 8192 ∧ tt ≤ x.off + 1024 := by omega
      have HS4 := Lib.hid (fun W (hb : Below w.heap.size w W) => show W.cell? ⟨bk, bo + k * 4, none⟩ = some (.int .i64 x.off) ∧ W.cell? ⟨bk, bo + k * 4 + 2, none⟩ = some (.int .i64 x.addr) ∧ W.cell? ⟨bk, bo + k * 4 + 3, none⟩ = some (.int .i64 x.src) from by
        obtain ⟨_, _, he, e0, e1, e2, e3⟩ := HC.out W hb
        cases he
        rw [hx.out] at e0 e2 e3
        exact ⟨e0, e2, e3⟩)
      have hw1 : IntKind.i64.wrap (x.off + x.len) = x.off + x.len := IntWalk.i64_in _ (by omega)
      have hw2 : IntKind.i64.wrap E = E := IntWalk.i64_in _ (by omega)
      clear ob hst
      by_cases hs : tt ≤ fr
      · have HE2 := Lib.hid (show O ++ planL off E (l.drop (k + 1)) a = R from by rw [← HE.out, planL_skip (by rw [HFR.out, HTT.out]; exact hs)])
        go_wp2_with fail
        go_quiet (fail)
        go_wp2_with fail
        go_roundw
        case rel => exact ⟨k + 1, a, O, by go_num, rfl, by omega, a0, a1, by omega, HE2, Lib.hid (HO.out.below (below_drewN (Below.refl _ _) _)), Lib.hid (below_drewN HB.out _)⟩
        case measure => simp [intOf]; omega
      by_cases hh : a < fr
      · have HE2 := Lib.hid (show ((O ++ [⟨a, fr - a, -1, 0⟩]) ++ [⟨fr, tt - fr, x.addr, x.src + fr - x.off⟩]) ++ planL off E (l.drop (k + 1)) tt = R from by rw [← HE.out, planL_hole (by rw [HFR.out, HTT.out]; exact hs) (by rw [HFR.out]; exact hh), HFR.out, HTT.out]; simp)
        go_wp2_with fail
        go_quiet (fail)
        have HB2 := Lib.hid (below_drewN HB.out nq)
        have HO2 := Lib.hid (HO.out.below (below_drewN (Below.refl _ _) nq))
        generalize wr.drewN nq = W1 at *
        have hone := Lib.hid (PtB.row (show PtB (W1.alloc (.cells #[.int .i64 a, .int .i64 (fr - a), .int .i64 (-1), .int .i64 0] 31)) W1.heap.size ⟨a, fr - a, -1, 0⟩ from heap_alloc_new _ _))
        have HO3 := Lib.hid (HO2.out.below (blwA W1 (.cells #[.int .i64 a, .int .i64 (fr - a), .int .i64 (-1), .int .i64 0] 31)))
        have HB3 := Lib.hid (blwO (blwA W1 (.cells #[.int .i64 a, .int .i64 (fr - a), .int .i64 (-1), .int .i64 0] 31)) HB2.out)
        clear b0 b1 b2 b3
        go_wp2_with (refine wpList_app_rows par_rows (o := ⟨some 79, _, _, _, _, _⟩) rfl (.tmp 72) (.tmp 78) rfl (B := w.heap.size) (D := O) rfl HO3.out (ao := some ⟨W1.heap.size, 0, none⟩) (cap := 1) (l := [⟨a, fr - a, -1, 0⟩]) (m := 1) rfl rfl hone.out (fun e => by cases e) (Nat.le_refl _) (by simp; omega) HB3.out.size ?_; intro v4 w4 hI hg _; have HO4 := Lib.hid hI; have HB4 := Lib.hid (HB3.out.grown hg HB3.out.size (fun k e => (HO3.out.lt k e).1)); obtain ⟨ao4, cp4, hv4, _⟩ := OR.form par_rows hI; rw [show (O ++ [(⟨a, fr - a, -1, 0⟩ : Pt)]).length = O.length + 1 from by simp] at hv4; subst hv4; clear hI hg)
        have hs4 : IntKind.i64.wrap (tt - fr) = tt - fr := IntWalk.i64_in _ (by omega)
        have hs5 : IntKind.i64.wrap (x.src + fr) = x.src + fr := IntWalk.i64_in _ (by omega)
        have hs6 : IntKind.i64.wrap (x.src + fr - x.off) = x.src + fr - x.off := IntWalk.i64_in _ (by omega)
        have hone2 := Lib.hid (PtB.row (show PtB (w4.drew.alloc (.cells #[.int .i64 fr, .int .i64 (tt - fr), .int .i64 x.addr, .int .i64 (x.src + fr - x.off)] 31)) w4.drew.heap.size ⟨fr, tt - fr, x.addr, x.src + fr - x.off⟩ from heap_alloc_new _ _))
        have HO5 := Lib.hid (HO4.out.below (blwO (blwA w4.drew (.cells #[.int .i64 fr, .int .i64 (tt - fr), .int .i64 x.addr, .int .i64 (x.src + fr - x.off)] 31)) (Below.refl _ _).drew))
        have HB5 := Lib.hid (blwO (blwA w4.drew (.cells #[.int .i64 fr, .int .i64 (tt - fr), .int .i64 x.addr, .int .i64 (x.src + fr - x.off)] 31)) HB4.out.drew)
        have HOL := Lib.hid (show (O ++ [(⟨a, fr - a, -1, 0⟩ : Pt)]).length + [(⟨fr, tt - fr, x.addr, x.src + fr - x.off⟩ : Pt)].length ≤ 1000000 from by simp; omega)
        obtain ⟨s0, s2, s3⟩ := HS4.out _ HB4.out
        have HS0 := Lib.hid (HS4.out _ HB4.out.drew)
        go_region_held3 (fun W => W.cell? ⟨bk, bo + k * 4, none⟩ = some (.int .i64 x.off) ∧ W.cell? ⟨bk, bo + k * 4 + 2, none⟩ = some (.int .i64 x.addr) ∧ W.cell? ⟨bk, bo + k * 4 + 3, none⟩ = some (.int .i64 x.src))
          (first | exact HS0.out | exact HS4.out _ HB6.out | exact HS4.out _ HB5.out)
          (first | (refine step_app_rows par_rows rfl (.tmp 80) (.tmp 104) rfl (B := w.heap.size) (D := O ++ [(⟨a, fr - a, -1, 0⟩ : Pt)]) rfl HO5.out (ao := some ⟨w4.drew.heap.size, 0, none⟩) (cap := 1) (l := [⟨fr, tt - fr, x.addr, x.src + fr - x.off⟩]) (m := 1) rfl rfl hone2.out (fun e => by cases e) (Nat.le_refl _) HOL.out HB5.out.size ?_; intro v6 w6 hI hg _; have HO6 := Lib.hid hI; have HB6 := Lib.hid (HB5.out.grown hg HB5.out.size (fun k e => (HO5.out.lt k e).1)); clear hI hg))
        go_wp2_with fail
        go_roundw
        case rel => exact ⟨k + 1, tt, _, by go_num, rfl, by omega, tt1.1, tt1.2.1, by simp; omega, HE2, HO6, HB6⟩
        case measure => simp [intOf]; omega
      · have HE2 := Lib.hid (show (O ++ [⟨fr, tt - fr, x.addr, x.src + fr - x.off⟩]) ++ planL off E (l.drop (k + 1)) tt = R from by rw [← HE.out, planL_part (by rw [HFR.out, HTT.out]; exact hs) (by rw [HFR.out]; exact hh), HFR.out, HTT.out]; simp)
        go_wp2_with fail
        go_quiet (fail)
        have HB4 := Lib.hid (below_drewN HB.out nq)
        have HO4 := Lib.hid (HO.out.below (below_drewN (Below.refl _ _) nq))
        generalize wr.drewN nq = w4 at *
        clear b0 b1 b2 b3
        go_wp2_with fail
        have hs4 : IntKind.i64.wrap (tt - fr) = tt - fr := IntWalk.i64_in _ (by omega)
        have hs5 : IntKind.i64.wrap (x.src + fr) = x.src + fr := IntWalk.i64_in _ (by omega)
        have hs6 : IntKind.i64.wrap (x.src + fr - x.off) = x.src + fr - x.off := IntWalk.i64_in _ (by omega)
        have hone2 := Lib.hid (PtB.row (show PtB (w4.drew.alloc (.cells #[.int .i64 fr, .int .i64 (tt - fr), .int .i64 x.addr, .int .i64 (x.src + fr - x.off)] 31)) w4.drew.heap.size ⟨fr, tt - fr, x.addr, x.src + fr - x.off⟩ from heap_alloc_new _ _))
        have HO5 := Lib.hid (HO4.out.below (blwO (blwA w4.drew (.cells #[.int .i64 fr, .int .i64 (tt - fr), .int .i64 x.addr, .int .i64 (x.src + fr - x.off)] 31)) (Below.refl _ _).drew))
        have HB5 := Lib.hid (blwO (blwA w4.drew (.cells #[.int .i64 fr, .int .i64 (tt - fr), .int .i64 x.addr, .int .i64 (x.src + fr - x.off)] 31)) HB4.out.drew)
        have HOL := Lib.hid (show (O).length + [(⟨fr, tt - fr, x.addr, x.src + fr - x.off⟩ : Pt)].length ≤ 1000000 from by simp; omega)
        obtain ⟨s0, s2, s3⟩ := HS4.out _ HB4.out
        have HS0 := Lib.hid (HS4.out _ HB4.out.drew)
        go_region_held3 (fun W => W.cell? ⟨bk, bo + k * 4, none⟩ = some (.int .i64 x.off) ∧ W.cell? ⟨bk, bo + k * 4 + 2, none⟩ = some (.int .i64 x.addr) ∧ W.cell? ⟨bk, bo + k * 4 + 3, none⟩ = some (.int .i64 x.src))
          (first | exact HS0.out | exact HS4.out _ HB6.out | exact HS4.out _ HB5.out)
          (first | (refine step_app_rows par_rows rfl (.tmp 80) (.tmp 104) rfl (B := w.heap.size) (D := O) rfl HO5.out (ao := some ⟨w4.drew.heap.size, 0, none⟩) (cap := 1) (l := [⟨fr, tt - fr, x.addr, x.src + fr - x.off⟩]) (m := 1) rfl rfl hone2.out (fun e => by cases e) (Nat.le_refl _) HOL.out HB5.out.size ?_; intro v6 w6 hI hg _; have HO6 := Lib.hid hI; have HB6 := Lib.hid (HB5.out.grown hg HB5.out.size (fun k e => (HO5.out.lt k e).1)); clear hI hg))
        go_wp2_with fail
        go_roundw
        case rel => exact ⟨k + 1, tt, _, by go_num, rfl, by omega, tt1.1, tt1.2.1, by simp; omega, HE2, HO6, HB6⟩
        case measure => simp [intOf]; omega
    · obtain rfl : k = l.length := by omega
      rw [List.drop_length, planL_nil] at HE
      by_cases hh : a < E
      · rw [if_pos hh] at HE
        have hone := Lib.hid (PtB.row (show PtB (wr.alloc (.cells #[.int .i64 a, .int .i64 (E - a), .int .i64 (-1), .int .i64 0] 31)) wr.heap.size ⟨a, E - a, -1, 0⟩ from heap_alloc_new _ _))
        have HO3 := Lib.hid (HO.out.below (blwA wr (.cells #[.int .i64 a, .int .i64 (E - a), .int .i64 (-1), .int .i64 0] 31)))
        have HB3 := Lib.hid (blwO (blwA wr (.cells #[.int .i64 a, .int .i64 (E - a), .int .i64 (-1), .int .i64 0] 31)) HB.out)
        go_wp2_with (refine wpList_app_rows par_rows (o := ⟨some 121, _, _, _, _, _⟩) rfl (.tmp 112) (.tmp 120) rfl (B := w.heap.size) (D := O) rfl HO3.out (ao := some ⟨wr.heap.size, 0, none⟩) (cap := 1) (l := [⟨a, E - a, -1, 0⟩]) (m := 1) rfl rfl hone.out (fun e => by cases e) (Nat.le_refl _) (by simp; omega) HB3.out.size ?_; intro v4 w4 hI hg _; have HO4 := Lib.hid hI; have HB4 := Lib.hid (HB3.out.grown hg HB3.out.size (fun k e => (HO3.out.lt k e).1)); obtain ⟨ao4, cp4, hv4, _⟩ := OR.form par_rows hI; rw [show (O ++ [(⟨a, E - a, -1, 0⟩ : Pt)]).length = O.length + 1 from by simp] at hv4; subst hv4; clear hI hg)
        go_ret
        exact ⟨_, rfl, by rw [← HE.out]; exact HO4.out, HB4.out⟩
      · rw [if_neg hh, List.append_nil] at HE
        have hh2 : E ≤ a := by omega
        go_wp2_with fail
        go_ret
        exact ⟨_, rfl, by rw [← HE.out]; exact HO.out, HB.out⟩
end Go.Proofs.Ytjdhbpgipoifkaa
