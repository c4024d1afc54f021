/- What the program's own pieces returns. Conditions: the map tells bytes that are sound; the stretch is within a file. -/
import Derived.Test.YtfkgeefoknaldaaG12a
set_option linter.unusedVariables false
namespace Go.Proofs.Ytfkgeefoknaldaa
open Go.RowKit Go.Sort
set_option linter.unusedVariables false
set_option maxRecDepth 20000
/-- the last part of a row of the call's own -/
theorem OPa.last {w : World} {B g cap N : Nat} {q : List Pt} {y : Pt} (h : OPa w B (.slice (some ⟨g, 0, none⟩) N cap) (q ++ [y])) (hN : (q ++ [y]).length = N) :
    (w.cell? ⟨g, q.length * 4, none⟩ = some (.int .i64 y.off) ∧ w.cell? ⟨g, q.length * 4 + 1, none⟩ = some (.int .i64 y.len) ∧ w.cell? ⟨g, q.length * 4 + 2, none⟩ = some (.int .i64 y.addr) ∧ w.cell? ⟨g, q.length * 4 + 3, none⟩ = some (.int .i64 y.src)) ∧ w.frozen? ⟨g, q.length * 4 + 1, none⟩ = false := by
  subst hN
  have hl : (q ++ [y]).length = q.length + 1 := by simp
  unfold OPa OR at h
  have hat : ∀ j, j < 4 → w.cell? ⟨g, q.length * 4 + j, none⟩ = (parC y)[j]? := fun j hj => by
    rw [h.cellAt _ (by rw [hl]; omega), par_rows.flat_at (q ++ [y]) q.length (by rw [hl]; omega) j hj]
    simp
  exact ⟨⟨hat 0 (by decide), hat 1 (by decide), hat 2 (by decide), hat 3 (by decide)⟩, h.frozenAt _⟩
set_option maxHeartbeats 4000000 in
theorem epieces_any (w : World) (b n : Nat) (g : MapF) (o : Nat) (e : Int) (m : Nat) (hm : m = (e - o).toNat) (hom : o + m ≤ 8192) (he : -9223372036854775808 ≤ e) (hg : soundG g) (h : FE w b n g) :
    Calls Try.prog 79 #[.map (some b), .int .i64 o, .int .i64 e] w fun x w' => ∃ v, x = .returned v ∧ OPa w' w.heap.size v (pcsE (bytG g) o m) ∧ Below w.heap.size w w' := by
  have CP := Lib.hid (fun (W : World) (hW : Below w.heap.size w W) (i : Nat) (hi : i ≤ 100000) => epiece_any W b n g i hi (h.below hW))
  have HMID := Lib.hid (fun k (hk : o + k ≤ 8192) => pcs_mid (n := k) hg hk)
  have HPC := Lib.hid (fun i (hi : i < 8192) => pc_mid (i := i) hg hi)
  have HSU := Lib.hid (fun k => pcs_succ (bytG g) o k)
  have HN0 := Lib.hid (show pcsE (bytG g) o 0 = [] from rfl)
  have ho : (o : Int) ≤ 8192 := by omega
  clear h hg
  generalize bytG g = B at *
  go_enter Try.func79, Try.ntmps79
  go_wp2_with fail
  go_loopw [7, 8] (fun v i wr => ∃ k : Nat, i = .int .i64 ((o + k : Nat) : Int) ∧ k ≤ m ∧ Hid (OPa wr w.heap.size v (pcsE B o k)) ∧ Hid (Below w.heap.size w wr)) (fun _ i _ => o + m - (intOf i).toNat)
  case atStart => exact ⟨0, rfl, Nat.zero_le _, Lib.hid (by rw [HN0.out]; exact OR.nil _ _), Lib.hid (Below.refl _ _)⟩
  case round =>
    obtain ⟨k, rfl, hk, HO, HB⟩ := hrel
    by_cases hlt : k < m
    · have k0 : ((o + k : Nat) : Int) < e := by omega
      have k1 : ((o + k : Nat) : Int) < 8192 := by omega
      have CQ := Lib.hid (CP.out wr HB.out (o + k) (by omega))
      have HX := Lib.hid (HPC.out (o + k) (by omega))
      have HS := Lib.hid (HSU.out k)
      have HM := Lib.hid (HMID.out k (by omega))
      obtain ⟨at_, hat⟩ : ∃ at_ : Nat, Hid (o + k = at_) := ⟨_, Lib.hid rfl⟩
      rw [hat.out] at k0 k1 CQ HX HS ⊢
      generalize pcE B at_ = x at *
      generalize hL : pcsE B o k = L at *
      have HL := Lib.hid hL
      clear hL
      rcases List.eq_nil_or_concat L with rfl | ⟨q, y, hq⟩
      · obtain ⟨ao, cap, rfl, _⟩ := OR.form par_rows HO.out
        go_wp2_with (go_at_call 85; refine CQ.out.mono ?_; rintro e w1 ⟨rfl, hb1⟩; have HB1 := Lib.hid (blwO hb1 HB.out); have HO1 := Lib.hid (HO.out.below hb1); clear hb1)
        have HX1 := Lib.hid (show PtB (w1.alloc (.cells #[.int .i64 x.off, .int .i64 x.len, .int .i64 x.addr, .int .i64 x.src] 52)) w1.heap.size x from heap_alloc_new _ _)
        have HB2 := Lib.hid (blwO (blwA w1 (.cells #[.int .i64 x.off, .int .i64 x.len, .int .i64 x.addr, .int .i64 x.src] 52)) HB1.out)
        have HO2 := Lib.hid (HO1.out.below (blwA w1 (.cells #[.int .i64 x.off, .int .i64 x.len, .int .i64 x.addr, .int .i64 x.src] 52)))
        generalize w1.alloc _ = W1 at *
        refine wp_region_quiet_below (by kernel_rfl) (by kernel_rfl) ?_
        repeat (go_big_quiet_step (fail))
        refine wpQuiet_nil ?_
        intro _ hw'
        obtain ⟨⟨dq, osq⟩, hw''⟩ := hw'
        subst hw''
        have HX3 := Lib.hid (HX1.out.below (below_regrown W1 dq osq))
        have HB3 := Lib.hid (blwO (below_regrown W1 dq osq) HB2.out)
        have HO3 := Lib.hid (HO2.out.below (below_regrown W1 dq osq))
        generalize grow _ _ = W2 at *
        obtain ⟨x0, x1, x2, x3⟩ := HX3.out.cells
        have hone := Lib.hid (PtB.row (show PtB (W2.alloc (.cells #[.int .i64 x.off, .int .i64 x.len, .int .i64 x.addr, .int .i64 x.src] 52)) W2.heap.size x from heap_alloc_new _ _))
        have HO4 := Lib.hid (HO3.out.below (blwA W2 (.cells #[.int .i64 x.off, .int .i64 x.len, .int .i64 x.addr, .int .i64 x.src] 52)))
        have HB4 := Lib.hid (blwO (blwA W2 (.cells #[.int .i64 x.off, .int .i64 x.len, .int .i64 x.addr, .int .i64 x.src] 52)) HB3.out)
        go_wp2_with (refine wpList_app_rows par_rows (o := ⟨some 44, _, _, _, _, _⟩) rfl (.tmp 41) (.tmp 43) rfl (B := w.heap.size) (D := []) rfl HO4.out (ao := some ⟨W2.heap.size, 0, none⟩) (cap := 1) (l := [x]) (m := 1) rfl rfl hone.out (fun e => by cases e) (Nat.le_refl _) (by simp) HB4.out.size ?_; intro v5 w5 hI hg _; have HO5 := Lib.hid hI; have HB5 := Lib.hid (HB4.out.grown hg HB4.out.size (fun k e => (HO4.out.lt k e).1)); clear hI hg)
        go_roundw
        case rel => exact ⟨k + 1, by rw [← hat.out]; go_num, by omega, Lib.hid (by rw [HS.out]; exact HO5.out), HB5⟩
        case measure => have := hat.out; simp [intOf]; omega
      · rw [List.concat_eq_append] at hq
        subst hq
        obtain ⟨ao, cap, hf, hR, hcap, _, hbl, _, hat2⟩ := OR.form par_rows HO.out
        subst hf
        obtain ⟨bk, off, rfl, _⟩ := hR q.length (by simp)
        obtain ⟨rfl, _⟩ : off = 0 ∧ True := ⟨by have := hat2 _ rfl; simpa using this, trivial⟩
        have hgB : w.heap.size ≤ bk := (hbl _ rfl).1
        have hyM := HM.out.2 y (by simp)
        have CG := Lib.hid (quiet_on (fun W => egoes_any y x hyM W))
        obtain ⟨N, hN⟩ : ∃ N : Nat, Hid ((q ++ [y]).length = N) := ⟨_, Lib.hid rfl⟩
        have hNq : N = q.length + 1 := by rw [← hN.out]; simp
        have hNk : (N : Int) ≤ 8192 := by have := HM.out.1; rw [hN.out] at this; omega
        have e10 : (N : Int) - 1 = (q.length : Int) := by omega
        have e11 : (q.length : Int) < (N : Int) := by omega
        rw [hN.out] at HO hcap ⊢
        clear hR hbl hat2 hNq hcap
        have HJ := Lib.hid (joinP_snoc q y x)
        obtain ⟨_, ⟨y3, y4⟩, _, _⟩ := hyM
        cases hgo : goesB y x
        · rw [hgo] at CG HJ
          clear hgo
          go_wp2_with (go_at_call 85; refine CQ.out.mono ?_; rintro e w1 ⟨rfl, hb1⟩; have HB1 := Lib.hid (blwO hb1 HB.out); have HO1 := Lib.hid (HO.out.below hb1); clear hb1)
          have HX1 := Lib.hid (show PtB (w1.alloc (.cells #[.int .i64 x.off, .int .i64 x.len, .int .i64 x.addr, .int .i64 x.src] 52)) w1.heap.size x from heap_alloc_new _ _)
          have HB2 := Lib.hid (blwO (blwA w1 (.cells #[.int .i64 x.off, .int .i64 x.len, .int .i64 x.addr, .int .i64 x.src] 52)) HB1.out)
          have HO2 := Lib.hid (HO1.out.below (blwA w1 (.cells #[.int .i64 x.off, .int .i64 x.len, .int .i64 x.addr, .int .i64 x.src] 52)))
          generalize w1.alloc _ = W1 at *
          obtain ⟨⟨b0, b1, b2, b3⟩, _⟩ := OPa.last HO2.out hN.out
          obtain ⟨x0, x1, x2, x3⟩ := HX1.out.quiet
          have q0 := cell_regrown b0
          have q1 := cell_regrown b1
          have q2 := cell_regrown b2
          have q3 := cell_regrown b3
          refine wp_region_quiet_below (by kernel_rfl) (by kernel_rfl) ?_
          repeat (go_big_quiet_step (with_reducible exact CG.out _ _ _))
          refine wpQuiet_nil ?_
          intro _ hw'
          obtain ⟨⟨dq, osq⟩, hw''⟩ := hw'
          subst hw''
          have HX3 := Lib.hid (HX1.out.below (below_regrown W1 dq osq))
          have HB3 := Lib.hid (blwO (below_regrown W1 dq osq) HB2.out)
          have HO3 := Lib.hid (HO2.out.below (below_regrown W1 dq osq))
          clear b0 b1 b2 b3 q0 q1 q2 q3 x0 x1 x2 x3
          generalize grow _ _ = W2 at *
          obtain ⟨x0, x1, x2, x3⟩ := HX3.out.cells
          have hone := Lib.hid (PtB.row (show PtB (W2.alloc (.cells #[.int .i64 x.off, .int .i64 x.len, .int .i64 x.addr, .int .i64 x.src] 52)) W2.heap.size x from heap_alloc_new _ _))
          have HO4 := Lib.hid (HO3.out.below (blwA W2 (.cells #[.int .i64 x.off, .int .i64 x.len, .int .i64 x.addr, .int .i64 x.src] 52)))
          have HB4 := Lib.hid (blwO (blwA W2 (.cells #[.int .i64 x.off, .int .i64 x.len, .int .i64 x.addr, .int .i64 x.src] 52)) HB3.out)
          go_wp2_with (refine wpList_app_rows par_rows (o := ⟨some 44, _, _, _, _, _⟩) rfl (.tmp 41) (.tmp 43) rfl (B := w.heap.size) (D := q ++ [y]) rfl HO4.out (ao := some ⟨W2.heap.size, 0, none⟩) (cap := 1) (l := [x]) (m := 1) rfl rfl hone.out (fun e => by cases e) (Nat.le_refl _) (by rw [hN.out]; show N + 1 ≤ 1000000; omega) HB4.out.size ?_; intro v5 w5 hI hg _; have HO5 := Lib.hid hI; have HB5 := Lib.hid (HB4.out.grown hg HB4.out.size (fun k e => (HO4.out.lt k e).1)); clear hI hg)
          go_roundw
          case rel => exact ⟨k + 1, by rw [← hat.out]; go_num, by omega, Lib.hid (by rw [HS.out, HJ.out, if_neg (by decide)]; exact HO5.out), HB5⟩
          case measure => have := hat.out; simp [intOf]; omega
        · rw [hgo] at CG HJ
          clear hgo
          go_wp2_with (go_at_call 85; refine CQ.out.mono ?_; rintro e w1 ⟨rfl, hb1⟩; have HB1 := Lib.hid (blwO hb1 HB.out); have HO1 := Lib.hid (HO.out.below hb1); clear hb1)
          have HX1 := Lib.hid (show PtB (w1.alloc (.cells #[.int .i64 x.off, .int .i64 x.len, .int .i64 x.addr, .int .i64 x.src] 52)) w1.heap.size x from heap_alloc_new _ _)
          have HB2 := Lib.hid (blwO (blwA w1 (.cells #[.int .i64 x.off, .int .i64 x.len, .int .i64 x.addr, .int .i64 x.src] 52)) HB1.out)
          have HO2 := Lib.hid (HO1.out.below (blwA w1 (.cells #[.int .i64 x.off, .int .i64 x.len, .int .i64 x.addr, .int .i64 x.src] 52)))
          generalize w1.alloc _ = W1 at *
          obtain ⟨⟨b0, b1, b2, b3⟩, _⟩ := OPa.last HO2.out hN.out
          obtain ⟨x0, x1, x2, x3⟩ := HX1.out.quiet
          have q0 := cell_regrown b0
          have q1 := cell_regrown b1
          have q2 := cell_regrown b2
          have q3 := cell_regrown b3
          refine wp_region_quiet_below (by kernel_rfl) (by kernel_rfl) ?_
          repeat (go_big_quiet_step (with_reducible exact CG.out _ _ _))
          refine wpQuiet_nil ?_
          intro _ hw'
          obtain ⟨⟨dq, osq⟩, hw''⟩ := hw'
          subst hw''
          have HX3 := Lib.hid (HX1.out.below (below_regrown W1 dq osq))
          have HB3 := Lib.hid (blwO (below_regrown W1 dq osq) HB2.out)
          have HO3 := Lib.hid (HO2.out.below (below_regrown W1 dq osq))
          clear b0 b1 b2 b3 q0 q1 q2 q3 x0 x1 x2 x3
          generalize grow _ _ = W2 at *
          obtain ⟨⟨b0, b1, b2, b3⟩, f1⟩ := OPa.last HO3.out hN.out
          have HO4 := Lib.hid (OPa.grow (by rw [← hN.out]; simp) HO3.out)
          have HB4 := Lib.hid (HB3.out.setCell (p := ⟨bk, q.length * 4 + 1, none⟩) hgB (.int .i64 (y.len + 1)))
          go_wp2_with fail
          go_roundw
          case rel => exact ⟨k + 1, by rw [← hat.out]; go_num, by omega, Lib.hid (by rw [HS.out, HJ.out, if_pos trivial]; exact HO4.out), HB4⟩
          case measure => have := hat.out; simp [intOf]; omega
    · obtain rfl : k = m := by omega
      have k0 : e ≤ ((o + k : Nat) : Int) := by omega
      go_wp2_with fail
      go_ret
      exact ⟨_, rfl, HO.out, HB.out⟩
end Go.Proofs.Ytfkgeefoknaldaa
