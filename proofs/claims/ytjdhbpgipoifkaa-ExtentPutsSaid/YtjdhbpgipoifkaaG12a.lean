/- What the document's gather and few return. Conditions: the row tells bytes that are sound. -/
import Derived.Test.YtjdhbpgipoifkaaG11b
import Derived.Deep.RegionHeld3
set_option linter.unusedVariables false
namespace Go.Proofs.Ytjdhbpgipoifkaa
open Go.RowKit Go.Sort
set_option linter.unusedVariables false
set_option maxRecDepth 20000
theorem gat_succ (F : ByteF) (k : Nat) : gatE F (k + 1) = if (F k).1 < 0 then gatE F k else joinE (gatE F k) ⟨k, 1, (F k).1, (F k).2⟩ := rfl
theorem gat_len {F : ByteF} (k : Nat) : (gatE F k).length ≤ k := by
  induction k with
  | zero => exact Nat.le_refl _
  | succ k ih =>
    rw [gat_succ]
    split
    · omega
    · rcases List.eq_nil_or_concat (gatE F k) with e | ⟨m, y, e⟩
      · rw [e, joinE_nil]
        simp
      · rw [List.concat_eq_append] at e
        rw [e] at ih ⊢
        rw [joinE_snoc]
        split <;> (simp at ih ⊢; omega)
/-- the last part of a row of the call's own -/
theorem OPa.lastR {w : World} {B g cap N : Nat} {q : List Pt} {y : Pt} (h : OPa w B (.slice (some ⟨g, 0, none⟩) N cap) (q ++ [y])) (hN : (q ++ [y]).length = N) :
    (w.cell? ⟨g, q.length * 4, none⟩ = some (.int .i64 y.off) ∧ w.cell? ⟨g, q.length * 4 + 1, none⟩ = some (.int .i64 y.len) ∧ w.cell? ⟨g, q.length * 4 + 2, none⟩ = some (.int .i64 y.addr) ∧ w.cell? ⟨g, q.length * 4 + 3, none⟩ = some (.int .i64 y.src)) ∧ w.frozen? ⟨g, q.length * 4 + 1, none⟩ = false := by
  subst hN
  have hl : (q ++ [y]).length = q.length + 1 := by simp
  unfold OPa OR at h
  have hat : ∀ j, j < 4 → w.cell? ⟨g, q.length * 4 + j, none⟩ = (parC y)[j]? := fun j hj => by
    rw [h.cellAt _ (by rw [hl]; omega), par_rows.flat_at (q ++ [y]) q.length (by rw [hl]; omega) j hj]
    simp
  exact ⟨⟨hat 0 (by decide), hat 1 (by decide), hat 2 (by decide), hat 3 (by decide)⟩, h.frozenAt _⟩
theorem rfew_yes (ao : Option Addr) (cap : Nat) (l : List Pt) (w : World) (h : l.length ≤ 64) :
    Calls Try.prog 36 #[.slice ao l.length cap] w fun e w' => e = .returned (.tuple #[.slice ao l.length cap, .int .i64 0]) ∧ w = w' := by
  have h64 : (l.length : Int) ≤ 64 := by omega
  clear h
  go_enter Try.func36, Try.ntmps36
  go_wp2_with fail
  go_ret2
  exact ⟨rfl, rfl⟩
theorem rfew_no (ao : Option Addr) (cap : Nat) (l : List Pt) (w : World) (h : ¬ l.length ≤ 64) (h2 : l.length ≤ 8192) :
    Calls Try.prog 36 #[.slice ao l.length cap] w fun e w' => e = .returned (.tuple #[.slice none 0 0, .int .i64 3]) ∧ w = w' := by
  have h64 : (64 : Int) < (l.length : Int) := by omega
  have h65 : (l.length : Int) ≤ 8192 := by omega
  clear h h2
  go_enter Try.func36, Try.ntmps36
  go_wp2_with fail
  go_ret2
  exact ⟨rfl, rfl⟩
set_option maxRecDepth 200000 in
set_option maxHeartbeats 4000000 in
theorem rgather_any (g : Nat) (F : ByteF) (w : World) (h : WB w g F) (hs : soundF F 8192) :
    Calls Try.prog 34 #[.slice (some ⟨g, 0, none⟩) 8192 8192] w fun e w' => ∃ v, e = .returned v ∧ OPa w' w.heap.size v (gatE F 8192) ∧ Below w.heap.size w w' := by
  have HW := Lib.hid h
  have HS := Lib.hid hs
  have HSU := Lib.hid (gat_succ F)
  have HGL := Lib.hid (fun k => @gat_len F k)
  have HGA := Lib.hid (fun k (hk : k ≤ 8192) => gatE_all (b := F) (n := k) (fun i hi => hs i (by omega)) hk)
  have HN0 := Lib.hid (show gatE F 0 = [] from rfl)
  clear h hs
  go_enter Try.func34, Try.ntmps34
  go_wp2_with fail
  go_loopw [3, 4] (fun v i wr => ∃ k : Nat, i = .int .i64 k ∧ k ≤ 8192 ∧ Hid (OPa wr w.heap.size v (gatE F k)) ∧ Hid (Below w.heap.size w wr)) (fun _ i _ => 8192 - (intOf i).toNat)
  case atStart => exact ⟨0, rfl, by decide, Lib.hid (by rw [HN0.out]; exact OR.nil _ _), Lib.hid (Below.refl _ _)⟩
  case round =>
    obtain ⟨k, rfl, hk, HO, HB⟩ := hrel
    by_cases hlt : k < 8192
    · have k0 : (k : Int) < 8192 := by omega
      obtain ⟨⟨b0, b1⟩, _, _⟩ := (HW.out.below HB.out).at hlt
      have HSK := Lib.hid (HSU.out k)
      have hsk := HS.out k hlt
      have HGK := Lib.hid (HGA.out k hk)
      have hgl := HGL.out k
      obtain ⟨fa, hfa⟩ : ∃ fa, Hid ((F k).1 = fa) := ⟨_, Lib.hid rfl⟩
      obtain ⟨fs, hfs⟩ : ∃ fs, Hid ((F k).2 = fs) := ⟨_, Lib.hid rfl⟩
      rw [hfa.out] at b0 HSK hsk
      rw [hfs.out] at b1 HSK hsk
      generalize hL : gatE F k = L at *
      clear hL
      by_cases hneg : fa < 0
      · rw [if_pos hneg] at HSK
        obtain ⟨ao, cap, rfl, _⟩ := OR.form par_rows HO.out
        clear hsk
        go_wp2_with fail
        go_roundw
        case rel => exact ⟨k + 1, by go_num, by omega, Lib.hid (by rw [HSK.out]; exact HO.out), HB⟩
        case measure => simp [intOf]; omega
      rw [if_neg hneg] at HSK
      obtain ⟨s1, s2, s3⟩ := hsk.resolve_left hneg
      have hpos : 0 ≤ fa := by omega
      rcases List.eq_nil_or_concat L with rfl | ⟨q, y, hq⟩
      · obtain ⟨ao, cap, rfl, _⟩ := OR.form par_rows HO.out
        go_wp2_with fail
        go_quiet (fail)
        go_wp2_with fail
        have HB2 := Lib.hid (below_drewN HB.out nq)
        have HO2 := Lib.hid (HO.out.below (below_drewN (Below.refl _ _) nq))
        have HW2 := Lib.hid (HW.out.below HB2.out)
        have HCC := Lib.hid (fun W (hb : Below w.heap.size w W) => show W.cell? ⟨g, k * 2, none⟩ = some (.int .i64 fa) ∧ W.cell? ⟨g, k * 2 + 1, none⟩ = some (.int .i64 fs) from by have h := ((HW.out.below hb).at hlt).1; rw [hfa.out, hfs.out] at h; exact h)
        generalize wr.drewN nq = W1 at *
        clear b0 b1
        obtain ⟨⟨b0, b1⟩, _, _⟩ := HW2.out.at hlt
        rw [hfa.out] at b0
        rw [hfs.out] at b1
        have hone := Lib.hid (PtB.row (show PtB (W1.drew.alloc (.cells #[.int .i64 (k : Int), .int .i64 1, .int .i64 fa, .int .i64 fs] 31)) W1.drew.heap.size ⟨(k : Int), 1, fa, fs⟩ from heap_alloc_new _ _))
        have HO4 := Lib.hid (HO2.out.below (blwO (blwA W1.drew (.cells #[.int .i64 (k : Int), .int .i64 1, .int .i64 fa, .int .i64 fs] 31)) (Below.refl _ _).drew))
        have HB4 := Lib.hid (blwO (blwA W1.drew (.cells #[.int .i64 (k : Int), .int .i64 1, .int .i64 fa, .int .i64 fs] 31)) HB2.out.drew)
        go_region_held3 (fun W => W.cell? ⟨g, k * 2, none⟩ = some (.int .i64 fa) ∧ W.cell? ⟨g, k * 2 + 1, none⟩ = some (.int .i64 fs))
          (first | exact ⟨b0, b1⟩ | exact HCC.out _ HB5.out | exact HCC.out _ HB4.out)
          (first | (refine step_app_rows par_rows rfl (.tmp 83) (.tmp 96) rfl (B := w.heap.size) (D := []) rfl HO4.out (ao := some ⟨W1.drew.heap.size, 0, none⟩) (cap := 1) (l := [⟨(k : Int), 1, fa, fs⟩]) (m := 1) rfl rfl hone.out (fun e => by cases e) (Nat.le_refl _) (by simp) HB4.out.size ?_; intro v5 w5 hI hg _; have HO5 := Lib.hid hI; have HB5 := Lib.hid (HB4.out.grown hg HB4.out.size (fun k e => (HO4.out.lt k e).1)); clear hI hg))
        go_wp2_with fail
        go_roundw
        case rel => exact ⟨k + 1, by go_num, by omega, Lib.hid (by rw [HSK.out, joinE_nil]; exact HO5.out), HB5⟩
        case measure => simp [intOf]; omega
      · rw [List.concat_eq_append] at hq
        subst hq
        obtain ⟨ao, cap, hf, hR, hcap, _, hbl, _, hat2⟩ := OR.form par_rows HO.out
        subst hf
        obtain ⟨bk, off, rfl, _⟩ := hR q.length (by simp)
        obtain rfl : off = 0 := by have := hat2 _ rfl; simpa using this
        have hgB : w.heap.size ≤ bk := (hbl _ rfl).1
        obtain ⟨y1, y2, y3, y4, y5, y6, y7⟩ := oneB_iff.1 (rail_one HGK.out.rail y (by simp))
        obtain ⟨N, hN⟩ : ∃ N : Nat, Hid ((q ++ [y]).length = N) := ⟨_, Lib.hid rfl⟩
        have hNq : N = q.length + 1 := by rw [← hN.out]; simp
        have hNk : (N : Int) ≤ 8192 := by have := hgl; rw [hN.out] at this; omega
        have e10 : (N : Int) - 1 = (q.length : Int) := by omega
        have e11 : (q.length : Int) < (N : Int) := by omega
        have e12 : decide (0 < N) = true := decide_eq_true (by omega)
        have HJ := Lib.hid (joinE_snoc q y ⟨(k : Int), 1, fa, fs⟩)
        have hj : (y.stop = (k : Int) ∧ y.addr = fa ∧ y.src + y.len = fs) ↔ (y.off + y.len = (k : Int) ∧ y.addr = fa ∧ y.src + y.len = fs) := Iff.rfl
        have HJI := Lib.hid hj
        rw [hN.out] at HO ⊢
        obtain ⟨⟨d0, d1, d2, d3⟩, _⟩ := OPa.lastR HO.out hN.out
        clear hR hbl hat2 hNq hcap hj hgl
        by_cases h1 : y.off + y.len = (k : Int)
        · have q1 : (y.off + y.len == (k : Int)) = true := beq_iff_eq.2 h1
          by_cases h2 : y.addr = fa
          · have q2 : (y.addr == fa) = true := beq_iff_eq.2 h2
            by_cases h3 : y.src + y.len = fs
            · have q3 : (y.src + y.len == fs) = true := beq_iff_eq.2 h3
              have HJ2 := Lib.hid (show joinE (q ++ [y]) ⟨(k : Int), 1, fa, fs⟩ = q ++ [growP y] from by rw [HJ.out, if_pos (HJI.out.2 ⟨h1, h2, h3⟩)]; rfl)
              clear h1 h2 h3 HJ
              go_wp2_with fail
              go_quiet (fail)
              have HB2 := Lib.hid (below_drewN HB.out nq)
              have HO2 := Lib.hid (HO.out.below (below_drewN (Below.refl _ _) nq))
              generalize wr.drewN nq = W1 at *
              clear d0 d1 d2 d3 b0 b1
              obtain ⟨⟨d0, d1, d2, d3⟩, f1⟩ := OPa.lastR HO2.out hN.out
              have HO4 := Lib.hid (OPa.grow (by rw [← hN.out]; simp) HO2.out)
              have HB4 := Lib.hid (HB2.out.setCell (p := ⟨bk, q.length * 4 + 1, none⟩) hgB (.int .i64 (y.len + 1)))
              go_wp2_with fail
              go_roundw
              case rel => exact ⟨k + 1, by go_num, by omega, Lib.hid (by rw [HSK.out, HJ2.out]; exact HO4.out), HB4⟩
              case measure => simp [intOf]; omega
            · have q3 : (y.src + y.len == fs) = false := beq_eq_false_iff_ne.2 h3
              have HJ2 := Lib.hid (show joinE (q ++ [y]) ⟨(k : Int), 1, fa, fs⟩ = (q ++ [y]) ++ [⟨(k : Int), 1, fa, fs⟩] from by rw [HJ.out, if_neg (fun c => h3 (HJI.out.1 c).2.2)])
              clear h1 h2 h3 HJ
              go_wp2_with fail
              go_quiet (fail)
              clear d0 d1 d2 d3
              go_wp2_with fail
              have HB2 := Lib.hid (below_drewN HB.out nq)
              have HO2 := Lib.hid (HO.out.below (below_drewN (Below.refl _ _) nq))
              have HW2 := Lib.hid (HW.out.below HB2.out)
              have HCC := Lib.hid (fun W (hb : Below w.heap.size w W) => show W.cell? ⟨g, k * 2, none⟩ = some (.int .i64 fa) ∧ W.cell? ⟨g, k * 2 + 1, none⟩ = some (.int .i64 fs) from by have h := ((HW.out.below hb).at hlt).1; rw [hfa.out, hfs.out] at h; exact h)
              generalize wr.drewN nq = W1 at *
              clear b0 b1
              obtain ⟨⟨b0, b1⟩, _, _⟩ := HW2.out.at hlt
              rw [hfa.out] at b0
              rw [hfs.out] at b1
              have hone := Lib.hid (PtB.row (show PtB (W1.drew.alloc (.cells #[.int .i64 (k : Int), .int .i64 1, .int .i64 fa, .int .i64 fs] 31)) W1.drew.heap.size ⟨(k : Int), 1, fa, fs⟩ from heap_alloc_new _ _))
              have HO4 := Lib.hid (HO2.out.below (blwO (blwA W1.drew (.cells #[.int .i64 (k : Int), .int .i64 1, .int .i64 fa, .int .i64 fs] 31)) (Below.refl _ _).drew))
              have HB4 := Lib.hid (blwO (blwA W1.drew (.cells #[.int .i64 (k : Int), .int .i64 1, .int .i64 fa, .int .i64 fs] 31)) HB2.out.drew)
              go_region_held3 (fun W => W.cell? ⟨g, k * 2, none⟩ = some (.int .i64 fa) ∧ W.cell? ⟨g, k * 2 + 1, none⟩ = some (.int .i64 fs))
                (first | exact ⟨b0, b1⟩ | exact HCC.out _ HB5.out | exact HCC.out _ HB4.out)
                (first | (refine step_app_rows par_rows rfl (.tmp 83) (.tmp 96) rfl (B := w.heap.size) (D := q ++ [y]) rfl HO4.out (ao := some ⟨W1.drew.heap.size, 0, none⟩) (cap := 1) (l := [⟨(k : Int), 1, fa, fs⟩]) (m := 1) rfl rfl hone.out (fun e => by cases e) (Nat.le_refl _) (by rw [hN.out]; show N + 1 ≤ 1000000; omega) HB4.out.size ?_; intro v5 w5 hI hg _; have HO5 := Lib.hid hI; have HB5 := Lib.hid (HB4.out.grown hg HB4.out.size (fun k e => (HO4.out.lt k e).1)); clear hI hg))
              go_wp2_with fail
              go_roundw
              case rel => exact ⟨k + 1, by go_num, by omega, Lib.hid (by rw [HSK.out, HJ2.out]; exact HO5.out), HB5⟩
              case measure => simp [intOf]; omega
          · have q2 : (y.addr == fa) = false := beq_eq_false_iff_ne.2 h2
            have HJ2 := Lib.hid (show joinE (q ++ [y]) ⟨(k : Int), 1, fa, fs⟩ = (q ++ [y]) ++ [⟨(k : Int), 1, fa, fs⟩] from by rw [HJ.out, if_neg (fun c => h2 (HJI.out.1 c).2.1)])
            clear h1 h2 HJ
            go_wp2_with fail
            go_quiet (fail)
            clear d0 d1 d2 d3
            go_wp2_with fail
            have HB2 := Lib.hid (below_drewN HB.out nq)
            have HO2 := Lib.hid (HO.out.below (below_drewN (Below.refl _ _) nq))
            have HW2 := Lib.hid (HW.out.below HB2.out)
            have HCC := Lib.hid (fun W (hb : Below w.heap.size w W) => show W.cell? ⟨g, k * 2, none⟩ = some (.int .i64 fa) ∧ W.cell? ⟨g, k * 2 + 1, none⟩ = some (.int .i64 fs) from by have h := ((HW.out.below hb).at hlt).1; rw [hfa.out, hfs.out] at h; exact h)
            generalize wr.drewN nq = W1 at *
            clear b0 b1
            obtain ⟨⟨b0, b1⟩, _, _⟩ := HW2.out.at hlt
            rw [hfa.out] at b0
            rw [hfs.out] at b1
            have hone := Lib.hid (PtB.row (show PtB (W1.drew.alloc (.cells #[.int .i64 (k : Int), .int .i64 1, .int .i64 fa, .int .i64 fs] 31)) W1.drew.heap.size ⟨(k : Int), 1, fa, fs⟩ from heap_alloc_new _ _))
            have HO4 := Lib.hid (HO2.out.below (blwO (blwA W1.drew (.cells #[.int .i64 (k : Int), .int .i64 1, .int .i64 fa, .int .i64 fs] 31)) (Below.refl _ _).drew))
            have HB4 := Lib.hid (blwO (blwA W1.drew (.cells #[.int .i64 (k : Int), .int .i64 1, .int .i64 fa, .int .i64 fs] 31)) HB2.out.drew)
            go_region_held3 (fun W => W.cell? ⟨g, k * 2, none⟩ = some (.int .i64 fa) ∧ W.cell? ⟨g, k * 2 + 1, none⟩ = some (.int .i64 fs))
              (first | exact ⟨b0, b1⟩ | exact HCC.out _ HB5.out | exact HCC.out _ HB4.out)
              (first | (refine step_app_rows par_rows rfl (.tmp 83) (.tmp 96) rfl (B := w.heap.size) (D := q ++ [y]) rfl HO4.out (ao := some ⟨W1.drew.heap.size, 0, none⟩) (cap := 1) (l := [⟨(k : Int), 1, fa, fs⟩]) (m := 1) rfl rfl hone.out (fun e => by cases e) (Nat.le_refl _) (by rw [hN.out]; show N + 1 ≤ 1000000; omega) HB4.out.size ?_; intro v5 w5 hI hg _; have HO5 := Lib.hid hI; have HB5 := Lib.hid (HB4.out.grown hg HB4.out.size (fun k e => (HO4.out.lt k e).1)); clear hI hg))
            go_wp2_with fail
            go_roundw
            case rel => exact ⟨k + 1, by go_num, by omega, Lib.hid (by rw [HSK.out, HJ2.out]; exact HO5.out), HB5⟩
            case measure => simp [intOf]; omega
        · have q1 : (y.off + y.len == (k : Int)) = false := beq_eq_false_iff_ne.2 h1
          have HJ2 := Lib.hid (show joinE (q ++ [y]) ⟨(k : Int), 1, fa, fs⟩ = (q ++ [y]) ++ [⟨(k : Int), 1, fa, fs⟩] from by rw [HJ.out, if_neg (fun c => h1 (HJI.out.1 c).1)])
          clear h1 HJ
          go_wp2_with fail
          go_quiet (fail)
          clear d0 d1 d2 d3
          go_wp2_with fail
          have HB2 := Lib.hid (below_drewN HB.out nq)
          have HO2 := Lib.hid (HO.out.below (below_drewN (Below.refl _ _) nq))
          have HW2 := Lib.hid (HW.out.below HB2.out)
          have HCC := Lib.hid (fun W (hb : Below w.heap.size w W) => show W.cell? ⟨g, k * 2, none⟩ = some (.int .i64 fa) ∧ W.cell? ⟨g, k * 2 + 1, none⟩ = some (.int .i64 fs) from by have h := ((HW.out.below hb).at hlt).1; rw [hfa.out, hfs.out] at h; exact h)
          generalize wr.drewN nq = W1 at *
          clear b0 b1
          obtain ⟨⟨b0, b1⟩, _, _⟩ := HW2.out.at hlt
          rw [hfa.out] at b0
          rw [hfs.out] at b1
          have hone := Lib.hid (PtB.row (show PtB (W1.drew.alloc (.cells #[.int .i64 (k : Int), .int .i64 1, .int .i64 fa, .int .i64 fs] 31)) W1.drew.heap.size ⟨(k : Int), 1, fa, fs⟩ from heap_alloc_new _ _))
          have HO4 := Lib.hid (HO2.out.below (blwO (blwA W1.drew (.cells #[.int .i64 (k : Int), .int .i64 1, .int .i64 fa, .int .i64 fs] 31)) (Below.refl _ _).drew))
          have HB4 := Lib.hid (blwO (blwA W1.drew (.cells #[.int .i64 (k : Int), .int .i64 1, .int .i64 fa, .int .i64 fs] 31)) HB2.out.drew)
          go_region_held3 (fun W => W.cell? ⟨g, k * 2, none⟩ = some (.int .i64 fa) ∧ W.cell? ⟨g, k * 2 + 1, none⟩ = some (.int .i64 fs))
            (first | exact ⟨b0, b1⟩ | exact HCC.out _ HB5.out | exact HCC.out _ HB4.out)
            (first | (refine step_app_rows par_rows rfl (.tmp 83) (.tmp 96) rfl (B := w.heap.size) (D := q ++ [y]) rfl HO4.out (ao := some ⟨W1.drew.heap.size, 0, none⟩) (cap := 1) (l := [⟨(k : Int), 1, fa, fs⟩]) (m := 1) rfl rfl hone.out (fun e => by cases e) (Nat.le_refl _) (by rw [hN.out]; show N + 1 ≤ 1000000; omega) HB4.out.size ?_; intro v5 w5 hI hg _; have HO5 := Lib.hid hI; have HB5 := Lib.hid (HB4.out.grown hg HB4.out.size (fun k e => (HO4.out.lt k e).1)); clear hI hg))
          go_wp2_with fail
          go_roundw
          case rel => exact ⟨k + 1, by go_num, by omega, Lib.hid (by rw [HSK.out, HJ2.out]; exact HO5.out), HB5⟩
          case measure => simp [intOf]; omega
    · have k0 : ¬ (k : Int) < 8192 := by omega
      have hk8 : k = 8192 := by omega
      rw [hk8] at HO
      obtain ⟨ao, cap, hf, _⟩ := OR.form par_rows HO.out
      subst hf
      clear hk8 hk hlt
      go_wp2_with fail
      go_ret
      exact ⟨_, rfl, HO.out, HB.out⟩
end Go.Proofs.Ytjdhbpgipoifkaa
