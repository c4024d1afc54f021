/- What the document's gather and few return. Conditions: the row tells bytes that are sound. Bytes of a file as the program keeps them: a map whose keys are places, whose elements are an address and a place in its data; what such a map tells; what the program's own piece returns. Conditions: numbers of 64 bits. -/
import Derived.Test.YtfkgeefoknaldaaG11a
import Derived.Deep.RegionHeld3
import Derived.Test.YtfkgeefoknaldaaG03a
import Derived.Test.YtfkgeefoknaldaaG04a
import Derived.Laws.ResultCell
set_option linter.unusedVariables false
namespace Go.Proofs.Ytfkgeefoknaldaa
open Go.RowKit Go.Sort
set_option linter.unusedVariables false
set_option maxRecDepth 20000
theorem gat_succ (F : ByteF) (k : Nat) : gatE F (k + 1) = if (F k).1 < 0 then gatE F k else joinE (gatE F k) ⟨k, 1, (F k).1, (F k).2⟩ := rfl
theorem gat_len {F : ByteF} (k : Nat) : (gatE F k).length ≤ k := by
  induction k with
  | zero => exact Nat.le_refl _
  | succ k ih =>
    rw [gat_succ]
    split
    · omega
    · rcases List.eq_nil_or_concat (gatE F k) with e | ⟨m, y, e⟩
      · rw [e, joinE_nil]
        simp
      · rw [List.concat_eq_append] at e
        rw [e] at ih ⊢
        rw [joinE_snoc]
        split <;> (simp at ih ⊢; omega)
/-- the last part of a row of the call's own -/
theorem OPa.lastR {w : World} {B g cap N : Nat} {q : List Pt} {y : Pt} (h : OPa w B (.slice (some ⟨g, 0, none⟩) N cap) (q ++ [y])) (hN : (q ++ [y]).length = N) :
    (w.cell? ⟨g, q.length * 4, none⟩ = some (.int .i64 y.off) ∧ w.cell? ⟨g, q.length * 4 + 1, none⟩ = some (.int .i64 y.len) ∧ w.cell? ⟨g, q.length * 4 + 2, none⟩ = some (.int .i64 y.addr) ∧ w.cell? ⟨g, q.length * 4 + 3, none⟩ = some (.int .i64 y.src)) ∧ w.frozen? ⟨g, q.length * 4 + 1, none⟩ = false := by
  subst hN
  have hl : (q ++ [y]).length = q.length + 1 := by simp
  unfold OPa OR at h
  have hat : ∀ j, j < 4 → w.cell? ⟨g, q.length * 4 + j, none⟩ = (parC y)[j]? := fun j hj => by
    rw [h.cellAt _ (by rw [hl]; omega), par_rows.flat_at (q ++ [y]) q.length (by rw [hl]; omega) j hj]
    simp
  exact ⟨⟨hat 0 (by decide), hat 1 (by decide), hat 2 (by decide), hat 3 (by decide)⟩, h.frozenAt _⟩
theorem rfew_yes (ao : Option Addr) (cap : Nat) (l : List Pt) (w : World) (h : l.length ≤ 64) :
    Calls Try.prog 73 #[.slice ao l.length cap] w fun e w' => e = .returned (.tuple #[.slice ao l.length cap, .int .i64 0]) ∧ w = w' := by
  have h64 : (l.length : Int) ≤ 64 := by omega
  clear h
  go_enter Try.func73, Try.ntmps73
  go_wp2_with fail
  go_ret2
  exact ⟨rfl, rfl⟩
theorem rfew_no (ao : Option Addr) (cap : Nat) (l : List Pt) (w : World) (h : ¬ l.length ≤ 64) (h2 : l.length ≤ 8192) :
    Calls Try.prog 73 #[.slice ao l.length cap] w fun e w' => e = .returned (.tuple #[.slice none 0 0, .int .i64 3]) ∧ w = w' := by
  have h64 : (64 : Int) < (l.length : Int) := by omega
  have h65 : (l.length : Int) ≤ 8192 := by omega
  clear h h2
  go_enter Try.func73, Try.ntmps73
  go_wp2_with fail
  go_ret2
  exact ⟨rfl, rfl⟩
set_option maxRecDepth 200000 in
set_option maxHeartbeats 4000000 in
theorem rgather_any (g : Nat) (F : ByteF) (w : World) (h : WB w g F) (hs : soundF F 8192) :
    Calls Try.prog 74 #[.slice (some ⟨g, 0, none⟩) 8192 8192] w fun e w' => ∃ v, e = .returned v ∧ OPa w' w.heap.size v (gatE F 8192) ∧ Below w.heap.size w w' := by
  have HW := Lib.hid h
  have HS := Lib.hid hs
  have HSU := Lib.hid (gat_succ F)
  have HGL := Lib.hid (fun k => @gat_len F k)
  have HGA := Lib.hid (fun k (hk : k ≤ 8192) => gatE_all (b := F) (n := k) (fun i hi => hs i (by omega)) hk)
  have HN0 := Lib.hid (show gatE F 0 = [] from rfl)
  clear h hs
  go_enter Try.func74, Try.ntmps74
  go_wp2_with fail
  go_loopw [3, 4] (fun v i wr => ∃ k : Nat, i = .int .i64 k ∧ k ≤ 8192 ∧ Hid (OPa wr w.heap.size v (gatE F k)) ∧ Hid (Below w.heap.size w wr)) (fun _ i _ => 8192 - (intOf i).toNat)
  case atStart => exact ⟨0, rfl, by decide, Lib.hid (by rw [HN0.out]; exact OR.nil _ _), Lib.hid (Below.refl _ _)⟩
  case round =>
    obtain ⟨k, rfl, hk, HO, HB⟩ := hrel
    by_cases hlt : k < 8192
    · have k0 : (k : Int) < 8192 := by omega
      obtain ⟨⟨b0, b1⟩, _, _⟩ := (HW.out.below HB.out).at hlt
      have HSK := Lib.hid (HSU.out k)
      have hsk := HS.out k hlt
      have HGK := Lib.hid (HGA.out k hk)
      have hgl := HGL.out k
      obtain ⟨fa, hfa⟩ : ∃ fa, Hid ((F k).1 = fa) := ⟨_, Lib.hid rfl⟩
      obtain ⟨fs, hfs⟩ : ∃ fs, Hid ((F k).2 = fs) := ⟨_, Lib.hid rfl⟩
      rw [hfa.out] at b0 HSK hsk
      rw [hfs.out] at b1 HSK hsk
      generalize hL : gatE F k = L at *
      clear hL
      by_cases hneg : fa < 0
      · rw [if_pos hneg] at HSK
        obtain ⟨ao, cap, rfl, _⟩ := OR.form par_rows HO.out
        clear hsk
        go_wp2_with fail
        go_roundw
        case rel => exact ⟨k + 1, by go_num, by omega, Lib.hid (by rw [HSK.out]; exact HO.out), HB⟩
        case measure => simp [intOf]; omega
      rw [if_neg hneg] at HSK
      obtain ⟨s1, s2, s3⟩ := hsk.resolve_left hneg
      have hpos : 0 ≤ fa := by omega
      rcases List.eq_nil_or_concat L with rfl | ⟨q, y, hq⟩
      · obtain ⟨ao, cap, rfl, _⟩ := OR.form par_rows HO.out
        go_wp2_with fail
        go_quiet (fail)
        go_wp2_with fail
        have HB2 := Lib.hid (below_drewN HB.out nq)
        have HO2 := Lib.hid (HO.out.below (below_drewN (Below.refl _ _) nq))
        have HW2 := Lib.hid (HW.out.below HB2.out)
        have HCC := Lib.hid (fun W (hb : Below w.heap.size w W) => show W.cell? ⟨g, k * 2, none⟩ = some (.int .i64 fa) ∧ W.cell? ⟨g, k * 2 + 1, none⟩ = some (.int .i64 fs) from by have h := ((HW.out.below hb).at hlt).1; rw [hfa.out, hfs.out] at h; exact h)
        generalize wr.drewN nq = W1 at *
        clear b0 b1
        obtain ⟨⟨b0, b1⟩, _, _⟩ := HW2.out.at hlt
        rw [hfa.out] at b0
        rw [hfs.out] at b1
        have hone := Lib.hid (PtB.row (show PtB (W1.drew.alloc (.cells #[.int .i64 (k : Int), .int .i64 1, .int .i64 fa, .int .i64 fs] 52)) W1.drew.heap.size ⟨(k : Int), 1, fa, fs⟩ from heap_alloc_new _ _))
        have HO4 := Lib.hid (HO2.out.below (blwO (blwA W1.drew (.cells #[.int .i64 (k : Int), .int .i64 1, .int .i64 fa, .int .i64 fs] 52)) (Below.refl _ _).drew))
        have HB4 := Lib.hid (blwO (blwA W1.drew (.cells #[.int .i64 (k : Int), .int .i64 1, .int .i64 fa, .int .i64 fs] 52)) HB2.out.drew)
        go_region_held3 (fun W => W.cell? ⟨g, k * 2, none⟩ = some (.int .i64 fa) ∧ W.cell? ⟨g, k * 2 + 1, none⟩ = some (.int .i64 fs))
          (first | exact ⟨b0, b1⟩ | exact HCC.out _ HB5.out | exact HCC.out _ HB4.out)
          (first | (refine step_app_rows par_rows rfl (.tmp 83) (.tmp 96) rfl (B := w.heap.size) (D := []) rfl HO4.out (ao := some ⟨W1.drew.heap.size, 0, none⟩) (cap := 1) (l := [⟨(k : Int), 1, fa, fs⟩]) (m := 1) rfl rfl hone.out (fun e => by cases e) (Nat.le_refl _) (by simp) HB4.out.size ?_; intro v5 w5 hI hg _; have HO5 := Lib.hid hI; have HB5 := Lib.hid (HB4.out.grown hg HB4.out.size (fun k e => (HO4.out.lt k e).1)); clear hI hg))
        go_wp2_with fail
        go_roundw
        case rel => exact ⟨k + 1, by go_num, by omega, Lib.hid (by rw [HSK.out, joinE_nil]; exact HO5.out), HB5⟩
        case measure => simp [intOf]; omega
      · rw [List.concat_eq_append] at hq
        subst hq
        obtain ⟨ao, cap, hf, hR, hcap, _, hbl, _, hat2⟩ := OR.form par_rows HO.out
        subst hf
        obtain ⟨bk, off, rfl, _⟩ := hR q.length (by simp)
        obtain rfl : off = 0 := by have := hat2 _ rfl; simpa using this
        have hgB : w.heap.size ≤ bk := (hbl _ rfl).1
        obtain ⟨y1, y2, y3, y4, y5, y6, y7⟩ := oneB_iff.1 (rail_one HGK.out.rail y (by simp))
        obtain ⟨N, hN⟩ : ∃ N : Nat, Hid ((q ++ [y]).length = N) := ⟨_, Lib.hid rfl⟩
        have hNq : N = q.length + 1 := by rw [← hN.out]; simp
        have hNk : (N : Int) ≤ 8192 := by have := hgl; rw [hN.out] at this; omega
        have e10 : (N : Int) - 1 = (q.length : Int) := by omega
        have e11 : (q.length : Int) < (N : Int) := by omega
        have e12 : decide (0 < N) = true := decide_eq_true (by omega)
        have HJ := Lib.hid (joinE_snoc q y ⟨(k : Int), 1, fa, fs⟩)
        have hj : (y.stop = (k : Int) ∧ y.addr = fa ∧ y.src + y.len = fs) ↔ (y.off + y.len = (k : Int) ∧ y.addr = fa ∧ y.src + y.len = fs) := Iff.rfl
        have HJI := Lib.hid hj
        rw [hN.out] at HO ⊢
        obtain ⟨⟨d0, d1, d2, d3⟩, _⟩ := OPa.lastR HO.out hN.out
        clear hR hbl hat2 hNq hcap hj hgl
        by_cases h1 : y.off + y.len = (k : Int)
        · have q1 : (y.off + y.len == (k : Int)) = true := beq_iff_eq.2 h1
          by_cases h2 : y.addr = fa
          · have q2 : (y.addr == fa) = true := beq_iff_eq.2 h2
            by_cases h3 : y.src + y.len = fs
            · have q3 : (y.src + y.len == fs) = true := beq_iff_eq.2 h3
              have HJ2 := Lib.hid (show joinE (q ++ [y]) ⟨(k : Int), 1, fa, fs⟩ = q ++ [growP y] from by rw [HJ.out, if_pos (HJI.out.2 ⟨h1, h2, h3⟩)]; rfl)
              clear h1 h2 h3 HJ
              go_wp2_with fail
              go_quiet (fail)
              have HB2 := Lib.hid (below_drewN HB.out nq)
              have HO2 := Lib.hid (HO.out.below (below_drewN (Below.refl _ _) nq))
              generalize wr.drewN nq = W1 at *
              clear d0 d1 d2 d3 b0 b1
              obtain ⟨⟨d0, d1, d2, d3⟩, f1⟩ := OPa.lastR HO2.out hN.out
              have HO4 := Lib.hid (OPa.grow (by rw [← hN.out]; simp) HO2.out)
              have HB4 := Lib.hid (HB2.out.setCell (p := ⟨bk, q.length * 4 + 1, none⟩) hgB (.int .i64 (y.len + 1)))
              go_wp2_with fail
              go_roundw
              case rel => exact ⟨k + 1, by go_num, by omega, Lib.hid (by rw [HSK.out, HJ2.out]; exact HO4.out), HB4⟩
              case measure => simp [intOf]; omega
            · have q3 : (y.src + y.len == fs) = false := beq_eq_false_iff_ne.2 h3
              have HJ2 := Lib.hid (show joinE (q ++ [y]) ⟨(k : Int), 1, fa, fs⟩ = (q ++ [y]) ++ [⟨(k : Int), 1, fa, fs⟩] from by rw [HJ.out, if_neg (fun c => h3 (HJI.out.1 c).2.2)])
              clear h1 h2 h3 HJ
              go_wp2_with fail
              go_quiet (fail)
              clear d0 d1 d2 d3
              go_wp2_with fail
              have HB2 := Lib.hid (below_drewN HB.out nq)
              have HO2 := Lib.hid (HO.out.below (below_drewN (Below.refl _ _) nq))
              have HW2 := Lib.hid (HW.out.below HB2.out)
              have HCC := Lib.hid (fun W (hb : Below w.heap.size w W) => show W.cell? ⟨g, k * 2, none⟩ = some (.int .i64 fa) ∧ W.cell? ⟨g, k * 2 + 1, none⟩ = some (.int .i64 fs) from by have h := ((HW.out.below hb).at hlt).1; rw [hfa.out, hfs.out] at h; exact h)
              generalize wr.drewN nq = W1 at *
              clear b0 b1
              obtain ⟨⟨b0, b1⟩, _, _⟩ := HW2.out.at hlt
              rw [hfa.out] at b0
              rw [hfs.out] at b1
              have hone := Lib.hid (PtB.row (show PtB (W1.drew.alloc (.cells #[.int .i64 (k : Int), .int .i64 1, .int .i64 fa, .int .i64 fs] 52)) W1.drew.heap.size ⟨(k : Int), 1, fa, fs⟩ from heap_alloc_new _ _))
              have HO4 := Lib.hid (HO2.out.below (blwO (blwA W1.drew (.cells #[.int .i64 (k : Int), .int .i64 1, .int .i64 fa, .int .i64 fs] 52)) (Below.refl _ _).drew))
              have HB4 := Lib.hid (blwO (blwA W1.drew (.cells #[.int .i64 (k : Int), .int .i64 1, .int .i64 fa, .int .i64 fs] 52)) HB2.out.drew)
              go_region_held3 (fun W => W.cell? ⟨g, k * 2, none⟩ = some (.int .i64 fa) ∧ W.cell? ⟨g, k * 2 + 1, none⟩ = some (.int .i64 fs))
                (first | exact ⟨b0, b1⟩ | exact HCC.out _ HB5.out | exact HCC.out _ HB4.out)
                (first | (refine step_app_rows par_rows rfl (.tmp 83) (.tmp 96) rfl (B := w.heap.size) (D := q ++ [y]) rfl HO4.out (ao := some ⟨W1.drew.heap.size, 0, none⟩) (cap := 1) (l := [⟨(k : Int), 1, fa, fs⟩]) (m := 1) rfl rfl hone.out (fun e => by cases e) (Nat.le_refl _) (by rw [hN.out]; show N + 1 ≤ 1000000; omega) HB4.out.size ?_; intro v5 w5 hI hg _; have HO5 := Lib.hid hI; have HB5 := Lib.hid (HB4.out.grown hg HB4.out.size (fun k e => (HO4.out.lt k e).1)); clear hI hg))
              go_wp2_with fail
              go_roundw
              case rel => exact ⟨k + 1, by go_num, by omega, Lib.hid (by rw [HSK.out, HJ2.out]; exact HO5.out), HB5⟩
              case measure => simp [intOf]; omega
          · have q2 : (y.addr == fa) = false := beq_eq_false_iff_ne.2 h2
            have HJ2 := Lib.hid (show joinE (q ++ [y]) ⟨(k : Int), 1, fa, fs⟩ = (q ++ [y]) ++ [⟨(k : Int), 1, fa, fs⟩] from by rw [HJ.out, if_neg (fun c => h2 (HJI.out.1 c).2.1)])
            clear h1 h2 HJ
            go_wp2_with fail
            go_quiet (fail)
            clear d0 d1 d2 d3
            go_wp2_with fail
            have HB2 := Lib.hid (below_drewN HB.out nq)
            have HO2 := Lib.hid (HO.out.below (below_drewN (Below.refl _ _) nq))
            have HW2 := Lib.hid (HW.out.below HB2.out)
            have HCC := Lib.hid (fun W (hb : Below w.heap.size w W) => show W.cell? ⟨g, k * 2, none⟩ = some (.int .i64 fa) ∧ W.cell? ⟨g, k * 2 + 1, none⟩ = some (.int .i64 fs) from by have h := ((HW.out.below hb).at hlt).1; rw [hfa.out, hfs.out] at h; exact h)
            generalize wr.drewN nq = W1 at *
            clear b0 b1
            obtain ⟨⟨b0, b1⟩, _, _⟩ := HW2.out.at hlt
            rw [hfa.out] at b0
            rw [hfs.out] at b1
            have hone := Lib.hid (PtB.row (show PtB (W1.drew.alloc (.cells #[.int .i64 (k : Int), .int .i64 1, .int .i64 fa, .int .i64 fs] 52)) W1.drew.heap.size ⟨(k : Int), 1, fa, fs⟩ from heap_alloc_new _ _))
            have HO4 := Lib.hid (HO2.out.below (blwO (blwA W1.drew (.cells #[.int .i64 (k : Int), .int .i64 1, .int .i64 fa, .int .i64 fs] 52)) (Below.refl _ _).drew))
            have HB4 := Lib.hid (blwO (blwA W1.drew (.cells #[.int .i64 (k : Int), .int .i64 1, .int .i64 fa, .int .i64 fs] 52)) HB2.out.drew)
            go_region_held3 (fun W => W.cell? ⟨g, k * 2, none⟩ = some (.int .i64 fa) ∧ W.cell? ⟨g, k * 2 + 1, none⟩ = some (.int .i64 fs))
              (first | exact ⟨b0, b1⟩ | exact HCC.out _ HB5.out | exact HCC.out _ HB4.out)
              (first | (refine step_app_rows par_rows rfl (.tmp 83) (.tmp 96) rfl (B := w.heap.size) (D := q ++ [y]) rfl HO4.out (ao := some ⟨W1.drew.heap.size, 0, none⟩) (cap := 1) (l := [⟨(k : Int), 1, fa, fs⟩]) (m := 1) rfl rfl hone.out (fun e => by cases e) (Nat.le_refl _) (by rw [hN.out]; show N + 1 ≤ 1000000; omega) HB4.out.size ?_; intro v5 w5 hI hg _; have HO5 := Lib.hid hI; have HB5 := Lib.hid (HB4.out.grown hg HB4.out.size (fun k e => (HO4.out.lt k e).1)); clear hI hg))
            go_wp2_with fail
            go_roundw
            case rel => exact ⟨k + 1, by go_num, by omega, Lib.hid (by rw [HSK.out, HJ2.out]; exact HO5.out), HB5⟩
            case measure => simp [intOf]; omega
        · have q1 : (y.off + y.len == (k : Int)) = false := beq_eq_false_iff_ne.2 h1
          have HJ2 := Lib.hid (show joinE (q ++ [y]) ⟨(k : Int), 1, fa, fs⟩ = (q ++ [y]) ++ [⟨(k : Int), 1, fa, fs⟩] from by rw [HJ.out, if_neg (fun c => h1 (HJI.out.1 c).1)])
          clear h1 HJ
          go_wp2_with fail
          go_quiet (fail)
          clear d0 d1 d2 d3
          go_wp2_with fail
          have HB2 := Lib.hid (below_drewN HB.out nq)
          have HO2 := Lib.hid (HO.out.below (below_drewN (Below.refl _ _) nq))
          have HW2 := Lib.hid (HW.out.below HB2.out)
          have HCC := Lib.hid (fun W (hb : Below w.heap.size w W) => show W.cell? ⟨g, k * 2, none⟩ = some (.int .i64 fa) ∧ W.cell? ⟨g, k * 2 + 1, none⟩ = some (.int .i64 fs) from by have h := ((HW.out.below hb).at hlt).1; rw [hfa.out, hfs.out] at h; exact h)
          generalize wr.drewN nq = W1 at *
          clear b0 b1
          obtain ⟨⟨b0, b1⟩, _, _⟩ := HW2.out.at hlt
          rw [hfa.out] at b0
          rw [hfs.out] at b1
          have hone := Lib.hid (PtB.row (show PtB (W1.drew.alloc (.cells #[.int .i64 (k : Int), .int .i64 1, .int .i64 fa, .int .i64 fs] 52)) W1.drew.heap.size ⟨(k : Int), 1, fa, fs⟩ from heap_alloc_new _ _))
          have HO4 := Lib.hid (HO2.out.below (blwO (blwA W1.drew (.cells #[.int .i64 (k : Int), .int .i64 1, .int .i64 fa, .int .i64 fs] 52)) (Below.refl _ _).drew))
          have HB4 := Lib.hid (blwO (blwA W1.drew (.cells #[.int .i64 (k : Int), .int .i64 1, .int .i64 fa, .int .i64 fs] 52)) HB2.out.drew)
          go_region_held3 (fun W => W.cell? ⟨g, k * 2, none⟩ = some (.int .i64 fa) ∧ W.cell? ⟨g, k * 2 + 1, none⟩ = some (.int .i64 fs))
            (first | exact ⟨b0, b1⟩ | exact HCC.out _ HB5.out | exact HCC.out _ HB4.out)
            (first | (refine step_app_rows par_rows rfl (.tmp 83) (.tmp 96) rfl (B := w.heap.size) (D := q ++ [y]) rfl HO4.out (ao := some ⟨W1.drew.heap.size, 0, none⟩) (cap := 1) (l := [⟨(k : Int), 1, fa, fs⟩]) (m := 1) rfl rfl hone.out (fun e => by cases e) (Nat.le_refl _) (by rw [hN.out]; show N + 1 ≤ 1000000; omega) HB4.out.size ?_; intro v5 w5 hI hg _; have HO5 := Lib.hid hI; have HB5 := Lib.hid (HB4.out.grown hg HB4.out.size (fun k e => (HO4.out.lt k e).1)); clear hI hg))
          go_wp2_with fail
          go_roundw
          case rel => exact ⟨k + 1, by go_num, by omega, Lib.hid (by rw [HSK.out, HJ2.out]; exact HO5.out), HB5⟩
          case measure => simp [intOf]; omega
    · have k0 : ¬ (k : Int) < 8192 := by omega
      have hk8 : k = 8192 := by omega
      rw [hk8] at HO
      obtain ⟨ao, cap, hf, _⟩ := OR.form par_rows HO.out
      subst hf
      clear hk8 hk hlt
      go_wp2_with fail
      go_ret
      exact ⟨_, rfl, HO.out, HB.out⟩
end Go.Proofs.Ytfkgeefoknaldaa
namespace Go.Proofs.Ytfkgeefoknaldaa
open Go.RowKit Go.Maps
set_option linter.unusedVariables false
set_option maxRecDepth 20000
theorem espot_row : (114 : TypeId) < Try.prog.types.size := of_decide_eq_true (by kernel_rfl)
theorem espot_law : Keyed Try.prog 114 := Keyed.of_law (deep_law_laid laidOut (m := 2) (by omega) espot_row (by kernel_rfl) (by rw [Try.underlying114]))
theorem espot_succ : ∃ n, Try.prog.types.size = n + 1 := ⟨Try.prog.types.size - 1, by have h := Nat.lt_of_le_of_lt (Nat.zero_le _) espot_row; exact (Nat.succ_pred_eq_of_pos h).symm⟩
/-- a place as a key -/
def klE (u : Int) : Lit := .string (keyBytes [.int .i64 u])
theorem espot_key (u : Int) (hu : (Lit.int .i64 u).wf = true) : keyOf Try.prog 114 (.agg #[.int .i64 u]) = some (klE u) := by
  obtain ⟨n, hn⟩ := espot_succ
  exact key_one Try.underlying114 (by kernel_rfl) (by rfl) rfl (by kernel_rfl) Try.underlying3 (by kernel_rfl) hn hu
theorem agg1E_inj {u v : Int} (h : (Value.agg #[Value.int IntKind.i64 u]) = .agg #[.int .i64 v]) : u = v := by simpa using h
theorem klE_inj {u v : Int} (hu : (Lit.int .i64 u).wf = true) (hv : (Lit.int .i64 v).wf = true) (h : klE u = klE v) : u = v :=
  agg1E_inj (espot_law.inj (espot_key u hu) (h ▸ espot_key v hv))
theorem klE_key {u : Int} (hu : (Lit.int .i64 u).wf = true) : WideAt.IsKeyLit (klE u) := espot_law.key (espot_key u hu)
/-- where a byte lies -/
def srcD (a f : Int) : DataW Unit := .agg [.lit (.int .i64 a), .lit (.int .i64 f)]
def srcR : Value → Option (DataW Unit × List MemPlace)
  | .agg a => match a.toList with
    | [.int .i64 x, .int .i64 y] => some (srcD x y, [])
    | _ => none
  | _ => none
theorem srcR_mk (a f : Int) : srcR (.agg #[.int .i64 a, .int .i64 f]) = some (srcD a f, []) := rfl
theorem srcR_inv {v : Value} {z : DataW Unit × List MemPlace} (h : srcR v = some z) : ∃ a f, v = .agg #[.int .i64 a, .int .i64 f] ∧ z = (srcD a f, []) := by
  unfold srcR at h
  split at h
  · next a =>
    split at h
    · next i j e =>
      cases h
      refine ⟨i, j, ?_, rfl⟩
      rw [← Array.toArray_toList (xs := a), e]
    · cases h
  · cases h
theorem srcD_inj {a f b g : Int} (h : srcD a f = srcD b g) : a = b ∧ f = g := by
  unfold srcD at h
  simpa using h
theorem zero_src (w : World) : (zeroValue 111).run Try.prog w = .ok (.agg #[.int .i64 0, .int .i64 0]) w := by kernel_rfl
/-- the map's datum tells the bytes g -/
structure ME (D : DataW Unit) (g : MapF) : Prop where
  tidy : Tidy D
  hs : ∀ u, (Lit.int .i64 u).wf = true → Maps.has D (klE u) = (g u).isSome
  tells : ∀ u a f, (Lit.int .i64 u).wf = true → g u = some (a, f) → ∀ z, D.atKey (klE u) z = srcD a f
theorem ME.nil : ME (.map []) (fun _ => none) := ⟨tidy_empty, fun _ _ => rfl, fun _ _ _ _ h => by cases h⟩
theorem ME.put {D : DataW Unit} {g : MapF} (h : ME D g) {u a f : Int} (hu : (Lit.int .i64 u).wf = true) : ME (D.put (klE u) (srcD a f)) (setG g u (a, f)) := by
  have hk := klE_key hu
  refine ⟨h.tidy.put hk _, fun v hv => ?_, fun v b c hv e z => ?_⟩
  · unfold setG
    by_cases e : v = u
    · subst e
      rw [has_put_same h.tidy.isMap hk, if_pos rfl]
      rfl
    · rw [has_put_other (fun e2 => e (klE_inj hv hu e2)), h.hs v hv, if_neg e]
  · unfold setG at e
    by_cases e1 : v = u
    · subst e1
      rw [if_pos rfl] at e
      cases e
      exact atKey_put_same h.tidy.isMap hk _ _
    · rw [if_neg e1] at e
      rw [atKey_put_other (fun e2 => e1 (klE_inj hv hu e2))]
      exact h.tells v b c hv e z
/-- the map at block b tells the bytes g; n: no more than so many -/
def FE (w : World) (b n : Nat) (g : MapF) : Prop := ∃ D, w.ownsMap Try.prog 114 srcR b n D ∧ ME D g
theorem FE.made (w : World) : FE (w.alloc (.map #[] 0)) w.heap.size 0 (fun _ => none) := ⟨_, World.ownsMap_made _ _ _ _, ME.nil⟩
theorem FE.keep {w w' : World} {b n : Nat} {g : MapF} (h : FE w b n g) (e : w'.heap[b]? = w.heap[b]?) : FE w' b n g := by
  obtain ⟨D, ⟨es, clock, h1, h2⟩, h3⟩ := h
  exact ⟨D, ⟨es, clock, e.trans h1, h2⟩, h3⟩
theorem FE.lt {w : World} {b n : Nat} {g : MapF} (h : FE w b n g) : b < w.heap.size := by
  obtain ⟨D, h1, _⟩ := h
  exact h1.lt
theorem FE.below {w w' : World} {b n : Nat} {g : MapF} (h : FE w b n g) (hb : Below w.heap.size w w') : FE w' b n g := h.keep (hb.block b h.lt)
def lookA (g : MapF) (u : Int) : Int := match g u with | some x => x.1 | none => 0
def lookS (g : MapF) (u : Int) : Int := match g u with | some x => x.2 | none => 0
/-- x, there := m[u] -/
theorem FE.look {w : World} {b n : Nat} {g : MapF} (h : FE w b n g) {u : Int} (hu : (Lit.int .i64 u).wf = true) : (Instr.lookup 105 (.map (some b)) (.agg #[.int .i64 u]) true).run Try.prog w = .ok (.tuple #[.agg #[.int .i64 (lookA g u), .int .i64 (lookS g u)], .bool (g u).isSome]) w := by
  obtain ⟨D, h1, h2⟩ := h
  obtain ⟨v, ps, hr, hv⟩ := h1.look_ok espot_law Try.underlying105 (zero_src w) (srcR_mk _ _) (espot_key u hu)
  obtain ⟨a, f, rfl, e⟩ := srcR_inv hv
  simp only [Prod.mk.injEq] at e
  have e1 := e.1
  have : a = lookA g u ∧ f = lookS g u := by
    unfold lookA lookS
    cases q : g u with
    | none =>
      rw [atKey_of_not_has (by rw [h2.hs u hu, q]; rfl)] at e1
      obtain ⟨p1, p2⟩ := srcD_inj e1
      exact ⟨p1.symm, p2.symm⟩
    | some x =>
      obtain ⟨c, d⟩ := x
      rw [h2.tells u c d hu q] at e1
      obtain ⟨p1, p2⟩ := srcD_inj e1
      exact ⟨p1.symm, p2.symm⟩
  obtain ⟨rfl, rfl⟩ := this
  rw [← h2.hs u hu]
  exact hr
/-- m[u] = v -/
theorem wpList_set_byte {ops : Array Oper} {rest : List Oper} {o : Oper} {x : Act} {w : World} {Q : Exit → Act → World → Prop} (hg : o.guard = none) (m k v : Operand) (hop : o.op = Op.mapUpdate 105 m k v)
    {b n : Nat} {g : MapF} (hm : x.eval m = .map (some b)) (h : FE w b n g) (hn : n ≤ 1000000) {u a f : Int} (hu : (Lit.int .i64 u).wf = true) (hk : x.eval k = .agg #[.int .i64 u]) (hv : x.eval v = .agg #[.int .i64 a, .int .i64 f])
    (hK : ∀ w', FE w' b (n + 1) (setG g u (a, f)) → w.grownBy w' (some b) → wpList Try.prog ops Q rest (x.put o.dst undef) w') : wpList Try.prog ops Q (o :: rest) x w := by
  obtain ⟨D, h1, h2⟩ := h
  exact wpList_mapUpdate_own w hg m k v _ hop 114 111 espot_law Try.underlying105 srcR b n D hm h1 (by unfold maxLen; omega) _ _ _ hk hv (espot_key u hu) (srcD a f) [] (srcR_mk a f)
    (fun w' r1 r2 => hK w' ⟨_, r1, h2.put hu⟩ r2)
theorem run_makeMapN {P : Program} {t k e : TypeId} (hu : P.underlying t = some (.map k e)) (n : Int) (w : World) : (Instr.makeMap t (some (.int .i64 n))).run P w = .ok (.map (some w.heap.size)) (w.alloc (.map #[] 0)) := by
  simp [Instr.makeMap, run_underlying hu, asInt, asIntOf, newObj]
  rfl
/-- what a byte of the map is, as a piece -/
theorem pcE_no {g : MapF} {i : Nat} (h : g i = none) : pcE (bytG g) i = ⟨i, 1, -1, 0⟩ := by
  unfold pcE bytG
  rw [h]
theorem pcE_yes {g : MapF} {i : Nat} (h : (g i).isSome = true) : pcE (bytG g) i = ⟨i, 1, lookA g i, lookS g i⟩ := by
  unfold pcE bytG lookA lookS
  cases e : g i with
  | none => rw [e] at h; cases h
  | some x => rfl
theorem part_ret {fn : Func} {p : Tmp} (h : fn.results = #[.cell p 52]) {a : Act} {w : World} {g : Nat} {x : Pt} {R : Ending → World → Prop}
    (hg : PtB w g x) (hp : a.tmps.getD p undef = .pointer (some ⟨g, 0, none⟩)) (hd : a.defers = [])
    (hR : R (.returned (.agg #[.int .i64 x.off, .int .i64 x.len, .int .i64 x.addr, .int .i64 x.src])) w) : bodyPost Try.prog fn R .ret a w :=
  bodyPost_ret (results_cell_row h a.tmps w g 52 #[.int .i64 x.off, .int .i64 x.len, .int .i64 x.addr, .int .i64 x.src] (0, 0) _ hp hg Try.underlying52 rfl (by kernel_rfl)) hd hR
set_option maxHeartbeats 4000000 in
theorem epiece_any (w : World) (b n : Nat) (g : MapF) (i : Nat) (hi : i ≤ 100000) (h : FE w b n g) :
    Calls Try.prog 85 #[.map (some b), .int .i64 i] w fun e w' => e = .returned (.agg #[.int .i64 (pcE (bytG g) i).off, .int .i64 (pcE (bytG g) i).len, .int .i64 (pcE (bytG g) i).addr, .int .i64 (pcE (bytG g) i).src]) ∧ Below w.heap.size w w' := by
  have hu : (Lit.int .i64 (i : Int)).wf = true := WalkArith.wf_i64 (by omega)
  have hl := (h.below (blwA w (.cells #[.int .i64 0, .int .i64 0, .int .i64 0, .int .i64 0] 52))).look hu
  cases e : (g i).isSome
  · rw [pcE_no (by simpa using e)]
    rw [e] at hl
    have HZ := Lib.hid (fun (x y : Int) => show PtB ((w.alloc (.cells #[.int .i64 i, .int .i64 1, .int .i64 (-1), .int .i64 0] 52)).alloc (.cells #[.int .i64 x, .int .i64 y] 111)) w.heap.size ⟨i, 1, -1, 0⟩ from (show PtB (w.alloc (.cells #[.int .i64 i, .int .i64 1, .int .i64 (-1), .int .i64 0] 52)) w.heap.size ⟨i, 1, -1, 0⟩ from heap_alloc_new _ _).below (blwA _ _))
    have HB := Lib.hid (fun (x y : Int) => blwO (blwA (w.alloc (.cells #[.int .i64 i, .int .i64 1, .int .i64 (-1), .int .i64 0] 52)) (.cells #[.int .i64 x, .int .i64 y] 111)) (blwA w _))
    clear h e
    generalize lookA g i = a at *
    generalize lookS g i = f at *
    go_enter Try.func85, Try.ntmps85
    go_wp2_with fail
    exact part_ret (x := ⟨i, 1, -1, 0⟩) rfl (HZ.out a f) rfl rfl ⟨rfl, HB.out a f⟩
  · rw [pcE_yes e]
    rw [e] at hl
    have HZ := Lib.hid (fun (x y : Int) => show PtB ((w.alloc (.cells #[.int .i64 i, .int .i64 1, .int .i64 x, .int .i64 y] 52)).alloc (.cells #[.int .i64 x, .int .i64 y] 111)) w.heap.size ⟨i, 1, x, y⟩ from (show PtB (w.alloc (.cells #[.int .i64 i, .int .i64 1, .int .i64 x, .int .i64 y] 52)) w.heap.size ⟨i, 1, x, y⟩ from heap_alloc_new _ _).below (blwA _ _))
    have HB := Lib.hid (fun (x y : Int) => blwO (blwA (w.alloc (.cells #[.int .i64 i, .int .i64 1, .int .i64 x, .int .i64 y] 52)) (.cells #[.int .i64 x, .int .i64 y] 111)) (blwA w _))
    clear h e
    generalize lookA g i = a at *
    generalize lookS g i = f at *
    go_enter Try.func85, Try.ntmps85
    go_wp2_with fail
    exact part_ret (x := ⟨i, 1, a, f⟩) rfl (HZ.out a f) rfl rfl ⟨rfl, HB.out a f⟩
end Go.Proofs.Ytfkgeefoknaldaa
