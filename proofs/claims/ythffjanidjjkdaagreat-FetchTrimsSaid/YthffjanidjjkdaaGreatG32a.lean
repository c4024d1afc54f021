/- What the program's fetch makes of a unit that has a text, or junk: the next one is mended, or it is over. Conditions: it lies where the call was told. (Written by gen/genfmp.py.) -/
import Derived.Test.YthffjanidjjkdaaGreatG31a
set_option linter.unusedVariables false
namespace Go.Proofs.YthffjanidjjkdaaGreat
set_option linter.unusedVariables false
open Go.RowKit
set_option maxRecDepth 20000
set_option maxHeartbeats 2000000 in
theorem fs_mend (b : Nat) (G : Nat → Prop) (w : World) (q : Qf) (xc xn : Int) (xd : ByteArray) (xe : Int) (xL : List (List Int)) (xm xs xy : Int) (xo : Option Addr) (xp : Nat) (h : FQ b G w q) (ha : q.at_ = 5) (hf : fewL q.L) (hu : 0 ≤ q.unit ∧ q.unit ≤ 100) (hc : xc = 0 ∨ xc = 41) :
    Calls Tryz.prog 43 #[ptrP b, .agg #[.int .i64 xc, .int .i64 xn, .string xd, .int .i64 xe, .slice xo xL.length xp, .int .i64 xm, .int .i64 xs, .int .i64 xy]] w fun e w' => e = .returned (.tuple #[]) ∧ Leaves (FQ b) G w w' (q.mend) := by
  obtain ⟨HG, HB, HX, HA, ⟨x0, x1, x2, x3, x4, x5, x6, x7⟩, ao, cap, ⟨c0, c1, c2, c3, c4, c5, c6, c7, c8, c9⟩, ⟨f0, f1, f2, f3, f4, f5, f6, f7, f8, f9⟩, hb, HC1, H1, H3⟩ := fns_start h xc xn xd xe xo xL.length xp xm xs xy rfl
  have HF := Lib.hid hf
  have hw : IntKind.i64.wrap (q.unit + 1) = q.unit + 1 := IntWalk.i64_in _ (by omega)
  have HR1 := Lib.hid (show q.unit + 1 = (q.len : Int) → q.mend = q.more.ends q.kind q.txt 0 from fun e => if_pos e)
  have HR2 := Lib.hid (show ¬ q.unit + 1 = (q.len : Int) → q.mend = q.more from fun e => if_neg e)
  clear hf
  rw [ha] at c4
  rcases hc with hc | hc
  all_goals
    subst hc
    clear h
    unfold ptrP at *
    go_enter Tryz.func43, Tryz.ntmps43
    go_wp2_with fail
    generalize w.alloc _ = w1 at *
    refine wp_scope_one 5 rfl ?_
    generalize hQ : Exit.jump _ _ _ = QJ
    go_wp2_with fail
    go_step3
    show QJ (.goto 5) _ _
    rw [← hQ]
    refine jump_one ?_
    go_wp2_with fail
    have HL5 := Lib.hid (H3.out _ (q.more) (((Kept.refl _ w1).setCell (p := ⟨b, 4, none⟩) (fun h => h rfl) (.int .i64 5)).setCell (p := ⟨b, 6, none⟩) (fun h => h rfl) (.int .i64 (q.unit + 1))) rfl (tset6 (tset4 H1.out _) _))
    generalize World.setCell (World.setCell w1 _ _) _ _ = w5 at *
    obtain ⟨H5, hA5, hU5⟩ := lv_use (fun k hk => (fq_thing b).lt HA.out k hk) HL5.out
    have HU5 := Lib.hid hU5
    have HA5 := Lib.hid hA5
    have HH5 := Lib.hid (fun k hk => (fq_thing b).lt hA5 k hk)
    clear hA5 hU5 HL5
    clear c0 c1 c2 c3 c4 c5 c6 c7 c8 c9 f0 f1 f2 f3 f4 f5 f6 f7 f8 f9 hb HC1 H1 H3
    obtain ⟨ao, cap, ⟨c0, c1, c2, c3, c4, c5, c6, c7, c8, c9⟩, ⟨f0, f1, f2, f3, f4, f5, f6, f7, f8, f9⟩, hb, HC1, H1, H3⟩ := fns_open HA5.out
    dsimp only [Qf.more, Qf.got] at c6
    have CU := Lib.hid (fun W (h : FQ b H5 W q.more) => show Calls Tryz.prog 65 #[ptrP b] W fun e w' => e = .returned (.int .i64 (q.len : Nat)) ∧ Below W.heap.size W w' from fp_units b H5 W (q.more) h HF.out)
    generalize q.len = n at *
    generalize hz : q.unit + 1 = z at c6
    clear c0 c1 c2 c3 c4 c5 c7 c8 c9
    go_region_held3 (fun W => W.cell? ⟨b, 6, none⟩ = some (.int .i64 z))
      (first | exact c6 | assumption | exact hz ▸ d6)
      (first | (go_at_call 65; refine (CU.out _ (HA5.out.below (Below.refl _ _).drew)).mono ?_; rintro e w6 ⟨rfl, hb6⟩; have HB6 := Lib.hid (below_on (w1 := w5) hb6 (Below.refl _ _).drew); have HA6 := Lib.hid (HA5.out.below HB6.out); obtain ⟨ao6, cap6, ⟨d0, d1, d2, d3, d4, d5, d6, d7, d8, d9⟩, _, hb7, _, _, _⟩ := fns_open HA6.out; dsimp only [Qf.more, Qf.got] at d6 d7 d8; clear hb6))
    by_cases hn : z = (n : Int)
    · have e9 : (z == (n : Int)) = true := by simpa using hn
      have HN := Lib.hid (HR1.out (hz.trans hn))
      clear hn
      go_wp2_with (go_at_call 48; refine (fp_end b _ _ q.more _ _ 0 HA6.out).mono ?_; rintro e w9 ⟨rfl, hl⟩; have HL9 := Lib.hid hl; clear hl)
      rw [noGoto_normal]
      go_end0
      exact ⟨rfl, HN.out.symm ▸ ((HU5.out _ _ (HL9.out.ahead HH5.out HB6.out))).ahead HG.out HB.out⟩
    · have e9 : (z == (n : Int)) = false := by simpa using hn
      have HN := Lib.hid (HR2.out (fun e => hn (hz.symm.trans e)))
      clear hn
      go_wp2_with fail
      rw [noGoto_normal]
      go_end0
      exact ⟨rfl, HN.out.symm ▸ ((HU5.out _ _ (Leaves.same (fq_thing b) HA5.out HB6.out))).ahead HG.out HB.out⟩
set_option maxHeartbeats 2000000 in
theorem fs_junk_r (b : Nat) (G : Nat → Prop) (w : World) (q : Qf) (xc xn : Int) (xd : ByteArray) (xe : Int) (xL : List (List Int)) (xm xs xy : Int) (xo : Option Addr) (xp : Nat) (h : FQ b G w q) (ha : q.at_ = 2 ∨ q.at_ = 3) (hf : fewL q.L) (hu : 0 ≤ q.unit ∧ q.unit ≤ 100)  :
    Calls Tryz.prog 43 #[ptrP b, .agg #[.int .i64 46, .int .i64 xn, .string xd, .int .i64 xe, .slice xo xL.length xp, .int .i64 xm, .int .i64 xs, .int .i64 xy]] w fun e w' => e = .returned (.tuple #[]) ∧ Leaves (FQ b) G w w' ((q.got 2 noS).mend) := by
  obtain ⟨HG, HB, HX, HA, ⟨x0, x1, x2, x3, x4, x5, x6, x7⟩, ao, cap, ⟨c0, c1, c2, c3, c4, c5, c6, c7, c8, c9⟩, ⟨f0, f1, f2, f3, f4, f5, f6, f7, f8, f9⟩, hb, HC1, H1, H3⟩ := fns_start h 46 xn xd xe xo xL.length xp xm xs xy rfl
  have HF := Lib.hid hf
  have hw : IntKind.i64.wrap (q.unit + 1) = q.unit + 1 := IntWalk.i64_in _ (by omega)
  have HR1 := Lib.hid (show q.unit + 1 = (q.len : Int) → (q.got 2 noS).mend = (q.got 2 noS).more.ends 2 noS 0 from fun e => if_pos e)
  have HR2 := Lib.hid (show ¬ q.unit + 1 = (q.len : Int) → (q.got 2 noS).mend = (q.got 2 noS).more from fun e => if_neg e)
  clear hf
  rcases ha with ha | ha
  all_goals
    rw [ha] at c4
    clear h
    unfold ptrP at *
    go_enter Tryz.func43, Tryz.ntmps43
    go_wp2_with fail
    generalize w.alloc _ = w1 at *
    refine wp_scope_one 2 rfl ?_
    generalize hQ : Exit.jump _ _ _ = QJ
    go_wp2_with fail
    go_step3
    show QJ (.goto 2) _ _
    rw [← hQ]
    refine jump_one ?_
    go_wp2_with fail
    have HL := Lib.hid (H3.out _ (q.got 2 ⟨#[]⟩) (((Kept.refl _ w1).setCell (p := ⟨b, 7, none⟩) (fun h => h rfl) (.int .i64 2)).setCell (p := ⟨b, 8, none⟩) (fun h => h rfl) (.string ⟨#[]⟩)) rfl (tset8 (tset7 H1.out _) _))
    generalize World.setCell (World.setCell w1 _ _) _ _ = wm at *
    obtain ⟨H, hA, hU⟩ := lv_use (fun k hk => (fq_thing b).lt HA.out k hk) HL.out
    have HU := Lib.hid hU
    have HAm := Lib.hid hA
    clear hA hU HL
    clear c0 c1 c2 c3 c4 c5 c6 c7 c8 c9 f0 f1 f2 f3 f4 f5 f6 f7 f8 f9 hb HC1 H1 H3
    obtain ⟨ao, cap, ⟨c0, c1, c2, c3, c4, c5, c6, c7, c8, c9⟩, ⟨f0, f1, f2, f3, f4, f5, f6, f7, f8, f9⟩, hb, HC1, H1, H3⟩ := fns_open HAm.out
    dsimp only [Qf.got] at c6
    go_step3
    go_wp2_with fail
    have HL5 := Lib.hid (H3.out _ ((q.got 2 ⟨#[]⟩).more) (((Kept.refl _ wm).setCell (p := ⟨b, 4, none⟩) (fun h => h rfl) (.int .i64 5)).setCell (p := ⟨b, 6, none⟩) (fun h => h rfl) (.int .i64 (q.unit + 1))) rfl (tset6 (tset4 H1.out _) _))
    generalize World.setCell (World.setCell wm _ _) _ _ = w5 at *
    obtain ⟨H5, hA5, hU5⟩ := lv_use (fun k hk => (fq_thing b).lt HAm.out k hk) HL5.out
    have HU5 := Lib.hid hU5
    have HA5 := Lib.hid hA5
    have HH5 := Lib.hid (fun k hk => (fq_thing b).lt hA5 k hk)
    clear hA5 hU5 HL5
    clear c0 c1 c2 c3 c4 c5 c6 c7 c8 c9 f0 f1 f2 f3 f4 f5 f6 f7 f8 f9 hb HC1 H1 H3
    obtain ⟨ao, cap, ⟨c0, c1, c2, c3, c4, c5, c6, c7, c8, c9⟩, ⟨f0, f1, f2, f3, f4, f5, f6, f7, f8, f9⟩, hb, HC1, H1, H3⟩ := fns_open HA5.out
    dsimp only [Qf.more, Qf.got] at c6
    have CU := Lib.hid (fun W (h : FQ b H5 W (q.got 2 ⟨#[]⟩).more) => show Calls Tryz.prog 65 #[ptrP b] W fun e w' => e = .returned (.int .i64 (q.len : Nat)) ∧ Below W.heap.size W w' from fp_units b H5 W ((q.got 2 ⟨#[]⟩).more) h HF.out)
    generalize q.len = n at *
    generalize hz : q.unit + 1 = z at c6
    clear c0 c1 c2 c3 c4 c5 c7 c8 c9
    go_region_held3 (fun W => W.cell? ⟨b, 6, none⟩ = some (.int .i64 z))
      (first | exact c6 | assumption | exact hz ▸ d6)
      (first | (go_at_call 65; refine (CU.out _ (HA5.out.below (Below.refl _ _).drew)).mono ?_; rintro e w6 ⟨rfl, hb6⟩; have HB6 := Lib.hid (below_on (w1 := w5) hb6 (Below.refl _ _).drew); have HA6 := Lib.hid (HA5.out.below HB6.out); obtain ⟨ao6, cap6, ⟨d0, d1, d2, d3, d4, d5, d6, d7, d8, d9⟩, _, hb7, _, _, _⟩ := fns_open HA6.out; dsimp only [Qf.more, Qf.got] at d6 d7 d8; clear hb6))
    by_cases hn : z = (n : Int)
    · have e9 : (z == (n : Int)) = true := by simpa using hn
      have HN := Lib.hid (HR1.out (hz.trans hn))
      clear hn
      go_wp2_with (go_at_call 48; refine (fp_end b _ _ (q.got 2 ⟨#[]⟩).more _ _ 0 HA6.out).mono ?_; rintro e w9 ⟨rfl, hl⟩; have HL9 := Lib.hid hl; clear hl)
      rw [noGoto_normal]
      go_end0
      exact ⟨rfl, HN.out.symm ▸ (HU.out _ _ (HU5.out _ _ (HL9.out.ahead HH5.out HB6.out))).ahead HG.out HB.out⟩
    · have e9 : (z == (n : Int)) = false := by simpa using hn
      have HN := Lib.hid (HR2.out (fun e => hn (hz.symm.trans e)))
      clear hn
      go_wp2_with fail
      rw [noGoto_normal]
      go_end0
      exact ⟨rfl, HN.out.symm ▸ (HU.out _ _ (HU5.out _ _ (Leaves.same (fq_thing b) HA5.out HB6.out))).ahead HG.out HB.out⟩
set_option maxHeartbeats 2000000 in
theorem fs_junk_j (b : Nat) (G : Nat → Prop) (w : World) (q : Qf) (xc xn : Int) (xd : ByteArray) (xe : Int) (xL : List (List Int)) (xm xs xy : Int) (xo : Option Addr) (xp : Nat) (h : FQ b G w q) (ha : q.at_ = 4) (hf : fewL q.L) (hu : 0 ≤ q.unit ∧ q.unit ≤ 100)  :
    Calls Tryz.prog 43 #[ptrP b, .agg #[.int .i64 0, .int .i64 xn, .string xd, .int .i64 xe, .slice xo xL.length xp, .int .i64 xm, .int .i64 xs, .int .i64 xy]] w fun e w' => e = .returned (.tuple #[]) ∧ Leaves (FQ b) G w w' ((q.got 2 noS).mend) := by
  obtain ⟨HG, HB, HX, HA, ⟨x0, x1, x2, x3, x4, x5, x6, x7⟩, ao, cap, ⟨c0, c1, c2, c3, c4, c5, c6, c7, c8, c9⟩, ⟨f0, f1, f2, f3, f4, f5, f6, f7, f8, f9⟩, hb, HC1, H1, H3⟩ := fns_start h 0 xn xd xe xo xL.length xp xm xs xy rfl
  have HF := Lib.hid hf
  have hw : IntKind.i64.wrap (q.unit + 1) = q.unit + 1 := IntWalk.i64_in _ (by omega)
  have HR1 := Lib.hid (show q.unit + 1 = (q.len : Int) → (q.got 2 noS).mend = (q.got 2 noS).more.ends 2 noS 0 from fun e => if_pos e)
  have HR2 := Lib.hid (show ¬ q.unit + 1 = (q.len : Int) → (q.got 2 noS).mend = (q.got 2 noS).more from fun e => if_neg e)
  clear hf
  rw [ha] at c4
  clear h
  unfold ptrP at *
  go_enter Tryz.func43, Tryz.ntmps43
  go_wp2_with fail
  generalize w.alloc _ = w1 at *
  refine wp_scope_one 2 rfl ?_
  generalize hQ : Exit.jump _ _ _ = QJ
  go_wp2_with fail
  go_step3
  show QJ (.goto 2) _ _
  rw [← hQ]
  refine jump_one ?_
  go_wp2_with fail
  have HL := Lib.hid (H3.out _ (q.got 2 ⟨#[]⟩) (((Kept.refl _ w1).setCell (p := ⟨b, 7, none⟩) (fun h => h rfl) (.int .i64 2)).setCell (p := ⟨b, 8, none⟩) (fun h => h rfl) (.string ⟨#[]⟩)) rfl (tset8 (tset7 H1.out _) _))
  generalize World.setCell (World.setCell w1 _ _) _ _ = wm at *
  obtain ⟨H, hA, hU⟩ := lv_use (fun k hk => (fq_thing b).lt HA.out k hk) HL.out
  have HU := Lib.hid hU
  have HAm := Lib.hid hA
  clear hA hU HL
  clear c0 c1 c2 c3 c4 c5 c6 c7 c8 c9 f0 f1 f2 f3 f4 f5 f6 f7 f8 f9 hb HC1 H1 H3
  obtain ⟨ao, cap, ⟨c0, c1, c2, c3, c4, c5, c6, c7, c8, c9⟩, ⟨f0, f1, f2, f3, f4, f5, f6, f7, f8, f9⟩, hb, HC1, H1, H3⟩ := fns_open HAm.out
  dsimp only [Qf.got] at c6
  go_step3
  go_wp2_with fail
  have HL5 := Lib.hid (H3.out _ ((q.got 2 ⟨#[]⟩).more) (((Kept.refl _ wm).setCell (p := ⟨b, 4, none⟩) (fun h => h rfl) (.int .i64 5)).setCell (p := ⟨b, 6, none⟩) (fun h => h rfl) (.int .i64 (q.unit + 1))) rfl (tset6 (tset4 H1.out _) _))
  generalize World.setCell (World.setCell wm _ _) _ _ = w5 at *
  obtain ⟨H5, hA5, hU5⟩ := lv_use (fun k hk => (fq_thing b).lt HAm.out k hk) HL5.out
  have HU5 := Lib.hid hU5
  have HA5 := Lib.hid hA5
  have HH5 := Lib.hid (fun k hk => (fq_thing b).lt hA5 k hk)
  clear hA5 hU5 HL5
  clear c0 c1 c2 c3 c4 c5 c6 c7 c8 c9 f0 f1 f2 f3 f4 f5 f6 f7 f8 f9 hb HC1 H1 H3
  obtain ⟨ao, cap, ⟨c0, c1, c2, c3, c4, c5, c6, c7, c8, c9⟩, ⟨f0, f1, f2, f3, f4, f5, f6, f7, f8, f9⟩, hb, HC1, H1, H3⟩ := fns_open HA5.out
  dsimp only [Qf.more, Qf.got] at c6
  have CU := Lib.hid (fun W (h : FQ b H5 W (q.got 2 ⟨#[]⟩).more) => show Calls Tryz.prog 65 #[ptrP b] W fun e w' => e = .returned (.int .i64 (q.len : Nat)) ∧ Below W.heap.size W w' from fp_units b H5 W ((q.got 2 ⟨#[]⟩).more) h HF.out)
  generalize q.len = n at *
  generalize hz : q.unit + 1 = z at c6
  clear c0 c1 c2 c3 c4 c5 c7 c8 c9
  go_region_held3 (fun W => W.cell? ⟨b, 6, none⟩ = some (.int .i64 z))
    (first | exact c6 | assumption | exact hz ▸ d6)
    (first | (go_at_call 65; refine (CU.out _ (HA5.out.below (Below.refl _ _).drew)).mono ?_; rintro e w6 ⟨rfl, hb6⟩; have HB6 := Lib.hid (below_on (w1 := w5) hb6 (Below.refl _ _).drew); have HA6 := Lib.hid (HA5.out.below HB6.out); obtain ⟨ao6, cap6, ⟨d0, d1, d2, d3, d4, d5, d6, d7, d8, d9⟩, _, hb7, _, _, _⟩ := fns_open HA6.out; dsimp only [Qf.more, Qf.got] at d6 d7 d8; clear hb6))
  by_cases hn : z = (n : Int)
  · have e9 : (z == (n : Int)) = true := by simpa using hn
    have HN := Lib.hid (HR1.out (hz.trans hn))
    clear hn
    go_wp2_with (go_at_call 48; refine (fp_end b _ _ (q.got 2 ⟨#[]⟩).more _ _ 0 HA6.out).mono ?_; rintro e w9 ⟨rfl, hl⟩; have HL9 := Lib.hid hl; clear hl)
    rw [noGoto_normal]
    go_end0
    exact ⟨rfl, HN.out.symm ▸ (HU.out _ _ (HU5.out _ _ (HL9.out.ahead HH5.out HB6.out))).ahead HG.out HB.out⟩
  · have e9 : (z == (n : Int)) = false := by simpa using hn
    have HN := Lib.hid (HR2.out (fun e => hn (hz.symm.trans e)))
    clear hn
    go_wp2_with fail
    rw [noGoto_normal]
    go_end0
    exact ⟨rfl, HN.out.symm ▸ (HU.out _ _ (HU5.out _ _ (Leaves.same (fq_thing b) HA5.out HB6.out))).ahead HG.out HB.out⟩
set_option maxHeartbeats 2000000 in
theorem fs_text (b : Nat) (G : Nat → Prop) (w : World) (q : Qf) (xc xn : Int) (xd : ByteArray) (xe : Int) (xL : List (List Int)) (xm xs xy : Int) (xo : Option Addr) (xp : Nat) (h : FQ b G w q) (ha : q.at_ = 2 ∨ q.at_ = 3) (hf : fewL q.L) (hu : 0 ≤ q.unit ∧ q.unit ≤ 100) (hd : xd.size ≤ 1000000) :
    Calls Tryz.prog 43 #[ptrP b, .agg #[.int .i64 0, .int .i64 xn, .string xd, .int .i64 xe, .slice xo xL.length xp, .int .i64 xm, .int .i64 xs, .int .i64 xy]] w fun e w' => e = .returned (.tuple #[]) ∧ Leaves (FQ b) G w w' ((q.got 1 xd).mend) := by
  obtain ⟨HG, HB, HX, HA, ⟨x0, x1, x2, x3, x4, x5, x6, x7⟩, ao, cap, ⟨c0, c1, c2, c3, c4, c5, c6, c7, c8, c9⟩, ⟨f0, f1, f2, f3, f4, f5, f6, f7, f8, f9⟩, hb, HC1, H1, H3⟩ := fns_start h 0 xn xd xe xo xL.length xp xm xs xy rfl
  have HF := Lib.hid hf
  have hw : IntKind.i64.wrap (q.unit + 1) = q.unit + 1 := IntWalk.i64_in _ (by omega)
  have HR1 := Lib.hid (show q.unit + 1 = (q.len : Int) → (q.got 1 xd).mend = (q.got 1 xd).more.ends 1 xd 0 from fun e => if_pos e)
  have HR2 := Lib.hid (show ¬ q.unit + 1 = (q.len : Int) → (q.got 1 xd).mend = (q.got 1 xd).more from fun e => if_neg e)
  clear hf
  have CK := Lib.hid (fun w => clone_any xd w (by omega))
  clear hd
  rcases ha with ha | ha
  all_goals
    rw [ha] at c4
    clear h
    unfold ptrP at *
    go_enter Tryz.func43, Tryz.ntmps43
    go_wp2_with fail
    generalize w.alloc _ = w1 at *
    refine wp_scope_two 1 5 rfl rfl ?_
    generalize hQ : Exit.jump _ _ _ = QJ
    go_wp2_with fail
    go_step3
    show QJ (.goto 1) _ _
    rw [← hQ]
    refine jump_two ?_
    generalize hQ2 : Exit.jump _ _ _ = QJ2
    go_wp2_with (go_at_call 37; refine (CK.out _).mono ?_; rintro e w2 ⟨rfl, hb2⟩; have HB2 := Lib.hid (HB.out.trans (hb2.mono HB.out.size)); have HA2 := Lib.hid (HA.out.below hb2); clear c0 c1 c2 c3 c4 c5 c6 c7 c8 c9 f0 f1 f2 f3 f4 f5 f6 f7 f8 f9 hb HC1 H1 H3; obtain ⟨ao, cap, ⟨c0, c1, c2, c3, c4, c5, c6, c7, c8, c9⟩, ⟨f0, f1, f2, f3, f4, f5, f6, f7, f8, f9⟩, hb, HC1, H1, H3⟩ := fns_open HA2.out; clear hb2)
    have HL := Lib.hid (H3.out _ (q.got 1 xd) (((Kept.refl _ w2).setCell (p := ⟨b, 7, none⟩) (fun h => h rfl) (.int .i64 1)).setCell (p := ⟨b, 8, none⟩) (fun h => h rfl) (.string xd)) rfl (tset8 (tset7 H1.out _) _))
    generalize World.setCell (World.setCell w2 _ _) _ _ = wm at *
    obtain ⟨H, hA, hU⟩ := lv_use (fun k hk => (fq_thing b).lt HA2.out k hk) HL.out
    have HU := Lib.hid hU
    have HAm := Lib.hid hA
    clear hA hU HL
    clear c0 c1 c2 c3 c4 c5 c6 c7 c8 c9 f0 f1 f2 f3 f4 f5 f6 f7 f8 f9 hb HC1 H1 H3
    obtain ⟨ao, cap, ⟨c0, c1, c2, c3, c4, c5, c6, c7, c8, c9⟩, ⟨f0, f1, f2, f3, f4, f5, f6, f7, f8, f9⟩, hb, HC1, H1, H3⟩ := fns_open HAm.out
    dsimp only [Qf.got] at c6
    go_step3
    show QJ2 (.goto 5) _ _
    rw [← hQ2]
    refine jump_one ?_
    go_wp2_with fail
    have HL5 := Lib.hid (H3.out _ ((q.got 1 xd).more) (((Kept.refl _ wm).setCell (p := ⟨b, 4, none⟩) (fun h => h rfl) (.int .i64 5)).setCell (p := ⟨b, 6, none⟩) (fun h => h rfl) (.int .i64 (q.unit + 1))) rfl (tset6 (tset4 H1.out _) _))
    generalize World.setCell (World.setCell wm _ _) _ _ = w5 at *
    obtain ⟨H5, hA5, hU5⟩ := lv_use (fun k hk => (fq_thing b).lt HAm.out k hk) HL5.out
    have HU5 := Lib.hid hU5
    have HA5 := Lib.hid hA5
    have HH5 := Lib.hid (fun k hk => (fq_thing b).lt hA5 k hk)
    clear hA5 hU5 HL5
    clear c0 c1 c2 c3 c4 c5 c6 c7 c8 c9 f0 f1 f2 f3 f4 f5 f6 f7 f8 f9 hb HC1 H1 H3
    obtain ⟨ao, cap, ⟨c0, c1, c2, c3, c4, c5, c6, c7, c8, c9⟩, ⟨f0, f1, f2, f3, f4, f5, f6, f7, f8, f9⟩, hb, HC1, H1, H3⟩ := fns_open HA5.out
    dsimp only [Qf.more, Qf.got] at c6
    have CU := Lib.hid (fun W (h : FQ b H5 W (q.got 1 xd).more) => show Calls Tryz.prog 65 #[ptrP b] W fun e w' => e = .returned (.int .i64 (q.len : Nat)) ∧ Below W.heap.size W w' from fp_units b H5 W ((q.got 1 xd).more) h HF.out)
    generalize q.len = n at *
    generalize hz : q.unit + 1 = z at c6
    clear c0 c1 c2 c3 c4 c5 c7 c8 c9
    go_region_held3 (fun W => W.cell? ⟨b, 6, none⟩ = some (.int .i64 z))
      (first | exact c6 | assumption | exact hz ▸ d6)
      (first | (go_at_call 65; refine (CU.out _ (HA5.out.below (Below.refl _ _).drew)).mono ?_; rintro e w6 ⟨rfl, hb6⟩; have HB6 := Lib.hid (below_on (w1 := w5) hb6 (Below.refl _ _).drew); have HA6 := Lib.hid (HA5.out.below HB6.out); obtain ⟨ao6, cap6, ⟨d0, d1, d2, d3, d4, d5, d6, d7, d8, d9⟩, _, hb7, _, _, _⟩ := fns_open HA6.out; dsimp only [Qf.more, Qf.got] at d6 d7 d8; clear hb6))
    by_cases hn : z = (n : Int)
    · have e9 : (z == (n : Int)) = true := by simpa using hn
      have HN := Lib.hid (HR1.out (hz.trans hn))
      clear hn
      go_wp2_with (go_at_call 48; refine (fp_end b _ _ (q.got 1 xd).more _ _ 0 HA6.out).mono ?_; rintro e w9 ⟨rfl, hl⟩; have HL9 := Lib.hid hl; clear hl)
      rw [noGoto_normal]
      go_end0
      exact ⟨rfl, HN.out.symm ▸ (HU.out _ _ (HU5.out _ _ (HL9.out.ahead HH5.out HB6.out))).ahead HG.out HB2.out⟩
    · have e9 : (z == (n : Int)) = false := by simpa using hn
      have HN := Lib.hid (HR2.out (fun e => hn (hz.symm.trans e)))
      clear hn
      go_wp2_with fail
      rw [noGoto_normal]
      go_end0
      exact ⟨rfl, HN.out.symm ▸ (HU.out _ _ (HU5.out _ _ (Leaves.same (fq_thing b) HA5.out HB6.out))).ahead HG.out HB2.out⟩
end Go.Proofs.YthffjanidjjkdaaGreat
