/- What the program's append makes of what a unit answers to a question Read. Conditions: it lies where the call was told; the answer's chains lie there too. (Written by gen/genamp.py.) -/
import Derived.Test.YtimjlfkdbkafeaaGreatG32a
set_option linter.unusedVariables false
namespace Go.Proofs.YtimjlfkdbkafeaaGreat
set_option linter.unusedVariables false
open Go.RowKit
set_option maxRecDepth 20000
theorem str_no {p q : ByteArray} (h : ¬ p = q) : (p.toList == q.toList) = false := by
  rw [beq_eq_false_iff_ne]
  exact fun e => h (by rw [ByteArray.toList_eq, ByteArray.toList_eq] at e; exact ByteArray.ext (Array.ext' e))
set_option maxHeartbeats 2000000 in
theorem lk_next (b : Nat) (G : Nat → Prop) (w : World) (q : Qa) (xc xn : Int) (xe : Int) (xL : List (List Int)) (xm xs xy : Int) (xo : Option Addr) (xp : Nat) (h : AQ b G w q) (ha : q.at_ = 4) (hf : fewL q.L) (hu : 0 ≤ q.unit ∧ q.unit ≤ 100) (R : Qa) (h1R : q.unit + 1 = ((chainR q.ep q.L q.addr).length : Int) → R = (q.more q.at_).ends q.addr 0) (h2R : ¬ q.unit + 1 = ((chainR q.ep q.L q.addr).length : Int) → R = q.more 3) :
    Calls Tryz.prog 40 #[ptrP b, .agg #[.int .i64 0, .int .i64 xn, .string q.txt, .int .i64 xe, .slice xo xL.length xp, .int .i64 xm, .int .i64 xs, .int .i64 xy]] w fun e w' => e = .returned (.tuple #[]) ∧ Leaves (AQ b) G w w' (R) := by
  obtain ⟨HG, HB, HX, HA, ⟨x0, x1, x2, x3, x4, x5, x6, x7⟩, ao, cap, ⟨c0, c1, c2, c3, c4, c5, c6, c7, c8⟩, ⟨f0, f1, f2, f3, f4, f5, f6, f7, f8⟩, hb, HC1, H1, H3⟩ := ans_start h 0 xn q.txt xe xo xL.length xp xm xs xy rfl
  rw [ha] at c3
  have s2 : (q.txt.toList == q.txt.toList) = true := beq_self_eq_true _
  have hw : IntKind.i64.wrap (q.unit + 1) = q.unit + 1 := IntWalk.i64_in _ (by omega)
  have HR1 := Lib.hid h1R
  have HR2 := Lib.hid h2R
  clear h1R h2R
  clear h
  unfold ptrP at *
  go_enter Tryz.func40, Tryz.ntmps40
  go_wp2_with fail
  generalize w.alloc _ = w1 at *
  refine wp_scope_one 3 rfl ?_
  generalize hQ : Exit.jump _ _ _ = QJ
  go_wp2_with fail
  go_quiet (fail)
  clear x0 x1 x2 x3 x4 x5 x6 x7 c0 c1 c2 c3 c4 c5 c6 c7 c8 f0 f1 f2 f3 f4 f5 f6 f7 f8 hb H1 H3
  obtain ⟨HB0, HA0, _, _, ao, cap, ⟨c0, c1, c2, c3, c4, c5, c6, c7, c8⟩, ⟨f0, f1, f2, f3, f4, f5, f6, f7, f8⟩, hb, H1, H3⟩ := ans_again HB HA HX (below_drewN (Below.refl w1.heap.size w1) nq)
  generalize World.drewN w1 nq = wv at *
  go_wp2_with fail
  go_step3
  show QJ (.goto 3) _ _
  rw [← hQ]
  refine jump_one ?_
  go_wp2_with fail
  have HL := Lib.hid (H3.out _ (q.more q.at_) ((Kept.refl _ wv).setCell (p := ⟨b, 6, none⟩) (fun h => h rfl) (.int .i64 (q.unit + 1))) rfl (nset6 H1.out _))
  generalize World.setCell wv _ _ = w5 at *
  obtain ⟨H, hA5, hU⟩ := lv_use (fun k hk => (aq_thing b).lt HA0.out k hk) HL.out
  have HU := Lib.hid hU
  have HA5 := Lib.hid hA5
  have HH := Lib.hid (fun k hk => (aq_thing b).lt hA5 k hk)
  obtain ⟨a5, k5, h1, hc5, h3⟩ := hA5.open
  dsimp only [Qa.more] at h1 hc5 h3
  have H51 := Lib.hid h1
  have HC5 := Lib.hid (hc5.below (Below.refl w5.heap.size w5).drew)
  have CH := Lib.hid (fun W (hC : CL W a5 q.L) => pChain_any q.ep a5 k5 q.L q.addr W hC hf)
  obtain ⟨⟨d0, d1, d2, d3, d4, d5, d6, d7, d8⟩, _⟩ := nine_of h1
  clear h1 hc5 h3 hU hA5 HL c0 c1 c2 c3 c4 c5 c6 c7 c8 f0 f1 f2 f3 f4 f5 f6 f7 f8 hb
  generalize (chainR q.ep q.L q.addr).length = n at *
  generalize hz : q.unit + 1 = z at d6
  go_region_held3 (fun W => W.cell? ⟨b, 0, none⟩ = some (.int .i64 q.ep) ∧ W.cell? ⟨b, 1, none⟩ = some (.slice a5 q.L.length k5) ∧ W.cell? ⟨b, 5, none⟩ = some (.int .i64 q.addr) ∧ W.cell? ⟨b, 6, none⟩ = some (.int .i64 z))
    (first | exact ⟨d0, d1, d5, d6⟩ | assumption | exact nx_keep (v6 := .int .i64 z) (hz ▸ H61.out))
    (first | (go_at_call 61; refine (CH.out _ HC5.out).mono ?_; rintro e w6 ⟨bo, cb, rfl, _, hb6⟩; have HB6 := Lib.hid (below_on (w1 := w5) hb6 (Below.refl _ _).drew); have H61 := Lib.hid (below_heap HB6.out H51.out); have HA6 := Lib.hid (HA5.out.below HB6.out); obtain ⟨⟨c0, c1, c2, c3, c4, c5, c6, c7, c8⟩, f0, f1, f2, f3, f4, f5, f6, f7, f8⟩ := nine_of H61.out; have hb := lt_of_block H61.out; clear hb6))
  by_cases hn : z = (n : Int)
  · have e9 : (z == (n : Int)) = true := by simpa using hn
    have HN := Lib.hid hn
    clear hn
    go_wp2_with (go_at_call 34; refine (ap_end b _ _ (q.more q.at_) q.addr 0 HA6.out).mono ?_; rintro e w9 ⟨rfl, hl⟩; have HR := Lib.hid hl; clear hl)
    rw [Exit.noGoto_ret]
    exact bodyPost_ret (results_none rfl _ _ _) rfl ⟨rfl, (HR1.out (hz.trans HN.out)).symm ▸ (HU.out _ _ (HR.out.ahead HH.out HB6.out)).ahead HG.out HB0.out⟩
  · have e9 : (z == (n : Int)) = false := by simpa using hn
    have HN := Lib.hid hn
    clear hn
    go_wp2_with fail
    go_step3
    go_wp2_with fail
    rw [Exit.noGoto_ret]
    obtain ⟨a6, k6, r1, _, r3⟩ := HA6.out.open
    exact bodyPost_ret (results_none rfl _ _ _) rfl ⟨rfl, (HR2.out (fun e => HN.out (hz.symm.trans e))).symm ▸ (HU.out _ _ ((r3 _ (q.more 3) ((Kept.refl _ w6).setCell (p := ⟨b, 3, none⟩) (fun h => h rfl) (.int .i64 3)) rfl (nset3 r1 _)).ahead HH.out HB6.out)).ahead HG.out HB0.out⟩
set_option maxHeartbeats 2000000 in
theorem lk_other (b : Nat) (G : Nat → Prop) (w : World) (q : Qa) (xc xn : Int) (xd : ByteArray) (xe : Int) (xL : List (List Int)) (xm xs xy : Int) (xo : Option Addr) (xp : Nat) (h : AQ b G w q) (ha : q.at_ = 4) (hd : ¬ xd = q.txt) :
    Calls Tryz.prog 40 #[ptrP b, .agg #[.int .i64 0, .int .i64 xn, .string xd, .int .i64 xe, .slice xo xL.length xp, .int .i64 xm, .int .i64 xs, .int .i64 xy]] w fun e w' => e = .returned (.tuple #[]) ∧ Leaves (AQ b) G w w' (q.to 2) := by
  obtain ⟨HG, HB, HX, HA, ⟨x0, x1, x2, x3, x4, x5, x6, x7⟩, ao, cap, ⟨c0, c1, c2, c3, c4, c5, c6, c7, c8⟩, ⟨f0, f1, f2, f3, f4, f5, f6, f7, f8⟩, hb, HC1, H1, H3⟩ := ans_start h 0 xn xd xe xo xL.length xp xm xs xy rfl
  rw [ha] at c3
  have s2 := str_no hd
  clear hd
  clear h
  unfold ptrP at *
  go_enter Tryz.func40, Tryz.ntmps40
  go_wp2_with fail
  generalize w.alloc _ = w1 at *
  refine wp_scope_one 2 rfl ?_
  generalize hQ : Exit.jump _ _ _ = QJ
  go_wp2_with fail
  go_quiet (fail)
  clear x0 x1 x2 x3 x4 x5 x6 x7 c0 c1 c2 c3 c4 c5 c6 c7 c8 f0 f1 f2 f3 f4 f5 f6 f7 f8 hb H1 H3
  obtain ⟨HB0, HA0, _, _, ao, cap, ⟨c0, c1, c2, c3, c4, c5, c6, c7, c8⟩, ⟨f0, f1, f2, f3, f4, f5, f6, f7, f8⟩, hb, H1, H3⟩ := ans_again HB HA HX (below_drewN (Below.refl w1.heap.size w1) nq)
  generalize World.drewN w1 nq = wv at *
  go_wp2_with fail
  go_step3
  show QJ (.goto 2) _ _
  rw [← hQ]
  refine jump_one ?_
  go_wp2_with fail
  rw [Exit.noGoto_ret]
  exact bodyPost_ret (results_none rfl _ _ _) rfl ⟨rfl, (H3.out _ (q.to 2) ((Kept.refl _ wv).setCell (p := ⟨b, 3, none⟩) (fun h => h rfl) _) rfl (nset3 H1.out _)).ahead HG.out HB0.out⟩
set_option maxHeartbeats 2000000 in
theorem lk_junk (b : Nat) (G : Nat → Prop) (w : World) (q : Qa) (xc xn : Int) (xd : ByteArray) (xe : Int) (xL : List (List Int)) (xm xs xy : Int) (xo : Option Addr) (xp : Nat) (h : AQ b G w q) (ha : q.at_ = 4)  :
    Calls Tryz.prog 40 #[ptrP b, .agg #[.int .i64 46, .int .i64 xn, .string xd, .int .i64 xe, .slice xo xL.length xp, .int .i64 xm, .int .i64 xs, .int .i64 xy]] w fun e w' => e = .returned (.tuple #[]) ∧ Leaves (AQ b) G w w' (q.to 2) := by
  obtain ⟨HG, HB, HX, HA, ⟨x0, x1, x2, x3, x4, x5, x6, x7⟩, ao, cap, ⟨c0, c1, c2, c3, c4, c5, c6, c7, c8⟩, ⟨f0, f1, f2, f3, f4, f5, f6, f7, f8⟩, hb, HC1, H1, H3⟩ := ans_start h 46 xn xd xe xo xL.length xp xm xs xy rfl
  rw [ha] at c3
  clear h
  unfold ptrP at *
  go_enter Tryz.func40, Tryz.ntmps40
  go_wp2_with fail
  generalize w.alloc _ = w1 at *
  refine wp_scope_one 2 rfl ?_
  generalize hQ : Exit.jump _ _ _ = QJ
  go_wp2_with fail
  go_quiet (fail)
  clear x0 x1 x2 x3 x4 x5 x6 x7 c0 c1 c2 c3 c4 c5 c6 c7 c8 f0 f1 f2 f3 f4 f5 f6 f7 f8 hb H1 H3
  obtain ⟨HB0, HA0, _, _, ao, cap, ⟨c0, c1, c2, c3, c4, c5, c6, c7, c8⟩, ⟨f0, f1, f2, f3, f4, f5, f6, f7, f8⟩, hb, H1, H3⟩ := ans_again HB HA HX (below_drewN (Below.refl w1.heap.size w1) nq)
  generalize World.drewN w1 nq = wv at *
  go_wp2_with fail
  go_step3
  show QJ (.goto 2) _ _
  rw [← hQ]
  refine jump_one ?_
  go_wp2_with fail
  rw [Exit.noGoto_ret]
  exact bodyPost_ret (results_none rfl _ _ _) rfl ⟨rfl, (H3.out _ (q.to 2) ((Kept.refl _ wv).setCell (p := ⟨b, 3, none⟩) (fun h => h rfl) _) rfl (nset3 H1.out _)).ahead HG.out HB0.out⟩
set_option maxHeartbeats 2000000 in
theorem lk_trimmed (b : Nat) (G : Nat → Prop) (w : World) (q : Qa) (xc xn : Int) (xd : ByteArray) (xe : Int) (xL : List (List Int)) (xm xs xy : Int) (xo : Option Addr) (xp : Nat) (h : AQ b G w q) (ha : q.at_ = 4)  :
    Calls Tryz.prog 40 #[ptrP b, .agg #[.int .i64 43, .int .i64 xn, .string xd, .int .i64 xe, .slice xo xL.length xp, .int .i64 xm, .int .i64 xs, .int .i64 xy]] w fun e w' => e = .returned (.tuple #[]) ∧ Leaves (AQ b) G w w' (q.to 2) := by
  obtain ⟨HG, HB, HX, HA, ⟨x0, x1, x2, x3, x4, x5, x6, x7⟩, ao, cap, ⟨c0, c1, c2, c3, c4, c5, c6, c7, c8⟩, ⟨f0, f1, f2, f3, f4, f5, f6, f7, f8⟩, hb, HC1, H1, H3⟩ := ans_start h 43 xn xd xe xo xL.length xp xm xs xy rfl
  rw [ha] at c3
  clear h
  unfold ptrP at *
  go_enter Tryz.func40, Tryz.ntmps40
  go_wp2_with fail
  generalize w.alloc _ = w1 at *
  refine wp_scope_one 2 rfl ?_
  generalize hQ : Exit.jump _ _ _ = QJ
  go_wp2_with fail
  go_quiet (fail)
  clear x0 x1 x2 x3 x4 x5 x6 x7 c0 c1 c2 c3 c4 c5 c6 c7 c8 f0 f1 f2 f3 f4 f5 f6 f7 f8 hb H1 H3
  obtain ⟨HB0, HA0, _, _, ao, cap, ⟨c0, c1, c2, c3, c4, c5, c6, c7, c8⟩, ⟨f0, f1, f2, f3, f4, f5, f6, f7, f8⟩, hb, H1, H3⟩ := ans_again HB HA HX (below_drewN (Below.refl w1.heap.size w1) nq)
  generalize World.drewN w1 nq = wv at *
  go_wp2_with fail
  go_step3
  show QJ (.goto 2) _ _
  rw [← hQ]
  refine jump_one ?_
  go_wp2_with fail
  rw [Exit.noGoto_ret]
  exact bodyPost_ret (results_none rfl _ _ _) rfl ⟨rfl, (H3.out _ (q.to 2) ((Kept.refl _ wv).setCell (p := ⟨b, 3, none⟩) (fun h => h rfl) _) rfl (nset3 H1.out _)).ahead HG.out HB0.out⟩
set_option maxHeartbeats 2000000 in
theorem lk_write (b : Nat) (G : Nat → Prop) (w : World) (q : Qa) (xc xn : Int) (xd : ByteArray) (xe : Int) (xL : List (List Int)) (xm xs xy : Int) (xo : Option Addr) (xp : Nat) (h : AQ b G w q) (ha : q.at_ = 4)  :
    Calls Tryz.prog 40 #[ptrP b, .agg #[.int .i64 42, .int .i64 xn, .string xd, .int .i64 xe, .slice xo xL.length xp, .int .i64 xm, .int .i64 xs, .int .i64 xy]] w fun e w' => e = .returned (.tuple #[]) ∧ Leaves (AQ b) G w w' (q.to 3) := by
  obtain ⟨HG, HB, HX, HA, ⟨x0, x1, x2, x3, x4, x5, x6, x7⟩, ao, cap, ⟨c0, c1, c2, c3, c4, c5, c6, c7, c8⟩, ⟨f0, f1, f2, f3, f4, f5, f6, f7, f8⟩, hb, HC1, H1, H3⟩ := ans_start h 42 xn xd xe xo xL.length xp xm xs xy rfl
  rw [ha] at c3
  clear h
  unfold ptrP at *
  go_enter Tryz.func40, Tryz.ntmps40
  go_wp2_with fail
  generalize w.alloc _ = w1 at *
  refine wp_scope_one 0 rfl ?_
  generalize hQ : Exit.jump _ _ _ = QJ
  go_wp2_with fail
  go_quiet (fail)
  clear x0 x1 x2 x3 x4 x5 x6 x7 c0 c1 c2 c3 c4 c5 c6 c7 c8 f0 f1 f2 f3 f4 f5 f6 f7 f8 hb H1 H3
  obtain ⟨HB0, HA0, _, _, ao, cap, ⟨c0, c1, c2, c3, c4, c5, c6, c7, c8⟩, ⟨f0, f1, f2, f3, f4, f5, f6, f7, f8⟩, hb, H1, H3⟩ := ans_again HB HA HX (below_drewN (Below.refl w1.heap.size w1) nq)
  generalize World.drewN w1 nq = wv at *
  go_wp2_with fail
  go_step3
  show QJ (.goto 0) _ _
  rw [← hQ]
  refine jump_one ?_
  go_wp2_with fail
  rw [Exit.noGoto_ret]
  exact bodyPost_ret (results_none rfl _ _ _) rfl ⟨rfl, (H3.out _ (q.to 3) ((Kept.refl _ wv).setCell (p := ⟨b, 3, none⟩) (fun h => h rfl) _) rfl (nset3 H1.out _)).ahead HG.out HB0.out⟩
set_option maxHeartbeats 2000000 in
theorem lk_over (b : Nat) (G : Nat → Prop) (w : World) (q : Qa) (xc xn : Int) (xd : ByteArray) (xe : Int) (xL : List (List Int)) (xm xs xy : Int) (xo : Option Addr) (xp : Nat) (h : AQ b G w q) (ha : q.at_ = 4) (n0 : ¬ xc = 0) (n46 : ¬ xc = 46) (n43 : ¬ xc = 43) (n42 : ¬ xc = 42) :
    Calls Tryz.prog 40 #[ptrP b, .agg #[.int .i64 xc, .int .i64 xn, .string xd, .int .i64 xe, .slice xo xL.length xp, .int .i64 xm, .int .i64 xs, .int .i64 xy]] w fun e w' => e = .returned (.tuple #[]) ∧ Leaves (AQ b) G w w' (q.ends 0 xc) := by
  obtain ⟨HG, HB, HX, HA, ⟨x0, x1, x2, x3, x4, x5, x6, x7⟩, ao, cap, ⟨c0, c1, c2, c3, c4, c5, c6, c7, c8⟩, ⟨f0, f1, f2, f3, f4, f5, f6, f7, f8⟩, hb, HC1, H1, H3⟩ := ans_start h xc xn xd xe xo xL.length xp xm xs xy rfl
  rw [ha] at c3
  have e0 : (xc == 0) = false := by simpa using n0
  have e46 : (xc == 46) = false := by simpa using n46
  have e43 : (xc == 43) = false := by simpa using n43
  have e42 : (xc == 42) = false := by simpa using n42
  clear h
  unfold ptrP at *
  go_enter Tryz.func40, Tryz.ntmps40
  go_wp2_with fail
  generalize w.alloc _ = w1 at *
  refine wp_scope_one 5 rfl ?_
  generalize hQ : Exit.jump _ _ _ = QJ
  go_wp2_with fail
  go_quiet (fail)
  clear x0 x1 x2 x3 x4 x5 x6 x7 c0 c1 c2 c3 c4 c5 c6 c7 c8 f0 f1 f2 f3 f4 f5 f6 f7 f8 hb H1 H3
  obtain ⟨HB0, HA0, _, _, ao, cap, ⟨c0, c1, c2, c3, c4, c5, c6, c7, c8⟩, ⟨f0, f1, f2, f3, f4, f5, f6, f7, f8⟩, hb, H1, H3⟩ := ans_again HB HA HX (below_drewN (Below.refl w1.heap.size w1) nq)
  generalize World.drewN w1 nq = wv at *
  go_wp2_with fail
  go_step3
  show QJ (.goto 5) _ _
  rw [← hQ]
  refine jump_one ?_
  go_wp2_with (go_at_call 34; refine (ap_end b _ _ q 0 xc HA0.out).mono ?_; rintro e w9 ⟨rfl, hl⟩; have HL := Lib.hid hl; clear hl)
  rw [noGoto_normal]
  go_end0
  exact ⟨rfl, HL.out.ahead HG.out HB0.out⟩
end Go.Proofs.YtimjlfkdbkafeaaGreat
