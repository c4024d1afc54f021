/- The law UnitPlays: questions of any epochs, crashes and starts, one behind the other, are answered as the document's own unit answers. Conditions: the program's functions return what UnitSays says. -/
import Derived.Test.YtaodmdoagngdnaaUnpH
import Derived.Test.YtaodmdoagngdnaaUniI
import Derived.Deep.RegionHeld3
import Derived.Deep.RegionHeldLaw
import Derived.Deep.RegionWith
import Derived.Deep.CutRange
import Derived.Deep.CutBlock
namespace Go.Proofs.Ytaodmdoagngdnaa
open Go.ChangeShapes Go.WideShapes Go.ChangeAt Go.RowKit
open Go.ChangeMaps (open_string shut_string)
set_option linter.unusedVariables false
set_option maxRecDepth 20000

section
variable {UG : Nat → Nat → (Nat → Prop) → World → Us → Prop} {B b pb r q : Nat} {w W W' : World} {u : Us}
/-- all that is looked at behind a step -/
def Look (UG : Nat → Nat → (Nat → Prop) → World → Us → Prop) (B : Nat) (w : World) (b pb r q : Nat) (u : Us) (W : World) : Prop := Side (UG b pb) (RU r q) (fun k => k < B) W u u ∧ Below B w W ∧ B ≤ W.heap.size
theorem Look.step (HS : UnitSays UG) (h : Look UG B w b pb r q u W) (hb : Below W.heap.size W W') : Look UG B w b pb r q u W' :=
  ⟨h.1.below (HS.thing b pb) (ru_thing r q) hb, h.2.1.trans (hb.mono h.2.2), Nat.le_trans h.2.2 hb.size⟩
theorem look_in (HS : UnitSays UG) (h : Look UG B w b pb r q u W) : W.cell? ⟨r, 0, none⟩ = some (.pointer (some ⟨q, 0, none⟩)) ∧ W.cell? ⟨r, 1, none⟩ = some (.int .i64 u.epoch) ∧ W.cell? ⟨r, 2, none⟩ = some (.bool u.down) ∧ Look UG B w b pb r q u W := by
  obtain ⟨c0, c1, c2, _⟩ := s_cells h.1
  exact ⟨c0, c1, c2, h⟩
theorem look_on (HS : UnitSays UG) (hS : W.cell? ⟨r, 0, none⟩ = some (.pointer (some ⟨q, 0, none⟩)) ∧ W.cell? ⟨r, 1, none⟩ = some (.int .i64 u.epoch) ∧ W.cell? ⟨r, 2, none⟩ = some (.bool u.down) ∧ Look UG B w b pb r q u W) (hb : Below W.heap.size W W') :
    W'.cell? ⟨r, 0, none⟩ = some (.pointer (some ⟨q, 0, none⟩)) ∧ W'.cell? ⟨r, 1, none⟩ = some (.int .i64 u.epoch) ∧ W'.cell? ⟨r, 2, none⟩ = some (.bool u.down) ∧ Look UG B w b pb r q u W' := look_in HS (hS.2.2.2.step HS hb)
theorem look_side (hS : W.cell? ⟨r, 0, none⟩ = some (.pointer (some ⟨q, 0, none⟩)) ∧ W.cell? ⟨r, 1, none⟩ = some (.int .i64 u.epoch) ∧ W.cell? ⟨r, 2, none⟩ = some (.bool u.down) ∧ Look UG B w b pb r q u W) : Side (UG b pb) (RU r q) (fun k => k < B) W u u := hS.2.2.2.1
end
set_option maxHeartbeats 16000000 in
theorem unitPlays_walk {UG : Nat → Nat → (Nat → Prop) → World → Us → Prop} (HS : UnitSays UG) (x : Int) (ao : Option Addr) (cap : Nat) (l : List Sk) (wx : (Lit.int .i64 x).wf = true) (hl : l.length ≤ maxLen) (w : World) (hR : Row w ao 10 stepC l) (hK : ∀ s ∈ l, SkIn w s) :
    Calls Try.prog 3 #[.int .i64 x, .slice ao l.length cap] w fun e w' => e = .returned (.bool true) ∧ Below w.heap.size w w' := by
  have CW := Lib.hid (fun w => wakes10_any HS w)
  have hl2 : l.length ≤ maxLen := hl
  have hl3 : l.length ≤ 9223372036854775807 := hl
  by_cases hr : 1 ≤ x ∧ x ≤ 4096
  case neg =>
    have C1 := Lib.hid (HS.new_no x w (by omega) wx)
    have C2 := Lib.hid (fun w => ru_new_no x w (by omega))
    clear hr wx hl hl2
    go_enter Try.func3, Try.ntmps3
    go_wp2_with (first
      | (go_at_call 7; refine C1.out.mono ?_; rintro e w1 ⟨rfl, hb1⟩; have B1 := Lib.hid hb1; clear hb1)
      | (go_at_call 8; refine (C2.out _).mono ?_; rintro e w2 ⟨rfl, rfl⟩)
      | (go_at_call 10; refine (CW.out _).mono ?_; rintro e w3 ⟨rfl, hb3⟩))
    go_ret
    exact ⟨rfl, B1.out.trans (hb3.mono B1.out.size)⟩
  case pos =>
  have CN := Lib.hid (u_new HS w hr)
  have CM := Lib.hid (fun w => ru_new_yes x w hr)
  have TT := Lib.hid (fun b pb => HS.thing b pb)
  unfold ptrV at CN
  unfold ptrU at CM
  clear wx hr hl
  go_enter Try.func3, Try.ntmps3
  go_wp2_with (first
    | (go_at_call 7; refine CN.out.mono ?_; rintro e w1 ⟨b, pb, rfl, hu1, hb1⟩; have U1 := Lib.hid hu1; have B1 := Lib.hid hb1; clear hu1 hb1)
    | (go_at_call 8; refine (CM.out _).mono ?_; rintro e w2 ⟨r, q, G2, rfl, hu2, hg2, hb2⟩; have D2 := Lib.hid (Side.made (TT.out b pb) U1.out hb2 hu2 hg2); have B2 := Lib.hid (B1.out.trans (hb2.mono B1.out.size)); clear hu2 hg2 hb2 U1 B1))
  refine (fair10_any ao cap l _ hl2 (hR.below B2.out) (fun s hs => ⟨(hK s hs).1, (hK s hs).2.below B2.out⟩)).mono ?_
  rintro e w3 ⟨⟨c, rfl, hc⟩, hb3⟩
  have D3 := Lib.hid (D2.out.below (TT.out b pb) (ru_thing r q) hb3)
  have B3 := Lib.hid (B2.out.trans (hb3.mono B2.out.size))
  clear hb3 D2 B2 CN CM
  cases c
  · clear hc
    go_wp2_with (go_at_call 10; refine (CW.out _).mono ?_; rintro e w4 ⟨rfl, hb4⟩)
    go_ret
    exact ⟨rfl, B3.out.trans (hb4.mono B3.out.size)⟩
  have HFa := Lib.hid (hc rfl)
  have HF := Lib.hid hR
  have HK := Lib.hid hK
  clear hc hR hK
  go_wp2_with fail
  go_loopw [9] (fun i wr => ∃ (n : Nat) (u : Us), i = .int .i64 n ∧ n ≤ l.length ∧ Hid (Look UG w.heap.size w b pb r q u wr)) (fun i _ => l.length - (intOf i).toNat)
  case atStart => exact ⟨0, newU x, rfl, Nat.zero_le _, Lib.hid ⟨D3.out, B3.out, B3.out.size⟩⟩
  case round =>
    clear D3 B3
    obtain ⟨n, u, rfl, hn, HL⟩ := hrel
    by_cases hlt : n < l.length
    case neg =>
      obtain rfl : n = l.length := by omega
      go_wp2_with (go_at_call 10; refine (CW.out _).mono ?_; rintro e w6 ⟨rfl, hb6⟩)
      go_ret
      exact ⟨rfl, HL.out.2.1.trans (hb6.mono HL.out.2.2)⟩
    case pos =>
    have n0 : (n : Int) < (l.length : Int) := by omega
    obtain ⟨bk, off, hao, d0, _⟩ := step_at (HF.out.below HL.out.2.1) hlt
    subst hao
    have N9 := Lib.hid (fun (W : World) (h : Below w.heap.size w W) => nine_at HF.out hlt h)
    have HA := Lib.hid (HK.out _ (List.getElem_mem hlt)).2
    have HLA := Lib.hid (largeA_no (HFa.out.2 _ (List.getElem_mem hlt)))
    generalize l[n] = sk at *
    obtain ⟨sk, a⟩ := sk
    simp only at d0 N9 HA HLA
    have HS6 := Lib.hid (Nat.le_trans HLA.out.1 (show 6000 ≤ 1000000 by decide))
    clear HLA
    obtain ⟨kd, un, ep, pg, sz, nn, s, pe, L, ao2, cap2⟩ := a
    simp only at N9 HS6
    go_upto_block 2 with fail
    go_cut [] from 49 to 118 (fun wx => ∃ u1 : Us, Hid (Look UG w.heap.size w b pb r q u1 wx))
    case first =>
      by_cases q0 : sk = 0
      · have q0' : (sk == 0) = true := by rw [q0]; rfl
        clear q0
        have SD0 := Lib.hid (HL.out.1.below (TT.out b pb) (ru_thing r q) (w' := wr.drew) (Below.refl _ _).drew)
        have HB0 := Lib.hid (show Below w.heap.size w wr.drew from HL.out.2.1.drew)
        have HZ0 := Lib.hid (show w.heap.size ≤ wr.drew.heap.size from HL.out.2.2)
        have HAd := Lib.hid (HA.out.below HB0.out)
        have HEP := Lib.hid HA.out.1.epoch
        obtain ⟨c4, n4, s4, e4, hans⟩ : ∃ c4 n4 s4 e4, (u.ans ⟨kd, un, ep, pg, sz, nn, s, pe, L, ao2, cap2⟩).code = c4 ∧ (u.ans ⟨kd, un, ep, pg, sz, nn, s, pe, L, ao2, cap2⟩).n = n4 ∧ (u.ans ⟨kd, un, ep, pg, sz, nn, s, pe, L, ao2, cap2⟩).data = s4 ∧ (u.ans ⟨kd, un, ep, pg, sz, nn, s, pe, L, ao2, cap2⟩).epoch = e4 := ⟨_, _, _, _, rfl, rfl, rfl, rfl⟩
        have HE := Lib.hid hans
        clear hans HA d0
        go_wp2_with fail
        go_region_held3 (fun W => W.cell? ⟨bk, off + n * 10 + 1, none⟩ = some (.int .i64 kd) ∧ W.cell? ⟨bk, off + n * 10 + 1 + 1, none⟩ = some (.int .i64 un) ∧ W.cell? ⟨bk, off + n * 10 + 1 + 2, none⟩ = some (.int .i64 ep) ∧ W.cell? ⟨bk, off + n * 10 + 1 + 3, none⟩ = some (.int .i64 pg) ∧ W.cell? ⟨bk, off + n * 10 + 1 + 4, none⟩ = some (.int .i64 sz) ∧ W.cell? ⟨bk, off + n * 10 + 1 + 5, none⟩ = some (.int .i64 nn) ∧ W.cell? ⟨bk, off + n * 10 + 1 + 6, none⟩ = some (.string s) ∧ W.cell? ⟨bk, off + n * 10 + 1 + 7, none⟩ = some (.int .i64 pe) ∧ W.cell? ⟨bk, off + n * 10 + 1 + 8, none⟩ = some (.slice ao2 L.length cap2))
          (first | exact N9.out _ HB6.out | exact N9.out _ HB5.out | exact N9.out _ HB4.out | exact N9.out _ HB0.out)
          (first
            | (go_at_call 12; refine (s_ask HS SD0.out (a := ⟨kd, un, ep, pg, sz, nn, s, pe, L, ao2, cap2⟩) HAd.out HS6.out).mono ?_; rw [HE.out.1, HE.out.2.1, HE.out.2.2.1, HE.out.2.2.2]; rintro e w4 ⟨rfl, h4, k4⟩; have SD4 := Lib.hid h4; have HB4 := Lib.hid (HB0.out.trans (k4.toBelow HZ0.out (fun k h => h))); have HZ4 := Lib.hid (Nat.le_trans HZ0.out k4.size); clear h4 k4; unfold anV)
            | (go_at_call 13; refine (s_rask HS SD4.out (a := ⟨kd, un, ep, pg, sz, nn, s, pe, L, ao2, cap2⟩) HEP.out HS6.out).mono ?_; rw [HE.out.1, HE.out.2.1, HE.out.2.2.1, HE.out.2.2.2]; rintro e w5 ⟨rfl, h5, k5⟩; have SD5 := Lib.hid h5; have HB5 := Lib.hid (HB4.out.trans (k5.toBelow HZ4.out (fun k h => h))); have HZ5 := Lib.hid (Nat.le_trans HZ4.out k5.size); clear h5 k5; unfold anV)
            | (go_at_call 11; refine (answer_same (anP c4 n4 s4 e4) none none 0 0 _ (CL.nil _ _) (CL.nil _ _) ⟨Nat.zero_le _, fun c hc => by cases hc⟩).mono ?_; rintro e w6 ⟨rfl, hb6⟩; have SD6 := Lib.hid (SD5.out.below (TT.out b pb) (ru_thing r q) hb6); have HB6 := Lib.hid (HB5.out.trans (hb6.mono HZ5.out)); have HZ6 := Lib.hid (Nat.le_trans HZ5.out hb6.size); clear hb6))
        all_goals
          go_wp2_with fail
          go_meet
          case rel => exact ⟨u.done ⟨kd, un, ep, pg, sz, nn, s, pe, L, ao2, cap2⟩, Lib.hid ⟨SD6.out, HB6.out, HZ6.out⟩⟩
      have q0' : (sk == 0) = false := beq_eq_false_iff_ne.2 q0
      by_cases q1 : sk = 1
      · have q1' : (sk == 1) = true := by rw [q1]; rfl
        clear q0 q1
        go_wp2_with fail
        refine (s_crash HS HL.out.1).mono ?_
        rintro e w4 ⟨rfl, h4, k4⟩
        have D4 := Lib.hid h4
        have B4 := Lib.hid (HL.out.2.1.trans (k4.toBelow HL.out.2.2 (fun k h => h)))
        have Z4 := Lib.hid (Nat.le_trans HL.out.2.2 k4.size)
        obtain ⟨c0, c1, c2, f2⟩ := s_cells h4
        clear h4 k4
        go_wp2_with fail
        go_meet
        case rel => exact ⟨⟨u.p, u.epoch, true⟩, Lib.hid ⟨(s_set HS D4.out true).1, B4.out.trans ((s_set HS D4.out true).2.toBelow Z4.out (fun k h => h)), Nat.le_trans Z4.out (s_set HS D4.out true).2.size⟩⟩
      have q1' : (sk == 1) = false := beq_eq_false_iff_ne.2 q1
      by_cases q2 : sk = 2
      · have q2' : (sk == 2) = true := by rw [q2]; rfl
        clear q0 q1 q2
        go_wp2_with fail
        refine (s_start HS HL.out.1).mono ?_
        rintro e w4 ⟨rfl, h4, k4⟩
        have D4 := Lib.hid h4
        have B4 := Lib.hid (HL.out.2.1.trans (k4.toBelow HL.out.2.2 (fun k h => h)))
        have Z4 := Lib.hid (Nat.le_trans HL.out.2.2 k4.size)
        obtain ⟨c0, c1, c2, f2⟩ := s_cells h4
        clear h4 k4
        go_wp2_with fail
        go_meet
        case rel => exact ⟨⟨u.p, u.epoch, false⟩, Lib.hid ⟨(s_set HS D4.out false).1, B4.out.trans ((s_set HS D4.out false).2.toBelow Z4.out (fun k h => h)), Nat.le_trans Z4.out (s_set HS D4.out false).2.size⟩⟩
      · have q2' : (sk == 2) = false := beq_eq_false_iff_ne.2 q2
        clear q0 q1 q2
        go_wp2_with fail
        go_meet
        case rel => exact ⟨u, HL⟩
    case rest =>
      obtain ⟨u1, HL1⟩ := hcut
      clear HL N9 HA HS6 d0 u
      have dd : (u1.down != u1.down) = false := by cases u1.down <;> rfl
      have HLd := Lib.hid (HL1.out.step HS (W' := wc.drew) (Below.refl _ _).drew)
      go_wp2_with fail
      go_region_held3 (fun W => W.cell? ⟨r, 0, none⟩ = some (.pointer (some ⟨q, 0, none⟩)) ∧ W.cell? ⟨r, 1, none⟩ = some (.int .i64 u1.epoch) ∧ W.cell? ⟨r, 2, none⟩ = some (.bool u1.down) ∧ Look UG w.heap.size w b pb r q u1 W)
        (first | exact look_in HS HLd.out | exact look_on HS (by assumption) g8 | exact look_on HS (by assumption) g7 | exact look_on HS (by assumption) g6 | exact look_on HS (by assumption) g5 | exact look_on HS (by assumption) g4 | exact look_on HS (by assumption) g3 | exact look_on HS (by assumption) g2 | exact look_on HS (by assumption) g1)
        (first
          | (go_at_call 16; refine (s_look HS (look_side (by assumption)) (fun G hG => HS.down b pb G _ _ hG)).mono ?_; rintro e y1 ⟨rfl, g1⟩)
          | (go_at_call 17; refine (s_look HS (look_side (by assumption)) (fun G hG => HS.epoch b pb G _ _ hG)).mono ?_; rintro e y2 ⟨rfl, g2⟩)
          | (go_at_call 18; refine (s_look HS (look_side (by assumption)) (fun G hG => HS.pages b pb G _ _ hG)).mono ?_; rintro e y3 ⟨rfl, g3⟩; unfold ptrV)
          | (go_at_call 19; refine (s_look HS (look_side (by assumption)) (fun G hG => HS.used b pb G _ _ hG)).mono ?_; rintro e y4 ⟨rfl, g4⟩)
          | (go_at_call 21; refine (s_look HS (look_side (by assumption)) (fun G hG => HS.tail b pb G _ _ hG)).mono ?_; rintro e y5 ⟨rfl, g5⟩)
          | (go_at_call 20; refine (s_rused (look_side (by assumption))).mono ?_; rintro e y6 ⟨rfl, g6⟩)
          | (go_at_call 22; refine (s_rtail (look_side (by assumption))).mono ?_; rintro e y7 ⟨rfl, g7⟩))
      all_goals
        go_wp2_with fail
        go_roundw
        case rel => rename_i hS; exact ⟨n + 1, u1, by go_num, by omega, Lib.hid hS.2.2.2⟩
        case measure => simp [intOf]; omega

set_option maxRecDepth 100000 in
theorem unitPlays_lifted (os : Os) (started : os.Started) (H : Type) (enc : TypeId × Value → H) :
    ReturnsInHanded {} Try.checked os 3 .any (Rows.unitPlaysSpec.pre6 enc Try.prog Try.f3 Rows.unitPlaysRow.domain false) (Rows.unitPlaysSpec.post enc Try.prog Try.f3 false true false false) := by
  refine returnsInHanded_of_change (C := Try.checked) own started (by kernel_rfl) Try.func3
    (ChangeSpec.witness6 (enc := enc) (C := Try.checked) false ⟨#[], #[.int .i64 0, .slice none 0 0], []⟩ 8 (by kernel_rfl) (by kernel_rfl) (by kernel_rfl) (by kernel_rfl)) ?_
  intro W base args ds gs before hval0 hW hcnd _
  have hval : ∀ (j : Nat) t v, Try.f3.params[j]? = some t → args[j]? = some v → Value.okWide Try.prog W .any base t v := hval0
  have hW' := hW
  obtain ⟨p, q, hA0, hV, rfl, hfz, hnd⟩ := hW
  have hA : DataW.TrodAll enc Try.prog W 0 (fun _ => true) true Try.f3.params.toList args.toList ds p := hA0
  rw [Try.params3] at hA hval
  obtain ⟨v0, vs0, d0, ds0, p0, q0, hargs, rfl, rfl, h0, r0⟩ := trodAll_cons hA
  obtain ⟨v1, vs1, d1, ds1, p1, q1, rfl, rfl, rfl, h1, r1⟩ := trodAll_cons r0
  obtain ⟨rfl, rfl, rfl⟩ := trodAll_nil r1
  obtain rfl : args = #[v0, v1] := by cases args; simp_all
  obtain ⟨rfl, rfl⟩ := trodVars_none hV
  have k0 := h0
  have lt0 : ∀ x ∈ p0, x.block < W.heap.size := by obtain ⟨m, hm⟩ := k0; exact DataW.trod_lt m _ _ _ hm
  have k1 := h1
  have lt1 : ∀ x ∈ p1, x.block < W.heap.size := by obtain ⟨m, hm⟩ := k1; exact DataW.trod_lt m _ _ _ hm
  obtain ⟨a0, rfl, rfl, rfl, w0⟩ := open_int Try.underlying3 (hval 0 3 v0 rfl rfl) h0
  obtain ⟨ao1, cap1, L1, rfl, w1, hR1, hK1, hn1, hc1⟩ := open_rows (f := stepC) (ok := SkIn) (n := 9) Try.underlying22 (by kernel_rfl) (fun m cs y hl hf => step_cs askT Try.underlying38 rfl rfl hl hf) (hval 1 22 v1 rfl rfl) h1
  clear hA0 hval0
  refine (unitPlays_walk unitSays a0 ao1 cap1 L1 w0 w1 W hR1 hK1).mono fun e W' ⟨he, bel⟩ => ?_
  subst he
  exact ⟨_, rfl, _, _, _, [], _, [], hW', trodAll_mk1 (shut_bool Try.underlying4 _), (trodAll_cons_mk (Below.trod laidOut (by kernel_rfl) (of_decide_eq_true (by kernel_rfl)) k0 bel lt0) (trodAll_cons_mk (Below.trod laidOut (by kernel_rfl) (of_decide_eq_true (by kernel_rfl)) k1 bel lt1) trodAll_mk0)), rfl, bel.frame _, fun h => by cases h⟩

theorem unitPlays_over : Rows.unitPlaysRow.holds Try.pinned (OpenSpec.ofChange Rows.unitPlaysSpec) :=
  OpenClaim.holds_of_wide 3 Try.f3 rfl rfl rfl rfl rfl rfl rfl ⟨rfl, rfl, rfl, rfl, rfl⟩ rfl rfl rfl rfl rfl (by kernel_rfl) Try.func3 (by kernel_rfl)
    (of_decide_eq_true (by kernel_rfl)) (by unfold Func.isWrapper; first | (rw [if_pos (by decide +kernel)]; kernel_rfl) | (rw [if_neg (by decide +kernel)]; exact ⟨rfl, rfl⟩))
    (fun os started H enc _ => unitPlays_lifted os started H enc)

/-- THE STATEMENT -/
theorem unitPlays_holds : Rows.UnitPlaysSaid := unitPlays_over 
end Go.Proofs.Ytaodmdoagngdnaa
