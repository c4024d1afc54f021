/- The law OrderPlays: starts, tokens, tails and crashes, one behind the other, are answered as the document's own sequencer answers. Conditions: none. -/
import Derived.Test.YtjckjffmjmcknaaOrdI
import Derived.Test.YtjckjffmjmcknaaSqpD
import Derived.Test.YtjckjffmjmcknaaAskK
import Derived.Deep.RegionHeld3
import Derived.Deep.RegionHeldLaw
namespace Go.Proofs.Ytjckjffmjmcknaa
open Go.ChangeShapes Go.WideShapes Go.ChangeAt Go.RowKit
open Go.ChangeMaps (open_string shut_string)
set_option linter.unusedVariables false
set_option maxRecDepth 20000

section
variable {OG : Nat → (Nat → Prop) → World → Od → Prop} {B b r : Nat} {w W W' : World} {o : Od}
/-- all that is looked at behind a step -/
def LookO (OG : Nat → (Nat → Prop) → World → Od → Prop) (B : Nat) (w : World) (b r : Nat) (o : Od) (W : World) : Prop := Side (OG b) (RO r) (fun k => k < B) W o o ∧ Below B w W ∧ B ≤ W.heap.size
theorem LookO.step (HS : OrderSays OG) (h : LookO OG B w b r o W) (hb : Below W.heap.size W W') : LookO OG B w b r o W' :=
  ⟨h.1.below (HS.thing b) (ro_thing r) hb, h.2.1.trans (hb.mono h.2.2), Nat.le_trans h.2.2 hb.size⟩
theorem looko_in (HS : OrderSays OG) (h : LookO OG B w b r o W) : W.cell? ⟨r, 0, none⟩ = some (.int .i64 o.epoch) ∧ W.cell? ⟨r, 2, none⟩ = some (.bool o.knows) ∧ LookO OG B w b r o W := by
  obtain ⟨c0, c1, c2, _⟩ := so_cells h.1
  exact ⟨c0, c2, h⟩
theorem looko_on (HS : OrderSays OG) (hS : W.cell? ⟨r, 0, none⟩ = some (.int .i64 o.epoch) ∧ W.cell? ⟨r, 2, none⟩ = some (.bool o.knows) ∧ LookO OG B w b r o W) (hb : Below W.heap.size W W') :
    W'.cell? ⟨r, 0, none⟩ = some (.int .i64 o.epoch) ∧ W'.cell? ⟨r, 2, none⟩ = some (.bool o.knows) ∧ LookO OG B w b r o W' := looko_in HS (hS.2.2.step HS hb)
theorem looko_side (hS : W.cell? ⟨r, 0, none⟩ = some (.int .i64 o.epoch) ∧ W.cell? ⟨r, 2, none⟩ = some (.bool o.knows) ∧ LookO OG B w b r o W) : Side (OG b) (RO r) (fun k => k < B) W o o := hS.2.2.1
end
set_option maxHeartbeats 16000000 in
theorem orderPlays_walk {OG : Nat → (Nat → Prop) → World → Od → Prop} (HS : OrderSays OG) (ao : Option Addr) (cap : Nat) (l : List Sk) (hl : l.length ≤ maxLen) (w : World) (hR : Row w ao 10 stepC l) (hK : ∀ s ∈ l, SkIn w s) :
    Calls Try.prog 3 #[.slice ao l.length cap] w fun e w' => e = .returned (.bool true) ∧ Below w.heap.size w w' := by
  have CW := Lib.hid (fun w => wakes11_any HS w)
  have hl3 : (l.length : Int) ≤ 9223372036854775807 := by unfold maxLen at hl; omega
  have CN := Lib.hid (o_new HS w)
  have CM := Lib.hid (fun w => ro_new w)
  have TT := Lib.hid (fun b => HS.thing b)
  unfold ptrO at CN CM
  have HF := Lib.hid hR
  have HK := Lib.hid hK
  clear hR hK hl
  go_enter Try.func3, Try.ntmps3
  go_wp2_with (first
    | (go_at_call 6; refine CN.out.mono ?_; rintro e w1 ⟨b, rfl, hu1, hb1⟩; have U1 := Lib.hid hu1; have B1 := Lib.hid hb1; clear hu1 hb1)
    | (go_at_call 7; refine (CM.out _).mono ?_; rintro e w2 ⟨r, G2, rfl, hu2, hg2, hb2⟩; have D2 := Lib.hid (Side.made (TT.out b) U1.out hb2 hu2 hg2); have B2 := Lib.hid (B1.out.trans (hb2.mono B1.out.size)); clear hu2 hg2 hb2 U1 B1))
  go_loopw [5] (fun i wr => ∃ (n : Nat) (u : Od), i = .int .i64 n ∧ n ≤ l.length ∧ n ≤ 200 ∧ Hid (LookO OG w.heap.size w b r u wr)) (fun i _ => l.length - (intOf i).toNat)
  case atStart => exact ⟨0, newO, rfl, Nat.zero_le _, by omega, Lib.hid ⟨D2.out, B2.out, B2.out.size⟩⟩
  case round =>
    clear D2 B2 CN CM
    obtain ⟨n, u, rfl, hn, hn2, HL⟩ := hrel
    by_cases hlt : n < l.length
    case neg =>
      obtain rfl : n = l.length := by omega
      go_wp2_with (go_at_call 9; refine (CW.out _).mono ?_; rintro e w6 ⟨rfl, hb6⟩)
      go_ret
      exact ⟨rfl, HL.out.2.1.trans (hb6.mono HL.out.2.2)⟩
    case pos =>
    have n0 : (n : Int) < (l.length : Int) := by omega
    by_cases h200 : n < 200
    case neg =>
      have n1 : (200 : Int) ≤ (n : Int) := by omega
      go_wp2_with (go_at_call 9; refine (CW.out _).mono ?_; rintro e w6 ⟨rfl, hb6⟩)
      go_ret
      exact ⟨rfl, HL.out.2.1.trans (hb6.mono HL.out.2.2)⟩
    case pos =>
    have n1 : (n : Int) < 200 := by omega
    obtain ⟨bk, off, hao, d0, x1, x2, x3, x4, x5, x6, x7, x8, x9⟩ := step_at (HF.out.below HL.out.2.1) hlt
    subst hao
    have N0 := Lib.hid (fun (W : World) (h : Below w.heap.size w W) => show W.cell? ⟨bk, off + n * 10, none⟩ = some (.int .i64 l[n].k) from by obtain ⟨b2, o2, e, h1, _⟩ := step_at (HF.out.below h) hlt; cases e; exact h1)
    have N9 := Lib.hid (fun (W : World) (h : Below w.heap.size w W) => nine_at HF.out hlt h)
    have HA := Lib.hid (HK.out _ (List.getElem_mem hlt)).2
    generalize l[n] = sk at *
    obtain ⟨sk, a⟩ := sk
    simp only at d0 N0 N9 HA x1 x2 x3 x4 x5 x6 x7 x8 x9
    obtain ⟨kd, un, ep, pg, sz, nn, s, pe, L, ao2, cap2⟩ := a
    simp only at N9 x1 x2 x3 x4 x5 x6 x7 x8 x9
    have CL1 := Lib.hid (largeAsk_any _ _ (HA.out.below HL.out.2.1))
    go_wp2_with fail
    refine CL1.out.mono ?_
    rintro e w3 ⟨rfl, hb3⟩
    have HL3 := Lib.hid (HL.out.step HS hb3)
    clear hb3 HL x1 x2 x3 x4 x5 x6 x7 x8 x9 d0 CL1
    cases hc : largeA ⟨kd, un, ep, pg, sz, nn, s, pe, L, ao2, cap2⟩
    case true =>
      go_wp2_with (go_at_call 9; refine (CW.out _).mono ?_; rintro e w6 ⟨rfl, hb6⟩)
      go_ret
      exact ⟨rfl, HL3.out.2.1.trans (hb6.mono HL3.out.2.2)⟩
    case false =>
    clear hc
    have d0 := N0.out _ HL3.out.2.1
    by_cases q1 : sk = 1
    · have q1' : (sk == 1) = true := by rw [q1]; rfl
      clear q1
      go_wp2_with fail
      refine (so_crash HS HL3.out.1).mono ?_
      rintro e w4 ⟨rfl, h4, k4⟩
      have D4 := Lib.hid h4
      have B4 := Lib.hid (HL3.out.2.1.trans (k4.toBelow HL3.out.2.2 (fun k h => h)))
      have Z4 := Lib.hid (Nat.le_trans HL3.out.2.2 k4.size)
      obtain ⟨c0, c1, c2, f2⟩ := so_cells h4
      clear h4 k4
      go_wp2_with fail
      have HL5 := Lib.hid (show LookO OG w.heap.size w b r ⟨u.epoch, u.tail, false⟩ (w4.setCell ⟨r, 2, none⟩ (.bool false)) from ⟨(so_set HS D4.out false).1, B4.out.trans ((so_set HS D4.out false).2.toBelow Z4.out (fun k h => h)), Nat.le_trans Z4.out (so_set HS D4.out false).2.size⟩)
      generalize hW5 : World.setCell w4 _ _ = W5 at *
      generalize (⟨u.epoch, u.tail, false⟩ : Od) = u5 at *
      clear hW5 D4 B4 Z4 c0 c1 c2 f2 d0
      have dd : (u5.knows != u5.knows) = false := by cases u5.knows <;> rfl
      have HLd := Lib.hid (HL5.out.step HS (W' := World.drew _) (Below.refl _ _).drew)
      go_region_held3 (fun W => W.cell? ⟨r, 0, none⟩ = some (.int .i64 u5.epoch) ∧ W.cell? ⟨r, 2, none⟩ = some (.bool u5.knows) ∧ LookO OG w.heap.size w b r u5 W)
        (first | exact looko_in HS HLd.out | exact looko_on HS (by assumption) g2 | exact looko_on HS (by assumption) g1)
        (first
          | (go_at_call 14; refine (so_look HS (looko_side (by assumption)) (fun G hG => HS.epoch b G _ _ hG)).mono ?_; rintro e y1 ⟨rfl, g1⟩)
          | (go_at_call 15; refine (so_look HS (looko_side (by assumption)) (fun G hG => HS.knows b G _ _ hG)).mono ?_; rintro e y2 ⟨rfl, g2⟩))
      all_goals
        go_wp2_with fail
        go_roundw
        case rel => rename_i hS; exact ⟨n + 1, u5, by go_num, by omega, by omega, Lib.hid hS.2.2⟩
        case measure => simp [intOf]; omega
    · have q1' : (sk == 1) = false := beq_eq_false_iff_ne.2 q1
      clear q1
      have SD0 := Lib.hid (HL3.out.1.below (TT.out b) (ro_thing r) (w' := w3.drew) (Below.refl _ _).drew)
      have HB0 := Lib.hid (show Below w.heap.size w w3.drew from HL3.out.2.1.drew)
      have HZ0 := Lib.hid (show w.heap.size ≤ w3.drew.heap.size from HL3.out.2.2)
      have HAd := Lib.hid (HA.out.below HB0.out)
      have HEP := Lib.hid HA.out.1.epoch
      obtain ⟨c4, n4, s4, e4, hans⟩ : ∃ c4 n4 s4 e4, (u.ans ⟨kd, un, ep, pg, sz, nn, s, pe, L, ao2, cap2⟩).code = c4 ∧ (u.ans ⟨kd, un, ep, pg, sz, nn, s, pe, L, ao2, cap2⟩).n = n4 ∧ (u.ans ⟨kd, un, ep, pg, sz, nn, s, pe, L, ao2, cap2⟩).data = s4 ∧ (u.ans ⟨kd, un, ep, pg, sz, nn, s, pe, L, ao2, cap2⟩).epoch = e4 := ⟨_, _, _, _, rfl, rfl, rfl, rfl⟩
      have HE := Lib.hid hans
      clear hans HA
      go_wp2_with fail
      go_region_held3 (fun W => W.cell? ⟨bk, off + n * 10 + 1, none⟩ = some (.int .i64 kd) ∧ W.cell? ⟨bk, off + n * 10 + 1 + 1, none⟩ = some (.int .i64 un) ∧ W.cell? ⟨bk, off + n * 10 + 1 + 2, none⟩ = some (.int .i64 ep) ∧ W.cell? ⟨bk, off + n * 10 + 1 + 3, none⟩ = some (.int .i64 pg) ∧ W.cell? ⟨bk, off + n * 10 + 1 + 4, none⟩ = some (.int .i64 sz) ∧ W.cell? ⟨bk, off + n * 10 + 1 + 5, none⟩ = some (.int .i64 nn) ∧ W.cell? ⟨bk, off + n * 10 + 1 + 6, none⟩ = some (.string s) ∧ W.cell? ⟨bk, off + n * 10 + 1 + 7, none⟩ = some (.int .i64 pe) ∧ W.cell? ⟨bk, off + n * 10 + 1 + 8, none⟩ = some (.slice ao2 L.length cap2))
        (first | exact N9.out _ HB6.out | exact N9.out _ HB5.out | exact N9.out _ HB4.out | exact N9.out _ HB0.out)
        (first
          | (go_at_call 12; refine (so_ask HS SD0.out (a := ⟨kd, un, ep, pg, sz, nn, s, pe, L, ao2, cap2⟩) HAd.out).mono ?_; rw [HE.out.1, HE.out.2.1, HE.out.2.2.1, HE.out.2.2.2]; rintro e w4 ⟨rfl, h4, k4⟩; have SD4 := Lib.hid h4; have HB4 := Lib.hid (HB0.out.trans (k4.toBelow HZ0.out (fun k h => h))); have HZ4 := Lib.hid (Nat.le_trans HZ0.out k4.size); clear h4 k4; unfold anW)
          | (go_at_call 13; refine (so_rask HS SD4.out (a := ⟨kd, un, ep, pg, sz, nn, s, pe, L, ao2, cap2⟩) HEP.out).mono ?_; rw [HE.out.1, HE.out.2.1, HE.out.2.2.1, HE.out.2.2.2]; rintro e w5 ⟨rfl, h5, k5⟩; have SD5 := Lib.hid h5; have HB5 := Lib.hid (HB4.out.trans (k5.toBelow HZ4.out (fun k h => h))); have HZ5 := Lib.hid (Nat.le_trans HZ4.out k5.size); clear h5 k5; unfold anW)
          | (go_at_call 11; refine (answer_same (anP c4 n4 s4 e4) none none 0 0 _ (CL.nil _ _) (CL.nil _ _) ⟨Nat.zero_le _, fun c hc => by cases hc⟩).mono ?_; rintro e w6 ⟨rfl, hb6⟩; have SD6 := Lib.hid (SD5.out.below (TT.out b) (ro_thing r) hb6); have HB6 := Lib.hid (HB5.out.trans (hb6.mono HZ5.out)); have HZ6 := Lib.hid (Nat.le_trans HZ5.out hb6.size); clear hb6))
      all_goals
        go_wp2_with fail
        have HL7 := Lib.hid (show LookO OG w.heap.size w b r (u.done ⟨kd, un, ep, pg, sz, nn, s, pe, L, ao2, cap2⟩) w6 from ⟨SD6.out, HB6.out, HZ6.out⟩)
        clear SD0 SD4 SD5 SD6 HB0 HB4 HB5 HB6 HZ0 HZ4 HZ5 HZ6 HE HAd HL3 d0
        generalize u.done ⟨kd, un, ep, pg, sz, nn, s, pe, L, ao2, cap2⟩ = u7 at *
        have dd : (u7.knows != u7.knows) = false := by cases u7.knows <;> rfl
        have HLd := Lib.hid (HL7.out.step HS (W' := World.drew _) (Below.refl _ _).drew)
        go_region_held3 (fun W => W.cell? ⟨r, 0, none⟩ = some (.int .i64 u7.epoch) ∧ W.cell? ⟨r, 2, none⟩ = some (.bool u7.knows) ∧ LookO OG w.heap.size w b r u7 W)
          (first | exact looko_in HS HLd.out | exact looko_on HS (by assumption) g2 | exact looko_on HS (by assumption) g1)
          (first
            | (go_at_call 14; refine (so_look HS (looko_side (by assumption)) (fun G hG => HS.epoch b G _ _ hG)).mono ?_; rintro e y1 ⟨rfl, g1⟩)
            | (go_at_call 15; refine (so_look HS (looko_side (by assumption)) (fun G hG => HS.knows b G _ _ hG)).mono ?_; rintro e y2 ⟨rfl, g2⟩))
        all_goals
          go_wp2_with fail
          go_roundw
          case rel => rename_i hS; exact ⟨n + 1, u7, by go_num, by omega, by omega, Lib.hid hS.2.2⟩
          case measure => simp [intOf]; omega

set_option maxRecDepth 100000 in
theorem orderPlays_lifted (os : Os) (started : os.Started) (H : Type) (enc : TypeId × Value → H) :
    ReturnsInHanded {} Try.checked os 3 .any (Rows.orderPlaysSpec.pre6 enc Try.prog Try.f3 Rows.orderPlaysRow.domain false) (Rows.orderPlaysSpec.post enc Try.prog Try.f3 false true false false) := by
  refine returnsInHanded_of_change (C := Try.checked) own started (by kernel_rfl) Try.func3
    (ChangeSpec.witness6 (enc := enc) (C := Try.checked) false ⟨#[], #[.slice none 0 0], []⟩ 8 (by kernel_rfl) (by kernel_rfl) (by kernel_rfl) (by kernel_rfl)) ?_
  intro W base args ds gs before hval0 hW hcnd _
  have hval : ∀ (j : Nat) t v, Try.f3.params[j]? = some t → args[j]? = some v → Value.okWide Try.prog W .any base t v := hval0
  have hW' := hW
  obtain ⟨p, q, hA0, hV, rfl, hfz, hnd⟩ := hW
  have hA : DataW.TrodAll enc Try.prog W 0 (fun _ => true) true Try.f3.params.toList args.toList ds p := hA0
  rw [Try.params3] at hA hval
  obtain ⟨v0, vs0, d0, ds0, p0, q0, hargs, rfl, rfl, h0, r0⟩ := trodAll_cons hA
  obtain ⟨rfl, rfl, rfl⟩ := trodAll_nil r0
  obtain rfl : args = #[v0] := by cases args; simp_all
  obtain ⟨rfl, rfl⟩ := trodVars_none hV
  have k0 := h0
  have lt0 : ∀ x ∈ p0, x.block < W.heap.size := by obtain ⟨m, hm⟩ := k0; exact DataW.trod_lt m _ _ _ hm
  obtain ⟨ao0, cap0, L0, rfl, w0, hR0, hK0, hn0, hc0⟩ := open_rows (f := stepC) (ok := SkIn) (n := 9) Try.underlying22 (by kernel_rfl) (fun m cs y hl hf => step_cs askT Try.underlying34 rfl rfl hl hf) (hval 0 22 v0 rfl rfl) h0
  clear hA0 hval0
  refine (orderPlays_walk orderSays ao0 cap0 L0 w0 W hR0 hK0).mono fun e W' ⟨he, bel⟩ => ?_
  subst he
  exact ⟨_, rfl, _, _, _, [], _, [], hW', trodAll_mk1 (shut_bool Try.underlying4 _), (trodAll_cons_mk (Below.trod laidOut (by kernel_rfl) (of_decide_eq_true (by kernel_rfl)) k0 bel lt0) trodAll_mk0), rfl, bel.frame _, fun h => by cases h⟩

theorem orderPlays_over : Rows.orderPlaysRow.holds Try.pinned (OpenSpec.ofChange Rows.orderPlaysSpec) :=
  OpenClaim.holds_of_wide 3 Try.f3 rfl rfl rfl rfl rfl rfl rfl ⟨rfl, rfl, rfl, rfl, rfl⟩ rfl rfl rfl rfl rfl (by kernel_rfl) Try.func3 (by kernel_rfl)
    (of_decide_eq_true (by kernel_rfl)) (by unfold Func.isWrapper; first | (rw [if_pos (by decide +kernel)]; kernel_rfl) | (rw [if_neg (by decide +kernel)]; exact ⟨rfl, rfl⟩))
    (fun os started H enc _ => orderPlays_lifted os started H enc)

/-- THE STATEMENT -/
theorem orderPlays_holds : Rows.OrderPlaysSaid := orderPlays_over 
end Go.Proofs.Ytjckjffmjmcknaa
