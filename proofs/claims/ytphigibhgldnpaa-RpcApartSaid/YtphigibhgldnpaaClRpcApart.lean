/- The law RpcApart: a question to one unit changes no other one, nor the sequencer, nor the layout. Conditions: none. -/
import Derived.Test.YtphigibhgldnpaaG28a
import Derived.Test.YtphigibhgldnpaaG23a
import Derived.Test.YtphigibhgldnpaaG11b
import Derived.Test.YtphigibhgldnpaaG13c
namespace Go.Proofs.Ytphigibhgldnpaa
open Go.ChangeShapes Go.WideShapes Go.ChangeAt Go.RowKit
open Go.ChangeMaps (open_string shut_string)
set_option linter.unusedVariables false
set_option maxRecDepth 20000

def mineS : ByteArray := ⟨#[109, 105, 110, 101]⟩
def apU : Us := ⟨(newP 30).write 2 mineS, 0, false⟩
/-- unit i as it was written, sequencer and layout as they were made -/
structure ApN (N : Nd) (i : Nat) : Prop where
  u : N.u i = apU
  o : N.o = newO.done (startA 0)
  l : N.l = newL 0 [[0, 1], [2]]
theorem ap_start {i : Nat} (hi : i < 16) : ApN ((newN 0 [[0, 1], [2]] 30).done (akN 1 i 0 2 mineS)) i := by
  have e : (newN 0 [[0, 1], [2]] 30).done (akN 1 i 0 2 mineS) = (newN 0 [[0, 1], [2]] 30).putU i ((newU 30).done (akN 1 i 0 2 mineS)) := by
    unfold Nd.done
    rw [if_pos (by show (1 : Int) ≤ 1 ∧ (1 : Int) ≤ 5; omega), if_pos (by show (0 : Int) ≤ (i : Int) ∧ (i : Int) ≤ 15; omega)]
    rfl
  rw [e]
  exact ⟨(putU_at _ _ _).trans rfl, rfl, rfl⟩
theorem ApN.ask {N : Nd} {i : Nat} (h : ApN N i) {a : Ak} (hu : a.unit ≠ i) (hk : a.kind ≤ 5) : ApN (N.done a) i := by
  unfold Nd.done
  by_cases h1 : 1 ≤ a.kind ∧ a.kind ≤ 5
  · rw [if_pos h1]
    by_cases h2 : 0 ≤ a.unit ∧ a.unit ≤ 15
    · rw [if_pos h2]
      exact ⟨(putU_off _ _ (by omega)).trans h.u, h.o, h.l⟩
    · rw [if_neg h2]
      exact h
  · rw [if_neg h1, if_neg (by omega), if_neg (by omega)]
    exact h
theorem ApN.few {N : Nd} {i : Nat} (h : ApN N i) : N.l.used.length ≤ 100000 := by
  rw [h.l]
  decide +kernel
theorem ap_code : (apU.ans (akN 3 0 0 2 ⟨#[]⟩)).code = 0 ∧ (apU.ans (akN 3 0 0 2 ⟨#[]⟩)).data = mineS ∧ apU.p.l.length = 1 ∧ (newO.done (startA 0)).epoch = 0 ∧ ((newO.done (startA 0)).ans (akN 6 0 0 0 ⟨#[]⟩)).n = 0 ∧ goodB 0 [[0, 1], [2]] = true := by decide +kernel
theorem ap_ans {i : Nat} : apU.ans (akN 3 i 0 2 ⟨#[]⟩) = apU.ans (akN 3 0 0 2 ⟨#[]⟩) := rfl
theorem ApN.read {N : Nd} {i : Nat} (h : ApN N i) (hi : i < 16) : (N.ans (akN 3 i 0 2 ⟨#[]⟩)).code = 0 ∧ (N.ans (akN 3 i 0 2 ⟨#[]⟩)).data = mineS ∧ ApN (N.done (akN 3 i 0 2 ⟨#[]⟩)) i := by
  have h1 : 1 ≤ (akN 3 i 0 2 ⟨#[]⟩).kind ∧ (akN 3 i 0 2 ⟨#[]⟩).kind ≤ 5 := by show (1 : Int) ≤ 3 ∧ (3 : Int) ≤ 5; omega
  have h2 : 0 ≤ (akN 3 i 0 2 ⟨#[]⟩).unit ∧ (akN 3 i 0 2 ⟨#[]⟩).unit ≤ 15 := by show (0 : Int) ≤ (i : Int) ∧ (i : Int) ≤ 15; omega
  have ea : N.ans (akN 3 i 0 2 ⟨#[]⟩) = apU.ans (akN 3 0 0 2 ⟨#[]⟩) := by
    unfold Nd.ans
    rw [if_pos h1, if_pos h2]
    show (N.u i).ans _ = _
    rw [h.u, ap_ans]
  have ed : N.done (akN 3 i 0 2 ⟨#[]⟩) = N.putU i ((N.u i).done (akN 3 i 0 2 ⟨#[]⟩)) := by
    unfold Nd.done
    rw [if_pos h1, if_pos h2]
    rfl
  rw [ea, ed]
  refine ⟨ap_code.1, ap_code.2.1, ?_, h.o, h.l⟩
  rw [putU_at, h.u]
  rfl
theorem ApN.next {N : Nd} {i : Nat} (h : ApN N i) : (N.ans (akN 6 0 0 0 ⟨#[]⟩)).n = 0 := by
  have ea : N.ans (akN 6 0 0 0 ⟨#[]⟩) = N.o.ans (akN 6 0 0 0 ⟨#[]⟩) := by
    unfold Nd.ans
    rw [if_neg (by show ¬ ((1 : Int) ≤ 6 ∧ (6 : Int) ≤ 5); omega), if_pos (by show (6 : Int) ≤ 6 ∧ (6 : Int) ≤ 8; omega)]
  rw [ea, h.o]
  exact ap_code.2.2.2.2.1
theorem few_three : fewL [[0, 1], [2]] := ⟨by simp, fun c hc => by simp at hc; rcases hc with rfl | rfl <;> simp⟩
theorem akin_solo {X : Nat → Prop} {w W0 W : World} {a : Ak} (h : CL w a.ao a.L) (hb : Below w.heap.size w W0) (hk : Kept (fun k => k < w.heap.size) W0 W) : CL W a.ao a.L :=
  h.below (hb.trans (hk.toBelow hb.size (fun k h => h)))
set_option maxHeartbeats 8000000 in
theorem rpcApart_walk {UG : Nat → Nat → (Nat → Prop) → World → Us → Prop} {OG : Nat → (Nat → Prop) → World → Od → Prop} {LG : Nat → (Nat → Prop) → World → Ly → Prop} {NG : Nat → (Nat → Prop) → World → Nd → Prop} (HS : RpcSays UG OG LG NG) (ao : Option Addr) (cap : Nat) (l : List Ak) (x : Int) (hl : l.length ≤ maxLen) (wx : (Lit.int .u8 x).wf = true) (w : World) (hR : Row w ao 9 askC l) (hK : ∀ s ∈ l, AkIn w s) :
    Calls Try.prog 3 #[.slice ao l.length cap, .int .u8 x] w fun e w' => e = .returned (.bool true) ∧ Below w.heap.size w w' := by
  have CW := Lib.hid (fun w => wakes13_any HS w)
  have TT := Lib.hid (fun b => HS.thing b)
  have TU := Lib.hid (fun b pb => HS.units.thing b pb)
  have ZZ := Lib.hid (fun (x : Int) (h : 0 ≤ x ∧ x ≤ 20) => show i64w x from WalkArith.wf_i64 (by omega))
  have CN := Lib.hid (n_new HS (lit2_chain w (l := [0, 1]) (m := [2]) (num_small (by decide)) (num_small (by decide))).here.1 few_three ap_code.2.2.2.2.2 (cap := 2) (room := 30) (by decide))
  unfold ptrN at CN
  obtain ⟨x0, x1⟩ : 0 ≤ x ∧ x < 256 := by
    have h := wx
    simp [Lit.wf] at h
    have e1 : IntKind.u8.min = 0 := by decide
    have e2 : IntKind.u8.max = 255 := by decide
    omega
  obtain ⟨i, hi, hi16⟩ : ∃ i : Nat, x % 16 = (i : Int) ∧ i < 16 := ⟨(x % 16).toNat, by omega, by omega⟩
  have HI := Lib.hid hi
  have HF := Lib.hid hR
  have HK := Lib.hid hK
  have hl2 : l.length ≤ maxLen := hl
  unfold maxLen at hl
  have hl' : (l.length : Int) ≤ 9223372036854775807 := by omega
  clear hR hK wx hi
  go_enter Try.func3, Try.ntmps3
  go_wp2_with (go_at_call 5; refine CN.out.mono ?_; rintro e w1 ⟨b, rfl, hu1, hb1⟩; have B1 := Lib.hid ((lit2_below w [0, 1] [2]).trans (hb1.mono (lit2_below w [0, 1] [2]).size)); have U1 := Lib.hid (show Solo (NG b) (fun k => k < w.heap.size) w1 (newN 0 [[0, 1], [2]] 30) from hu1.less (fun k hk => Nat.lt_of_lt_of_le hk (lit2_below w [0, 1] [2]).size)); clear hu1 hb1)
  refine (fair13_any ao cap l _ hl2 (HF.out.below B1.out) (fun s hs => (HK.out s hs).below B1.out)).mono ?_
  rintro e w2 ⟨⟨c, rfl, hc⟩, hb2⟩
  have U2 := Lib.hid (U1.out.below (TT.out b) hb2)
  have B2 := Lib.hid (B1.out.trans (hb2.mono B1.out.size))
  clear hb2 U1 B1 hl2 CN
  cases c
  · clear hc
    go_wp2_with (go_at_call 7; refine (CW.out _).mono ?_; rintro e w3 ⟨rfl, hb3⟩; have B3 := Lib.hid (B2.out.trans (hb3.mono B2.out.size)); clear hb3)
    go_ret
    exact ⟨rfl, B3.out⟩
  have HFa := Lib.hid (hc rfl)
  clear hc
  go_wp2_with fail
  rw [HI.out]
  have ui : i64w (i : Int) := WalkArith.wf_i64 (by omega)
  refine (n_askN HS U2.out (k := 1) (u := i) (e := 0) (p := 2) (s := mineS) (ZZ.out 1 (by omega)) ui (ZZ.out 0 (by omega)) (ZZ.out 2 (by omega)) (by decide) (show (newN 0 [[0, 1], [2]] 30).l.used.length ≤ 100000 by decide +kernel)).mono ?_
  rintro e w3 ⟨ac, an, ad, ap, am, az, ae, ao2, aon, aoc, rfl, _, hu3, hk3⟩
  have U3 := Lib.hid hu3
  have A3 := Lib.hid (ap_start hi16)
  have B3 := Lib.hid (B2.out.trans (hk3.toBelow B2.out.size (fun k h => h)))
  clear hu3 hk3 U2 B2
  go_wp2_with fail
  go_loopw [8] (fun j wr => ∃ (k : Nat) (N : Nd), j = .int .i64 k ∧ k ≤ l.length ∧ Hid (ApN N i) ∧ Hid (Solo (NG b) (fun k => k < w.heap.size) wr N) ∧ Hid (Below w.heap.size w wr)) (fun j _ => l.length - (intOf j).toNat)
  case atStart => exact ⟨0, _, rfl, Nat.zero_le _, A3, U3, B3⟩
  case round =>
    clear U3 B3 A3
    obtain ⟨k, N, rfl, hkl, HN, HU, HB⟩ := hrel
    by_cases hlt : k < l.length
    · obtain ⟨bk, off, hao, d0, d1, d2, d3, d4, d5, d6, d7, d8⟩ := ask_at (HF.out.below HB.out) hlt
      subst hao
      have k0 : (k : Int) < (l.length : Int) := by omega
      have HA := Lib.hid (HK.out _ (List.getElem_mem hlt))
      have HLA := Lib.hid (largeA_no (HFa.out.2 _ (List.getElem_mem hlt)))
      generalize l[k] = a at *
      obtain ⟨kd, un, ep, pg, sz, nn, s, pe, L, ao2, cap2⟩ := a
      simp only at d0 d1 d2 d3 d4 d5 d6 d7 d8
      by_cases hc : un ≠ i ∧ kd ≤ 5
      · obtain ⟨hu, hk⟩ := hc
        have HN2 := Lib.hid (HN.out.ask (a := ⟨kd, un, ep, pg, sz, nn, s, pe, L, ao2, cap2⟩) hu hk)
        have CA := Lib.hid (n_ask HS HU.out (a := ⟨kd, un, ep, pg, sz, nn, s, pe, L, ao2, cap2⟩) HA.out.1 ⟨Nat.le_trans HLA.out.2.1 (by decide), fun c hc => Nat.le_trans (HLA.out.2.2 c hc) (by decide)⟩ (Nat.le_trans HLA.out.1 (by decide)) HN.out.few (fun W hk => akin_solo (X := fun _ => True) HA.out.2 HB.out hk))
        have hu' : (un == (i : Int)) = false := beq_eq_false_iff_ne.2 hu
        go_wp2_with (go_at_call 8; refine CA.out.mono ?_; rintro e w4 ⟨bo, bc, F, rfl, _, h4, k4⟩; have HU4 := Lib.hid (h4.less (fun k hk => .inl hk)); have HB4 := Lib.hid (HB.out.trans (k4.toBelow HB.out.size (fun k h => h))); clear h4 k4)
        go_roundw
        case rel => exact ⟨k + 1, _, by go_num, by omega, HN2, HU4, HB4⟩
        case measure => simp [intOf]; omega
      · by_cases hu : un = i
        · have hu' : (un == (i : Int)) = true := by rw [hu]; exact beq_self_eq_true _
          go_wp2_with fail
          go_roundw
          case rel => exact ⟨k + 1, N, by go_num, by omega, HN, HU, HB⟩
          case measure => simp [intOf]; omega
        · have hu' : (un == (i : Int)) = false := beq_eq_false_iff_ne.2 hu
          have hk' : ¬ kd ≤ 5 := fun h => hc ⟨hu, h⟩
          go_wp2_with fail
          go_roundw
          case rel => exact ⟨k + 1, N, by go_num, by omega, HN, HU, HB⟩
          case measure => simp [intOf]; omega
    · obtain rfl : k = l.length := by omega
      obtain ⟨r1, r2, r3⟩ := HN.out.read hi16
      have R3 := Lib.hid r3
      go_wp2_with fail
      refine (n_askN HS HU.out (k := 3) (u := i) (e := 0) (p := 2) (s := ⟨#[]⟩) (ZZ.out 3 (by omega)) ui (ZZ.out 0 (by omega)) (ZZ.out 2 (by omega)) (by decide) HN.out.few).mono ?_
      rintro e w4 ⟨xc, xn, xd, xp, xm, xz, xe, xo, xon, xoc, rfl, ⟨h1, h2, h3, h4⟩, hu4, hk4⟩
      rw [r1] at h1
      rw [r2] at h3
      subst h1
      subst h3
      have B4 := Lib.hid (HB.out.trans (hk4.toBelow HB.out.size (fun k h => h)))
      generalize N.done (akN 3 i 0 2 ⟨#[]⟩) = N2 at *
      have eu := R3.out.u
      have eo := R3.out.o
      have el := R3.out.l
      have UX := Lib.hid (hu4.below (TT.out b) (below_new w4 (.cells #[.int .i64 0, .int .i64 xn, .string mineS, .int .i64 xp, .slice xo xon xoc, .int .i64 xm, .int .i64 xz, .int .i64 xe] 34)))
      have BX := Lib.hid (B4.out.alloc B4.out.size (.cells #[.int .i64 0, .int .i64 xn, .string mineS, .int .i64 xp, .slice xo xon xoc, .int .i64 xm, .int .i64 xz, .int .i64 xe] 34))
      have CU := Lib.hid (fun (W : World) (h : Solo (NG b) (fun k => k < w.heap.size) W N2) => n_unit HS h (k := i) (i := i) hi16 rfl)
      have CO := Lib.hid (fun (W : World) (h : Solo (NG b) (fun k => k < w.heap.size) W N2) => n_order HS h)
      have CY := Lib.hid (fun (W : World) (h : Solo (NG b) (fun k => k < w.heap.size) W N2) => n_layout HS h)
      have TO := Lib.hid (fun bo => HS.order_.thing bo)
      have TY := Lib.hid (fun bl => HS.layout_.thing bl)
      have NX := Lib.hid R3.out.next
      have NF := Lib.hid R3.out.few
      have fp : ∀ (e : Int) (o : Option Addr) (n c : Nat) (W : World), (Instr.field 30 (.agg #[.int .i64 e, .slice o n c]) 0).run Try.prog W = .ok (.int .i64 e) W := fun e o n c W => by kernel_rfl
      have fa : ∀ (c n : Int) (s : ByteArray) (p : Int) (o : Option Addr) (k m : Nat) (y z e : Int) (W : World), (Instr.field 34 (.agg #[.int .i64 c, .int .i64 n, .string s, .int .i64 p, .slice o k m, .int .i64 y, .int .i64 z, .int .i64 e]) 1).run Try.prog W = .ok (.int .i64 n) W := fun c n s p o k m y z e W => by kernel_rfl
      have ac3 := ap_code.2.2.1
      have ac4 := ap_code.2.2.2.1
      clear hu4 hk4 HN HU HB r1 r2 r3 h2 h4
      unfold mineS at *
      go_wp2_with (first
        | (go_at_call 9; refine (CU.out _ N6.out).mono ?_; rintro e w7 ⟨bv, pv, rfl, hn7, hu7, hb7⟩; have N7 := Lib.hid hn7; have U7 := Lib.hid hu7; have B7 := Lib.hid (B6.out.trans (hb7.mono B6.out.size)); clear hn7 hu7 hb7)
        | (go_at_call 9; refine (CU.out _ UX.out).mono ?_; rintro e w5 ⟨bu, pb, rfl, hn5, hu5, hb5⟩; have N5 := Lib.hid hn5; have U5 := Lib.hid hu5; have B5 := Lib.hid (BX.out.trans (hb5.mono BX.out.size)); clear hn5 hu5 hb5)
        | (go_at_call 10; refine (t_look U5.out (fun G hG => HS.units.epoch bu pb G _ _ hG)).mono ?_; rw [eu]; rintro e w6 ⟨rfl, hb6⟩; have N6 := Lib.hid (N5.out.below (TT.out b) hb6); have B6 := Lib.hid (B5.out.trans (hb6.mono B5.out.size)); clear hb6)
        | (go_at_call 11; refine (t_look U7.out (fun G hG => HS.units.pages bv pv G _ _ hG)).mono ?_; unfold ptrV; rintro e w8 ⟨rfl, hb8⟩; have N8 := Lib.hid (N7.out.below (TT.out b) hb8); have U8 := Lib.hid (U7.out.below (TU.out bv pv) hb8); have B8 := Lib.hid (B7.out.trans (hb8.mono B7.out.size)); clear hb8)
        | (go_at_call 12; refine (t_look U8.out (fun G hG => HS.units.used bv pv G _ _ hG)).mono ?_; rw [eu, ac3]; rintro e w9 ⟨rfl, hb9⟩; have N9 := Lib.hid (N8.out.below (TT.out b) hb9); have B9 := Lib.hid (B8.out.trans (hb9.mono B8.out.size)); clear hb9)
        | (go_at_call 13; refine (CO.out _ N9.out).mono ?_; rintro e wa ⟨bo, rfl, hna, hua, hba⟩; have Na := Lib.hid hna; have Ua := Lib.hid hua; have Ba := Lib.hid (B9.out.trans (hba.mono B9.out.size)); clear hna hua hba)
        | (go_at_call 14; refine (t_look Ua.out (fun G hG => HS.order_.epoch bo G _ _ hG)).mono ?_; rw [eo, ac4]; rintro e wb ⟨rfl, hbb⟩; have Nb := Lib.hid (Na.out.below (TT.out b) hbb); have Bb := Lib.hid (Ba.out.trans (hbb.mono Ba.out.size)); clear hbb)
        | (go_at_call 15; refine (CY.out _ Nb.out).mono ?_; rintro e wc ⟨bl, rfl, hnc, huc, hbc⟩; have Nc := Lib.hid hnc; have Uc := Lib.hid huc; have Bc := Lib.hid (Bb.out.trans (hbc.mono Bb.out.size)); clear hnc huc hbc)
        | (go_at_call 16; refine (l_now HS.layout_ Uc.out).mono ?_; rw [el]; rintro e wd ⟨v, rfl, hO, hbd⟩; obtain ⟨vo, vc, hv, _⟩ := hO.form; subst hv; have Nd' := Lib.hid (Nc.out.below (TT.out b) hbd); have Bd := Lib.hid (Bc.out.trans (hbd.mono Bc.out.size)); clear hbd hO)
        | (go_at_call 8; refine (n_askN HS Nd'.out (k := 6) (u := 0) (e := 0) (p := 0) (s := ⟨#[]⟩) (ZZ.out 6 (by omega)) (ZZ.out 0 (by omega)) (ZZ.out 0 (by omega)) (ZZ.out 0 (by omega)) (by decide) NF.out).mono ?_; rintro e we ⟨yc, yn, yd, yp, ym, yz, ye, yo, yon, yoc, rfl, ⟨g1, g2, g3, g4⟩, _, hke⟩; rw [NX.out] at g2; subst g2; have Be := Lib.hid (Bd.out.trans (hke.toBelow Bd.out.size (fun k h => h))); clear hke g1 g3 g4)
        | (go_at_call 7; refine (CW.out _).mono ?_; rintro e wf ⟨rfl, hbf⟩; have Bf := Lib.hid (Be.out.trans (hbf.mono Be.out.size)); clear hbf))
      go_ret
      exact ⟨rfl, Bf.out⟩

set_option maxRecDepth 100000 in
theorem rpcApart_lifted (os : Os) (started : os.Started) (H : Type) (enc : TypeId × Value → H) :
    ReturnsInHanded {} Try.checked os 3 .any (Rows.rpcApartSpec.pre6 enc Try.prog Try.f3 Rows.rpcApartRow.domain false) (Rows.rpcApartSpec.post enc Try.prog Try.f3 false true false false) := by
  refine returnsInHanded_of_change (C := Try.checked) own started (by kernel_rfl) Try.func3
    (ChangeSpec.witness6 (enc := enc) (C := Try.checked) false ⟨#[], #[.slice none 0 0, .int .u8 0], []⟩ 8 (by kernel_rfl) (by kernel_rfl) (by kernel_rfl) (by kernel_rfl)) ?_
  intro W base args ds gs before hval0 hW hcnd _
  have hval : ∀ (j : Nat) t v, Try.f3.params[j]? = some t → args[j]? = some v → Value.okWide Try.prog W .any base t v := hval0
  have hW' := hW
  obtain ⟨p, q, hA0, hV, rfl, hfz, hnd⟩ := hW
  have hA : DataW.TrodAll enc Try.prog W 0 (fun _ => true) true Try.f3.params.toList args.toList ds p := hA0
  rw [Try.params3] at hA hval
  obtain ⟨v0, vs0, d0, ds0, p0, q0, hargs, rfl, rfl, h0, r0⟩ := trodAll_cons hA
  obtain ⟨v1, vs1, d1, ds1, p1, q1, rfl, rfl, rfl, h1, r1⟩ := trodAll_cons r0
  obtain ⟨rfl, rfl, rfl⟩ := trodAll_nil r1
  obtain rfl : args = #[v0, v1] := by cases args; simp_all
  obtain ⟨rfl, rfl⟩ := trodVars_none hV
  have k0 := h0
  have lt0 : ∀ x ∈ p0, x.block < W.heap.size := by obtain ⟨m, hm⟩ := k0; exact DataW.trod_lt m _ _ _ hm
  have k1 := h1
  have lt1 : ∀ x ∈ p1, x.block < W.heap.size := by obtain ⟨m, hm⟩ := k1; exact DataW.trod_lt m _ _ _ hm
  obtain ⟨ao0, cap0, L0, rfl, w0, hR0, hK0, hn0, hc0⟩ := open_rows (f := askC) (ok := AkIn) (n := 8) Try.underlying22 (by kernel_rfl) (fun m cs y hl hf => ask_cs askT hl hf) (hval 0 22 v0 rfl rfl) h0
  obtain ⟨a1, rfl, rfl, rfl, w1⟩ := open_int Try.underlying5 (hval 1 5 v1 rfl rfl) h1
  clear hA0 hval0
  refine (rpcApart_walk rpcSays ao0 cap0 L0 a1 w0 w1 W hR0 hK0).mono fun e W' ⟨he, bel⟩ => ?_
  subst he
  exact ⟨_, rfl, _, _, _, [], _, [], hW', trodAll_mk1 (shut_bool Try.underlying4 _), (trodAll_cons_mk (Below.trod laidOut (by kernel_rfl) (of_decide_eq_true (by kernel_rfl)) k0 bel lt0) (trodAll_cons_mk (Below.trod laidOut (by kernel_rfl) (of_decide_eq_true (by kernel_rfl)) k1 bel lt1) trodAll_mk0)), rfl, bel.frame _, fun h => by cases h⟩

theorem rpcApart_over : Rows.rpcApartRow.holds Try.pinned (OpenSpec.ofChange Rows.rpcApartSpec) :=
  OpenClaim.holds_of_wide 3 Try.f3 rfl rfl rfl rfl rfl rfl rfl ⟨rfl, rfl, rfl, rfl, rfl⟩ rfl rfl rfl rfl rfl (by kernel_rfl) Try.func3 (by kernel_rfl)
    (of_decide_eq_true (by kernel_rfl)) (by unfold Func.isWrapper; first | (rw [if_pos (by decide +kernel)]; kernel_rfl) | (rw [if_neg (by decide +kernel)]; exact ⟨rfl, rfl⟩))
    (fun os started H enc _ => rpcApart_lifted os started H enc)

/-- THE STATEMENT -/
theorem rpcApart_holds : Rows.RpcApartSaid := rpcApart_over 
end Go.Proofs.Ytphigibhgldnpaa
