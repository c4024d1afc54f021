/- The law TailSees: a tail lies above every number that was told ahead of it; asking changes nothing. Conditions: none. (Written by gen/gentailsees.py.) -/
import Derived.Test.YtchhmfdalghgcaaGreatG31a
import Derived.Test.YtchhmfdalghgcaaGreatG29a
namespace Go.Proofs.YtchhmfdalghgcaaGreat
open Go.ChangeShapes Go.WideShapes Go.ChangeAt Go.RowKit
open Go.ChangeMaps (open_string shut_string)
set_option linter.unusedVariables false
set_option maxRecDepth 20000
set_option maxHeartbeats 16000000 in
theorem tailSees_walk {UG : Nat → Nat → (Nat → Prop) → World → Us → Prop} {OG : Nat → (Nat → Prop) → World → Od → Prop} {LG : Nat → (Nat → Prop) → World → Ly → Prop} {NG : Nat → (Nat → Prop) → World → Nd → Prop} {HG : Nat → Nat → (Nat → Prop) → World → Hd → Prop} {TG : Nat → (Nat → Prop) → World → Tl → Prop} (HS : HandSays UG OG LG NG HG) (TS : TailSays TG) (x : Int) (fo : Option Addr) (fc : Nat) (fl : List Int) (wx : (Lit.int .u8 x).wf = true) (hd : fl.length ≤ maxLen) (w : World) (hR2 : Row w fo 1 byteC fl) (hK2 : ∀ y ∈ fl, byteOk w y) :
    Calls Tryz.prog 3 #[.int .u8 x, .slice fo fl.length fc] w fun e w' => e = .returned (.bool true) ∧ Below w.heap.size w w' := by
  obtain ⟨x0, x1⟩ : 0 ≤ x ∧ x < 256 := by
    have h := wx
    simp [Lit.wf] at h
    have e1 : IntKind.u8.min = 0 := by decide
    have e2 : IntKind.u8.max = 255 := by decide
    omega
  clear wx
  obtain ⟨z, rfl⟩ : ∃ z : Nat, x = z := ⟨x.toNat, by omega⟩
  have CW := Lib.hid (fun w => wakes17_any HS TS w)
  have ZZ := Lib.hid (fun (x : Int) (h : 0 ≤ x ∧ x ≤ 110) => show i64w x from WalkArith.wf_i64 (by omega))
  have TT := Lib.hid (fun b nb => HS.thing b nb)
  have CT := Lib.hid two17_any
  have CM := Lib.hid (fun ao w hC => made17_two HS ao twT 1 rfl 9 w hC few_twT (by decide +kernel) (by decide))
  have HR2 := Lib.hid (fun W (hb : Below w.heap.size w W) => hR2.below hb)
  have HK2 := Lib.hid (show ∀ y ∈ fl, 0 ≤ y ∧ y < 256 from hK2)
  unfold maxLen at hd
  have hd' : (fl.length : Int) ≤ 9223372036854775807 := by omega
  clear hR2 hK2
  by_cases h60 : fl.length ≤ 60
  · have n60 : ¬ (60 : Int) < (fl.length : Int) := by omega
    have H60 := Lib.hid h60
    clear h60
    go_enter Tryz.func3, Tryz.ntmps3
    go_wp2_with (first
      | (go_at_call 6; refine (CM.out _ _ C1.out).mono ?_; rintro e w2 ⟨b, nb, p, rfl, hs2, hb2⟩; have S2 := Lib.hid (hs2.less (fun k hk => Nat.lt_of_lt_of_le hk B1.out.size)); have B2 := Lib.hid (B1.out.trans (hb2.mono B1.out.size)); clear hs2 hb2)
      | (go_at_call 7; refine (CT.out w).mono ?_; rintro e w1 ⟨ao1, rfl, hC1, hn1, hb1⟩; have B1 := Lib.hid hb1; have C1 := Lib.hid hC1; clear hC1 hn1 hb1))
    go_loopw [8, 9] (fun u i wr => ∃ (k : Nat) (h : Hd), i = .int .i64 k ∧ k ≤ z ∧ u = .int .i64 ((k : Int) - 1) ∧ Hid (TkS h k) ∧ Hid (Solo (HG b nb) (fun k => k < w.heap.size) wr h) ∧ Hid (Below w.heap.size w wr)) (fun _ i _ => z - (intOf i).toNat)
    case atStart => exact ⟨0, _, rfl, Nat.zero_le _, rfl, Lib.hid tks_made, S2, B2⟩
    case round =>
      clear S2 B2
      obtain ⟨k, h, rfl, hk, rfl, HT, HS1, HB⟩ := hrel
      by_cases hlt : k < z
      · have n0 : (k : Int) < (z : Int) := by omega
        have HN := Lib.hid (HT.out.next (by omega))
        go_wp2_with (go_at_call 9; refine (ho_ask HS HS1.out (k := 6) (un := 0) (e := 0) (p := 0) (s := ⟨#[]⟩) (fate := 0) (by omega) (ZZ.out 0 (by omega)) (ZZ.out 0 (by omega)) (ZZ.out 0 (by omega)) (by decide) HT.out.used (ZZ.out 0 (by omega))).mono ?_; rintro e w5 ⟨xc, xn, xm, xz, xe, xd, vo, vc, c, hc, rfl, hx, hs, hk5⟩; obtain rfl : xn = (k : Int) := (congrArg An.n hx).symm.trans HN.out.1; have S5 := Lib.hid hs; have B5 := Lib.hid (HB.out.trans (hk5.toBelow HB.out.size (fun j h => h))); clear hs hk5 hx hc)
        have BN := Lib.hid (below_new w5 (.cells #[.int .i64 xc, .int .i64 k, .string xd, .int .i64 0, .slice vo 0 vc, .int .i64 xm, .int .i64 xz, .int .i64 xe] 33))
        refine ⟨⟨k + 1, _, by go_num, by omega, by go_num, Lib.hid HN.out.2, Lib.hid (S5.out.below (TT.out b nb) BN.out), Lib.hid (B5.out.trans (BN.out.mono B5.out.size))⟩, by simp [intOf]; omega⟩
      · have n0 : ¬ (k : Int) < (z : Int) := by omega
        obtain rfl : k = z := by omega
        go_wp2_with (first
          | (go_at_call 10; refine (see_any HS TS b nb (fun k => k < w.heap.size) w6 h S6.out k (by omega) HT.out ao6 1 C6.out N6.out (Nat.le_refl _) fo fc fl H60.out (fun W hk => HR2.out W (B6.out.trans (hk.toBelow B6.out.size (fun j h => h)))) HK2.out).mono ?_; rintro e w7 ⟨h7, rfl, hs7, hk7, ht7⟩; have S7 := Lib.hid hs7; have T7 := Lib.hid ht7; have B7 := Lib.hid (B6.out.trans (hk7.toBelow B6.out.size (fun j h => h))); clear hs7 hk7 ht7)
          | (go_at_call 7; refine (CT.out wr).mono ?_; rintro e w6 ⟨ao6, rfl, hC, hn, hb⟩; have S6 := Lib.hid (HS1.out.below (TT.out b nb) hb); have B6 := Lib.hid (HB.out.trans (hb.mono HB.out.size)); have C6 := Lib.hid hC; have N6 := Lib.hid hn; clear hC hn hb))
        clear S6 C6 N6 HT HS1 HB
        go_loopw [15] (fun i wr => ∃ (j : Nat) (h : Hd), i = .int .i64 j ∧ j ≤ 100 ∧ Hid (TkS h k) ∧ Hid (Solo (HG b nb) (fun k => k < w.heap.size) wr h) ∧ Hid (Below w.heap.size w wr)) (fun i _ => 100 - (intOf i).toNat)
        case atStart => exact ⟨0, h7, rfl, Nat.zero_le _, T7, S7, B7⟩
        case round =>
          clear S7 T7 B7
          obtain ⟨j, h8, rfl, hj, HT, HS1, HB⟩ := hrel
          by_cases hj2 : j < 100
          · have n1 : (j : Int) < 100 := by omega
            go_wp2_with (go_at_call 11; refine (h_does HS HS1.out HT.out.used (k := 0) (ZZ.out 0 (by omega))).mono ?_; rintro e w8 ⟨rfl, hs, hk8⟩; have S8 := Lib.hid hs; have B8 := Lib.hid (HB.out.trans (hk8.toBelow HB.out.size (fun j h => h))); clear hs hk8)
            refine ⟨⟨j + 1, _, by go_num, by omega, Lib.hid HT.out.does, S8, B8⟩, by simp [intOf]; omega⟩
          · have n1 : ¬ (j : Int) < 100 := by omega
            go_wp2_with (first
              | (go_at_call 10; refine (see_nil HS TS b nb (fun k => k < w.heap.size) w9 h8 S9.out k (by omega) HT.out ao9 C9.out N9.out).mono ?_; rintro e w10 ⟨h10, rfl, hs, hk10, _⟩; have B10 := Lib.hid (B9.out.trans (hk10.toBelow B9.out.size (fun j h => h))); clear hs hk10)
              | (go_at_call 7; refine (CT.out wr).mono ?_; rintro e w9 ⟨ao9, rfl, hC, hn, hb⟩; have S9 := Lib.hid (HS1.out.below (TT.out b nb) hb); have B9 := Lib.hid (HB.out.trans (hb.mono HB.out.size)); have C9 := Lib.hid hC; have N9 := Lib.hid hn; clear hC hn hb)
              | (go_at_call 8; refine (CW.out _).mono ?_; rintro e w30 ⟨rfl, hb30⟩; have B30 := Lib.hid (B10.out.trans (hb30.mono B10.out.size)); clear hb30))
            go_ret
            exact ⟨rfl, B30.out⟩
  · have n60 : (60 : Int) < (fl.length : Int) := by omega
    clear h60
    go_enter Tryz.func3, Tryz.ntmps3
    go_wp2_with (first
      | (go_at_call 8; refine (CW.out _).mono ?_; rintro e w30 ⟨rfl, hb30⟩; have B30 := Lib.hid (B2.out.trans (hb30.mono B2.out.size)); clear hb30)
      | (go_at_call 6; refine (CM.out _ _ C1.out).mono ?_; rintro e w2 ⟨b, nb, p, rfl, hs2, hb2⟩; have S2 := Lib.hid (hs2.less (fun k hk => Nat.lt_of_lt_of_le hk B1.out.size)); have B2 := Lib.hid (B1.out.trans (hb2.mono B1.out.size)); clear hs2 hb2)
      | (go_at_call 7; refine (CT.out w).mono ?_; rintro e w1 ⟨ao1, rfl, hC1, hn1, hb1⟩; have B1 := Lib.hid hb1; have C1 := Lib.hid hC1; clear hC1 hn1 hb1))
    go_ret
    exact ⟨rfl, B30.out⟩

set_option maxRecDepth 100000 in
theorem tailSees_lifted (os : Os) (started : os.Started) (H : Type) (enc : TypeId × Value → H) :
    ReturnsInHanded {} Tryz.checked os 3 .any (Rows.tailSeesSpec.pre6 enc Tryz.prog Tryz.f3 Rows.tailSeesRow.domain false) (Rows.tailSeesSpec.post enc Tryz.prog Tryz.f3 false true false false) := by
  refine returnsInHanded_of_change (C := Tryz.checked) own started (by kernel_rfl) Tryz.func3
    (ChangeSpec.witness6 (enc := enc) (C := Tryz.checked) false ⟨#[], #[.int .u8 0, .slice none 0 0], []⟩ 8 (by kernel_rfl) (by kernel_rfl) (by kernel_rfl) (by kernel_rfl)) ?_
  intro W base args ds gs before hval0 hW hcnd _
  have hval : ∀ (j : Nat) t v, Tryz.f3.params[j]? = some t → args[j]? = some v → Value.okWide Tryz.prog W .any base t v := hval0
  have hW' := hW
  obtain ⟨p, q, hA0, hV, rfl, hfz, hnd⟩ := hW
  have hA : DataW.TrodAll enc Tryz.prog W 0 (fun _ => true) true Tryz.f3.params.toList args.toList ds p := hA0
  rw [Tryz.params3] at hA hval
  obtain ⟨v0, vs0, d0, ds0, p0, q0, hargs, rfl, rfl, h0, r0⟩ := trodAll_cons hA
  obtain ⟨v1, vs1, d1, ds1, p1, q1, rfl, rfl, rfl, h1, r1⟩ := trodAll_cons r0
  obtain ⟨rfl, rfl, rfl⟩ := trodAll_nil r1
  obtain rfl : args = #[v0, v1] := by cases args; simp_all
  obtain ⟨rfl, rfl⟩ := trodVars_none hV
  have k0 := h0
  have lt0 : ∀ x ∈ p0, x.block < W.heap.size := by obtain ⟨m, hm⟩ := k0; exact DataW.trod_lt m _ _ _ hm
  have k1 := h1
  have lt1 : ∀ x ∈ p1, x.block < W.heap.size := by obtain ⟨m, hm⟩ := k1; exact DataW.trod_lt m _ _ _ hm
  obtain ⟨a0, rfl, rfl, rfl, w0⟩ := open_int Tryz.underlying5 (hval 0 5 v0 rfl rfl) h0
  obtain ⟨ao1, cap1, L1, rfl, w1, hR1, hK1, hn1, hc1⟩ := open_rows (f := byteC) (ok := byteOk) (n := 0) Tryz.underlying22 (by kernel_rfl) (fun m cs y hl hf => byte_cs Tryz.underlying5 hl hf) (hval 1 22 v1 rfl rfl) h1
  clear hA0 hval0
  refine (tailSees_walk handSays tailSays a0 ao1 cap1 L1 w0 w1 W hR1 hK1).mono fun e W' ⟨he, bel⟩ => ?_
  subst he
  exact ⟨_, rfl, _, _, _, [], _, [], hW', trodAll_mk1 (shut_bool Tryz.underlying4 _), (trodAll_cons_mk (Below.trod laidOut (by kernel_rfl) (of_decide_eq_true (by kernel_rfl)) k0 bel lt0) (trodAll_cons_mk (Below.trod laidOut (by kernel_rfl) (of_decide_eq_true (by kernel_rfl)) k1 bel lt1) trodAll_mk0)), rfl, bel.frame _, fun h => by cases h⟩

theorem tailSees_over : Rows.tailSeesRow.holds Tryz.pinned (OpenSpec.ofChange Rows.tailSeesSpec) :=
  OpenClaim.holds_of_wide 3 Tryz.f3 rfl rfl rfl rfl rfl rfl rfl ⟨rfl, rfl, rfl, rfl, rfl⟩ rfl rfl rfl rfl rfl (by kernel_rfl) Tryz.func3 (by kernel_rfl)
    (of_decide_eq_true (by kernel_rfl)) (by unfold Func.isWrapper; first | (rw [if_pos (by decide +kernel)]; kernel_rfl) | (rw [if_neg (by decide +kernel)]; exact ⟨rfl, rfl⟩))
    (fun os started H enc _ => tailSees_lifted os started H enc)

/-- THE STATEMENT -/
theorem tailSees_holds : Rows.TailSeesSaid := tailSees_over 
end Go.Proofs.YtchhmfdalghgcaaGreat
