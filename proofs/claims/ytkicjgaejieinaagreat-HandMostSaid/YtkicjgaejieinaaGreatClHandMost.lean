/- The law HandMost: just so many questions are held; one more is lost. Conditions: none. -/
import Derived.Test.YtkicjgaejieinaaGreatG31a
import Derived.Test.YtkicjgaejieinaaGreatG27b
import Derived.Test.YtkicjgaejieinaaGreatG13a
namespace Go.Proofs.YtkicjgaejieinaaGreat
open Go.ChangeShapes Go.WideShapes Go.ChangeAt Go.RowKit
open Go.ChangeMaps (open_string shut_string)
set_option linter.unusedVariables false
set_option maxRecDepth 20000

set_option maxHeartbeats 8000000 in
theorem handMost_walk {UG : Nat → Nat → (Nat → Prop) → World → Us → Prop} {OG : Nat → (Nat → Prop) → World → Od → Prop} {LG : Nat → (Nat → Prop) → World → Ly → Prop} {NG : Nat → (Nat → Prop) → World → Nd → Prop} {HG : Nat → Nat → (Nat → Prop) → World → Hd → Prop} (HS : HandSays UG OG LG NG HG) (x : Int) (wx : (Lit.int .u8 x).wf = true) (w : World) :
    Calls Tryz.prog 5 #[.int .u8 x] w fun e w' => e = .returned (.bool true) ∧ Below w.heap.size w w' := by
  have CW := Lib.hid (fun w => wakes14_any HS w)
  have ZZ := Lib.hid (fun (x : Int) (h : 0 ≤ x ∧ x ≤ 20) => show i64w x from WalkArith.wf_i64 (by omega))
  have TT := Lib.hid (fun b nb => HS.thing b nb)
  obtain ⟨x0, x1⟩ : 0 ≤ x ∧ x < 256 := by
    have h := wx
    simp [Lit.wf] at h
    have e1 : IntKind.u8.min = 0 := by decide
    have e2 : IntKind.u8.max = 255 := by decide
    omega
  clear wx
  obtain ⟨z, rfl⟩ : ∃ z : Nat, x = z := ⟨x.toNat, by omega⟩
  obtain ⟨m, hm, hm80⟩ : ∃ m : Nat, ((z : Int).tmod 80) = (m : Int) ∧ m < 80 := ⟨z % 80, by rw [Int.tmod_eq_emod_of_nonneg (by omega)]; omega, Nat.mod_lt _ (by decide)⟩
  have CN := Lib.hid (made14_yes HS 0 (some ⟨w.heap.size + 1, 0, none⟩) 1 [[0]] 9 (lit1W w [0]) (lit1_chain w (num_small (by simp))).here.1 (few_one 0) (by decide +kernel) (by decide) (ZZ.out 0 (by omega)))
  have HT0 := Lib.hid tok_made
  generalize (⟨newN 0 [[0]] 9, []⟩ : Hd) = h0 at *
  go_enter Tryz.func5, Tryz.ntmps5
  go_wp2_with (go_at_call 10; refine CN.out.mono ?_; rintro e w1 ⟨b, nb, r, rn, rfl, hs1, hb1⟩; have B1 := Lib.hid ((lit1_below w [0]).trans (hb1.mono (lit1_below w [0]).size)); have U1 := Lib.hid (show Solo (HG b nb) (fun k => k < w.heap.size) w1 h0 from hs1.left.less (fun k hk => Nat.lt_of_lt_of_le hk (lit1_below w [0]).size)); clear hs1 hb1)
  obtain ⟨q, hq, hq2⟩ := least64 m
  have hq64 : q ≤ 64 := by omega
  have hq3 : min (m : Int) 64 = (q : Int) := by omega
  have HQ2 := Lib.hid hq2
  clear hq2
  go_loopw [7] (fun i wr => ∃ (k : Nat) (h : Hd), i = .int .i64 k ∧ k ≤ m ∧ Hid (Tok h 0 (min k 64)) ∧ Hid (Solo (HG b nb) (fun k => k < w.heap.size) wr h) ∧ Hid (Below w.heap.size w wr)) (fun i _ => m - (intOf i).toNat)
  case atStart => exact ⟨0, h0, rfl, Nat.zero_le _, Lib.hid (by simpa using HT0.out), U1, B1⟩
  case round =>
    clear U1 B1 CN HT0
    obtain ⟨k, h, rfl, hk, HT, HU, HB⟩ := hrel
    by_cases hlt : k < m
    · have n0 : (k : Int) < (m : Int) := by omega
      have HT2 := Lib.hid (show Tok (h.asked akH 3) 0 (min (k + 1) 64) from by
        have h1 := HT.out.ask (by decide) 3
        rw [if_neg (by decide)] at h1
        by_cases h2 : min k 64 < 64
        · rw [if_pos ⟨rfl, h2⟩] at h1
          rwa [show min (k + 1) 64 = min k 64 + 1 by omega]
        · rw [if_neg (fun h => h2 h.2)] at h1
          rwa [show min (k + 1) 64 = min k 64 by omega])
      go_wp2_with fail
      refine (h_askN HS HU.out (k := 6) (u := 0) (e := 0) (p := 0) (fate := 3) (s := ⟨#[]⟩) (ZZ.out 6 (by omega)) (ZZ.out 0 (by omega)) (ZZ.out 0 (by omega)) (ZZ.out 0 (by omega)) (Nat.zero_le _) HT.out.used (ZZ.out 3 (by omega))).mono ?_
      rintro e w2 ⟨ac, an, ad, ap, am, az, ae, ao, aon, aoc, c, rfl, hc, hqa, hu2, hk2⟩
      clear hqa hc
      have U2 := Lib.hid (show Solo (HG b nb) (fun k => k < w.heap.size) w2 (h.asked akH 3) from hu2)
      have B2 := Lib.hid (HB.out.trans (hk2.toBelow HB.out.size (fun k h => h)))
      clear hu2 hk2 HU HB HT
      go_wp2_with fail
      go_roundw
      case rel => exact ⟨k + 1, h.asked akH 3, by go_num, by omega, HT2, U2, B2⟩
      case measure => simp [intOf]; omega
    · obtain rfl : k = m := by omega
      have HT3 := Lib.hid (show Tok h 0 q from by rw [HQ2.out]; exact HT.out)
      have hlen : h.held.length = q := HT3.out.len
      clear HT
      go_wp2_with (go_at_call 18; refine (h_held HS HU.out).mono ?_; rw [hlen]; rintro e w3 ⟨vo, vc, rfl, hs3, hb3⟩; have U3 := Lib.hid hs3; have B3 := Lib.hid (HB.out.trans (hb3.mono HB.out.size)); clear hs3 hb3)
      clear HU HB
      go_loopw [8] (fun i wr => ∃ (j : Nat) (h : Hd), i = .int .i64 j ∧ j ≤ q ∧ Hid (Tok h j (q - j)) ∧ Hid (Solo (HG b nb) (fun k => k < w.heap.size) wr h) ∧ Hid (Below w.heap.size w wr)) (fun i _ => q - (intOf i).toNat)
      case atStart => exact ⟨0, h, rfl, Nat.zero_le _, HT3, U3, B3⟩
      case round =>
        clear U3 B3 HT3 hlen h
        obtain ⟨j, h, rfl, hj, HT, HU, HB⟩ := hrel
        have j100 : (j : Int) < 100 := by omega
        by_cases hlt : j < q
        · have HT2 := Lib.hid (show Tok (h.does 0) (j + 1) (q - (j + 1)) from by
            have h1 := HT.out.does (by omega) 0
            rw [if_pos (by omega), if_pos (by omega)] at h1
            rwa [show q - (j + 1) = q - j - 1 by omega])
          have hh : h.has 0 = true := by
            have h1 := HT.out.has 0
            rwa [decide_eq_true (by omega)] at h1
          go_wp2_with (go_at_call 14; refine (h_does HS HU.out HT.out.used (ZZ.out 0 (by omega))).mono ?_; rw [hh]; rintro e w4 ⟨rfl, hs4, hk4⟩; have U4 := Lib.hid hs4; have B4 := Lib.hid (HB.out.trans (hk4.toBelow HB.out.size (fun k h => h))); clear hs4 hk4)
          go_roundw
          case rel => exact ⟨j + 1, h.does 0, by go_num, by omega, HT2, U4, B4⟩
          case measure => simp [intOf]; omega
        · obtain rfl : j = q := by omega
          have HT2 := Lib.hid (show Tok (h.does 0) j 0 from by
            have h1 := HT.out.does (by omega) 0
            rw [if_neg (by omega), if_neg (by omega)] at h1
            rwa [show j - j = 0 by omega] at h1)
          have hh : h.has 0 = false := by
            have h1 := HT.out.has 0
            rwa [decide_eq_false (by omega)] at h1
          go_wp2_with (go_at_call 14; refine (h_does HS HU.out HT.out.used (ZZ.out 0 (by omega))).mono ?_; rw [hh]; rintro e w4 ⟨rfl, hs4, hk4⟩; have U4 := Lib.hid hs4; have B4 := Lib.hid (HB.out.trans (hk4.toBelow HB.out.size (fun k h => h))); clear hs4 hk4)
          refine (h_askN HS U4.out (k := 7) (u := 0) (e := 0) (p := 0) (fate := 0) (s := ⟨#[]⟩) (ZZ.out 7 (by omega)) (ZZ.out 0 (by omega)) (ZZ.out 0 (by omega)) (ZZ.out 0 (by omega)) (Nat.zero_le _) HT2.out.used (ZZ.out 0 (by omega))).mono ?_
          rintro e w5 ⟨xc, xn, xd, xp, xm, xz, xe, xo, xon, xoc, c, rfl, hc, ⟨hq3, hxn⟩, hu5, hk5⟩
          clear hq3
          rw [show decide ((0 : Int) = 0) = true from rfl] at hc
          subst hc
          rw [show ((h.does 0).heard (akN 7 0 0 0 ⟨#[]⟩) 0).n = (j : Int) from HT2.out.tail] at hxn
          subst hxn
          have B5 := Lib.hid ((B4.out.trans (hk5.toBelow B4.out.size (fun k h => h))).alloc (B4.out.trans (hk5.toBelow B4.out.size (fun k h => h))).size (.cells #[.int .i64 xc, .int .i64 j, .string xd, .int .i64 xp, .slice xo xon xoc, .int .i64 xm, .int .i64 xz, .int .i64 xe] 38))
          have q1 := cell_of (heap_alloc_new w5 (.cells #[.int .i64 xc, .int .i64 j, .string xd, .int .i64 xp, .slice xo xon xoc, .int .i64 xm, .int .i64 xz, .int .i64 xe] 38)) 1
          clear hu5 hk5 U4 HU HB HT
          go_wp2_with (go_at_call 9; refine (CW.out _).mono ?_; rintro e w7 ⟨rfl, hb7⟩; have B7 := Lib.hid (B5.out.trans (hb7.mono B5.out.size)); clear hb7)
          go_ret
          exact ⟨rfl, B7.out⟩

set_option maxRecDepth 100000 in
theorem handMost_lifted (os : Os) (started : os.Started) (H : Type) (enc : TypeId × Value → H) :
    ReturnsInHanded {} Tryz.checked os 5 .any (Rows.handMostSpec.pre6 enc Tryz.prog Tryz.f5 Rows.handMostRow.domain false) (Rows.handMostSpec.post enc Tryz.prog Tryz.f5 false true false false) := by
  refine returnsInHanded_of_change (C := Tryz.checked) own started (by kernel_rfl) Tryz.func5
    (ChangeSpec.witness6 (enc := enc) (C := Tryz.checked) false ⟨#[], #[.int .u8 0], []⟩ 8 (by kernel_rfl) (by kernel_rfl) (by kernel_rfl) (by kernel_rfl)) ?_
  intro W base args ds gs before hval0 hW hcnd _
  have hval : ∀ (j : Nat) t v, Tryz.f5.params[j]? = some t → args[j]? = some v → Value.okWide Tryz.prog W .any base t v := hval0
  have hW' := hW
  obtain ⟨p, q, hA0, hV, rfl, hfz, hnd⟩ := hW
  have hA : DataW.TrodAll enc Tryz.prog W 0 (fun _ => true) true Tryz.f5.params.toList args.toList ds p := hA0
  rw [Tryz.params5] at hA hval
  obtain ⟨v0, vs0, d0, ds0, p0, q0, hargs, rfl, rfl, h0, r0⟩ := trodAll_cons hA
  obtain ⟨rfl, rfl, rfl⟩ := trodAll_nil r0
  obtain rfl : args = #[v0] := by cases args; simp_all
  obtain ⟨rfl, rfl⟩ := trodVars_none hV
  have k0 := h0
  have lt0 : ∀ x ∈ p0, x.block < W.heap.size := by obtain ⟨m, hm⟩ := k0; exact DataW.trod_lt m _ _ _ hm
  obtain ⟨a0, rfl, rfl, rfl, w0⟩ := open_int Tryz.underlying5 (hval 0 5 v0 rfl rfl) h0
  clear hA0 hval0
  refine (handMost_walk handSays a0 w0 W).mono fun e W' ⟨he, bel⟩ => ?_
  subst he
  exact ⟨_, rfl, _, _, _, [], _, [], hW', trodAll_mk1 (shut_bool Tryz.underlying4 _), (trodAll_cons_mk (Below.trod laidOut (by kernel_rfl) (of_decide_eq_true (by kernel_rfl)) k0 bel lt0) trodAll_mk0), rfl, bel.frame _, fun h => by cases h⟩

theorem handMost_over : Rows.handMostRow.holds Tryz.pinned (OpenSpec.ofChange Rows.handMostSpec) :=
  OpenClaim.holds_of_wide 5 Tryz.f5 rfl rfl rfl rfl rfl rfl rfl ⟨rfl, rfl, rfl, rfl, rfl⟩ rfl rfl rfl rfl rfl (by kernel_rfl) Tryz.func5 (by kernel_rfl)
    (of_decide_eq_true (by kernel_rfl)) (by unfold Func.isWrapper; first | (rw [if_pos (by decide +kernel)]; kernel_rfl) | (rw [if_neg (by decide +kernel)]; exact ⟨rfl, rfl⟩))
    (fun os started H enc _ => handMost_lifted os started H enc)

/-- THE STATEMENT -/
theorem handMost_holds : Rows.HandMostSaid := handMost_over 
end Go.Proofs.YtkicjgaejieinaaGreat
