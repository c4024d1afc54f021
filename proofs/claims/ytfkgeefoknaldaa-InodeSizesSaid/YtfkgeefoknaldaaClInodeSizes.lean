/- The law InodeSizes: a file is as long as its farthest write, or as it was cut last; what is cut off and made longer again is a hole. No conditions. -/
import Derived.Test.YtfkgeefoknaldaaG35a
import Derived.Test.YtfkgeefoknaldaaG11a
import Derived.Lib.MinMax
namespace Go.Proofs.Ytfkgeefoknaldaa
open Go.ChangeShapes Go.WideShapes Go.ChangeAt Go.RowKit Go.Maps
set_option linter.unusedVariables false
set_option maxRecDepth 20000
set_option maxHeartbeats 1000000 in
theorem inodeSizes_walk (ao : Option Addr) (cap : Nat) (L : List Pr) (c : Int) (wl : L.length ≤ maxLen) (wc : (Lit.int .u16 c).wf = true) (w : World) (hR : Row w ao 2 prC L) (hK : ∀ x ∈ L, PrIn w x) (hn : ao = none → cap = 0) (hc : L.length ≤ cap) :
    Calls Try.prog 5 #[.slice ao L.length cap, .int .u16 c] w fun e w' => e = .returned (.bool true) ∧ Below w.heap.size w w' := by
  have h2 : (Lit.int .i64 2).wf = true := by decide
  obtain ⟨hc0, hc1⟩ := u16_wf wc
  have hlI : (L.length : Int) ≤ 9223372036854775807 := by unfold maxLen at wl; omega
  have HR := Lib.hid hR
  have HKK := Lib.hid hK
  obtain ⟨X, hX⟩ : ∃ X : Nat → Prop, X = fun k => k < w.heap.size := ⟨_, rfl⟩
  have CN := Lib.hid (ps_new w)
  rw [← hX] at CN
  have HXX := Lib.hid (show ∀ k, k < w.heap.size → X k from fun k hk => by rw [hX]; exact hk)
  have HBX := Lib.hid (fun (W : World) (hk : Kept X w W) => Kept.toBelow hk (Nat.le_refl _) HXX.out)
  have CM := Lib.hid (fun (W : World) (b : Nat) (hs : Solo (PT b) X W newT) => show Calls Try.prog 10 #[.pointer (some ⟨b, 0, none⟩), .int .i64 2] W fun e w' => e = .returned (.tuple #[.int .i64 2, .int .i64 0]) ∧ Solo (PT b) X w' ⟨[rootI, ⟨2, 2, 0, 0, 0, []⟩], 3⟩ ∧ Kept X W w' from ps_make hs TbI.new (by decide) 2)
  have CL := Lib.hid (fun (W : World) (b : Nat) (hs : Solo (PT b) X W ⟨[rootI, ⟨2, 2, 0, 0, 0, []⟩], 3⟩) => show Calls Try.prog 11 #[.pointer (some ⟨b, 0, none⟩), .int .i64 2, .int .i64 1] W fun e w' => e = .returned (.int .i64 0) ∧ Solo (PT b) X w' (fileT [] 0) ∧ Kept X W w' from ps_link hs (by have := TbI.new.make 2; rw [ft_make] at this; exact this) (by decide) h2 1)
  have CK := Lib.hid wakes20_any
  have CS := Lib.hid (fun (W : World) (b : Nat) (P : List Pt) (s : Int) (hs : Solo (PT b) X W (fileT P s)) => show Calls Try.prog 23 #[.pointer (some ⟨b, 0, none⟩), .int .i64 2] W fun e w' => e = .returned (.tuple #[.agg #[.int .i64 2, .int .i64 2, .int .i64 1, .int .i64 s], .bool true]) ∧ Below W.heap.size W w' from ps_stat hs h2 (ft_get _ _))
  have CT := Lib.hid (fun (W : World) (b : Nat) (P : List Pt) (s c : Int) (hs : Solo (PT b) X W (fileT P s)) (hT : TbI (fileT P s)) (hc : 0 ≤ c ∧ c ≤ 8192) => show Calls Try.prog 26 #[.pointer (some ⟨b, 0, none⟩), .int .i64 2, .int .i64 c] W fun e w' => e = .returned (.int .i64 0) ∧ (Solo (PT b) X w' (fileT (cutE P c) c) ∧ TbI (fileT (cutE P c) c)) ∧ Kept X W w' from by
    have h5 := ps_trunc hs hT h2 (s := c) (by omega)
    obtain ⟨h6, h7⟩ := ft_trunc hT hc
    rw [h6] at h5
    refine h5.mono ?_
    rintro e w' ⟨rfl, h8, h9⟩
    exact ⟨rfl, ⟨h8, h7⟩, h9⟩)
  have CP := Lib.hid (fun (W : World) (b : Nat) (P : List Pt) (s : Int) (hs : Solo (PT b) X W (fileT P s)) (hl : P.length ≤ 100000) => show Calls Try.prog 21 #[.pointer (some ⟨b, 0, none⟩), .int .i64 2] W fun e w' => ∃ v, e = .returned v ∧ OPa w' W.heap.size v P ∧ Below W.heap.size W w' from ps_parts hs h2 (ft_get _ _) hl)
  have CW := Lib.hid (fun (W : World) (b : Nat) (P P2 : List Pt) (s off k ad s2 : Int) (hs : Solo (PT b) X W (fileT P s)) (hT : TbI (fileT P s)) (hw : writeI (fileT P s) 2 off k ad = (fileT P2 s2, 0)) (ho : 0 ≤ off ∧ off ≤ 4000) => show Calls Try.prog 25 #[.pointer (some ⟨b, 0, none⟩), .int .i64 2, .int .i64 off, .int .i64 k, .int .i64 ad] W fun e w' => e = .returned (.int .i64 0) ∧ Solo (PT b) X w' (fileT P2 s2) ∧ Kept X W w' from by
    have h5 := ps_write hs hT h2 (off := off) (by omega) k ad
    rw [hw] at h5
    exact h5)
  clear hR hK hn hc hX wc h2 wl
  by_cases hl : 30 < (L.length : Int)
  · go_enter Try.func5, Try.ntmps5
    go_wp2_with (first
      | (go_at_call 6; refine CN.out.mono ?_; rintro e w1 ⟨b, rfl, hs, hb, _⟩; have HS1 := Lib.hid hs; have HK1 := Lib.hid (Kept.ofBelow hb X); clear hs hb)
      | (go_at_call 10; with_reducible refine (CM.out _ _ HS1.out).mono ?_; rintro e w2 ⟨rfl, hs, hk⟩; have HS2 := Lib.hid hs; have HK2 := Lib.hid (HK1.out.trans hk); clear hs hk)
      | (go_at_call 11; with_reducible refine (CL.out _ _ HS2.out).mono ?_; rintro e w3 ⟨rfl, hs, hk⟩; have HS3 := Lib.hid hs; have HK3 := Lib.hid (HK2.out.trans hk); clear hs hk)
      | (go_at_call 9; refine (CK.out _).mono ?_; rintro e w4 ⟨rfl, hb⟩; have HB4 := Lib.hid (HBX.out _ (HK3.out.below hb)); clear hb))
    go_ret
    exact ⟨rfl, HB4.out⟩
  have hl2 : (L.length : Int) ≤ 30 := by omega
  clear hl
  go_enter Try.func5, Try.ntmps5
  go_wp2_with (first
    | (go_at_call 6; refine CN.out.mono ?_; rintro e w1 ⟨b, rfl, hs, hb, _⟩; have HS1 := Lib.hid hs; have HK1 := Lib.hid (Kept.ofBelow hb X); clear hs hb)
    | (go_at_call 10; with_reducible refine (CM.out _ _ HS1.out).mono ?_; rintro e w2 ⟨rfl, hs, hk⟩; have HS2 := Lib.hid hs; have HK2 := Lib.hid (HK1.out.trans hk); clear hs hk)
    | (go_at_call 11; with_reducible refine (CL.out _ _ HS2.out).mono ?_; rintro e w3 ⟨rfl, hs, hk⟩; have HS3 := Lib.hid hs; have HK3 := Lib.hid (HK2.out.trans hk); clear hs hk))
  go_loopw [8, 9] (fun v x wr => ∃ (k : Nat) (P : List Pt) (s : Int), v = .int .i64 s ∧ x = .int .i64 k ∧ k ≤ L.length ∧ P.length ≤ 2 * k ∧ 0 ≤ s ∧ s ≤ 8192 ∧ Hid (Solo (PT b) X wr (fileT P s)) ∧ Hid (TbI (fileT P s)) ∧ Hid (Kept X w wr)) (fun _ x _ => L.length - (intOf x).toNat)
  case atStart => exact ⟨0, [], 0, rfl, rfl, Nat.zero_le _, Nat.le_refl _, Int.le_refl _, by decide, HS3, Lib.hid ft_tb0, HK3⟩
  case round =>
    obtain ⟨k, P, s, rfl, rfl, hk, hPl, hs0, hs1, HS, HT, HK⟩ := hrel
    by_cases hlt : k < L.length
    · have k0 : (k : Int) < (L.length : Int) := by omega
      obtain ⟨bk, of_, hao, q⟩ := Row.below HR.out (HBX.out _ HK.out) k hlt
      subst hao
      have q0 : wr.cell? ⟨bk, of_ + k * 2, none⟩ = some (.int .u16 L[k].a) := q 0 _ rfl
      have q1 : wr.cell? ⟨bk, of_ + k * 2 + 1, none⟩ = some (.int .u16 L[k].b) := q 1 _ rfl
      obtain ⟨⟨a0, a1⟩, b0, b1⟩ := HKK.out _ (List.getElem_mem hlt)
      clear q
      generalize L[k].a = xa at *
      generalize L[k].b = xb at *
      go_wp2_with fail
      go_quiet (fail)
      have hov : 0 ≤ xa % 4000 ∧ xa % 4000 ≤ 4000 := by omega
      have hkv : 1 ≤ 1 + xb % 1024 ∧ 1 + xb % 1024 ≤ 1024 := by omega
      generalize xa % 4000 = ov at *
      generalize 1 + xb % 1024 = kv at *
      clear q0 q1 a0 a1 b0 b1
      have HS4 := Lib.hid (HS.out.below (pt_thing b) (below_drewN (Below.refl _ wr) nq))
      have HK4 := Lib.hid (HK.out.drewN nq)
      generalize wr.drewN nq = W4 at *
      obtain ⟨P2, hw, hl5, hT5⟩ := ft_write HT.out (by omega) hov hkv (show (0 : Int) ≤ k ∧ (k : Int) < 16384 from by omega)
      have hs5 := (ft_tb hT5).2.2
      obtain ⟨s2, hs2⟩ : ∃ s2, max s (ov + kv) = s2 := ⟨_, rfl⟩
      rw [hs2] at hw hT5 hs5
      have HT5 := Lib.hid hT5
      have CW4 := Lib.hid (CW.out W4 b P P2 s ov kv k s2 HS4.out HT.out hw hov)
      have hw1 : IntKind.i64.wrap (ov + kv) = ov + kv := IntWalk.i64_in _ (by omega)
      clear hw hT5 hov hkv
      go_wp2_with (first
        | (go_at_call 25; with_reducible refine CW4.out.mono ?_; rintro e w5 ⟨rfl, hs, hk⟩; have HS5 := Lib.hid hs; have HK5 := Lib.hid (HK4.out.trans hk); clear hs hk)
        | (go_at_call 23; with_reducible refine (CS.out _ _ _ _ HS5.out).mono ?_; rintro e w6 ⟨rfl, hb⟩; have HS6 := Lib.hid ((HS5.out.below (pt_thing b) hb).below (pt_thing b) (blwA w6 (.cells #[.int .i64 2, .int .i64 2, .int .i64 1, .int .i64 s2] 56))); have HK6 := Lib.hid ((HK5.out.below hb).alloc (.cells #[.int .i64 2, .int .i64 2, .int .i64 1, .int .i64 s2] 56)); clear hb))
      go_roundw
      case rel => exact ⟨k + 1, P2, s2, by first | rfl | exact hs2 | (rw [hs2]), by go_num, by omega, by omega, hs5.1, hs5.2, HS6, HT5, HK6⟩
      case measure => simp [intOf]; omega
    · obtain rfl : k = L.length := by omega
      have hcv : 0 ≤ c % 8193 ∧ c % 8193 ≤ 8192 := by omega
      have HG := Lib.hid (ft_tb HT.out).1
      have HCU := Lib.hid (cut_twice HG.out hcv.1)
      have HL3 := Lib.hid (cut_len (cutI_good HG.out hcv.1) (show (0 : Int) ≤ 8192 by decide))
      have CT1 := Lib.hid (CT.out wr b P s (c % 8193) HS.out HT.out hcv)
      obtain ⟨P1, hP1⟩ : ∃ P1, cutE P (c % 8193) = P1 := ⟨_, rfl⟩
      rw [hP1] at CT1 HCU HL3
      obtain ⟨P3, hP3⟩ : ∃ P3, cutE P1 8192 = P3 := ⟨_, rfl⟩
      have CT2 := Lib.hid (fun W s h1 h2 => CT.out W b P1 s 8192 h1 h2 (by omega))
      rw [hP3] at CT2 HCU HL3
      have HL4 := Lib.hid (show P3.length ≤ 100000 from Nat.le_trans HL3.out (by decide))
      have CP3 := Lib.hid (fun W s h => CP.out W b P3 s h HL4.out)
      have hl3I : (P3.length : Int) ≤ 64 := by have := HL3.out; omega
      clear hP1 hP3 CT
      go_wp2_with (first
        | (go_at_call 26; have hh := HS5.out; with_reducible refine (CT2.out _ _ hh.1 hh.2).mono ?_; rintro e w6 ⟨rfl, hs, hk⟩; have HS6 := Lib.hid hs; have HK6 := Lib.hid (HK5.out.trans hk); clear hs hk hh)
        | (go_at_call 26; with_reducible refine CT1.out.mono ?_; rintro e w5 ⟨rfl, hs, hk⟩; have HS5 := Lib.hid hs; have HK5 := Lib.hid (HK.out.trans hk); clear hs hk)
        | (go_at_call 21; with_reducible refine (CP3.out _ _ HS6.out.1).mono ?_; rintro e w7 ⟨v7, rfl, hO, hb⟩; obtain ⟨ao7, cp7, hv7, hP7, hr7⟩ := OR.form par_rows hO; clear hr7; subst hv7; have HP7 := Lib.hid hP7; have HS7 := Lib.hid (HS6.out.1.below (pt_thing b) hb); have HK7 := Lib.hid (HK6.out.below hb); clear hO hb hP7))
      generalize c % 8193 = cv at *
      go_loopw [16] (fun x wq => ∃ j : Nat, x = .int .i64 j ∧ j ≤ P3.length ∧ Hid (Below w7.heap.size w7 wq)) (fun x _ => P3.length - (intOf x).toNat)
      case atStart => exact ⟨0, rfl, Nat.zero_le _, Lib.hid (Below.refl _ _)⟩
      case round =>
        obtain ⟨j, rfl, hj, HB⟩ := hrel
        by_cases hjl : j < P3.length
        · have j0 : (j : Int) < (P3.length : Int) := by omega
          obtain ⟨bk7, of7, hao7, p0, p1, p2, p3⟩ := PaL.at (PaL.below HP7.out HB.out) j hjl
          subst hao7
          have hcut := HCU.out _ (List.getElem_mem hjl)
          have hone := rail_one (goodE_iff.1 (ft_tb HS6.out.2).1).2 _ (List.getElem_mem hjl)
          obtain ⟨o1, o2, o3, _⟩ := oneB_iff.1 hone
          generalize P3[j] = y at *
          have hw1 : IntKind.i64.wrap (y.off + y.len) = y.off + y.len := IntWalk.i64_in _ (by omega)
          have g1 : decide (cv < y.off + y.len) = false := decide_eq_false (by omega)
          clear hone hcut
          go_wp2_with fail
          go_quiet (fail)
          have HB2 := Lib.hid (HB.out.trans (below_drewN (Below.refl w7.heap.size wr) nq))
          generalize wr.drewN nq = W9 at *
          go_wp2_with fail
          go_roundw
          case rel => exact ⟨j + 1, by go_num, by omega, HB2⟩
          case measure => simp [intOf]; omega
        · obtain rfl : j = P3.length := by omega
          have HS8 := Lib.hid (HS7.out.below (pt_thing b) HB.out)
          have HK8 := Lib.hid (HK7.out.below HB.out)
          go_wp2_with (first
            | (go_at_call 23; with_reducible refine (CS.out _ _ _ _ HS8.out).mono ?_; rintro e w9 ⟨rfl, hb⟩; have HK9 := Lib.hid ((HK8.out.below hb).alloc (.cells #[.int .i64 2, .int .i64 2, .int .i64 1, .int .i64 8192] 56)); clear hb)
            | (go_at_call 9; refine (CK.out _).mono ?_; rintro e w4 ⟨rfl, hb⟩; have HB4 := Lib.hid (HBX.out _ (HK9.out.below hb)); clear hb))
          go_ret
          exact ⟨rfl, HB4.out⟩

set_option maxRecDepth 100000 in
theorem inodeSizes_lifted (os : Os) (started : os.Started) (H : Type) (enc : TypeId × Value → H) :
    ReturnsInHanded {} Try.checked os 5 .any (Rows.inodeSizesSpec.pre6 enc Try.prog Try.f5 Rows.inodeSizesRow.domain false) (Rows.inodeSizesSpec.post enc Try.prog Try.f5 false true false false) := by
  refine returnsInHanded_of_change (C := Try.checked) own started (by kernel_rfl) Try.func5
    (ChangeSpec.witness6 (enc := enc) (C := Try.checked) false ⟨#[], #[.slice none 0 0, .int .u16 0], []⟩ 8 (by kernel_rfl) (by kernel_rfl) (by kernel_rfl) (by kernel_rfl)) ?_
  intro W base args ds gs before hval0 hW hcnd _
  have hval : ∀ (j : Nat) t v, Try.f5.params[j]? = some t → args[j]? = some v → Value.okWide Try.prog W .any base t v := hval0
  have hW' := hW
  obtain ⟨p, q, hA0, hV, rfl, hfz, hnd⟩ := hW
  have hA : DataW.TrodAll enc Try.prog W 0 (fun _ => true) true Try.f5.params.toList args.toList ds p := hA0
  rw [Try.params5] at hA hval
  obtain ⟨v0, vs0, d0, ds0, p0, q0, hargs, rfl, rfl, h0, r0⟩ := trodAll_cons hA
  obtain ⟨v1, vs1, d1, ds1, p1, q1, rfl, rfl, rfl, h1, r1⟩ := trodAll_cons r0
  obtain ⟨rfl, rfl, rfl⟩ := trodAll_nil r1
  obtain rfl : args = #[v0, v1] := by cases args; simp_all
  obtain ⟨rfl, rfl⟩ := trodVars_none hV
  have k0 := h0
  have lt0 : ∀ x ∈ p0, x.block < W.heap.size := by obtain ⟨m, hm⟩ := k0; exact DataW.trod_lt m _ _ _ hm
  have k1 := h1
  have lt1 : ∀ x ∈ p1, x.block < W.heap.size := by obtain ⟨m, hm⟩ := k1; exact DataW.trod_lt m _ _ _ hm
  obtain ⟨ao0, cap0, L0, rfl, w0, hR0, hK0, hn0, hc0⟩ := open_rows (f := prC) (ok := PrIn) (n := 1) Try.underlying65 (by kernel_rfl) (fun m cs y hl hf => pr_cs Try.underlying67 Try.underlying66 (by kernel_rfl) hl hf) (hval 0 65 v0 rfl rfl) h0
  obtain ⟨a1, rfl, rfl, rfl, w1⟩ := open_int Try.underlying66 (hval 1 66 v1 rfl rfl) h1
  clear hA0 hval0
  refine (inodeSizes_walk ao0 cap0 L0 a1 w0 w1 W hR0 hK0 hn0 hc0).mono fun e W' ⟨he, bel⟩ => ?_
  subst he
  exact ⟨_, rfl, _, _, _, [], _, [], hW', trodAll_mk1 (shut_bool Try.underlying4 _), (trodAll_cons_mk (Below.trod laidOut (by kernel_rfl) (of_decide_eq_true (by kernel_rfl)) k0 bel lt0) (trodAll_cons_mk (Below.trod laidOut (by kernel_rfl) (of_decide_eq_true (by kernel_rfl)) k1 bel lt1) trodAll_mk0)), rfl, bel.frame _, fun h => by cases h⟩

theorem inodeSizes_over : Rows.inodeSizesRow.holds Try.pinned (OpenSpec.ofChange Rows.inodeSizesSpec) :=
  OpenClaim.holds_of_wide 5 Try.f5 rfl rfl rfl rfl rfl rfl rfl ⟨rfl, rfl, rfl, rfl, rfl⟩ rfl rfl rfl rfl rfl (by kernel_rfl) Try.func5 (by kernel_rfl)
    (of_decide_eq_true (by kernel_rfl)) (by unfold Func.isWrapper; first | (rw [if_pos (by decide +kernel)]; kernel_rfl) | (rw [if_neg (by decide +kernel)]; exact ⟨rfl, rfl⟩))
    (fun os started H enc _ => inodeSizes_lifted os started H enc)

/-- THE STATEMENT -/
theorem inodeSizes_holds : Rows.InodeSizesSaid := inodeSizes_over 
end Go.Proofs.Ytfkgeefoknaldaa
