/- The law PlaceTails: the least address above all that any units have, of any counts; how many pages of a chain lie below any address. No conditions. -/
import Derived.Test.YtffiocgeijeheaaJPlpF
import Derived.Test.YtffiocgeijeheaaJPlcR
namespace Go.Proofs.Ytffiocgeijeheaa
open Go.ChangeShapes Go.WideShapes Go.ChangeAt Go.RowKit
open Go.ChangeMaps (open_string shut_string)
set_option linter.unusedVariables false
set_option maxRecDepth 20000

theorem keys_all {J : List (Int × Int)} {u : Int} {d : Bool} (h : d = decide (u ∈ keysK (J.take J.length))) : (d = true → u ∈ J.map (·.1)) ∧ (d = false → u ∉ J.map (·.1)) := by
  rw [List.take_of_length_le (Nat.le_refl _)] at h
  constructor
  · intro e
    rw [e] at h
    exact of_decide_eq_true h.symm
  · intro e
    rw [e] at h
    exact of_decide_eq_false h.symm
set_option maxHeartbeats 16000000 in
theorem placeTails_walk (HS : PlaceSays) (ep : Int) (ao : Option Addr) (cap : Nat) (L : List (List Int)) (lo : Option Addr) (lc : Nat) (l : List (Int × Int)) (x0 x1 : Int) (wl : l.length ≤ maxLen) (wx0 : (Lit.int .i64 x0).wf = true) (wx1 : (Lit.int .i64 x1).wf = true) (w : World) (hp : PIn w ep ao cap L) (hl : PL w lo l) :
    Calls Try.prog 4 #[.agg #[.int .i64 ep, .slice ao L.length cap], .slice lo l.length lc, .agg #[.int .i64 x0, .int .i64 x1]] w fun e w' => e = .returned (.bool true) ∧ Below w.heap.size w w' := by
  obtain ⟨W0, hW0⟩ : ∃ W0, W0 = (w.alloc (.cells #[.int .i64 ep, .slice ao L.length cap] 24)).alloc (.cells #[.int .i64 x0, .int .i64 x1] 44) := ⟨_, rfl⟩
  have HB0 := Lib.hid (show Below w.heap.size w W0 from by rw [hW0]; exact ((Below.refl w.heap.size w).alloc (Nat.le_refl _) _).alloc (by simp) _)
  have HP := Lib.hid (show PB W0 w.heap.size ep ao L.length cap from by rw [hW0]; exact PB.below (heap_alloc_new _ _) (below_alloc _ _))
  have HN := Lib.hid (show W0.heap[w.heap.size + 1]? = some (.cells #[.int .i64 x0, .int .i64 x1] 44 (0, 0)) from by
    rw [hW0]
    have h := heap_alloc_new (w.alloc (.cells #[.int .i64 ep, .slice ao L.length cap] 24)) (.cells #[.int .i64 x0, .int .i64 x1] 44)
    simpa using h)
  have HI := Lib.hid (hp.below HB0.out)
  have HL := Lib.hid (hl.below HB0.out)
  have CL0 := Lib.hid (large_any ep ao cap L W0 HI.out.1.1 HI.out.2.2.1 HI.out.2.2.2)
  have CW := Lib.hid (wakes8_any HS)
  have hE : i64 ep := hp.2.1
  have HV := Lib.hid (show i64 x0 ∧ i64 x1 from ⟨i64_wf wx0, i64_wf wx1⟩)
  clear hp hl wx0 wx1
  unfold maxLen at wl
  have wl' : (l.length : Int) ≤ 9223372036854775807 := by omega
  by_cases hlg : largeB L = true
  · rw [hlg] at CL0
    rw [hW0] at CL0 HB0
    clear hlg
    go_enter Try.func4, Try.ntmps4
    go_wp2_with (first | (go_at_call 8; refine CL0.out.mono ?_; rintro e w1 ⟨rfl, hb1⟩) | (go_at_call 9; refine (CW.out _).mono ?_; rintro e w2 ⟨rfl, hb2⟩))
    go_ret
    exact ⟨rfl, (HB0.out.trans (hb1.mono HB0.out.size)).trans (hb2.mono (Nat.le_trans HB0.out.size hb1.size))⟩
  have hlf : largeB L = false := by simpa using hlg
  rw [hlf] at CL0
  have HSM := Lib.hid (large_small hlf)
  clear hlg hlf
  by_cases hln : 30 < l.length
  · have hln' : (30 : Int) < (l.length : Int) := by omega
    rw [hW0] at CL0 HB0
    clear hln
    go_enter Try.func4, Try.ntmps4
    go_wp2_with (first | (go_at_call 8; refine CL0.out.mono ?_; rintro e w1 ⟨rfl, hb1⟩) | (go_at_call 9; refine (CW.out _).mono ?_; rintro e w2 ⟨rfl, hb2⟩))
    go_ret
    exact ⟨rfl, (HB0.out.trans (hb1.mono HB0.out.size)).trans (hb2.mono (Nat.le_trans HB0.out.size hb1.size))⟩
  have hl30 : (l.length : Int) ≤ 30 := by omega
  have FT := Lib.hid (fun (W : World) (h : Below W0.heap.size W0 W) => show Told W ao cap L from (HI.out.below h).1)
  have FL := Lib.hid (fun (W : World) (h : Below W0.heap.size W0 W) => HL.out.below h)
  have hmm := @run_makeMap Try.prog
  have hsz0 : w.heap.size + 1 < W0.heap.size := lt_of_block HN.out
  clear hln wl wl'
  rw [hW0] at CL0
  go_enter Try.func4, Try.ntmps4
  go_wp2_with (go_at_call 8; refine CL0.out.mono ?_; rw [← hW0]; rintro e w1 ⟨rfl, hb1⟩; have H1 := Lib.hid hb1; clear hb1 CL0)
  have hsz1 : w.heap.size + 1 < w1.heap.size := Nat.lt_of_lt_of_le hsz0 H1.out.size
  go_loopw [8, 9] (fun v x wr => ∃ (i : Nat) (K : List (Int × Int)), x = .int .i64 i ∧ i ≤ l.length ∧ K.length ≤ i ∧ Hid (OP wr (w1.heap.size + 1) v K) ∧ Hid (Tm wr w1.heap.size K) ∧ Hid (Below w1.heap.size w1 wr)) (fun _ x _ => l.length - (intOf x).toNat)
  case atStart => exact ⟨0, [], rfl, Nat.zero_le _, Nat.le_refl _, Lib.hid (OP.nil _ _), Lib.hid (Tm.made w1), Lib.hid (below_alloc w1 _)⟩
  case round =>
    obtain ⟨i, K, rfl, hi, hKi, HO, HM, HB⟩ := hrel
    have hszr : w1.heap.size + 1 ≤ wr.heap.size := HM.out.lt
    by_cases hlt : i < l.length
    · obtain ⟨ko, kc, rfl⟩ := HO.out.slice
      obtain ⟨bl, ol, hlo, c0, c1, wf0, wf1⟩ := (FL.out _ (H1.out.trans (HB.out.mono H1.out.size))) i hlt
      subst hlo
      have k0 : (i : Int) < (l.length : Int) := by omega
      have HCL := Lib.hid (show w1.cell? ⟨bl, ol + i * 2, none⟩ = some (.int .i64 l[i].1) ∧ w1.cell? ⟨bl, ol + i * 2 + 1, none⟩ = some (.int .i64 l[i].2) from by
        obtain ⟨b2, o2, h1, h2, h3, _⟩ := (FL.out _ H1.out) i hlt
        cases h1
        exact ⟨h2, h3⟩)
      have HWF := Lib.hid (show (Lit.int .i64 l[i].1).wf = true ∧ (Lit.int .i64 l[i].2).wf = true from ⟨wf0, wf1⟩)
      have kl : (K.length : Int) ≤ 30 := by omega
      clear c0 c1 wf0 wf1
      generalize l[i].1 = u at *
      generalize l[i].2 = vv at *
      go_wp2_with fail
      go_loopw [10, 11] (fun g x wq => ∃ (j : Nat) (d : Bool), x = .int .i64 j ∧ g = .bool d ∧ j ≤ K.length ∧ Hid (d = decide (u ∈ keysK (K.take j))) ∧ Hid (OP wq (w1.heap.size + 1) (.slice ko K.length kc) K) ∧ Hid (Tm wq w1.heap.size K) ∧ Hid (Below w1.heap.size w1 wq)) (fun _ x _ => K.length - (intOf x).toNat)
      case atStart => exact ⟨0, false, rfl, rfl, Nat.zero_le _, Lib.hid rfl, HO, HM, HB⟩
      case round =>
        obtain ⟨j, d, rfl, rfl, hj, HD, HO2, HM2, HB2⟩ := hrel
        have hszq : w1.heap.size + 1 ≤ wr.heap.size := HM2.out.lt
        have e0 := cellB HB2.out (block_lt_of_cell HCL.out.1) HCL.out.1
        have e1 := cellB HB2.out (block_lt_of_cell HCL.out.2) HCL.out.2
        by_cases hjt : j < K.length
        · obtain ⟨ao2, cp2, hv2, hPL⟩ := HO2.out.form
          obtain ⟨bk, ok, hko, f0, f1, _⟩ := hPL j hjt
          cases hv2
          subst hko
          have k1 : (j : Int) < (K.length : Int) := by omega
          have HDN := Lib.hid (keys_next (u := u) hjt)
          rw [← HD.out] at HDN
          clear hPL HD
          cases d with
          | true =>
            have HD2 := Lib.hid (show true = decide (u ∈ keysK (K.take (j + 1))) from by rw [HDN.out]; rfl)
            go_wp2_with fail
            go_quiet (fail)
            go_wp2_with fail
            go_roundw
            case rel => exact ⟨j + 1, true, by go_num, rfl, by omega, HD2, Lib.hid (HO2.out.below (below_drewN (Below.refl _ _) _)), Lib.hid (HM2.out.below (below_drewN (Below.refl _ _) _)), Lib.hid (below_drewN HB2.out _)⟩
            case measure => simp [intOf]; omega
          | false =>
            have HD2 := Lib.hid (show (K[j].1 == u) = decide (u ∈ keysK (K.take (j + 1))) from by rw [HDN.out]; rfl)
            generalize hq : (K[j].1 == u) = d2 at *
            go_wp2_with fail
            go_quiet (fail)
            go_wp2_with fail
            go_roundw
            case rel => exact ⟨j + 1, d2, by go_num, rfl, by omega, HD2, Lib.hid (HO2.out.below (below_drewN (Below.refl _ _) _)), Lib.hid (HM2.out.below (below_drewN (Below.refl _ _) _)), Lib.hid (below_drewN HB2.out _)⟩
            case measure => simp [intOf]; omega
        · obtain rfl : j = K.length := by omega
          have HKA := Lib.hid (keys_all HD.out)
          clear HD
          cases d with
          | true =>
            go_wp2_with fail
            go_roundw
            case rel => exact ⟨i + 1, K, by go_num, by omega, by omega, HO2, HM2, HB2⟩
            case measure => simp [intOf]; omega
          | false =>
            obtain ⟨w5, hup, ht5, hg5⟩ := (HM2.out.drew).put HWF.out.1 HWF.out.2 (HKA.out.2 rfl) (by omega)
            have HT5 := Lib.hid ht5
            have HB5 := Lib.hid ((HB2.out.drew).grown hg5 (by show _ ≤ wr.heap.size; omega) (fun k e => by cases e; exact Nat.le_refl _))
            have HO5 := Lib.hid ((HO2.out.drew).kept hg5 (by
              cases e : (Value.slice ko K.length kc).ownBlock with
              | none => exact .inl rfl
              | some k => exact .inr (fun e2 => by have := (HO2.out.1.lt k e).1; have := Option.some.inj e2; omega)))
            clear ht5 hg5
            go_wp2_with fail
            go_region
            have hsz5 : w1.heap.size + 1 ≤ w5.heap.size := HT5.out.lt
            have r0 := cellB HB5.out (block_lt_of_cell HCL.out.1) HCL.out.1
            have r1 := cellB HB5.out (block_lt_of_cell HCL.out.2) HCL.out.2
            clear e0 e1 hup
            go_wp2_with fail
            go_region_law (refine step_app_pair rfl (.tmp 60) (.tmp 72) rfl (B := w1.heap.size + 1) (v := .slice ko K.length kc) (J := K) rfl HO5.out.drew rfl HWF.out.1 HWF.out.2 (by omega) hsz5 ?_; intro v6 w6 hO6 hb6; have HO6 := Lib.hid hO6; have HT6 := Lib.hid (HT5.out.drew.low hb6 (Nat.lt_succ_self _)); have HB6 := Lib.hid ((HB5.out.drew).trans (hb6.mono (Nat.le_succ _))); clear hO6 hb6)
            all_goals
              go_wp2_with fail
              go_roundw
              case rel => exact ⟨i + 1, K ++ [(u, vv)], by go_num, by omega, by rw [List.length_append]; simp; omega, HO6, HT6, HB6⟩
              case measure => simp [intOf]; omega
    · obtain rfl : i = l.length := by omega
      obtain ⟨ko, kc, hv, hPL⟩ := HO.out.form
      have HPK := Lib.hid hPL
      have HEL := Lib.hid (show ∀ e ∈ K, i64 e.1 ∧ i64 e.2 from fun e he => ⟨i64_wf (HO.out.2 e he).1, i64_wf (HO.out.2 e he).2⟩)
      obtain ⟨es, clock, hes, hlen⟩ := HM.out.count
      have HES := Lib.hid hes
      have kl30 : K.length ≤ 30 := by omega
      have HBB := Lib.hid (H1.out.trans (HB.out.mono H1.out.size))
      have P6 := Lib.hid (HP.out.below HBB.out)
      have N6 := Lib.hid (below_heap HBB.out HN.out)
      have FI := Lib.hid (fun (W : World) (h : Below wr.heap.size wr W) => FT.out W (HBB.out.trans (h.mono HBB.out.size)))
      have FK := Lib.hid (fun (W : World) (h : Below wr.heap.size wr W) => HPK.out.below h)
      have FM := Lib.hid (fun (W : World) (h : Below wr.heap.size wr W) => HM.out.below h)
      obtain ⟨tt, htt⟩ : ∃ tt, tailR ep L K = tt := ⟨_, rfl⟩
      obtain ⟨bb, hbb⟩ : ∃ bb, belowR ep L x0 x1 = bb := ⟨_, rfl⟩
      have HTT := Lib.hid htt
      have HBE := Lib.hid hbb
      have q1 : (tt == tt) = true := by simp
      have q2 : (bb == bb) = true := by simp
      have q3 : ((K.length : Int) == (K.length : Int)) = true := by simp
      subst hv
      clear hPL hes htt hbb hszr
      go_wp2_with fail
      go_region_held3 (fun W => W.cell? ⟨w.heap.size, 0, none⟩ = some (.int .i64 ep) ∧ W.cell? ⟨w.heap.size, 1, none⟩ = some (.slice ao L.length cap) ∧ W.cell? ⟨w.heap.size + 1, 0, none⟩ = some (.int .i64 x0) ∧ W.cell? ⟨w.heap.size + 1, 1, none⟩ = some (.int .i64 x1) ∧ W.heap[w1.heap.size]? = some (.map es clock) ∧ Below wr.heap.size wr W ∧ wr.heap.size ≤ W.heap.size)
        (first | exact ⟨P6.out.cells.1, P6.out.cells.2, cell_of N6.out 0, cell_of N6.out 1, HES.out, (Below.refl _ _).drew, Nat.le_refl _⟩ | exact five_keep hb12 (by assumption) | exact five_keep hb11 (by assumption) | exact five_keep hb10 (by assumption) | exact five_keep hb9 (by assumption) | exact five_keep hb8 (by assumption) | exact five_keep hb7 (by assumption))
        (first
          | (go_at_call 10; refine (keepCopy_any ep ao cap L _ (FI.out _ (five_below (by assumption))).1 (small_copy HSM.out)).mono ?_; rintro e w7 ⟨bo, cb, rfl, hc7, hn7, hl7, hb7⟩; have HT7 := Lib.hid (show Told w7 bo cb L from ⟨hc7, hn7, hl7⟩); clear hc7 hn7 hl7)
          | (go_at_call 19; refine (HS.tail ep bo cb L w1.heap.size K _ HT7.out HSM.out hE (FM.out _ (five_below (by assumption))) kl30 HEL.out).mono ?_; rintro e w8 ⟨rfl, hb8⟩; rw [HTT.out])
          | (go_at_call 20; refine (refTail_any ep ao cap L ko kc K _ (FI.out _ (five_below (by assumption))).1 HSM.out (FK.out _ (five_below (by assumption))) (by omega)).mono ?_; rintro e w9 ⟨rfl, hb9⟩; rw [HTT.out])
          | (go_at_call 21; refine (HS.below ep ao cap L x0 x1 _ (FI.out _ (five_below (by assumption))) HSM.out hE HV.out.1 HV.out.2).mono ?_; rintro e w10 ⟨rfl, hb10⟩; rw [HBE.out])
          | (go_at_call 22; refine (refBelow_any ep ao cap L x0 x1 _ (FI.out _ (five_below (by assumption))).1 HSM.out).mono ?_; rintro e w11 ⟨rfl, hb11⟩; rw [HBE.out])
          | (go_at_call 9; refine (CW.out _).mono ?_; rintro e w12 ⟨rfl, hb12⟩))
      all_goals
        go_wp2_with fail
        go_ret
        rename_i hS
        exact ⟨rfl, (HB0.out.trans (HBB.out.mono HB0.out.size)).trans ((five_below hS).mono (Nat.le_trans HB0.out.size HBB.out.size))⟩

set_option maxRecDepth 100000 in
theorem placeTails_lifted (os : Os) (started : os.Started) (H : Type) (enc : TypeId × Value → H) :
    ReturnsInHanded {} Try.checked os 4 .any (Rows.placeTailsSpec.pre6 enc Try.prog Try.f4 Rows.placeTailsRow.domain false) (Rows.placeTailsSpec.post enc Try.prog Try.f4 false true false false) := by
  refine returnsInHanded_of_change (C := Try.checked) own started (by kernel_rfl) Try.func4
    (ChangeSpec.witness6 (enc := enc) (C := Try.checked) false ⟨#[], #[.agg #[.int .i64 0, .slice none 0 0], .slice none 0 0, .agg #[.int .i64 0, .int .i64 0]], []⟩ 8 (by kernel_rfl) (by kernel_rfl) (by kernel_rfl) (by kernel_rfl)) ?_
  intro W base args ds gs before hval0 hW hcnd _
  have hval : ∀ (j : Nat) t v, Try.f4.params[j]? = some t → args[j]? = some v → Value.okWide Try.prog W .any base t v := hval0
  have hW' := hW
  obtain ⟨p, q, hA0, hV, rfl, hfz, hnd⟩ := hW
  have hA : DataW.TrodAll enc Try.prog W 0 (fun _ => true) true Try.f4.params.toList args.toList ds p := hA0
  rw [Try.params4] at hA hval
  obtain ⟨v0, vs0, d0, ds0, p0, q0, hargs, rfl, rfl, h0, r0⟩ := trodAll_cons hA
  obtain ⟨v1, vs1, d1, ds1, p1, q1, rfl, rfl, rfl, h1, r1⟩ := trodAll_cons r0
  obtain ⟨v2, vs2, d2, ds2, p2, q2, rfl, rfl, rfl, h2, r2⟩ := trodAll_cons r1
  obtain ⟨rfl, rfl, rfl⟩ := trodAll_nil r2
  obtain rfl : args = #[v0, v1, v2] := by cases args; simp_all
  obtain ⟨rfl, rfl⟩ := trodVars_none hV
  have k0 := h0
  have lt0 : ∀ x ∈ p0, x.block < W.heap.size := by obtain ⟨m, hm⟩ := k0; exact DataW.trod_lt m _ _ _ hm
  have k1 := h1
  have lt1 : ∀ x ∈ p1, x.block < W.heap.size := by obtain ⟨m, hm⟩ := k1; exact DataW.trod_lt m _ _ _ hm
  have k2 := h2
  have lt2 : ∀ x ∈ p2, x.block < W.heap.size := by obtain ⟨m, hm⟩ := k2; exact DataW.trod_lt m _ _ _ hm
  obtain ⟨ep0, ao0, cap0, L0, rfl, wf0, hC0, hn0, hc0, hl0, hm0⟩ := open_proj Try.underlying24 (by kernel_rfl) rfl rfl (by kernel_rfl) (by kernel_rfl) Try.underlying3 Try.underlying22 Try.underlying39 (by kernel_rfl) (hval 0 24 v0 rfl rfl) h0
  have hF0 : PIn W ep0 ao0 cap0 L0 := ⟨⟨hC0, hn0, hc0⟩, i64_of_wf wf0, hl0, fun c hcm => by obtain ⟨i, hi, rfl⟩ := List.getElem_of_mem hcm; exact hm0 i hi⟩
  obtain ⟨ao1, cap1, K1, rfl, w1, hF1⟩ := open_pairs Try.underlying43 Try.underlying44 Try.underlying3 (by kernel_rfl) (by kernel_rfl) (hval 1 43 v1 rfl rfl) h1
  obtain ⟨ns2, rfl, hl2, hw2⟩ := open_arr (k := .i64) Try.underlying44 Try.underlying3 (by kernel_rfl) (by kernel_rfl) (hval 2 44 v2 rfl rfl) h2
  obtain ⟨x2_0, x2_1, rfl⟩ := two_of hl2
  have w2_0 := hw2 x2_0 (by simp)
  have w2_1 := hw2 x2_1 (by simp)
  clear hA0 hval0
  refine (placeTails_walk placeSays ep0 ao0 cap0 L0 ao1 cap1 K1 x2_0 x2_1 w1 w2_0 w2_1 W hF0 hF1).mono fun e W' ⟨he, bel⟩ => ?_
  subst he
  exact ⟨_, rfl, _, _, _, [], _, [], hW', trodAll_mk1 (shut_bool Try.underlying4 _), (trodAll_cons_mk (Below.trod laidOut (by kernel_rfl) (of_decide_eq_true (by kernel_rfl)) k0 bel lt0) (trodAll_cons_mk (Below.trod laidOut (by kernel_rfl) (of_decide_eq_true (by kernel_rfl)) k1 bel lt1) (trodAll_cons_mk (Below.trod laidOut (by kernel_rfl) (of_decide_eq_true (by kernel_rfl)) k2 bel lt2) trodAll_mk0))), rfl, bel.frame _, fun h => by cases h⟩

theorem placeTails_over : Rows.placeTailsRow.holds Try.pinned (OpenSpec.ofChange Rows.placeTailsSpec) :=
  OpenClaim.holds_of_wide 4 Try.f4 rfl rfl rfl rfl rfl rfl rfl ⟨rfl, rfl, rfl, rfl, rfl⟩ rfl rfl rfl rfl rfl (by kernel_rfl) Try.func4 (by kernel_rfl)
    (of_decide_eq_true (by kernel_rfl)) (by unfold Func.isWrapper; first | (rw [if_pos (by decide +kernel)]; kernel_rfl) | (rw [if_neg (by decide +kernel)]; exact ⟨rfl, rfl⟩))
    (fun os started H enc _ => placeTails_lifted os started H enc)

/-- THE STATEMENT -/
theorem placeTails_holds : Rows.PlaceTailsSaid := placeTails_over 
end Go.Proofs.Ytffiocgeijeheaa
