/- The law PlaceOnce: each address lies at one place, each place has one address. No conditions. -/
import Derived.Test.YtffiocgeijeheaaJPlpF
import Derived.Test.YtffiocgeijeheaaJPlcO
namespace Go.Proofs.Ytffiocgeijeheaa
open Go.ChangeShapes Go.WideShapes Go.ChangeAt Go.RowKit
open Go.ChangeMaps (open_string shut_string)
set_option linter.unusedVariables false
set_option maxRecDepth 20000

theorem once_ways {n i k : Int} (hn : 1 ≤ n ∧ n ≤ 4) : ((i % n == k % n) = true ∧ (i / n == k / n) = true ∧ (i == k) = true) ∨ ((i % n == k % n) = true ∧ (i / n == k / n) = false ∧ (i == k) = false) ∨ ((i % n == k % n) = false ∧ (0 : Int) = 0 ∧ (i == k) = false) := by
  by_cases h1 : i % n = k % n
  · by_cases h2 : i / n = k / n
    · exact .inl ⟨beq_iff_eq.2 h1, beq_iff_eq.2 h2, beq_iff_eq.2 (of_inj hn h1 h2)⟩
    · exact .inr (.inl ⟨beq_iff_eq.2 h1, beq_eq_false_iff_ne.2 h2, beq_eq_false_iff_ne.2 (fun e => h2 (by rw [e]))⟩)
  · exact .inr (.inr ⟨beq_eq_false_iff_ne.2 h1, rfl, beq_eq_false_iff_ne.2 (fun e => h1 (by rw [e]))⟩)
set_option maxHeartbeats 8000000 in
theorem placeOnce_walk (HS : PlaceSays) (ep : Int) (ao : Option Addr) (cap : Nat) (L : List (List Int)) (a1 a2 : Int) (w1 : (Lit.int .i64 a1).wf = true) (w2 : (Lit.int .i64 a2).wf = true) (w : World) (hp : PIn w ep ao cap L) :
    Calls Try.prog 5 #[.agg #[.int .i64 ep, .slice ao L.length cap], .int .i64 a1, .int .i64 a2] w fun e w' => e = .returned (.bool true) ∧ Below w.heap.size w w' := by
  have HB0 := Lib.hid ((Below.refl w.heap.size w).alloc (Nat.le_refl _) (.cells #[.int .i64 ep, .slice ao L.length cap] 24))
  have HP := Lib.hid (show PB (w.alloc (.cells #[.int .i64 ep, .slice ao L.length cap] 24)) w.heap.size ep ao L.length cap from heap_alloc_new _ _)
  have HI := Lib.hid (hp.below HB0.out)
  have CL0 := Lib.hid (large_any ep ao cap L _ HI.out.1.1 HI.out.2.2.1 HI.out.2.2.2)
  have CW := Lib.hid (wakes8_any HS)
  have hE : i64 ep := hp.2.1
  clear hp w1 w2
  by_cases hlg : largeB L = true
  · rw [hlg] at CL0
    clear hlg
    go_enter Try.func5, Try.ntmps5
    go_wp2_with (first | (go_at_call 8; refine CL0.out.mono ?_; rintro e w1 ⟨rfl, hb1⟩) | (go_at_call 9; refine (CW.out _).mono ?_; rintro e w2 ⟨rfl, hb2⟩))
    go_ret
    exact ⟨rfl, (HB0.out.trans (hb1.mono HB0.out.size)).trans (hb2.mono (Nat.le_trans HB0.out.size hb1.size))⟩
  have hlf : largeB L = false := by simpa using hlg
  rw [hlf] at CL0
  have HSM := Lib.hid (large_small hlf)
  have CG := Lib.hid (fun (w1 : World) (h : Below (w.alloc (.cells #[.int .i64 ep, .slice ao L.length cap] 24)).heap.size (w.alloc (.cells #[.int .i64 ep, .slice ao L.length cap] 24)) w1) => rgood_any ep ao cap L w1 (HI.out.below h).1.1 HSM.out)
  clear hlg hlf
  by_cases hg : goodB ep L = true
  · obtain ⟨n1, n4⟩ := good_len hg
    have HN := Lib.hid (show (1 : Int) ≤ L.length ∧ (L.length : Int) ≤ 4 from ⟨by omega, by omega⟩)
    have CI := Lib.hid (fun w1 => mod_any a1 16384 (by decide) (by decide) w1)
    have CK := Lib.hid (fun w1 => mod_any a2 16384 (by decide) (by decide) w1)
    have hi := mod_addr a1 16384 (by decide)
    have hk := mod_addr a2 16384 (by decide)
    generalize a1 % 16384 = i at *
    generalize a2 % 16384 = k at *
    have HOI := Lib.hid (ofV_yes hg hi)
    have HOK := Lib.hid (ofV_yes hg hk)
    have HAD := Lib.hid (addrV_of hg hi)
    have hW := once_ways (i := i) (k := k) HN.out
    obtain ⟨r1, r2, _⟩ := of_range HN.out hi
    have HZ := Lib.hid (show i64 i ∧ i64 k ∧ i64 (i % (L.length : Int)) ∧ i64 (i / (L.length : Int)) from ⟨i64_addr hi, i64_addr hk, i64_addr ⟨r1.1, by omega⟩, i64_addr r2⟩)
    simp only [hg] at CG
    clear hg hi hk r1 r2
    generalize i % (L.length : Int) = xc at *
    generalize i / (L.length : Int) = xp at *
    generalize k % (L.length : Int) = yc at *
    generalize k / (L.length : Int) = yp at *
    have hii : (i == i) = true := by simp
    rcases hW with ⟨d1, d2, d3⟩ | ⟨d1, d2, d3⟩ | ⟨d1, d2, d3⟩
    all_goals
      go_enter Try.func5, Try.ntmps5
      go_wp2_with (first
        | (go_at_call 8; refine CL0.out.mono ?_; rintro e w1 ⟨rfl, hb1⟩; have H1 := Lib.hid hb1; obtain ⟨u0, u1⟩ := (HP.out.below hb1).cells; clear hb1)
        | (go_at_call 23; refine (CG.out _ H1.out).mono ?_; rintro e w2 ⟨rfl, hb2⟩; have H2 := Lib.hid (H1.out.trans (hb2.mono H1.out.size)); obtain ⟨v0, v1⟩ := (HP.out.below H2.out).cells; clear hb2 u0 u1)
        | (go_at_call 24; first | ((with_reducible refine (CI.out _).mono ?_); rintro e w3 ⟨rfl, rfl⟩) | ((with_reducible refine (CK.out _).mono ?_); rintro e w3 ⟨rfl, rfl⟩))
        | (go_at_call 11; refine (HS.of ep ao cap L k _ (HI.out.below H4.out).1 HSM.out hE HZ.out.2.1).mono ?_; rintro e w5 ⟨rfl, hb5⟩; rw [HOK.out]; have H5 := Lib.hid (H4.out.trans (hb5.mono H4.out.size)); have H6 := Lib.hid (H5.out.alloc H5.out.size (.cells #[.int .i64 yc, .int .i64 yp] 26)); have X5 := Lib.hid (X4.out.below hb5); obtain ⟨x0, x1⟩ := X5.out.cells; have hx5 := X5.out.lt; obtain ⟨z0, z1⟩ := (HP.out.below H5.out).cells; have hz5 := block_lt_of_cell z0; clear hb5 y0 y1 hy4)
        | (go_at_call 11; refine (HS.of ep ao cap L i _ (HI.out.below H2.out).1 HSM.out hE HZ.out.1).mono ?_; rintro e w4 ⟨rfl, hb4⟩; rw [HOI.out]; have H3 := Lib.hid (H2.out.trans (hb4.mono H2.out.size)); have H4 := Lib.hid (H3.out.alloc H3.out.size (.cells #[.int .i64 xc, .int .i64 xp] 26)); have X4 := Lib.hid (XB.new w4 xc xp); obtain ⟨y0, y1⟩ := (HP.out.below H3.out).cells; have hy4 := block_lt_of_cell y0; clear hb4 v0 v1)
        | (go_at_call 13; refine (HS.addr ep ao cap L xc xp _ (HI.out.below H6.out).1 HSM.out hE HZ.out.2.2.1 HZ.out.2.2.2).mono ?_; rintro e w7 ⟨rfl, hb7⟩; rw [HAD.out]; have H7 := Lib.hid (H6.out.trans (hb7.mono H6.out.size)); obtain ⟨p0, p1⟩ := ((X5.out.below (below_alloc _ _)).below hb7).cells; obtain ⟨q0, q1⟩ := ((XB.new w5 yc yp).below hb7).cells; clear hb7 x0 x1 z0 z1 hx5 hz5)
        | (go_at_call 9; refine (CW.out _).mono ?_; rintro e w8 ⟨rfl, hb8⟩))
      go_ret
      exact ⟨rfl, (HB0.out.trans (H7.out.mono HB0.out.size)).trans (hb8.mono (Nat.le_trans HB0.out.size H7.out.size))⟩
  · rw [Bool.not_eq_true] at hg
    simp only [hg] at CG
    clear hg
    go_enter Try.func5, Try.ntmps5
    go_wp2_with (first
        | (go_at_call 8; refine CL0.out.mono ?_; rintro e w1 ⟨rfl, hb1⟩; have H1 := Lib.hid hb1; obtain ⟨u0, u1⟩ := (HP.out.below hb1).cells; clear hb1)
        | (go_at_call 23; refine (CG.out _ H1.out).mono ?_; rintro e w2 ⟨rfl, hb2⟩; have H2 := Lib.hid (H1.out.trans (hb2.mono H1.out.size)); clear hb2 u0 u1)
        | (go_at_call 9; refine (CW.out _).mono ?_; rintro e w8 ⟨rfl, hb8⟩))
    go_ret
    exact ⟨rfl, (HB0.out.trans (H2.out.mono HB0.out.size)).trans (hb8.mono (Nat.le_trans HB0.out.size H2.out.size))⟩

set_option maxRecDepth 100000 in
theorem placeOnce_lifted (os : Os) (started : os.Started) (H : Type) (enc : TypeId × Value → H) :
    ReturnsInHanded {} Try.checked os 5 .any (Rows.placeOnceSpec.pre6 enc Try.prog Try.f5 Rows.placeOnceRow.domain false) (Rows.placeOnceSpec.post enc Try.prog Try.f5 false true false false) := by
  refine returnsInHanded_of_change (C := Try.checked) own started (by kernel_rfl) Try.func5
    (ChangeSpec.witness6 (enc := enc) (C := Try.checked) false ⟨#[], #[.agg #[.int .i64 0, .slice none 0 0], .int .i64 0, .int .i64 0], []⟩ 8 (by kernel_rfl) (by kernel_rfl) (by kernel_rfl) (by kernel_rfl)) ?_
  intro W base args ds gs before hval0 hW hcnd _
  have hval : ∀ (j : Nat) t v, Try.f5.params[j]? = some t → args[j]? = some v → Value.okWide Try.prog W .any base t v := hval0
  have hW' := hW
  obtain ⟨p, q, hA0, hV, rfl, hfz, hnd⟩ := hW
  have hA : DataW.TrodAll enc Try.prog W 0 (fun _ => true) true Try.f5.params.toList args.toList ds p := hA0
  rw [Try.params5] at hA hval
  obtain ⟨v0, vs0, d0, ds0, p0, q0, hargs, rfl, rfl, h0, r0⟩ := trodAll_cons hA
  obtain ⟨v1, vs1, d1, ds1, p1, q1, rfl, rfl, rfl, h1, r1⟩ := trodAll_cons r0
  obtain ⟨v2, vs2, d2, ds2, p2, q2, rfl, rfl, rfl, h2, r2⟩ := trodAll_cons r1
  obtain ⟨rfl, rfl, rfl⟩ := trodAll_nil r2
  obtain rfl : args = #[v0, v1, v2] := by cases args; simp_all
  obtain ⟨rfl, rfl⟩ := trodVars_none hV
  have k0 := h0
  have lt0 : ∀ x ∈ p0, x.block < W.heap.size := by obtain ⟨m, hm⟩ := k0; exact DataW.trod_lt m _ _ _ hm
  have k1 := h1
  have lt1 : ∀ x ∈ p1, x.block < W.heap.size := by obtain ⟨m, hm⟩ := k1; exact DataW.trod_lt m _ _ _ hm
  have k2 := h2
  have lt2 : ∀ x ∈ p2, x.block < W.heap.size := by obtain ⟨m, hm⟩ := k2; exact DataW.trod_lt m _ _ _ hm
  obtain ⟨ep0, ao0, cap0, L0, rfl, wf0, hC0, hn0, hc0, hl0, hm0⟩ := open_proj Try.underlying24 (by kernel_rfl) rfl rfl (by kernel_rfl) (by kernel_rfl) Try.underlying3 Try.underlying22 Try.underlying39 (by kernel_rfl) (hval 0 24 v0 rfl rfl) h0
  have hF0 : PIn W ep0 ao0 cap0 L0 := ⟨⟨hC0, hn0, hc0⟩, i64_of_wf wf0, hl0, fun c hcm => by obtain ⟨i, hi, rfl⟩ := List.getElem_of_mem hcm; exact hm0 i hi⟩
  obtain ⟨a1, rfl, rfl, rfl, w1⟩ := open_int Try.underlying3 (hval 1 3 v1 rfl rfl) h1
  obtain ⟨a2, rfl, rfl, rfl, w2⟩ := open_int Try.underlying3 (hval 2 3 v2 rfl rfl) h2
  clear hA0 hval0
  refine (placeOnce_walk placeSays ep0 ao0 cap0 L0 a1 a2 w1 w2 W hF0).mono fun e W' ⟨he, bel⟩ => ?_
  subst he
  exact ⟨_, rfl, _, _, _, [], _, [], hW', trodAll_mk1 (shut_bool Try.underlying4 _), (trodAll_cons_mk (Below.trod laidOut (by kernel_rfl) (of_decide_eq_true (by kernel_rfl)) k0 bel lt0) (trodAll_cons_mk (Below.trod laidOut (by kernel_rfl) (of_decide_eq_true (by kernel_rfl)) k1 bel lt1) (trodAll_cons_mk (Below.trod laidOut (by kernel_rfl) (of_decide_eq_true (by kernel_rfl)) k2 bel lt2) trodAll_mk0))), rfl, bel.frame _, fun h => by cases h⟩

theorem placeOnce_over : Rows.placeOnceRow.holds Try.pinned (OpenSpec.ofChange Rows.placeOnceSpec) :=
  OpenClaim.holds_of_wide 5 Try.f5 rfl rfl rfl rfl rfl rfl rfl ⟨rfl, rfl, rfl, rfl, rfl⟩ rfl rfl rfl rfl rfl (by kernel_rfl) Try.func5 (by kernel_rfl)
    (of_decide_eq_true (by kernel_rfl)) (by unfold Func.isWrapper; first | (rw [if_pos (by decide +kernel)]; kernel_rfl) | (rw [if_neg (by decide +kernel)]; exact ⟨rfl, rfl⟩))
    (fun os started H enc _ => placeOnce_lifted os started H enc)

/-- THE STATEMENT -/
theorem placeOnce_holds : Rows.PlaceOnceSaid := placeOnce_over 
end Go.Proofs.Ytffiocgeijeheaa
