/- The law PlaceRound: addresses go round the chains, one behind the other, and page by page. No conditions. -/
import Derived.Test.YtffiocgeijeheaaJPlpF
import Derived.Test.YtffiocgeijeheaaJPlcQ
namespace Go.Proofs.Ytffiocgeijeheaa
open Go.ChangeShapes Go.WideShapes Go.ChangeAt Go.RowKit
open Go.ChangeMaps (open_string shut_string)
set_option linter.unusedVariables false
set_option maxRecDepth 20000

theorem tmod_next {x n y : Int} (hx : 0 ≤ x ∧ x < n) (hn : 1 ≤ n ∧ n ≤ 4) (h : y = (x + 1) % n) : (x + 1).tmod n = y := by
  rw [Int.tmod_eq_emod_of_nonneg (by omega), h]
set_option maxHeartbeats 8000000 in
theorem placeRound_walk (HS : PlaceSays) (ep : Int) (ao : Option Addr) (cap : Nat) (L : List (List Int)) (a1 : Int) (w1 : (Lit.int .i64 a1).wf = true) (w : World) (hp : PIn w ep ao cap L) :
    Calls Try.prog 7 #[.agg #[.int .i64 ep, .slice ao L.length cap], .int .i64 a1] w fun e w' => e = .returned (.bool true) ∧ Below w.heap.size w w' := by
  have HB0 := Lib.hid ((Below.refl w.heap.size w).alloc (Nat.le_refl _) (.cells #[.int .i64 ep, .slice ao L.length cap] 24))
  have HP := Lib.hid (show PB (w.alloc (.cells #[.int .i64 ep, .slice ao L.length cap] 24)) w.heap.size ep ao L.length cap from heap_alloc_new _ _)
  have HI := Lib.hid (hp.below HB0.out)
  have CL0 := Lib.hid (large_any ep ao cap L _ HI.out.1.1 HI.out.2.2.1 HI.out.2.2.2)
  have CW := Lib.hid (wakes8_any HS)
  have hE : i64 ep := hp.2.1
  clear hp w1
  by_cases hlg : largeB L = true
  · rw [hlg] at CL0
    clear hlg
    go_enter Try.func7, Try.ntmps7
    go_wp2_with (first | (go_at_call 8; refine CL0.out.mono ?_; rintro e w1 ⟨rfl, hb1⟩) | (go_at_call 9; refine (CW.out _).mono ?_; rintro e w2 ⟨rfl, hb2⟩))
    go_ret
    exact ⟨rfl, (HB0.out.trans (hb1.mono HB0.out.size)).trans (hb2.mono (Nat.le_trans HB0.out.size hb1.size))⟩
  have hlf : largeB L = false := by simpa using hlg
  rw [hlf] at CL0
  have HSM := Lib.hid (large_small hlf)
  have CG := Lib.hid (fun (w1 : World) (h : Below (w.alloc (.cells #[.int .i64 ep, .slice ao L.length cap] 24)).heap.size (w.alloc (.cells #[.int .i64 ep, .slice ao L.length cap] 24)) w1) => rgood_any ep ao cap L w1 (HI.out.below h).1.1 HSM.out)
  clear hlg hlf
  by_cases hg : goodB ep L = true
  · obtain ⟨n1, n4⟩ := good_len hg
    have HN := Lib.hid (show (1 : Int) ≤ L.length ∧ (L.length : Int) ≤ 4 from ⟨by omega, by omega⟩)
    have CI := Lib.hid (fun w1 => mod_any a1 16374 (by decide) (by decide) w1)
    have hi0 := Int.emod_nonneg a1 (show (16374 : Int) ≠ 0 by decide)
    have hi1 := Int.emod_lt_of_pos a1 (show (0 : Int) < 16374 by decide)
    generalize a1 % 16374 = i at *
    have hi : 0 ≤ i ∧ i < 16384 := ⟨hi0, by omega⟩
    obtain ⟨t1, t2, t3, t4⟩ := round_next (a := i) HN.out
    have HOI := Lib.hid (ofV_yes hg hi)
    have HOY := Lib.hid (ofV_yes hg (a := i + 1) ⟨by omega, by omega⟩)
    have HOZ := Lib.hid (ofV_yes hg (a := i + L.length) ⟨by omega, by omega⟩)
    rw [t3, t4] at HOZ
    obtain ⟨r1, r2, _⟩ := of_range HN.out hi
    have hxl : (i % (L.length : Int)).toNat < L.length := by omega
    have HCH := Lib.hid (chainR_yes (ofB_iff.2 ⟨hg, hi⟩) hxl (Int.toNat_of_nonneg r1.1).symm)
    have FT := Lib.hid (fun (W : World) (h : Below (w.alloc (.cells #[.int .i64 ep, .slice ao L.length cap] 24)).heap.size (w.alloc (.cells #[.int .i64 ep, .slice ao L.length cap] 24)) W) => show Told W ao cap L from (HI.out.below h).1)
    have HZ := Lib.hid (show i64 i ∧ i64 (i + 1) ∧ i64 (i + L.length) from ⟨i64_addr hi, i64_addr ⟨by omega, by omega⟩, i64_addr ⟨by omega, by omega⟩⟩)
    have HT := Lib.hid (tmod_next (x := i % (L.length : Int)) (n := L.length) ⟨by omega, by omega⟩ HN.out t1)
    have HL1 := Lib.hid (show (L[(i % (L.length : Int)).toNat]'hxl).length ≤ 1000000 from by have := HSM.out.2 _ (List.getElem_mem hxl); omega)
    have HW1 := Lib.hid (show IntKind.i64.wrap (i % (L.length : Int) + 1) = i % (L.length : Int) + 1 from IntWalk.i64_in _ (by omega))
    have HW2 := Lib.hid (show IntKind.i64.wrap (i / (L.length : Int) + 1) = i / (L.length : Int) + 1 from IntWalk.i64_in _ (by omega))
    have nz : ¬ (L.length : Int) = 0 := by omega
    have nz1 : ((L.length : Int) == 0) = false := beq_eq_false_iff_ne.2 nz
    have nz2 : ¬ L.length = 0 := by omega
    have nz3 : ¬ L = [] := fun e => by rw [e] at n1; exact absurd n1 (by decide)
    have nz4 : (L == []) = false := beq_eq_false_iff_ne.2 nz3
    have nz5 : L.isEmpty = false := by simpa using nz3
    have x0 : i % (L.length : Int) < (L.length : Int) := r1.2
    have x9 : 0 ≤ i % (L.length : Int) := r1.1
    have xp0 : 0 ≤ i / (L.length : Int) ∧ i / (L.length : Int) < 16384 := r2
    simp only [hg] at CG
    clear hg hi r1 r2 t1 t3 t4
    generalize i % (L.length : Int) = x at *
    generalize i / (L.length : Int) = xp at *
    generalize (i + 1) % (L.length : Int) = yc at *
    generalize (i + 1) / (L.length : Int) = yp at *
    have hyy : (yc == yc) = true := by simp
    have hxx : (x == x) = true := by simp
    have hpp : (xp + 1 == xp + 1) = true := by simp
    have hw : ((yp == xp) = true ∧ decide (x < yc) = true) ∨ ((yp == xp) = false ∧ decide (x < yc) = false) := by
      by_cases h : yp = xp
      · exact .inl ⟨beq_iff_eq.2 h, decide_eq_true (t2.1 h)⟩
      · exact .inr ⟨beq_eq_false_iff_ne.2 h, decide_eq_false (fun e => h (t2.2 e))⟩
    clear t2
    rcases hw with ⟨d1, d2⟩ | ⟨d1, d2⟩
    all_goals
      go_enter Try.func7, Try.ntmps7
      go_wp2_with (first
        | (go_at_call 8; refine CL0.out.mono ?_; rintro e w1 ⟨rfl, hb1⟩; have H1 := Lib.hid hb1; obtain ⟨u0, u1⟩ := (HP.out.below hb1).cells; clear hb1)
        | (go_at_call 23; refine (CG.out _ H1.out).mono ?_; rintro e w2 ⟨rfl, hb2⟩; have H2 := Lib.hid (H1.out.trans (hb2.mono H1.out.size)); obtain ⟨v0, v1⟩ := (HP.out.below H2.out).cells; clear hb2 u0 u1))
      go_quiet ((go_at_call 24; exact quiet_eq (CI.out _)))
      have H3 := Lib.hid (below_drewN H2.out nq)
      go_wp2_with (first
        | (go_at_call 11; (with_reducible refine (HS.of ep ao cap L (i + L.length) _ (FT.out _ H7.out) HSM.out hE HZ.out.2.2).mono ?_); rintro e w8 ⟨rfl, hb8⟩; rw [HOZ.out]; have H8 := Lib.hid (H7.out.trans (hb8.mono H7.out.size)); have H9 := Lib.hid (H8.out.alloc H8.out.size (.cells #[.int .i64 x, .int .i64 (xp + 1)] 26)); have X8 := Lib.hid (X7.out.below hb8); have Y8 := Lib.hid (Y7.out.below hb8); have Z9 := Lib.hid (XB.new w8 x (xp + 1)); clear hb8 z0 z1 hz)
        | (go_at_call 11; (with_reducible refine (HS.of ep ao cap L (i + 1) _ (FT.out _ H5.out) HSM.out hE HZ.out.2.1).mono ?_); rintro e w6 ⟨rfl, hb6⟩; rw [HOY.out]; have H6 := Lib.hid (H5.out.trans (hb6.mono H5.out.size)); have H7 := Lib.hid (H6.out.alloc H6.out.size (.cells #[.int .i64 yc, .int .i64 yp] 26)); have X7 := Lib.hid ((X5.out.below hb6).below (below_alloc w6 (.cells #[.int .i64 yc, .int .i64 yp] 26))); have Y7 := Lib.hid (XB.new w6 yc yp); obtain ⟨z0, z1⟩ := (HP.out.below H6.out).cells; have hz := block_lt_of_cell z0; clear hb6 y0 y1 hy)
        | (go_at_call 11; (with_reducible refine (HS.of ep ao cap L i _ (FT.out _ H3.out) HSM.out hE HZ.out.1).mono ?_); rintro e w4 ⟨rfl, hb4⟩; rw [HOI.out]; have H4 := Lib.hid (H3.out.trans (hb4.mono H3.out.size)); have H5 := Lib.hid (H4.out.alloc H4.out.size (.cells #[.int .i64 x, .int .i64 xp] 26)); have X5 := Lib.hid (XB.new w4 x xp); obtain ⟨y0, y1⟩ := (HP.out.below H4.out).cells; have hy := block_lt_of_cell y0; clear hb4 v0 v1))
      have X9 := Lib.hid (X8.out.below (below_alloc w8 (.cells #[.int .i64 x, .int .i64 (xp + 1)] 26)))
      have Y9 := Lib.hid (Y8.out.below (below_alloc w8 (.cells #[.int .i64 x, .int .i64 (xp + 1)] 26)))
      have P9 := Lib.hid (HP.out.below H9.out)
      have T9 := Lib.hid (HI.out.below H9.out)
      generalize hw9 : w8.alloc _ = w9 at *
      have FI := Lib.hid (fun (W : World) (h : Below w9.heap.size w9 W) => (T9.out.below h).1)
      obtain ⟨bk, off, ai, ci, hao, c0, hN⟩ := T9.out.1.1 x.toNat hxl
      have FN := Lib.hid (fun (W : World) (h : Below w9.heap.size w9 W) => hN.below h)
      subst hao
      have C9 := Lib.hid c0
      have e1 := HW1.out
      have e2 := HT.out
      have e3 := HW2.out
      clear hw9 c0 hN
      go_region_held3 (fun W => W.cell? ⟨w.heap.size, 0, none⟩ = some (.int .i64 ep) ∧ W.cell? ⟨w.heap.size, 1, none⟩ = some (.slice (some ⟨bk, off, none⟩) L.length cap) ∧ W.cell? ⟨w4.heap.size, 0, none⟩ = some (.int .i64 x) ∧ W.cell? ⟨w4.heap.size, 1, none⟩ = some (.int .i64 xp) ∧ W.cell? ⟨w6.heap.size, 0, none⟩ = some (.int .i64 yc) ∧ W.cell? ⟨w6.heap.size, 1, none⟩ = some (.int .i64 yp) ∧ W.cell? ⟨w8.heap.size, 0, none⟩ = some (.int .i64 x) ∧ W.cell? ⟨w8.heap.size, 1, none⟩ = some (.int .i64 (xp + 1)) ∧ W.cell? ⟨bk, off + x.toNat, none⟩ = some (.slice ai L[x.toNat].length ci) ∧ Below w9.heap.size w9 W ∧ w9.heap.size ≤ W.heap.size)
        (first | exact ⟨P9.out.cells.1, P9.out.cells.2, X9.out.cells.1, X9.out.cells.2, Y9.out.cells.1, Y9.out.cells.2, Z9.out.cells.1, Z9.out.cells.2, C9.out, (Below.refl _ _).drew, Nat.le_refl _⟩ | exact nine_keep hb12 (by assumption) | exact nine_keep hb11 (by assumption) | exact nine_keep hb10 (by assumption))
        (first
          | (go_at_call 16; refine (HS.chain ep (some ⟨bk, off, none⟩) cap L i _ (FI.out _ (nine_below (by assumption))) HSM.out hE HZ.out.1).mono ?_; rintro e w10 ⟨ro, rc, rfl, hr, hb10⟩; rw [HCH.out] at hr; rw [HCH.out]; have HR := Lib.hid hr; clear hr)
          | (go_at_call 15; refine (keepInts_any L[x.toNat] L[x.toNat] ro ai rc ci _ HR.out (FN.out _ (nine_below (by assumption))) HL1.out HL1.out).mono ?_; rintro e w11 ⟨rfl, q11, hw11⟩; rw [show intsB L[x.toNat] L[x.toNat] = true from decide_eq_true rfl]; have hb11 := (show Below w10.heap.size w10 w11 from by rw [hw11]; exact below_drewN (Below.refl _ _) _); clear hw11)
          | (go_at_call 9; refine (CW.out _).mono ?_; rintro e w12 ⟨rfl, hb12⟩))
      all_goals
        go_wp2_with fail
        go_ret
        rename_i hS
        exact ⟨rfl, (HB0.out.trans (H9.out.mono HB0.out.size)).trans ((nine_below hS).mono (Nat.le_trans HB0.out.size H9.out.size))⟩
  · rw [Bool.not_eq_true] at hg
    simp only [hg] at CG
    clear hg
    go_enter Try.func7, Try.ntmps7
    go_wp2_with (first
        | (go_at_call 8; refine CL0.out.mono ?_; rintro e w1 ⟨rfl, hb1⟩; have H1 := Lib.hid hb1; obtain ⟨u0, u1⟩ := (HP.out.below hb1).cells; clear hb1)
        | (go_at_call 23; refine (CG.out _ H1.out).mono ?_; rintro e w2 ⟨rfl, hb2⟩; have H2 := Lib.hid (H1.out.trans (hb2.mono H1.out.size)); clear hb2 u0 u1)
        | (go_at_call 9; refine (CW.out _).mono ?_; rintro e w8 ⟨rfl, hb8⟩))
    go_ret
    exact ⟨rfl, (HB0.out.trans (H2.out.mono HB0.out.size)).trans (hb8.mono (Nat.le_trans HB0.out.size H2.out.size))⟩

set_option maxRecDepth 100000 in
theorem placeRound_lifted (os : Os) (started : os.Started) (H : Type) (enc : TypeId × Value → H) :
    ReturnsInHanded {} Try.checked os 7 .any (Rows.placeRoundSpec.pre6 enc Try.prog Try.f7 Rows.placeRoundRow.domain false) (Rows.placeRoundSpec.post enc Try.prog Try.f7 false true false false) := by
  refine returnsInHanded_of_change (C := Try.checked) own started (by kernel_rfl) Try.func7
    (ChangeSpec.witness6 (enc := enc) (C := Try.checked) false ⟨#[], #[.agg #[.int .i64 0, .slice none 0 0], .int .i64 0], []⟩ 8 (by kernel_rfl) (by kernel_rfl) (by kernel_rfl) (by kernel_rfl)) ?_
  intro W base args ds gs before hval0 hW hcnd _
  have hval : ∀ (j : Nat) t v, Try.f7.params[j]? = some t → args[j]? = some v → Value.okWide Try.prog W .any base t v := hval0
  have hW' := hW
  obtain ⟨p, q, hA0, hV, rfl, hfz, hnd⟩ := hW
  have hA : DataW.TrodAll enc Try.prog W 0 (fun _ => true) true Try.f7.params.toList args.toList ds p := hA0
  rw [Try.params7] at hA hval
  obtain ⟨v0, vs0, d0, ds0, p0, q0, hargs, rfl, rfl, h0, r0⟩ := trodAll_cons hA
  obtain ⟨v1, vs1, d1, ds1, p1, q1, rfl, rfl, rfl, h1, r1⟩ := trodAll_cons r0
  obtain ⟨rfl, rfl, rfl⟩ := trodAll_nil r1
  obtain rfl : args = #[v0, v1] := by cases args; simp_all
  obtain ⟨rfl, rfl⟩ := trodVars_none hV
  have k0 := h0
  have lt0 : ∀ x ∈ p0, x.block < W.heap.size := by obtain ⟨m, hm⟩ := k0; exact DataW.trod_lt m _ _ _ hm
  have k1 := h1
  have lt1 : ∀ x ∈ p1, x.block < W.heap.size := by obtain ⟨m, hm⟩ := k1; exact DataW.trod_lt m _ _ _ hm
  obtain ⟨ep0, ao0, cap0, L0, rfl, wf0, hC0, hn0, hc0, hl0, hm0⟩ := open_proj Try.underlying24 (by kernel_rfl) rfl rfl (by kernel_rfl) (by kernel_rfl) Try.underlying3 Try.underlying22 Try.underlying39 (by kernel_rfl) (hval 0 24 v0 rfl rfl) h0
  have hF0 : PIn W ep0 ao0 cap0 L0 := ⟨⟨hC0, hn0, hc0⟩, i64_of_wf wf0, hl0, fun c hcm => by obtain ⟨i, hi, rfl⟩ := List.getElem_of_mem hcm; exact hm0 i hi⟩
  obtain ⟨a1, rfl, rfl, rfl, w1⟩ := open_int Try.underlying3 (hval 1 3 v1 rfl rfl) h1
  clear hA0 hval0
  refine (placeRound_walk placeSays ep0 ao0 cap0 L0 a1 w1 W hF0).mono fun e W' ⟨he, bel⟩ => ?_
  subst he
  exact ⟨_, rfl, _, _, _, [], _, [], hW', trodAll_mk1 (shut_bool Try.underlying4 _), (trodAll_cons_mk (Below.trod laidOut (by kernel_rfl) (of_decide_eq_true (by kernel_rfl)) k0 bel lt0) (trodAll_cons_mk (Below.trod laidOut (by kernel_rfl) (of_decide_eq_true (by kernel_rfl)) k1 bel lt1) trodAll_mk0)), rfl, bel.frame _, fun h => by cases h⟩

theorem placeRound_over : Rows.placeRoundRow.holds Try.pinned (OpenSpec.ofChange Rows.placeRoundSpec) :=
  OpenClaim.holds_of_wide 7 Try.f7 rfl rfl rfl rfl rfl rfl rfl ⟨rfl, rfl, rfl, rfl, rfl⟩ rfl rfl rfl rfl rfl (by kernel_rfl) Try.func7 (by kernel_rfl)
    (of_decide_eq_true (by kernel_rfl)) (by unfold Func.isWrapper; first | (rw [if_pos (by decide +kernel)]; kernel_rfl) | (rw [if_neg (by decide +kernel)]; exact ⟨rfl, rfl⟩))
    (fun os started H enc _ => placeRound_lifted os started H enc)

/-- THE STATEMENT -/
theorem placeRound_holds : Rows.PlaceRoundSaid := placeRound_over 
end Go.Proofs.Ytffiocgeijeheaa
