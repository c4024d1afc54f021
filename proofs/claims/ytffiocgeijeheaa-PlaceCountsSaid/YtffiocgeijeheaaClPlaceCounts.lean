/- The law PlaceCounts: the pages of all chains that lie below an address are as many as addresses. No conditions. -/
import Derived.Test.YtffiocgeijeheaaJPlpF
import Derived.Test.YtffiocgeijeheaaJPlcO
namespace Go.Proofs.Ytffiocgeijeheaa
open Go.ChangeShapes Go.WideShapes Go.ChangeAt Go.RowKit
open Go.ChangeMaps (open_string shut_string)
set_option linter.unusedVariables false
set_option maxRecDepth 20000

set_option maxHeartbeats 8000000 in
theorem placeCounts_walk (HS : PlaceSays) (ep : Int) (ao : Option Addr) (cap : Nat) (L : List (List Int)) (a1 : Int) (w1 : (Lit.int .i64 a1).wf = true) (w : World) (hp : PIn w ep ao cap L) :
    Calls Try.prog 6 #[.agg #[.int .i64 ep, .slice ao L.length cap], .int .i64 a1] w fun e w' => e = .returned (.bool true) ∧ Below w.heap.size w w' := by
  have HB0 := Lib.hid ((Below.refl w.heap.size w).alloc (Nat.le_refl _) (.cells #[.int .i64 ep, .slice ao L.length cap] 24))
  have HP := Lib.hid (show PB (w.alloc (.cells #[.int .i64 ep, .slice ao L.length cap] 24)) w.heap.size ep ao L.length cap from heap_alloc_new _ _)
  have HI := Lib.hid (hp.below HB0.out)
  have CL0 := Lib.hid (large_any ep ao cap L _ HI.out.1.1 HI.out.2.2.1 HI.out.2.2.2)
  have CW := Lib.hid (wakes8_any HS)
  have hE : i64 ep := hp.2.1
  clear hp w1
  by_cases hlg : largeB L = true
  · rw [hlg] at CL0
    clear hlg
    go_enter Try.func6, Try.ntmps6
    go_wp2_with (first | (go_at_call 8; refine CL0.out.mono ?_; rintro e w1 ⟨rfl, hb1⟩) | (go_at_call 9; refine (CW.out _).mono ?_; rintro e w2 ⟨rfl, hb2⟩))
    go_ret
    exact ⟨rfl, (HB0.out.trans (hb1.mono HB0.out.size)).trans (hb2.mono (Nat.le_trans HB0.out.size hb1.size))⟩
  have hlf : largeB L = false := by simpa using hlg
  rw [hlf] at CL0
  have HSM := Lib.hid (large_small hlf)
  have CG := Lib.hid (fun (w1 : World) (h : Below (w.alloc (.cells #[.int .i64 ep, .slice ao L.length cap] 24)).heap.size (w.alloc (.cells #[.int .i64 ep, .slice ao L.length cap] 24)) w1) => rgood_any ep ao cap L w1 (HI.out.below h).1.1 HSM.out)
  clear hlg hlf
  by_cases hg : goodB ep L = true
  · obtain ⟨n1, n4⟩ := good_len hg
    have HN := Lib.hid (show (1 : Int) ≤ L.length ∧ (L.length : Int) ≤ 4 from ⟨by omega, by omega⟩)
    have CI := Lib.hid (fun w1 => mod_any a1 16384 (by decide) (by decide) w1)
    have hi := mod_addr a1 16384 (by decide)
    generalize a1 % 16384 = i at *
    have HOI := Lib.hid (ofV_yes hg hi)
    obtain ⟨r1, r2, _⟩ := of_range HN.out hi
    have HZ := Lib.hid (show i64 i ∧ i64 (i % (L.length : Int)) from ⟨i64_addr hi, i64_addr ⟨r1.1, by omega⟩⟩)
    have HBE := Lib.hid (fun (k : Nat) (hk : k < L.length) => show belowR ep L i k = cntB i k L.length from belowR_in hg hi ⟨by omega, by omega⟩)
    have HBX := Lib.hid (show belowR ep L i (i % (L.length : Int)) = i / (L.length : Int) from (belowR_in hg hi r1).trans (cntB_own HN.out hi.1))
    have HSA := Lib.hid (show sumB i L.length L.length = i from by have := sumB_all (a := i) HN.out hi.1; rwa [Int.toNat_natCast] at this)
    have HSR := Lib.hid (fun k => sumB_range (a := i) HN.out hi k)
    have HCR := Lib.hid (fun (k : Nat) => cntB_range (a := i) (c := k) HN.out (by omega) ⟨hi.1, by omega⟩)
    have HS1 := Lib.hid (fun k => show sumB i L.length (k + 1) = sumB i L.length k + cntB i k L.length from rfl)
    have hl' : (L.length : Int) ≤ 255 := by omega
    simp only [hg] at CG
    clear hg hi r1 r2
    generalize i % (L.length : Int) = xc at *
    generalize i / (L.length : Int) = xp at *
    have hii : (i == i) = true := by simp
    have hpp : (xp == xp) = true := by simp
    go_enter Try.func6, Try.ntmps6
    go_wp2_with (first
      | (go_at_call 8; refine CL0.out.mono ?_; rintro e w1 ⟨rfl, hb1⟩; have H1 := Lib.hid hb1; obtain ⟨u0, u1⟩ := (HP.out.below hb1).cells; clear hb1)
      | (go_at_call 23; refine (CG.out _ H1.out).mono ?_; rintro e w2 ⟨rfl, hb2⟩; have H2 := Lib.hid (H1.out.trans (hb2.mono H1.out.size)); clear hb2 u0 u1)
      | (go_at_call 24; refine (CI.out _).mono ?_; rintro e w3 ⟨rfl, rfl⟩))
    go_loopw [6, 7] (fun s x wr => ∃ (k : Nat), x = .int .i64 k ∧ s = .int .i64 (sumB i L.length k) ∧ k ≤ L.length ∧ Hid (Below (w.alloc (.cells #[.int .i64 ep, .slice ao L.length cap] 24)).heap.size (w.alloc (.cells #[.int .i64 ep, .slice ao L.length cap] 24)) wr)) (fun _ x _ => L.length - (intOf x).toNat)
    case atStart => exact ⟨0, rfl, rfl, Nat.zero_le _, H2⟩
    case round =>
      obtain ⟨k, rfl, rfl, hk, HB⟩ := hrel
      obtain ⟨c0, c1⟩ := (HP.out.below HB.out).cells
      by_cases hlt : k < L.length
      · have k0 : (k : Int) < (L.length : Int) := by omega
        have HX := Lib.hid (HBE.out k hlt)
        have hs := HSR.out k
        have hc := HCR.out k
        have HS2 := Lib.hid (HS1.out k)
        generalize sumB i L.length k = s at *
        generalize cntB i k L.length = cc at *
        go_wp2_with (go_at_call 21; refine (HS.below ep ao cap L i k _ (HI.out.below HB.out).1 HSM.out hE HZ.out.1 (i64_addr ⟨by omega, by omega⟩)).mono ?_; rintro e w4 ⟨rfl, hb4⟩; rw [HX.out]; have HB4 := Lib.hid (HB.out.trans (hb4.mono HB.out.size)); clear hb4)
        go_roundw
        case rel => exact ⟨k + 1, by go_num, by rw [HS2.out], by omega, HB4⟩
        case measure => simp [intOf]; omega
      · obtain rfl : k = L.length := by omega
        rw [HSA.out]
        go_wp2_with (go_at_call 11; refine (HS.of ep ao cap L i _ (HI.out.below HB.out).1 HSM.out hE HZ.out.1).mono ?_; rintro e w5 ⟨rfl, hb5⟩; rw [HOI.out]; have H5 := Lib.hid (HB.out.trans (hb5.mono HB.out.size)); have H6 := Lib.hid (H5.out.alloc H5.out.size (.cells #[.int .i64 xc, .int .i64 xp] 26)); have X6 := Lib.hid (XB.new w5 xc xp); have P6 := Lib.hid ((HP.out.below H5.out).below (below_alloc w5 (.cells #[.int .i64 xc, .int .i64 xp] 26))); clear hb5 c0 c1)
        generalize hw6 : w5.alloc _ = w6 at *
        have FI := Lib.hid (fun (W : World) (h : Below w6.heap.size w6 W) => (HI.out.below (H6.out.trans (h.mono H6.out.size))).1)
        clear hw6
        go_region_held3 (fun W => W.cell? ⟨w.heap.size, 0, none⟩ = some (.int .i64 ep) ∧ W.cell? ⟨w.heap.size, 1, none⟩ = some (.slice ao L.length cap) ∧ W.cell? ⟨w5.heap.size, 0, none⟩ = some (.int .i64 xc) ∧ W.cell? ⟨w5.heap.size, 1, none⟩ = some (.int .i64 xp) ∧ Below w6.heap.size w6 W ∧ w6.heap.size ≤ W.heap.size)
          (first | exact two_start P6.out X6.out | exact two_keep hb8 (by assumption) | exact two_keep hb7 (by assumption))
          (first
            | (go_at_call 21; refine (HS.below ep ao cap L i xc _ (FI.out _ (two_below (by assumption))) HSM.out hE HZ.out.1 HZ.out.2).mono ?_; rintro e w7 ⟨rfl, hb7⟩; rw [HBX.out])
            | (go_at_call 9; refine (CW.out _).mono ?_; rintro e w8 ⟨rfl, hb8⟩))
        all_goals
          go_wp2_with fail
          go_ret
          rename_i hS
          exact ⟨rfl, (HB0.out.trans (H6.out.mono HB0.out.size)).trans (hS.2.2.2.2.1.mono (Nat.le_trans HB0.out.size H6.out.size))⟩
  · rw [Bool.not_eq_true] at hg
    simp only [hg] at CG
    clear hg
    go_enter Try.func6, Try.ntmps6
    go_wp2_with (first
        | (go_at_call 8; refine CL0.out.mono ?_; rintro e w1 ⟨rfl, hb1⟩; have H1 := Lib.hid hb1; obtain ⟨u0, u1⟩ := (HP.out.below hb1).cells; clear hb1)
        | (go_at_call 23; refine (CG.out _ H1.out).mono ?_; rintro e w2 ⟨rfl, hb2⟩; have H2 := Lib.hid (H1.out.trans (hb2.mono H1.out.size)); clear hb2 u0 u1)
        | (go_at_call 9; refine (CW.out _).mono ?_; rintro e w8 ⟨rfl, hb8⟩))
    go_ret
    exact ⟨rfl, (HB0.out.trans (H2.out.mono HB0.out.size)).trans (hb8.mono (Nat.le_trans HB0.out.size H2.out.size))⟩

set_option maxRecDepth 100000 in
theorem placeCounts_lifted (os : Os) (started : os.Started) (H : Type) (enc : TypeId × Value → H) :
    ReturnsInHanded {} Try.checked os 6 .any (Rows.placeCountsSpec.pre6 enc Try.prog Try.f6 Rows.placeCountsRow.domain false) (Rows.placeCountsSpec.post enc Try.prog Try.f6 false true false false) := by
  refine returnsInHanded_of_change (C := Try.checked) own started (by kernel_rfl) Try.func6
    (ChangeSpec.witness6 (enc := enc) (C := Try.checked) false ⟨#[], #[.agg #[.int .i64 0, .slice none 0 0], .int .i64 0], []⟩ 8 (by kernel_rfl) (by kernel_rfl) (by kernel_rfl) (by kernel_rfl)) ?_
  intro W base args ds gs before hval0 hW hcnd _
  have hval : ∀ (j : Nat) t v, Try.f6.params[j]? = some t → args[j]? = some v → Value.okWide Try.prog W .any base t v := hval0
  have hW' := hW
  obtain ⟨p, q, hA0, hV, rfl, hfz, hnd⟩ := hW
  have hA : DataW.TrodAll enc Try.prog W 0 (fun _ => true) true Try.f6.params.toList args.toList ds p := hA0
  rw [Try.params6] at hA hval
  obtain ⟨v0, vs0, d0, ds0, p0, q0, hargs, rfl, rfl, h0, r0⟩ := trodAll_cons hA
  obtain ⟨v1, vs1, d1, ds1, p1, q1, rfl, rfl, rfl, h1, r1⟩ := trodAll_cons r0
  obtain ⟨rfl, rfl, rfl⟩ := trodAll_nil r1
  obtain rfl : args = #[v0, v1] := by cases args; simp_all
  obtain ⟨rfl, rfl⟩ := trodVars_none hV
  have k0 := h0
  have lt0 : ∀ x ∈ p0, x.block < W.heap.size := by obtain ⟨m, hm⟩ := k0; exact DataW.trod_lt m _ _ _ hm
  have k1 := h1
  have lt1 : ∀ x ∈ p1, x.block < W.heap.size := by obtain ⟨m, hm⟩ := k1; exact DataW.trod_lt m _ _ _ hm
  obtain ⟨ep0, ao0, cap0, L0, rfl, wf0, hC0, hn0, hc0, hl0, hm0⟩ := open_proj Try.underlying24 (by kernel_rfl) rfl rfl (by kernel_rfl) (by kernel_rfl) Try.underlying3 Try.underlying22 Try.underlying39 (by kernel_rfl) (hval 0 24 v0 rfl rfl) h0
  have hF0 : PIn W ep0 ao0 cap0 L0 := ⟨⟨hC0, hn0, hc0⟩, i64_of_wf wf0, hl0, fun c hcm => by obtain ⟨i, hi, rfl⟩ := List.getElem_of_mem hcm; exact hm0 i hi⟩
  obtain ⟨a1, rfl, rfl, rfl, w1⟩ := open_int Try.underlying3 (hval 1 3 v1 rfl rfl) h1
  clear hA0 hval0
  refine (placeCounts_walk placeSays ep0 ao0 cap0 L0 a1 w1 W hF0).mono fun e W' ⟨he, bel⟩ => ?_
  subst he
  exact ⟨_, rfl, _, _, _, [], _, [], hW', trodAll_mk1 (shut_bool Try.underlying4 _), (trodAll_cons_mk (Below.trod laidOut (by kernel_rfl) (of_decide_eq_true (by kernel_rfl)) k0 bel lt0) (trodAll_cons_mk (Below.trod laidOut (by kernel_rfl) (of_decide_eq_true (by kernel_rfl)) k1 bel lt1) trodAll_mk0)), rfl, bel.frame _, fun h => by cases h⟩

theorem placeCounts_over : Rows.placeCountsRow.holds Try.pinned (OpenSpec.ofChange Rows.placeCountsSpec) :=
  OpenClaim.holds_of_wide 6 Try.f6 rfl rfl rfl rfl rfl rfl rfl ⟨rfl, rfl, rfl, rfl, rfl⟩ rfl rfl rfl rfl rfl (by kernel_rfl) Try.func6 (by kernel_rfl)
    (of_decide_eq_true (by kernel_rfl)) (by unfold Func.isWrapper; first | (rw [if_pos (by decide +kernel)]; kernel_rfl) | (rw [if_neg (by decide +kernel)]; exact ⟨rfl, rfl⟩))
    (fun os started H enc _ => placeCounts_lifted os started H enc)

/-- THE STATEMENT -/
theorem placeCounts_holds : Rows.PlaceCountsSaid := placeCounts_over 
end Go.Proofs.Ytffiocgeijeheaa
