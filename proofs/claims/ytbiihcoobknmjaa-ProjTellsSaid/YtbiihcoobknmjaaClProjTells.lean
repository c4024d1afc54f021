/- The law ProjTells: which projections are good, which units they have; a copy is the caller's own. No conditions. -/
import Derived.Test.YtbiihcoobknmjaaGl
import Derived.Test.YtbiihcoobknmjaaJPjK
namespace Go.Proofs.Ytbiihcoobknmjaa
open Go.ChangeShapes Go.WideShapes Go.ChangeAt Go.RowKit
open Go.ChangeMaps (open_string shut_string)
set_option linter.unusedVariables false
set_option maxRecDepth 20000

set_option maxHeartbeats 8000000 in
theorem projTells_walk (HS : ProgSays) (HCS : CopySays) (ep : Int) (ao : Option Addr) (cap : Nat) (L : List (List Int)) (w : World) (hp : PIn w ep ao cap L) :
    Calls Try.prog 3 #[.agg #[.int .i64 ep, .slice ao L.length cap]] w fun e w' => e = .returned (.bool true) ∧ Below w.heap.size w w' := by
  have HB0 := Lib.hid ((Below.refl w.heap.size w).alloc (Nat.le_refl _) (.cells #[.int .i64 ep, .slice ao L.length cap] 24))
  have HP := Lib.hid (show PB (w.alloc (.cells #[.int .i64 ep, .slice ao L.length cap] 24)) w.heap.size ep ao L.length cap from heap_alloc_new _ _)
  have HI := Lib.hid (hp.below HB0.out)
  have HT := Lib.hid hp.1
  have CL0 := Lib.hid (large_any ep ao cap L _ HI.out.1.1 HI.out.2.2.1 HI.out.2.2.2)
  have CW := Lib.hid (wakes7_any HS)
  clear hp
  by_cases hlg : largeB L = true
  · rw [hlg] at CL0
    clear hlg
    go_enter Try.func3, Try.ntmps3
    go_wp2_with (first | (go_at_call 8; refine CL0.out.mono ?_; rintro e w1 ⟨rfl, hb1⟩) | (go_at_call 9; refine (CW.out _).mono ?_; rintro e w2 ⟨rfl, hb2⟩))
    go_ret
    exact ⟨rfl, (HB0.out.trans (hb1.mono HB0.out.size)).trans (hb2.mono (Nat.le_trans HB0.out.size hb1.size))⟩
  have hlf : largeB L = false := by simpa using hlg
  rw [hlf] at CL0
  have HSM := Lib.hid (large_small hlf)
  have hll : (L.length : Int) ≤ 50 := by have := (largeB_no hlf).1; omega
  clear hlg hlf
  go_enter Try.func3, Try.ntmps3
  go_wp2_with (first
    | (go_at_call 8; refine CL0.out.mono ?_; rintro e w1 ⟨rfl, hb1⟩; have H1 := Lib.hid (HB0.out.trans (hb1.mono HB0.out.size)); have HP1 := Lib.hid (HP.out.below hb1); have HI1 := Lib.hid (HI.out.below hb1); obtain ⟨x0, x1⟩ := HP1.out.cells; clear hb1)
    | (go_at_call 10; refine (keepCopy_any ep ao cap L w1 HI1.out.1.1 (small_copy HSM.out)).mono ?_; rintro e w2 ⟨io, ic, rfl, hc2, hn2, hl2, hb2⟩; have HB2 := Lib.hid (hb2.trans ((Below.refl _ _).alloc hb2.size (.cells #[.int .i64 ep, .slice io L.length ic] 24))); have HT3 := Lib.hid (Told.below (show Told w2 io ic L from ⟨hc2, hn2, hl2⟩) ((Below.refl _ _).alloc (Nat.le_refl _) (.cells #[.int .i64 ep, .slice io L.length ic] 24))); have HP3 := Lib.hid (HP1.out.below HB2.out); have H3 := Lib.hid (H1.out.trans (HB2.out.mono H1.out.size)); have HN3 := Lib.hid (show PB (w2.alloc (.cells #[.int .i64 ep, .slice io L.length ic] 24)) w2.heap.size ep io L.length ic from heap_alloc_new _ _); have hz2 : w.heap.size < w2.heap.size := Nat.lt_of_lt_of_le HP1.out.lt hb2.size; clear hc2 hn2 hl2 hb2 x0 x1)
    | (go_at_call 11; refine (HCS ep io ic L _ HT3.out HSM.out).mono ?_; rintro e w4 ⟨co, cc, bk, off, g, o, c, ai, rfl, hlay, hb4⟩; have HB4 := Lib.hid (hb4.trans ((Below.refl _ _).alloc hb4.size (.cells #[.int .i64 ep, .slice co L.length cc] 24))); have HL5 := Lib.hid (hlay.below ((Below.refl _ _).alloc (Nat.le_refl _) (.cells #[.int .i64 ep, .slice co L.length cc] 24))); have HC5 := Lib.hid (show PB (w4.alloc (.cells #[.int .i64 ep, .slice co L.length cc] 24)) w4.heap.size ep co L.length cc from heap_alloc_new _ _); have HLT := Lib.hid (show ∀ i (h : i < L.length) k (hk : k < L[i].length), g i < w4.heap.size from fun i h k hk => (hlay.cell i h k hk).2.2.1); have hz4 : w2.heap.size < w4.heap.size := (by have := hb4.size; simp at this; omega); clear hlay hb4))
  have HP5 := Lib.hid (HP3.out.below HB4.out)
  have HN5 := Lib.hid (HN3.out.below HB4.out)
  have HT5 := Lib.hid (HT3.out.below HB4.out)
  have H5 := Lib.hid (H3.out.trans (HB4.out.mono H3.out.size))
  have hB3 : w2.heap.size < (w2.alloc (.cells #[.int .i64 ep, .slice io L.length ic] 24)).heap.size := by simp
  have hB4 : (w2.alloc (.cells #[.int .i64 ep, .slice io L.length ic] 24)).heap.size ≤ (w4.alloc (.cells #[.int .i64 ep, .slice co L.length cc] 24)).heap.size := HB4.out.size
  clear HN3 HP3 H3 HB2
  generalize w2.alloc (.cells #[.int .i64 ep, .slice io L.length ic] 24) = w3 at *
  generalize w4.alloc (.cells #[.int .i64 ep, .slice co L.length cc] 24) = w5 at *
  go_loopw [5] (fun i wr => ∃ n : Nat, i = .int .i64 n ∧ n ≤ L.length ∧ Hid (Lay wr w3.heap.size co L bk off g o c ai (Ahead n 0)) ∧ Hid (Kept (fun k => k < w3.heap.size ∨ k = w4.heap.size) w5 wr)) (fun i _ => L.length - (intOf i).toNat)
  case atStart => exact ⟨0, rfl, Nat.zero_le _, Lib.hid (HL5.out.mono (fun _ _ _ _ _ => trivial)), Lib.hid (Kept.refl _ _)⟩
  case round =>
    obtain ⟨n, rfl, hn, HL, HK⟩ := hrel
    obtain ⟨z0, z1⟩ := (show PB wr w4.heap.size ep co L.length cc from HK.out.heap (.inr rfl) HC5.out).cells
    have hBr : w3.heap.size ≤ wr.heap.size := Nat.le_trans hB4 HK.out.size
    clear HL5
    by_cases hlt : n < L.length
    · obtain ⟨hco, hbk, c0⟩ := HL.out.row n hlt
      subst hco
      have k0 : (n : Int) < (L.length : Int) := by omega
      have mo := HSM.out.2 _ (List.getElem_mem hlt)
      have mo' : (L[n].length : Int) ≤ 255 := by omega
      go_wp2_with fail
      go_loopw [6] (fun k wq => ∃ k2 : Nat, k = .int .i64 k2 ∧ k2 ≤ L[n].length ∧ Hid (Lay wq w3.heap.size (some ⟨bk, off, none⟩) L bk off g o c ai (Ahead n k2)) ∧ Hid (Kept (fun k => k < w3.heap.size ∨ k = w4.heap.size) w5 wq)) (fun k _ => L[n].length - (intOf k).toNat)
      case atStart => exact ⟨0, rfl, Nat.zero_le _, HL, HK⟩
      case round =>
        obtain ⟨k, rfl, hk, HLQ, HKQ⟩ := hrel
        clear z0 z1 c0
        obtain ⟨z0, z1⟩ := (show PB wr w4.heap.size ep (some ⟨bk, off, none⟩) L.length cc from HKQ.out.heap (.inr rfl) HC5.out).cells
        obtain ⟨_, _, c0⟩ := HLQ.out.row n hlt
        by_cases hkt : k < L[n].length
        · obtain ⟨hai, hbg, hgs, hfz, hcl⟩ := HLQ.out.cell n hlt k hkt
          have c1 := hcl (.inr ⟨rfl, Nat.le_refl _⟩)
          rw [hai] at c0
          obtain ⟨y0, y1⟩ := (show PB wr w.heap.size ep ao L.length cap from HKQ.out.heap (.inl (by omega)) HP5.out).cells
          have HWQ := Lib.hid (H5.out.trans (HKQ.out.toBelow H5.out.size (fun k h => .inl (by omega))))
          obtain ⟨bk3, off3, a3, c3, hao, c03, hN3⟩ := (HT.out.below HWQ.out).1 n hlt
          subst hao
          obtain ⟨b5, o5, ha3, c5⟩ := hN3.at k hkt
          subst ha3
          have k6 : (k : Int) < (L[n].length : Int) := by omega
          have hgne : g n ≠ w4.heap.size := by have := HLT.out n hlt k hkt; omega
          have HNX := Lib.hid (fun q v => HLQ.out.store hlt hkt q v)
          have HAI := Lib.hid hai
          have HNE := Lib.hid (show ¬ (g n < w3.heap.size ∨ g n = w4.heap.size) from by omega)
          have d1 : (L[n][k] != L[n][k]) = false := bne_self_eq_false _
          clear hai hcl hN3
          generalize hu : L[n][k] = u at *
          have HU := Lib.hid hu
          clear hu
          go_wp2_with fail
          go_quiet (fail)
          go_wp2_with fail
          go_roundw
          case rel => exact ⟨k + 1, by go_num, by omega, Lib.hid (HNX.out nq _), Lib.hid ((HKQ.out.drewN nq).setCell HNE.out _)⟩
          case measure => simp [intOf]; omega
        · obtain rfl : k = L[n].length := by omega
          go_wp2_with fail
          go_roundw
          case rel => exact ⟨n + 1, by go_num, by omega, Lib.hid HLQ.out.next, HKQ⟩
          case measure => simp [intOf]; omega
    · obtain rfl : n = L.length := by omega
      have HW := Lib.hid (H5.out.trans (HK.out.toBelow H5.out.size (fun k h => .inl (by omega))))
      have Q1 := Lib.hid (show PB wr w2.heap.size ep io L.length ic from HK.out.heap (.inl (by omega)) HN5.out)
      have Q2 := Lib.hid (show PB wr w.heap.size ep ao L.length cap from HK.out.heap (.inl (by omega)) HP5.out)
      have Q3 := Lib.hid (show PB wr w4.heap.size ep co L.length cc from HK.out.heap (.inr rfl) HC5.out)
      have TP := Lib.hid (HT.out.below HW.out)
      have TI := Lib.hid (HT3.out.below (HB4.out.trans (HK.out.toBelow HB4.out.size (fun k h => .inl h))))
      have FI := Lib.hid (fun (W : World) (h : Below wr.heap.size wr W) => TI.out.below h)
      have FP := Lib.hid (fun (W : World) (h : Below wr.heap.size wr W) => show CL W ao L from (TP.out.below h).1)
      have FII := Lib.hid (fun (W : World) (h : Below wr.heap.size wr W) => show CL W io L from (TI.out.below h).1)
      have SMM := Lib.hid (small_million HSM.out)
      have HUL := Lib.hid (show (unitsR L).length ≤ 1000000 from by
        have h3 := (insAll_length [] L.flatten List.Pairwise.nil).1
        have h4 := flat_le L 255 HSM.out.2
        have h5 : 255 * L.length ≤ 255 * 255 := Nat.mul_le_mul_left _ HSM.out.1
        unfold unitsR
        rw [List.length_nil] at h3
        omega)
      have hGG : ∀ R : Bool, (R == R) = true := fun R => by cases R <;> rfl
      have hG := hGG (goodB ep L)
      clear hGG hz2 hz4 hB3 hB4 hBr
      obtain ⟨z0, z1⟩ := Q3.out.cells
      go_wp2_with fail
      clear z0 z1
      go_region_held3 (fun W => W.cell? ⟨w2.heap.size, 0, none⟩ = some (.int .i64 ep) ∧ W.cell? ⟨w2.heap.size, 1, none⟩ = some (.slice io L.length ic) ∧ W.cell? ⟨w.heap.size, 0, none⟩ = some (.int .i64 ep) ∧ W.cell? ⟨w.heap.size, 1, none⟩ = some (.slice ao L.length cap) ∧ W.cell? ⟨w4.heap.size, 0, none⟩ = some (.int .i64 ep) ∧ W.cell? ⟨w4.heap.size, 1, none⟩ = some (.slice co L.length cc) ∧ Below wr.heap.size wr W ∧ wr.heap.size ≤ W.heap.size)
        (first | exact boxes6_start Q1.out Q2.out Q3.out | exact boxes6_keep hb9 (by assumption) | exact boxes6_keep hb8 (by assumption) | exact boxes6_keep hb7 (by assumption) | exact boxes6_keep hb6 (by assumption) | exact boxes6_keep hb5 (by assumption) | exact boxes6_keep hb4 (by assumption) | exact boxes6_keep hb3 (by assumption))
        (first
          | (go_at_call 12; refine (HS.good ep io ic L _ (FI.out _ (boxes6_below (by assumption))) HSM.out).mono ?_; rintro e w6 ⟨rfl, hb3⟩)
          | (go_at_call 13; refine (rgood_any ep ao cap L _ (FP.out _ (boxes6_below (by assumption))) HSM.out).mono ?_; rintro e w7 ⟨rfl, hb4⟩)
          | (go_at_call 15; refine (HS.units ep io ic L _ (FI.out _ (boxes6_below (by assumption))) HSM.out).mono ?_; rintro e w8 ⟨u1, d1, rfl, hn1, hb5⟩; have HU1 := Lib.hid hn1; clear hn1)
          | (go_at_call 16; refine (refUnits_any ep ao cap L _ (FP.out _ (boxes6_below (by assumption))) HSM.out).mono ?_; rintro e w9 ⟨u2, d2, rfl, hn2, hb6⟩; have HU2 := Lib.hid hn2; replace HU1 := Lib.hid (HU1.out.below hb6); clear hn2)
          | (go_at_call 14; refine (keepInts_any (unitsR L) (unitsR L) u1 u2 d1 d2 _ HU1.out HU2.out HUL.out HUL.out).mono ?_; rintro e w10 ⟨rfl, q10, hw10⟩; rw [show intsB (unitsR L) (unitsR L) = true from decide_eq_true rfl]; have hb7 := (show Below w9.heap.size w9 w10 from by rw [hw10]; exact below_drewN (Below.refl _ _) _); clear hw10)
          | (go_at_call 17; refine (keepProj_any ep io ic L ep ao cap L _ (FII.out _ (boxes6_below (by assumption))) (FP.out _ (boxes6_below (by assumption))) SMM.out SMM.out).mono ?_; rintro e w11 ⟨rfl, hb8⟩; rw [sameP_self])
          | (go_at_call 9; refine (CW.out _).mono ?_; rintro e w12 ⟨rfl, hb9⟩))
      all_goals
        go_wp2_with fail
        go_ret
        rename_i hS
        exact ⟨rfl, HW.out.trans (hS.2.2.2.2.2.2.1.mono HW.out.size)⟩

set_option maxRecDepth 100000 in
theorem projTells_lifted (os : Os) (started : os.Started) (H : Type) (enc : TypeId × Value → H) :
    ReturnsInHanded {} Try.checked os 3 .any (Rows.projTellsSpec.pre6 enc Try.prog Try.f3 Rows.projTellsRow.domain false) (Rows.projTellsSpec.post enc Try.prog Try.f3 false true false false) := by
  refine returnsInHanded_of_change (C := Try.checked) own started (by kernel_rfl) Try.func3
    (ChangeSpec.witness6 (enc := enc) (C := Try.checked) false ⟨#[], #[.agg #[.int .i64 0, .slice none 0 0]], []⟩ 8 (by kernel_rfl) (by kernel_rfl) (by kernel_rfl) (by kernel_rfl)) ?_
  intro W base args ds gs before hval0 hW hcnd _
  have hval : ∀ (j : Nat) t v, Try.f3.params[j]? = some t → args[j]? = some v → Value.okWide Try.prog W .any base t v := hval0
  have hW' := hW
  obtain ⟨p, q, hA0, hV, rfl, hfz, hnd⟩ := hW
  have hA : DataW.TrodAll enc Try.prog W 0 (fun _ => true) true Try.f3.params.toList args.toList ds p := hA0
  rw [Try.params3] at hA hval
  obtain ⟨v0, vs0, d0, ds0, p0, q0, hargs, rfl, rfl, h0, r0⟩ := trodAll_cons hA
  obtain ⟨rfl, rfl, rfl⟩ := trodAll_nil r0
  obtain rfl : args = #[v0] := by cases args; simp_all
  obtain ⟨rfl, rfl⟩ := trodVars_none hV
  have k0 := h0
  have lt0 : ∀ x ∈ p0, x.block < W.heap.size := by obtain ⟨m, hm⟩ := k0; exact DataW.trod_lt m _ _ _ hm
  obtain ⟨ep0, ao0, cap0, L0, rfl, wf0, hC0, hn0, hc0, hl0, hm0⟩ := open_proj Try.underlying24 (by kernel_rfl) rfl rfl (by kernel_rfl) (by kernel_rfl) Try.underlying3 Try.underlying22 Try.underlying28 (by kernel_rfl) (hval 0 24 v0 rfl rfl) h0
  have hF0 : PIn W ep0 ao0 cap0 L0 := ⟨⟨hC0, hn0, hc0⟩, i64_of_wf wf0, hl0, fun c hcm => by obtain ⟨i, hi, rfl⟩ := List.getElem_of_mem hcm; exact hm0 i hi⟩
  clear hA0 hval0
  refine (projTells_walk progSays copySays ep0 ao0 cap0 L0 W hF0).mono fun e W' ⟨he, bel⟩ => ?_
  subst he
  exact ⟨_, rfl, _, _, _, [], _, [], hW', trodAll_mk1 (shut_bool Try.underlying4 _), (trodAll_cons_mk (Below.trod laidOut (by kernel_rfl) (of_decide_eq_true (by kernel_rfl)) k0 bel lt0) trodAll_mk0), rfl, bel.frame _, fun h => by cases h⟩

theorem projTells_over : Rows.projTellsRow.holds Try.pinned (OpenSpec.ofChange Rows.projTellsSpec) :=
  OpenClaim.holds_of_wide 3 Try.f3 rfl rfl rfl rfl rfl rfl rfl ⟨rfl, rfl, rfl, rfl, rfl⟩ rfl rfl rfl rfl rfl (by kernel_rfl) Try.func3 (by kernel_rfl)
    (of_decide_eq_true (by kernel_rfl)) (by unfold Func.isWrapper; first | (rw [if_pos (by decide +kernel)]; kernel_rfl) | (rw [if_neg (by decide +kernel)]; exact ⟨rfl, rfl⟩))
    (fun os started H enc _ => projTells_lifted os started H enc)

/-- THE STATEMENT -/
theorem projTells_holds : Rows.ProjTellsSaid := projTells_over 
end Go.Proofs.Ytbiihcoobknmjaa
