/- The law ExtentHoles: of no parts all is one hole; what was cut off is a hole again. No conditions. -/
import Derived.Test.YtjdhbpgipoifkaaG26a
import Derived.Lib.QuietBelow
namespace Go.Proofs.Ytjdhbpgipoifkaa
open Go.ChangeShapes Go.WideShapes Go.ChangeAt Go.RowKit Go.Sort
set_option linter.unusedVariables false
set_option maxRecDepth 20000
set_option maxHeartbeats 16000000 in
theorem extentHoles_walk (ao : Option Addr) (cap : Nat) (L : List Pt) (x0 x1 s : Int) (wl : L.length ≤ maxLen) (wx0 : (Lit.int .i64 x0).wf = true) (wx1 : (Lit.int .i64 x1).wf = true) (ws : (Lit.int .i64 s).wf = true) (w : World) (hp : PaL w ao L) (hk : ∀ x ∈ L, PaIn w x) (hn : ao = none → cap = 0) (hc : L.length ≤ cap) :
    Calls Try.prog 9 #[.slice ao L.length cap, .agg #[.int .i64 x0, .int .i64 x1], .int .i64 s] w fun e w' => e = .returned (.bool true) ∧ Below w.heap.size w w' := by
  have CK := Lib.hid wakes19
  have wl' : (L.length : Int) ≤ 9223372036854775807 := by unfold maxLen at wl; omega
  clear wx0 wx1 ws hk
  obtain ⟨W0, hW0⟩ : ∃ W0, W0 = w.alloc (.cells #[.int .i64 x0, .int .i64 x1] 48) := ⟨_, rfl⟩
  have HB0 := Lib.hid (show Below w.heap.size w W0 from by rw [hW0]; exact blwA w _)
  have HN := Lib.hid (show W0.heap[w.heap.size]? = some (.cells #[.int .i64 x0, .int .i64 x1] 48 (0, 0)) from by rw [hW0]; exact heap_alloc_new _ _)
  have HP0 := Lib.hid (PaL.below hp HB0.out)
  have hz : w.heap.size < W0.heap.size := by rw [hW0]; simp
  have e0 := cell_of HN.out 0
  have e1 := cell_of HN.out 1
  obtain ⟨W1, hW1⟩ : ∃ W1, W1 = W0.drew := ⟨_, rfl⟩
  have HB1 := Lib.hid (show Below w.heap.size w W1 from by rw [hW1]; exact HB0.out.drew)
  have HP1 := Lib.hid (show PaL W1 ao L from by rw [hW1]; exact PaL.below HP0.out (Below.refl _ _).drew)
  clear hp HN HB0 HP0
  rw [hW0] at e0 e1 hz hW1
  clear hW0
  by_cases hl : ¬ L.length ≤ 64
  · have h2 : (64 : Int) < (L.length : Int) := by omega
    clear hl HP1
    go_enter Try.func9, Try.ntmps9
    go_wp2_with fail
    go_region
    rw [← hW1]
    clear hW1 e0 e1
    go_wp2_with (go_at_call 10; refine (CK.out _).mono ?_; rintro e w2 ⟨rfl, hB⟩)
    go_ret
    exact ⟨rfl, blwO hB HB1.out⟩
  have hl : L.length ≤ 64 := by omega
  have h2 : (L.length : Int) ≤ 64 := by omega
  have CH := Lib.hid (rgoodE_any ao cap L W1 HP1.out wl)
  by_cases hg : ¬ goodE L = true
  · have hgf : goodE L = false := by simpa using hg
    rw [hgf] at CH
    clear hg hgf
    go_enter Try.func9, Try.ntmps9
    go_wp2_with fail
    go_region
    rw [← hW1]
    clear hW1 e0 e1
    go_wp2_with (first | (go_at_call 13; refine CH.out.mono ?_; rintro e w2 ⟨rfl, hB⟩; have HB2 := Lib.hid (blwO hB HB1.out); clear hB) | (go_at_call 10; refine (CK.out _).mono ?_; rintro e w3 ⟨rfl, hB⟩))
    go_ret
    exact ⟨rfl, blwO hB HB2.out⟩
  have hg : goodE L = true := by simpa using hg
  rw [hg] at CH
  have CM1 := Lib.hid (mod_any x0 8192 (by decide) (by decide))
  have o1 := Int.emod_nonneg x0 (show (8192 : Int) ≠ 0 by decide)
  have o2 := Int.emod_lt_of_pos x0 (show (0 : Int) < 8192 by decide)
  generalize x0 % 8192 = o at CM1 o1 o2
  have CM2 := Lib.hid (mod_any x1 (8192 - o) (by omega) (by omega))
  have m1 := Int.emod_nonneg x1 (show (8192 - o : Int) ≠ 0 by omega)
  have m2 := Int.emod_lt_of_pos x1 (show (0 : Int) < 8192 - o by omega)
  generalize x1 % (8192 - o) = n at CM2 m1 m2
  have CM3 := Lib.hid (mod_any s 8193 (by decide) (by decide))
  have k1 := Int.emod_nonneg s (show (8193 : Int) ≠ 0 by decide)
  have k2 := Int.emod_lt_of_pos s (show (0 : Int) < 8193 by decide)
  generalize s % 8193 = k at CM3 k1 k2
  have hpb : planB o (1 + n) = true := planB_iff.2 (by omega)
  have CN := Lib.hid (fun (W : World) => eplan_any none 0 [] o (1 + n) W (Row.nil W none 4 parC) (Nat.zero_le _))
  rw [hole_all hpb] at CN
  have CF := Lib.hid (fun (W : World) (h : PaL W ao L) => lfew_any ao cap L W h hn hc (by omega))
  have CC := Lib.hid (fun (ao : Option Addr) (cap : Nat) (W : World) (h : PaL W ao L) => ecut_any ao cap L k (by omega) W h wl)
  have HCL := Lib.hid (show (cutE L k).length ≤ maxLen from by have := cutE_len L k; unfold maxLen; omega)
  have hgc := cut_good hg k
  have hec := cut_end hg k1
  have HPL := Lib.hid (plan_hole hg k1 hpb)
  have hql := planE_len (cutE L k) o (1 + n)
  generalize cutE L k = C at *
  have CG := Lib.hid (fun (ao : Option Addr) (cap : Nat) (W : World) (h : PaL W ao C) => egood_any ao cap C W h HCL.out)
  rw [hgc] at CG
  have CE := Lib.hid (fun (ao : Option Addr) (cap : Nat) (W : World) (h : PaL W ao C) => eEnd_any ao cap C W h HCL.out)
  have CQ := Lib.hid (fun (ao : Option Addr) (cap : Nat) (W : World) (h : PaL W ao C) => eplan_any ao cap C o (1 + n) W h HCL.out)
  generalize endE C = ec at *
  generalize planE C o (1 + n) = Q at *
  have hcc := hec.2
  have hqI : (Q.length : Int) ≤ 8192 := by omega
  clear hgc hpb hec
  go_enter Try.func9, Try.ntmps9
  go_wp2_with fail
  go_region
  rw [← hW1]
  clear hW1 e0 e1
  go_wp2_with (first
    | (go_at_call 13; refine CH.out.mono ?_; rintro e w2 ⟨rfl, hB⟩; have HB2 := Lib.hid (blwO hB HB1.out); have HP2 := Lib.hid (PaL.below HP1.out hB); clear hB CH)
    | (go_at_call 26; first | ((with_reducible refine (CM1.out _).mono ?_); rintro e w' ⟨rfl, rfl⟩) | ((with_reducible refine (CM2.out _).mono ?_); rintro e w' ⟨rfl, rfl⟩) | ((with_reducible refine (CM3.out _).mono ?_); rintro e w' ⟨rfl, rfl⟩))
    | (go_at_call 21; refine (CQ.out _ _ _ HC6.out).mono ?_; rintro e w7 ⟨v7, rfl, hO, hB⟩; have HB7 := Lib.hid (blwO hB HB6.out); obtain ⟨g7, c7, hv7, hr7⟩ := OPa.sl hO; subst hv7; have HQ7 := Lib.hid hr7; clear hO hB hr7)
    | (go_at_call 14; refine (CE.out _ _ _ HC5.out).mono ?_; rintro e w6 ⟨rfl, hB⟩; have HB6 := Lib.hid (blwO hB HB5.out); have HC6 := Lib.hid (PaL.below HC5.out hB); clear hB)
    | (go_at_call 12; refine (CG.out _ _ _ HC4.out).mono ?_; rintro e w5 ⟨rfl, hB⟩; have HB5 := Lib.hid (blwO hB HB4.out); have HC5 := Lib.hid (PaL.below HC4.out hB); clear hB)
    | (go_at_call 17; refine (CC.out _ _ _ HI3f.out).mono ?_; rintro e w4 ⟨v4, rfl, hO, hB⟩; have HB4 := Lib.hid (blwO hB HB3f.out); obtain ⟨g4, c4, hv4, hr4⟩ := OPa.sl hO; subst hv4; have HC4 := Lib.hid hr4; clear hO hB hr4)
    | (go_at_call 11; refine (CF.out _ HP3.out).mono ?_; rintro e w3f ⟨b1, q1, rfl, hO, hx, hy, hB⟩; obtain ⟨g1, q2, hv1, hr1⟩ := OPa.sl hO; cases hv1; have HI3f := Lib.hid hr1; have HB3f := Lib.hid (blwO hB HB3.out); clear hO hx hy hB hr1)
    | (go_at_call 21; refine (CN.out _).mono ?_; rintro e w3 ⟨v3, rfl, hO, hB⟩; have HB3 := Lib.hid (blwO hB HB2.out); have HP3 := Lib.hid (PaL.below HP2.out hB); obtain ⟨g3, c3, hv3, _, _⟩ := OPa.head hO (by simp); obtain ⟨d0, d1, d2, d3⟩ := PaL.atO (j := 0) (by rw [hv3] at hO; exact hO) rfl rfl; have d0 : w3.cell? ⟨g3, 0, none⟩ = some (.int .i64 o) := d0; have d1 : w3.cell? ⟨g3, 1, none⟩ = some (.int .i64 (1 + n)) := d1; have d2 : w3.cell? ⟨g3, 2, none⟩ = some (.int .i64 (-1)) := d2; have d3 : w3.cell? ⟨g3, 3, none⟩ = some (.int .i64 0) := d3; subst hv3; clear hO hB))
  clear CM1 CM2 CM3 CN CF CC HCL CG CE CQ d0 d1 d2 d3
  have HPQ := Lib.hid (show ∀ (j : Nat) (h : j < Q.length), midP Q[j] ∧ (Q[j].off + Q[j].len ≤ k ∨ Q[j].addr < 0) from fun j h => HPL.out _ (List.getElem_mem h))
  clear HPL
  go_loopw [15] (fun x wr => ∃ j : Nat, x = .int .i64 j ∧ j ≤ Q.length ∧ Hid (Below w7.heap.size w7 wr)) (fun x _ => Q.length - (intOf x).toNat)
  case atStart => exact ⟨0, rfl, Nat.zero_le _, Lib.hid (Below.refl _ _)⟩
  case round =>
    obtain ⟨j, rfl, hj, HB⟩ := hrel
    by_cases hlt : j < Q.length
    · have j0 : (j : Int) < (Q.length : Int) := by omega
      obtain ⟨bk, bo, hao, b0, b1, b2, b3⟩ := (PaL.below HQ7.out HB.out).at j hlt
      subst hao
      obtain ⟨⟨⟨p1, p2⟩, ⟨p3, p4⟩, ⟨p5, p6⟩, p7, p8⟩, hx⟩ := HPQ.out j hlt
      generalize hqj : Q[j] = y at *
      have ew : IntKind.i64.wrap (y.off + y.len) = y.off + y.len := IntWalk.i64_in _ (by omega)
      by_cases hk2 : y.off + y.len ≤ k
      · clear hx
        have gd : decide (k < y.off + y.len) = false := decide_eq_false (by omega)
        go_wp2_with fail
        go_quiet (fail)
        go_wp2_with fail
        go_roundw
        case rel => exact ⟨j + 1, by go_num, by omega, Lib.hid (below_drewN HB.out _)⟩
        case measure => simp [intOf]; omega
      · have hx : y.addr < 0 := by omega
        have hk2 : k < y.off + y.len := by omega
        have gd : decide (k < y.off + y.len) = true := decide_eq_true hk2
        have gx : decide (0 ≤ y.addr) = false := decide_eq_false (by omega)
        go_wp2_with fail
        go_quiet (fail)
        go_wp2_with fail
        go_roundw
        case rel => exact ⟨j + 1, by go_num, by omega, Lib.hid (below_drewN HB.out _)⟩
        case measure => simp [intOf]; omega
    · obtain rfl : j = Q.length := by omega
      go_wp2_with (go_at_call 10; refine (CK.out _).mono ?_; rintro e w8 ⟨rfl, hB⟩; have HB8 := Lib.hid (blwO hB (blwO HB.out HB7.out)); clear hB)
      go_ret
      exact ⟨rfl, HB8.out⟩

set_option maxRecDepth 100000 in
theorem extentHoles_lifted (os : Os) (started : os.Started) (H : Type) (enc : TypeId × Value → H) :
    ReturnsInHanded {} Try.checked os 9 .any (Rows.extentHolesSpec.pre6 enc Try.prog Try.f9 Rows.extentHolesRow.domain false) (Rows.extentHolesSpec.post enc Try.prog Try.f9 false true false false) := by
  refine returnsInHanded_of_change (C := Try.checked) own started (by kernel_rfl) Try.func9
    (ChangeSpec.witness6 (enc := enc) (C := Try.checked) false ⟨#[], #[.slice none 0 0, .agg #[.int .i64 0, .int .i64 0], .int .i64 0], []⟩ 8 (by kernel_rfl) (by kernel_rfl) (by kernel_rfl) (by kernel_rfl)) ?_
  intro W base args ds gs before hval0 hW hcnd _
  have hval : ∀ (j : Nat) t v, Try.f9.params[j]? = some t → args[j]? = some v → Value.okWide Try.prog W .any base t v := hval0
  have hW' := hW
  obtain ⟨p, q, hA0, hV, rfl, hfz, hnd⟩ := hW
  have hA : DataW.TrodAll enc Try.prog W 0 (fun _ => true) true Try.f9.params.toList args.toList ds p := hA0
  rw [Try.params9] at hA hval
  obtain ⟨v0, vs0, d0, ds0, p0, q0, hargs, rfl, rfl, h0, r0⟩ := trodAll_cons hA
  obtain ⟨v1, vs1, d1, ds1, p1, q1, rfl, rfl, rfl, h1, r1⟩ := trodAll_cons r0
  obtain ⟨v2, vs2, d2, ds2, p2, q2, rfl, rfl, rfl, h2, r2⟩ := trodAll_cons r1
  obtain ⟨rfl, rfl, rfl⟩ := trodAll_nil r2
  obtain rfl : args = #[v0, v1, v2] := by cases args; simp_all
  obtain ⟨rfl, rfl⟩ := trodVars_none hV
  have k0 := h0
  have lt0 : ∀ x ∈ p0, x.block < W.heap.size := by obtain ⟨m, hm⟩ := k0; exact DataW.trod_lt m _ _ _ hm
  have k1 := h1
  have lt1 : ∀ x ∈ p1, x.block < W.heap.size := by obtain ⟨m, hm⟩ := k1; exact DataW.trod_lt m _ _ _ hm
  have k2 := h2
  have lt2 : ∀ x ∈ p2, x.block < W.heap.size := by obtain ⟨m, hm⟩ := k2; exact DataW.trod_lt m _ _ _ hm
  obtain ⟨ao0, cap0, L0, rfl, w0, hR0, hK0, hn0, hc0⟩ := open_rows (f := parC) (ok := PaIn) (n := 3) Try.underlying22 (by kernel_rfl) (fun m cs y hl hf => par_cs Try.underlying31 rfl rfl rfl rfl Try.underlying3 (by kernel_rfl) hl hf) (hval 0 22 v0 rfl rfl) h0
  obtain ⟨ns1, rfl, hl1, hw1⟩ := open_arr (k := .i64) Try.underlying48 Try.underlying3 (by kernel_rfl) (by kernel_rfl) (hval 1 48 v1 rfl rfl) h1
  obtain ⟨x1_0, x1_1, rfl⟩ := two_of hl1
  have w1_0 := hw1 x1_0 (by simp)
  have w1_1 := hw1 x1_1 (by simp)
  obtain ⟨a2, rfl, rfl, rfl, w2⟩ := open_int Try.underlying3 (hval 2 3 v2 rfl rfl) h2
  clear hA0 hval0
  refine (extentHoles_walk ao0 cap0 L0 x1_0 x1_1 a2 w0 w1_0 w1_1 w2 W hR0 hK0 hn0 hc0).mono fun e W' ⟨he, bel⟩ => ?_
  subst he
  exact ⟨_, rfl, _, _, _, [], _, [], hW', trodAll_mk1 (shut_bool Try.underlying4 _), (trodAll_cons_mk (Below.trod laidOut (by kernel_rfl) (of_decide_eq_true (by kernel_rfl)) k0 bel lt0) (trodAll_cons_mk (Below.trod laidOut (by kernel_rfl) (of_decide_eq_true (by kernel_rfl)) k1 bel lt1) (trodAll_cons_mk (Below.trod laidOut (by kernel_rfl) (of_decide_eq_true (by kernel_rfl)) k2 bel lt2) trodAll_mk0))), rfl, bel.frame _, fun h => by cases h⟩

theorem extentHoles_over : Rows.extentHolesRow.holds Try.pinned (OpenSpec.ofChange Rows.extentHolesSpec) :=
  OpenClaim.holds_of_wide 9 Try.f9 rfl rfl rfl rfl rfl rfl rfl ⟨rfl, rfl, rfl, rfl, rfl⟩ rfl rfl rfl rfl rfl (by kernel_rfl) Try.func9 (by kernel_rfl)
    (of_decide_eq_true (by kernel_rfl)) (by unfold Func.isWrapper; first | (rw [if_pos (by decide +kernel)]; kernel_rfl) | (rw [if_neg (by decide +kernel)]; exact ⟨rfl, rfl⟩))
    (fun os started H enc _ => extentHoles_lifted os started H enc)

/-- THE STATEMENT -/
theorem extentHoles_holds : Rows.ExtentHolesSaid := extentHoles_over 
end Go.Proofs.Ytjdhbpgipoifkaa
