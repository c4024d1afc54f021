/- The law PlaceTells: where any address lies, which address lies anywhere, and the units of its chain. No conditions. -/
import Derived.Test.YtffiocgeijeheaaJPlpF
import Derived.Test.YtffiocgeijeheaaJPlcQ
namespace Go.Proofs.Ytffiocgeijeheaa
open Go.ChangeShapes Go.WideShapes Go.ChangeAt Go.RowKit
open Go.ChangeMaps (open_string shut_string)
set_option linter.unusedVariables false
set_option maxRecDepth 20000

theorem chainR_len {ep : Int} {L : List (List Int)} (h : Small L) (a : Int) : (chainR ep L a).length ≤ 255 := by
  unfold chainR
  split
  · by_cases hk : (a % (L.length : Int)).toNat < L.length
    · rw [show L.getD (a % (L.length : Int)).toNat [] = L[(a % (L.length : Int)).toNat] by simp [hk]]
      exact h.2 _ (List.getElem_mem hk)
    · rw [show L.getD (a % (L.length : Int)).toNat [] = [] by simp [List.getD, List.getElem?_eq_none (Nat.le_of_not_lt hk)]]
      exact Nat.zero_le _
  · exact Nat.zero_le _
theorem max_name (r : Int) : (if r < 0 then (0 : Int) else r) = max r 0 := by split <;> omega
/-- the block of what the document tells of an address -/
def GB (w : World) (b : Nat) (x y : Int) (z : Bool) : Prop := w.heap[b]? = some (.cells #[.int .i64 x, .int .i64 y, .bool z] 33 (0, 0))
theorem GB.below {w w' : World} {b : Nat} {x y : Int} {z : Bool} (h : GB w b x y z) (hb : Below w.heap.size w w') : GB w' b x y z := below_heap hb h
theorem GB.new (w : World) (x y : Int) (z : Bool) : GB (w.alloc (.cells #[.int .i64 x, .int .i64 y, .bool z] 33)) w.heap.size x y z := heap_alloc_new _ _
theorem GB.cells {w : World} {b : Nat} {x y : Int} {z : Bool} (h : GB w b x y z) : w.cell? ⟨b, 0, none⟩ = some (.int .i64 x) ∧ w.cell? ⟨b, 1, none⟩ = some (.int .i64 y) ∧ w.cell? ⟨b, 2, none⟩ = some (.bool z) := ⟨cell_of h 0, cell_of h 1, cell_of h 2⟩
set_option maxHeartbeats 8000000 in
theorem placeTells_walk (HS : PlaceSays) (ep : Int) (ao : Option Addr) (cap : Nat) (L : List (List Int)) (a c p : Int) (wa : (Lit.int .i64 a).wf = true) (wc : (Lit.int .i64 c).wf = true) (wp : (Lit.int .i64 p).wf = true) (w : World) (hp : PIn w ep ao cap L) :
    Calls Try.prog 3 #[.agg #[.int .i64 ep, .slice ao L.length cap], .int .i64 a, .agg #[.int .i64 c, .int .i64 p]] w fun e w' => e = .returned (.bool true) ∧ Below w.heap.size w w' := by
  obtain ⟨W0, hW0⟩ : ∃ W0, W0 = (w.alloc (.cells #[.int .i64 ep, .slice ao L.length cap] 24)).alloc (.cells #[.int .i64 c, .int .i64 p] 26) := ⟨_, rfl⟩
  have HB0 := Lib.hid (show Below w.heap.size w W0 from by rw [hW0]; exact ((Below.refl w.heap.size w).alloc (Nat.le_refl _) _).alloc (by simp) _)
  have HP := Lib.hid (show PB W0 w.heap.size ep ao L.length cap from by rw [hW0]; exact PB.below (heap_alloc_new _ _) (below_alloc _ _))
  have HXX := Lib.hid (show XB W0 (w.heap.size + 1) c p from by
    rw [hW0]
    have h := XB.new (w.alloc (.cells #[.int .i64 ep, .slice ao L.length cap] 24)) c p
    simpa using h)
  have HI := Lib.hid (hp.below HB0.out)
  have CL0 := Lib.hid (large_any ep ao cap L W0 HI.out.1.1 HI.out.2.2.1 HI.out.2.2.2)
  have CW := Lib.hid (wakes8_any HS)
  have hE : i64 ep := hp.2.1
  have HV := Lib.hid (show i64 a ∧ i64 c ∧ i64 p from ⟨i64_wf wa, i64_wf wc, i64_wf wp⟩)
  clear hp wa wc wp
  by_cases hlg : largeB L = true
  · rw [hlg] at CL0
    rw [hW0] at CL0 HB0
    clear hlg
    go_enter Try.func3, Try.ntmps3
    go_wp2_with (first | (go_at_call 8; refine CL0.out.mono ?_; rintro e w1 ⟨rfl, hb1⟩) | (go_at_call 9; refine (CW.out _).mono ?_; rintro e w2 ⟨rfl, hb2⟩))
    go_ret
    exact ⟨rfl, (HB0.out.trans (hb1.mono HB0.out.size)).trans (hb2.mono (Nat.le_trans HB0.out.size hb1.size))⟩
  have hlf : largeB L = false := by simpa using hlg
  rw [hlf] at CL0
  have HSM := Lib.hid (large_small hlf)
  have HCL := Lib.hid (show (chainR ep L a).length ≤ 1000000 from by have := chainR_len (ep := ep) HSM.out a; omega)
  have FT := Lib.hid (fun (W : World) (h : Below W0.heap.size W0 W) => show Told W ao cap L from (HI.out.below h).1)
  have SMM := Lib.hid (small_million HSM.out)
  have HOV := Lib.hid (show ofV ep L a = .tuple #[.agg #[.int .i64 (ofC ep L a), .int .i64 (ofP ep L a)], .bool (ofB ep L a)] from rfl)
  have HGV := Lib.hid (show gotV ep L a = .agg #[.int .i64 (ofC ep L a), .int .i64 (ofP ep L a), .bool (ofB ep L a)] from rfl)
  have HAV := Lib.hid (show addrV ep L c p = .tuple #[.int .i64 (max (addrR ep L c p) 0), .bool (decide (0 ≤ addrR ep L c p))] from rfl)
  have HRA := Lib.hid (show addrR ep L c p = addrR ep L c p from rfl)
  have hm := max_name (addrR ep L c p)
  obtain ⟨d, hd⟩ : ∃ d, decide (0 ≤ addrR ep L c p) = d := ⟨_, rfl⟩
  rw [hd] at HAV
  generalize hr : addrR ep L c p = r at *
  have HRR := Lib.hid hr
  generalize max r 0 = m at *
  generalize ofC ep L a = oc at *
  generalize ofP ep L a = op at *
  generalize ofB ep L a = ob at *
  have hGG : ∀ R : Bool, (R == R) = true := fun R => by cases R <;> rfl
  have g1 := hGG ob
  have g2 := hGG d
  have g3 : (oc == oc) = true := by simp
  have g4 : (op == op) = true := by simp
  have g5 : (m == m) = true := by simp
  clear hlg hlf hGG hr HRA
  have hsz0 : w.heap.size + 1 < W0.heap.size := HXX.out.lt
  rw [hW0] at CL0
  go_enter Try.func3, Try.ntmps3
  go_wp2_with (first
    | (go_at_call 8; refine CL0.out.mono ?_; rw [← hW0]; rintro e w1 ⟨rfl, hb1⟩; have H1 := Lib.hid hb1; obtain ⟨u0, u1⟩ := (HP.out.below hb1).cells; clear hb1 CL0)
    | (go_at_call 10; refine (keepCopy_any ep ao cap L w1 (FT.out _ H1.out).1 (small_copy HSM.out)).mono ?_; rintro e w2 ⟨bo, cb, rfl, hc2, hn2, hl2, hb2⟩; have H2 := Lib.hid (H1.out.trans (hb2.mono H1.out.size)); have T2 := Lib.hid (show Told w2 bo cb L from ⟨hc2, hn2, hl2⟩); have A2 := Lib.hid (below_alloc w2 (.cells #[.int .i64 ep, .slice bo L.length cb] 24)); have I2 := Lib.hid (show PB (w2.alloc (.cells #[.int .i64 ep, .slice bo L.length cb] 24)) w2.heap.size ep bo L.length cb from heap_alloc_new _ _); clear hc2 hn2 hl2 hb2 u0 u1)
    | (go_at_call 11; refine (HS.of ep bo cb L a _ (T2.out.below A2.out) HSM.out hE HV.out.1).mono ?_; rintro e w3 ⟨rfl, hb3⟩; rw [HOV.out]; have H3 := Lib.hid ((H2.out.trans (A2.out.mono H2.out.size)).trans (hb3.mono (Nat.le_trans H2.out.size A2.out.size))); have I3 := Lib.hid (I2.out.below hb3); have T3 := Lib.hid ((T2.out.below A2.out).below hb3); obtain ⟨v0, v1⟩ := (HP.out.below H3.out).cells; have hv := block_lt_of_cell v0; have A3 := Lib.hid (below_alloc w3 (.cells #[.int .i64 oc, .int .i64 op] 26)); have Y3 := Lib.hid (XB.new w3 oc op); clear hb3)
    | (go_at_call 12; refine (refOf_any ep ao cap L a _ (FT.out _ (H3.out.trans (A3.out.mono H3.out.size))).1 HSM.out).mono ?_; rintro e w4 ⟨rfl, hb4⟩; rw [HGV.out]; have H4 := Lib.hid ((H3.out.trans (A3.out.mono H3.out.size)).trans (hb4.mono (Nat.le_trans H3.out.size A3.out.size))); have I4 := Lib.hid ((I3.out.below A3.out).below hb4); have T4 := Lib.hid ((T3.out.below A3.out).below hb4); have Y4 := Lib.hid (Y3.out.below hb4); obtain ⟨x0, x1⟩ := I4.out.cells; have hx := block_lt_of_cell x0; obtain ⟨y0, y1⟩ := (HXX.out.below H4.out).cells; have hy := block_lt_of_cell y0; have A4 := Lib.hid (below_alloc w4 (.cells #[.int .i64 oc, .int .i64 op, .bool ob] 33)); have G4 := Lib.hid (GB.new w4 oc op ob); clear hb4 v0 v1 hv)
    | (go_at_call 13; refine (HS.addr ep bo cb L c p _ (T4.out.below A4.out) HSM.out hE HV.out.2.1 HV.out.2.2).mono ?_; rintro e w5 ⟨rfl, hb5⟩; rw [HAV.out]; have H5 := Lib.hid ((H4.out.trans (A4.out.mono H4.out.size)).trans (hb5.mono (Nat.le_trans H4.out.size A4.out.size))); have I5 := Lib.hid ((I4.out.below A4.out).below hb5); have T5 := Lib.hid ((T4.out.below A4.out).below hb5); have Y5 := Lib.hid ((Y4.out.below A4.out).below hb5); have G5 := Lib.hid (G4.out.below hb5); obtain ⟨z0, z1⟩ := (HP.out.below H5.out).cells; obtain ⟨t0, t1⟩ := (HXX.out.below H5.out).cells; clear hb5 x0 x1 y0 y1 hx hy)
    | (go_at_call 14; refine (refAddr_any ep ao cap L c p _ (FT.out _ H5.out).1 HSM.out).mono ?_; rintro e w6 ⟨rfl, hb6⟩; rw [HRR.out]; have H6 := Lib.hid (H5.out.trans (hb6.mono H5.out.size)); have I6 := Lib.hid (I5.out.below hb6); have T6 := Lib.hid (T5.out.below hb6); have Y6 := Lib.hid (Y5.out.below hb6); have G6 := Lib.hid (G5.out.below hb6); clear hb6 z0 z1 t0 t1))
  have P6 := Lib.hid (HP.out.below H6.out)
  have FI := Lib.hid (fun (W : World) (h : Below w6.heap.size w6 W) => show Told W bo cb L from T6.out.below h)
  have FP := Lib.hid (fun (W : World) (h : Below w6.heap.size w6 W) => show CL W ao L from (FT.out _ (H6.out.trans (h.mono H6.out.size))).1)
  have FII := Lib.hid (fun (W : World) (h : Below w6.heap.size w6 W) => show CL W bo L from (T6.out.below h).1)
  clear hsz0
  go_region_held3 (fun W => W.cell? ⟨w3.heap.size, 0, none⟩ = some (.int .i64 oc) ∧ W.cell? ⟨w3.heap.size, 1, none⟩ = some (.int .i64 op) ∧ W.cell? ⟨w4.heap.size, 0, none⟩ = some (.int .i64 oc) ∧ W.cell? ⟨w4.heap.size, 1, none⟩ = some (.int .i64 op) ∧ W.cell? ⟨w4.heap.size, 2, none⟩ = some (.bool ob) ∧ W.cell? ⟨w2.heap.size, 0, none⟩ = some (.int .i64 ep) ∧ W.cell? ⟨w2.heap.size, 1, none⟩ = some (.slice bo L.length cb) ∧ W.cell? ⟨w.heap.size, 0, none⟩ = some (.int .i64 ep) ∧ W.cell? ⟨w.heap.size, 1, none⟩ = some (.slice ao L.length cap) ∧ Below w6.heap.size w6 W ∧ w6.heap.size ≤ W.heap.size)
    (first | exact ⟨Y6.out.cells.1, Y6.out.cells.2, G6.out.cells.1, G6.out.cells.2.1, G6.out.cells.2.2, I6.out.cells.1, I6.out.cells.2, P6.out.cells.1, P6.out.cells.2, (Below.refl _ _).drew, Nat.le_refl _⟩ | exact nine_keep hb12 (by assumption) | exact nine_keep hb11 (by assumption) | exact nine_keep hb10 (by assumption) | exact nine_keep hb9 (by assumption) | exact nine_keep hb8 (by assumption))
    (first
      | (go_at_call 16; refine (HS.chain ep bo cb L a _ (FI.out _ (nine_below (by assumption))) HSM.out hE HV.out.1).mono ?_; rintro e w8 ⟨ro, rc, rfl, hr8, hb8⟩; have HR1 := Lib.hid hr8; clear hr8)
      | (go_at_call 17; refine (refChain_any ep ao cap L a _ (FP.out _ (nine_below (by assumption))) HSM.out).mono ?_; rintro e w9 ⟨so, sc, rfl, hr9, hb9⟩; have HR2 := Lib.hid hr9; replace HR1 := Lib.hid (HR1.out.below hb9); clear hr9)
      | (go_at_call 15; refine (keepInts_any (chainR ep L a) (chainR ep L a) ro so rc sc _ HR1.out HR2.out HCL.out HCL.out).mono ?_; rintro e w10 ⟨rfl, q10, hw10⟩; rw [show intsB (chainR ep L a) (chainR ep L a) = true from decide_eq_true rfl]; have hb10 := (show Below w9.heap.size w9 w10 from by rw [hw10]; exact below_drewN (Below.refl _ _) _); clear hw10)
      | (go_at_call 18; refine (keepProj_any ep bo cb L ep ao cap L _ (FII.out _ (nine_below (by assumption))) (FP.out _ (nine_below (by assumption))) SMM.out SMM.out).mono ?_; rintro e w11 ⟨rfl, hb11⟩; rw [sameP_self])
      | (go_at_call 9; refine (CW.out _).mono ?_; rintro e w12 ⟨rfl, hb12⟩))
  all_goals
    go_wp2_with fail
    go_ret
    rename_i hS
    exact ⟨rfl, (HB0.out.trans (H6.out.mono HB0.out.size)).trans ((nine_below hS).mono (Nat.le_trans HB0.out.size H6.out.size))⟩

set_option maxRecDepth 100000 in
theorem placeTells_lifted (os : Os) (started : os.Started) (H : Type) (enc : TypeId × Value → H) :
    ReturnsInHanded {} Try.checked os 3 .any (Rows.placeTellsSpec.pre6 enc Try.prog Try.f3 Rows.placeTellsRow.domain false) (Rows.placeTellsSpec.post enc Try.prog Try.f3 false true false false) := by
  refine returnsInHanded_of_change (C := Try.checked) own started (by kernel_rfl) Try.func3
    (ChangeSpec.witness6 (enc := enc) (C := Try.checked) false ⟨#[], #[.agg #[.int .i64 0, .slice none 0 0], .int .i64 0, .agg #[.int .i64 0, .int .i64 0]], []⟩ 8 (by kernel_rfl) (by kernel_rfl) (by kernel_rfl) (by kernel_rfl)) ?_
  intro W base args ds gs before hval0 hW hcnd _
  have hval : ∀ (j : Nat) t v, Try.f3.params[j]? = some t → args[j]? = some v → Value.okWide Try.prog W .any base t v := hval0
  have hW' := hW
  obtain ⟨p, q, hA0, hV, rfl, hfz, hnd⟩ := hW
  have hA : DataW.TrodAll enc Try.prog W 0 (fun _ => true) true Try.f3.params.toList args.toList ds p := hA0
  rw [Try.params3] at hA hval
  obtain ⟨v0, vs0, d0, ds0, p0, q0, hargs, rfl, rfl, h0, r0⟩ := trodAll_cons hA
  obtain ⟨v1, vs1, d1, ds1, p1, q1, rfl, rfl, rfl, h1, r1⟩ := trodAll_cons r0
  obtain ⟨v2, vs2, d2, ds2, p2, q2, rfl, rfl, rfl, h2, r2⟩ := trodAll_cons r1
  obtain ⟨rfl, rfl, rfl⟩ := trodAll_nil r2
  obtain rfl : args = #[v0, v1, v2] := by cases args; simp_all
  obtain ⟨rfl, rfl⟩ := trodVars_none hV
  have k0 := h0
  have lt0 : ∀ x ∈ p0, x.block < W.heap.size := by obtain ⟨m, hm⟩ := k0; exact DataW.trod_lt m _ _ _ hm
  have k1 := h1
  have lt1 : ∀ x ∈ p1, x.block < W.heap.size := by obtain ⟨m, hm⟩ := k1; exact DataW.trod_lt m _ _ _ hm
  have k2 := h2
  have lt2 : ∀ x ∈ p2, x.block < W.heap.size := by obtain ⟨m, hm⟩ := k2; exact DataW.trod_lt m _ _ _ hm
  obtain ⟨ep0, ao0, cap0, L0, rfl, wf0, hC0, hn0, hc0, hl0, hm0⟩ := open_proj Try.underlying24 (by kernel_rfl) rfl rfl (by kernel_rfl) (by kernel_rfl) Try.underlying3 Try.underlying22 Try.underlying39 (by kernel_rfl) (hval 0 24 v0 rfl rfl) h0
  have hF0 : PIn W ep0 ao0 cap0 L0 := ⟨⟨hC0, hn0, hc0⟩, i64_of_wf wf0, hl0, fun c hcm => by obtain ⟨i, hi, rfl⟩ := List.getElem_of_mem hcm; exact hm0 i hi⟩
  obtain ⟨a1, rfl, rfl, rfl, w1⟩ := open_int Try.underlying3 (hval 1 3 v1 rfl rfl) h1
  obtain ⟨c2, p2', rfl, wc2, wp2⟩ := open_place Try.underlying26 (by kernel_rfl) rfl rfl (by kernel_rfl) Try.underlying3 (hval 2 26 v2 rfl rfl) h2
  clear hA0 hval0
  refine (placeTells_walk placeSays ep0 ao0 cap0 L0 a1 c2 p2' w1 wc2 wp2 W hF0).mono fun e W' ⟨he, bel⟩ => ?_
  subst he
  exact ⟨_, rfl, _, _, _, [], _, [], hW', trodAll_mk1 (shut_bool Try.underlying4 _), (trodAll_cons_mk (Below.trod laidOut (by kernel_rfl) (of_decide_eq_true (by kernel_rfl)) k0 bel lt0) (trodAll_cons_mk (Below.trod laidOut (by kernel_rfl) (of_decide_eq_true (by kernel_rfl)) k1 bel lt1) (trodAll_cons_mk (Below.trod laidOut (by kernel_rfl) (of_decide_eq_true (by kernel_rfl)) k2 bel lt2) trodAll_mk0))), rfl, bel.frame _, fun h => by cases h⟩

theorem placeTells_over : Rows.placeTellsRow.holds Try.pinned (OpenSpec.ofChange Rows.placeTellsSpec) :=
  OpenClaim.holds_of_wide 3 Try.f3 rfl rfl rfl rfl rfl rfl rfl ⟨rfl, rfl, rfl, rfl, rfl⟩ rfl rfl rfl rfl rfl (by kernel_rfl) Try.func3 (by kernel_rfl)
    (of_decide_eq_true (by kernel_rfl)) (by unfold Func.isWrapper; first | (rw [if_pos (by decide +kernel)]; kernel_rfl) | (rw [if_neg (by decide +kernel)]; exact ⟨rfl, rfl⟩))
    (fun os started H enc _ => placeTells_lifted os started H enc)

/-- THE STATEMENT -/
theorem placeTells_holds : Rows.PlaceTellsSaid := placeTells_over 
end Go.Proofs.Ytffiocgeijeheaa
