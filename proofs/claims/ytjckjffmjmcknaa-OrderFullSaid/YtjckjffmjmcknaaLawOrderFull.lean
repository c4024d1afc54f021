/- The law OrderFull: the sequencer tells just the addresses that there are. Conditions: none. -/
import Derived.Test.YtjckjffmjmcknaaOrdS
import Derived.Test.YtjckjffmjmcknaaSqpD
namespace Go.Proofs.Ytjckjffmjmcknaa
open Go.ChangeShapes Go.WideShapes Go.ChangeAt Go.RowKit
open Go.ChangeMaps (open_string shut_string)
set_option linter.unusedVariables false
set_option maxRecDepth 20000

theorem full_start {t : Int} (h : 0 ≤ t ∧ t ≤ 16384) : (newO.ans (akO 8 2 t)).code = 0 ∧ newO.done (akO 8 2 t) = ⟨2, t, true⟩ := by
  refine ⟨?_, if_pos ⟨rfl, by show (-1 : Int) < 2; omega, h⟩⟩
  unfold Od.ans
  rw [if_pos (by show (8 : Int) = 8; rfl), if_neg (by show ¬ (2 : Int) ≤ -1; omega), if_neg (by show ¬ (t < 0 ∨ 16384 < t); omega)]
  rfl
theorem full_next {t : Int} (h : t ≠ 16384) : ((⟨2, t, true⟩ : Od).ans (akO 6 2 0)).code = 0 ∧ ((⟨2, t, true⟩ : Od).ans (akO 6 2 0)).n = t ∧ (⟨2, t, true⟩ : Od).done (akO 6 2 0) = ⟨2, t + 1, true⟩ := by
  have ha : (⟨2, t, true⟩ : Od).ans (akO 6 2 0) = anP 0 t noT 2 := by
    unfold Od.ans
    rw [if_neg (by show ¬ (6 : Int) = 8; omega), if_pos (by show (6 : Int) = 6 ∨ (6 : Int) = 7; omega), if_neg (by show ¬ (2 : Int) ≠ 2; omega), if_neg (by show ¬ true = false; decide), if_neg (by show ¬ (6 : Int) = 7; omega), if_neg (by exact h)]
  refine ⟨by rw [ha]; rfl, by rw [ha]; rfl, ?_⟩
  unfold Od.done
  rw [if_neg (fun h => by have h1 : (6 : Int) = 8 := h.1; omega), if_pos ⟨rfl, rfl, rfl, h⟩]
theorem full_end : ((⟨2, 16384, true⟩ : Od).ans (akO 6 2 0)).code = 44 ∧ ((⟨2, 16384, true⟩ : Od).ans (akO 6 2 0)).n = 0 ∧ (⟨2, 16384, true⟩ : Od).done (akO 6 2 0) = ⟨2, 16384, true⟩ ∧ ((⟨2, 16384, true⟩ : Od).ans (akO 7 2 0)).code = 0 ∧ ((⟨2, 16384, true⟩ : Od).ans (akO 7 2 0)).n = 16384 := ⟨rfl, rfl, rfl, rfl, rfl⟩
set_option maxHeartbeats 8000000 in
theorem orderFull_walk {OG : Nat → (Nat → Prop) → World → Od → Prop} (HS : OrderSays OG) (x : Int) (wx : (Lit.int .u8 x).wf = true) (w : World) :
    Calls Try.prog 5 #[.int .u8 x] w fun e w' => e = .returned (.bool true) ∧ Below w.heap.size w w' := by
  have CW := Lib.hid (fun w => wakes11_any HS w)
  have CN := Lib.hid (o_new HS w)
  have TT := Lib.hid (fun b => HS.thing b)
  unfold ptrO at CN
  obtain ⟨x0, x1⟩ : 0 ≤ x ∧ x < 256 := by
    have h := wx
    simp [Lit.wf] at h
    have e1 : IntKind.u8.min = 0 := by decide
    have e2 : IntKind.u8.max = 255 := by decide
    omega
  have ZZ := Lib.hid (fun (x : Int) (h : 0 ≤ x ∧ x ≤ 16384) => @i64w_near x (by omega))
  have hf0 : ∀ (c n e : Int) (s : ByteArray) (W : World), (Instr.field 40 (.agg #[.int .i64 c, .int .i64 n, .string s, .int .i64 0, .slice none 0 0, .int .i64 0, .int .i64 0, .int .i64 e]) 0).run Try.prog W = .ok (.int .i64 c) W := fun c n e s W => by kernel_rfl
  clear wx
  go_enter Try.func5, Try.ntmps5
  go_wp2_with (go_at_call 6; refine CN.out.mono ?_; rintro e w1 ⟨b, rfl, hu1, hb1⟩; have U1 := Lib.hid hu1; have B1 := Lib.hid hb1; clear hu1 hb1)
  obtain ⟨s1, s2⟩ := full_start (t := 16384 - x) (by omega)
  refine (o_askO HS U1.out (k := 8) (e := 2) (p := 16384 - x) (ZZ.out 8 (by omega)) (ZZ.out 2 (by omega)) (ZZ.out _ (by omega))).mono ?_
  rintro e w2 ⟨rfl, hu2, hk2⟩
  rw [s1]
  rw [s2] at hu2
  have U2 := Lib.hid hu2
  have B2 := Lib.hid (B1.out.trans (hk2.toBelow B1.out.size (fun k h => h)))
  clear hu2 hk2 s1 s2 U1 B1
  go_wp2_with fail
  go_loopw [5] (fun i wr => ∃ k : Int, i = .int .i64 k ∧ 0 ≤ k ∧ k ≤ x ∧ Hid (Solo (OG b) (fun k => k < w.heap.size) wr ⟨2, 16384 - x + k, true⟩) ∧ Hid (Below w.heap.size w wr)) (fun i _ => (x - intOf i).toNat)
  case atStart => exact ⟨0, rfl, Int.le_refl _, x0, Lib.hid (by rw [Int.add_zero]; exact U2.out), B2⟩
  case round =>
    clear U2 B2
    obtain ⟨k, rfl, k0, k1, HU, HB⟩ := hrel
    by_cases hlt : k < x
    · obtain ⟨s1, s2, s3⟩ := full_next (t := 16384 - x + k) (by omega)
      go_wp2_with fail
      refine (o_askO HS HU.out (k := 6) (e := 2) (p := 0) (ZZ.out 6 (by omega)) (ZZ.out 2 (by omega)) (ZZ.out 0 (by omega))).mono ?_
      rintro e w3 ⟨rfl, hu3, hk3⟩
      rw [s1, s2]
      rw [s3] at hu3
      have U3 := Lib.hid (hu3.below (TT.out b) ((Below.refl w3.heap.size w3).alloc (Nat.le_refl _) (.cells #[.int .i64 0, .int .i64 (16384 - x + k), .string ((⟨2, 16384 - x + k, true⟩ : Od).ans (akO 6 2 0)).data, .int .i64 0, .slice none 0 0, .int .i64 0, .int .i64 0, .int .i64 ((⟨2, 16384 - x + k, true⟩ : Od).ans (akO 6 2 0)).epoch] 40)))
      have B3 := Lib.hid (HB.out.trans (hk3.toBelow HB.out.size (fun k h => h)))
      clear hu3 hk3 s1 s2 s3
      go_wp2_with fail
      go_roundw
      case rel => exact ⟨k + 1, by go_num, by omega, by omega, Lib.hid (by rw [← Int.add_assoc]; exact U3.out), Lib.hid (B3.out.alloc B3.out.size _)⟩
      case measure => simp [intOf]; omega
    · obtain rfl : k = x := by omega
      obtain ⟨s1, s2, s3, s4, s5⟩ := full_end
      have HU2 := Lib.hid (show Solo (OG b) (fun k => k < w.heap.size) wr ⟨2, 16384, true⟩ from by have h := HU.out; rwa [show 16384 - k + k = (16384 : Int) by omega] at h)
      go_wp2_with fail
      refine (o_askO HS HU2.out (k := 6) (e := 2) (p := 0) (ZZ.out 6 (by omega)) (ZZ.out 2 (by omega)) (ZZ.out 0 (by omega))).mono ?_
      rintro e w3 ⟨rfl, hu3, hk3⟩
      rw [s1, s2]
      rw [s3] at hu3
      have U3 := Lib.hid hu3
      have B3 := Lib.hid (HB.out.trans (hk3.toBelow HB.out.size (fun k h => h)))
      clear hu3 hk3
      go_wp2_with fail
      refine (o_askO HS (U3.out.beside (TT.out b) _) (k := 7) (e := 2) (p := 0) (ZZ.out 7 (by omega)) (ZZ.out 2 (by omega)) (ZZ.out 0 (by omega))).mono ?_
      rintro e w4 ⟨rfl, hu4, hk4⟩
      rw [s4, s5]
      have B4 := Lib.hid ((B3.out.alloc B3.out.size _).trans (hk4.toBelow (by have := B3.out.size; simp; omega) (fun k h => .inl h)))
      have p4 := hk4.heap (b := w3.heap.size) (Or.inr rfl) (heap_alloc_new w3 _)
      have lp := lt_of_block p4
      have p0 := cell_of p4 0
      have p1 := cell_of p4 1
      clear hu4 hk4 p4 s1 s2 s3 s4 s5
      go_wp2_with (go_at_call 9; refine (CW.out _).mono ?_; rintro e w5 ⟨rfl, hb5⟩; have B5 := Lib.hid ((B4.out.alloc B4.out.size _).trans (hb5.mono (by have := B4.out.size; simp; omega))); clear hb5)
      go_ret
      exact ⟨rfl, B5.out⟩

set_option maxRecDepth 100000 in
theorem orderFull_lifted (os : Os) (started : os.Started) (H : Type) (enc : TypeId × Value → H) :
    ReturnsInHanded {} Try.checked os 5 .any (Rows.orderFullSpec.pre6 enc Try.prog Try.f5 Rows.orderFullRow.domain false) (Rows.orderFullSpec.post enc Try.prog Try.f5 false true false false) := by
  refine returnsInHanded_of_change (C := Try.checked) own started (by kernel_rfl) Try.func5
    (ChangeSpec.witness6 (enc := enc) (C := Try.checked) false ⟨#[], #[.int .u8 0], []⟩ 8 (by kernel_rfl) (by kernel_rfl) (by kernel_rfl) (by kernel_rfl)) ?_
  intro W base args ds gs before hval0 hW hcnd _
  have hval : ∀ (j : Nat) t v, Try.f5.params[j]? = some t → args[j]? = some v → Value.okWide Try.prog W .any base t v := hval0
  have hW' := hW
  obtain ⟨p, q, hA0, hV, rfl, hfz, hnd⟩ := hW
  have hA : DataW.TrodAll enc Try.prog W 0 (fun _ => true) true Try.f5.params.toList args.toList ds p := hA0
  rw [Try.params5] at hA hval
  obtain ⟨v0, vs0, d0, ds0, p0, q0, hargs, rfl, rfl, h0, r0⟩ := trodAll_cons hA
  obtain ⟨rfl, rfl, rfl⟩ := trodAll_nil r0
  obtain rfl : args = #[v0] := by cases args; simp_all
  obtain ⟨rfl, rfl⟩ := trodVars_none hV
  have k0 := h0
  have lt0 : ∀ x ∈ p0, x.block < W.heap.size := by obtain ⟨m, hm⟩ := k0; exact DataW.trod_lt m _ _ _ hm
  obtain ⟨a0, rfl, rfl, rfl, w0⟩ := open_int Try.underlying5 (hval 0 5 v0 rfl rfl) h0
  clear hA0 hval0
  refine (orderFull_walk orderSays a0 w0 W).mono fun e W' ⟨he, bel⟩ => ?_
  subst he
  exact ⟨_, rfl, _, _, _, [], _, [], hW', trodAll_mk1 (shut_bool Try.underlying4 _), (trodAll_cons_mk (Below.trod laidOut (by kernel_rfl) (of_decide_eq_true (by kernel_rfl)) k0 bel lt0) trodAll_mk0), rfl, bel.frame _, fun h => by cases h⟩

theorem orderFull_over : Rows.orderFullRow.holds Try.pinned (OpenSpec.ofChange Rows.orderFullSpec) :=
  OpenClaim.holds_of_wide 5 Try.f5 rfl rfl rfl rfl rfl rfl rfl ⟨rfl, rfl, rfl, rfl, rfl⟩ rfl rfl rfl rfl rfl (by kernel_rfl) Try.func5 (by kernel_rfl)
    (of_decide_eq_true (by kernel_rfl)) (by unfold Func.isWrapper; first | (rw [if_pos (by decide +kernel)]; kernel_rfl) | (rw [if_neg (by decide +kernel)]; exact ⟨rfl, rfl⟩))
    (fun os started H enc _ => orderFull_lifted os started H enc)

/-- THE STATEMENT -/
theorem orderFull_holds : Rows.OrderFullSaid := orderFull_over 
end Go.Proofs.Ytjckjffmjmcknaa
