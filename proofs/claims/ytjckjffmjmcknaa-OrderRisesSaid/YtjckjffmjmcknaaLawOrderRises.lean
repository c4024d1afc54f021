/- The law OrderRises: in one epoch the numbers that are told rise by 1, whatever else is asked. Conditions: none. -/
import Derived.Test.YtjckjffmjmcknaaOrdS
import Derived.Test.YtjckjffmjmcknaaSqpD
import Derived.Test.YtjckjffmjmcknaaAskK
namespace Go.Proofs.Ytjckjffmjmcknaa
open Go.ChangeShapes Go.WideShapes Go.ChangeAt Go.RowKit
open Go.ChangeMaps (open_string shut_string)
set_option linter.unusedVariables false
set_option maxRecDepth 20000

theorem rise_start {t : Int} (h : 0 ≤ t ∧ t ≤ 16384) : (newO.ans (akO 8 0 t)).code = 0 ∧ newO.done (akO 8 0 t) = ⟨0, t, true⟩ := by
  refine ⟨?_, if_pos ⟨rfl, by show (-1 : Int) < 0; omega, h⟩⟩
  unfold Od.ans
  rw [if_pos (by show (8 : Int) = 8; rfl), if_neg (by show ¬ (0 : Int) ≤ -1; omega), if_neg (by show ¬ (t < 0 ∨ 16384 < t); omega)]
  rfl
theorem rise_eight {o : Od} {a : Ak} (hk : a.kind = 8) : ((o.ans a).code = 0 ∧ o.epoch < a.epoch ∧ o.done a = ⟨a.epoch, a.page, true⟩) ∨ ((o.ans a).code ≠ 0 ∧ o.done a = o) := by
  unfold Od.ans Od.done
  rw [if_pos hk]
  by_cases he : a.epoch ≤ o.epoch
  · rw [if_pos he, if_neg (fun h => by have := h.2.1; omega), if_neg (fun h => by have := h.1; omega)]
    exact .inr ⟨by show (40 : Int) ≠ 0; omega, rfl⟩
  · by_cases hp : a.page < 0 ∨ 16384 < a.page
    · rw [if_neg he, if_pos hp, if_neg (fun h => by have := h.2.2; omega), if_neg (fun h => by have := h.1; omega)]
      exact .inr ⟨by show (1 : Int) ≠ 0; omega, rfl⟩
    · rw [if_neg he, if_neg hp, if_pos ⟨hk, by omega, by omega, by omega⟩]
      exact .inl ⟨rfl, by omega, rfl⟩
theorem rise_six {o : Od} {a : Ak} (hk : a.kind = 6) : ((o.ans a).code = 0 ∧ o.knows = true ∧ a.epoch = o.epoch ∧ (o.ans a).n = o.tail ∧ o.done a = ⟨o.epoch, o.tail + 1, o.knows⟩) ∨ ((o.ans a).code ≠ 0 ∧ o.done a = o) := by
  by_cases he : a.epoch = o.epoch
  · by_cases hn : o.knows = true
    · by_cases ht : o.tail = 16384
      · have ha : o.ans a = anP 44 0 noT o.epoch := by unfold Od.ans; rw [if_neg (by omega), if_pos (by omega), if_neg (fun h => h he), if_neg (by rw [hn]; decide), if_neg (by omega), if_pos ht]
        have hd : o.done a = o := by unfold Od.done; rw [if_neg (fun h => by have := h.1; omega), if_neg (fun h => h.2.2.2 ht)]
        exact .inr ⟨by rw [ha]; show (44 : Int) ≠ 0; omega, hd⟩
      · have ha : o.ans a = anP 0 o.tail noT o.epoch := by unfold Od.ans; rw [if_neg (by omega), if_pos (by omega), if_neg (fun h => h he), if_neg (by rw [hn]; decide), if_neg (by omega), if_neg ht]
        have hd : o.done a = ⟨o.epoch, o.tail + 1, o.knows⟩ := by unfold Od.done; rw [if_neg (fun h => by have := h.1; omega), if_pos ⟨hk, he, hn, ht⟩]
        exact .inl ⟨by rw [ha]; rfl, hn, he, by rw [ha]; rfl, hd⟩
    · have ha : o.ans a = anP 47 0 noT o.epoch := by unfold Od.ans; rw [if_neg (by omega), if_pos (by omega), if_neg (fun h => h he), if_pos (Bool.eq_false_iff.2 hn)]
      have hd : o.done a = o := by unfold Od.done; rw [if_neg (fun h => by have := h.1; omega), if_neg (fun h => hn h.2.2.1)]
      exact .inr ⟨by rw [ha]; show (47 : Int) ≠ 0; omega, hd⟩
  · have ha : o.ans a = anP 40 0 noT o.epoch := by unfold Od.ans; rw [if_neg (by omega), if_pos (by omega), if_pos he]
    have hd : o.done a = o := by unfold Od.done; rw [if_neg (fun h => by have := h.1; omega), if_neg (fun h => he h.2.1)]
    exact .inr ⟨by rw [ha]; show (40 : Int) ≠ 0; omega, hd⟩
theorem rise_seven {o : Od} {a : Ak} (hk : a.kind = 7) : o.done a = o ∧ (((o.ans a).code = 0 ∧ o.knows = true ∧ a.epoch = o.epoch ∧ (o.ans a).n = o.tail) ∨ (o.ans a).code ≠ 0) := by
  refine ⟨by unfold Od.done; rw [if_neg (fun h => by have := h.1; omega), if_neg (fun h => by have := h.1; omega)], ?_⟩
  by_cases he : a.epoch = o.epoch
  · by_cases hn : o.knows = true
    · have ha : o.ans a = anP 0 o.tail noT o.epoch := by unfold Od.ans; rw [if_neg (by omega), if_pos (by omega), if_neg (fun h => h he), if_neg (by rw [hn]; decide), if_pos hk]
      exact .inl ⟨by rw [ha]; rfl, hn, he, by rw [ha]; rfl⟩
    · have ha : o.ans a = anP 47 0 noT o.epoch := by unfold Od.ans; rw [if_neg (by omega), if_pos (by omega), if_neg (fun h => h he), if_pos (Bool.eq_false_iff.2 hn)]
      exact .inr (by rw [ha]; show (47 : Int) ≠ 0; omega)
  · have ha : o.ans a = anP 40 0 noT o.epoch := by unfold Od.ans; rw [if_neg (by omega), if_pos (by omega), if_pos he]
    exact .inr (by rw [ha]; show (40 : Int) ≠ 0; omega)
theorem rise_other {o : Od} {a : Ak} (hk : a.kind ≠ 8 ∧ a.kind ≠ 6) : o.done a = o := by
  unfold Od.done
  rw [if_neg (fun h => hk.1 h.1), if_neg (fun h => hk.2 h.1)]
set_option maxHeartbeats 16000000 in
theorem orderRises_walk {OG : Nat → (Nat → Prop) → World → Od → Prop} (HS : OrderSays OG) (ao : Option Addr) (cap : Nat) (l : List Sk) (x : Int) (hl : l.length ≤ maxLen) (wx : (Lit.int .u16 x).wf = true) (w : World) (hR : Row w ao 10 stepC l) (hK : ∀ s ∈ l, SkIn w s) :
    Calls Try.prog 4 #[.slice ao l.length cap, .int .u16 x] w fun e w' => e = .returned (.bool true) ∧ Below w.heap.size w w' := by
  have CW := Lib.hid (fun w => wakes11_any HS w)
  have CN := Lib.hid (o_new HS w)
  have TT := Lib.hid (fun b => HS.thing b)
  unfold ptrO at CN
  obtain ⟨x0, x1⟩ : 0 ≤ x ∧ x < 65536 := by
    have h := wx
    simp [Lit.wf] at h
    have e1 : IntKind.u16.min = 0 := by decide
    have e2 : IntKind.u16.max = 65535 := by decide
    omega
  have HF := Lib.hid hR
  have HK := Lib.hid hK
  have hl' : (l.length : Int) ≤ 9223372036854775807 := by unfold maxLen at hl; omega
  have ZZ := Lib.hid (fun (x : Int) (h : 0 ≤ x ∧ x ≤ 16384) => @i64w_near x (by omega))
  have hf0 : ∀ (c n e : Int) (s : ByteArray) (W : World), (Instr.field 40 (.agg #[.int .i64 c, .int .i64 n, .string s, .int .i64 0, .slice none 0 0, .int .i64 0, .int .i64 0, .int .i64 e]) 0).run Try.prog W = .ok (.int .i64 c) W := fun c n e s W => by kernel_rfl
  have xm : x.tmod 16384 = x % 16384 := Int.tmod_eq_emod_of_nonneg x0
  have xw : IntKind.i64.wrap (x.tmod 16384) = x % 16384 := by rw [xm]; exact IntWalk.i64_in _ (by omega)
  clear hR hK wx hl
  go_enter Try.func4, Try.ntmps4
  go_wp2_with (go_at_call 6; refine CN.out.mono ?_; rintro e w1 ⟨b, rfl, hu1, hb1⟩; have U1 := Lib.hid hu1; have B1 := Lib.hid hb1; clear hu1 hb1)
  have m0 : 0 ≤ x % 16384 := by omega
  have m1 : x % 16384 < 16384 := by omega
  clear xm xw
  generalize x % 16384 = m at *
  obtain ⟨s1, s2⟩ := rise_start (t := m) (by omega)
  refine (o_askO HS U1.out (k := 8) (e := 0) (p := m) (ZZ.out 8 (by omega)) (ZZ.out 0 (by omega)) (ZZ.out m (by omega))).mono ?_
  rintro e w2 ⟨rfl, hu2, hk2⟩
  rw [s1]
  rw [s2] at hu2
  have U2 := Lib.hid hu2
  have B2 := Lib.hid (B1.out.trans (hk2.toBelow B1.out.size (fun k h => h)))
  clear hu2 hk2 s1 s2 U1 B1
  go_wp2_with fail
  go_loopw [6, 7, 8, 9] (fun t e k i wr => ∃ (n : Nat) (o : Od), t = .int .i64 o.tail ∧ e = .int .i64 o.epoch ∧ k = .bool o.knows ∧ i = .int .i64 n ∧ n ≤ l.length ∧ n ≤ 200 ∧ Hid (Solo (OG b) (fun k => k < w.heap.size) wr o) ∧ Hid (Below w.heap.size w wr)) (fun _ _ _ i _ => l.length - (intOf i).toNat)
  case atStart => exact ⟨0, ⟨0, m, true⟩, rfl, rfl, rfl, rfl, Nat.zero_le _, by omega, U2, B2⟩
  case round =>
    clear U2 B2 m0 m1
    obtain ⟨n, o, rfl, rfl, rfl, rfl, hn, hn2, HU, HB⟩ := hrel
    by_cases hlt : n < l.length
    case neg =>
      obtain rfl : n = l.length := by omega
      go_wp2_with (go_at_call 9; refine (CW.out _).mono ?_; rintro e w6 ⟨rfl, hb6⟩)
      go_ret
      exact ⟨rfl, HB.out.trans (hb6.mono HB.out.size)⟩
    case pos =>
    have n0 : (n : Int) < (l.length : Int) := by omega
    by_cases h200 : n < 200
    case neg =>
      have n1 : (200 : Int) ≤ (n : Int) := by omega
      go_wp2_with (go_at_call 9; refine (CW.out _).mono ?_; rintro e w6 ⟨rfl, hb6⟩)
      go_ret
      exact ⟨rfl, HB.out.trans (hb6.mono HB.out.size)⟩
    case pos =>
    have n1 : (n : Int) < 200 := by omega
    obtain ⟨bk, off, hao, d0, x1, x2, x3, x4, x5, x6, x7, x8, x9⟩ := step_at (HF.out.below HB.out) hlt
    subst hao
    have N0 := Lib.hid (fun (W : World) (h : Below w.heap.size w W) => show W.cell? ⟨bk, off + n * 10, none⟩ = some (.int .i64 l[n].k) from by obtain ⟨b2, o2, e, h1, _⟩ := step_at (HF.out.below h) hlt; cases e; exact h1)
    have HA := Lib.hid (HK.out _ (List.getElem_mem hlt)).2
    obtain ⟨t0, t1⟩ := (show o.Ok from by obtain ⟨F, hF, _⟩ := HU.out.2; exact HS.ok hF).tail
    generalize l[n] = sk at *
    obtain ⟨sk, a⟩ := sk
    simp only at d0 N0 HA x1 x2 x3 x4 x5 x6 x7 x8 x9
    obtain ⟨kd, un, ep, pg, sz, nn, s, pe, L, ao2, cap2⟩ := a
    simp only at x1 x2 x3 x4 x5 x6 x7 x8 x9
    have HB1 := Lib.hid (HB.out.alloc HB.out.size (.cells #[.int .i64 kd, .int .i64 un, .int .i64 ep, .int .i64 pg, .int .i64 sz, .int .i64 nn, .string s, .int .i64 pe, .slice ao2 L.length cap2] 32))
    have HA1 := Lib.hid (HA.out.below HB1.out)
    have CL1 := Lib.hid (largeAsk_any ⟨kd, un, ep, pg, sz, nn, s, pe, L, ao2, cap2⟩ _ HA1.out)
    have HX1 := Lib.hid (heap_alloc_new wr (.cells #[.int .i64 kd, .int .i64 un, .int .i64 ep, .int .i64 pg, .int .i64 sz, .int .i64 nn, .string s, .int .i64 pe, .slice ao2 L.length cap2] 32))
    have U1 := Lib.hid (HU.out.beside (TT.out b) (.cells #[.int .i64 kd, .int .i64 un, .int .i64 ep, .int .i64 pg, .int .i64 sz, .int .i64 nn, .string s, .int .i64 pe, .slice ao2 L.length cap2] 32))
    go_wp2_with fail
    refine CL1.out.mono ?_
    rintro e w3 ⟨rfl, hb3⟩
    have B3 := Lib.hid (HB1.out.trans (hb3.mono HB1.out.size))
    have U3 := Lib.hid (U1.out.below (TT.out b) hb3)
    have X3 := Lib.hid (below_heap hb3 HX1.out)
    have A3 := Lib.hid (HA1.out.below hb3)
    clear hb3 HU HB HB1 HA HA1 HX1 U1 x1 x2 x3 x4 x5 x6 x7 x8 x9 d0 CL1
    cases hc : largeA ⟨kd, un, ep, pg, sz, nn, s, pe, L, ao2, cap2⟩
    case true =>
      go_wp2_with (go_at_call 9; refine (CW.out _).mono ?_; rintro e w6 ⟨rfl, hb6⟩)
      go_ret
      exact ⟨rfl, B3.out.trans (hb6.mono B3.out.size)⟩
    case false =>
    clear hc
    have d0 := N0.out _ B3.out
    by_cases q1 : sk = 1
    · have q1' : (sk == 1) = true := by rw [q1]; rfl
      clear q1
      go_wp2_with fail
      refine (o_crash HS U3.out).mono ?_
      rintro e w5 ⟨rfl, hu5, hk5⟩
      have U5 := Lib.hid (show Solo (OG b) (fun k => k < w.heap.size) w5 ⟨o.epoch, o.tail, false⟩ from hu5.less (fun k h => .inl h))
      have B5 := Lib.hid (B3.out.trans (hk5.toBelow B3.out.size (fun k h => .inl h)))
      clear hu5 hk5
      go_wp2_with fail
      go_roundw
      case rel => exact ⟨n + 1, ⟨o.epoch, o.tail, false⟩, by go_num, by go_num, by go_num, by go_num, by omega, by omega, U5, B5⟩
      case measure => simp [intOf]; omega
    have q1' : (sk == 1) = false := beq_eq_false_iff_ne.2 q1
    obtain ⟨x0', x1, x2, x3, x4, x5, x6, x7, x8⟩ := ask_cells (a := ⟨kd, un, ep, pg, sz, nn, s, pe, L, ao2, cap2⟩) X3.out
    simp only at x0' x1 x2 x3 x4 x5 x6 x7 x8
    clear q1
    go_wp2_with fail
    refine (o_ask HS U3.out A3.out).mono ?_
    rintro e w4 ⟨rfl, hu4, hk4⟩
    unfold anW
    have B4 := Lib.hid (B3.out.trans (hk4.toBelow B3.out.size (fun k h => .inl h)))
    have X4 := Lib.hid (hk4.heap (b := wr.heap.size) (Or.inr rfl) X3.out)
    obtain ⟨y0, y1, y2, y3, _⟩ := ask_cells (a := ⟨kd, un, ep, pg, sz, nn, s, pe, L, ao2, cap2⟩) X4.out
    simp only at y0 y1 y2 y3
    have ly := lt_of_block X4.out
    have U4 := Lib.hid (show Solo (OG b) (fun k => k < w.heap.size) w4 (o.done ⟨kd, un, ep, pg, sz, nn, s, pe, L, ao2, cap2⟩) from hu4.less (fun k h => .inl h))
    clear hu4 hk4 U3 B3 X3 A3 x0' x1 x2 x3 x4 x5 x6 x7 x8 d0 N0
    have B5 := Lib.hid (B4.out.alloc B4.out.size (.cells #[.int .i64 (o.ans ⟨kd, un, ep, pg, sz, nn, s, pe, L, ao2, cap2⟩).code, .int .i64 (o.ans ⟨kd, un, ep, pg, sz, nn, s, pe, L, ao2, cap2⟩).n, .string (o.ans ⟨kd, un, ep, pg, sz, nn, s, pe, L, ao2, cap2⟩).data, .int .i64 0, .slice none 0 0, .int .i64 0, .int .i64 0, .int .i64 (o.ans ⟨kd, un, ep, pg, sz, nn, s, pe, L, ao2, cap2⟩).epoch] 40))
    have U5 := Lib.hid (U4.out.below (TT.out b) ((Below.refl w4.heap.size w4).alloc (Nat.le_refl _) (.cells #[.int .i64 (o.ans ⟨kd, un, ep, pg, sz, nn, s, pe, L, ao2, cap2⟩).code, .int .i64 (o.ans ⟨kd, un, ep, pg, sz, nn, s, pe, L, ao2, cap2⟩).n, .string (o.ans ⟨kd, un, ep, pg, sz, nn, s, pe, L, ao2, cap2⟩).data, .int .i64 0, .slice none 0 0, .int .i64 0, .int .i64 0, .int .i64 (o.ans ⟨kd, un, ep, pg, sz, nn, s, pe, L, ao2, cap2⟩).epoch] 40)))
    clear U4 B4 X4
    by_cases q8 : kd = 8
    · have q8' : (kd == 8) = true := by rw [q8]; rfl
      have q6' : (kd == 6) = false := beq_eq_false_iff_ne.2 (by omega)
      have q7' : (kd == 7) = false := beq_eq_false_iff_ne.2 (by omega)
      rcases rise_eight (o := o) (a := ⟨kd, un, ep, pg, sz, nn, s, pe, L, ao2, cap2⟩) q8 with ⟨r1, r2, r3⟩ | ⟨r1, r3⟩
      · rw [r3] at U5
        simp only at r2 U5
        rw [r1]
        rw [r1] at U5 B5
        clear q8 r1 r3
        go_wp2_with fail
        go_quiet (fail)
        generalize hWq : World.drewN _ nq = Wq at *
        have U6 := Lib.hid (show Solo (OG b) (fun k => k < w.heap.size) Wq ⟨ep, pg, true⟩ from by rw [← hWq]; exact U5.out.below (TT.out b) (below_drewN (Below.refl _ _) nq))
        have B6 := Lib.hid (show Below w.heap.size w Wq from by rw [← hWq]; exact below_drewN B5.out nq)
        clear hWq U5 B5
        go_wp2_with fail
        go_roundw
        case rel => exact ⟨n + 1, ⟨ep, pg, true⟩, by go_num, by go_num, by go_num, by go_num, by omega, by omega, U6, B6⟩
        case measure => simp [intOf]; omega
      · rw [r3] at U5
        have r1' : ((o.ans ⟨kd, un, ep, pg, sz, nn, s, pe, L, ao2, cap2⟩).code == 0) = false := beq_eq_false_iff_ne.2 r1
        clear q8 r1 r3
        generalize o.ans ⟨kd, un, ep, pg, sz, nn, s, pe, L, ao2, cap2⟩ = an at *
        go_wp2_with fail
        go_roundw
        case rel => exact ⟨n + 1, o, by go_num, by go_num, by go_num, by go_num, by omega, by omega, U5, B5⟩
        case measure => simp [intOf]; omega
    · have q8' : (kd == 8) = false := beq_eq_false_iff_ne.2 q8
      by_cases q6 : kd = 6
      · have q6' : (kd == 6) = true := by rw [q6]; rfl
        have q7' : (kd == 7) = false := beq_eq_false_iff_ne.2 (by omega)
        rcases rise_six (o := o) (a := ⟨kd, un, ep, pg, sz, nn, s, pe, L, ao2, cap2⟩) q6 with ⟨r1, r2, r3, r4, r5⟩ | ⟨r1, r3⟩
        · rw [r5, r2] at U5
          have ke : (ep != o.epoch) = false := bne_eq_false_iff_eq.2 r3
          rw [r1, r4]
          rw [r1, r4] at U5 B5
          rw [r2] at *
          clear q8 q6 r1 r2 r3 r4 r5
          go_wp2_with fail
          go_roundw
          case rel => exact ⟨n + 1, ⟨o.epoch, o.tail + 1, true⟩, by go_num, by go_num, by go_num, by go_num, by omega, by omega, U5, B5⟩
          case measure => simp [intOf]; omega
        · rw [r3] at U5
          have r1' : ((o.ans ⟨kd, un, ep, pg, sz, nn, s, pe, L, ao2, cap2⟩).code == 0) = false := beq_eq_false_iff_ne.2 r1
          clear q8 q6 r1 r3
          generalize o.ans ⟨kd, un, ep, pg, sz, nn, s, pe, L, ao2, cap2⟩ = an at *
          go_wp2_with fail
          go_roundw
          case rel => exact ⟨n + 1, o, by go_num, by go_num, by go_num, by go_num, by omega, by omega, U5, B5⟩
          case measure => simp [intOf]; omega
      · have q6' : (kd == 6) = false := beq_eq_false_iff_ne.2 q6
        by_cases q7 : kd = 7
        · have q7' : (kd == 7) = true := by rw [q7]; rfl
          obtain ⟨r0, r⟩ := rise_seven (o := o) (a := ⟨kd, un, ep, pg, sz, nn, s, pe, L, ao2, cap2⟩) q7
          rw [r0] at U5
          rcases r with ⟨r1, r2, r3, r4⟩ | r1
          · have ke : (ep != o.epoch) = false := bne_eq_false_iff_eq.2 r3
            rw [r1, r4]
            rw [r1, r4] at U5 B5
            clear q8 q6 q7 r1 r3 r4 r0
            go_wp2_with fail
            go_roundw
            case rel => exact ⟨n + 1, o, by go_num, by go_num, by go_num, by go_num, by omega, by omega, U5, B5⟩
            case measure => simp [intOf]; omega
          · have r1' : ((o.ans ⟨kd, un, ep, pg, sz, nn, s, pe, L, ao2, cap2⟩).code == 0) = false := beq_eq_false_iff_ne.2 r1
            clear q8 q6 q7 r1 r0
            generalize o.ans ⟨kd, un, ep, pg, sz, nn, s, pe, L, ao2, cap2⟩ = an at *
            go_wp2_with fail
            go_roundw
            case rel => exact ⟨n + 1, o, by go_num, by go_num, by go_num, by go_num, by omega, by omega, U5, B5⟩
            case measure => simp [intOf]; omega
        · have q7' : (kd == 7) = false := beq_eq_false_iff_ne.2 q7
          rw [rise_other (o := o) (a := ⟨kd, un, ep, pg, sz, nn, s, pe, L, ao2, cap2⟩) ⟨q8, q6⟩] at U5
          clear q8 q6 q7
          generalize o.ans ⟨kd, un, ep, pg, sz, nn, s, pe, L, ao2, cap2⟩ = an at *
          go_wp2_with fail
          go_roundw
          case rel => exact ⟨n + 1, o, by go_num, by go_num, by go_num, by go_num, by omega, by omega, U5, B5⟩
          case measure => simp [intOf]; omega

set_option maxRecDepth 100000 in
theorem orderRises_lifted (os : Os) (started : os.Started) (H : Type) (enc : TypeId × Value → H) :
    ReturnsInHanded {} Try.checked os 4 .any (Rows.orderRisesSpec.pre6 enc Try.prog Try.f4 Rows.orderRisesRow.domain false) (Rows.orderRisesSpec.post enc Try.prog Try.f4 false true false false) := by
  refine returnsInHanded_of_change (C := Try.checked) own started (by kernel_rfl) Try.func4
    (ChangeSpec.witness6 (enc := enc) (C := Try.checked) false ⟨#[], #[.slice none 0 0, .int .u16 0], []⟩ 8 (by kernel_rfl) (by kernel_rfl) (by kernel_rfl) (by kernel_rfl)) ?_
  intro W base args ds gs before hval0 hW hcnd _
  have hval : ∀ (j : Nat) t v, Try.f4.params[j]? = some t → args[j]? = some v → Value.okWide Try.prog W .any base t v := hval0
  have hW' := hW
  obtain ⟨p, q, hA0, hV, rfl, hfz, hnd⟩ := hW
  have hA : DataW.TrodAll enc Try.prog W 0 (fun _ => true) true Try.f4.params.toList args.toList ds p := hA0
  rw [Try.params4] at hA hval
  obtain ⟨v0, vs0, d0, ds0, p0, q0, hargs, rfl, rfl, h0, r0⟩ := trodAll_cons hA
  obtain ⟨v1, vs1, d1, ds1, p1, q1, rfl, rfl, rfl, h1, r1⟩ := trodAll_cons r0
  obtain ⟨rfl, rfl, rfl⟩ := trodAll_nil r1
  obtain rfl : args = #[v0, v1] := by cases args; simp_all
  obtain ⟨rfl, rfl⟩ := trodVars_none hV
  have k0 := h0
  have lt0 : ∀ x ∈ p0, x.block < W.heap.size := by obtain ⟨m, hm⟩ := k0; exact DataW.trod_lt m _ _ _ hm
  have k1 := h1
  have lt1 : ∀ x ∈ p1, x.block < W.heap.size := by obtain ⟨m, hm⟩ := k1; exact DataW.trod_lt m _ _ _ hm
  obtain ⟨ao0, cap0, L0, rfl, w0, hR0, hK0, hn0, hc0⟩ := open_rows (f := stepC) (ok := SkIn) (n := 9) Try.underlying22 (by kernel_rfl) (fun m cs y hl hf => step_cs askT Try.underlying34 rfl rfl hl hf) (hval 0 22 v0 rfl rfl) h0
  obtain ⟨a1, rfl, rfl, rfl, w1⟩ := open_int Try.underlying44 (hval 1 44 v1 rfl rfl) h1
  clear hA0 hval0
  refine (orderRises_walk orderSays ao0 cap0 L0 a1 w0 w1 W hR0 hK0).mono fun e W' ⟨he, bel⟩ => ?_
  subst he
  exact ⟨_, rfl, _, _, _, [], _, [], hW', trodAll_mk1 (shut_bool Try.underlying4 _), (trodAll_cons_mk (Below.trod laidOut (by kernel_rfl) (of_decide_eq_true (by kernel_rfl)) k0 bel lt0) (trodAll_cons_mk (Below.trod laidOut (by kernel_rfl) (of_decide_eq_true (by kernel_rfl)) k1 bel lt1) trodAll_mk0)), rfl, bel.frame _, fun h => by cases h⟩

theorem orderRises_over : Rows.orderRisesRow.holds Try.pinned (OpenSpec.ofChange Rows.orderRisesSpec) :=
  OpenClaim.holds_of_wide 4 Try.f4 rfl rfl rfl rfl rfl rfl rfl ⟨rfl, rfl, rfl, rfl, rfl⟩ rfl rfl rfl rfl rfl (by kernel_rfl) Try.func4 (by kernel_rfl)
    (of_decide_eq_true (by kernel_rfl)) (by unfold Func.isWrapper; first | (rw [if_pos (by decide +kernel)]; kernel_rfl) | (rw [if_neg (by decide +kernel)]; exact ⟨rfl, rfl⟩))
    (fun os started H enc _ => orderRises_lifted os started H enc)

/-- THE STATEMENT -/
theorem orderRises_holds : Rows.OrderRisesSaid := orderRises_over 
end Go.Proofs.Ytjckjffmjmcknaa
