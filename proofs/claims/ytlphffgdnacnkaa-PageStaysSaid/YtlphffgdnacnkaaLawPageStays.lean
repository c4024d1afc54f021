/- The law PageStays: what is written stays as it is, whatever comes, till it is trimmed, for every page, text and list of calls. Conditions: the program's functions return what PageSays says. -/
import Derived.Test.YtlphffgdnacnkaaPgpF
import Derived.Test.YtlphffgdnacnkaaPagV
import Derived.Test.YtlphffgdnacnkaaKeep
namespace Go.Proofs.Ytlphffgdnacnkaa
open Go.ChangeShapes Go.WideShapes Go.ChangeAt Go.RowKit
open Go.ChangeMaps (open_string shut_string)
set_option linter.unusedVariables false
set_option maxRecDepth 20000

set_option maxHeartbeats 8000000 in
theorem pageStays_walk {PG : (Nat → Prop) → World → Nat → Ps → Prop} (HS : PageSays PG) (x : Int) (s : ByteArray) (ao : Option Addr) (cap : Nat) (l : List Fld) (wx : (Lit.int .i64 x).wf = true) (ws : s.size ≤ maxLen) (hl : l.length ≤ maxLen) (w : World) (h : FL w ao l) :
    Calls Try.prog 4 #[.int .i64 x, .string s, .slice ao l.length cap] w fun e w' => e = .returned (.bool true) ∧ Below w.heap.size w w' := by
  have CK := Lib.hid (fun w => mod_any x 40 (by decide) (by decide) w)
  have CN := Lib.hid (solo_new HS w (room := 100) (by decide))
  have CW := Lib.hid (fun w => wakes9_any HS w)
  have hk0 := Int.emod_nonneg x (show (40 : Int) ≠ 0 by decide)
  have hk1 := Int.emod_lt_of_pos x (show (0 : Int) < 40 by decide)
  have hl2 : l.length ≤ 9223372036854775807 := hl
  have ws2 : (s.size : Int) ≤ 9223372036854775807 := by unfold maxLen at ws; omega
  unfold ptrP at CN
  go_enter Try.func4, Try.ntmps4
  generalize hkk : x % 40 = k at *
  go_wp2_with (first
    | (go_at_call 7; refine CN.out.mono ?_; rintro e w1 ⟨b, rfl, hu1, hb1⟩; have U1 := Lib.hid hu1; have B1 := Lib.hid hb1; clear hu1 hb1)
    | (go_at_call 27; refine (CK.out _).mono ?_; rintro e w2 ⟨rfl, rfl⟩))
  refine (fair_any ao cap l _ hl (h.below B1.out)).mono ?_
  rintro e w2 ⟨⟨c, rfl, hc⟩, rfl⟩
  cases c
  · clear hc
    go_wp2_with (go_at_call 10; refine (CW.out _).mono ?_; rintro e w2 ⟨rfl, hb2⟩)
    go_ret
    exact ⟨rfl, B1.out.trans (hb2.mono B1.out.size)⟩
  have HFa := Lib.hid (hc rfl)
  clear hc
  by_cases hs : 4096 < s.size
  · have hs' : (4096 : Int) < (s.size : Int) := by omega
    clear hs
    go_wp2_with (go_at_call 10; refine (CW.out _).mono ?_; rintro e w2 ⟨rfl, hb2⟩)
    go_ret
    exact ⟨rfl, B1.out.trans (hb2.mono B1.out.size)⟩
  have hs' : (s.size : Int) ≤ 4096 := by omega
  have hs2 : s.size ≤ 4096 := by omega
  have ST := Lib.hid (stay_start ⟨hk0, hk1⟩ hs2)
  have HZ := Lib.hid (show wide k from by unfold wide; omega)
  have HF := Lib.hid h
  clear hs h ws hs2
  go_wp2_with (go_at_call 11; refine (solo_write HS U1.out HZ.out (by omega)).mono ?_; rw [ST.out.1]; rintro e w2 ⟨rfl, hu2, hk2⟩; have U2 := Lib.hid hu2; have K2 := Lib.hid hk2; clear hu2 hk2)
  generalize hp0 : (newP 100).write k s = p0 at *
  have B2 := Lib.hid (show Below w.heap.size w w2 from B1.out.trans (K2.out.toBelow B1.out.size (fun _ h => h)))
  clear K2
  go_loopw [10, 11] (fun g i wr => ∃ (n : Nat) (c : Bool) (p : Ps), g = .bool c ∧ i = .int .i64 n ∧ n ≤ l.length ∧ Solo PG (fun k => k < w.heap.size) wr b p ∧ Stay p k s c ∧ Below w.heap.size w wr) (fun _ i _ => l.length - (intOf i).toNat)
  case atStart => exact ⟨0, false, p0, rfl, rfl, Nat.zero_le _, U2.out, ST.out.2, B2.out⟩
  case round =>
    obtain ⟨n, c, p, rfl, rfl, hn, hso, hst, hb⟩ := hrel
    by_cases hlt : n < l.length
    case neg =>
      obtain rfl : n = l.length := by omega
      go_wp2_with (go_at_call 10; refine (CW.out _).mono ?_; rintro e w5 ⟨rfl, hb5⟩)
      go_ret
      exact ⟨rfl, hb.trans (hb5.mono hb.size)⟩
    case pos =>
    have n0 : (n : Int) < (l.length : Int) := by omega
    obtain ⟨⟨bk, off, rfl, d0, d1, d2⟩, o0, o1, o2⟩ := (HF.out.below hb) n hlt
    have HV := Lib.hid (wide_wf o1)
    have HS6 := Lib.hid (show l[n].s.size ≤ 1000000 from Nat.le_trans (HFa.out.2 _ (List.getElem_mem hlt)) (by decide))
    clear o0 o1 o2
    generalize l[n] = f at *
    obtain ⟨u, v, t⟩ := f
    simp only at d0 d1 d2 HV HS6
    have SO := Lib.hid hso
    have SY := Lib.hid hst
    have HB := Lib.hid hb
    clear hso hst hb
    obtain ⟨W1, hW1⟩ : ∃ W1, W1 = wr.alloc (.cells #[.int .i64 u, .int .i64 v, .string t] 33) := ⟨_, rfl⟩
    have HX := Lib.hid (show W1.heap[wr.heap.size]? = some (.cells #[.int .i64 u, .int .i64 v, .string t] 33 (0, 0)) from by rw [hW1]; exact heap_alloc_new _ _)
    have S1 := Lib.hid (show Solo PG (fun k => k < w.heap.size ∨ k = wr.heap.size) W1 b p from by rw [hW1]; exact SO.out.beside HS _)
    have HB1 := Lib.hid (show Below w.heap.size w W1 from by rw [hW1]; exact HB.out.alloc HB.out.size _)
    by_cases q0 : u = 0
    · subst q0
      cases c
      · have RD := Lib.hid ((SY.out.write v t).read.2 rfl)
        have CC := Lib.hid (solo_write HS S1.out HV.out HS6.out)
        rw [hW1] at CC
        go_wp2_with (first
          | (go_at_call 11; refine CC.out.mono ?_; rw [← hW1]; rintro e w3 ⟨rfl, h3, k3⟩; have S3 := Lib.hid h3; have K3 := Lib.hid k3; clear h3 k3)
          | (go_at_call 17; refine (solo_read HS S3.out HZ.out).mono ?_; rintro e w4 ⟨rfl, h4, k4⟩; rw [RD.out.1, RD.out.2]; have S4 := Lib.hid h4; have K4 := Lib.hid k4; clear h4 k4))
        go_roundw
        case rel => exact ⟨n + 1, false, p.write v t, rfl, by go_num, by omega, S4.out.less (fun _ h => .inl h), SY.out.write v t, HB1.out.trans ((K3.out.trans K4.out).toBelow HB1.out.size (fun _ h => .inl h))⟩
        case measure => simp [intOf]; omega
      · have RD := Lib.hid ((SY.out.write v t).read.1 rfl)
        have CC := Lib.hid (solo_write HS S1.out HV.out HS6.out)
        rw [hW1] at CC
        go_wp2_with (first
          | (go_at_call 11; refine CC.out.mono ?_; rw [← hW1]; rintro e w3 ⟨rfl, h3, k3⟩; have S3 := Lib.hid h3; have K3 := Lib.hid k3; clear h3 k3)
          | (go_at_call 17; refine (solo_read HS S3.out HZ.out).mono ?_; rintro e w4 ⟨rfl, h4, k4⟩; rw [RD.out]; have S4 := Lib.hid h4; have K4 := Lib.hid k4; clear h4 k4))
        go_roundw
        case rel => exact ⟨n + 1, true, p.write v t, rfl, by go_num, by omega, S4.out.less (fun _ h => .inl h), SY.out.write v t, HB1.out.trans ((K3.out.trans K4.out).toBelow HB1.out.size (fun _ h => .inl h))⟩
        case measure => simp [intOf]; omega
    have e0 : (u == 0) = false := by simpa using q0
    by_cases q1 : u = 1
    · subst q1
      cases c
      · have RD := Lib.hid ((SY.out.fill v).read.2 rfl)
        have CC := Lib.hid (solo_fill HS S1.out HV.out)
        rw [hW1] at CC
        go_wp2_with (first
          | (go_at_call 13; refine CC.out.mono ?_; rw [← hW1]; rintro e w3 ⟨rfl, h3, k3⟩; have S3 := Lib.hid h3; have K3 := Lib.hid k3; clear h3 k3)
          | (go_at_call 17; refine (solo_read HS S3.out HZ.out).mono ?_; rintro e w4 ⟨rfl, h4, k4⟩; rw [RD.out.1, RD.out.2]; have S4 := Lib.hid h4; have K4 := Lib.hid k4; clear h4 k4))
        go_roundw
        case rel => exact ⟨n + 1, false, p.fill v, rfl, by go_num, by omega, S4.out.less (fun _ h => .inl h), SY.out.fill v, HB1.out.trans ((K3.out.trans K4.out).toBelow HB1.out.size (fun _ h => .inl h))⟩
        case measure => simp [intOf]; omega
      · have RD := Lib.hid ((SY.out.fill v).read.1 rfl)
        have CC := Lib.hid (solo_fill HS S1.out HV.out)
        rw [hW1] at CC
        go_wp2_with (first
          | (go_at_call 13; refine CC.out.mono ?_; rw [← hW1]; rintro e w3 ⟨rfl, h3, k3⟩; have S3 := Lib.hid h3; have K3 := Lib.hid k3; clear h3 k3)
          | (go_at_call 17; refine (solo_read HS S3.out HZ.out).mono ?_; rintro e w4 ⟨rfl, h4, k4⟩; rw [RD.out]; have S4 := Lib.hid h4; have K4 := Lib.hid k4; clear h4 k4))
        go_roundw
        case rel => exact ⟨n + 1, true, p.fill v, rfl, by go_num, by omega, S4.out.less (fun _ h => .inl h), SY.out.fill v, HB1.out.trans ((K3.out.trans K4.out).toBelow HB1.out.size (fun _ h => .inl h))⟩
        case measure => simp [intOf]; omega
    have e1 : (u == 1) = false := by simpa using q1
    by_cases q2 : u = 2
    · subst q2
      by_cases qe : Ps.trimE v = 0
      · cases c
        · by_cases qv : k < v
          · have SW := Lib.hid (show Stay (p.trim v) k s true from by have := SY.out.trim v qe; rwa [show decide (k < v) = true from decide_eq_true qv] at this)
            have RD := Lib.hid ((SW.out).read.1 rfl)
            have CC := Lib.hid (solo_trim HS S1.out HV.out)
            rw [hW1] at CC
            go_wp2_with (first
              | (go_at_call 15; refine CC.out.mono ?_; rw [← hW1]; rintro e w3 ⟨rfl, h3, k3⟩; rw [qe]; obtain ⟨b0, b1, b2, _⟩ := three_cells (k3.heap (Or.inr rfl) HX.out); have S3 := Lib.hid h3; have K3 := Lib.hid k3; clear h3 k3)
              | (go_at_call 17; refine (solo_read HS S3.out HZ.out).mono ?_; rintro e w4 ⟨rfl, h4, k4⟩; rw [RD.out]; have S4 := Lib.hid h4; have K4 := Lib.hid k4; clear h4 k4))
            go_roundw
            case rel => exact ⟨n + 1, true, p.trim v, rfl, by go_num, by omega, S4.out.less (fun _ h => .inl h), SW.out, HB1.out.trans ((K3.out.trans K4.out).toBelow HB1.out.size (fun _ h => .inl h))⟩
            case measure => simp [intOf]; omega
          · have SW := Lib.hid (show Stay (p.trim v) k s false from by have := SY.out.trim v qe; rwa [show decide (k < v) = false from decide_eq_false qv] at this)
            have qv2 : v ≤ k := by omega
            have RD := Lib.hid ((SW.out).read.2 rfl)
            have CC := Lib.hid (solo_trim HS S1.out HV.out)
            rw [hW1] at CC
            go_wp2_with (first
              | (go_at_call 15; refine CC.out.mono ?_; rw [← hW1]; rintro e w3 ⟨rfl, h3, k3⟩; rw [qe]; obtain ⟨b0, b1, b2, _⟩ := three_cells (k3.heap (Or.inr rfl) HX.out); have S3 := Lib.hid h3; have K3 := Lib.hid k3; clear h3 k3)
              | (go_at_call 17; refine (solo_read HS S3.out HZ.out).mono ?_; rintro e w4 ⟨rfl, h4, k4⟩; rw [RD.out.1, RD.out.2]; have S4 := Lib.hid h4; have K4 := Lib.hid k4; clear h4 k4))
            go_roundw
            case rel => exact ⟨n + 1, false, p.trim v, rfl, by go_num, by omega, S4.out.less (fun _ h => .inl h), SW.out, HB1.out.trans ((K3.out.trans K4.out).toBelow HB1.out.size (fun _ h => .inl h))⟩
            case measure => simp [intOf]; omega
        · have SW := Lib.hid (show Stay (p.trim v) k s true from SY.out.trim v qe)
          have RD := Lib.hid ((SW.out).read.1 rfl)
          have CC := Lib.hid (solo_trim HS S1.out HV.out)
          rw [hW1] at CC
          go_wp2_with (first
            | (go_at_call 15; refine CC.out.mono ?_; rw [← hW1]; rintro e w3 ⟨rfl, h3, k3⟩; rw [qe]; have S3 := Lib.hid h3; have K3 := Lib.hid k3; clear h3 k3)
            | (go_at_call 17; refine (solo_read HS S3.out HZ.out).mono ?_; rintro e w4 ⟨rfl, h4, k4⟩; rw [RD.out]; have S4 := Lib.hid h4; have K4 := Lib.hid k4; clear h4 k4))
          go_roundw
          case rel => exact ⟨n + 1, true, p.trim v, rfl, by go_num, by omega, S4.out.less (fun _ h => .inl h), SW.out, HB1.out.trans ((K3.out.trans K4.out).toBelow HB1.out.size (fun _ h => .inl h))⟩
          case measure => simp [intOf]; omega
      · have qe1 : Ps.trimE v = 1 := by unfold Ps.trimE at qe ⊢; split at qe <;> simp_all
        cases c
        · have RD := Lib.hid ((SY.out.trim_no v qe).read.2 rfl)
          have CC := Lib.hid (solo_trim HS S1.out HV.out)
          rw [hW1] at CC
          go_wp2_with (first
            | (go_at_call 15; refine CC.out.mono ?_; rw [← hW1]; rintro e w3 ⟨rfl, h3, k3⟩; rw [qe1]; have S3 := Lib.hid h3; have K3 := Lib.hid k3; clear h3 k3)
            | (go_at_call 17; refine (solo_read HS S3.out HZ.out).mono ?_; rintro e w4 ⟨rfl, h4, k4⟩; rw [RD.out.1, RD.out.2]; have S4 := Lib.hid h4; have K4 := Lib.hid k4; clear h4 k4))
          go_roundw
          case rel => exact ⟨n + 1, false, p.trim v, rfl, by go_num, by omega, S4.out.less (fun _ h => .inl h), SY.out.trim_no v qe, HB1.out.trans ((K3.out.trans K4.out).toBelow HB1.out.size (fun _ h => .inl h))⟩
          case measure => simp [intOf]; omega
        · have RD := Lib.hid ((SY.out.trim_no v qe).read.1 rfl)
          have CC := Lib.hid (solo_trim HS S1.out HV.out)
          rw [hW1] at CC
          go_wp2_with (first
            | (go_at_call 15; refine CC.out.mono ?_; rw [← hW1]; rintro e w3 ⟨rfl, h3, k3⟩; rw [qe1]; have S3 := Lib.hid h3; have K3 := Lib.hid k3; clear h3 k3)
            | (go_at_call 17; refine (solo_read HS S3.out HZ.out).mono ?_; rintro e w4 ⟨rfl, h4, k4⟩; rw [RD.out]; have S4 := Lib.hid h4; have K4 := Lib.hid k4; clear h4 k4))
          go_roundw
          case rel => exact ⟨n + 1, true, p.trim v, rfl, by go_num, by omega, S4.out.less (fun _ h => .inl h), SY.out.trim_no v qe, HB1.out.trans ((K3.out.trans K4.out).toBelow HB1.out.size (fun _ h => .inl h))⟩
          case measure => simp [intOf]; omega
    have e2 : (u == 2) = false := by simpa using q2
    cases c
    · have RD := Lib.hid ((SY.out).read.2 rfl)
      have CC := Lib.hid (solo_read HS S1.out HZ.out)
      rw [hW1] at CC
      go_wp2_with (go_at_call 17; refine CC.out.mono ?_; rw [← hW1]; rintro e w4 ⟨rfl, h4, k4⟩; rw [RD.out.1, RD.out.2]; have S4 := Lib.hid h4; have K4 := Lib.hid k4; clear h4 k4)
      go_roundw
      case rel => exact ⟨n + 1, false, p, rfl, by go_num, by omega, S4.out.less (fun _ h => .inl h), SY.out, HB1.out.trans (K4.out.toBelow HB1.out.size (fun _ h => .inl h))⟩
      case measure => simp [intOf]; omega
    · have RD := Lib.hid ((SY.out).read.1 rfl)
      have CC := Lib.hid (solo_read HS S1.out HZ.out)
      rw [hW1] at CC
      go_wp2_with (go_at_call 17; refine CC.out.mono ?_; rw [← hW1]; rintro e w4 ⟨rfl, h4, k4⟩; rw [RD.out]; have S4 := Lib.hid h4; have K4 := Lib.hid k4; clear h4 k4)
      go_roundw
      case rel => exact ⟨n + 1, true, p, rfl, by go_num, by omega, S4.out.less (fun _ h => .inl h), SY.out, HB1.out.trans (K4.out.toBelow HB1.out.size (fun _ h => .inl h))⟩
      case measure => simp [intOf]; omega

set_option maxRecDepth 100000 in
theorem pageStays_lifted (os : Os) (started : os.Started) (H : Type) (enc : TypeId × Value → H) :
    ReturnsInHanded {} Try.checked os 4 .any (Rows.pageStaysSpec.pre6 enc Try.prog Try.f4 Rows.pageStaysRow.domain false) (Rows.pageStaysSpec.post enc Try.prog Try.f4 false true false false) := by
  refine returnsInHanded_of_change (C := Try.checked) own started (by kernel_rfl) Try.func4
    (ChangeSpec.witness6 (enc := enc) (C := Try.checked) false ⟨#[], #[.int .i64 0, .string ByteArray.empty, .slice none 0 0], []⟩ 8 (by kernel_rfl) (by kernel_rfl) (by kernel_rfl) (by kernel_rfl)) ?_
  intro W base args ds gs before hval0 hW hcnd _
  have hval : ∀ (j : Nat) t v, Try.f4.params[j]? = some t → args[j]? = some v → Value.okWide Try.prog W .any base t v := hval0
  have hW' := hW
  obtain ⟨p, q, hA0, hV, rfl, hfz, hnd⟩ := hW
  have hA : DataW.TrodAll enc Try.prog W 0 (fun _ => true) true Try.f4.params.toList args.toList ds p := hA0
  rw [Try.params4] at hA hval
  obtain ⟨v0, vs0, d0, ds0, p0, q0, hargs, rfl, rfl, h0, r0⟩ := trodAll_cons hA
  obtain ⟨v1, vs1, d1, ds1, p1, q1, rfl, rfl, rfl, h1, r1⟩ := trodAll_cons r0
  obtain ⟨v2, vs2, d2, ds2, p2, q2, rfl, rfl, rfl, h2, r2⟩ := trodAll_cons r1
  obtain ⟨rfl, rfl, rfl⟩ := trodAll_nil r2
  obtain rfl : args = #[v0, v1, v2] := by cases args; simp_all
  obtain ⟨rfl, rfl⟩ := trodVars_none hV
  have k0 := h0
  have lt0 : ∀ x ∈ p0, x.block < W.heap.size := by obtain ⟨m, hm⟩ := k0; exact DataW.trod_lt m _ _ _ hm
  have k1 := h1
  have lt1 : ∀ x ∈ p1, x.block < W.heap.size := by obtain ⟨m, hm⟩ := k1; exact DataW.trod_lt m _ _ _ hm
  have k2 := h2
  have lt2 : ∀ x ∈ p2, x.block < W.heap.size := by obtain ⟨m, hm⟩ := k2; exact DataW.trod_lt m _ _ _ hm
  obtain ⟨a0, rfl, rfl, rfl, w0⟩ := open_int Try.underlying3 (hval 0 3 v0 rfl rfl) h0
  obtain ⟨a1, rfl, rfl, rfl, w1⟩ := open_string Try.underlying9 (hval 1 9 v1 rfl rfl) h1
  obtain ⟨ao2, cap2, L2, rfl, w2, hF2⟩ := open_flds Try.underlying22 Try.underlying33 (by kernel_rfl) rfl rfl rfl (by kernel_rfl) (by kernel_rfl) (by kernel_rfl) Try.underlying3 Try.underlying3 Try.underlying9 (hval 2 22 v2 rfl rfl) h2
  clear hA0 hval0
  refine (pageStays_walk pageSays a0 a1 ao2 cap2 L2 w0 w1 w2 W hF2).mono fun e W' ⟨he, bel⟩ => ?_
  subst he
  exact ⟨_, rfl, _, _, _, [], _, [], hW', trodAll_mk1 (shut_bool Try.underlying4 _), (trodAll_cons_mk (Below.trod laidOut (by kernel_rfl) (of_decide_eq_true (by kernel_rfl)) k0 bel lt0) (trodAll_cons_mk (Below.trod laidOut (by kernel_rfl) (of_decide_eq_true (by kernel_rfl)) k1 bel lt1) (trodAll_cons_mk (Below.trod laidOut (by kernel_rfl) (of_decide_eq_true (by kernel_rfl)) k2 bel lt2) trodAll_mk0))), rfl, bel.frame _, fun h => by cases h⟩

theorem pageStays_over : Rows.pageStaysRow.holds Try.pinned (OpenSpec.ofChange Rows.pageStaysSpec) :=
  OpenClaim.holds_of_wide 4 Try.f4 rfl rfl rfl rfl rfl rfl rfl ⟨rfl, rfl, rfl, rfl, rfl⟩ rfl rfl rfl rfl rfl (by kernel_rfl) Try.func4 (by kernel_rfl)
    (of_decide_eq_true (by kernel_rfl)) (by unfold Func.isWrapper; first | (rw [if_pos (by decide +kernel)]; kernel_rfl) | (rw [if_neg (by decide +kernel)]; exact ⟨rfl, rfl⟩))
    (fun os started H enc _ => pageStays_lifted os started H enc)

/-- THE STATEMENT -/
theorem pageStays_holds : Rows.PageStaysSaid := pageStays_over 
end Go.Proofs.Ytlphffgdnacnkaa
