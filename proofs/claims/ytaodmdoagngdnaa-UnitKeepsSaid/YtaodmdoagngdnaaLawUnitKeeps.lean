/- The law UnitKeeps: what was written outlives crashes; while it is down it answers nothing. No conditions. -/
import Derived.Test.YtaodmdoagngdnaaUnpH
import Derived.Test.YtaodmdoagngdnaaUniK
namespace Go.Proofs.Ytaodmdoagngdnaa
open Go.ChangeShapes Go.WideShapes Go.ChangeAt Go.RowKit
open Go.ChangeMaps (open_string shut_string)
set_option linter.unusedVariables false
set_option maxRecDepth 20000

set_option maxHeartbeats 8000000 in
theorem unitKeeps_walk {UG : Nat → Nat → (Nat → Prop) → World → Us → Prop} (HS : UnitSays UG) (ao : Option Addr) (cap : Nat) (l : List Int) (s : ByteArray) (hl : l.length ≤ maxLen) (ws : s.size ≤ maxLen) (w : World) (hR : Row w ao 1 byteC l) (hK : ∀ x ∈ l, byteOk w x) :
    Calls Try.prog 5 #[.slice ao l.length cap, .string s] w fun e w' => e = .returned (.bool true) ∧ Below w.heap.size w w' := by
  have CW := Lib.hid (fun w => wakes10_any HS w)
  have CN := Lib.hid (u_new HS w (room := 300) (by decide))
  have TT := Lib.hid (fun b pb => HS.thing b pb)
  unfold ptrV at CN
  unfold maxLen at hl ws
  have hl' : (l.length : Int) ≤ 9223372036854775807 := by omega
  have ws' : (s.size : Int) ≤ 9223372036854775807 := by omega
  have HF := Lib.hid hR
  have HK := Lib.hid hK
  clear hR hK
  by_cases hs : 2000 < s.size
  · have hs' : (2000 : Int) < (s.size : Int) := by omega
    go_enter Try.func5, Try.ntmps5
    go_wp2_with (first
      | (go_at_call 7; refine CN.out.mono ?_; rintro e w1 ⟨b, pb, rfl, hu1, hb1⟩; have B1 := Lib.hid hb1; clear hu1 hb1)
      | (go_at_call 10; refine (CW.out _).mono ?_; rintro e w2 ⟨rfl, hb2⟩; have B2 := Lib.hid (B1.out.trans (hb2.mono B1.out.size)); clear hb2))
    go_ret
    exact ⟨rfl, B2.out⟩
  have hs' : (s.size : Int) ≤ 2000 := by omega
  have HSZ := Lib.hid (show s.size ≤ 2000 from by omega)
  have HW0 := Lib.hid (Wrote.start s)
  clear hs ws
  go_enter Try.func5, Try.ntmps5
  go_wp2_with (go_at_call 7; refine CN.out.mono ?_; rintro e w1 ⟨b, pb, rfl, hu1, hb1⟩; have U1 := Lib.hid hu1; have B1 := Lib.hid hb1; clear hu1 hb1)
  go_loopw [7] (fun i wr => ∃ (n : Nat) (u : Us), i = .int .i64 n ∧ n ≤ l.length ∧ n ≤ 100 ∧ Hid (Wrote u s (l.take n) n) ∧ Hid (u.down = false) ∧ Hid (Solo (UG b pb) (fun k => k < w.heap.size) wr u) ∧ Hid (Below w.heap.size w wr)) (fun i _ => l.length - (intOf i).toNat)
  case atStart => exact ⟨0, newU 300, rfl, Nat.zero_le _, by omega, HW0, Lib.hid rfl, U1, B1⟩
  case round =>
    clear U1 B1
    obtain ⟨n, u, rfl, hn, hn1, HW, HD, HU, HB⟩ := hrel
    by_cases hlt : n < l.length
    · have n0 : (n : Int) < (l.length : Int) := by omega
      by_cases h100 : n < 100
      · have n1 : (n : Int) < 100 := by omega
        obtain ⟨bk, off, hao, c0w⟩ := byte_at HF.out hlt
        subst hao
        have hok := HK.out _ (List.getElem_mem hlt)
        have c0 : wr.cell? ⟨bk, off + n, none⟩ = some (.int .u8 l[n]) := cellB HB.out (block_lt_of_cell c0w) c0w
        obtain ⟨v0, v1⟩ := hok
        have HV := Lib.hid (show i64w l[n] from i64w_small (by omega))
        have Z0 := Lib.hid (show i64w 0 from i64w_small (by omega))
        have Z1 := Lib.hid (show i64w 1 from i64w_small (by omega))
        have Z3 := Lib.hid (show i64w 3 from i64w_small (by omega))
        obtain ⟨hw1, hd1⟩ := HW.out.write HD.out (v := l[n]) ⟨v0, v1⟩ HSZ.out (by omega)
        have HW1 := Lib.hid (show Wrote (u.done (akP 1 0 l[n] s)) s (l.take (n + 1)) (n + 1) from by rw [List.take_succ_eq_append_getElem hlt]; exact hw1)
        have HD1 := Lib.hid hd1
        have HV2 := Lib.hid (show ∀ k, k < n + 1 → ∃ hk : k < l.length, l[k] ∈ l.take (n + 1) from fun k hk => ⟨by omega, List.mem_take_iff_getElem.2 ⟨k, by omega, rfl⟩⟩)
        clear hw1 hd1 HW HD
        generalize hv : l[n] = v at *
        generalize hu1 : u.done (akP 1 0 v s) = u1 at *
        go_wp2_with fail
        refine (u_askP HS HU.out (k := 1) (e := 0) (p := v) (s := s) Z1.out Z0.out HV.out (Nat.le_trans HSZ.out (by decide))).mono ?_
        rintro e w2 ⟨rfl, hu2, hk2⟩
        rw [hu1] at hu2
        have U2 := Lib.hid hu2
        have B2 := Lib.hid (HB.out.trans (hk2.toBelow HB.out.size (fun k h => h)))
        clear hu2 hk2 c0
        go_wp2_with fail
        refine (u_crash HS U2.out).mono ?_
        rintro e w3 ⟨rfl, hu3, hk3⟩
        have U3 := Lib.hid hu3
        have B3 := Lib.hid (B2.out.trans (hk3.toBelow B2.out.size (fun k h => h)))
        have c1 : w3.cell? ⟨bk, off + n, none⟩ = some (.int .u8 v) := cellB B3.out (block_lt_of_cell c0w) c0w
        obtain ⟨e1, e2, e3⟩ := Wrote.crashed (u := ⟨u1.p, u1.epoch, true⟩) (v := v) rfl
        clear hu3 hk3
        go_wp2_with fail
        refine (u_askP HS U3.out (k := 3) (e := 0) (p := v) (s := ⟨#[]⟩) Z3.out Z0.out HV.out (by decide)).mono ?_
        rintro e w4 ⟨rfl, hu4, hk4⟩
        rw [e1, e2]
        rw [e3] at hu4
        have U4 := Lib.hid hu4
        have B4 := Lib.hid (B3.out.trans (hk4.toBelow B3.out.size (fun k h => h)))
        clear hu4 hk4 c1 e1 e2 e3
        go_wp2_with fail
        refine (u_start HS (U4.out.below (TT.out b pb) ((Below.refl _ _).alloc (Nat.le_refl _) _))).mono ?_
        rintro e w5 ⟨rfl, hu5, hk5⟩
        have U5 := Lib.hid (show Solo (UG b pb) (fun k => k < w.heap.size) w5 ⟨u1.p, u1.epoch, false⟩ from hu5)
        have B5 := Lib.hid ((B4.out.alloc B4.out.size _).trans (hk5.toBelow (by have := B4.out.size; simp; omega) (fun k h => h)))
        have HW2 := Lib.hid (HW1.out.turn false)
        clear hu5 hk5 HU HW1 HD1 U2 B2 U3 B3 U4 B4 HB HV c0w v0 v1 hu1
        have HD2 := Lib.hid (show (⟨u1.p, u1.epoch, false⟩ : Us).down = false from rfl)
        generalize (⟨u1.p, u1.epoch, false⟩ : Us) = u2 at *
        go_wp2_with fail
        go_loopw [9] (fun j wq => ∃ k : Nat, j = .int .i64 k ∧ k ≤ n + 1 ∧ Hid (Solo (UG b pb) (fun k => k < w.heap.size) wq u2) ∧ Hid (Below w.heap.size w wq)) (fun j _ => n + 1 - (intOf j).toNat)
        case atStart => exact ⟨0, rfl, Nat.zero_le _, U5, B5⟩
        case round =>
          clear U5 B5
          obtain ⟨k, rfl, hk, HU, HB⟩ := hrel
          by_cases hkn : k < n + 1
          · have k0 : (k : Int) ≤ (n : Int) := by omega
            obtain ⟨hkl, hmem⟩ := HV2.out k hkn
            have k1 : (k : Int) < (l.length : Int) := by omega
            obtain ⟨bk2, off2, hao, c0w⟩ := byte_at HF.out hkl
            cases hao
            have hok := HK.out _ (List.getElem_mem hkl)
            have c0 : wr.cell? ⟨bk, off + k, none⟩ = some (.int .u8 l[k]) := cellB HB.out (block_lt_of_cell c0w) c0w
            obtain ⟨v0, v1⟩ := hok
            have HV := Lib.hid (show i64w l[k] from i64w_small (by omega))
            obtain ⟨e1, e2, e3⟩ := HW2.out.read HD2.out hmem
            clear c0w hmem
            generalize l[k] = v at *
            go_wp2_with fail
            refine (u_askP HS HU.out (k := 3) (e := 0) (p := v) (s := ⟨#[]⟩) Z3.out Z0.out HV.out (by decide)).mono ?_
            rintro e w6 ⟨rfl, hu6, hk6⟩
            rw [e1, e2]
            rw [e3] at hu6
            have U6 := Lib.hid (hu6.below (TT.out b pb) ((Below.refl w6.heap.size w6).alloc (Nat.le_refl _) (.cells #[.int .i64 0, .int .i64 (u2.ans (akP 3 0 v ⟨#[]⟩)).n, .string s, .int .i64 0, .slice none 0 0, .int .i64 0, .int .i64 0, .int .i64 (u2.ans (akP 3 0 v ⟨#[]⟩)).epoch] 41)))
            have B6 := Lib.hid (HB.out.trans (hk6.toBelow HB.out.size (fun k h => h)))
            clear hu6 hk6 c0 e1 e2 e3
            go_wp2_with fail
            go_roundw
            case rel => exact ⟨k + 1, by go_num, by omega, U6, Lib.hid (B6.out.alloc B6.out.size _)⟩
            case measure => simp [intOf]; omega
          · obtain rfl : k = n + 1 := by omega
            have k0 : ¬ ((n + 1 : Nat) : Int) ≤ (n : Int) := by omega
            have k2 : (n : Int) < ((n + 1 : Nat) : Int) := by omega
            go_wp2_with fail
            go_roundw
            case rel => exact ⟨n + 1, u2, by go_num, by omega, by omega, HW2, HD2, HU, HB⟩
            case measure => simp [intOf]; omega
      · have n1 : (100 : Int) ≤ (n : Int) := by omega
        go_wp2_with (go_at_call 10; refine (CW.out _).mono ?_; rintro e w2 ⟨rfl, hb2⟩; have B2 := Lib.hid (HB.out.trans (hb2.mono HB.out.size)); clear hb2)
        go_ret
        exact ⟨rfl, B2.out⟩
    · obtain rfl : n = l.length := by omega
      go_wp2_with (go_at_call 10; refine (CW.out _).mono ?_; rintro e w2 ⟨rfl, hb2⟩; have B2 := Lib.hid (HB.out.trans (hb2.mono HB.out.size)); clear hb2)
      go_ret
      exact ⟨rfl, B2.out⟩

set_option maxRecDepth 100000 in
theorem unitKeeps_lifted (os : Os) (started : os.Started) (H : Type) (enc : TypeId × Value → H) :
    ReturnsInHanded {} Try.checked os 5 .any (Rows.unitKeepsSpec.pre6 enc Try.prog Try.f5 Rows.unitKeepsRow.domain false) (Rows.unitKeepsSpec.post enc Try.prog Try.f5 false true false false) := by
  refine returnsInHanded_of_change (C := Try.checked) own started (by kernel_rfl) Try.func5
    (ChangeSpec.witness6 (enc := enc) (C := Try.checked) false ⟨#[], #[.slice none 0 0, .string ByteArray.empty], []⟩ 8 (by kernel_rfl) (by kernel_rfl) (by kernel_rfl) (by kernel_rfl)) ?_
  intro W base args ds gs before hval0 hW hcnd _
  have hval : ∀ (j : Nat) t v, Try.f5.params[j]? = some t → args[j]? = some v → Value.okWide Try.prog W .any base t v := hval0
  have hW' := hW
  obtain ⟨p, q, hA0, hV, rfl, hfz, hnd⟩ := hW
  have hA : DataW.TrodAll enc Try.prog W 0 (fun _ => true) true Try.f5.params.toList args.toList ds p := hA0
  rw [Try.params5] at hA hval
  obtain ⟨v0, vs0, d0, ds0, p0, q0, hargs, rfl, rfl, h0, r0⟩ := trodAll_cons hA
  obtain ⟨v1, vs1, d1, ds1, p1, q1, rfl, rfl, rfl, h1, r1⟩ := trodAll_cons r0
  obtain ⟨rfl, rfl, rfl⟩ := trodAll_nil r1
  obtain rfl : args = #[v0, v1] := by cases args; simp_all
  obtain ⟨rfl, rfl⟩ := trodVars_none hV
  have k0 := h0
  have lt0 : ∀ x ∈ p0, x.block < W.heap.size := by obtain ⟨m, hm⟩ := k0; exact DataW.trod_lt m _ _ _ hm
  have k1 := h1
  have lt1 : ∀ x ∈ p1, x.block < W.heap.size := by obtain ⟨m, hm⟩ := k1; exact DataW.trod_lt m _ _ _ hm
  obtain ⟨ao0, cap0, L0, rfl, w0, hR0, hK0, hn0, hc0⟩ := open_rows (f := byteC) (ok := byteOk) (n := 0) Try.underlying51 (by kernel_rfl) (fun m cs y hl hf => byte_cs Try.underlying5 hl hf) (hval 0 51 v0 rfl rfl) h0
  obtain ⟨a1, rfl, rfl, rfl, w1⟩ := open_string Try.underlying9 (hval 1 9 v1 rfl rfl) h1
  clear hA0 hval0
  refine (unitKeeps_walk unitSays ao0 cap0 L0 a1 w0 w1 W hR0 hK0).mono fun e W' ⟨he, bel⟩ => ?_
  subst he
  exact ⟨_, rfl, _, _, _, [], _, [], hW', trodAll_mk1 (shut_bool Try.underlying4 _), (trodAll_cons_mk (Below.trod laidOut (by kernel_rfl) (of_decide_eq_true (by kernel_rfl)) k0 bel lt0) (trodAll_cons_mk (Below.trod laidOut (by kernel_rfl) (of_decide_eq_true (by kernel_rfl)) k1 bel lt1) trodAll_mk0)), rfl, bel.frame _, fun h => by cases h⟩

theorem unitKeeps_over : Rows.unitKeepsRow.holds Try.pinned (OpenSpec.ofChange Rows.unitKeepsSpec) :=
  OpenClaim.holds_of_wide 5 Try.f5 rfl rfl rfl rfl rfl rfl rfl ⟨rfl, rfl, rfl, rfl, rfl⟩ rfl rfl rfl rfl rfl (by kernel_rfl) Try.func5 (by kernel_rfl)
    (of_decide_eq_true (by kernel_rfl)) (by unfold Func.isWrapper; first | (rw [if_pos (by decide +kernel)]; kernel_rfl) | (rw [if_neg (by decide +kernel)]; exact ⟨rfl, rfl⟩))
    (fun os started H enc _ => unitKeeps_lifted os started H enc)

/-- THE STATEMENT -/
theorem unitKeeps_holds : Rows.UnitKeepsSaid := unitKeeps_over 
end Go.Proofs.Ytaodmdoagngdnaa
