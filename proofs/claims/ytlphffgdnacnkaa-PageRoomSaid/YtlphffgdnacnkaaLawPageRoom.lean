/- The law PageRoom: just as many pages are written or junk as there is room, and trimming makes room, for every room. Conditions: the program's functions return what PageSays says. -/
import Derived.Test.YtlphffgdnacnkaaPgpF
import Derived.Test.YtlphffgdnacnkaaPagW
namespace Go.Proofs.Ytlphffgdnacnkaa
open Go.ChangeShapes Go.WideShapes Go.ChangeAt Go.RowKit
open Go.ChangeMaps (open_string shut_string)
set_option linter.unusedVariables false
set_option maxRecDepth 20000

set_option maxHeartbeats 8000000 in
theorem pageRoom_walk {PG : (Nat → Prop) → World → Nat → Ps → Prop} (HS : PageSays PG) (x : Int) (c : Bool) (wx : (Lit.int .u8 x).wf = true) (w : World) :
    Calls Try.prog 5 #[.int .u8 x, .bool c] w fun e w' => e = .returned (.bool true) ∧ Below w.heap.size w w' := by
  have hx := u8_of_wf wx
  obtain ⟨m, rfl⟩ : ∃ m : Nat, x = m := ⟨x.toNat, by omega⟩
  obtain ⟨n, hn⟩ : ∃ n, n = 1 + m := ⟨_, rfl⟩
  have hn1 : 1 ≤ n := by omega
  have hn2 : n ≤ 256 := by omega
  have e1 : (1 : Int) + (m : Int) = (n : Int) := by omega
  have CN := Lib.hid (solo_new HS w (room := n) (by omega))
  have CW := Lib.hid (fun w => wakes9_any HS w)
  have FW := Lib.hid (full_write hn1 hn2 ⟨#[98]⟩ (by decide))
  have FF := Lib.hid (full_fill hn1 hn2)
  have FT := Lib.hid (rowP_trim n)
  have CF := Lib.hid (cut_fill hn1 hn2)
  have EF := Lib.hid (end_fill hn1 hn2)
  have EW := Lib.hid (end_write hn1 hn2 ⟨#[98]⟩ (by decide))
  have EL := Lib.hid (show (((endP n).l.length : Nat) : Int) = n from by rw [end_len hn1])
  have ET := Lib.hid (end_tail hn1)
  have HZ := Lib.hid (show wide n ∧ wide 1 ∧ wide ((n : Int) + 1) from by unfold wide; omega)
  have n2 : (n : Int) ≤ 256 := by omega
  have n1 : (1 : Int) ≤ (n : Int) := by omega
  unfold ptrP at CN
  have hm1 : (m : Int) ≤ 255 := by omega
  have hm0 : (0 : Int) ≤ (m : Int) := by omega
  clear wx hn hx
  go_enter Try.func5, Try.ntmps5
  go_wp2_with (go_at_call 7; (try rw [e1]); refine CN.out.mono ?_; rintro e w1 ⟨b, rfl, hu1, hb1⟩; have U1 := Lib.hid hu1; have B1 := Lib.hid hb1; clear hu1 hb1)
  go_loopw [8] (fun i wr => ∃ k : Nat, i = .int .i64 k ∧ k ≤ n ∧ Solo PG (fun k => k < w.heap.size) wr b (rowP n k) ∧ Below w.heap.size w wr) (fun i _ => n - (intOf i).toNat)
  case atStart => exact ⟨0, rfl, Nat.zero_le _, U1.out, B1.out⟩
  case round =>
    obtain ⟨k, rfl, hk, hso, hb⟩ := hrel
    by_cases hlt : k < n
    · have k0 : (k : Int) < (n : Int) := by omega
      have HR := Lib.hid (rowP_write hlt hn2)
      have HL := Lib.hid (rowP_fill hlt hn2)
      have HK := Lib.hid (show wide k from by unfold wide; omega)
      have SO := Lib.hid hso
      have HB := Lib.hid hb
      clear hso hb
      have hm : (k : Int).tmod 2 = ((k % 2 : Nat) : Int) := by rw [Int.tmod_eq_emod_of_nonneg (by omega)]; omega
      cases c
      · go_wp2_with (go_at_call 11; refine (solo_write HS SO.out HK.out (by decide)).mono ?_; rw [HR.out.1, HR.out.2]; rintro e w2 ⟨rfl, h2, k2⟩; have S2 := Lib.hid h2; have K2 := Lib.hid k2; clear h2 k2)
        go_roundw
        case rel => exact ⟨k + 1, by go_num, by omega, S2.out, HB.out.trans (K2.out.toBelow HB.out.size (fun _ h => h))⟩
        case measure => simp [intOf]; omega
      · by_cases ho : k % 2 = 1
        · have hm1 : (k : Int).tmod 2 = 1 := by omega
          clear hm
          go_wp2_with (first
            | (go_at_call 11; refine (solo_write HS SO.out HK.out (by decide)).mono ?_; rw [HR.out.1, HR.out.2]; rintro e w2 ⟨rfl, h2, k2⟩; have S2 := Lib.hid h2; have K2 := Lib.hid k2; clear h2 k2)
            | (go_at_call 13; refine (solo_fill HS S2.out HK.out).mono ?_; rw [HL.out.1, HL.out.2]; rintro e w3 ⟨rfl, h3, k3⟩; have S3 := Lib.hid h3; have K3 := Lib.hid (K2.out.trans k3); clear h3 k3))
          go_roundw
          case rel => exact ⟨k + 1, by go_num, by omega, S3.out, HB.out.trans (K3.out.toBelow HB.out.size (fun _ h => h))⟩
          case measure => simp [intOf]; omega
        · have hm0 : (k : Int).tmod 2 = 0 := by omega
          clear hm
          go_wp2_with (go_at_call 11; refine (solo_write HS SO.out HK.out (by decide)).mono ?_; rw [HR.out.1, HR.out.2]; rintro e w2 ⟨rfl, h2, k2⟩; have S2 := Lib.hid h2; have K2 := Lib.hid k2; clear h2 k2)
          go_roundw
          case rel => exact ⟨k + 1, by go_num, by omega, S2.out, HB.out.trans (K2.out.toBelow HB.out.size (fun _ h => h))⟩
          case measure => simp [intOf]; omega
    · obtain rfl : k = n := by omega
      have SO := Lib.hid hso
      have HB := Lib.hid hb
      clear hso hb
      go_wp2_with (first
        | (go_at_call 11; refine (solo_write HS S6.out HZ.out.2.2 (by decide)).mono ?_; rw [EW.out.1, EW.out.2]; rintro e w7 ⟨rfl, h, kk⟩; have S7 := Lib.hid h; have K7 := Lib.hid (K6.out.trans kk); clear h kk)
        | (go_at_call 11; refine (solo_write HS SO.out HZ.out.1 (by decide)).mono ?_; rw [FW.out.1, FW.out.2]; rintro e w2 ⟨rfl, h, kk⟩; have S2 := Lib.hid h; have K2 := Lib.hid kk; clear h kk)
        | (go_at_call 13; refine (solo_fill HS S5.out HZ.out.1).mono ?_; rw [EF.out.1, EF.out.2]; rintro e w6 ⟨rfl, h, kk⟩; have S6 := Lib.hid h; have K6 := Lib.hid (K5.out.trans kk); clear h kk)
        | (go_at_call 13; refine (solo_fill HS S4.out HZ.out.1).mono ?_; rw [CF.out.1, CF.out.2]; rintro e w5 ⟨rfl, h, kk⟩; have S5 := Lib.hid h; have K5 := Lib.hid (K4.out.trans kk); clear h kk)
        | (go_at_call 13; refine (solo_fill HS S2.out HZ.out.1).mono ?_; rw [FF.out.1, FF.out.2]; rintro e w3 ⟨rfl, h, kk⟩; have S3 := Lib.hid h; have K3 := Lib.hid (K2.out.trans kk); clear h kk)
        | (go_at_call 15; refine (solo_trim HS S3.out HZ.out.2.1).mono ?_; rw [FT.out, show Ps.trimE 1 = 0 from rfl]; rintro e w4 ⟨rfl, h, kk⟩; have S4 := Lib.hid h; have K4 := Lib.hid (K3.out.trans kk); clear h kk)
        | (go_at_call 23; refine (solo_used HS S7.out).mono ?_; rw [EL.out]; rintro e w8 ⟨rfl, h, kk⟩; have S8 := Lib.hid h; have K8 := Lib.hid (K7.out.trans kk); clear h kk)
        | (go_at_call 21; refine (solo_tail HS S8.out).mono ?_; rw [ET.out]; rintro e w9 ⟨rfl, h, kk⟩; have S9 := Lib.hid h; have K9 := Lib.hid (K8.out.trans kk); clear h kk)
        | (go_at_call 10; refine (CW.out _).mono ?_; rintro e w10 ⟨rfl, hb10⟩))
      go_ret
      have B9 := HB.out.trans (K9.out.toBelow HB.out.size (fun _ h => h))
      exact ⟨rfl, B9.trans (hb10.mono B9.size)⟩

set_option maxRecDepth 100000 in
theorem pageRoom_lifted (os : Os) (started : os.Started) (H : Type) (enc : TypeId × Value → H) :
    ReturnsInHanded {} Try.checked os 5 .any (Rows.pageRoomSpec.pre6 enc Try.prog Try.f5 Rows.pageRoomRow.domain false) (Rows.pageRoomSpec.post enc Try.prog Try.f5 false true false false) := by
  refine returnsInHanded_of_change (C := Try.checked) own started (by kernel_rfl) Try.func5
    (ChangeSpec.witness6 (enc := enc) (C := Try.checked) false ⟨#[], #[.int .u8 0, .bool false], []⟩ 8 (by kernel_rfl) (by kernel_rfl) (by kernel_rfl) (by kernel_rfl)) ?_
  intro W base args ds gs before hval0 hW hcnd _
  have hval : ∀ (j : Nat) t v, Try.f5.params[j]? = some t → args[j]? = some v → Value.okWide Try.prog W .any base t v := hval0
  have hW' := hW
  obtain ⟨p, q, hA0, hV, rfl, hfz, hnd⟩ := hW
  have hA : DataW.TrodAll enc Try.prog W 0 (fun _ => true) true Try.f5.params.toList args.toList ds p := hA0
  rw [Try.params5] at hA hval
  obtain ⟨v0, vs0, d0, ds0, p0, q0, hargs, rfl, rfl, h0, r0⟩ := trodAll_cons hA
  obtain ⟨v1, vs1, d1, ds1, p1, q1, rfl, rfl, rfl, h1, r1⟩ := trodAll_cons r0
  obtain ⟨rfl, rfl, rfl⟩ := trodAll_nil r1
  obtain rfl : args = #[v0, v1] := by cases args; simp_all
  obtain ⟨rfl, rfl⟩ := trodVars_none hV
  have k0 := h0
  have lt0 : ∀ x ∈ p0, x.block < W.heap.size := by obtain ⟨m, hm⟩ := k0; exact DataW.trod_lt m _ _ _ hm
  have k1 := h1
  have lt1 : ∀ x ∈ p1, x.block < W.heap.size := by obtain ⟨m, hm⟩ := k1; exact DataW.trod_lt m _ _ _ hm
  obtain ⟨a0, rfl, rfl, rfl, w0⟩ := open_int Try.underlying5 (hval 0 5 v0 rfl rfl) h0
  obtain ⟨a1, rfl, rfl, rfl⟩ := open_bool Try.underlying4 (hval 1 4 v1 rfl rfl) h1
  clear hA0 hval0
  refine (pageRoom_walk pageSays a0 a1 w0 W).mono fun e W' ⟨he, bel⟩ => ?_
  subst he
  exact ⟨_, rfl, _, _, _, [], _, [], hW', trodAll_mk1 (shut_bool Try.underlying4 _), (trodAll_cons_mk (Below.trod laidOut (by kernel_rfl) (of_decide_eq_true (by kernel_rfl)) k0 bel lt0) (trodAll_cons_mk (Below.trod laidOut (by kernel_rfl) (of_decide_eq_true (by kernel_rfl)) k1 bel lt1) trodAll_mk0)), rfl, bel.frame _, fun h => by cases h⟩

theorem pageRoom_over : Rows.pageRoomRow.holds Try.pinned (OpenSpec.ofChange Rows.pageRoomSpec) :=
  OpenClaim.holds_of_wide 5 Try.f5 rfl rfl rfl rfl rfl rfl rfl ⟨rfl, rfl, rfl, rfl, rfl⟩ rfl rfl rfl rfl rfl (by kernel_rfl) Try.func5 (by kernel_rfl)
    (of_decide_eq_true (by kernel_rfl)) (by unfold Func.isWrapper; first | (rw [if_pos (by decide +kernel)]; kernel_rfl) | (rw [if_neg (by decide +kernel)]; exact ⟨rfl, rfl⟩))
    (fun os started H enc _ => pageRoom_lifted os started H enc)

/-- THE STATEMENT -/
theorem pageRoom_holds : Rows.PageRoomSaid := pageRoom_over 
end Go.Proofs.Ytlphffgdnacnkaa
