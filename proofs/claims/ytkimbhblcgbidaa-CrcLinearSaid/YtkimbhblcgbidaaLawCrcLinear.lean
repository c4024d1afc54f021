/- CrcLinear: of every three texts, cut to one length, the sum of all three put together byte by byte is that of their sums; the law's examples come out. No conditions. -/
import Derived.Test.YtkimbhblcgbidaaFrame
import Derived.Test.YtkimbhblcgbidaaKeep
import Derived.Test.YtkimbhblcgbidaaCrcE
import Derived.Test.YtkimbhblcgbidaaCrcF
import Derived.StillTailTactics
namespace Go.Proofs.Ytkimbhblcgbidaa
open Go.ChangeShapes Go.WideShapes Go.ChangeAt Go.RowKit
open Go.ChangeMaps (open_string shut_string)
set_option linter.unusedVariables false

def xb (a b c : ByteArray) (i : Nat) : Int := (((a.data.toList.getD i 0 ^^^ b.data.toList.getD i 0) ^^^ c.data.toList.getD i 0).toNat : Int)
theorem getD_at (a : ByteArray) (i : Nat) (h : i < a.size) : a.data.toList.getD i 0 = a[i] := by
  rw [List.getD_eq_getElem?_getD, List.getElem?_eq_getElem (by simpa using h)]
  rfl
theorem xb_val (a b c : ByteArray) (i : Nat) (ha : i < a.size) (hb : i < b.size) (hc : i < c.size) :
    bits .xor .u8 (bits .xor .u8 (a[i].toNat : Int) (b[i].toNat : Int)) (c[i].toNat : Int) = xb a b c i := by
  unfold xb
  rw [getD_at a i ha, getD_at b i hb, getD_at c i hc, u8_xor_nat _ _ (UInt8.toNat_lt _) (UInt8.toNat_lt _), ← UInt8.toNat_xor, u8_xor_nat _ _ (UInt8.toNat_lt _) (UInt8.toNat_lt _), ← UInt8.toNat_xor]
theorem xb_list (a b c : ByteArray) (n : Nat) (ha : n ≤ a.size) (hb : n ≤ b.size) (hc : n ≤ c.size) :
    (strOfNums ((List.range n).map (xb a b c))).data.toList = List.zipWith (· ^^^ ·) (List.zipWith (· ^^^ ·) (a.data.toList.take n) (b.data.toList.take n)) (c.data.toList.take n) := by
  rw [strOfNums_data]
  have la : a.data.toList.length = a.size := by simp
  have lb : b.data.toList.length = b.size := by simp
  have lc : c.data.toList.length = c.size := by simp
  apply List.ext_getElem
  · simp
    omega
  · intro i h1 h2
    have hi : i < n := by simpa using h1
    simp only [List.getElem_map, List.getElem_range, List.getElem_zipWith, List.getElem_take]
    unfold xb
    rw [getD_at a i (by omega), getD_at b i (by omega), getD_at c i (by omega), Int.toNat_natCast, UInt8.ofNat_toNat]
    rfl
theorem cut_list (s : ByteArray) (n : Nat) : (s.extract 0 n).data.toList = s.data.toList.take n := by simp [ByteArray.data_extract]
theorem sums_linear (a b c : ByteArray) (n : Nat) (ha : n ≤ a.size) (hb : n ≤ b.size) (hc : n ≤ c.size) :
    bits .xor .u32 (bits .xor .u32 (sumR (a.extract 0 n) : Nat) (sumR (b.extract 0 n) : Nat)) (sumR (c.extract 0 n) : Nat) = (sumR (strOfNums ((List.range n).map (xb a b c))) : Nat) := by
  rw [u32_xor_nat _ _ (sumR_lt _) (sumR_lt _), u32_xor_nat _ _ (Nat.xor_lt_two_pow (n := 32) (sumR_lt _) (sumR_lt _)) (sumR_lt _)]
  unfold sumR
  rw [xb_list a b c n ha hb hc, cut_list, cut_list, cut_list, csum_linear]
  · simp
    omega
  · simp
    omega
theorem least (x y z : Nat) : ∃ (n1 : Int) (n : Nat), (if y < x then (y : Int) else (x : Int)) = n1 ∧ (if (z : Int) < n1 then (z : Int) else n1) = n ∧ n ≤ x ∧ n ≤ y ∧ n ≤ z := by
  by_cases h1 : y < x
  · refine ⟨y, min y z, if_pos h1, ?_, by omega, by omega, by omega⟩
    split <;> omega
  · refine ⟨x, min x z, if_neg h1, ?_, by omega, by omega, by omega⟩
    split <;> omega

theorem extract_small (s : ByteArray) (a b : Nat) (hs : s.size ≤ maxLen) : (s.extract a b).size ≤ maxLen := by
  rw [ByteArray.size_extract]
  omega
theorem sum_still (s : ByteArray) (hs : s.size ≤ maxLen) (w : World) :
    Calls Try.prog 9 #[.string s] w fun e w' => e = .returned (.int .u32 (sumR s : Nat)) ∧ w' = w := (sum_r s hs w).mono fun _ _ ⟨he, hw⟩ => ⟨he, hw.symm⟩
set_option maxHeartbeats 1000000 in
theorem crcLinear_walk (a0 a1 a2 : ByteArray) (w0 : a0.size ≤ maxLen) (w1 : a1.size ≤ maxLen) (w2 : a2.size ≤ maxLen) (w : World) :
    Calls Try.prog 5 #[.string a0, .string a1, .string a2] w fun e w' => e = .returned (.bool true) ∧ Below w.heap.size w w' := by
  have HW0 := Lib.hid w0
  have HW1 := Lib.hid w1
  have HW2 := Lib.hid w2
  clear w0 w1 w2
  obtain ⟨n1, n, hn1, hn, le0, le1, le2⟩ := least a0.size a1.size a2.size
  by_cases hl : (n : Int) ≤ 100000
  · have hn' : n ≤ 1000000 := by omega
    obtain ⟨F, hF⟩ : ∃ F : Nat → Int, F = xb a0 a1 a2 := ⟨_, rfl⟩
    have hmk := make_bytes F n hn'
    have HV := Lib.hid (fun (i : Nat) (h : i < n) => xb_val a0 a1 a2 i (by omega) (by omega) (by omega))
    have HG := Lib.hid (sums_linear a0 a1 a2 n le0 le1 le2)
    rw [← hF] at HV HG
    clear hF
    have i0 : (n : Int) ≤ a0.size := by omega
    have i1 : (n : Int) ≤ a1.size := by omega
    have i2 : (n : Int) ≤ a2.size := by omega
    go_enter Try.func5, Try.ntmps5
    go_wp2_with fail
    clear hn hn1
    rw [lnW_zero]
    go_loopw [9] (fun i wr => ∃ k q : Nat, k ≤ n ∧ i = .int .i64 k ∧ wr = lnW w F n k q) (fun i _ => n - (intOf i).toNat)
    case atStart => exact ⟨0, 0, Nat.zero_le _, rfl, rfl⟩
    case round =>
      obtain ⟨k, q, hk, rfl, rfl⟩ := hrel
      by_cases hlt : k < n
      · have hz : ∀ q, (lnW w F n k q).cell? ⟨w.heap.size, k, none⟩ = some (.int .u8 0) := fun q => by rw [lnW_cell w F n k q k hlt, if_neg (Nat.lt_irrefl k)]
        have hfz := fun q => lnW_frozen w F n k q k
        have HS := Lib.hid (fun q => lnW_set w F n k q hlt)
        have HVk := Lib.hid (HV.out k hlt)
        have k0 : (k : Int) < a0.size := by omega
        have k1 : (k : Int) < a1.size := by omega
        have k2 : (k : Int) < a2.size := by omega
        have k3 : k < a0.size := by omega
        have k4 : k < a1.size := by omega
        have k5 : k < a2.size := by omega
        go_wp2_with fail
        go_still_tail 14, (by kernel_rfl)
        change wpList _ _ _ _ _ (lnW w F n k (q + 1))
        go_wp2_with fail
        rw [HVk.out, HS.out]
        go_roundw
        case rel => exact ⟨k + 1, q + 1, by omega, by go_num, rfl⟩
        case measure => simp [intOf]; omega
      · obtain rfl : k = n := by omega
        have hcv := lnW_string w F k (q + 1)
        have hbl := lnW_below w F k k (q + 1)
        have hsx : (strOfNums ((List.range k).map F)).size ≤ maxLen := by
          rw [strOfNums_size, List.length_map, List.length_range]
          unfold maxLen
          omega
        have HSX := Lib.hid hsx
        clear hsx
        go_wp2_with fail
        refine wp_region_still_tail 19 (by kernel_rfl) (by kernel_rfl) ?_
        simp only [List.take_succ_cons, List.take_zero, List.drop_succ_cons, List.drop_zero]
        change wpStill _ _ (lnW w F k k (q + 1)) (fun a' => wpList _ _ _ _ a' (lnW w F k k (q + 1))) _ _
        generalize lnW w F k k (q + 1) = W2 at hcv hbl ⊢
        have hG := HG.out
        repeat (first | (still_call (sum_still _ (by first | exact HSX.out | exact extract_small _ _ _ HW0.out | exact extract_small _ _ _ HW1.out | exact extract_small _ _ _ HW2.out) _)) | still_step)
        refine wpStill_nil ?_
        go_wp2_with (go_at_call 6; refine (wakes_any _).mono ?_; rintro e w1 ⟨rfl, hb1⟩)
        go_ret
        exact ⟨rfl, hbl.trans (hb1.mono hbl.size)⟩
  · go_enter Try.func5, Try.ntmps5
    go_wp2_with (go_at_call 6; refine (wakes_any _).mono ?_; rintro e w1 ⟨rfl, hb1⟩)
    go_ret
    exact ⟨rfl, hb1⟩

set_option maxRecDepth 100000 in
theorem crcLinear_lifted (os : Os) (started : os.Started) (H : Type) (enc : TypeId × Value → H) :
    ReturnsInHanded {} Try.checked os 5 .any (Rows.crcLinearSpec.pre6 enc Try.prog Try.f5 Rows.crcLinearRow.domain false) (Rows.crcLinearSpec.post enc Try.prog Try.f5 false true false false) := by
  refine returnsInHanded_of_change (C := Try.checked) own started (by kernel_rfl) Try.func5
    (ChangeSpec.witness6 (enc := enc) (C := Try.checked) false ⟨#[], #[.string ByteArray.empty, .string ByteArray.empty, .string ByteArray.empty], []⟩ 8 (by kernel_rfl) (by kernel_rfl) (by kernel_rfl) (by kernel_rfl)) ?_
  intro W base args ds gs before hval0 hW hcnd _
  have hval : ∀ (j : Nat) t v, Try.f5.params[j]? = some t → args[j]? = some v → Value.okWide Try.prog W .any base t v := hval0
  have hW' := hW
  obtain ⟨p, q, hA0, hV, rfl, hfz, hnd⟩ := hW
  have hA : DataW.TrodAll enc Try.prog W 0 (fun _ => true) true Try.f5.params.toList args.toList ds p := hA0
  rw [Try.params5] at hA hval
  obtain ⟨v0, vs0, d0, ds0, p0, q0, hargs, rfl, rfl, h0, r0⟩ := trodAll_cons hA
  obtain ⟨v1, vs1, d1, ds1, p1, q1, rfl, rfl, rfl, h1, r1⟩ := trodAll_cons r0
  obtain ⟨v2, vs2, d2, ds2, p2, q2, rfl, rfl, rfl, h2, r2⟩ := trodAll_cons r1
  obtain ⟨rfl, rfl, rfl⟩ := trodAll_nil r2
  obtain rfl : args = #[v0, v1, v2] := by cases args; simp_all
  obtain ⟨rfl, rfl⟩ := trodVars_none hV
  have k0 := h0
  have lt0 : ∀ x ∈ p0, x.block < W.heap.size := by obtain ⟨m, hm⟩ := k0; exact DataW.trod_lt m _ _ _ hm
  have k1 := h1
  have lt1 : ∀ x ∈ p1, x.block < W.heap.size := by obtain ⟨m, hm⟩ := k1; exact DataW.trod_lt m _ _ _ hm
  have k2 := h2
  have lt2 : ∀ x ∈ p2, x.block < W.heap.size := by obtain ⟨m, hm⟩ := k2; exact DataW.trod_lt m _ _ _ hm
  obtain ⟨a0, rfl, rfl, rfl, w0⟩ := open_string Try.underlying9 (hval 0 9 v0 rfl rfl) h0
  obtain ⟨a1, rfl, rfl, rfl, w1⟩ := open_string Try.underlying9 (hval 1 9 v1 rfl rfl) h1
  obtain ⟨a2, rfl, rfl, rfl, w2⟩ := open_string Try.underlying9 (hval 2 9 v2 rfl rfl) h2
  clear hA0 hval0
  refine (crcLinear_walk a0 a1 a2 w0 w1 w2 W).mono fun e W' ⟨he, bel⟩ => ?_
  subst he
  exact ⟨_, rfl, _, _, _, [], _, [], hW', trodAll_mk1 (shut_bool Try.underlying4 _), (trodAll_cons_mk (Below.trod laidOut (by kernel_rfl) (of_decide_eq_true (by kernel_rfl)) k0 bel lt0) (trodAll_cons_mk (Below.trod laidOut (by kernel_rfl) (of_decide_eq_true (by kernel_rfl)) k1 bel lt1) (trodAll_cons_mk (Below.trod laidOut (by kernel_rfl) (of_decide_eq_true (by kernel_rfl)) k2 bel lt2) trodAll_mk0))), rfl, bel.frame _, fun h => by cases h⟩

theorem crcLinear_over : Rows.crcLinearRow.holds Try.pinned (OpenSpec.ofChange Rows.crcLinearSpec) :=
  OpenClaim.holds_of_wide 5 Try.f5 rfl rfl rfl rfl rfl rfl rfl ⟨rfl, rfl, rfl, rfl, rfl⟩ rfl rfl rfl rfl rfl (by kernel_rfl) Try.func5 (by kernel_rfl)
    (of_decide_eq_true (by kernel_rfl)) (by unfold Func.isWrapper; first | (rw [if_pos (by decide +kernel)]; kernel_rfl) | (rw [if_neg (by decide +kernel)]; exact ⟨rfl, rfl⟩))
    (fun os started H enc _ => crcLinear_lifted os started H enc)

/-- THE STATEMENT -/
theorem crcLinear_holds : Rows.CrcLinearSaid := crcLinear_over
end Go.Proofs.Ytkimbhblcgbidaa
