/- What the program's own 'ends' returns: the set of the places at which units' pages end. Conditions: the projection and the counts lie where the call was told, and are not too large. -/
import Derived.Test.YtffiocgeijeheaaJPlpD
import Derived.Maps.OwnOps
import Derived.Maps.OwnSet
set_option linter.unusedVariables false
namespace Go.Proofs.Ytffiocgeijeheaa
open Go.RowKit Go.Maps
set_option maxRecDepth 20000
theorem zero_int (w : World) : (zeroValue 3).run Try.prog w = .ok (.int .i64 0) w := by kernel_rfl
set_option maxHeartbeats 8000000 in
theorem ends_any (ep : Int) (ao : Option Addr) (cap : Nat) (L : List (List Int)) (tb : Nat) (K : List (Int × Int)) (w : World) (h : CL w ao L) (hl : L.length ≤ 255 ∧ ∀ c ∈ L, c.length ≤ 255) (hK : Tm w tb K) :
    Calls Try.prog 27 #[.agg #[.int .i64 ep, .slice ao L.length cap], .map (some tb)] w fun e w' => ∃ b, e = .returned (.map (some b)) ∧ w.heap.size ≤ b ∧ Et w' b K L L.length 0 ∧ Below w.heap.size w w' := by
  have HB0 := Lib.hid ((Below.refl w.heap.size w).alloc (Nat.le_refl _) (.cells #[.int .i64 ep, .slice ao L.length cap] 24))
  have hl' : (L.length : Int) ≤ 255 := by have := hl.1; omega
  have HT := Lib.hid h
  have HM := Lib.hid hl
  have HK := Lib.hid hK
  have hmm := @run_makeMap Try.prog
  clear h hl hK
  go_enter Try.func27, Try.ntmps27
  go_wp2_with fail
  go_loopw [15] (fun i wr => ∃ n : Nat, i = .int .i64 n ∧ n ≤ L.length ∧ Hid (Et wr (w.heap.size + 1) K L n 0) ∧ Hid (Below (w.heap.size + 1) (w.alloc (.cells #[.int .i64 ep, .slice ao L.length cap] 24)) wr)) (fun i _ => L.length - (intOf i).toNat)
  case atStart => exact ⟨0, rfl, Nat.zero_le _, Lib.hid (by have h := Et.made (w.alloc (.cells #[.int .i64 ep, .slice ao L.length cap] 24)) K L; simpa using h), Lib.hid ((Below.refl _ _).alloc (by simp) _)⟩
  case round =>
    obtain ⟨n, rfl, hn, HO, HB⟩ := hrel
    by_cases hlt : n < L.length
    · have HWB := Lib.hid (HB0.out.trans (HB.out.mono (by omega)))
      obtain ⟨bk, off, ai, ci, hao, c0w, hN⟩ := HT.out n hlt
      subst hao
      have c0 : wr.cell? ⟨bk, off + n, none⟩ = some (.slice ai L[n].length ci) := cellB HWB.out (block_lt_of_cell c0w) c0w
      have HNN := Lib.hid hN
      have k0 : (n : Int) < (L.length : Int) := by omega
      have m0 := HM.out.2 _ (List.getElem_mem hlt)
      have m0' : (L[n].length : Int) ≤ 255 := by omega
      have hln := HM.out.1
      clear c0w hN
      go_wp2_with fail
      go_loopw [22] (fun j wq => ∃ k : Nat, j = .int .i64 k ∧ k ≤ L[n].length ∧ Hid (Et wq (w.heap.size + 1) K L n k) ∧ Hid (Below (w.heap.size + 1) (w.alloc (.cells #[.int .i64 ep, .slice (some ⟨bk, off, none⟩) L.length cap] 24)) wq)) (fun j _ => L[n].length - (intOf j).toNat)
      case atStart => exact ⟨0, rfl, Nat.zero_le _, HO, HB⟩
      case round =>
        obtain ⟨k, rfl, hk, HO2, HB2⟩ := hrel
        clear c0
        have HWQ := Lib.hid (HB0.out.trans (HB2.out.mono (by omega)))
        by_cases hkt : k < L[n].length
        · obtain ⟨b5, o5, hai, c5⟩ := (HNN.out.below HWQ.out).at k hkt
          have hwf := HNN.out.wf _ (List.getElem_mem hkt)
          subst hai
          have k5 : (k : Int) < (L[n].length : Int) := by omega
          obtain ⟨DK, hDK, hMK⟩ := HK.out.below HWQ.out
          have HDK := Lib.hid hDK
          have HVA := Lib.hid (valK_at hMK hwf)
          have HIK := Lib.hid (int_key hwf)
          obtain ⟨m, hE, hmb⟩ := HO2.out
          have HE := Lib.hid hE
          have hpm := pagK_most K L[n][k]
          have hB : w.heap.size + 1 ≤ wr.heap.size := by have := HB2.out.size; simpa using this
          by_cases hp : 0 < pagK K L[n][k]
          · have HMO := Lib.hid (fun w' => @Et.more w' (w.heap.size + 1) m K L n k hlt hkt hp hmb)
            have HKEY := Lib.hid (place_key ((n : Int), pagK K L[n][k] - 1) ⟨WalkArith.wf_i64 (by simp; omega), WalkArith.wf_i64 (by simp; omega)⟩)
            have HCNT := Lib.hid (show m < maxLen from by unfold maxLen; omega)
            have hmin : (if (4096 : Int) < valK K L[n][k] then (4096 : Int) else valK K L[n][k]) = pagK K L[n][k] := rfl
            clear hDK hMK hE hwf hmb
            generalize pagK K L[n][k] = pg at *
            generalize valK K L[n][k] = v at *
            generalize L[n][k] = u at *
            go_wp2_with (first
              | (at_lookup; refine wpList_lookup_own_int _ rfl _ _ 45 rfl 3 3 .i64 int_law Try.underlying45 Try.underlying3 (zero_int _) tb _ _ rfl HDK.out _ _ rfl HIK.out ?_; intro c hat hwc; obtain rfl : c = v := (by rw [HVA.out] at hat; simpa using hat.symm); clear hat hwc)
              | (at_mapUpdate; refine wpList_mapUpdate_own _ rfl _ _ _ 57 rfl 26 65 place_law Try.underlying57 (unitElem (H := Unit)) (w.heap.size + 1) _ _ rfl HE.out HCNT.out _ _ _ rfl rfl HKEY.out _ [] unitElem_mk ?_; intro w1 hown1 hgrow1; have HO3 := Lib.hid (HMO.out _ hown1); have HB3 := Lib.hid (HB2.out.grown hgrow1 hB (fun k e => by cases e; exact Nat.le_refl _)); clear hown1 hgrow1))
            exact ⟨⟨k + 1, by go_num, by omega, HO3, HB3⟩, by simp [intOf]; omega⟩
          · have HSK := Lib.hid (HO2.out.skip hlt hkt hp)
            have hmin : (if (4096 : Int) < valK K L[n][k] then (4096 : Int) else valK K L[n][k]) = pagK K L[n][k] := rfl
            clear hDK hMK hE hwf hmb
            generalize pagK K L[n][k] = pg at *
            generalize valK K L[n][k] = v at *
            generalize L[n][k] = u at *
            have hp' : pg ≤ 0 := by omega
            clear hp
            go_wp2_with (at_lookup; refine wpList_lookup_own_int _ rfl _ _ 45 rfl 3 3 .i64 int_law Try.underlying45 Try.underlying3 (zero_int _) tb _ _ rfl HDK.out _ _ rfl HIK.out ?_; intro c hat hwc; obtain rfl : c = v := (by rw [HVA.out] at hat; simpa using hat.symm); clear hat hwc)
            go_roundw
            case rel => exact ⟨k + 1, by go_num, by omega, HSK, HB2⟩
            case measure => simp [intOf]; omega
        · obtain rfl : k = L[n].length := by omega
          have HPC := Lib.hid (HO2.out.chain hlt m0)
          go_wp2_with fail
          go_roundw
          case rel => exact ⟨n + 1, by go_num, by omega, HPC, HB2⟩
          case measure => simp [intOf]; omega
    · obtain rfl : n = L.length := by omega
      have HWB := Lib.hid (HB0.out.trans (HB.out.mono (by omega)))
      go_wp2_with fail
      go_ret
      exact ⟨_, rfl, by omega, HO.out, HWB.out⟩
end Go.Proofs.Ytffiocgeijeheaa
