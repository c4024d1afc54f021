/- What the document's own Cut and End return. Conditions: the parts lie where the call was told; numbers of 64 bits. -/
import Derived.Test.YtjdhbpgipoifkaaG21a
set_option linter.unusedVariables false
namespace Go.Proofs.Ytjdhbpgipoifkaa
open Go.RowKit Go.Sort
set_option linter.unusedVariables false
set_option maxRecDepth 20000
/-- while bytes are cut off: from s on, below k -/
def cutK (F : ByteF) (s k : Nat) : ByteF := fun j => if s ≤ j ∧ j < k then (-1, (F j).2) else F j
theorem cutK_zero (F : ByteF) (s : Nat) : cutK F s s = F := by
  funext j
  exact if_neg (by omega)
theorem cutK_next (F : ByteF) {s k : Nat} (h : s ≤ k) (j : Nat) : (if j = k then (-1, (cutK F s k j).2) else cutK F s k j) = cutK F s (k + 1) j := by
  unfold cutK
  by_cases e : j = k
  · subst e
    rw [if_pos rfl, if_neg (by omega), if_pos (by omega)]
  · rw [if_neg e]
    by_cases e2 : s ≤ j ∧ j < k
    · rw [if_pos e2, if_pos (by omega)]
    · rw [if_neg e2, if_neg (by omega)]
theorem cutK_done (F : ByteF) {s k : Nat} {z : Int} (hz : z = s) (h : 8192 ≤ k) (j : Nat) (hj : j < 8192) : cutK F s k j = cutF F z j := by
  unfold cutK cutF
  by_cases e : s ≤ j
  · rw [if_pos (by omega), if_pos (by omega)]
  · rw [if_neg (by omega), if_neg (by omega)]
set_option maxRecDepth 200000 in
set_option maxHeartbeats 8000000 in
theorem rcut_any (ao : Option Addr) (cap : Nat) (l : List Pt) (s : Int) (hs : -9223372036854775808 ≤ s ∧ s ≤ 9223372036854775807) (w : World) (h : PaL w ao l) (hlen : l.length ≤ maxLen) :
    Calls Try.prog 18 #[.slice ao l.length cap, .int .i64 s] w fun e w' => ∃ v, e = .returned v ∧ OPa w' w.heap.size v (cutE l s) ∧ Below w.heap.size w w' := by
  have CG := Lib.hid (rgoodE_any ao cap l w h hlen)
  have HP := Lib.hid h
  cases hg : goodE l
  · rw [cutE_bad hg]
    rw [hg] at CG
    clear hg h hlen
    go_enter Try.func18, Try.ntmps18
    go_wp2_with (go_at_call 13; refine CG.out.mono ?_; rintro e w1 ⟨rfl, hb1⟩; have HB1 := Lib.hid hb1; clear hb1)
    go_ret
    exact ⟨_, rfl, OR.nil _ _, HB1.out⟩
  rw [hg] at CG
  obtain ⟨hg1, hg2⟩ := goodE_iff.1 hg
  rw [(@cutE_few l s hg).1]
  have CS := Lib.hid (fun (W : World) (hb : Below w.heap.size w W) => rspread_any ao cap l W (HP.out.below hb) (by omega) (rail_one hg2))
  rw [laid_rail hg2] at CS
  obtain ⟨n0, hn0⟩ : ∃ n0 : Nat, max s 0 = n0 := ⟨(max s 0).toNat, by omega⟩
  have HN0 := Lib.hid hn0
  have hnI : (n0 : Int) ≤ 9223372036854775807 := by omega
  rw [hn0]
  have HSF := Lib.hid (show soundF (cutF (spF l) n0) 8192 from cutF_sound (spF_sound hg2 _) _)
  have CGA := Lib.hid (fun (W : World) (g : Nat) (hW : WB W g (cutF (spF l) n0)) => rgather_any g _ W hW HSF.out)
  generalize gatE (cutF (spF l) n0) 8192 = R at *
  clear hg h hlen hg1 hg2
  go_enter Try.func18, Try.ntmps18
  go_wp2_with (first
    | (go_at_call 33; refine (CS.out _ HB1.out).mono ?_; rintro e w3 ⟨g, rfl, hgs, hW, hB⟩; have HB3 := Lib.hid (blwO hB HB1.out); have hgw : w.heap.size ≤ g := Nat.le_trans HB1.out.size hgs; have HW3 := Lib.hid (show WB w3 g (cutK (spF l) n0 n0) from by rw [cutK_zero]; exact hW.congr clip_bytes); clear hgs hW hB)
    | (go_at_call 13; refine CG.out.mono ?_; rintro e w1 ⟨rfl, hb1⟩; have HB1 := Lib.hid hb1; clear hb1))
  go_loopw [6] (fun i wq => ∃ k : Nat, i = .int .i64 k ∧ n0 ≤ k ∧ (k = n0 ∨ k ≤ 8192) ∧ Hid (WB wq g (cutK (spF l) n0 k)) ∧ Hid (Below w.heap.size w wq)) (fun i _ => 8192 - (intOf i).toNat)
  case atStart => exact ⟨n0, rfl, Nat.le_refl _, .inl rfl, HW3, HB3⟩
  case round =>
    obtain ⟨k, rfl, hk1, hk2, HW, HB⟩ := hrel
    by_cases hlt : k < 8192
    · have k0 : (k : Int) < 8192 := by omega
      obtain ⟨⟨d0, d1⟩, f0, f1⟩ := HW.out.at hlt
      have HW5 := Lib.hid ((HW.out.set1 hlt (-1)).congr (fun j _ => cutK_next (spF l) hk1 j))
      have HB5 := Lib.hid (HB.out.setCell (p := ⟨g, k * 2, none⟩) hgw (.int .i64 (-1)))
      go_wp2_with fail
      go_roundw
      case rel => exact ⟨k + 1, by go_num, by omega, by omega, HW5, HB5⟩
      case measure => simp [intOf]; omega
    · have k0 : ¬ (k : Int) < 8192 := by omega
      have kI : (k : Int) ≤ 9223372036854775807 := by omega
      have HW5 := Lib.hid (HW.out.congr (fun j hj => cutK_done (spF l) (z := (n0 : Int)) rfl (by omega) j hj))
      clear hlt
      go_wp2_with (go_at_call 34; refine (CGA.out _ _ HW5.out).mono ?_; rintro e w7 ⟨v7, rfl, hO, hB⟩; have HB7 := Lib.hid (blwO hB HB.out); have HO7 := Lib.hid (OPa.lower hO HB.out.size); obtain ⟨a7, c7, hv7, _⟩ := OR.form par_rows hO; subst hv7; clear hO hB)
      go_ret
      exact ⟨_, rfl, HO7.out, HB7.out⟩
set_option maxHeartbeats 4000000 in
theorem rEnd_any (ao : Option Addr) (cap : Nat) (l : List Pt) (w : World) (h : PaL w ao l) (hlen : l.length ≤ maxLen) :
    Calls Try.prog 15 #[.slice ao l.length cap] w fun e w' => e = .returned (.int .i64 (endE l)) ∧ Below w.heap.size w w' := by
  have CG := Lib.hid (rgoodE_any ao cap l w h hlen)
  have HP := Lib.hid h
  have HR := Lib.hid (show endE l = if goodE l = true then endL l else 0 from rfl)
  have HL := Lib.hid (@endL_last l)
  unfold maxLen at hlen
  have hlen' : (l.length : Int) ≤ 9223372036854775807 := by omega
  clear h
  cases hg : goodE l
  · rw [hg] at CG HR
    clear hg hlen
    go_enter Try.func15, Try.ntmps15
    go_wp2_with (go_at_call 13; refine CG.out.mono ?_; rintro e w1 ⟨rfl, hb1⟩; have HB1 := Lib.hid hb1; clear hb1)
    go_ret
    rw [HR.out]
    exact ⟨rfl, HB1.out⟩
  rw [hg, if_pos rfl] at HR
  rw [hg] at CG
  by_cases h0 : l.length = 0
  · obtain rfl := List.eq_nil_of_length_eq_zero h0
    clear h0 hg
    go_enter Try.func15, Try.ntmps15
    go_wp2_with (go_at_call 13; refine CG.out.mono ?_; rintro e w1 ⟨rfl, hb1⟩; have HB1 := Lib.hid hb1; clear hb1)
    go_ret
    exact ⟨rfl, HB1.out⟩
  have z0 : ((l.length : Int) == 0) = false := beq_eq_false_iff_ne.2 (by omega)
  have hjl : l.length - 1 < l.length := by omega
  obtain ⟨y, hy⟩ : ∃ y, Hid (l[l.length - 1] = y) := ⟨_, Lib.hid rfl⟩
  have HLL := Lib.hid (show endL l = y.off + y.len from by rw [HL.out (by omega), hy.out]; rfl)
  obtain ⟨y1, y2, y3, _⟩ := oneB_iff.1 (show oneB y = true from by rw [← hy.out]; exact (rail_iff.1 (goodE_iff.1 hg).2).1 _ hjl)
  have i1 : (0 : Int) ≤ (l.length : Int) - 1 := by omega
  clear hg h0 hlen
  go_enter Try.func15, Try.ntmps15
  go_wp2_with (go_at_call 13; refine CG.out.mono ?_; rintro e w1 ⟨rfl, hb1⟩; have HB1 := Lib.hid hb1; clear hb1; obtain ⟨bk, off, hao, c0, c1, c2, c3⟩ := (HP.out.below HB1.out).at (l.length - 1) hjl; subst hao; rw [hy.out] at c0 c1 c2 c3)
  go_ret
  rw [HR.out, HLL.out]
  exact ⟨rfl, HB1.out.alloc HB1.out.size _⟩
end Go.Proofs.Ytjdhbpgipoifkaa
