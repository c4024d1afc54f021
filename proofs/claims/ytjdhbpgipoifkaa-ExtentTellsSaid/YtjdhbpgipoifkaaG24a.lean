/- The statements' own function wakes returns true. No conditions. -/
import Derived.Test.YtjdhbpgipoifkaaG23a
set_option linter.unusedVariables false
namespace Go.Proofs.Ytjdhbpgipoifkaa
open Go.RowKit Go.Sort
set_option linter.unusedVariables false
set_option maxRecDepth 20000
theorem wk_put : putE [⟨0, 10, 1, 0⟩] ⟨3, 2, 7, 5⟩ = ([⟨0, 3, 1, 0⟩, ⟨3, 2, 7, 5⟩, ⟨5, 5, 1, 5⟩], 0) := by
  have hr : railB [⟨0, 10, 1, 0⟩] = true := by kernel_rfl
  have hx : oneB ⟨3, 2, 7, 5⟩ = true := by kernel_rfl
  have hl : railB [⟨0, 3, 1, 0⟩, ⟨3, 2, 7, 5⟩, ⟨5, 5, 1, 5⟩] = true := by kernel_rfl
  rw [putE_yes (by kernel_rfl) hx, gat_is (l := [⟨0, 3, 1, 0⟩, ⟨3, 2, 7, 5⟩, ⟨5, 5, 1, 5⟩]) (putF_sound (spF_sound hr _) hx) hl (fun i => ?_)]
  · rfl
  · rw [tell_put hx, spF_tell hr]
    by_cases h : (3 : Int) ≤ i ∧ i < 3 + 2
    · rw [if_pos h, atE_no (x := ⟨0, 3, 1, 0⟩) (by show ¬ ((0 : Int) ≤ i ∧ i < 0 + 3); omega), atE_yes (x := ⟨3, 2, 7, 5⟩) h]
    · rw [if_neg h]
      by_cases a : (0 : Int) ≤ i ∧ i < 0 + 3
      · rw [atE_yes (x := ⟨0, 3, 1, 0⟩) a, atE_yes (x := ⟨0, 10, 1, 0⟩) (by show (0 : Int) ≤ i ∧ i < 0 + 10; omega)]
      · rw [atE_no (x := ⟨0, 3, 1, 0⟩) a, atE_no (x := ⟨3, 2, 7, 5⟩) h]
        by_cases b : (5 : Int) ≤ i ∧ i < 5 + 5
        · rw [atE_yes (x := ⟨5, 5, 1, 5⟩) b, atE_yes (x := ⟨0, 10, 1, 0⟩) (by show (0 : Int) ≤ i ∧ i < 0 + 10; omega)]
          show some ((1 : Int), (5 : Int) + (i - 5)) = some (1, 0 + (i - 0))
          congr 2
          omega
        · rw [atE_no (x := ⟨5, 5, 1, 5⟩) b, atE_no (x := ⟨0, 10, 1, 0⟩) (by show ¬ ((0 : Int) ≤ i ∧ i < 0 + 10); omega)]
theorem wk_move : moveE [⟨0, 3, 1, 0⟩, ⟨3, 2, 7, 5⟩, ⟨5, 5, 1, 5⟩] ⟨7, 5, 2, 0⟩ 9 = ([⟨0, 3, 1, 0⟩, ⟨3, 2, 9, 0⟩, ⟨5, 5, 1, 5⟩], 0) := by
  have hr : railB [⟨0, 3, 1, 0⟩, ⟨3, 2, 7, 5⟩, ⟨5, 5, 1, 5⟩] = true := by kernel_rfl
  have hm : mayB ⟨7, 5, 2, 0⟩ 9 = true := by kernel_rfl
  have hl : railB [⟨0, 3, 1, 0⟩, ⟨3, 2, 9, 0⟩, ⟨5, 5, 1, 5⟩] = true := by kernel_rfl
  have ht := mov_tell hr hm
  rw [moveE_yes (by kernel_rfl) hm, rail_same (m := [⟨0, 3, 1, 0⟩, ⟨3, 2, 9, 0⟩, ⟨5, 5, 1, 5⟩]) ht.1 hl (fun i => ?_)]
  · rfl
  · rw [ht.2]
    by_cases a : (0 : Int) ≤ i ∧ i < 0 + 3
    · rw [atE_yes (x := ⟨0, 3, 1, 0⟩) a, atE_yes (x := ⟨0, 3, 1, 0⟩) a]
      show some (mv1 ⟨7, 5, 2, 0⟩ 9 (1, 0 + (i - 0))) = _
      unfold mv1
      rw [if_neg (fun c => absurd (show (1 : Int) = 7 from c.1) (by decide))]
    · rw [atE_no (x := ⟨0, 3, 1, 0⟩) a, atE_no (x := ⟨0, 3, 1, 0⟩) a]
      by_cases h : (3 : Int) ≤ i ∧ i < 3 + 2
      · rw [atE_yes (x := ⟨3, 2, 7, 5⟩) h, atE_yes (x := ⟨3, 2, 9, 0⟩) h]
        show some (mv1 ⟨7, 5, 2, 0⟩ 9 (7, 5 + (i - 3))) = some (9, 0 + (i - 3))
        unfold mv1
        rw [if_pos ⟨rfl, by show (0 : Int) ≤ 5 + (i - 3) - 5; omega, by show (5 : Int) + (i - 3) - 5 < 2; omega⟩]
        show some ((9 : Int), (0 : Int) + (5 + (i - 3) - 5)) = some (9, 0 + (i - 3))
        congr 2
        omega
      · rw [atE_no (x := ⟨3, 2, 7, 5⟩) h, atE_no (x := ⟨3, 2, 9, 0⟩) h]
        by_cases b : (5 : Int) ≤ i ∧ i < 5 + 5
        · rw [atE_yes (x := ⟨5, 5, 1, 5⟩) b]
          show some (mv1 ⟨7, 5, 2, 0⟩ 9 (1, 5 + (i - 5))) = _
          unfold mv1
          rw [if_neg (fun c => absurd (show (1 : Int) = 7 from c.1) (by decide))]
        · rw [atE_no (x := ⟨5, 5, 1, 5⟩) b]
          rfl
theorem wk_plan : planE [⟨0, 3, 1, 0⟩, ⟨3, 2, 7, 5⟩, ⟨5, 5, 1, 5⟩] 4 8 = [⟨4, 1, 7, 6⟩, ⟨5, 5, 1, 5⟩, ⟨10, 2, -1, 0⟩] := by kernel_rfl
theorem wk_end : endE [⟨0, 3, 1, 0⟩, ⟨3, 2, 7, 5⟩, ⟨5, 5, 1, 5⟩] = 10 := by kernel_rfl
theorem wk_good : goodE [⟨0, 3, 1, 0⟩, ⟨3, 2, 7, 5⟩, ⟨5, 5, 1, 5⟩] = true := by kernel_rfl
theorem wk_cut : cutE [⟨0, 3, 1, 0⟩, ⟨3, 2, 7, 5⟩, ⟨5, 5, 1, 5⟩] 4 = [⟨0, 3, 1, 0⟩, ⟨3, 1, 7, 5⟩] := by
  have hr : railB [⟨0, 3, 1, 0⟩, ⟨3, 2, 7, 5⟩, ⟨5, 5, 1, 5⟩] = true := by kernel_rfl
  rw [(@cutE_few [⟨0, 3, 1, 0⟩, ⟨3, 2, 7, 5⟩, ⟨5, 5, 1, 5⟩] 4 (by kernel_rfl)).1, cut_is hr]
  rfl
theorem OPa.head {w : World} {B : Nat} {v : Value} {l : List Pt} (h : OPa w B v l) (hl : l ≠ []) : ∃ g cap, v = .slice (some ⟨g, 0, none⟩) l.length cap ∧ B ≤ g ∧ l.length ≤ cap := by
  rcases h.2 with ⟨_, h0⟩ | ⟨g, cap, cur, rfl, hb, _, hc, _⟩
  · exact absurd (List.eq_nil_of_length_eq_zero h0) hl
  · exact ⟨g, cap, rfl, hb, hc⟩
set_option maxHeartbeats 4000000 in
theorem wakes19 (w : World) : Calls Try.prog 10 #[] w fun e w' => e = .returned (.bool true) ∧ Below w.heap.size w w' := by
  have HB0 := Lib.hid (blwA w (.cells #[.int .i64 0, .int .i64 10, .int .i64 1, .int .i64 0] 31))
  have HR0 := Lib.hid (PtB.row (show PtB (w.alloc (.cells #[.int .i64 0, .int .i64 10, .int .i64 1, .int .i64 0] 31)) w.heap.size ⟨0, 10, 1, 0⟩ from heap_alloc_new _ _))
  have CP := Lib.hid (eput_any (some ⟨w.heap.size, 0, none⟩) 1 [⟨0, 10, 1, 0⟩] ⟨3, 2, 7, 5⟩ _ HR0.out (fun e => by cases e) (Nat.le_refl _) (by decide))
  rw [wk_put] at CP
  generalize hL : [(⟨0, 3, 1, 0⟩ : Pt), ⟨3, 2, 7, 5⟩, ⟨5, 5, 1, 5⟩] = L1 at *
  have hLL : L1.length = 3 := by rw [← hL]; rfl
  have CM := Lib.hid (fun (ao : Option Addr) (cap : Nat) (W : World) (h : PaL W ao L1) => emove_any ao cap L1 ⟨7, 5, 2, 0⟩ 9 W h (by rw [hLL]; decide))
  rw [show moveE L1 ⟨7, 5, 2, 0⟩ 9 = ([⟨0, 3, 1, 0⟩, ⟨3, 2, 9, 0⟩, ⟨5, 5, 1, 5⟩], 0) from by rw [← hL]; exact wk_move, hLL] at CM
  have CN := Lib.hid (fun (ao : Option Addr) (cap : Nat) (W : World) (h : PaL W ao L1) => eplan_any ao cap L1 4 8 W h (by rw [hLL]; decide))
  rw [show planE L1 4 8 = [⟨4, 1, 7, 6⟩, ⟨5, 5, 1, 5⟩, ⟨10, 2, -1, 0⟩] from by rw [← hL]; exact wk_plan, hLL] at CN
  have CE := Lib.hid (fun (ao : Option Addr) (cap : Nat) (W : World) (h : PaL W ao L1) => eEnd_any ao cap L1 W h (by rw [hLL]; decide))
  rw [show endE L1 = 10 from by rw [← hL]; exact wk_end, hLL] at CE
  have CG := Lib.hid (fun (ao : Option Addr) (cap : Nat) (W : World) (h : PaL W ao L1) => egood_any ao cap L1 W h (by rw [hLL]; decide))
  rw [show goodE L1 = true from by rw [← hL]; exact wk_good, hLL] at CG
  have CC := Lib.hid (fun (ao : Option Addr) (cap : Nat) (W : World) (h : PaL W ao L1) => ecut_any ao cap L1 4 (by decide) W h (by rw [hLL]; decide))
  rw [show cutE L1 4 = [⟨0, 3, 1, 0⟩, ⟨3, 1, 7, 5⟩] from by rw [← hL]; exact wk_cut, hLL] at CC
  have HL3 := Lib.hid hLL
  clear hL hLL
  go_enter Try.func10, Try.ntmps10
  go_wp2_with (first
    | (go_at_call 12; refine (CG.out _ _ _ HR6.out).mono ?_; rintro e w7 ⟨rfl, hB⟩; have HB7 := Lib.hid (blwO hB HB6.out); clear hB)
    | (go_at_call 17; refine (CC.out _ _ _ HR5.out).mono ?_; rintro e w6 ⟨v6, rfl, hO, hB⟩; have HB6 := Lib.hid (blwO hB HB5.out); have HR6 := Lib.hid (PaL.below HR5.out hB); obtain ⟨g6, c6, hv6, _, _⟩ := OPa.head hO (by simp); subst hv6; clear hO hB)
    | (go_at_call 14; refine (CE.out _ _ _ HR4.out).mono ?_; rintro e w5 ⟨rfl, hB⟩; have HB5 := Lib.hid (blwO hB HB4.out); have HR5 := Lib.hid (PaL.below HR4.out hB); clear hB)
    | (go_at_call 21; refine (CN.out _ _ _ HR3.out).mono ?_; rintro e w4 ⟨v4, rfl, hO, hB⟩; have HB4 := Lib.hid (blwO hB HB3.out); have HR4 := Lib.hid (PaL.below HR3.out hB); obtain ⟨g4, c4, hv4, _, _⟩ := OPa.head hO (by simp); subst hv4; obtain ⟨_, _, f2, _⟩ := PaL.atO (j := 2) hO rfl rfl; have f2 : w4.cell? ⟨g4, 10, none⟩ = some (.int .i64 (-1)) := f2; obtain ⟨_, _, d2, d3⟩ := PaL.atO (j := 1) (OR.below HO3.out hB) rfl rfl; have d2 : w4.cell? ⟨g3, 6, none⟩ = some (.int .i64 9) := d2; have d3 : w4.cell? ⟨g3, 7, none⟩ = some (.int .i64 0) := d3; clear hO hB)
    | (go_at_call 23; refine (CM.out _ _ _ HR2.out).mono ?_; rintro e w3 ⟨v3, rfl, hO, hB⟩; have HB3 := Lib.hid (blwO hB HB2.out); have HR3 := Lib.hid (PaL.below HR2.out hB); obtain ⟨g3, c3, hv3, _, _⟩ := OPa.head hO (by simp); subst hv3; have HO3 := Lib.hid hO; clear hO hB)
    | (go_at_call 19; refine CP.out.mono ?_; rintro e w2 ⟨v2, rfl, hO, hB⟩; have HB2 := Lib.hid (blwO hB HB0.out); obtain ⟨a2, c2, hv2, hr2, hz2⟩ := OR.form par_rows hO; clear hz2; rw [HL3.out] at hv2; subst hv2; have HR2 := Lib.hid (show PaL w2 a2 L1 from hr2); clear hO hB hr2))
  go_ret
  exact ⟨rfl, HB7.out⟩
end Go.Proofs.Ytjdhbpgipoifkaa
