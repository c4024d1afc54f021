/- The program's hand keeps all that the laws of a hand ask, over any nodes that keep what the laws of all nodes ask. Conditions: as each statement says. -/
import Derived.Test.YtkicjgaejieinaaGreatG29a
set_option linter.unusedVariables false
namespace Go.Proofs.YtkicjgaejieinaaGreat
set_option linter.unusedVariables false
open Go.RowKit
set_option maxRecDepth 20000
section
variable {UG : Nat → Nat → (Nat → Prop) → World → Us → Prop} {OG : Nat → (Nat → Prop) → World → Od → Prop} {LG : Nat → (Nat → Prop) → World → Ly → Prop} {NG : Nat → (Nat → Prop) → World → Nd → Prop}
/-- a hand over no nodes -/
def NoH (b : Nat) (w : World) : Prop := w.heap[b]? = some (.cells #[.pointer none, .slice none 0 0] 70 (0, 0))
theorem nodes_noh {b : Nat} {w : World} (h : NoH b w) : Calls Tryz.prog 21 #[.pointer (some ⟨b, 0, none⟩)] w fun e w' => e = .returned (.pointer none) ∧ w = w' := by
  have c0 := cell_of h 0
  have hb := lt_of_block h
  clear h
  go_enter Tryz.func21, Tryz.ntmps21
  go_wp2_with fail
  go_ret
  exact ⟨rfl, rfl⟩
theorem ask_none (p : Option Addr) (a : Ak) (fate : Int) (w : World) (h : ∀ W, Below w.heap.size w W → Calls Tryz.prog 21 #[.pointer p] W fun e w' => e = .returned (.pointer none) ∧ W = w') :
    Calls Tryz.prog 11 #[.pointer p, askV a, .int .i64 fate] w fun e w' => e = .returned (heardT zeroX false none 0) ∧ Below w.heap.size w w' := by
  obtain ⟨k, un, ep, pg, sz, nn, s, pe, L, ao, cap⟩ := a
  have hb : Below w.heap.size w ((w.alloc (.cells #[.int .i64 k, .int .i64 un, .int .i64 ep, .int .i64 pg, .int .i64 sz, .int .i64 nn, .string s, .int .i64 pe, .slice ao L.length cap] 34)).alloc (.cells zero8 38)) := ((Below.refl _ _).alloc (Nat.le_refl _) _).alloc (by simp) _
  have hq := (two_blocks w #[.int .i64 k, .int .i64 un, .int .i64 ep, .int .i64 pg, .int .i64 sz, .int .i64 nn, .string s, .int .i64 pe, .slice ao L.length cap] zero8 34 38).2
  generalize hW0 : ((w.alloc (.cells #[.int .i64 k, .int .i64 un, .int .i64 ep, .int .i64 pg, .int .i64 sz, .int .i64 nn, .string s, .int .i64 pe, .slice ao L.length cap] 34)).alloc (.cells zero8 38)) = W0 at *
  have EW := Lib.hid (show ((w.alloc (.cells #[.int .i64 k, .int .i64 un, .int .i64 ep, .int .i64 pg, .int .i64 sz, .int .i64 nn, .string s, .int .i64 pe, .slice ao L.length cap] 34)).alloc (.cells #[.int .i64 0, .int .i64 0, .string ⟨#[]⟩, .int .i64 0, .slice none 0 0, .int .i64 0, .int .i64 0, .int .i64 0] 38)) = W0 from hW0)
  have HN := Lib.hid (h W0 hb)
  have HQ := Lib.hid hq
  have HB := Lib.hid hb
  have hl := lt_of_block hq
  obtain ⟨⟨ny0, ny1, ny2, ny3, ny4, ny5, ny6, ny7⟩, nf0, nf1, nf2, nf3, nf4, nf5, nf6, nf7⟩ := eight_cells hq
  clear hW0 hq hb h
  show Calls _ _ #[.pointer p, .agg #[.int .i64 k, .int .i64 un, .int .i64 ep, .int .i64 pg, .int .i64 sz, .int .i64 nn, .string s, .int .i64 pe, .slice ao L.length cap], .int .i64 fate] w _
  go_enter Tryz.func11, Tryz.ntmps11
  go_wp2_with (go_at_call 21; rw [EW.out]; refine HN.out.mono ?_; rintro e w1 ⟨rfl, rfl⟩)
  exact ans_ret2 (x := zeroX) (ao := none) (cap := 0) (c := false) rfl (hp_eight HQ.out (.int .i64 0) (.int .i64 0) (.string ⟨#[]⟩) (.int .i64 0) (.slice none 0 0) (.int .i64 0) (.int .i64 0) (.int .i64 0)) rfl rfl rfl ⟨rfl, HB.out.trans (((hp_eight_kept W0 (w.heap.size + 1) (.int .i64 0) (.int .i64 0) (.string ⟨#[]⟩) (.int .i64 0) (.slice none 0 0) (.int .i64 0) (.int .i64 0) (.int .i64 0)).mono (T := fun j => j < w.heap.size) (fun j h => by omega)).toBelow (by omega) (fun j h => h))⟩
theorem take_noh {b : Nat} {w : World} (h : NoH b w) (k : Int) : Calls Tryz.prog 31 #[.pointer (some ⟨b, 0, none⟩), .int .i64 k] w fun e w' => e = .returned (.tuple #[askV zeroQ, .bool false]) ∧ Below w.heap.size w w' := by
  have HQ := Lib.hid (heap_alloc_new w (.cells #[.int .i64 0, .int .i64 0, .int .i64 0, .int .i64 0, .int .i64 0, .int .i64 0, .string ⟨#[]⟩, .int .i64 0, .slice none 0 0] 34))
  have HB := Lib.hid (below_new w (.cells #[.int .i64 0, .int .i64 0, .int .i64 0, .int .i64 0, .int .i64 0, .int .i64 0, .string ⟨#[]⟩, .int .i64 0, .slice none 0 0] 34))
  have hb := lt_of_block h
  obtain ⟨_, c1, _, _⟩ := two_cells h
  clear h
  by_cases h0 : k < 0
  · go_enter Tryz.func31, Tryz.ntmps31
    go_wp2_with fail
    exact ask_ret2 (x := zeroQ) (c := false) rfl HQ.out rfl rfl rfl ⟨rfl, HB.out⟩
  · have h2 : 0 ≤ k := by omega
    clear h0
    go_enter Tryz.func31, Tryz.ntmps31
    go_wp2_with fail
    exact ask_ret2 (x := zeroQ) (c := false) rfl HQ.out rfl rfl rfl ⟨rfl, HB.out⟩
theorem do_noh {b : Nat} {w : World} (h : NoH b w) (k : Int) : Calls Tryz.prog 14 #[.pointer (some ⟨b, 0, none⟩), .int .i64 k] w fun e w' => e = .returned (.bool false) ∧ Below w.heap.size w w' := by
  have HT := Lib.hid (take_noh h k)
  clear h
  go_enter Tryz.func14, Tryz.ntmps14
  go_wp2_with (go_at_call 31; refine HT.out.mono ?_; rintro e w1 ⟨he, hb1⟩; obtain rfl : e = .returned (.tuple #[.agg #[.int .i64 0, .int .i64 0, .int .i64 0, .int .i64 0, .int .i64 0, .int .i64 0, .string ⟨#[]⟩, .int .i64 0, .slice none 0 0], .bool false]) := he)
  go_ret
  exact ⟨rfl, hb1.trans (below_new w1 _ |>.mono hb1.size)⟩
theorem hnew_no (w : World) : Calls Tryz.prog 23 #[.pointer none] w fun e w' => ∃ b : Nat, e = .returned (.pointer (some ⟨b, 0, none⟩)) ∧ NoH b w' ∧ Below w.heap.size w w' := by
  have HP := Lib.hid (heap_alloc_new w (.cells #[.pointer none, .slice none 0 0] 70))
  have HB := Lib.hid (below_new w (.cells #[.pointer none, .slice none 0 0] 70))
  go_enter Tryz.func23, Tryz.ntmps23
  go_wp2_with fail
  go_ret
  exact ⟨w.heap.size, rfl, HP.out, HB.out⟩
theorem handSays_of (S : RpcSays UG OG LG NG) : HandSays UG OG LG NG (HM NG) where
  rpc := S
  thing := fun b nb => hmz_thing S.thing [] b nb
  nodes_in := by
    rintro b nb G w h ⟨_, v, l, F, C, _, _, _, h4, _, _, h7, _⟩
    exact ⟨F, h4, fun k hk => (h7 k hk).1⟩
  few := fun h => h.1
  new := fun nb F w n hF => hnew_any NG S.thing nb F w n hF
  new_no := fun w => (hnew_no w).mono fun e w' ⟨b, he, hn, hb⟩ => ⟨some ⟨b, 0, none⟩, he, hb, fun w2 hb2 =>
    ⟨fun a fate _ _ => ask_none _ a fate w2 (fun W hW => nodes_noh (below_heap hW (below_heap hb2 hn))), fun k _ => do_noh (below_heap hb2 hn) k⟩⟩
  ask := fun b nb G w h a fate hh ok hL hs hu hf hA => by
    by_cases h0 : fate = 0
    · subst h0
      exact hask_heard S b nb G w h a hh ok hL hs hu hA
    by_cases h2 : fate = 2
    · subst h2
      exact hask_deaf S b nb G w h a hh ok hL hs hu hA
    by_cases h3 : fate = 3
    · subst h3
      by_cases hl : h.held.length < 64
      · have e1 : h.heard a 3 = zeroX := if_neg h0
        have e2 : h.asked a.plain 3 = ⟨h.n, h.held ++ [a.plain]⟩ := by
          unfold Hd.asked
          rw [if_neg (by omega), if_pos ⟨rfl, hl⟩]
        rw [e1, e2]
        exact hask_held S b nb G w h a hh ok hL hs hA hl
      · have e1 : h.heard a 3 = zeroX := if_neg h0
        have e2 : h.asked a.plain 3 = h := by
          unfold Hd.asked
          rw [if_neg (by omega), if_neg (fun h5 => hl h5.2)]
        rw [e1, e2]
        exact hask_full S b nb G w h a hh hl
    · have e1 : h.heard a fate = zeroX := if_neg h0
      have e2 : h.asked a.plain fate = h := by
        unfold Hd.asked
        rw [if_neg (by omega), if_neg (fun h5 => h3 h5.1)]
      rw [e1, e2, decide_eq_false h0]
      exact hask_lost S b nb G w h a hh fate h0 h2 h3
  does := fun b nb G w h k hh hu hk => by
    by_cases h1 : 0 ≤ k ∧ k < h.held.length
    · obtain ⟨n, rfl⟩ := Int.eq_ofNat_of_zero_le h1.1
      have hn : n < h.held.length := by omega
      refine (do_yes S b nb G w h n hh hn hu).mono ?_
      rintro e w' ⟨he, hl⟩
      unfold Hd.does Hd.has
      rw [dif_pos h1]
      exact ⟨by rw [he, decide_eq_true h1.1, decide_eq_true h1.2]; rfl, hl⟩
    · refine (do_no b nb G w h k hh h1).mono ?_
      rintro e w' ⟨he, hb⟩
      unfold Hd.does Hd.has
      rw [dif_neg h1]
      refine ⟨?_, Leaves.same (hmz_thing S.thing [] b nb) hh hb⟩
      rw [he]
      by_cases h2 : 0 ≤ k
      · rw [decide_eq_true h2, decide_eq_false (fun h3 => h1 ⟨h2, h3⟩)]; rfl
      · rw [decide_eq_false h2]; rfl
  drop := fun b nb G w h k hh hk => by
    by_cases h1 : 0 ≤ k ∧ k < h.held.length
    · obtain ⟨n, rfl⟩ := Int.eq_ofNat_of_zero_le h1.1
      have hn : n < h.held.length := by omega
      refine (drop_yes S.thing b nb G w h n hh hn).mono ?_
      rintro e w' ⟨he, hl⟩
      unfold Hd.drops Hd.has
      rw [if_pos h1]
      exact ⟨by rw [he, decide_eq_true h1.1, decide_eq_true h1.2]; rfl, hl⟩
    · refine (drop_no b nb G w h k hh h1).mono ?_
      rintro e w' ⟨he, hb⟩
      unfold Hd.drops Hd.has
      rw [if_neg h1]
      refine ⟨?_, Leaves.same (hmz_thing S.thing [] b nb) hh hb⟩
      rw [he]
      by_cases h2 : 0 ≤ k
      · rw [decide_eq_true h2, decide_eq_false (fun h3 => h1 ⟨h2, h3⟩)]; rfl
      · rw [decide_eq_false h2]; rfl
  held := fun b nb G w h hh => held_any b nb G w h hh
  nodes := fun b nb G w h hh => (hnodes_any b nb G w h hh).mono fun e w' ⟨he, hw⟩ => ⟨he, hw ▸ Below.refl _ _⟩
  nil_ask := fun a fate w _ _ => ask_none none a fate w (fun W _ => hnodes_nil W)
  nil_do := fun k w _ => do_nil_hand k w
  nil_drop := fun k w _ => drop_nil k w
  nil_held := fun w => held_nil w
  nil_nodes := fun w => (hnodes_nil w).mono fun e w' ⟨he, hw⟩ => ⟨he, hw ▸ Below.refl _ _⟩
end
end Go.Proofs.YtkicjgaejieinaaGreat
