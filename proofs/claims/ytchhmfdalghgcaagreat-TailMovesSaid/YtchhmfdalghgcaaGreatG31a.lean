/- The program's hand keeps all that the laws of a hand ask: the nodes are the program's own. No conditions. What the laws' own helpers return: chains that they lay out, a tail by a hand whose questions are all heard, and that the laws are awake. Conditions: the program's functions return what HandSays and TailSays say. (Written by gen/gentalx.py.) -/
import Derived.Test.YtchhmfdalghgcaaGreatG30a
import Derived.Test.YtchhmfdalghgcaaGreatG28a
set_option linter.unusedVariables false
namespace Go.Proofs.YtchhmfdalghgcaaGreat
set_option linter.unusedVariables false
open Go.RowKit
set_option maxRecDepth 20000
section
variable {UG : Nat → Nat → (Nat → Prop) → World → Us → Prop} {OG : Nat → (Nat → Prop) → World → Od → Prop} {LG : Nat → (Nat → Prop) → World → Ly → Prop} {NG : Nat → (Nat → Prop) → World → Nd → Prop}
theorem handSays_of (S : RpcSays UG OG LG NG) : HandSays UG OG LG NG (HM NG) where
  rpc := S
  thing := fun b nb => hmz_thing S.thing [] b nb
  within := fun hh => hh.within S.thing
  nodes_in := by
    rintro b nb G w h ⟨_, v, l, F, C, _, _, _, h4, _, _, h7, _⟩
    exact ⟨F, h4, fun k hk => (h7 k hk).1⟩
  few := fun h => h.1
  new := fun nb F w n hF => hnew_any NG S.thing nb F w n hF
  new_no := fun w => (hnew_no w).mono fun e w' ⟨b, he, hn, hb⟩ => ⟨some ⟨b, 0, none⟩, he, hb, fun w2 hb2 =>
    ⟨fun a fate _ _ => ask_none _ a fate w2 (fun W hW => nodes_noh (below_heap hW (below_heap hb2 hn))), fun k _ => do_noh (below_heap hb2 hn) k⟩⟩
  ask := fun b nb G w h a fate hh ok hL hs hu hf hA => by
    by_cases h0 : fate = 0
    · subst h0
      exact hask_heard S b nb G w h a hh ok hL hs hu hA
    by_cases h2 : fate = 2
    · subst h2
      exact hask_deaf S b nb G w h a hh ok hL hs hu hA
    by_cases h3 : fate = 3
    · subst h3
      by_cases hl : h.held.length < 64
      · have e1 : h.heard a 3 = zeroX := if_neg h0
        have e2 : h.asked a.plain 3 = ⟨h.n, h.held ++ [a.plain]⟩ := by
          unfold Hd.asked
          rw [if_neg (by omega), if_pos ⟨rfl, hl⟩]
        rw [e1, e2]
        exact hask_held S b nb G w h a hh ok hL hs hA hl
      · have e1 : h.heard a 3 = zeroX := if_neg h0
        have e2 : h.asked a.plain 3 = h := by
          unfold Hd.asked
          rw [if_neg (by omega), if_neg (fun h5 => hl h5.2)]
        rw [e1, e2]
        exact hask_full S b nb G w h a hh hl
    · have e1 : h.heard a fate = zeroX := if_neg h0
      have e2 : h.asked a.plain fate = h := by
        unfold Hd.asked
        rw [if_neg (by omega), if_neg (fun h5 => h3 h5.1)]
      rw [e1, e2, decide_eq_false h0]
      exact hask_lost S b nb G w h a hh fate h0 h2 h3
  does := fun b nb G w h k hh hu hk => by
    by_cases h1 : 0 ≤ k ∧ k < h.held.length
    · obtain ⟨n, rfl⟩ := Int.eq_ofNat_of_zero_le h1.1
      have hn : n < h.held.length := by omega
      refine (do_yes S b nb G w h n hh hn hu).mono ?_
      rintro e w' ⟨he, hl⟩
      unfold Hd.does Hd.has
      rw [dif_pos h1]
      exact ⟨by rw [he, decide_eq_true h1.1, decide_eq_true h1.2]; rfl, hl⟩
    · refine (do_no b nb G w h k hh h1).mono ?_
      rintro e w' ⟨he, hb⟩
      unfold Hd.does Hd.has
      rw [dif_neg h1]
      refine ⟨?_, Leaves.same (hmz_thing S.thing [] b nb) hh hb⟩
      rw [he]
      by_cases h2 : 0 ≤ k
      · rw [decide_eq_true h2, decide_eq_false (fun h3 => h1 ⟨h2, h3⟩)]; rfl
      · rw [decide_eq_false h2]; rfl
  nodes := fun b nb G w h hh => (hnodes_any b nb G w h hh).mono fun e w' ⟨he, hw⟩ => ⟨he, hw ▸ Below.refl _ _⟩
  nil_ask := fun a fate w _ _ => ask_none none a fate w (fun W _ => hnodes_nil W)
  nil_do := fun k w _ => do_nil_hand k w
  nil_nodes := fun w => (hnodes_nil w).mono fun e w' ⟨he, hw⟩ => ⟨he, hw ▸ Below.refl _ _⟩
end
theorem handSays : HandSays UM OM LM (RM UM OM LM) (HM (RM UM OM LM)) := handSays_of rpcSays
end Go.Proofs.YtchhmfdalghgcaaGreat
namespace Go.Proofs.YtchhmfdalghgcaaGreat
set_option linter.unusedVariables false
open Go.RowKit
set_option maxRecDepth 20000
theorem two17_any (w : World) : Calls Tryz.prog 7 #[] w fun e w' => ∃ ao : Option Addr, e = .returned (.agg #[.int .i64 0, .slice ao 1 1]) ∧ CL w' ao twT ∧ (ao = none → (1 : Nat) = 0) ∧ Below w.heap.size w w' := by
  have hs : (w.alloc (.cells #[.int .i64 0, .slice (some ⟨w.heap.size + 1 + 1, 0, none⟩) 1 1] 29)).heap.size = w.heap.size + 1 := by simp
  have h1 := (lit1_chain (w.alloc (.cells #[.int .i64 0, .slice (some ⟨w.heap.size + 1 + 1, 0, none⟩) 1 1] 29)) (l := [0, 1]) (num_small (by simp))).here.1
  have hb := lit1_below (w.alloc (.cells #[.int .i64 0, .slice (some ⟨w.heap.size + 1 + 1, 0, none⟩) 1 1] 29)) [0, 1]
  unfold lit1W at h1 hb
  rw [hs] at h1 hb
  have HC := Lib.hid (show CL (((w.alloc (.cells #[.int .i64 0, .slice (some ⟨w.heap.size + 1 + 1, 0, none⟩) 1 1] 29)).alloc (.cells #[.int .i64 0, .int .i64 1] 3)).alloc (.cells #[.slice (some ⟨w.heap.size + 1, 0, none⟩) 2 2] 44)) (some ⟨w.heap.size + 1 + 1, 0, none⟩) [[0, 1]] from h1)
  have HB := Lib.hid (show Below w.heap.size w (((w.alloc (.cells #[.int .i64 0, .slice (some ⟨w.heap.size + 1 + 1, 0, none⟩) 1 1] 29)).alloc (.cells #[.int .i64 0, .int .i64 1] 3)).alloc (.cells #[.slice (some ⟨w.heap.size + 1, 0, none⟩) 2 2] 44)) from (below_new w (.cells #[.int .i64 0, .slice (some ⟨w.heap.size + 1 + 1, 0, none⟩) 1 1] 29)).trans (hb.mono (Nat.le_succ _)))
  have HP := Lib.hid (below_heap (show Below (w.alloc (.cells #[.int .i64 0, .slice (some ⟨w.heap.size + 1 + 1, 0, none⟩) 1 1] 29)).heap.size (w.alloc (.cells #[.int .i64 0, .slice (some ⟨w.heap.size + 1 + 1, 0, none⟩) 1 1] 29)) (((w.alloc (.cells #[.int .i64 0, .slice (some ⟨w.heap.size + 1 + 1, 0, none⟩) 1 1] 29)).alloc (.cells #[.int .i64 0, .int .i64 1] 3)).alloc (.cells #[.slice (some ⟨w.heap.size + 1, 0, none⟩) 2 2] 44)) from by rw [hs]; exact hb) (heap_alloc_new w (.cells #[.int .i64 0, .slice (some ⟨w.heap.size + 1 + 1, 0, none⟩) 1 1] 29)))
  clear hs h1 hb
  go_enter Tryz.func7, Tryz.ntmps7
  go_wp2_with fail
  exact proj_ret rfl HP.out rfl rfl ⟨_, rfl, HC.out, fun e => (by cases e), HB.out⟩
theorem made17_two {UG : Nat → Nat → (Nat → Prop) → World → Us → Prop} {OG : Nat → (Nat → Prop) → World → Od → Prop} {LG : Nat → (Nat → Prop) → World → Ly → Prop} {NG : Nat → (Nat → Prop) → World → Nd → Prop} {HG : Nat → Nat → (Nat → Prop) → World → Hd → Prop} (HS : HandSays UG OG LG NG HG) (ao : Option Addr) (L : List (List Int)) (n : Nat) (hL : L.length = n) (room : Int) (w : World) (hC : CL w ao L) (hf : fewL L) (hg : goodB 0 L = true) (hr : 1 ≤ room ∧ room ≤ 4096) :
    Calls Tryz.prog 6 #[.agg #[.int .i64 0, .slice ao n n], .int .i64 room] w fun e w' => ∃ b nb : Nat, ∃ p : Value, e = .returned (.tuple #[.pointer (some ⟨b, 0, none⟩), p, .bool true]) ∧ Solo (HG b nb) (fun k => k < w.heap.size) w' ⟨newN 0 L room, []⟩ ∧ Below w.heap.size w w' := by
  subst hL
  refine (made14_yes HS 0 ao L.length L room w hC hf hg hr (i64w_small (x := 0) (by omega))).mono ?_
  rintro e w' ⟨b, nb, r, rn, he, hs, hb⟩
  exact ⟨b, nb, _, he, hs.left, hb⟩
theorem tks_made : TkS ⟨newN 0 twT 9, []⟩ 0 := ⟨rfl, (fun a ha => by cases ha), Nat.zero_le _, by decide +kernel⟩
theorem see_nil {UG : Nat → Nat → (Nat → Prop) → World → Us → Prop} {OG : Nat → (Nat → Prop) → World → Od → Prop} {LG : Nat → (Nat → Prop) → World → Ly → Prop} {NG : Nat → (Nat → Prop) → World → Nd → Prop} {HG : Nat → Nat → (Nat → Prop) → World → Hd → Prop} {TG : Nat → (Nat → Prop) → World → Tl → Prop} (HS : HandSays UG OG LG NG HG) (TS : TailSays TG)
    (b nb : Nat) (X : Nat → Prop) (w : World) (h0 : Hd) (hs : Solo (HG b nb) X w h0) (n : Nat) (hn : n ≤ 16384) (hT : TkS h0 n) (ao : Option Addr) (hC : CL w ao twT) (hno : ao = none → (1 : Nat) = 0) :
    Calls Tryz.prog 10 #[.pointer (some ⟨b, 0, none⟩), .agg #[.int .i64 0, .slice ao 1 1], .slice none 0 0] w fun e w' => ∃ h' : Hd, e = .returned (.tuple #[.int .i64 n, .int .i64 0, .bool true]) ∧ Solo (HG b nb) X w' h' ∧ Kept X w w' ∧ TkS h' n :=
  see_any HS TS b nb X w h0 hs n hn hT ao 1 hC hno (Nat.le_refl _) none 0 [] (Nat.zero_le _) (fun W _ => Row.nil _ _ _ _) (fun x hx => by cases hx)
set_option maxHeartbeats 8000000 in
theorem wakes17_any {UG : Nat → Nat → (Nat → Prop) → World → Us → Prop} {OG : Nat → (Nat → Prop) → World → Od → Prop} {LG : Nat → (Nat → Prop) → World → Ly → Prop} {NG : Nat → (Nat → Prop) → World → Nd → Prop} {HG : Nat → Nat → (Nat → Prop) → World → Hd → Prop} {TG : Nat → (Nat → Prop) → World → Tl → Prop} (HS : HandSays UG OG LG NG HG) (TS : TailSays TG) (w : World) : Calls Tryz.prog 8 #[] w fun e w' => e = .returned (.bool true) ∧ Below w.heap.size w w' := by
  have ZZ := Lib.hid (fun (x : Int) (h : 0 ≤ x ∧ x ≤ 110) => show i64w x from WalkArith.wf_i64 (by omega))
  have TT := Lib.hid (fun b nb => HS.thing b nb)
  have CT := Lib.hid two17_any
  have CM := Lib.hid (fun ao w hC => made17_two HS ao twT 1 rfl 9 w hC few_twT (by decide +kernel) (by decide))
  have CS := Lib.hid (fun b nb X W h hs n hn hT ao hC hno => see_nil HS TS b nb X W h hs n hn hT ao hC hno)
  go_enter Tryz.func8, Tryz.ntmps8
  go_wp2_with (first
    | (go_at_call 10; refine (CS.out b nb (fun k => k < w.heap.size) _ _ S6.out 1 (by omega) T6.out ao6 C6.out N6.out).mono ?_; rintro e w7 ⟨h7, rfl, hs7, hk7, _⟩; have B7 := Lib.hid (B6.out.trans (hk7.toBelow B6.out.size (fun j h => h))); clear hs7 hk7)
    | (go_at_call 7; refine (CT.out w5).mono ?_; rintro e w6 ⟨ao6, rfl, hC, hn, hb⟩; have S6 := Lib.hid (S5.out.below (TT.out b nb) hb); have B6 := Lib.hid (B5.out.trans (hb.mono B5.out.size)); have C6 := Lib.hid hC; have N6 := Lib.hid hn; have T6 := Lib.hid (T4.out.next (by omega)).2; clear hC hn hb)
    | (go_at_call 9; refine (ho_ask HS S4.out (k := 6) (un := 0) (e := 0) (p := 0) (s := ⟨#[]⟩) (fate := 0) (by omega) (ZZ.out 0 (by omega)) (ZZ.out 0 (by omega)) (ZZ.out 0 (by omega)) (by decide) T4.out.used (ZZ.out 0 (by omega))).mono ?_; rintro e w5 ⟨xc, xn, xm, xz, xe, xd, vo, vc, c, hc, rfl, hx, hs, hk⟩; have S5 := Lib.hid hs; have B5 := Lib.hid (B4.out.trans (hk.toBelow B4.out.size (fun j h => h))); clear hs hk hx hc)
    | (go_at_call 10; refine (CS.out b nb (fun k => k < w.heap.size) _ _ S3.out 0 (by omega) tks_made ao3 C3.out N3.out).mono ?_; rintro e w4 ⟨h4, rfl, hs4, hk4, ht4⟩; have S4 := Lib.hid hs4; have T4 := Lib.hid ht4; have B4 := Lib.hid (B3.out.trans (hk4.toBelow B3.out.size (fun j h => h))); clear hs4 hk4 ht4)
    | (go_at_call 7; refine (CT.out w2).mono ?_; rintro e w3 ⟨ao3, rfl, hC, hn, hb⟩; have S3 := Lib.hid (S2.out.below (TT.out b nb) hb); have B3 := Lib.hid (B2.out.trans (hb.mono B2.out.size)); have C3 := Lib.hid hC; have N3 := Lib.hid hn; clear hC hn hb)
    | (go_at_call 6; refine (CM.out _ _ C1.out).mono ?_; rintro e w2 ⟨b, nb, p, rfl, hs2, hb2⟩; have S2 := Lib.hid (hs2.less (fun k hk => Nat.lt_of_lt_of_le hk B1.out.size)); have B2 := Lib.hid (B1.out.trans (hb2.mono B1.out.size)); clear hs2 hb2)
    | (go_at_call 7; refine (CT.out w).mono ?_; rintro e w1 ⟨ao1, rfl, hC1, hn1, hb1⟩; have B1 := Lib.hid hb1; have C1 := Lib.hid hC1; clear hC1 hn1 hb1))
  go_ret
  exact ⟨rfl, B7.out⟩
end Go.Proofs.YtchhmfdalghgcaaGreat
