/- The program's own Drop, Do and Held. Conditions: as each statement says. (Written by gen/genhmpg.py.) Questions to the program's and to the document's hand that lie side by side. Conditions: the program's functions return what HandSays says; the questions were handed over, and are not too large. -/
import Derived.Test.YtkicjgaejieinaaGreatG28a
import Derived.Test.YtkicjgaejieinaaGreatG27b
import Derived.Test.YtkicjgaejieinaaGreatG10b
import Derived.StillTailTactics
set_option linter.unusedVariables false
namespace Go.Proofs.YtkicjgaejieinaaGreat
set_option linter.unusedVariables false
open Go.RowKit
set_option maxRecDepth 20000
theorem leaves_then {β : Type} {U : (Nat → Prop) → World → β → Prop} {G G1 : Nat → Prop} {w w2 W : World} {s : β} (h1 : Kept (fun k => ¬ G k) w w2) (h3 : ∀ k, G1 k → G k ∨ w.heap.size ≤ k) (h : Leaves U G1 w2 W s) : Leaves U G w W s := by
  obtain ⟨G2, r1, r2, r3⟩ := h
  refine ⟨G2, r1, ⟨r2.os.trans h1.os, r2.tape.trans h1.tape, r2.output.trans h1.output, Nat.le_trans h1.size r2.size, fun k hg hkl => ?_⟩, fun k hk => ?_⟩
  · rw [r2.block k (fun h => (h3 k h).elim hg (fun h => by omega)) (Nat.lt_of_lt_of_le hkl h1.size)]
    exact h1.block k hg hkl
  · rcases r3 k hk with h | h
    · exact h3 k h
    · exact .inr (Nat.le_trans h1.size h)
section
variable {UG : Nat → Nat → (Nat → Prop) → World → Us → Prop} {OG : Nat → (Nat → Prop) → World → Od → Prop} {LG : Nat → (Nat → Prop) → World → Ly → Prop} {NG : Nat → (Nat → Prop) → World → Nd → Prop} {b nb : Nat} {G : Nat → Prop} {w : World} {h : Hd}
theorem drop_nil (k : Int) (w : World) : Calls Tryz.prog 16 #[.pointer none, .int .i64 k] w fun e w' => e = .returned (.bool false) ∧ Below w.heap.size w w' := by
  have HT := Lib.hid (take_nil k w)
  go_enter Tryz.func16, Tryz.ntmps16
  go_wp2_with (go_at_call 31; refine HT.out.mono ?_; rintro e w1 ⟨he, hb1⟩; obtain rfl : e = .returned (.tuple #[.agg #[.int .i64 0, .int .i64 0, .int .i64 0, .int .i64 0, .int .i64 0, .int .i64 0, .string ⟨#[]⟩, .int .i64 0, .slice none 0 0], .bool false]) := he)
  go_ret
  exact ⟨rfl, hb1.trans (below_new w1 _ |>.mono hb1.size)⟩
theorem do_nil_hand (k : Int) (w : World) : Calls Tryz.prog 14 #[.pointer none, .int .i64 k] w fun e w' => e = .returned (.bool false) ∧ Below w.heap.size w w' := by
  have HT := Lib.hid (take_nil k w)
  go_enter Tryz.func14, Tryz.ntmps14
  go_wp2_with (go_at_call 31; refine HT.out.mono ?_; rintro e w1 ⟨he, hb1⟩; obtain rfl : e = .returned (.tuple #[.agg #[.int .i64 0, .int .i64 0, .int .i64 0, .int .i64 0, .int .i64 0, .int .i64 0, .string ⟨#[]⟩, .int .i64 0, .slice none 0 0], .bool false]) := he)
  go_ret
  exact ⟨rfl, hb1.trans (below_new w1 _ |>.mono hb1.size)⟩
theorem drop_no (b nb : Nat) (G : Nat → Prop) (w : World) (h : Hd) (k : Int) (hh : HMz NG [] b nb G w h) (hk : ¬ (0 ≤ k ∧ k < h.held.length)) :
    Calls Tryz.prog 16 #[.pointer (some ⟨b, 0, none⟩), .int .i64 k] w fun e w' => e = .returned (.bool false) ∧ Below w.heap.size w w' := by
  have HT := Lib.hid (take_no b nb G w h k hh hk)
  clear hh hk
  go_enter Tryz.func16, Tryz.ntmps16
  go_wp2_with (go_at_call 31; refine HT.out.mono ?_; rintro e w1 ⟨he, hb1⟩; obtain rfl : e = .returned (.tuple #[.agg #[.int .i64 0, .int .i64 0, .int .i64 0, .int .i64 0, .int .i64 0, .int .i64 0, .string ⟨#[]⟩, .int .i64 0, .slice none 0 0], .bool false]) := he)
  go_ret
  exact ⟨rfl, hb1.trans (below_new w1 _ |>.mono hb1.size)⟩
theorem do_no (b nb : Nat) (G : Nat → Prop) (w : World) (h : Hd) (k : Int) (hh : HMz NG [] b nb G w h) (hk : ¬ (0 ≤ k ∧ k < h.held.length)) :
    Calls Tryz.prog 14 #[.pointer (some ⟨b, 0, none⟩), .int .i64 k] w fun e w' => e = .returned (.bool false) ∧ Below w.heap.size w w' := by
  have HT := Lib.hid (take_no b nb G w h k hh hk)
  clear hh hk
  go_enter Tryz.func14, Tryz.ntmps14
  go_wp2_with (go_at_call 31; refine HT.out.mono ?_; rintro e w1 ⟨he, hb1⟩; obtain rfl : e = .returned (.tuple #[.agg #[.int .i64 0, .int .i64 0, .int .i64 0, .int .i64 0, .int .i64 0, .int .i64 0, .string ⟨#[]⟩, .int .i64 0, .slice none 0 0], .bool false]) := he)
  go_ret
  exact ⟨rfl, hb1.trans (below_new w1 _ |>.mono hb1.size)⟩
theorem drop_yes (hN : ∀ b, Thing (NG b)) (b nb : Nat) (G : Nat → Prop) (w : World) (h : Hd) (k : Nat) (hh : HMz NG [] b nb G w h) (hk : k < h.held.length) :
    Calls Tryz.prog 16 #[.pointer (some ⟨b, 0, none⟩), .int .i64 k] w fun e w' => e = .returned (.bool true) ∧ Leaves (HMz NG [] b nb) G w w' ⟨h.n, lessK h.held k⟩ := by
  have HT := Lib.hid (take_yes hN b nb G w h k hh hk)
  clear hh
  go_enter Tryz.func16, Tryz.ntmps16
  go_wp2_with (go_at_call 31; refine HT.out.mono ?_; rintro e w1 ⟨⟨k0, un, ep, pg, sz, nn, s, pe, L, ao, cap⟩, he, _, hl⟩; obtain rfl : e = .returned (.tuple #[.agg #[.int .i64 k0, .int .i64 un, .int .i64 ep, .int .i64 pg, .int .i64 sz, .int .i64 nn, .string s, .int .i64 pe, .slice ao L.length cap], .bool true]) := he; have HL := Lib.hid hl; clear hl)
  go_ret
  obtain ⟨G1, r1, r2, r3⟩ := HL.out
  exact ⟨rfl, Leaves.below (hmz_thing hN [] b nb) ⟨G1, r1.less (fun a ha => by cases ha), r2, r3⟩ (below_new w1 _)⟩
/-- the nodes do a question that was held -/
theorem held_call (S : RpcSays UG OG LG NG) {a : Ak} (hh : HMz NG [a] b nb G w h) (hu : h.n.l.used.length ≤ 100000) :
    Calls Tryz.prog 27 #[.pointer (some ⟨nb, 0, none⟩), askV a] w fun e w' => ∃ v, e = .returned v ∧ Leaves (HMz NG [] b nb) G w w' ⟨h.n.done a, h.held⟩ := by
  obtain ⟨F, hF, hFG, hA, hturn⟩ := hh.turn S.thing
  obtain ⟨ho, hC⟩ := hA a (List.mem_singleton.2 rfl)
  refine (S.ask nb F w h.n a hF ho.ok ho.few ho.data hu hC).mono ?_
  intro e w' ht
  obtain ⟨ao, cap, C, he, hC2, hl⟩ := tells_chained ht
  obtain ⟨G2, r1, r2, r3⟩ := chain_less (hturn C _ _ w' _ hC2 hl)
  exact ⟨_, he, G2, r1.less (fun a ha => by cases ha), r2, r3⟩
set_option maxHeartbeats 1600000 in
theorem do_yes (S : RpcSays UG OG LG NG) (b nb : Nat) (G : Nat → Prop) (w : World) (h : Hd) (k : Nat) (hh : HMz NG [] b nb G w h) (hk : k < h.held.length) (hu : h.n.l.used.length ≤ 100000) :
    Calls Tryz.prog 14 #[.pointer (some ⟨b, 0, none⟩), .int .i64 k] w fun e w' => e = .returned (.bool true) ∧ Leaves (HMz NG [] b nb) G w w' ⟨h.n.done h.held[k], lessK h.held k⟩ := by
  have HT := Lib.hid (take_yes S.thing b nb G w h k hh hk)
  have HU := Lib.hid hu
  clear hh hu
  go_enter Tryz.func14, Tryz.ntmps14
  go_wp2_with (go_at_call 31; refine HT.out.mono ?_; rintro e w1 ⟨⟨k0, un, ep, pg, sz, nn, s, pe, L, ao, cap⟩, he, hp, hl⟩; obtain rfl : e = .returned (.tuple #[.agg #[.int .i64 k0, .int .i64 un, .int .i64 ep, .int .i64 pg, .int .i64 sz, .int .i64 nn, .string s, .int .i64 pe, .slice ao L.length cap], .bool true]) := he; have HL := Lib.hid hl; have HP := Lib.hid hp; clear hl hp)
  obtain ⟨G1, r1, r2, r3⟩ := HL.out
  have hb1 := below_new w1 (.cells #[.int .i64 k0, .int .i64 un, .int .i64 ep, .int .i64 pg, .int .i64 sz, .int .i64 nn, .string s, .int .i64 pe, .slice ao L.length cap] 34)
  have hq := heap_alloc_new w1 (.cells #[.int .i64 k0, .int .i64 un, .int .i64 ep, .int .i64 pg, .int .i64 sz, .int .i64 nn, .string s, .int .i64 pe, .slice ao L.length cap] 34)
  have t1 := (hmz_thing S.thing [⟨k0, un, ep, pg, sz, nn, s, pe, L, ao, cap⟩] b nb).keep r1 (Kept.ofBelow hb1 (fun _ => True)) (fun _ _ => trivial)
  have HK := Lib.hid (show Kept (fun j => ¬ G j) w (w1.alloc (.cells #[.int .i64 k0, .int .i64 un, .int .i64 ep, .int .i64 pg, .int .i64 sz, .int .i64 nn, .string s, .int .i64 pe, .slice ao L.length cap] 34)) from r2.below hb1)
  generalize hW2 : w1.alloc (.cells #[.int .i64 k0, .int .i64 un, .int .i64 ep, .int .i64 pg, .int .i64 sz, .int .i64 nn, .string s, .int .i64 pe, .slice ao L.length cap] 34) = W2 at *
  clear hW2
  have CP := Lib.hid (held_call S ((hmz_thing S.thing [⟨k0, un, ep, pg, sz, nn, s, pe, L, ao, cap⟩] b nb).keep t1 (Kept.refl (fun _ => True) W2).drew (fun _ _ => trivial)) HU.out)
  have R3 := Lib.hid r3
  have hb := t1.small
  obtain ⟨v, l, hc, _⟩ := t1.cells
  have y0 := cell_of hc 0
  have hbw := lt_of_block hq
  obtain ⟨⟨q0, q1, q2, q3, q4, q5, q6, q7, q8⟩, _⟩ := nine_of hq
  have y00 : W2.cell? ⟨b, 0, none⟩ = some (.pointer (some ⟨nb, 0, none⟩)) := y0
  clear HL HT r1 r2 r3 t1 hc hq y0 hb1
  go_still_tail 5, (by kernel_rfl)
  change wpList _ _ _ _ _ W2.drew
  go_wp2_with fail
  refine CP.out.mono ?_
  rintro e w3 ⟨v2, rfl, hl⟩
  go_wp2_with fail
  go_ret
  refine ⟨rfl, ?_⟩
  rw [← HP.out, plain_done]
  exact leaves_then HK.out.drew R3.out hl
theorem held_nil (w : World) : Calls Tryz.prog 18 #[.pointer none] w fun e w' => ∃ (ao : Option Addr) (cap : Nat), e = .returned (.slice ao 0 cap) ∧ Below w.heap.size w w' := by
  go_enter Tryz.func18, Tryz.ntmps18
  go_wp2_with fail
  go_ret
  exact ⟨none, 0, rfl, Below.refl _ _⟩
set_option maxHeartbeats 3200000 in
theorem held_any (b nb : Nat) (G : Nat → Prop) (w : World) (h : Hd) (hh : HMz NG [] b nb G w h) : Calls Tryz.prog 18 #[.pointer (some ⟨b, 0, none⟩)] w fun e w' => ∃ (ao : Option Addr) (cap : Nat) (l : List Ak), e = .returned (.slice ao h.held.length cap) ∧ l.map Ak.plain = h.held ∧ Row w' ao 9 askC l ∧ (∀ a ∈ l, CL w' a.ao a.L) ∧ Below w.heap.size w w' := by
  have hb := hh.small
  have h64 := hh.1
  obtain ⟨v, l, hc, hR, hm, hok⟩ := hh.cells
  have hl64 : l.length ≤ 64 := by rw [← hm, List.length_map] at h64; exact h64
  obtain ⟨vo, vc, rfl, hrow, g1, g2, g3, g4⟩ := hR.form
  obtain ⟨_, c1, _, _⟩ := two_cells hc
  clear g1 g2 g3 g4
  have HROW := Lib.hid hrow
  have HOK := Lib.hid hok
  have HM := Lib.hid hm
  clear hh h64 hc hR hm hok hrow
  go_enter Tryz.func18, Tryz.ntmps18
  go_wp2_with fail
  go_loopw [3, 13] (fun x i wr => ∃ (n : Nat) (l2 : List Ak), i = .int .i64 n ∧ n ≤ l.length ∧ Hid (OR 34 9 askC wr w.heap.size x l2) ∧ Hid (l2.map Ak.plain = (l.take n).map Ak.plain) ∧ Hid (∀ a ∈ l2, CK (fun k => w.heap.size ≤ k ∧ k < wr.heap.size ∧ x.ownBlock ≠ some k) wr a) ∧ Hid (Below w.heap.size w wr)) (fun _ i _ => l.length - (intOf i).toNat)
  case atStart => exact ⟨0, [], rfl, Nat.zero_le _, Lib.hid (OR.nil _ _), Lib.hid (by rw [List.take_zero]), Lib.hid (fun a ha => by cases ha), Lib.hid (Below.refl _ _)⟩
  case round =>
    obtain ⟨n, l2, rfl, hn, HO, HE, HC, HB⟩ := hrel
    have hl2 : l2.length = n := by
      have := congrArg List.length HE.out
      rw [List.length_map, List.length_map, List.length_take] at this
      omega
    by_cases hlt : n < l.length
    · have HRW := Lib.hid (show Row wr vo 9 askC l from Row.keep HROW.out (Kept.ofBelow HB.out (fun _ => True)) (fun _ _ => trivial))
      obtain ⟨bk, off, hvo, x0, x1, x2, x3, x4, x5, x6, x7, x8⟩ := ask_at HRW.out hlt
      subst hvo
      have hbk := block_lt_of_cell x0
      obtain ⟨ho, hcl⟩ := HOK.out l[n] (List.getElem_mem hlt)
      have HHO := Lib.hid ho
      have HCL := Lib.hid (hcl.below HB.out)
      have HTK := Lib.hid (show l.take (n + 1) = l.take n ++ [l[n]] from List.take_succ_eq_append_getElem hlt)
      have HOW := Lib.hid (HO.out.lt)
      have h0 : (n : Int) < (l.length : Int) := by omega
      have h1 : (0 : Int) ≤ (n : Int) := by omega
      have HL2 := Lib.hid (show l2.length + 1 ≤ 1000000 from by omega)
      clear ho hcl hl2
      generalize l[n] = a at *
      obtain ⟨k0, un, ep, pg, sz, nn, s, pe, L, ao, cap⟩ := a
      simp only at x0 x1 x2 x3 x4 x5 x6 x7 x8
      have HBW := Lib.hid (below_new wr (.cells #[.int .i64 k0, .int .i64 un, .int .i64 ep, .int .i64 pg, .int .i64 sz, .int .i64 nn, .string s, .int .i64 pe, .slice ao L.length cap] 34))
      have HSW := Lib.hid (show (wr.alloc (.cells #[.int .i64 k0, .int .i64 un, .int .i64 ep, .int .i64 pg, .int .i64 sz, .int .i64 nn, .string s, .int .i64 pe, .slice ao L.length cap] 34)).heap.size = wr.heap.size + 1 from by simp)
      go_wp2_with (first
        | (go_at_call 32; refine (apart_any ⟨k0, un, ep, pg, sz, nn, s, pe, L, ao, cap⟩ (wr.alloc (.cells #[.int .i64 k0, .int .i64 un, .int .i64 ep, .int .i64 pg, .int .i64 sz, .int .i64 nn, .string s, .int .i64 pe, .slice ao L.length cap] 34)) HHO.out (HCL.out.below HBW.out)).mono ?_; rintro e w1 ⟨a1, n1, he, ho1, hk1, hb1⟩; obtain rfl : e = .returned (.agg #[.int .i64 k0, .int .i64 un, .int .i64 ep, .int .i64 pg, .int .i64 sz, .int .i64 nn, .string s, .int .i64 pe, .slice a1 L.length n1]) := he; have HB1 := Lib.hid (show Below wr.heap.size wr w1 from HBW.out.trans (hb1.mono HBW.out.size)); have HC1 := Lib.hid hk1; have HS1 := Lib.hid (show wr.heap.size + 1 ≤ w1.heap.size from (by have := hb1.size; have := HSW.out; omega)); have hone := Row.one (f := askC) (n := 9) (x := (⟨k0, un, ep, pg, sz, nn, s, pe, L, a1, n1⟩ : Ak)) (heap_alloc_new w1 (.cells #[.int .i64 k0, .int .i64 un, .int .i64 ep, .int .i64 pg, .int .i64 sz, .int .i64 nn, .string s, .int .i64 pe, .slice a1 L.length n1] 34)); clear ho1 hk1 hb1)
        | (refine wpList_app_rows ask_rows (o := ⟨some 21, _, _, _, _, _⟩) rfl (.tmp 17) (.tmp 20) rfl (B := w.heap.size) (D := l2) rfl (HO.out.below (HB1.out.trans ((below_new w1 _).mono HB1.out.size))) (ao := some ⟨w1.heap.size, 0, none⟩) (cap := 1) (l := [(⟨k0, un, ep, pg, sz, nn, s, pe, L, a1, n1⟩ : Ak)]) (m := 1) rfl rfl hone (fun e => by cases e) (Nat.le_refl _) HL2.out (by have := HB.out.size; have := HB1.out.size; simp; omega) ?_; intro v2 w2 hI hg hown; have HI := Lib.hid hI; have HG := Lib.hid hg; have HW := Lib.hid hown; clear hI hg hown))
      have K2 : Kept (fun j => u3.ownBlock ≠ some j) w1 w2 := ((Kept.refl _ w1).alloc _).grown HG.out (fun j e h => h e)
      have hw5 : v2.ownBlock = u3.ownBlock ∨ ∃ m, v2.ownBlock = some m ∧ w1.heap.size ≤ m := HW.out.imp id (fun h => ⟨_, h, by simp⟩)
      have hs2 := K2.size
      have hsr := HB.out.size
      refine ⟨⟨n + 1, l2 ++ [(⟨k0, un, ep, pg, sz, nn, s, pe, L, a1, n1⟩ : Ak)], by go_num, by omega, HI, Lib.hid ?_, Lib.hid (fun x hx => ?_), Lib.hid ?_⟩, by simp [intOf]; omega⟩
      · rw [HTK.out, List.map_append, List.map_append, HE.out]
        rfl
      · rcases List.mem_append.1 hx with hx | hx
        · refine ((HC.out x hx).keep ((Kept.ofBelow HB1.out (fun j => j < wr.heap.size ∧ u3.ownBlock ≠ some j)).trans (K2.mono (fun j h => h.2))) (fun j h => h.2)).more (fun j h => ⟨h.1, by have := h.2.1; have := HS1.out; omega, fun e => ?_⟩)
          rcases hw5 with h5 | ⟨m, h5, h6⟩
          · exact h.2.2 (by rw [← h5]; exact e)
          · rw [h5] at e
            have := Option.some.inj e
            have := h.2.1
            have := HS1.out
            omega
        · rw [List.mem_singleton.1 hx]
          have hsw := HSW.out
          refine (HC1.out.keep K2 (fun j h e => ?_)).more (fun j h => ⟨by have := h.1; omega, by have := h.2; omega, fun e => ?_⟩)
          · have := HOW.out j e; have := h.1; omega
          · rcases hw5 with h5 | ⟨m, h5, h6⟩
            · have := HOW.out j (by rw [← h5]; exact e); have := h.1; omega
            · rw [h5] at e
              have := Option.some.inj e
              have := h.2
              omega
      · exact ((HB.out.trans (HB1.out.mono hsr)).alloc (by have := HS1.out; omega) _).grown HG.out (by have := HS1.out; simp; omega) (fun j e => (HOW.out j e).1)
    · obtain rfl : n = l.length := by omega
      rw [List.take_of_length_le (Nat.le_refl _)] at HE
      obtain ⟨ao, cap, hx, hrw, _, _, _, _, _⟩ := HO.out.form ask_rows
      subst hx
      have h64 := hl64
      go_wp2_with fail
      go_ret
      have el : h.held.length = l2.length := by rw [← HM.out, List.length_map, hl2]
      exact ⟨ao, cap, l2, (by rw [el]; rfl), HE.out.trans HM.out, hrw, fun a ha => (HC.out a ha).here, HB.out⟩
end
end Go.Proofs.YtkicjgaejieinaaGreat
namespace Go.Proofs.YtkicjgaejieinaaGreat
set_option linter.unusedVariables false
open Go.RowKit
set_option maxRecDepth 20000
theorem side_right2 {α β : Type} {T : (Nat → Prop) → World → α → Prop} {U : (Nat → Prop) → World → β → Prop} {X : Nat → Prop} {w : World} {a : α} {b b' : β} {P : Program} {fn : FuncId} {args : Array Value} {R : Ending → Prop} (hT : Thing T) (hU : Thing U) (h : Side T U X w a b) (hc : ∀ G : Nat → Prop, U G w b → (∀ k, X k → ¬ G k) → Calls P fn args w fun e w' => R e ∧ Leaves U G w w' b') : Calls P fn args w fun e w' => R e ∧ Side T U X w' a b' ∧ Kept X w w' := by
  obtain ⟨h1, F, G, h2, h3, h4, h5⟩ := h
  refine (hc G h3 (fun k hk => (h4 k hk).2)).mono ?_
  rintro e w' ⟨he, G', r1, r2, r3⟩
  refine ⟨he, ⟨fun k hk => Nat.lt_of_lt_of_le (h1 k hk) r2.size, F, G', hT.keep h2 r2 (fun k hf hg => h5 k hf hg), r1, fun k hk => ⟨(h4 k hk).1, fun hg => ?_⟩, fun k hf hg => ?_⟩, r2.mono (fun k hk => (h4 k hk).2)⟩
  · rcases r3 k hg with h | h
    · exact (h4 k hk).2 h
    · have := h1 k hk; omega
  · rcases r3 k hg with h | h
    · exact h5 k hf h
    · have := hT.lt h2 k hf; omega
section
variable {UG : Nat → Nat → (Nat → Prop) → World → Us → Prop} {OG : Nat → (Nat → Prop) → World → Od → Prop} {LG : Nat → (Nat → Prop) → World → Ly → Prop} {NG : Nat → (Nat → Prop) → World → Nd → Prop} {HG : Nat → Nat → (Nat → Prop) → World → Hd → Prop} {X : Nat → Prop} {w w1 : World} {b nb r rn : Nat} {h h0 : Hd} {a : Ak} {fate k : Int}
theorem few_of (hl : largeA a = false) : fewL a.L ∧ a.data.size ≤ 1000000 := by
  obtain ⟨h1, h2, h3⟩ := largeA_no hl
  exact ⟨⟨by omega, fun c hc => by have := h3 c hc; omega⟩, by omega⟩
/-- its chains stay where they are -/
theorem chain_on (ha : AkIn w a) (hB : Below w.heap.size w w1) (hz : w.heap.size ≤ w1.heap.size) (hX : ∀ k, k < w.heap.size → X k) {F : Nat → Prop} (hF : ∀ k, X k → ¬ F k) {W : World} (hk : Kept (fun k => ¬ F k) w1 W) : CL W a.ao a.L :=
  ha.2.below (hB.trans ((hk.mono (T := fun k => k < w.heap.size) (fun k h => hF k (hX k h))).toBelow hz (fun k h => h)))
theorem s_hask (HS : HandSays UG OG LG NG HG) (hs : Side (HG b nb) (RH r rn) X w1 h.plain h) (hX : ∀ k, k < w.heap.size → X k) (hB : Below w.heap.size w w1) (hz : w.heap.size ≤ w1.heap.size) (ha : AkIn w a) (hl : largeA a = false) (hu : h.n.l.used.length ≤ 100000) (hf : i64w fate) :
    Calls Tryz.prog 11 #[.pointer (some ⟨b, 0, none⟩), askV a, .int .i64 fate] w1 fun e w' => ∃ (ao : Option Addr) (cap : Nat) (C : Nat → Prop), e = .returned (heardT (h.heard a fate) (decide (fate = 0)) ao cap) ∧ CG C w' (.slice ao (h.heard a fate).L.length cap) (h.heard a fate).L ∧ Side (HG b nb) (RH r rn) (fun k => X k ∨ C k) w' (h.asked a fate).plain h ∧ Kept X w1 w' := by
  rw [plain_ask]
  exact side_told (HS.thing b nb) (rh_thing r rn) hs (fun F hF hXF => HS.ask b nb F w1 h.plain a fate hF ha.1 (few_of hl).1 (few_of hl).2 hu hf (fun W hk => chain_on ha hB hz hX hXF hk))
theorem h_rask (HS : HandSays UG OG LG NG HG) (hs : Side (HG b nb) (RH r rn) X w1 h0 h) (hX : ∀ k, k < w.heap.size → X k) (hB : Below w.heap.size w w1) (hz : w.heap.size ≤ w1.heap.size) (ha : AkIn w a) (hl : largeA a = false) (hu : h.n.l.used.length ≤ 100000) :
    Calls Tryz.prog 12 #[.pointer (some ⟨r, 0, none⟩), askV a, .int .i64 fate] w1 fun e w' => ∃ (ao : Option Addr) (cap : Nat) (C : Nat → Prop), e = .returned (heardV (h.heard a fate) (decide (fate = 0)) ao cap) ∧ CG C w' (.slice ao (h.heard a fate).L.length cap) (h.heard a fate).L ∧ Side (HG b nb) (RH r rn) (fun k => X k ∨ C k) w' h0 (h.asked a fate) ∧ Kept X w1 w' :=
  side_told_right (HS.thing b nb) (rh_thing r rn) hs (fun F hF hXF => rh_ask_any r rn F w1 h a fate hF ha.1.epoch (few_of hl).2 hu (fun W hk => chain_on ha hB hz hX hXF hk) (few_of hl).1)
theorem s_hdo (HS : HandSays UG OG LG NG HG) (hs : Side (HG b nb) (RH r rn) X w1 h.plain h) (hu : h.n.l.used.length ≤ 100000) (hk : i64w k) :
    Calls Tryz.prog 14 #[.pointer (some ⟨b, 0, none⟩), .int .i64 k] w1 fun e w' => e = .returned (.bool (h.has k)) ∧ Side (HG b nb) (RH r rn) X w' (h.does k).plain h ∧ Kept X w1 w' := by
  rw [plain_does, ← plain_has]
  exact side_left (R := fun e => e = .returned (.bool (h.plain.has k))) (HS.thing b nb) (rh_thing r rn) hs (fun F hF => HS.does b nb F w1 h.plain k hF hu hk)
theorem s_hdrop (HS : HandSays UG OG LG NG HG) (hs : Side (HG b nb) (RH r rn) X w1 h.plain h) (hk : i64w k) :
    Calls Tryz.prog 16 #[.pointer (some ⟨b, 0, none⟩), .int .i64 k] w1 fun e w' => e = .returned (.bool (h.has k)) ∧ Side (HG b nb) (RH r rn) X w' (h.drops k).plain h ∧ Kept X w1 w' := by
  rw [plain_drops, ← plain_has]
  exact side_left (R := fun e => e = .returned (.bool (h.plain.has k))) (HS.thing b nb) (rh_thing r rn) hs (fun F hF => HS.drop b nb F w1 h.plain k hF hk)
theorem h_rdrop (HS : HandSays UG OG LG NG HG) (hs : Side (HG b nb) (RH r rn) X w1 h0 h) :
    Calls Tryz.prog 17 #[.pointer (some ⟨r, 0, none⟩), .int .i64 k] w1 fun e w' => e = .returned (.bool (h.has k)) ∧ Side (HG b nb) (RH r rn) X w' h0 (h.drops k) ∧ Kept X w1 w' :=
  side_right (R := fun e => e = .returned (.bool (h.has k))) (HS.thing b nb) (rh_thing r rn) hs (fun F hF => rh_drop_any r rn F w1 h k hF)
theorem h_rdo (HS : HandSays UG OG LG NG HG) (hs : Side (HG b nb) (RH r rn) X w1 h0 h) (hX : ∀ k, k < w.heap.size → X k) (hB : Below w.heap.size w w1) (hz : w.heap.size ≤ w1.heap.size) (hh : HeldIn w h) (hu : h.n.l.used.length ≤ 100000) :
    Calls Tryz.prog 15 #[.pointer (some ⟨r, 0, none⟩), .int .i64 k] w1 fun e w' => e = .returned (.bool (h.has k)) ∧ Side (HG b nb) (RH r rn) X w' h0 (h.does k) ∧ Kept X w1 w' := by
  exact side_right2 (R := fun e => e = .returned (.bool (h.has k))) (HS.thing b nb) (rh_thing r rn) hs (fun G hG hXG => rh_do_any r rn G w1 h k hG hu (fun a ha => by
    obtain ⟨i1, i2⟩ := hh a ha
    exact ⟨i1.1.epoch, (few_of i2).2, fun W hk => chain_on i1 hB hz hX hXG hk, (few_of i2).1⟩))
/-- what an answer tells is not too long -/
theorem heard_small {h : Hd} (hg : goodB h.n.l.ep h.n.l.L = true) (a : Ak) (fate : Int) : (h.heard a fate).L.length ≤ 1000000 ∧ ∀ c ∈ (h.heard a fate).L, c.length ≤ 1000000 := by
  unfold Hd.heard
  split
  · exact ⟨Nat.le_trans (nd_small hg a).1 (by decide), fun c hc => Nat.le_trans ((nd_small hg a).2 c hc) (by decide)⟩
  · exact ⟨Nat.zero_le _, fun c hc => by cases hc⟩
theorem LookH.good (HS : HandSays UG OG LG NG HG) (hl : LookH HG w.heap.size w b nb r rn h w1) : goodB h.n.l.ep h.n.l.L = true := by
  obtain ⟨_, F, hF, _⟩ := (hl.solos HS).1
  exact (HS.rpc.ok hF).2.2
theorem s_held (HS : HandSays UG OG LG NG HG) {B : Nat} {W : World} (hl : LookH HG B w b nb r rn h W) :
    Calls Tryz.prog 18 #[.pointer (some ⟨b, 0, none⟩)] W fun e w' => ∃ (ao : Option Addr) (cap : Nat) (l : List Ak), e = .returned (.slice ao h.held.length cap) ∧ l.map Ak.plain = h.held.map Ak.plain ∧ Row w' ao 9 askC l ∧ (∀ a ∈ l, CL w' a.ao a.L) ∧ LookH HG B w b nb r rn h w' ∧ Below W.heap.size W w' := by
  obtain ⟨_, F, _, hF, _⟩ := hl.1
  refine (HS.held b nb F W h.plain hF).mono ?_
  rintro e w' ⟨ao, cap, l, he, h1, h2, h3, h4⟩
  rw [show h.plain.held.length = h.held.length from List.length_map ..] at he
  exact ⟨ao, cap, l, he, h1, h2, h3, hl.below HS h4, h4⟩
theorem s_nodes (HS : HandSays UG OG LG NG HG) {B : Nat} {W : World} (hl : LookH HG B w b nb r rn h W) :
    Calls Tryz.prog 21 #[.pointer (some ⟨b, 0, none⟩)] W fun e w' => e = .returned (.pointer (some ⟨nb, 0, none⟩)) ∧ LookH HG B w b nb r rn h w' ∧ Below W.heap.size W w' := by
  obtain ⟨_, F, _, hF, _⟩ := hl.1
  refine (HS.nodes b nb F W h.plain hF).mono ?_
  rintro e w' ⟨he, hb⟩
  exact ⟨he, hl.below HS hb, hb⟩
theorem s_same14 (HS : HandSays UG OG LG NG HG) {B : Nat} {W : World} (hl : LookH HG B w b nb r rn h W) :
    Calls Tryz.prog 20 #[.pointer (some ⟨nb, 0, none⟩), .pointer (some ⟨rn, 0, none⟩)] W fun e w' => e = .returned (.bool true) ∧ LookH HG B w b nb r rn h w' := by
  obtain ⟨h1, h2⟩ := hl.solos HS
  refine (same13_any HS.rpc nb rn _ h.n W h1 h2).mono ?_
  rintro e w' ⟨he, hb⟩
  exact ⟨he, hl.below HS hb⟩
theorem held_pair {l l2 : List Ak} (hm : l2.map Ak.plain = l.map Ak.plain) {i : Nat} (hi : i < l.length) : ∃ (hi2 : i < l2.length) (ao : Option Addr) (cap : Nat), l2[i] = ⟨l[i].kind, l[i].unit, l[i].epoch, l[i].page, l[i].size, l[i].n, l[i].data, l[i].pe, l[i].L, ao, cap⟩ := by
  have hlen : l2.length = l.length := by have := congrArg List.length hm; simpa using this
  have hi2 : i < l2.length := by omega
  have h1 : l2[i].plain = l[i].plain := by
    have h2 : (l2.map Ak.plain)[i]'(by simpa using hi2) = (l.map Ak.plain)[i]'(by simpa using hi) := by simp only [hm]
    simpa using h2
  refine ⟨hi2, l2[i].ao, l2[i].cap, ?_⟩
  generalize l2[i] = a at *
  generalize l[i] = c at *
  obtain ⟨k, u, ep, pg, sz, n, s, pe, L, ao, cap⟩ := a
  obtain ⟨k2, u2, ep2, pg2, sz2, n2, s2, pe2, L2, bo, cb⟩ := c
  unfold Ak.plain at h1
  simp only [Ak.mk.injEq, and_true] at h1
  obtain ⟨rfl, rfl, rfl, rfl, rfl, rfl, rfl, rfl, rfl⟩ := h1
  rfl
end
end Go.Proofs.YtkicjgaejieinaaGreat
