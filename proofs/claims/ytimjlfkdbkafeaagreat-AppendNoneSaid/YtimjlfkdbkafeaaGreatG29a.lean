/- The program's own Drop, Do and Held. Conditions: as each statement says. (Written by gen/genhmpg.py.) What the program's append asks, wherever it is. Conditions: it lies where the call was told; where it asks a unit, that is one of its chain. One question more of one of many appends, as the statements' own turn asks it; a row of them, and one more behind it (addTo). Conditions: the program's functions return what HandSays and AppSays say. -/
import Derived.Test.YtimjlfkdbkafeaaGreatG28a
import Derived.Test.YtimjlfkdbkafeaaGreatG27a
import Derived.Test.YtimjlfkdbkafeaaGreatG10b
import Derived.StillTailTactics
import Derived.Test.YtimjlfkdbkafeaaGreatG28b
import Derived.Test.YtimjlfkdbkafeaaGreatG13a
import Derived.Test.YtimjlfkdbkafeaaGreatG04a
import Derived.Laws.MakeOwn
set_option linter.unusedVariables false
namespace Go.Proofs.YtimjlfkdbkafeaaGreat
set_option linter.unusedVariables false
open Go.RowKit
set_option maxRecDepth 20000
theorem leaves_then {β : Type} {U : (Nat → Prop) → World → β → Prop} {G G1 : Nat → Prop} {w w2 W : World} {s : β} (h1 : Kept (fun k => ¬ G k) w w2) (h3 : ∀ k, G1 k → G k ∨ w.heap.size ≤ k) (h : Leaves U G1 w2 W s) : Leaves U G w W s := by
  obtain ⟨G2, r1, r2, r3⟩ := h
  refine ⟨G2, r1, ⟨r2.os.trans h1.os, r2.tape.trans h1.tape, r2.output.trans h1.output, Nat.le_trans h1.size r2.size, fun k hg hkl => ?_⟩, fun k hk => ?_⟩
  · rw [r2.block k (fun h => (h3 k h).elim hg (fun h => by omega)) (Nat.lt_of_lt_of_le hkl h1.size)]
    exact h1.block k hg hkl
  · rcases r3 k hk with h | h
    · exact h3 k h
    · exact .inr (Nat.le_trans h1.size h)
section
variable {UG : Nat → Nat → (Nat → Prop) → World → Us → Prop} {OG : Nat → (Nat → Prop) → World → Od → Prop} {LG : Nat → (Nat → Prop) → World → Ly → Prop} {NG : Nat → (Nat → Prop) → World → Nd → Prop} {b nb : Nat} {G : Nat → Prop} {w : World} {h : Hd}
theorem do_nil_hand (k : Int) (w : World) : Calls Tryz.prog 13 #[.pointer none, .int .i64 k] w fun e w' => e = .returned (.bool false) ∧ Below w.heap.size w w' := by
  have HT := Lib.hid (take_nil k w)
  go_enter Tryz.func13, Tryz.ntmps13
  go_wp2_with (go_at_call 43; refine HT.out.mono ?_; rintro e w1 ⟨he, hb1⟩; obtain rfl : e = .returned (.tuple #[.agg #[.int .i64 0, .int .i64 0, .int .i64 0, .int .i64 0, .int .i64 0, .int .i64 0, .string ⟨#[]⟩, .int .i64 0, .slice none 0 0], .bool false]) := he)
  go_ret
  exact ⟨rfl, hb1.trans (below_new w1 _ |>.mono hb1.size)⟩
theorem do_no (b nb : Nat) (G : Nat → Prop) (w : World) (h : Hd) (k : Int) (hh : HMz NG [] b nb G w h) (hk : ¬ (0 ≤ k ∧ k < h.held.length)) :
    Calls Tryz.prog 13 #[.pointer (some ⟨b, 0, none⟩), .int .i64 k] w fun e w' => e = .returned (.bool false) ∧ Below w.heap.size w w' := by
  have HT := Lib.hid (take_no b nb G w h k hh hk)
  clear hh hk
  go_enter Tryz.func13, Tryz.ntmps13
  go_wp2_with (go_at_call 43; refine HT.out.mono ?_; rintro e w1 ⟨he, hb1⟩; obtain rfl : e = .returned (.tuple #[.agg #[.int .i64 0, .int .i64 0, .int .i64 0, .int .i64 0, .int .i64 0, .int .i64 0, .string ⟨#[]⟩, .int .i64 0, .slice none 0 0], .bool false]) := he)
  go_ret
  exact ⟨rfl, hb1.trans (below_new w1 _ |>.mono hb1.size)⟩
/-- the nodes do a question that was held -/
theorem held_call (S : RpcSays UG OG LG NG) {a : Ak} (hh : HMz NG [a] b nb G w h) (hu : h.n.l.used.length ≤ 100000) :
    Calls Tryz.prog 41 #[.pointer (some ⟨nb, 0, none⟩), askV a] w fun e w' => ∃ v, e = .returned v ∧ Leaves (HMz NG [] b nb) G w w' ⟨h.n.done a, h.held⟩ := by
  obtain ⟨F, hF, hFG, hA, hturn⟩ := hh.turn S.thing
  obtain ⟨ho, hC⟩ := hA a (List.mem_singleton.2 rfl)
  refine (S.ask nb F w h.n a hF ho.ok ho.few ho.data hu hC).mono ?_
  intro e w' ht
  obtain ⟨ao, cap, C, he, hC2, hl⟩ := tells_chained ht
  obtain ⟨G2, r1, r2, r3⟩ := chain_less (hturn C _ _ w' _ hC2 hl)
  exact ⟨_, he, G2, r1.less (fun a ha => by cases ha), r2, r3⟩
set_option maxHeartbeats 1600000 in
theorem do_yes (S : RpcSays UG OG LG NG) (b nb : Nat) (G : Nat → Prop) (w : World) (h : Hd) (k : Nat) (hh : HMz NG [] b nb G w h) (hk : k < h.held.length) (hu : h.n.l.used.length ≤ 100000) :
    Calls Tryz.prog 13 #[.pointer (some ⟨b, 0, none⟩), .int .i64 k] w fun e w' => e = .returned (.bool true) ∧ Leaves (HMz NG [] b nb) G w w' ⟨h.n.done h.held[k], lessK h.held k⟩ := by
  have HT := Lib.hid (take_yes S.thing b nb G w h k hh hk)
  have HU := Lib.hid hu
  clear hh hu
  go_enter Tryz.func13, Tryz.ntmps13
  go_wp2_with (go_at_call 43; refine HT.out.mono ?_; rintro e w1 ⟨⟨k0, un, ep, pg, sz, nn, s, pe, L, ao, cap⟩, he, hp, hl⟩; obtain rfl : e = .returned (.tuple #[.agg #[.int .i64 k0, .int .i64 un, .int .i64 ep, .int .i64 pg, .int .i64 sz, .int .i64 nn, .string s, .int .i64 pe, .slice ao L.length cap], .bool true]) := he; have HL := Lib.hid hl; have HP := Lib.hid hp; clear hl hp)
  obtain ⟨G1, r1, r2, r3⟩ := HL.out
  have hb1 := below_new w1 (.cells #[.int .i64 k0, .int .i64 un, .int .i64 ep, .int .i64 pg, .int .i64 sz, .int .i64 nn, .string s, .int .i64 pe, .slice ao L.length cap] 35)
  have hq := heap_alloc_new w1 (.cells #[.int .i64 k0, .int .i64 un, .int .i64 ep, .int .i64 pg, .int .i64 sz, .int .i64 nn, .string s, .int .i64 pe, .slice ao L.length cap] 35)
  have t1 := (hmz_thing S.thing [⟨k0, un, ep, pg, sz, nn, s, pe, L, ao, cap⟩] b nb).keep r1 (Kept.ofBelow hb1 (fun _ => True)) (fun _ _ => trivial)
  have HK := Lib.hid (show Kept (fun j => ¬ G j) w (w1.alloc (.cells #[.int .i64 k0, .int .i64 un, .int .i64 ep, .int .i64 pg, .int .i64 sz, .int .i64 nn, .string s, .int .i64 pe, .slice ao L.length cap] 35)) from r2.below hb1)
  generalize hW2 : w1.alloc (.cells #[.int .i64 k0, .int .i64 un, .int .i64 ep, .int .i64 pg, .int .i64 sz, .int .i64 nn, .string s, .int .i64 pe, .slice ao L.length cap] 35) = W2 at *
  clear hW2
  have CP := Lib.hid (held_call S ((hmz_thing S.thing [⟨k0, un, ep, pg, sz, nn, s, pe, L, ao, cap⟩] b nb).keep t1 (Kept.refl (fun _ => True) W2).drew (fun _ _ => trivial)) HU.out)
  have R3 := Lib.hid r3
  have hb := t1.small
  obtain ⟨v, l, hc, _⟩ := t1.cells
  have y0 := cell_of hc 0
  have hbw := lt_of_block hq
  obtain ⟨⟨q0, q1, q2, q3, q4, q5, q6, q7, q8⟩, _⟩ := nine_of hq
  have y00 : W2.cell? ⟨b, 0, none⟩ = some (.pointer (some ⟨nb, 0, none⟩)) := y0
  clear HL HT r1 r2 r3 t1 hc hq y0 hb1
  go_still_tail 5, (by kernel_rfl)
  change wpList _ _ _ _ _ W2.drew
  go_wp2_with fail
  refine CP.out.mono ?_
  rintro e w3 ⟨v2, rfl, hl⟩
  go_wp2_with fail
  go_ret
  refine ⟨rfl, ?_⟩
  rw [← HP.out, plain_done]
  exact leaves_then HK.out.drew R3.out hl
end
end Go.Proofs.YtimjlfkdbkafeaaGreat
namespace Go.Proofs.YtimjlfkdbkafeaaGreat
set_option linter.unusedVariables false
open Go.RowKit
set_option maxRecDepth 20000
theorem ap_ask_over (b : Nat) (G : Nat → Prop) (w : World) (q : Qa) (h5 : q.at_ = 5) (h : AQ b G w q) :
    Calls Tryz.prog 10 #[ptrP b] w fun e w' => e = .returned (.tuple #[askV (zeroK), .bool false]) ∧ Below w.heap.size w w' := by
  have C := Lib.hid (fun w (h : AQ b G w q) => ap_isOver b G w q h)
  rw [decide_eq_true h5] at C
  have HA := Lib.hid (h.below (below_new w (.cells #[.int .i64 0, .int .i64 0, .int .i64 0, .int .i64 0, .int .i64 0, .int .i64 0, .string ⟨#[]⟩, .int .i64 0, .slice none 0 0] 35)))
  obtain ⟨ao, cap, h1, _⟩ := HA.out.open
  obtain ⟨⟨c0, c1, c2, c3, c4, c5, c6, c7, c8⟩, _⟩ := nine_of h1
  have hb := lt_of_block h1
  clear h h1
  unfold ptrP at *
  go_enter Tryz.func10, Tryz.ntmps10
  go_wp2_with (go_at_call 36; refine (C.out _ HA.out).mono ?_; rintro e w1 ⟨rfl, rfl⟩)
  exact ask_ret2 (x := zeroK) rfl (heap_alloc_new w (.cells #[.int .i64 0, .int .i64 0, .int .i64 0, .int .i64 0, .int .i64 0, .int .i64 0, .string ⟨#[]⟩, .int .i64 0, .slice none 0 0] 35)) rfl rfl rfl ⟨rfl, below_new w _⟩
theorem ap_ask_token (b : Nat) (G : Nat → Prop) (w : World) (q : Qa) (h2 : q.at_ = 2) (h : AQ b G w q) :
    Calls Tryz.prog 10 #[ptrP b] w fun e w' => e = .returned (.tuple #[askV (nextK q.ep), .bool true]) ∧ Below w.heap.size w w' := by
  have C := Lib.hid (fun w (h : AQ b G w q) => ap_isOver b G w q h)
  rw [decide_eq_false (p := q.at_ = 5) (by omega)] at C
  have HA := Lib.hid (h.below (below_new w (.cells #[.int .i64 0, .int .i64 0, .int .i64 0, .int .i64 0, .int .i64 0, .int .i64 0, .string ⟨#[]⟩, .int .i64 0, .slice none 0 0] 35)))
  obtain ⟨ao, cap, h1, _⟩ := HA.out.open
  obtain ⟨⟨c0, c1, c2, c3, c4, c5, c6, c7, c8⟩, _⟩ := nine_of h1
  have hb := lt_of_block h1
  rw [h2] at c3
  clear h h1
  unfold ptrP at *
  go_enter Tryz.func10, Tryz.ntmps10
  go_wp2_with (go_at_call 36; refine (C.out _ HA.out).mono ?_; rintro e w1 ⟨rfl, rfl⟩)
  exact ask_ret2 (x := nextK q.ep) rfl (heap_alloc_new w (.cells #[.int .i64 6, .int .i64 0, .int .i64 q.ep, .int .i64 0, .int .i64 0, .int .i64 0, .string ⟨#[]⟩, .int .i64 0, .slice none 0 0] 35)) rfl rfl rfl ⟨rfl, below_new w _⟩
theorem ap_ask_lay (b : Nat) (G : Nat → Prop) (w : World) (q : Qa) (n5 : ¬ q.at_ = 5) (n2 : ¬ q.at_ = 2) (n3 : ¬ q.at_ = 3) (n4 : ¬ q.at_ = 4) (h : AQ b G w q) :
    Calls Tryz.prog 10 #[ptrP b] w fun e w' => e = .returned (.tuple #[askV (layK), .bool true]) ∧ Below w.heap.size w w' := by
  have C := Lib.hid (fun w (h : AQ b G w q) => ap_isOver b G w q h)
  rw [decide_eq_false n5] at C
  have HA := Lib.hid (h.below (below_new w (.cells #[.int .i64 0, .int .i64 0, .int .i64 0, .int .i64 0, .int .i64 0, .int .i64 0, .string ⟨#[]⟩, .int .i64 0, .slice none 0 0] 35)))
  obtain ⟨ao, cap, h1, _⟩ := HA.out.open
  obtain ⟨⟨c0, c1, c2, c3, c4, c5, c6, c7, c8⟩, _⟩ := nine_of h1
  have hb := lt_of_block h1
  generalize q.at_ = m at *
  clear h h1
  unfold ptrP at *
  go_enter Tryz.func10, Tryz.ntmps10
  go_wp2_with (go_at_call 36; refine (C.out _ HA.out).mono ?_; rintro e w1 ⟨rfl, rfl⟩)
  exact ask_ret2 (x := layK) rfl (heap_alloc_new w (.cells #[.int .i64 9, .int .i64 0, .int .i64 0, .int .i64 0, .int .i64 0, .int .i64 0, .string ⟨#[]⟩, .int .i64 0, .slice none 0 0] 35)) rfl rfl rfl ⟨rfl, below_new w _⟩
theorem ap_ask_look (b : Nat) (G : Nat → Prop) (w : World) (q : Qa) (h4 : q.at_ = 4) (hf : fewL q.L) (ho : ofB q.ep q.L q.addr = true) (i : Nat) (hu : q.unit = (i : Int)) (hi : i < (chainR q.ep q.L q.addr).length) (h : AQ b G w q) :
    Calls Tryz.prog 10 #[ptrP b] w fun e w' => e = .returned (.tuple #[askV (⟨3, (chainR q.ep q.L q.addr).getD i 0, q.ep, ofP q.ep q.L q.addr, 0, 0, ⟨#[]⟩, 0, [], none, 0⟩), .bool true]) ∧ Below w.heap.size w w' := by
  have C := Lib.hid (fun w (h : AQ b G w q) => ap_isOver b G w q h)
  rw [decide_eq_false (p := q.at_ = 5) (by omega)] at C
  have HA := Lib.hid (h.below (below_new w (.cells #[.int .i64 0, .int .i64 0, .int .i64 0, .int .i64 0, .int .i64 0, .int .i64 0, .string ⟨#[]⟩, .int .i64 0, .slice none 0 0] 35)))
  obtain ⟨ao, cap, h1, _⟩ := HA.out.open
  obtain ⟨⟨c0, c1, c2, c3, c4, c5, c6, c7, c8⟩, _⟩ := nine_of h1
  have hb := lt_of_block h1
  rw [h4] at c3
  have CP := Lib.hid (fun k w (h : AQ b G w q) => ap_page b G w q k i h hf ho hu hi)
  have HB := Lib.hid (below_new w (.cells #[.int .i64 0, .int .i64 0, .int .i64 0, .int .i64 0, .int .i64 0, .int .i64 0, .string ⟨#[]⟩, .int .i64 0, .slice none 0 0] 35))
  have HZ := Lib.hid (heap_alloc_new w (.cells #[.int .i64 0, .int .i64 0, .int .i64 0, .int .i64 0, .int .i64 0, .int .i64 0, .string ⟨#[]⟩, .int .i64 0, .slice none 0 0] 35))
  generalize (chainR q.ep q.L q.addr).getD i 0 = un at *
  generalize ofP q.ep q.L q.addr = pg at *
  clear h h1 hf ho hu hi
  unfold ptrP at *
  go_enter Tryz.func10, Tryz.ntmps10
  go_wp2_with (first
    | (go_at_call 36; refine (C.out _ HA.out).mono ?_; rintro e w1 ⟨rfl, rfl⟩)
    | (go_at_call 37; refine (CP.out _ _ HA.out).mono ?_; rintro e w2 ⟨rfl, hb2⟩; have HZ2 := Lib.hid (below_heap hb2 HZ.out); obtain ⟨_, z0, z1, z2, z3, z4, z5, z6, z7, z8⟩ := nine_of HZ2.out; have HB2 := Lib.hid (HB.out.trans (hb2.mono HB.out.size)); have hz2 := lt_of_block HZ2.out; clear hb2))
  exact ask_ret2 (x := ⟨3, un, q.ep, pg, 0, 0, ⟨#[]⟩, 0, [], none, 0⟩) rfl (nine_put HZ2.out _ _ _ _ _ _ _ _ _) rfl rfl rfl ⟨rfl, (((((((((HB2.out.setCell (by simp) _).setCell (by simp) _).setCell (by simp) _).setCell (by simp) _).setCell (by simp) _).setCell (by simp) _).setCell (by simp) _).setCell (by simp) _).setCell (by simp) _)⟩
theorem ap_ask_write (b : Nat) (G : Nat → Prop) (w : World) (q : Qa) (h3 : q.at_ = 3) (ht : q.txt.size ≤ 1000000) (hf : fewL q.L) (ho : ofB q.ep q.L q.addr = true) (i : Nat) (hu : q.unit = (i : Int)) (hi : i < (chainR q.ep q.L q.addr).length) (h : AQ b G w q) :
    Calls Tryz.prog 10 #[ptrP b] w fun e w' => e = .returned (.tuple #[askV (⟨1, (chainR q.ep q.L q.addr).getD i 0, q.ep, ofP q.ep q.L q.addr, 0, 0, q.txt, 0, [], none, 0⟩), .bool true]) ∧ Below w.heap.size w w' := by
  have C := Lib.hid (fun w (h : AQ b G w q) => ap_isOver b G w q h)
  rw [decide_eq_false (p := q.at_ = 5) (by omega)] at C
  have HA := Lib.hid (h.below (below_new w (.cells #[.int .i64 0, .int .i64 0, .int .i64 0, .int .i64 0, .int .i64 0, .int .i64 0, .string ⟨#[]⟩, .int .i64 0, .slice none 0 0] 35)))
  obtain ⟨ao, cap, h1, _⟩ := HA.out.open
  obtain ⟨⟨c0, c1, c2, c3, c4, c5, c6, c7, c8⟩, _⟩ := nine_of h1
  have hb := lt_of_block h1
  rw [h3] at c3
  have CP := Lib.hid (fun k w (h : AQ b G w q) => ap_page b G w q k i h hf ho hu hi)
  have HB := Lib.hid (below_new w (.cells #[.int .i64 0, .int .i64 0, .int .i64 0, .int .i64 0, .int .i64 0, .int .i64 0, .string ⟨#[]⟩, .int .i64 0, .slice none 0 0] 35))
  have HZ := Lib.hid (heap_alloc_new w (.cells #[.int .i64 0, .int .i64 0, .int .i64 0, .int .i64 0, .int .i64 0, .int .i64 0, .string ⟨#[]⟩, .int .i64 0, .slice none 0 0] 35))
  generalize (chainR q.ep q.L q.addr).getD i 0 = un at *
  generalize ofP q.ep q.L q.addr = pg at *
  have CL := Lib.hid (fun w => clone_any q.txt w (by omega))
  clear h h1 hf ho hu hi ht
  unfold ptrP at *
  go_enter Tryz.func10, Tryz.ntmps10
  go_wp2_with (first
    | (go_at_call 36; refine (C.out _ HA.out).mono ?_; rintro e w1 ⟨rfl, rfl⟩)
    | (go_at_call 37; refine (CP.out _ _ HA.out).mono ?_; rintro e w2 ⟨rfl, hb2⟩; have HZ2 := Lib.hid (below_heap hb2 HZ.out); have HA2 := Lib.hid (HA.out.below hb2); have HB2 := Lib.hid (HB.out.trans (hb2.mono HB.out.size)); obtain ⟨a2, k2, g2, _⟩ := (HA2.out.below (below_new w2 (.cells #[.int .i64 1, .int .i64 un, .int .i64 q.ep, .int .i64 pg, .int .i64 0, .int .i64 0, .string ⟨#[]⟩, .int .i64 0, .slice none 0 0] 35))).open; obtain ⟨⟨_, _, d2, _⟩, _⟩ := nine_of g2; have hz2 := lt_of_block HZ2.out; clear hb2 g2)
    | (go_at_call 35; refine (CL.out _).mono ?_; rintro e w3 ⟨rfl, hb3⟩; have HQ3 := Lib.hid (below_heap hb3 (heap_alloc_new w2 (.cells #[.int .i64 1, .int .i64 un, .int .i64 q.ep, .int .i64 pg, .int .i64 0, .int .i64 0, .string ⟨#[]⟩, .int .i64 0, .slice none 0 0] 35))); have HZ3 := Lib.hid (below_heap hb3 (below_heap (below_new w2 (.cells #[.int .i64 1, .int .i64 un, .int .i64 q.ep, .int .i64 pg, .int .i64 0, .int .i64 0, .string ⟨#[]⟩, .int .i64 0, .slice none 0 0] 35)) HZ2.out)); obtain ⟨_, z0, z1, z2, z3, z4, z5, z6, z7, z8⟩ := nine_of HZ3.out; obtain ⟨⟨k0, k1, k2', k3, k4, k5, k6, k7, k8⟩, y0, y1, y2, y3, y4, y5, y6, y7, y8⟩ := nine_of HQ3.out; have HB3 := Lib.hid ((HB2.out.alloc HB2.out.size (.cells #[.int .i64 1, .int .i64 un, .int .i64 q.ep, .int .i64 pg, .int .i64 0, .int .i64 0, .string ⟨#[]⟩, .int .i64 0, .slice none 0 0] 35)).trans (hb3.mono (HB2.out.alloc HB2.out.size (.cells #[.int .i64 1, .int .i64 un, .int .i64 q.ep, .int .i64 pg, .int .i64 0, .int .i64 0, .string ⟨#[]⟩, .int .i64 0, .slice none 0 0] 35)).size)); have hz3 := lt_of_block HZ3.out; have hq3 := lt_of_block HQ3.out; have hne : ¬ w.heap.size = w2.heap.size := (by omega); clear hb3))
  have HZ4 := Lib.hid (((Kept.refl (fun k => k ≠ w2.heap.size) w3).setCell (p := ⟨w2.heap.size, 6, none⟩) (fun h => h rfl) (.string q.txt)).heap hne HZ3.out)
  exact ask_ret2 (x := ⟨1, un, q.ep, pg, 0, 0, q.txt, 0, [], none, 0⟩) rfl (nine_put HZ4.out _ _ _ _ _ _ _ _ _) rfl rfl rfl ⟨rfl, ((((((((((HB3.out.setCell (p := ⟨w2.heap.size, 6, none⟩) (show w.heap.size ≤ w2.heap.size by omega) _).setCell (by simp) _).setCell (by simp) _).setCell (by simp) _).setCell (by simp) _).setCell (by simp) _).setCell (by simp) _).setCell (by simp) _).setCell (by simp) _).setCell (by simp) _)⟩
end Go.Proofs.YtimjlfkdbkafeaaGreat
namespace Go.Proofs.YtimjlfkdbkafeaaGreat
set_option linter.unusedVariables false
open Go.RowKit
set_option maxRecDepth 20000
section
variable {UG : Nat → Nat → (Nat → Prop) → World → Us → Prop} {OG : Nat → (Nat → Prop) → World → Od → Prop} {LG : Nat → (Nat → Prop) → World → Ly → Prop} {NG : Nat → (Nat → Prop) → World → Nd → Prop} {HG : Nat → Nat → (Nat → Prop) → World → Hd → Prop} {AG : Nat → (Nat → Prop) → World → Ap → Prop}
variable {X : Nat → Prop} {w w' : World} {b nb m i : Nat} {B : Nat → Nat} {h : Hd} {A : Nat → Ap}
theorem turn_no (HS : HandSays UG OG LG NG HG) (AS : AppSays AG) (hi : i < m) (hs : Side (HG b nb) (MA AG B m) X w h A) (h6 : (A i).at_ = 6) :
    Calls Tryz.prog 22 #[.pointer (some ⟨b, 0, none⟩), .pointer (some ⟨B i, 0, none⟩)] w fun e w' => e = .returned (.bool false) ∧ Side (HG b nb) (MA AG B m) X w' h A ∧ Kept X w w' := by
  have HAS := Lib.hid (asks_no h6)
  have HT := Lib.hid hs
  have TT := Lib.hid (HS.thing b nb)
  have TM := Lib.hid (ma_thing AS B m)
  clear h6 hs
  go_enter Tryz.func22, Tryz.ntmps22
  go_wp2_with (go_at_call 10; refine (ma_ask AS TT.out hi HT.out).mono ?_; rw [HAS.out]; rintro e v1 ⟨kd, un, qe, pg, qs, hq1, rfl, hs1, hk1⟩; have T1 := Lib.hid (hs1.below TT.out TM.out (below_new v1 (.cells #[.int .i64 kd, .int .i64 un, .int .i64 qe, .int .i64 pg, .int .i64 0, .int .i64 0, .string qs, .int .i64 0, .slice none 0 0] 35))); have V1 := Lib.hid (hk1.below (below_new v1 (.cells #[.int .i64 kd, .int .i64 un, .int .i64 qe, .int .i64 pg, .int .i64 0, .int .i64 0, .string qs, .int .i64 0, .slice none 0 0] 35))); clear hq1 hs1 hk1)
  go_ret
  exact ⟨rfl, T1.out, V1.out⟩
theorem turn_yes (HS : HandSays UG OG LG NG HG) (AS : AppSays AG) (hi : i < m) (hs : Side (HG b nb) (MA AG B m) X w h A) (h6 : (A i).at_ ≠ 6) (hq : SmallQ (A i).ask) (hu : h.n.l.used.length ≤ 100000) :
    Calls Tryz.prog 22 #[.pointer (some ⟨b, 0, none⟩), .pointer (some ⟨B i, 0, none⟩)] w fun e w' => e = .returned (.bool true) ∧ Side (HG b nb) (MA AG B m) X w' (h.asked (A i).ask 0) (putA A i ((A i).hear (h.heard (A i).ask 0) true)) ∧ Kept X w w' := by
  have HAS := Lib.hid (asks_yes h6)
  have HT := Lib.hid hs
  have HU := Lib.hid hu
  have HSQ := Lib.hid hq
  have TT := Lib.hid (HS.thing b nb)
  have TM := Lib.hid (ma_thing AS B m)
  have ZZ := Lib.hid (fun (x : Int) (h : 0 ≤ x ∧ x ≤ 110) => show i64w x from WalkArith.wf_i64 (by omega))
  clear h6 hs hq hu
  go_enter Tryz.func22, Tryz.ntmps22
  go_wp2_with (first
    | (go_at_call 11; refine (ma_hear AS TT.out hi T2.out).mono ?_; rintro e v3 ⟨rfl, hs3, hk3⟩; have T3 := Lib.hid hs3; have V3 := Lib.hid (V2.out.trans hk3); clear hs3 hk3)
    | (go_at_call 12; refine (sa_hask HS TM.out T1.out (fate := 0) SQ.out.kind (ZZ.out _ (by have := SQ.out.unit; simp only [akN] at this; omega)) (ZZ.out _ (by have := SQ.out.epoch; simp only [akN] at this; omega)) (ZZ.out _ (by have := SQ.out.page; simp only [akN] at this; omega)) (Nat.le_trans SQ.out.data (by decide)) HU.out (ZZ.out 0 (by omega))).mono ?_; rintro e v2 ⟨xc, xn, xm, xz, xe, xd, vo, vc, c, hc, rfl, hx2, hs2, hk2⟩; obtain rfl : c = true := hc; have T2 := Lib.hid hs2; have HX2 := Lib.hid hx2; have V2 := Lib.hid (V1.out.trans hk2); clear hs2 hk2 hx2)
    | (go_at_call 10; refine (ma_ask AS TT.out hi HT.out).mono ?_; rw [HAS.out]; rintro e v1 ⟨kd, un, qe, pg, qs, hq1, rfl, hs1, hk1⟩; have HQ1 := Lib.hid hq1; have SQ := Lib.hid (show SmallQ (akN kd un qe pg qs) from hq1 ▸ HSQ.out); have T1 := Lib.hid (hs1.below TT.out TM.out (below_new v1 (.cells #[.int .i64 kd, .int .i64 un, .int .i64 qe, .int .i64 pg, .int .i64 0, .int .i64 0, .string qs, .int .i64 0, .slice none 0 0] 35))); have V1 := Lib.hid (hk1.below (below_new v1 (.cells #[.int .i64 kd, .int .i64 un, .int .i64 qe, .int .i64 pg, .int .i64 0, .int .i64 0, .string qs, .int .i64 0, .slice none 0 0] 35))); clear hq1 hs1 hk1))
  go_ret
  have e : h.heard (akN kd un qe pg qs) 0 = ⟨xc, xn, xd, 0, [], xm, xz, xe⟩ := HX2.out
  rw [HQ1.out, e]
  exact ⟨rfl, T3.out, V3.out⟩
end
/-- a row of pointers -/
def ptrC (b : Nat) : List Value := [.pointer (some ⟨b, 0, none⟩)]
theorem infoAp : (Tryz.prog.info? 32).map (fun i => (i.zero, i.size, i.bytes)) = some (some (.pointer none), 1, 8) := by kernel_rfl
/-- a new row with room for n, none in it -/
theorem make_ptrs (n : Nat) (hn : n ≤ 1000) : ∃ M : Array Value, M.size = n ∧ ∀ W : World, (Instr.makeSlice 63 (.int .i64 0) (.int .i64 (n : Int))).run Tryz.prog W = .ok (.slice (some ⟨W.heap.size, 0, none⟩) 0 n) (W.alloc (.cells M 32)) := by
  obtain ⟨i0, hi, hz0, hz1, hz2⟩ := info_parts infoAp
  refine ⟨madeCells (Value.pointer none).cells (n * 1), by rw [size_madeCells]; simp, fun W => ?_⟩
  have h := run_make (P := Tryz.prog) W 63 32 i0 (.pointer none) Tryz.underlying63 hi hz0 .i64 .i64 (0 : Int) (n : Int) (by omega) (by omega) (by rw [hz2]; omega) (by omega)
  simpa [hz1] using h
theorem ptr_at {w : World} {ao : Option Addr} {l : List Nat} (h : Row w ao 1 ptrC l) {i : Nat} (hi : i < l.length) : ∃ bk off, ao = some ⟨bk, off, none⟩ ∧ w.cell? ⟨bk, off + i, none⟩ = some (.pointer (some ⟨l[i], 0, none⟩)) := by
  obtain ⟨bk, off, e, h1⟩ := h i hi
  have h2 := h1 0 (.pointer (some ⟨l[i], 0, none⟩)) rfl
  rw [Nat.mul_one, Nat.add_zero] at h2
  exact ⟨bk, off, e, h2⟩
set_option maxHeartbeats 1600000 in
theorem addTo_any (ao : Option Addr) (cap : Nat) (l : List Nat) (b : Nat) (w : World) (h : Row w ao 1 ptrC l) (hl : l.length ≤ 100) :
    Calls Tryz.prog 21 #[.slice ao l.length cap, .pointer (some ⟨b, 0, none⟩)] w fun e w' => ∃ g : Nat, e = .returned (.slice (some ⟨g, 0, none⟩) (l.length + 1) (l.length + 1)) ∧ Row w' (some ⟨g, 0, none⟩) 1 ptrC (l ++ [b]) ∧ (w.heap.size ≤ g ∧ g < w'.heap.size) ∧ Below w.heap.size w w' := by
  have HR := Lib.hid h
  have hl' : (l.length : Int) ≤ 100 := by omega
  obtain ⟨M, hM, hmk0⟩ := make_ptrs (l.length + 1) (by omega)
  have hmk : ∀ W : World, (Instr.makeSlice 63 (.int .i64 0) (.int .i64 ((l.length : Int) + 1))).run Tryz.prog W = .ok (.slice (some ⟨W.heap.size, 0, none⟩) 0 (l.length + 1)) (W.alloc (.cells M 32)) := fun W => hmk0 W
  have HM := Lib.hid hM
  have HB0 := Lib.hid (below_new w (.cells M 32))
  have HN0 := Lib.hid (heap_alloc_new w (.cells M 32))
  clear h hM hmk0
  go_enter Tryz.func21, Tryz.ntmps21
  go_wp2_with fail
  clear hmk
  go_loopw [5, 6] (fun v i wr => ∃ (k : Nat) (cur : Array Value), v = .slice (some ⟨w.heap.size, 0, none⟩) k (l.length + 1) ∧ i = .int .i64 k ∧ k ≤ l.length ∧ Hid (wr.heap[w.heap.size]? = some (.cells cur 32 (0, 0))) ∧ Hid (cur.size = l.length + 1) ∧ Hid (∀ j (hj : j < l.length), j < k → cur[j]? = some (.pointer (some ⟨l[j], 0, none⟩))) ∧ Hid (Below w.heap.size w wr)) (fun _ i _ => l.length - (intOf i).toNat)
  case atStart => exact ⟨0, M, rfl, rfl, Nat.zero_le _, HN0, HM, Lib.hid (fun j _ hj => absurd hj (Nat.not_lt_zero j)), HB0⟩
  case round =>
    obtain ⟨k, cur, rfl, rfl, hk, HP, HS, HC, HB⟩ := hrel
    have hbl := lt_of_block HP.out
    by_cases hlt : k < l.length
    · obtain ⟨bk, off, hao, c0w⟩ := ptr_at HR.out hlt
      subst hao
      have c0 : wr.cell? ⟨bk, off + k, none⟩ = some (.pointer (some ⟨l[k], 0, none⟩)) := cellB HB.out (block_lt_of_cell c0w) c0w
      have hbk := block_lt_of_cell c0
      have k0 : (k : Int) < (l.length : Int) := by omega
      have k1 : (0 : Int) ≤ (k : Int) := by omega
      have k2 : IntKind.i64.wrap ((k : Int) + 1) = (k : Int) + 1 := IntWalk.i64_in _ (by omega)
      have k3 : (k : Int) + 1 ≤ ((l.length : Int) + 1) := by omega
      have kc : k < cur.size := by rw [HS.out]; omega
      have f0 := free_of HP.out k
      have c1 : wr.cell? ⟨w.heap.size, k, none⟩ = some cur[k] := by rw [cell_of HP.out k]; exact Array.getElem?_eq_getElem kc
      have HP2 := Lib.hid (heap_setCell_same wr w.heap.size k cur 32 (.pointer (some ⟨l[k], 0, none⟩)) HP.out)
      have HB2 := Lib.hid (HB.out.setCell (p := ⟨w.heap.size, k, none⟩) (Nat.le_refl _) (.pointer (some ⟨l[k], 0, none⟩)))
      clear c0w
      go_wp2_with fail
      refine ⟨⟨k + 1, _, rfl, by go_num, by omega, HP2, Lib.hid (by rw [Array.size_setIfInBounds]; exact HS.out), Lib.hid (fun j hj hjk => ?_), HB2⟩, by simp [intOf]; omega⟩
      by_cases e : j = k
      · subst e
        rw [Array.getElem?_setIfInBounds_self_of_lt kc]
      · rw [Array.getElem?_setIfInBounds_ne (fun h => e h.symm)]
        exact HC.out j hj (by omega)
    · obtain rfl : k = l.length := by omega
      have k2 : IntKind.i64.wrap ((l.length : Int) + 1) = (l.length : Int) + 1 := IntWalk.i64_in _ (by omega)
      have kc : l.length < cur.size := by rw [HS.out]; omega
      have f0 := free_of HP.out l.length
      have c1 : wr.cell? ⟨w.heap.size, l.length, none⟩ = some cur[l.length] := by rw [cell_of HP.out l.length]; exact Array.getElem?_eq_getElem kc
      have HP2 := Lib.hid (heap_setCell_same wr w.heap.size l.length cur 32 (.pointer (some ⟨b, 0, none⟩)) HP.out)
      have HB2 := Lib.hid (HB.out.setCell (p := ⟨w.heap.size, l.length, none⟩) (Nat.le_refl _) (.pointer (some ⟨b, 0, none⟩)))
      go_wp2_with fail
      go_ret
      refine ⟨w.heap.size, rfl, fun i hi => ⟨w.heap.size, 0, rfl, fun j v hv => ?_⟩, ⟨Nat.le_refl _, by have := lt_of_block HP2.out; exact this⟩, HB2.out⟩
      have hj : j = 0 := by
        obtain ⟨h1, _⟩ := List.getElem?_eq_some_iff.1 hv
        have : (ptrC (l ++ [b])[i]).length = 1 := rfl
        omega
      subst hj
      rw [Nat.zero_add, Nat.mul_one, Nat.add_zero, cell_of HP2.out i, ← hv]
      show _ = some (Value.pointer (some ⟨(l ++ [b])[i], 0, none⟩))
      by_cases e : i = l.length
      · subst e
        rw [Array.getElem?_setIfInBounds_self_of_lt kc, List.getElem_append_right (Nat.le_refl _)]
        simp
      · have hi2 : i < l.length := by rw [List.length_append, List.length_singleton] at hi; omega
        rw [Array.getElem?_setIfInBounds_ne (fun h => e h.symm), HC.out i hi2 hi2, List.getElem_append_left hi2]
end Go.Proofs.YtimjlfkdbkafeaaGreat
