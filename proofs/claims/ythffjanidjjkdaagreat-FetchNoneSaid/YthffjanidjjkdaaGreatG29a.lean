/- The program's own Drop, Do and Held. Conditions: as each statement says. (Written by gen/genhmpg.py.) What the program's fetch asks, wherever it is. Conditions: it lies where the call was told; where it asks a unit, that is one of its chain. (Written by gen/genfmp.py.) What a fetch by a hand returns, whose first questions have fates. Conditions: the program's functions return what HandSays and FetchSays say; what holds from question to question is handed in; the fates lie in memory that is none of the hand's. (Written by gen/genfetread.py.) -/
import Derived.Test.YthffjanidjjkdaaGreatG28b
import Derived.Test.YthffjanidjjkdaaGreatG27a
import Derived.Test.YthffjanidjjkdaaGreatG10b
import Derived.StillTailTactics
import Derived.Test.YthffjanidjjkdaaGreatG14b
import Derived.Test.YthffjanidjjkdaaGreatG11b
import Derived.Test.YthffjanidjjkdaaGreatG02a
set_option linter.unusedVariables false
namespace Go.Proofs.YthffjanidjjkdaaGreat
set_option linter.unusedVariables false
open Go.RowKit
set_option maxRecDepth 20000
theorem leaves_then {β : Type} {U : (Nat → Prop) → World → β → Prop} {G G1 : Nat → Prop} {w w2 W : World} {s : β} (h1 : Kept (fun k => ¬ G k) w w2) (h3 : ∀ k, G1 k → G k ∨ w.heap.size ≤ k) (h : Leaves U G1 w2 W s) : Leaves U G w W s := by
  obtain ⟨G2, r1, r2, r3⟩ := h
  refine ⟨G2, r1, ⟨r2.os.trans h1.os, r2.tape.trans h1.tape, r2.output.trans h1.output, Nat.le_trans h1.size r2.size, fun k hg hkl => ?_⟩, fun k hk => ?_⟩
  · rw [r2.block k (fun h => (h3 k h).elim hg (fun h => by omega)) (Nat.lt_of_lt_of_le hkl h1.size)]
    exact h1.block k hg hkl
  · rcases r3 k hk with h | h
    · exact h3 k h
    · exact .inr (Nat.le_trans h1.size h)
section
variable {UG : Nat → Nat → (Nat → Prop) → World → Us → Prop} {OG : Nat → (Nat → Prop) → World → Od → Prop} {LG : Nat → (Nat → Prop) → World → Ly → Prop} {NG : Nat → (Nat → Prop) → World → Nd → Prop} {b nb : Nat} {G : Nat → Prop} {w : World} {h : Hd}
theorem do_nil_hand (k : Int) (w : World) : Calls Tryz.prog 120 #[.pointer none, .int .i64 k] w fun e w' => e = .returned (.bool false) ∧ Below w.heap.size w w' := by
  have HT := Lib.hid (take_nil k w)
  go_enter Tryz.func120, Tryz.ntmps120
  go_wp2_with (go_at_call 121; refine HT.out.mono ?_; rintro e w1 ⟨he, hb1⟩; obtain rfl : e = .returned (.tuple #[.agg #[.int .i64 0, .int .i64 0, .int .i64 0, .int .i64 0, .int .i64 0, .int .i64 0, .string ⟨#[]⟩, .int .i64 0, .slice none 0 0], .bool false]) := he)
  go_ret
  exact ⟨rfl, hb1.trans (below_new w1 _ |>.mono hb1.size)⟩
theorem do_no (b nb : Nat) (G : Nat → Prop) (w : World) (h : Hd) (k : Int) (hh : HMz NG [] b nb G w h) (hk : ¬ (0 ≤ k ∧ k < h.held.length)) :
    Calls Tryz.prog 120 #[.pointer (some ⟨b, 0, none⟩), .int .i64 k] w fun e w' => e = .returned (.bool false) ∧ Below w.heap.size w w' := by
  have HT := Lib.hid (take_no b nb G w h k hh hk)
  clear hh hk
  go_enter Tryz.func120, Tryz.ntmps120
  go_wp2_with (go_at_call 121; refine HT.out.mono ?_; rintro e w1 ⟨he, hb1⟩; obtain rfl : e = .returned (.tuple #[.agg #[.int .i64 0, .int .i64 0, .int .i64 0, .int .i64 0, .int .i64 0, .int .i64 0, .string ⟨#[]⟩, .int .i64 0, .slice none 0 0], .bool false]) := he)
  go_ret
  exact ⟨rfl, hb1.trans (below_new w1 _ |>.mono hb1.size)⟩
/-- the nodes do a question that was held -/
theorem held_call (S : RpcSays UG OG LG NG) {a : Ak} (hh : HMz NG [a] b nb G w h) (hu : h.n.l.used.length ≤ 100000) :
    Calls Tryz.prog 38 #[.pointer (some ⟨nb, 0, none⟩), askV a] w fun e w' => ∃ v, e = .returned v ∧ Leaves (HMz NG [] b nb) G w w' ⟨h.n.done a, h.held⟩ := by
  obtain ⟨F, hF, hFG, hA, hturn⟩ := hh.turn S.thing
  obtain ⟨ho, hC⟩ := hA a (List.mem_singleton.2 rfl)
  refine (S.ask nb F w h.n a hF ho.ok ho.few ho.data hu hC).mono ?_
  intro e w' ht
  obtain ⟨ao, cap, C, he, hC2, hl⟩ := tells_chained ht
  obtain ⟨G2, r1, r2, r3⟩ := chain_less (hturn C _ _ w' _ hC2 hl)
  exact ⟨_, he, G2, r1.less (fun a ha => by cases ha), r2, r3⟩
set_option maxHeartbeats 1600000 in
theorem do_yes (S : RpcSays UG OG LG NG) (b nb : Nat) (G : Nat → Prop) (w : World) (h : Hd) (k : Nat) (hh : HMz NG [] b nb G w h) (hk : k < h.held.length) (hu : h.n.l.used.length ≤ 100000) :
    Calls Tryz.prog 120 #[.pointer (some ⟨b, 0, none⟩), .int .i64 k] w fun e w' => e = .returned (.bool true) ∧ Leaves (HMz NG [] b nb) G w w' ⟨h.n.done h.held[k], lessK h.held k⟩ := by
  have HT := Lib.hid (take_yes S.thing b nb G w h k hh hk)
  have HU := Lib.hid hu
  clear hh hu
  go_enter Tryz.func120, Tryz.ntmps120
  go_wp2_with (go_at_call 121; refine HT.out.mono ?_; rintro e w1 ⟨⟨k0, un, ep, pg, sz, nn, s, pe, L, ao, cap⟩, he, hp, hl⟩; obtain rfl : e = .returned (.tuple #[.agg #[.int .i64 k0, .int .i64 un, .int .i64 ep, .int .i64 pg, .int .i64 sz, .int .i64 nn, .string s, .int .i64 pe, .slice ao L.length cap], .bool true]) := he; have HL := Lib.hid hl; have HP := Lib.hid hp; clear hl hp)
  obtain ⟨G1, r1, r2, r3⟩ := HL.out
  have hb1 := below_new w1 (.cells #[.int .i64 k0, .int .i64 un, .int .i64 ep, .int .i64 pg, .int .i64 sz, .int .i64 nn, .string s, .int .i64 pe, .slice ao L.length cap] 62)
  have hq := heap_alloc_new w1 (.cells #[.int .i64 k0, .int .i64 un, .int .i64 ep, .int .i64 pg, .int .i64 sz, .int .i64 nn, .string s, .int .i64 pe, .slice ao L.length cap] 62)
  have t1 := (hmz_thing S.thing [⟨k0, un, ep, pg, sz, nn, s, pe, L, ao, cap⟩] b nb).keep r1 (Kept.ofBelow hb1 (fun _ => True)) (fun _ _ => trivial)
  have HK := Lib.hid (show Kept (fun j => ¬ G j) w (w1.alloc (.cells #[.int .i64 k0, .int .i64 un, .int .i64 ep, .int .i64 pg, .int .i64 sz, .int .i64 nn, .string s, .int .i64 pe, .slice ao L.length cap] 62)) from r2.below hb1)
  generalize hW2 : w1.alloc (.cells #[.int .i64 k0, .int .i64 un, .int .i64 ep, .int .i64 pg, .int .i64 sz, .int .i64 nn, .string s, .int .i64 pe, .slice ao L.length cap] 62) = W2 at *
  clear hW2
  have CP := Lib.hid (held_call S ((hmz_thing S.thing [⟨k0, un, ep, pg, sz, nn, s, pe, L, ao, cap⟩] b nb).keep t1 (Kept.refl (fun _ => True) W2).drew (fun _ _ => trivial)) HU.out)
  have R3 := Lib.hid r3
  have hb := t1.small
  obtain ⟨v, l, hc, _⟩ := t1.cells
  have y0 := cell_of hc 0
  have hbw := lt_of_block hq
  obtain ⟨⟨q0, q1, q2, q3, q4, q5, q6, q7, q8⟩, _⟩ := nine_of hq
  have y00 : W2.cell? ⟨b, 0, none⟩ = some (.pointer (some ⟨nb, 0, none⟩)) := y0
  clear HL HT r1 r2 r3 t1 hc hq y0 hb1
  go_still_tail 5, (by kernel_rfl)
  change wpList _ _ _ _ _ W2.drew
  go_wp2_with fail
  refine CP.out.mono ?_
  rintro e w3 ⟨v2, rfl, hl⟩
  go_wp2_with fail
  go_ret
  refine ⟨rfl, ?_⟩
  rw [← HP.out, plain_done]
  exact leaves_then HK.out.drew R3.out hl
end
end Go.Proofs.YthffjanidjjkdaaGreat
namespace Go.Proofs.YthffjanidjjkdaaGreat
set_option linter.unusedVariables false
open Go.RowKit
set_option maxRecDepth 20000
theorem fp_ask_over (b : Nat) (G : Nat → Prop) (w : World) (q : Qf) (ha : q.at_ = 6) (h : FQ b G w q) :
    Calls Tryz.prog 26 #[ptrP b] w fun e w' => e = .returned (.tuple #[askV (zeroK), .bool false]) ∧ Below w.heap.size w w' := by
  have C := Lib.hid (fun w (h : FQ b G w q) => fp_isOver b G w q h)
  rw [decide_eq_true ha] at C
  have HB := Lib.hid (below_new w (.cells #[.int .i64 0, .int .i64 0, .int .i64 0, .int .i64 0, .int .i64 0, .int .i64 0, .string ⟨#[]⟩, .int .i64 0, .slice none 0 0] 62))
  have HZ := Lib.hid (heap_alloc_new w (.cells #[.int .i64 0, .int .i64 0, .int .i64 0, .int .i64 0, .int .i64 0, .int .i64 0, .string ⟨#[]⟩, .int .i64 0, .slice none 0 0] 62))
  have HA := Lib.hid (h.below HB.out)
  obtain ⟨ao, cap, h1, _⟩ := HA.out.open
  obtain ⟨⟨c0, c1, c2, c3, c4, c5, c6, c7, c8, c9⟩, _⟩ := ten_of h1
  have hb := lt_of_block h1
  clear h h1
  unfold ptrP at *
  go_enter Tryz.func26, Tryz.ntmps26
  go_wp2_with (go_at_call 40; refine (C.out _ HA.out).mono ?_; rintro e w1 ⟨rfl, rfl⟩)
  exact ask_ret2 (x := zeroK) rfl HZ.out rfl rfl rfl ⟨rfl, HB.out⟩
theorem fp_ask_lay (b : Nat) (G : Nat → Prop) (w : World) (q : Qf) (ha : q.at_ = 0 ∨ q.at_ = 1) (h : FQ b G w q) :
    Calls Tryz.prog 26 #[ptrP b] w fun e w' => e = .returned (.tuple #[askV (layK), .bool true]) ∧ Below w.heap.size w w' := by
  have C := Lib.hid (fun w (h : FQ b G w q) => fp_isOver b G w q h)
  rw [decide_eq_false (p := q.at_ = 6) (by omega)] at C
  have CA := Lib.hid (fun w (h : FQ b G w q) => fp_asks b G w q h)
  rw [decide_eq_true ha] at CA
  have HB := Lib.hid (below_new w (.cells #[.int .i64 0, .int .i64 0, .int .i64 0, .int .i64 0, .int .i64 0, .int .i64 0, .string ⟨#[]⟩, .int .i64 0, .slice none 0 0] 62))
  have HZ := Lib.hid (heap_alloc_new w (.cells #[.int .i64 0, .int .i64 0, .int .i64 0, .int .i64 0, .int .i64 0, .int .i64 0, .string ⟨#[]⟩, .int .i64 0, .slice none 0 0] 62))
  have HA := Lib.hid (h.below HB.out)
  obtain ⟨ao, cap, h1, _⟩ := HA.out.open
  obtain ⟨⟨c0, c1, c2, c3, c4, c5, c6, c7, c8, c9⟩, _⟩ := ten_of h1
  have hb := lt_of_block h1
  clear h h1
  unfold ptrP at *
  go_enter Tryz.func26, Tryz.ntmps26
  go_wp2_with (first | (go_at_call 40; refine (C.out _ HA.out).mono ?_; rintro e w1 ⟨rfl, rfl⟩) | (go_at_call 41; refine (CA.out _ HA.out).mono ?_; rintro e w1 ⟨rfl, rfl⟩))
  exact ask_ret2 (x := layK) rfl (heap_alloc_new w (.cells #[.int .i64 9, .int .i64 0, .int .i64 0, .int .i64 0, .int .i64 0, .int .i64 0, .string ⟨#[]⟩, .int .i64 0, .slice none 0 0] 62)) rfl rfl rfl ⟨rfl, below_new w _⟩
theorem fp_ask_read (b : Nat) (G : Nat → Prop) (w : World) (q : Qf) (ha : q.at_ = 2 ∨ q.at_ = 3) (hf : fewL q.L) (ho : ofB q.ep q.L q.addr = true) (i : Nat) (hu : q.unit = (i : Int)) (hi : i < (chainR q.ep q.L q.addr).length) (h : FQ b G w q) :
    Calls Tryz.prog 26 #[ptrP b] w fun e w' => e = .returned (.tuple #[askV (⟨3, (chainR q.ep q.L q.addr).getD i 0, q.ep, ofP q.ep q.L q.addr, 0, 0, ⟨#[]⟩, 0, [], none, 0⟩), .bool true]) ∧ Below w.heap.size w w' := by
  have C := Lib.hid (fun w (h : FQ b G w q) => fp_isOver b G w q h)
  rw [decide_eq_false (p := q.at_ = 6) (by omega)] at C
  have CA := Lib.hid (fun w (h : FQ b G w q) => fp_asks b G w q h)
  rw [decide_eq_false (p := q.at_ = 0 ∨ q.at_ = 1) (by omega)] at CA
  have HB := Lib.hid (below_new w (.cells #[.int .i64 0, .int .i64 0, .int .i64 0, .int .i64 0, .int .i64 0, .int .i64 0, .string ⟨#[]⟩, .int .i64 0, .slice none 0 0] 62))
  have HZ := Lib.hid (heap_alloc_new w (.cells #[.int .i64 0, .int .i64 0, .int .i64 0, .int .i64 0, .int .i64 0, .int .i64 0, .string ⟨#[]⟩, .int .i64 0, .slice none 0 0] 62))
  have HA := Lib.hid (h.below HB.out)
  obtain ⟨ao, cap, h1, _⟩ := HA.out.open
  obtain ⟨⟨c0, c1, c2, c3, c4, c5, c6, c7, c8, c9⟩, _⟩ := ten_of h1
  have hb := lt_of_block h1
  have CP := Lib.hid (fun k w (h : FQ b G w q) => fp_page b G w q k i h hf ho hu hi)
  generalize (chainR q.ep q.L q.addr).getD i 0 = un at *
  generalize ofP q.ep q.L q.addr = pg at *
  clear h h1 hf ho hu hi
  unfold ptrP at *
  rcases ha with ha | ha
  all_goals
    rw [ha] at c4
    go_enter Tryz.func26, Tryz.ntmps26
    go_wp2_with (first | (go_at_call 40; refine (C.out _ HA.out).mono ?_; rintro e w1 ⟨rfl, rfl⟩) | (go_at_call 41; refine (CA.out _ HA.out).mono ?_; rintro e w1 ⟨rfl, rfl⟩) | (go_at_call 44; refine (CP.out _ _ HA.out).mono ?_; rintro e w2 ⟨rfl, hb2⟩; have HZ2 := Lib.hid (below_heap hb2 HZ.out); obtain ⟨_, z0, z1, z2, z3, z4, z5, z6, z7, z8⟩ := nine_of HZ2.out; have HB2 := Lib.hid (HB.out.trans (hb2.mono HB.out.size)); have hz2 := lt_of_block HZ2.out; clear hb2))
    exact ask_ret2 (x := ⟨3, un, q.ep, pg, 0, 0, ⟨#[]⟩, 0, [], none, 0⟩) rfl (nine_put HZ2.out _ _ _ _ _ _ _ _ _) rfl rfl rfl ⟨rfl, (((((((((HB2.out.setCell (by simp) _).setCell (by simp) _).setCell (by simp) _).setCell (by simp) _).setCell (by simp) _).setCell (by simp) _).setCell (by simp) _).setCell (by simp) _).setCell (by simp) _)⟩
theorem fp_ask_fill (b : Nat) (G : Nat → Prop) (w : World) (q : Qf) (ha : q.at_ = 4 ∨ q.at_ = 5) (hk : q.at_ = 5 → ¬ q.kind = 1) (hf : fewL q.L) (ho : ofB q.ep q.L q.addr = true) (i : Nat) (hu : q.unit = (i : Int)) (hi : i < (chainR q.ep q.L q.addr).length) (h : FQ b G w q) :
    Calls Tryz.prog 26 #[ptrP b] w fun e w' => e = .returned (.tuple #[askV (⟨2, (chainR q.ep q.L q.addr).getD i 0, q.ep, ofP q.ep q.L q.addr, 0, 0, ⟨#[]⟩, 0, [], none, 0⟩), .bool true]) ∧ Below w.heap.size w w' := by
  have C := Lib.hid (fun w (h : FQ b G w q) => fp_isOver b G w q h)
  rw [decide_eq_false (p := q.at_ = 6) (by omega)] at C
  have CA := Lib.hid (fun w (h : FQ b G w q) => fp_asks b G w q h)
  rw [decide_eq_false (p := q.at_ = 0 ∨ q.at_ = 1) (by omega)] at CA
  have HB := Lib.hid (below_new w (.cells #[.int .i64 0, .int .i64 0, .int .i64 0, .int .i64 0, .int .i64 0, .int .i64 0, .string ⟨#[]⟩, .int .i64 0, .slice none 0 0] 62))
  have HZ := Lib.hid (heap_alloc_new w (.cells #[.int .i64 0, .int .i64 0, .int .i64 0, .int .i64 0, .int .i64 0, .int .i64 0, .string ⟨#[]⟩, .int .i64 0, .slice none 0 0] 62))
  have HA := Lib.hid (h.below HB.out)
  obtain ⟨ao, cap, h1, _⟩ := HA.out.open
  obtain ⟨⟨c0, c1, c2, c3, c4, c5, c6, c7, c8, c9⟩, _⟩ := ten_of h1
  have hb := lt_of_block h1
  have CP := Lib.hid (fun k w (h : FQ b G w q) => fp_page b G w q k i h hf ho hu hi)
  generalize (chainR q.ep q.L q.addr).getD i 0 = un at *
  generalize ofP q.ep q.L q.addr = pg at *
  clear h h1 hf ho hu hi
  unfold ptrP at *
  rcases ha with ha | ha
  all_goals
    first
      | (have ek : (q.kind == 1) = false := by simpa using hk ha)
      | skip
    clear hk
    rw [ha] at c4
    go_enter Tryz.func26, Tryz.ntmps26
    go_wp2_with (first | (go_at_call 40; refine (C.out _ HA.out).mono ?_; rintro e w1 ⟨rfl, rfl⟩) | (go_at_call 41; refine (CA.out _ HA.out).mono ?_; rintro e w1 ⟨rfl, rfl⟩) | (go_at_call 44; refine (CP.out _ _ HA.out).mono ?_; rintro e w2 ⟨rfl, hb2⟩; have HZ2 := Lib.hid (below_heap hb2 HZ.out); obtain ⟨_, z0, z1, z2, z3, z4, z5, z6, z7, z8⟩ := nine_of HZ2.out; have HB2 := Lib.hid (HB.out.trans (hb2.mono HB.out.size)); have hz2 := lt_of_block HZ2.out; clear hb2))
    exact ask_ret2 (x := ⟨2, un, q.ep, pg, 0, 0, ⟨#[]⟩, 0, [], none, 0⟩) rfl (nine_put HZ2.out _ _ _ _ _ _ _ _ _) rfl rfl rfl ⟨rfl, (((((((((HB2.out.setCell (by simp) _).setCell (by simp) _).setCell (by simp) _).setCell (by simp) _).setCell (by simp) _).setCell (by simp) _).setCell (by simp) _).setCell (by simp) _).setCell (by simp) _)⟩
theorem fp_ask_write (b : Nat) (G : Nat → Prop) (w : World) (q : Qf) (ha : q.at_ = 5) (hk : q.kind = 1) (ht : q.txt.size ≤ 1000000) (hf : fewL q.L) (ho : ofB q.ep q.L q.addr = true) (i : Nat) (hu : q.unit = (i : Int)) (hi : i < (chainR q.ep q.L q.addr).length) (h : FQ b G w q) :
    Calls Tryz.prog 26 #[ptrP b] w fun e w' => e = .returned (.tuple #[askV (⟨1, (chainR q.ep q.L q.addr).getD i 0, q.ep, ofP q.ep q.L q.addr, 0, 0, q.txt, 0, [], none, 0⟩), .bool true]) ∧ Below w.heap.size w w' := by
  have C := Lib.hid (fun w (h : FQ b G w q) => fp_isOver b G w q h)
  rw [decide_eq_false (p := q.at_ = 6) (by omega)] at C
  have CA := Lib.hid (fun w (h : FQ b G w q) => fp_asks b G w q h)
  rw [decide_eq_false (p := q.at_ = 0 ∨ q.at_ = 1) (by omega)] at CA
  have HB := Lib.hid (below_new w (.cells #[.int .i64 0, .int .i64 0, .int .i64 0, .int .i64 0, .int .i64 0, .int .i64 0, .string ⟨#[]⟩, .int .i64 0, .slice none 0 0] 62))
  have HZ := Lib.hid (heap_alloc_new w (.cells #[.int .i64 0, .int .i64 0, .int .i64 0, .int .i64 0, .int .i64 0, .int .i64 0, .string ⟨#[]⟩, .int .i64 0, .slice none 0 0] 62))
  have HA := Lib.hid (h.below HB.out)
  obtain ⟨ao, cap, h1, _⟩ := HA.out.open
  obtain ⟨⟨c0, c1, c2, c3, c4, c5, c6, c7, c8, c9⟩, _⟩ := ten_of h1
  have hb := lt_of_block h1
  have CP := Lib.hid (fun k w (h : FQ b G w q) => fp_page b G w q k i h hf ho hu hi)
  generalize (chainR q.ep q.L q.addr).getD i 0 = un at *
  generalize ofP q.ep q.L q.addr = pg at *
  have CL := Lib.hid (fun w => clone_any q.txt w (by omega))
  rw [ha] at c4
  rw [hk] at c7
  clear ht
  clear h h1 hf ho hu hi
  unfold ptrP at *
  go_enter Tryz.func26, Tryz.ntmps26
  go_wp2_with (first
    | (go_at_call 40; refine (C.out _ HA.out).mono ?_; rintro e w1 ⟨rfl, rfl⟩) | (go_at_call 41; refine (CA.out _ HA.out).mono ?_; rintro e w1 ⟨rfl, rfl⟩)
    | (go_at_call 44; refine (CP.out _ _ HA.out).mono ?_; rintro e w2 ⟨rfl, hb2⟩; have HZ2 := Lib.hid (below_heap hb2 HZ.out); have HA2 := Lib.hid (HA.out.below hb2); have HB2 := Lib.hid (HB.out.trans (hb2.mono HB.out.size)); obtain ⟨a2, k2, g2, _⟩ := (HA2.out.below (below_new w2 (.cells #[.int .i64 1, .int .i64 un, .int .i64 q.ep, .int .i64 pg, .int .i64 0, .int .i64 0, .string ⟨#[]⟩, .int .i64 0, .slice none 0 0] 62))).open; obtain ⟨⟨_, _, _, _, _, _, _, _, d8, _⟩, _⟩ := ten_of g2; have hz2 := lt_of_block HZ2.out; clear hb2 g2)
    | (go_at_call 37; refine (CL.out _).mono ?_; rintro e w3 ⟨rfl, hb3⟩; have HQ3 := Lib.hid (below_heap hb3 (heap_alloc_new w2 (.cells #[.int .i64 1, .int .i64 un, .int .i64 q.ep, .int .i64 pg, .int .i64 0, .int .i64 0, .string ⟨#[]⟩, .int .i64 0, .slice none 0 0] 62))); have HZ3 := Lib.hid (below_heap hb3 (below_heap (below_new w2 (.cells #[.int .i64 1, .int .i64 un, .int .i64 q.ep, .int .i64 pg, .int .i64 0, .int .i64 0, .string ⟨#[]⟩, .int .i64 0, .slice none 0 0] 62)) HZ2.out)); obtain ⟨_, z0, z1, z2, z3, z4, z5, z6, z7, z8⟩ := nine_of HZ3.out; obtain ⟨⟨k0, k1, k2', k3, k4, k5, k6, k7, k8⟩, y0, y1, y2, y3, y4, y5, y6, y7, y8⟩ := nine_of HQ3.out; have HB3 := Lib.hid ((HB2.out.alloc HB2.out.size (.cells #[.int .i64 1, .int .i64 un, .int .i64 q.ep, .int .i64 pg, .int .i64 0, .int .i64 0, .string ⟨#[]⟩, .int .i64 0, .slice none 0 0] 62)).trans (hb3.mono (HB2.out.alloc HB2.out.size (.cells #[.int .i64 1, .int .i64 un, .int .i64 q.ep, .int .i64 pg, .int .i64 0, .int .i64 0, .string ⟨#[]⟩, .int .i64 0, .slice none 0 0] 62)).size)); have hz3 := lt_of_block HZ3.out; have hq3 := lt_of_block HQ3.out; have hne : ¬ w.heap.size = w2.heap.size := (by omega); clear hb3))
  have HZ4 := Lib.hid (((Kept.refl (fun k => k ≠ w2.heap.size) w3).setCell (p := ⟨w2.heap.size, 6, none⟩) (fun h => h rfl) (.string q.txt)).heap hne HZ3.out)
  have HB4 := Lib.hid (HB3.out.setCell (p := ⟨w2.heap.size, 6, none⟩) (show w.heap.size ≤ w2.heap.size by omega) (.string q.txt))
  exact ask_ret2 (x := ⟨1, un, q.ep, pg, 0, 0, q.txt, 0, [], none, 0⟩) rfl (nine_put HZ4.out _ _ _ _ _ _ _ _ _) rfl rfl rfl ⟨rfl, (((((((((HB4.out.setCell (by simp) _).setCell (by simp) _).setCell (by simp) _).setCell (by simp) _).setCell (by simp) _).setCell (by simp) _).setCell (by simp) _).setCell (by simp) _).setCell (by simp) _)⟩
end Go.Proofs.YthffjanidjjkdaaGreat
namespace Go.Proofs.YthffjanidjjkdaaGreat
set_option linter.unusedVariables false
open Go.RowKit
set_option maxRecDepth 20000
theorem few_th : fewL thL := ⟨by decide, by decide⟩
/-- what holds from question to question of a fetch whose first n questions have fates -/
structure RunF (n : Nat) (Inv : Nat → Hd → Fe → Prop) : Prop where
  more : ∀ k h f, Inv k h f → k < n + 30
  used : ∀ k h f, Inv k h f → h.n.l.used.length ≤ 100000
  small : ∀ k h f, Inv k h f → f.at_ ≠ 7 → SmallF f.ask ∧ ∀ m, (h.heard f.ask m).data.size ≤ 1000000
  step : ∀ k h f (m : Int), Inv k h f → f.at_ ≠ 7 → (¬ k < n → m = 0) → Inv (k + 1) (h.asked f.ask m) (f.hear (h.heard f.ask m) (decide (m = 0)))
set_option maxHeartbeats 16000000 in
theorem fread_run {UG : Nat → Nat → (Nat → Prop) → World → Us → Prop} {OG : Nat → (Nat → Prop) → World → Od → Prop} {LG : Nat → (Nat → Prop) → World → Ly → Prop} {NG : Nat → (Nat → Prop) → World → Nd → Prop} {HG : Nat → Nat → (Nat → Prop) → World → Hd → Prop} {FG : Nat → (Nat → Prop) → World → Fe → Prop} (HS : HandSays UG OG LG NG HG) (FS : FetchSays FG)
    (b nb : Nat) (X : Nat → Prop) (w : World) (h0 : Hd) (hs : Solo (HG b nb) X w h0) (L : List (List Int)) (hF : fewL L) (a : Int) (ha : 0 ≤ a ∧ a < 42) (fill : Bool)
    (ao : Option Addr) (cap : Nat) (hC : CL w ao L) (hn : ao = none → cap = 0) (hc : L.length ≤ cap) (fo : Option Addr) (fc : Nat) (fl : List Int) (hl : fl.length ≤ 60) (hR : ∀ W, Kept X w W → Row W fo 1 byteC fl) (hK : ∀ x ∈ fl, 0 ≤ x ∧ x < 256)
    (Inv : Nat → Hd → Fe → Prop) (hI : RunF fl.length Inv) (h0I : Inv 0 h0 (newFe 0 L a fill)) :
    Calls Tryz.prog 19 #[.pointer (some ⟨b, 0, none⟩), .agg #[.int .i64 0, .slice ao L.length cap], .int .i64 a, .bool fill, .slice fo fl.length fc] w fun e w' => ∃ (k : Nat) (h' : Hd) (f' : Fe), Inv k h' f' ∧ f'.at_ = 7 ∧ e = .returned (.tuple #[.int .i64 f'.overK, .string f'.overS, .int .i64 f'.overE, .bool f'.overB]) ∧ Solo (HG b nb) X w' h' ∧ Kept X w w' := by
  have ZZ := Lib.hid (fun (x : Int) (h : 0 ≤ x ∧ x ≤ 300) => show i64w x from WalkArith.wf_i64 (by omega))
  have TT := Lib.hid (fun b nb => HS.thing b nb)
  have TA := Lib.hid (fun b => FS.thing b)
  have HB := Lib.hid (below_new w (.cells #[.int .i64 0, .slice ao L.length cap] 30))
  have HP := Lib.hid (heap_alloc_new w (.cells #[.int .i64 0, .slice ao L.length cap] 30))
  have HC := Lib.hid (hC.below HB.out)
  have S1 := Lib.hid (hs.below (TT.out b nb) HB.out)
  have HI := Lib.hid hI
  have H0 := Lib.hid h0I
  have HF := Lib.hid hF
  have HR := Lib.hid hR
  have HK := Lib.hid hK
  have HNC := Lib.hid hn
  have HCP := Lib.hid hc
  have HA := Lib.hid ha
  obtain ⟨p0, p1, _, _⟩ := two_cells HP.out
  have hl' : (fl.length : Int) ≤ 60 := by omega
  have k41 : IntKind.i64.wrap ((fl.length : Int) + 30) = (fl.length : Int) + 30 := IntWalk.i64_in _ (by omega)
  clear hs hI h0I hF hC hn hc hR hK ha
  go_enter Tryz.func19, Tryz.ntmps19
  go_wp2_with (first
    | (go_at_call 29; refine (sf_new FS (TT.out b nb) S1.out (ep := 0) (ao := ao) (cap := cap) (L := L) (addr := a) (fill := fill) HC.out HF.out HNC.out HCP.out (ZZ.out 0 (by omega)) (ZZ.out a (by have := HA.out; omega))).mono ?_; rintro e w2 ⟨bf, rfl, hs2, hb2⟩; have S2 := Lib.hid hs2; have K2 := Lib.hid (Kept.ofBelow (HB.out.trans (hb2.mono HB.out.size)) X); clear hs2 hb2))
  clear p0 p1
  go_loopw [15] (fun i wr => ∃ (k : Nat) (h : Hd) (f : Fe), i = .int .i64 k ∧ Hid (Inv k h f) ∧ Hid (Side (HG b nb) (FG bf) X wr h f) ∧ Hid (Kept X w wr)) (fun i _ => fl.length + 30 - (intOf i).toNat)
  case atStart => exact ⟨0, h0, newFe 0 L a fill, rfl, H0, S2, K2⟩
  case round =>
    clear S1 S2 K2 H0
    obtain ⟨k, h, f, rfl, HV, HT, HB⟩ := hrel
    have hmo := HI.out.more k h f HV.out
    have k40 : (k : Int) < (fl.length : Int) + 30 := by omega
    by_cases h7 : f.at_ = 7
    · have HAS := Lib.hid (show f.asks = false from decide_eq_false (fun g => g h7))
      have H7 := Lib.hid h7
      clear h7
      go_wp2_with (first
        | (go_at_call 27; refine (sf_over FS (TT.out b nb) T1.out).mono ?_; rintro e w4 ⟨rfl, hs4, hb4⟩; have T4 := Lib.hid hs4; have V4 := Lib.hid (V1.out.below hb4); clear hs4 hb4)
        | (go_at_call 26; refine (sf_ask FS (TT.out b nb) HT.out).mono ?_; rw [HAS.out]; rintro e v1 ⟨kd, un, qe, pg, qs, hq1, rfl, hs1, hk1⟩; have T1 := Lib.hid (hs1.below (TT.out b nb) (TA.out bf) (below_new v1 (.cells #[.int .i64 kd, .int .i64 un, .int .i64 qe, .int .i64 pg, .int .i64 0, .int .i64 0, .string qs, .int .i64 0, .slice none 0 0] 62))); have V1 := Lib.hid ((HB.out.trans hk1).below (below_new v1 (.cells #[.int .i64 kd, .int .i64 un, .int .i64 qe, .int .i64 pg, .int .i64 0, .int .i64 0, .string qs, .int .i64 0, .slice none 0 0] 62))); clear hq1 hs1 hk1))
      try simp only [Exit.inBlock, Exit.then]
      refine bodyPost_ret (results_tmp4 rfl _ _ _) rfl ?_
      exact ⟨k, h, f, HV.out, H7.out, rfl, T4.out.left, V4.out⟩
    · have HAS := Lib.hid (show f.asks = true from decide_eq_true h7)
      have HSQ := Lib.hid (HI.out.small k h f HV.out h7).1
      have HSH := Lib.hid (HI.out.small k h f HV.out h7).2
      have HU := Lib.hid (HI.out.used k h f HV.out)
      have HTN := Lib.hid (fun m hm => HI.out.step k h f m HV.out h7 hm)
      clear h7
      by_cases hkl : k < fl.length
      · have n1 : (k : Int) < (fl.length : Int) := by omega
        obtain ⟨bk, off, hao, c0⟩ := byte_at (HR.out _ HB.out) hkl
        have CB := Lib.hid (fun W (hk : Kept X w W) => (show ∃ bk2 off2, fo = some ⟨bk2, off2, none⟩ ∧ W.cell? ⟨bk2, off2 + k, none⟩ = some (.int .u8 fl[k]) from byte_at (HR.out W hk) hkl))
        have hv := HK.out _ (List.getElem_mem hkl)
        generalize fl[k] = v at *
        subst hao
        obtain ⟨v0, v1⟩ := hv
        obtain ⟨m, hm, hm4⟩ : ∃ m : Nat, v.tmod 4 = (m : Int) ∧ m < 4 := ⟨(v % 4).toNat, by rw [Int.tmod_eq_emod_of_nonneg v0]; omega, by omega⟩
        have hm0 : (0 : Int) ≤ (m : Int) ∧ (m : Int) ≤ 300 := by omega
        go_wp2_with (first
          | (go_at_call 25; refine (sf_hear FS (TT.out b nb) T2.out DS.out).mono ?_; rintro e v3 ⟨rfl, hs3, hk3⟩; have T3 := Lib.hid hs3; have V3 := Lib.hid (V2.out.trans hk3); clear hs3 hk3)
          | (go_at_call 21; refine (hs_ask HS (TA.out bf) T1.out (fate := (m : Int)) (by have := SQ.out.kind; simp only [akN] at this; omega) (ZZ.out _ (by have := SQ.out.unit; simp only [akN] at this; omega)) (ZZ.out _ (by have := SQ.out.epoch; simp only [akN] at this; omega)) (ZZ.out _ (by have := SQ.out.page; simp only [akN] at this; omega)) (Nat.le_trans SQ.out.data (by decide)) HU.out (ZZ.out (m : Int) (by omega))).mono ?_; rintro e v2 ⟨xc, xn, xm, xz, xe, xd, vo, vc, c, hc, rfl, hx2, hs2, hk2⟩; have HX2 := Lib.hid hx2; have DS := Lib.hid (show xd.size ≤ 1000000 from (by have g := HSH.out (m : Int); rw [HQ1.out] at g; have hx3 : h.heard (akN kd un qe pg qs) (m : Int) = ⟨xc, xn, xd, 0, [], xm, xz, xe⟩ := hx2; rw [hx3] at g; exact g)); have HCC := Lib.hid hc; clear hc; have T2 := Lib.hid hs2; have V2 := Lib.hid (V1.out.trans hk2); clear hs2 hk2 hx2)
          | (go_at_call 26; refine (sf_ask FS (TT.out b nb) HT.out).mono ?_; rw [HAS.out]; rintro e v1 ⟨kd, un, qe, pg, qs, hq1, rfl, hs1, hk1⟩; have HQ1 := Lib.hid hq1; have SQ := Lib.hid (show SmallF (akN kd un qe pg qs) from hq1 ▸ HSQ.out); have T1 := Lib.hid (hs1.below (TT.out b nb) (TA.out bf) (below_new v1 (.cells #[.int .i64 kd, .int .i64 un, .int .i64 qe, .int .i64 pg, .int .i64 0, .int .i64 0, .string qs, .int .i64 0, .slice none 0 0] 62))); have V1 := Lib.hid ((HB.out.trans hk1).below (below_new v1 (.cells #[.int .i64 kd, .int .i64 un, .int .i64 qe, .int .i64 pg, .int .i64 0, .int .i64 0, .string qs, .int .i64 0, .slice none 0 0] 62))); obtain ⟨bk2, off2, hao2, c9⟩ := CB.out _ V1.out; obtain ⟨rfl, rfl⟩ : bk2 = bk ∧ off2 = off := (by simpa using hao2.symm); have hbk := block_lt_of_cell c9; clear hq1 hs1 hk1))
        refine ⟨⟨k + 1, h.asked f.ask (m : Int), f.hear (h.heard f.ask (m : Int)) (decide ((m : Int) = 0)), by go_num, Lib.hid (HTN.out (m : Int) (fun g => absurd hkl g)), Lib.hid ?_, V3⟩, by simp [intOf]; omega⟩
        have e : h.heard (akN kd un qe pg qs) (m : Int) = ⟨xc, xn, xd, 0, [], xm, xz, xe⟩ := HX2.out
        rw [HQ1.out, e, ← HCC.out]
        exact T3.out
      · have n1 : ¬ (k : Int) < (fl.length : Int) := by omega
        go_wp2_with (first
          | (go_at_call 25; refine (sf_hear FS (TT.out b nb) T2.out DS.out).mono ?_; rintro e v3 ⟨rfl, hs3, hk3⟩; have T3 := Lib.hid hs3; have V3 := Lib.hid (V2.out.trans hk3); clear hs3 hk3)
          | (go_at_call 21; refine (hs_ask HS (TA.out bf) T1.out (fate := 0) (by have := SQ.out.kind; simp only [akN] at this; omega) (ZZ.out _ (by have := SQ.out.unit; simp only [akN] at this; omega)) (ZZ.out _ (by have := SQ.out.epoch; simp only [akN] at this; omega)) (ZZ.out _ (by have := SQ.out.page; simp only [akN] at this; omega)) (Nat.le_trans SQ.out.data (by decide)) HU.out (ZZ.out 0 (by omega))).mono ?_; rintro e v2 ⟨xc, xn, xm, xz, xe, xd, vo, vc, c, hc, rfl, hx2, hs2, hk2⟩; have HX2 := Lib.hid hx2; have DS := Lib.hid (show xd.size ≤ 1000000 from (by have g := HSH.out 0; rw [HQ1.out] at g; have hx3 : h.heard (akN kd un qe pg qs) 0 = ⟨xc, xn, xd, 0, [], xm, xz, xe⟩ := hx2; rw [hx3] at g; exact g)); obtain rfl : c = true := hc; have T2 := Lib.hid hs2; have V2 := Lib.hid (V1.out.trans hk2); clear hs2 hk2 hx2)
          | (go_at_call 26; refine (sf_ask FS (TT.out b nb) HT.out).mono ?_; rw [HAS.out]; rintro e v1 ⟨kd, un, qe, pg, qs, hq1, rfl, hs1, hk1⟩; have HQ1 := Lib.hid hq1; have SQ := Lib.hid (show SmallF (akN kd un qe pg qs) from hq1 ▸ HSQ.out); have T1 := Lib.hid (hs1.below (TT.out b nb) (TA.out bf) (below_new v1 (.cells #[.int .i64 kd, .int .i64 un, .int .i64 qe, .int .i64 pg, .int .i64 0, .int .i64 0, .string qs, .int .i64 0, .slice none 0 0] 62))); have V1 := Lib.hid ((HB.out.trans hk1).below (below_new v1 (.cells #[.int .i64 kd, .int .i64 un, .int .i64 qe, .int .i64 pg, .int .i64 0, .int .i64 0, .string qs, .int .i64 0, .slice none 0 0] 62))); clear hq1 hs1 hk1))
        refine ⟨⟨k + 1, h.asked f.ask 0, f.hear (h.heard f.ask 0) true, by go_num, Lib.hid (HTN.out 0 (fun _ => rfl)), Lib.hid ?_, V3⟩, by simp [intOf]; omega⟩
        have e : h.heard (akN kd un qe pg qs) 0 = ⟨xc, xn, xd, 0, [], xm, xz, xe⟩ := HX2.out
        rw [HQ1.out, e]
        exact T3.out
/-- a fetch of an address over chains of three units, two, one -/
theorem fread_any {UG : Nat → Nat → (Nat → Prop) → World → Us → Prop} {OG : Nat → (Nat → Prop) → World → Od → Prop} {LG : Nat → (Nat → Prop) → World → Ly → Prop} {NG : Nat → (Nat → Prop) → World → Nd → Prop} {HG : Nat → Nat → (Nat → Prop) → World → Hd → Prop} {FG : Nat → (Nat → Prop) → World → Fe → Prop} (HS : HandSays UG OG LG NG HG) (FS : FetchSays FG)
    (b nb : Nat) (X : Nat → Prop) (w : World) (h0 : Hd) (hs : Solo (HG b nb) X w h0) (n0 : Nd) (V : Int) (S : ByteArray) (a : Int) (fill : Bool) (hN : FNod n0 V S a fill h0.n) (ha : 0 ≤ a ∧ a < 42) (hV : V = 1 → S.size ≤ 4096) (hu : n0.l.used.length ≤ 100000)
    (ao : Option Addr) (cap : Nat) (hC : CL w ao thL) (hn : ao = none → cap = 0) (hc : 3 ≤ cap) (fo : Option Addr) (fc : Nat) (fl : List Int) (hl : fl.length ≤ 60) (hR : ∀ W, Kept X w W → Row W fo 1 byteC fl) (hK : ∀ x ∈ fl, 0 ≤ x ∧ x < 256) :
    Calls Tryz.prog 19 #[.pointer (some ⟨b, 0, none⟩), .agg #[.int .i64 0, .slice ao 3 cap], .int .i64 a, .bool fill, .slice fo fl.length fc] w fun e w' => ∃ h' : Hd, e = .returned (.tuple #[.int .i64 V, .string (foundS V S), .int .i64 0, .bool true]) ∧ Solo (HG b nb) X w' h' ∧ Kept X w w' ∧ FNod n0 V S a fill h'.n ∧ ∀ j, j < lenF a → FK h'.n a j = V := by
  obtain ⟨s1, s2, s3⟩ := start_place h0.n V S ha fill
  refine (fread_run HS FS b nb X w h0 hs thL few_th a ha fill ao cap hC hn hc fo fc fl hl hR hK (fun k h f => FNod n0 V S a fill h.n ∧ FPr a fill f ∧ PlF h.n V S a fill f ∧ rankF f + k ≤ fl.length + 5) ⟨?_, ?_, ?_, ?_⟩ ⟨hN, s1, s2, by omega⟩).mono ?_
  · rintro k h f ⟨_, _, _, h4⟩
    omega
  · rintro k h f ⟨h1, _⟩
    rw [h1.l]
    exact hu
  · rintro k h f ⟨h1, h2, h3, _⟩ h7
    have h5 := h1.small h2 h3 ha hV h7
    exact ⟨h5, fun m => h1.short h5 m⟩
  · rintro k h f m ⟨h1, h2, h3, h4⟩ h7 hm
    obtain ⟨g1, g2, g3, g4⟩ := h1.fate h2 h3 ha hV h7 m
    refine ⟨g1, g2, g3, ?_⟩
    by_cases hk : k < fl.length
    · have := g3.le
      omega
    · have := g4 (hm hk)
      omega
  · rintro e w' ⟨k, h', f', ⟨h1, h2, h3, _⟩, h7, he, h8, h9⟩
    obtain ⟨e1, e2, e3, e4, e5⟩ := h3.ends h7
    rw [e1, e2, e3, e4] at he
    exact ⟨h', he, h8, h9, h1, e5⟩
end Go.Proofs.YthffjanidjjkdaaGreat
