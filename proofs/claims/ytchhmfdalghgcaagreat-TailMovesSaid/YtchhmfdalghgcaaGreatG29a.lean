/- The program's own Drop, Do and Held. Conditions: as each statement says. (Written by gen/genhmpg.py.) A new tail of the program; the program keeps to the contracts of a tail. Conditions: the projection's chains lie in memory, and are not too many. (Written by gen/gentmp.py.) A tail beside another thing: what its calls return and leave; a hand's sequencer that crashes; a layout that is asked. Conditions: the program's functions return what TailSays, HandSays say. -/
import Derived.Test.YtchhmfdalghgcaaGreatG28a
import Derived.Test.YtchhmfdalghgcaaGreatG27a
import Derived.Test.YtchhmfdalghgcaaGreatG10b
import Derived.StillTailTactics
import Derived.Test.YtchhmfdalghgcaaGreatG24a
set_option linter.unusedVariables false
namespace Go.Proofs.YtchhmfdalghgcaaGreat
set_option linter.unusedVariables false
open Go.RowKit
set_option maxRecDepth 20000
theorem leaves_then {β : Type} {U : (Nat → Prop) → World → β → Prop} {G G1 : Nat → Prop} {w w2 W : World} {s : β} (h1 : Kept (fun k => ¬ G k) w w2) (h3 : ∀ k, G1 k → G k ∨ w.heap.size ≤ k) (h : Leaves U G1 w2 W s) : Leaves U G w W s := by
  obtain ⟨G2, r1, r2, r3⟩ := h
  refine ⟨G2, r1, ⟨r2.os.trans h1.os, r2.tape.trans h1.tape, r2.output.trans h1.output, Nat.le_trans h1.size r2.size, fun k hg hkl => ?_⟩, fun k hk => ?_⟩
  · rw [r2.block k (fun h => (h3 k h).elim hg (fun h => by omega)) (Nat.lt_of_lt_of_le hkl h1.size)]
    exact h1.block k hg hkl
  · rcases r3 k hk with h | h
    · exact h3 k h
    · exact .inr (Nat.le_trans h1.size h)
section
variable {UG : Nat → Nat → (Nat → Prop) → World → Us → Prop} {OG : Nat → (Nat → Prop) → World → Od → Prop} {LG : Nat → (Nat → Prop) → World → Ly → Prop} {NG : Nat → (Nat → Prop) → World → Nd → Prop} {b nb : Nat} {G : Nat → Prop} {w : World} {h : Hd}
theorem do_nil_hand (k : Int) (w : World) : Calls Tryz.prog 11 #[.pointer none, .int .i64 k] w fun e w' => e = .returned (.bool false) ∧ Below w.heap.size w w' := by
  have HT := Lib.hid (take_nil k w)
  go_enter Tryz.func11, Tryz.ntmps11
  go_wp2_with (go_at_call 30; refine HT.out.mono ?_; rintro e w1 ⟨he, hb1⟩; obtain rfl : e = .returned (.tuple #[.agg #[.int .i64 0, .int .i64 0, .int .i64 0, .int .i64 0, .int .i64 0, .int .i64 0, .string ⟨#[]⟩, .int .i64 0, .slice none 0 0], .bool false]) := he)
  go_ret
  exact ⟨rfl, hb1.trans (below_new w1 _ |>.mono hb1.size)⟩
theorem do_no (b nb : Nat) (G : Nat → Prop) (w : World) (h : Hd) (k : Int) (hh : HMz NG [] b nb G w h) (hk : ¬ (0 ≤ k ∧ k < h.held.length)) :
    Calls Tryz.prog 11 #[.pointer (some ⟨b, 0, none⟩), .int .i64 k] w fun e w' => e = .returned (.bool false) ∧ Below w.heap.size w w' := by
  have HT := Lib.hid (take_no b nb G w h k hh hk)
  clear hh hk
  go_enter Tryz.func11, Tryz.ntmps11
  go_wp2_with (go_at_call 30; refine HT.out.mono ?_; rintro e w1 ⟨he, hb1⟩; obtain rfl : e = .returned (.tuple #[.agg #[.int .i64 0, .int .i64 0, .int .i64 0, .int .i64 0, .int .i64 0, .int .i64 0, .string ⟨#[]⟩, .int .i64 0, .slice none 0 0], .bool false]) := he)
  go_ret
  exact ⟨rfl, hb1.trans (below_new w1 _ |>.mono hb1.size)⟩
/-- the nodes do a question that was held -/
theorem held_call (S : RpcSays UG OG LG NG) {a : Ak} (hh : HMz NG [a] b nb G w h) (hu : h.n.l.used.length ≤ 100000) :
    Calls Tryz.prog 28 #[.pointer (some ⟨nb, 0, none⟩), askV a] w fun e w' => ∃ v, e = .returned v ∧ Leaves (HMz NG [] b nb) G w w' ⟨h.n.done a, h.held⟩ := by
  obtain ⟨F, hF, hFG, hA, hturn⟩ := hh.turn S.thing
  obtain ⟨ho, hC⟩ := hA a (List.mem_singleton.2 rfl)
  refine (S.ask nb F w h.n a hF ho.ok ho.few ho.data hu hC).mono ?_
  intro e w' ht
  obtain ⟨ao, cap, C, he, hC2, hl⟩ := tells_chained ht
  obtain ⟨G2, r1, r2, r3⟩ := chain_less (hturn C _ _ w' _ hC2 hl)
  exact ⟨_, he, G2, r1.less (fun a ha => by cases ha), r2, r3⟩
set_option maxHeartbeats 1600000 in
theorem do_yes (S : RpcSays UG OG LG NG) (b nb : Nat) (G : Nat → Prop) (w : World) (h : Hd) (k : Nat) (hh : HMz NG [] b nb G w h) (hk : k < h.held.length) (hu : h.n.l.used.length ≤ 100000) :
    Calls Tryz.prog 11 #[.pointer (some ⟨b, 0, none⟩), .int .i64 k] w fun e w' => e = .returned (.bool true) ∧ Leaves (HMz NG [] b nb) G w w' ⟨h.n.done h.held[k], lessK h.held k⟩ := by
  have HT := Lib.hid (take_yes S.thing b nb G w h k hh hk)
  have HU := Lib.hid hu
  clear hh hu
  go_enter Tryz.func11, Tryz.ntmps11
  go_wp2_with (go_at_call 30; refine HT.out.mono ?_; rintro e w1 ⟨⟨k0, un, ep, pg, sz, nn, s, pe, L, ao, cap⟩, he, hp, hl⟩; obtain rfl : e = .returned (.tuple #[.agg #[.int .i64 k0, .int .i64 un, .int .i64 ep, .int .i64 pg, .int .i64 sz, .int .i64 nn, .string s, .int .i64 pe, .slice ao L.length cap], .bool true]) := he; have HL := Lib.hid hl; have HP := Lib.hid hp; clear hl hp)
  obtain ⟨G1, r1, r2, r3⟩ := HL.out
  have hb1 := below_new w1 (.cells #[.int .i64 k0, .int .i64 un, .int .i64 ep, .int .i64 pg, .int .i64 sz, .int .i64 nn, .string s, .int .i64 pe, .slice ao L.length cap] 37)
  have hq := heap_alloc_new w1 (.cells #[.int .i64 k0, .int .i64 un, .int .i64 ep, .int .i64 pg, .int .i64 sz, .int .i64 nn, .string s, .int .i64 pe, .slice ao L.length cap] 37)
  have t1 := (hmz_thing S.thing [⟨k0, un, ep, pg, sz, nn, s, pe, L, ao, cap⟩] b nb).keep r1 (Kept.ofBelow hb1 (fun _ => True)) (fun _ _ => trivial)
  have HK := Lib.hid (show Kept (fun j => ¬ G j) w (w1.alloc (.cells #[.int .i64 k0, .int .i64 un, .int .i64 ep, .int .i64 pg, .int .i64 sz, .int .i64 nn, .string s, .int .i64 pe, .slice ao L.length cap] 37)) from r2.below hb1)
  generalize hW2 : w1.alloc (.cells #[.int .i64 k0, .int .i64 un, .int .i64 ep, .int .i64 pg, .int .i64 sz, .int .i64 nn, .string s, .int .i64 pe, .slice ao L.length cap] 37) = W2 at *
  clear hW2
  have CP := Lib.hid (held_call S ((hmz_thing S.thing [⟨k0, un, ep, pg, sz, nn, s, pe, L, ao, cap⟩] b nb).keep t1 (Kept.refl (fun _ => True) W2).drew (fun _ _ => trivial)) HU.out)
  have R3 := Lib.hid r3
  have hb := t1.small
  obtain ⟨v, l, hc, _⟩ := t1.cells
  have y0 := cell_of hc 0
  have hbw := lt_of_block hq
  obtain ⟨⟨q0, q1, q2, q3, q4, q5, q6, q7, q8⟩, _⟩ := nine_of hq
  have y00 : W2.cell? ⟨b, 0, none⟩ = some (.pointer (some ⟨nb, 0, none⟩)) := y0
  clear HL HT r1 r2 r3 t1 hc hq y0 hb1
  go_still_tail 5, (by kernel_rfl)
  change wpList _ _ _ _ _ W2.drew
  go_wp2_with fail
  refine CP.out.mono ?_
  rintro e w3 ⟨v2, rfl, hl⟩
  go_wp2_with fail
  go_ret
  refine ⟨rfl, ?_⟩
  rw [← HP.out, plain_done]
  exact leaves_then HK.out.drew R3.out hl
end
end Go.Proofs.YtchhmfdalghgcaaGreat
namespace Go.Proofs.YtchhmfdalghgcaaGreat
set_option linter.unusedVariables false
open Go.RowKit
set_option maxRecDepth 20000
/-- what New leaves -/
def NewT (w : World) (t : Tl) (e : Ending) (w' : World) : Prop := ∃ (b : Nat) (G : Nat → Prop), e = .returned (ptrP b) ∧ TM b G w' t ∧ (∀ k, G k → w.heap.size ≤ k) ∧ Below w.heap.size w w'
theorem newt_ended {w w4 w5 : World} {b : Nat} {G : Nat → Prop} {t : Tl} (hB : ∀ k, G k → w.heap.size ≤ k) (hb : Below w.heap.size w w4) (hl : Leaves (TM b) G w4 w5 t) : NewT w t (.returned (.pointer (some ⟨b, 0, none⟩))) w5 := by
  obtain ⟨G', r1, r2, r3⟩ := hl
  refine ⟨b, G', rfl, r1, fun k hk => ?_, hb.trans (kept_low r2 (fun k hk hg => by have := hB k hg; omega) hb.size)⟩
  rcases r3 k hk with h | h
  · exact hB k h
  · exact Nat.le_trans hb.size h
/-- a tail is laid out over a copy of its projection -/
theorem tm_laid {w w3 : World} {B : Nat} {v : Value} {ep : Int} {L : List (List Int)} (hO : OC w3 B v L) (hf : fewL L) (hB : w.heap.size ≤ B) (hs : B ≤ w3.heap.size) :
    TM w3.heap.size (fun k => B ≤ k ∧ k ≤ w3.heap.size) (w3.alloc (.cells #[.int .i64 ep, v, .int .i64 1, .int .i64 0, .int .i64 0] 83)) ⟨ep, L, 2, 0, 0⟩ :=
  ⟨v, fun k => B ≤ k ∧ k < w3.heap.size, heap_alloc_new w3 _, (CG.of hO).keep (Kept.ofBelow (below_new w3 _) (fun _ => True)) (fun _ _ => trivial), ⟨(by decide : (1 : Int) ≤ 2), (by decide : (2 : Int) ≤ 3), hf⟩, ⟨hs, Nat.le_refl _⟩, fun k hk => ⟨⟨hk.1, Nat.le_of_lt hk.2⟩, Nat.ne_of_lt hk.2⟩, fun k hk => Nat.lt_of_le_of_lt hk.2 (lt_of_block (heap_alloc_new w3 (.cells #[.int .i64 ep, v, .int .i64 1, .int .i64 0, .int .i64 0] 83)))⟩
set_option maxHeartbeats 2000000 in
theorem tm_new (ep : Int) (ao : Option Addr) (cap : Nat) (L : List (List Int)) (w : World) (hc : CL w ao L) (hf : fewL L) :
    Calls Tryz.prog 15 #[.agg #[.int .i64 ep, .slice ao L.length cap]] w (NewT w (newTl ep L)) := by
  have HB := Lib.hid (below_new w (.cells #[.int .i64 ep, .slice ao L.length cap] 29))
  have HC := Lib.hid (hc.below HB.out)
  have HX := Lib.hid (heap_alloc_new w (.cells #[.int .i64 ep, .slice ao L.length cap] 29))
  obtain ⟨x0, x1, _⟩ := two_cells HX.out
  have hs1 : (w.alloc (.cells #[.int .i64 ep, .slice ao L.length cap] 29)).heap.size = w.heap.size + 1 := by simp
  have CC := Lib.hid (fun W (hC : CL W ao L) => copyO_any ep ao cap L W hC hf)
  have CG := Lib.hid (fun W (hC : CL W ao L) => pgood_any ep ao cap L W hC hf)
  have HF := Lib.hid hf
  unfold newTl
  have HS := Lib.hid (show w.heap.size ≤ (w.alloc (.cells #[.int .i64 ep, .slice ao L.length cap] 29)).heap.size from by omega)
  clear hc hf hs1
  cases hg : goodB ep L with
  | true =>
    rw [if_pos rfl]
    rw [hg] at CG
    go_enter Tryz.func15, Tryz.ntmps15
    go_wp2_with (first | (go_at_call 31; refine (CC.out _ HC.out).mono ?_; rintro e w3 ⟨v, rfl, hO, hb3⟩; obtain ⟨vo, vc, hv, _⟩ := hO.form; subst hv; have HT := Lib.hid (tm_laid (w := w) (ep := ep) hO HF.out HS.out hb3.size); have HBT := Lib.hid ((HB.out.trans (hb3.mono HB.out.size)).trans ((below_new w3 (.cells #[.int .i64 ep, .slice vo L.length vc, .int .i64 1, .int .i64 0, .int .i64 0] 83)).mono (HB.out.trans (hb3.mono HB.out.size)).size)); have HC3 := Lib.hid ((HC.out.below hb3).below (below_new w3 (.cells #[.int .i64 ep, .slice vo L.length vc, .int .i64 1, .int .i64 0, .int .i64 0] 83))); have HX3 := Lib.hid (below_heap (below_new w3 (.cells #[.int .i64 ep, .slice vo L.length vc, .int .i64 1, .int .i64 0, .int .i64 0] 83)) (below_heap hb3 HX.out)); obtain ⟨y0, y1, _⟩ := two_cells HX3.out; clear hO hb3) | (go_at_call 32; refine (CG.out _ HC3.out).mono ?_; rintro e w5 ⟨rfl, hb5⟩; have HB5 := Lib.hid hb5; have HT5 := Lib.hid (HT.out.below hb5); have HBU := Lib.hid (HBT.out.trans (hb5.mono HBT.out.size)); clear hb5))
    go_ret
    exact newt_ended (fun k hk => Nat.le_trans HS.out hk.1) HBT.out (Leaves.same (tm_thing _) HT.out HB5.out)
  | false =>
    rw [if_neg Bool.noConfusion]
    rw [hg] at CG
    go_enter Tryz.func15, Tryz.ntmps15
    go_wp2_with (first | (go_at_call 31; refine (CC.out _ HC.out).mono ?_; rintro e w3 ⟨v, rfl, hO, hb3⟩; obtain ⟨vo, vc, hv, _⟩ := hO.form; subst hv; have HT := Lib.hid (tm_laid (w := w) (ep := ep) hO HF.out HS.out hb3.size); have HBT := Lib.hid ((HB.out.trans (hb3.mono HB.out.size)).trans ((below_new w3 (.cells #[.int .i64 ep, .slice vo L.length vc, .int .i64 1, .int .i64 0, .int .i64 0] 83)).mono (HB.out.trans (hb3.mono HB.out.size)).size)); have HC3 := Lib.hid ((HC.out.below hb3).below (below_new w3 (.cells #[.int .i64 ep, .slice vo L.length vc, .int .i64 1, .int .i64 0, .int .i64 0] 83))); have HX3 := Lib.hid (below_heap (below_new w3 (.cells #[.int .i64 ep, .slice vo L.length vc, .int .i64 1, .int .i64 0, .int .i64 0] 83)) (below_heap hb3 HX.out)); obtain ⟨y0, y1, _⟩ := two_cells HX3.out; clear hO hb3) | (go_at_call 32; refine (CG.out _ HC3.out).mono ?_; rintro e w5 ⟨rfl, hb5⟩; have HB5 := Lib.hid hb5; have HT5 := Lib.hid (HT.out.below hb5); have HBU := Lib.hid (HBT.out.trans (hb5.mono HBT.out.size)); clear hb5) | (go_at_call 33; refine (tp_end _ _ _ _ _ _ HT5.out).mono ?_; rintro e w9 ⟨rfl, hl⟩; have HL9 := Lib.hid hl; clear hl))
    go_ret
    exact newt_ended (fun k hk => Nat.le_trans HS.out hk.1) HBU.out HL9.out
theorem tm_ask (b : Nat) (G : Nat → Prop) (w : World) (t : Tl) (h : TM b G w t) :
    Calls Tryz.prog 16 #[ptrP b] w fun e w' => e = .returned (.tuple #[askV t.ask, .bool t.asks]) ∧ Leaves (TM b) G w w' t := by
  have HL := fun w' (hb : Below w.heap.size w w') => Leaves.same (tm_thing b) h hb
  have h0 := h.ok
  have h01 := h0.1
  have h02 := h0.2.1
  unfold Tl.ask Tl.asks
  by_cases a3 : t.at_ = 3
  · rw [if_neg (by omega), if_neg (by omega), decide_eq_false (fun e => e a3)]
    exact (tp_ask_over b G w t a3 h).mono fun e w' ⟨h1, h2⟩ => ⟨h1, HL w' h2⟩
  · rw [decide_eq_true a3]
    by_cases a1 : t.at_ = 1
    · rw [if_pos a1]
      exact (tp_ask_lay b G w t a1 h).mono fun e w' ⟨h1, h2⟩ => ⟨h1, HL w' h2⟩
    · have a2 : t.at_ = 2 := by omega
      rw [if_neg a1, if_pos a2]
      exact (tp_ask_tail b G w t a2 h).mono fun e w' ⟨h1, h2⟩ => ⟨h1, HL w' h2⟩
theorem tailSays : TailSays TM where
  thing := tm_thing
  new := fun ep ao cap L w hc hf _ _ _ => tm_new ep ao cap L w hc hf
  ask := tm_ask
  hear := fun b G w t x ao cap c h hf _ hx => tp_hear b G w t x ao cap c h hf (hx w (Kept.refl _ _))
  over := tp_over
  p_ := tp_P
  nil_ask := tp_nil_ask
  nil_hear := tp_nil_hear
  nil_over := tp_nil_over
  nil_P := tp_nil_P
end Go.Proofs.YtchhmfdalghgcaaGreat
namespace Go.Proofs.YtchhmfdalghgcaaGreat
set_option linter.unusedVariables false
open Go.RowKit
set_option maxRecDepth 20000
section
variable {TG : Nat → (Nat → Prop) → World → Tl → Prop} {α : Type} {T : (Nat → Prop) → World → α → Prop} {X : Nat → Prop} {w w' : World} {bt : Nat} {t : Tl} {a : α}
theorem st_new (TS : TailSays TG) (hT : Thing T) (hs : Solo T X w a) {ep : Int} {ao : Option Addr} {cap : Nat} {L : List (List Int)} (hC : CL w ao L) (hf : fewL L) (hn : ao = none → cap = 0) (hc : L.length ≤ cap) (he : i64w ep) :
    Calls Tryz.prog 15 #[.agg #[.int .i64 ep, .slice ao L.length cap]] w fun e w' => ∃ bt : Nat, e = .returned (.pointer (some ⟨bt, 0, none⟩)) ∧ Side T (TG bt) X w' a (newTl ep L) ∧ Below w.heap.size w w' := by
  refine (TS.new ep ao cap L w hC hf hn hc he).mono ?_
  rintro e w' ⟨bt, G, h1, h2, h3, h4⟩
  exact ⟨bt, h1, Side.made hT hs h4 h2 h3, h4⟩
theorem st_ask (TS : TailSays TG) (hT : Thing T) (hs : Side T (TG bt) X w a t) :
    Calls Tryz.prog 16 #[.pointer (some ⟨bt, 0, none⟩)] w fun e w' => ∃ (kd un ep pg : Int) (s : ByteArray), t.ask = akN kd un ep pg s ∧ e = .returned (.tuple #[.agg #[.int .i64 kd, .int .i64 un, .int .i64 ep, .int .i64 pg, .int .i64 0, .int .i64 0, .string s, .int .i64 0, .slice none 0 0], .bool t.asks]) ∧ Side T (TG bt) X w' a t ∧ Kept X w w' := by
  refine (side_right (R := fun e => e = .returned (.tuple #[askV t.ask, .bool t.asks])) hT (TS.thing bt) hs (fun G hG => TS.ask bt G w t hG)).mono ?_
  rintro e w' ⟨he, h1, h2⟩
  exact ⟨_, _, _, _, _, ask_akT t, by rw [he, ask_akT t]; rfl, h1, h2⟩
theorem st_hear (TS : TailSays TG) (hT : Thing T) (hs : Side T (TG bt) X w a t) {xc xn xm xz xe : Int} {xd : ByteArray} {vo : Option Addr} {vc : Nat} {c : Bool} :
    Calls Tryz.prog 17 #[.pointer (some ⟨bt, 0, none⟩), .agg #[.int .i64 xc, .int .i64 xn, .string xd, .int .i64 0, .slice vo 0 vc, .int .i64 xm, .int .i64 xz, .int .i64 xe], .bool c] w fun e w' => e = .returned (.tuple #[]) ∧ Side T (TG bt) X w' a (t.hear ⟨xc, xn, xd, 0, [], xm, xz, xe⟩ c) ∧ Kept X w w' :=
  side_right (R := fun e => e = .returned (.tuple #[])) hT (TS.thing bt) hs (fun G hG => TS.hear bt G w t ⟨xc, xn, xd, 0, [], xm, xz, xe⟩ vo vc c hG few_nil (i64w_small (x := 0) (by omega)) (fun W _ => CL.nil _ _))
/-- an answer whose chains lie in memory that is none of theirs -/
theorem st_hearL (TS : TailSays TG) (hT : Thing T) (hs : Side T (TG bt) X w a t) {x : An} {vo : Option Addr} {vc : Nat} {c : Bool} (hf : fewL x.L) (he : i64w x.pe) {C : Nat → Prop} (hC : CG C w (.slice vo x.L.length vc) x.L) (hX : ∀ k, C k → X k) :
    Calls Tryz.prog 17 #[.pointer (some ⟨bt, 0, none⟩), ansV x vo vc, .bool c] w fun e w' => e = .returned (.tuple #[]) ∧ Side T (TG bt) X w' a (t.hear x c) ∧ Kept X w w' :=
  side_rightX (R := fun e => e = .returned (.tuple #[])) hT hs (fun G hG hX2 => TS.hear bt G w t x vo vc c hG hf he (fun W hW => cg_clT (hC.keep hW (fun k hk => hX2 k (hX k hk)))))
theorem st_over (TS : TailSays TG) (hT : Thing T) (hs : Side T (TG bt) X w a t) :
    Calls Tryz.prog 18 #[.pointer (some ⟨bt, 0, none⟩)] w fun e w' => e = .returned (.tuple #[.int .i64 t.overN, .int .i64 t.overE, .bool t.overB]) ∧ Side T (TG bt) X w' a t ∧ Below w.heap.size w w' := by
  obtain ⟨_, F, G, _, hG, _⟩ := id hs
  exact (TS.over bt G w t hG).mono fun e w' ⟨he, hb⟩ => ⟨he, hs.below hT (TS.thing bt) hb, hb⟩
theorem st_p (TS : TailSays TG) (hT : Thing T) (hs : Side T (TG bt) X w a t) :
    Calls Tryz.prog 20 #[.pointer (some ⟨bt, 0, none⟩)] w fun e w' => ∃ (ao : Option Addr) (cap : Nat), e = .returned (.agg #[.int .i64 t.ep, .slice ao t.L.length cap]) ∧ CL w' ao t.L ∧ Side T (TG bt) X w' a t ∧ Below w.heap.size w w' := by
  obtain ⟨_, F, G, _, hG, _⟩ := id hs
  exact (TS.p_ bt G w t hG).mono fun e w' ⟨ao, cap, he, hc, hb⟩ => ⟨ao, cap, he, hc, hs.below hT (TS.thing bt) hb, hb⟩
end
section
variable {UG : Nat → Nat → (Nat → Prop) → World → Us → Prop} {OG : Nat → (Nat → Prop) → World → Od → Prop} {LG : Nat → (Nat → Prop) → World → Ly → Prop} {NG : Nat → (Nat → Prop) → World → Nd → Prop} {HG : Nat → Nat → (Nat → Prop) → World → Hd → Prop} {X : Nat → Prop} {w : World} {b nb : Nat} {h : Hd}
/-- a hand's sequencer: what is done to it, the hand has done -/
theorem ho_order (HS : HandSays UG OG LG NG HG) (hs : Solo (HG b nb) X w h) :
    Calls Tryz.prog 13 #[.pointer (some ⟨nb, 0, none⟩)] w fun e w' => ∃ bo : Nat, e = .returned (.pointer (some ⟨bo, 0, none⟩)) ∧ Below w.heap.size w w' ∧ ∃ F : Nat → Prop, OG bo F w' h.n.o ∧ ∀ W o', Leaves (OG bo) F w' W o' → Solo (HG b nb) X W ⟨h.n.putO o', h.held⟩ ∧ Kept X w' W := by
  obtain ⟨h1, G, hG, h3⟩ := hs
  obtain ⟨F, hF, hFG, hW⟩ := HS.within hG
  refine (HS.rpc.order nb F w h.n hF).mono ?_
  rintro e w' ⟨bo, he, hb, F2, k1, k2, k3⟩
  refine ⟨bo, he, hb, F2, k1, fun W o' hl => ?_⟩
  have r := k3 W o' hl
  have r0 : Leaves (NG nb) F w W (h.n.putO o') := r.ahead (fun k hk => (HS.rpc.thing nb).lt hF k hk) hb
  obtain ⟨G', g1, g2, g3⟩ := hW W _ r0
  refine ⟨⟨fun k hk => Nat.lt_of_lt_of_le (h1 k hk) g2.size, G', g1, fun k hk hg => ?_⟩, ?_⟩
  · rcases g3 k hg with g | g
    · exact h3 k hk g
    · have := h1 k hk; omega
  · obtain ⟨_, _, q2, _⟩ := r
    exact q2.mono (fun k hk hf => h3 k hk (hFG k hf))
end
end Go.Proofs.YtchhmfdalghgcaaGreat
