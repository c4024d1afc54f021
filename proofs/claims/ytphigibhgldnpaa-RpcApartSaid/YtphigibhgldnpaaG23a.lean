/- The statements' own questions to all nodes; units that are told; that rpc is awake. Conditions: the program's functions return what RpcSays says. -/
import Derived.Test.YtphigibhgldnpaaG22a
import Derived.Test.YtphigibhgldnpaaG10b
set_option linter.unusedVariables false
namespace Go.Proofs.Ytphigibhgldnpaa
set_option linter.unusedVariables false
open Go.RowKit
set_option maxRecDepth 20000
theorem i64w_near3 {x : Int} (h : -1000000000000 ≤ x ∧ x ≤ 1000000000000) : i64w x := WalkArith.wf_i64 (by omega)
/-- a question without a projection -/
def akN (kind unit epoch page : Int) (s : ByteArray) : Ak := ⟨kind, unit, epoch, page, 0, 0, s, 0, [], none, 0⟩
theorem akN_ok {k u e p : Int} {s : ByteArray} (hk : i64w k) (hu : i64w u) (he : i64w e) (hp : i64w p) (hs : s.size ≤ 1000000) : AkOk (akN k u e p s) :=
  ⟨hk, hu, he, hp, WalkArith.wf_i64 (n := 0) (by decide), WalkArith.wf_i64 (n := 0) (by decide), Nat.le_trans hs (by unfold maxLen; omega), WalkArith.wf_i64 (n := 0) (by decide), Nat.zero_le _, (fun c hc => by cases hc), fun _ => rfl, Nat.le_refl _⟩
section
variable {UG : Nat → Nat → (Nat → Prop) → World → Us → Prop} {OG : Nat → (Nat → Prop) → World → Od → Prop} {LG : Nat → (Nat → Prop) → World → Ly → Prop} {NG : Nat → (Nat → Prop) → World → Nd → Prop} {X : Nat → Prop} {w : World} {b : Nat} {n : Nd}
theorem n_new (HS : RpcSays UG OG LG NG) {ep room : Int} {ao : Option Addr} {cap : Nat} {L : List (List Int)} (h : CL w ao L) (hl : fewL L) (hg : goodB ep L = true) (hr : 1 ≤ room ∧ room ≤ 4096) :
    Calls Try.prog 5 #[.agg #[.int .i64 ep, .slice ao L.length cap], .int .i64 room] w fun e w' => ∃ b, e = .returned (.tuple #[ptrN b, .int .i64 0]) ∧ Solo (NG b) (fun k => k < w.heap.size) w' (newN ep L room) ∧ Below w.heap.size w w' := by
  refine (HS.new_yes ep ao cap L room w h hl hg hr).mono ?_
  rintro e w' ⟨b, G, he, h1, h2, h3⟩
  exact ⟨b, he, ⟨fun k hk => Nat.lt_of_lt_of_le hk h3.size, G, h1, fun k hk hg => by have := h2 k hg; omega⟩, h3⟩
theorem n_ask (HS : RpcSays UG OG LG NG) (h : Solo (NG b) X w n) {a : Ak} (ho : AkOk a) (hL : fewL a.L) (hs : a.data.size ≤ 1000000) (hu : n.l.used.length ≤ 100000) (hA : ∀ W, Kept X w W → CL W a.ao a.L) :
    Calls Try.prog 8 #[ptrN b, askV a] w fun e w' => ∃ (ao : Option Addr) (cap : Nat) (F : Nat → Prop), e = .returned (ansV (n.ans a) ao cap) ∧ CG F w' (.slice ao (n.ans a).L.length cap) (n.ans a).L ∧ Solo (NG b) (fun k => X k ∨ F k) w' (n.done a) ∧ Kept X w w' :=
  solo_tells (HS.thing b) h (fun F hF hX => HS.ask b F w n a hF ho hL hs hu (fun W hk => hA W (hk.mono hX)))
theorem n_askN (HS : RpcSays UG OG LG NG) (h : Solo (NG b) X w n) {k u e p : Int} {s : ByteArray} (hk : i64w k) (hu : i64w u) (he : i64w e) (hp : i64w p) (hs : s.size ≤ 1000000) (hl : n.l.used.length ≤ 100000) :
    Calls Try.prog 8 #[.pointer (some ⟨b, 0, none⟩), .agg #[.int .i64 k, .int .i64 u, .int .i64 e, .int .i64 p, .int .i64 0, .int .i64 0, .string s, .int .i64 0, .slice none 0 0]] w fun e2 w' => ∃ (xc xn : Int) (xd : ByteArray) (xp xm xz xe : Int) (vo : Option Addr) (vn vc : Nat),
      e2 = .returned (.agg #[.int .i64 xc, .int .i64 xn, .string xd, .int .i64 xp, .slice vo vn vc, .int .i64 xm, .int .i64 xz, .int .i64 xe]) ∧ (xc = (n.ans (akN k u e p s)).code ∧ xn = (n.ans (akN k u e p s)).n ∧ xd = (n.ans (akN k u e p s)).data ∧ xp = (n.ans (akN k u e p s)).pe) ∧ Solo (NG b) X w' (n.done (akN k u e p s)) ∧ Kept X w w' := by
  refine (n_ask HS h (a := akN k u e p s) (akN_ok hk hu he hp hs) few_nil hs hl (fun W _ => CL.nil _ _)).mono ?_
  rintro e2 w' ⟨ao, cap, F, rfl, _, h3, h4⟩
  exact ⟨_, _, _, _, _, _, _, _, _, _, rfl, ⟨rfl, rfl, rfl, rfl⟩, h3.less (fun k hk => .inl hk), h4⟩
/-- a unit that is told -/
theorem n_unit (HS : RpcSays UG OG LG NG) (h : Solo (NG b) X w n) {k : Int} {i : Nat} (hi : i < 16) (hk : k = i) :
    Calls Try.prog 9 #[.pointer (some ⟨b, 0, none⟩), .int .i64 k] w fun e w' => ∃ (bu pb : Nat), e = .returned (.pointer (some ⟨bu, 0, none⟩)) ∧ Solo (NG b) X w' n ∧ Solo (UG bu pb) X w' (n.u i) ∧ Below w.heap.size w w' := by
  subst hk
  obtain ⟨h1, F, hF, h3⟩ := h
  refine (HS.unit b F w n i hF hi).mono ?_
  rintro e w' ⟨bu, pb, he, hb, F2, hu, hs, _⟩
  have hx : ∀ k, X k → k < w'.heap.size := fun k hk => Nat.lt_of_lt_of_le (h1 k hk) hb.size
  exact ⟨bu, pb, he, ⟨hx, F, (HS.thing b).keep hF (Kept.ofBelow hb (fun _ => True)) (fun _ _ => trivial), h3⟩, ⟨hx, F2, hu, fun k hk hf => h3 k hk (hs k hf)⟩, hb⟩
theorem n_unit_no (HS : RpcSays UG OG LG NG) (h : Solo (NG b) X w n) {i : Int} (hi : i < 0 ∨ 15 < i) (hw : i64w i) :
    Calls Try.prog 9 #[.pointer (some ⟨b, 0, none⟩), .int .i64 i] w fun e w' => e = .returned (.pointer none) ∧ Solo (NG b) X w' n ∧ Below w.heap.size w w' := by
  obtain ⟨_, F, hF, _⟩ := id h
  exact (HS.unit_no b F w n i hF hi hw).mono fun e w' ⟨he, hb⟩ => ⟨he, h.below (HS.thing b) hb, hb⟩
theorem n_order (HS : RpcSays UG OG LG NG) (h : Solo (NG b) X w n) :
    Calls Try.prog 13 #[.pointer (some ⟨b, 0, none⟩)] w fun e w' => ∃ bo : Nat, e = .returned (.pointer (some ⟨bo, 0, none⟩)) ∧ Solo (NG b) X w' n ∧ Solo (OG bo) X w' n.o ∧ Below w.heap.size w w' := by
  obtain ⟨h1, F, hF, h3⟩ := h
  refine (HS.order b F w n hF).mono ?_
  rintro e w' ⟨bo, he, hb, F2, hu, hs, _⟩
  have hx : ∀ k, X k → k < w'.heap.size := fun k hk => Nat.lt_of_lt_of_le (h1 k hk) hb.size
  exact ⟨bo, he, ⟨hx, F, (HS.thing b).keep hF (Kept.ofBelow hb (fun _ => True)) (fun _ _ => trivial), h3⟩, ⟨hx, F2, hu, fun k hk hf => h3 k hk (hs k hf)⟩, hb⟩
theorem n_layout (HS : RpcSays UG OG LG NG) (h : Solo (NG b) X w n) :
    Calls Try.prog 15 #[.pointer (some ⟨b, 0, none⟩)] w fun e w' => ∃ bl : Nat, e = .returned (.pointer (some ⟨bl, 0, none⟩)) ∧ Solo (NG b) X w' n ∧ Solo (LG bl) X w' n.l ∧ Below w.heap.size w w' := by
  obtain ⟨h1, F, hF, h3⟩ := h
  refine (HS.layout b F w n hF).mono ?_
  rintro e w' ⟨bl, he, hb, F2, hu, hs, _⟩
  have hx : ∀ k, X k → k < w'.heap.size := fun k hk => Nat.lt_of_lt_of_le (h1 k hk) hb.size
  exact ⟨bl, he, ⟨hx, F, (HS.thing b).keep hF (Kept.ofBelow hb (fun _ => True)) (fun _ _ => trivial), h3⟩, ⟨hx, F2, hu, fun k hk hf => h3 k hk (hs k hf)⟩, hb⟩
/-- what looks at one of them leaves the others -/
theorem t_look {α : Type} {T : (Nat → Prop) → World → α → Prop} {s : α} {v : Value} {fn : FuncId} {args : Array Value} (h : Solo T X w s) (hc : ∀ G : Nat → Prop, T G w s → Calls Try.prog fn args w fun e w' => e = .returned v ∧ Below w.heap.size w w') : Calls Try.prog fn args w fun e w' => e = .returned v ∧ Below w.heap.size w w' := by
  obtain ⟨F, hF, _⟩ := h.2
  exact hc F hF
end
/-- the laws' example -/
def exN0 : Nd := newN 2 [[0, 1]] 9
def exN1 : Nd := exN0.done (akN 6 0 2 0 ⟨#[]⟩)
def exN2 : Nd := exN1.done (akN 1 1 2 0 ⟨#[97]⟩)
def exN3 : Nd := exN2.done (akN 9 0 0 0 ⟨#[]⟩)
theorem exN_facts : goodB 2 [[0, 1]] = true ∧ (exN0.ans (akN 6 0 2 0 ⟨#[]⟩)).code = 0 ∧ (exN0.ans (akN 6 0 2 0 ⟨#[]⟩)).n = 0 ∧ (exN1.ans (akN 1 1 2 0 ⟨#[97]⟩)).code = 0 ∧ (exN2.ans (akN 9 0 0 0 ⟨#[]⟩)).pe = 2 ∧ (exN3.u 1).p.l.length = 1 := by decide +kernel
theorem exN_few : exN0.l.used.length ≤ 100000 ∧ exN1.l.used.length ≤ 100000 ∧ exN2.l.used.length ≤ 100000 := by decide +kernel
set_option maxHeartbeats 8000000 in
theorem wakes13_any {UG : Nat → Nat → (Nat → Prop) → World → Us → Prop} {OG : Nat → (Nat → Prop) → World → Od → Prop} {LG : Nat → (Nat → Prop) → World → Ly → Prop} {NG : Nat → (Nat → Prop) → World → Nd → Prop} (HS : RpcSays UG OG LG NG) (w : World) :
    Calls Try.prog 7 #[] w fun e w' => e = .returned (.bool true) ∧ Below w.heap.size w w' := by
  have FA := Lib.hid exN_facts
  have FF := Lib.hid exN_few
  have ZZ := Lib.hid (fun (x : Int) (h : 0 ≤ x ∧ x ≤ 20) => show i64w x from WalkArith.wf_i64 (by omega))
  have TT := Lib.hid (fun b => HS.thing b)
  have TU := Lib.hid (fun b pb => HS.units.thing b pb)
  have CN := Lib.hid (n_new HS (lit_chain w (u := 0) (v := 1) (ZZ.out 0 (by omega)) (ZZ.out 1 (by omega))).here.1 (few_two 0 1) FA.out.1 (cap := 1) (room := 9) (by decide))
  unfold ptrN at CN
  go_enter Try.func7, Try.ntmps7
  go_wp2_with (go_at_call 5; refine CN.out.mono ?_; rintro e w1 ⟨b, rfl, hu1, hb1⟩; have B1 := Lib.hid ((lit_below w 0 1).trans (hb1.mono (lit_below w 0 1).size)); have U1 := Lib.hid (show Solo (NG b) (fun k => k < w.heap.size) w1 exN0 from hu1.less (fun k hk => Nat.lt_of_lt_of_le hk (lit_below w 0 1).size)); clear hu1 hb1)
  refine (n_askN HS U1.out (k := 6) (u := 0) (e := 2) (p := 0) (s := ⟨#[]⟩) (ZZ.out 6 (by omega)) (ZZ.out 0 (by omega)) (ZZ.out 2 (by omega)) (ZZ.out 0 (by omega)) (Nat.zero_le _) FF.out.1).mono ?_
  rintro e w2 ⟨ac, an, ad, ap, am, az, ae, ao, aon, aoc, rfl, ⟨h1, h2, h3, h4⟩, hu2, hk2⟩
  rw [show (exN0.ans (akN 6 0 2 0 ⟨#[]⟩)).code = 0 from FA.out.2.1] at h1
  subst h1
  rw [show (exN0.ans (akN 6 0 2 0 ⟨#[]⟩)).n = 0 from FA.out.2.2.1] at h2
  subst h2
  clear h3
  clear h4
  have U2 := Lib.hid (show Solo (NG b) (fun k => k < w.heap.size) w2 exN1 from hu2)
  have B2 := Lib.hid (B1.out.trans (hk2.toBelow B1.out.size (fun k h => h)))
  clear hu2 hk2 U1
  go_wp2_with fail
  refine (n_askN HS (U2.out.beside (TT.out b) _) (k := 1) (u := 1) (e := 2) (p := 0) (s := ⟨#[97]⟩) (ZZ.out 1 (by omega)) (ZZ.out 1 (by omega)) (ZZ.out 2 (by omega)) (ZZ.out 0 (by omega)) (by decide) FF.out.2.1).mono ?_
  rintro e w3 ⟨bc, bn, bd, bp, bm, bz, be, bo, bon, boc, rfl, ⟨h1, h2, h3, h4⟩, hu3, hk3⟩
  rw [show (exN1.ans (akN 1 1 2 0 ⟨#[97]⟩)).code = 0 from FA.out.2.2.2.1] at h1
  subst h1
  clear h2
  clear h3
  clear h4
  have U3 := Lib.hid (show Solo (NG b) (fun k => k < w.heap.size ∨ k = w2.heap.size) w3 exN2 from hu3)
  have B3 := Lib.hid ((B2.out.alloc B2.out.size _).trans (hk3.toBelow (by have := B2.out.size; simp; omega) (fun k h => .inl h)))
  have P3 := Lib.hid (hk3.heap (b := w2.heap.size) (Or.inr rfl) (heap_alloc_new w2 _))
  clear hu3 hk3 U2
  go_wp2_with fail
  refine (n_askN HS (U3.out.beside (TT.out b) _) (k := 9) (u := 0) (e := 0) (p := 0) (s := ⟨#[]⟩) (ZZ.out 9 (by omega)) (ZZ.out 0 (by omega)) (ZZ.out 0 (by omega)) (ZZ.out 0 (by omega)) (Nat.zero_le _) FF.out.2.2).mono ?_
  rintro e w4 ⟨cc, cn, cd, cp, cm, cz, ce, co, con, coc, rfl, ⟨h1, h2, h3, h4⟩, hu4, hk4⟩
  clear h1
  clear h2
  clear h3
  rw [show (exN2.ans (akN 9 0 0 0 ⟨#[]⟩)).pe = 2 from FA.out.2.2.2.2.1] at h4
  subst h4
  have U4 := Lib.hid (show Solo (NG b) (fun k => (k < w.heap.size ∨ k = w2.heap.size) ∨ k = w3.heap.size) w4 exN3 from hu4)
  have B4 := Lib.hid ((B3.out.alloc B3.out.size _).trans (hk4.toBelow (by have := B3.out.size; simp; omega) (fun k h => .inl (.inl h))))
  have P4 := Lib.hid (hk4.heap (b := w2.heap.size) (Or.inl (Or.inr rfl)) (below_heap (below_new _ _) P3.out))
  have Q4 := Lib.hid (hk4.heap (b := w3.heap.size) (Or.inr rfl) (heap_alloc_new w3 _))
  clear hu4 hk4 U3 P3
  have p0 := cell_of P4.out 0
  have p1 := cell_of P4.out 1
  have q0 := cell_of Q4.out 0
  have lp := lt_of_block P4.out
  have lq := lt_of_block Q4.out
  have U5 := Lib.hid (U4.out.below (TT.out b) (below_new w4 (.cells #[.int .i64 cc, .int .i64 cn, .string cd, .int .i64 2, .slice co con coc, .int .i64 cm, .int .i64 cz, .int .i64 ce] 34)))
  have B5 := Lib.hid (B4.out.alloc B4.out.size (.cells #[.int .i64 cc, .int .i64 cn, .string cd, .int .i64 2, .slice co con coc, .int .i64 cm, .int .i64 cz, .int .i64 ce] 34))
  clear U4 B4 P4 Q4
  have CU1 := Lib.hid (n_unit HS U5.out (k := 1) (i := 1) (by omega) rfl)
  have CU2 := Lib.hid (fun (w8 : World) (h : Solo (NG b) (fun k => (k < w.heap.size ∨ k = w2.heap.size) ∨ k = w3.heap.size) w8 exN3) => n_unit_no HS h (i := 16) (by omega) (ZZ.out 16 (by omega)))
  go_wp2_with (first
    | (go_at_call 9; refine (CU2.out _ N8.out).mono ?_; rintro e w9 ⟨rfl, _, hb9⟩; have B9 := Lib.hid (B8.out.trans (hb9.mono B8.out.size)); clear hb9)
    | (go_at_call 9; refine CU1.out.mono ?_; rintro e w6 ⟨bu, pb, rfl, hn6, hu6, hb6⟩; have N6 := Lib.hid hn6; have U6 := Lib.hid hu6; have B6 := Lib.hid (B5.out.trans (hb6.mono B5.out.size)); clear hn6 hu6 hb6)
    | (go_at_call 11; refine (t_look U6.out (fun G hG => HS.units.pages bu pb G _ _ hG)).mono ?_; unfold ptrV; rintro e w7 ⟨rfl, hb7⟩; have N7 := Lib.hid (N6.out.below (TT.out b) hb7); have U7 := Lib.hid (U6.out.below (TU.out bu pb) hb7); have B7 := Lib.hid (B6.out.trans (hb7.mono B6.out.size)); clear hb7)
    | (go_at_call 12; refine (t_look U7.out (fun G hG => HS.units.used bu pb G _ _ hG)).mono ?_; rw [FA.out.2.2.2.2.2]; rintro e w8 ⟨rfl, hb8⟩; have N8 := Lib.hid (N7.out.below (TT.out b) hb8); have B8 := Lib.hid (B7.out.trans (hb8.mono B7.out.size)); clear hb8))
  go_ret
  exact ⟨rfl, B9.out⟩
end Go.Proofs.Ytphigibhgldnpaa
