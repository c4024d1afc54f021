/- The program's own hand holds a question: a copy of it behind all others. Conditions: as each statement says. Questions that the statements ask a hand themselves; that hand is awake. Conditions: the program's functions return what HandSays says. The program's own append in memory: its nine cells, its projection's chains. Conditions: as each statement says. -/
import Derived.Test.YtimjlfkdbkafeaaGreatG25b
import Derived.Deep.RegionHeldLaw
import Derived.Test.YtimjlfkdbkafeaaGreatG22a
import Derived.Test.YtimjlfkdbkafeaaGreatG24a
import Derived.Test.YtimjlfkdbkafeaaGreatG11b
import Derived.Test.YtimjlfkdbkafeaaGreatG03a
set_option linter.unusedVariables false
namespace Go.Proofs.YtimjlfkdbkafeaaGreat
set_option linter.unusedVariables false
open Go.RowKit
set_option maxRecDepth 20000
section
variable {NG : Nat → (Nat → Prop) → World → Nd → Prop} {Z : List Ak} {b nb : Nat} {G : Nat → Prop} {w : World} {h : Hd}
theorem hold_no (b nb : Nat) (G : Nat → Prop) (w : World) (h : Hd) (a : Ak) (hh : HMz NG Z b nb G w h) (hl : ¬ h.held.length < 64) :
    Calls Tryz.prog 42 #[.pointer (some ⟨b, 0, none⟩), askV a] w fun e w' => e = .returned (.tuple #[]) ∧ Below w.heap.size w w' := by
  obtain ⟨v, l, hc, hR, hm, _⟩ := hh.cells
  obtain ⟨vo, vc, rfl, _, _, _, _, _⟩ := hR.form
  obtain ⟨c0, c1, _, _⟩ := two_cells hc
  have hb := hh.small
  have k0 : (64 : Int) ≤ (l.length : Int) := by rw [← hm, List.length_map] at hl; omega
  clear hh hc hR hm hl
  obtain ⟨k, un, ep, pg, sz, nn, s, pe, L, ao, cap⟩ := a
  show Calls _ _ #[.pointer (some ⟨b, 0, none⟩), .agg #[.int .i64 k, .int .i64 un, .int .i64 ep, .int .i64 pg, .int .i64 sz, .int .i64 nn, .string s, .int .i64 pe, .slice ao L.length cap]] w _
  go_enter Tryz.func42, Tryz.ntmps42
  go_wp2_with fail
  go_end0
  exact ⟨rfl, (Below.refl _ _).alloc (Nat.le_refl _) _⟩
set_option maxHeartbeats 3200000 in
theorem hold_yes (hN : ∀ b, Thing (NG b)) (b nb : Nat) (G : Nat → Prop) (w : World) (h : Hd) (a : Ak) (hh : HMz NG [] b nb G w h) (ha : HeldOk a) (hC : ∀ W, Kept (fun k => ¬ G k) w W → CL W a.ao a.L) (hl : h.held.length < 64) :
    Calls Tryz.prog 42 #[.pointer (some ⟨b, 0, none⟩), askV a] w fun e w' => e = .returned (.tuple #[]) ∧ Leaves (HMz NG [] b nb) G w w' ⟨h.n, h.held ++ [a.plain]⟩ := by
  have hb0 := below_new w (.cells (askC a).toArray 35)
  have hh0 := (hmz_thing hN [] b nb).keep hh (Kept.ofBelow hb0 (fun _ => True)) (fun _ _ => trivial)
  have hq := heap_alloc_new w (.cells (askC a).toArray 35)
  have hlt := (hmz_thing hN [] b nb).lt hh
  generalize hW0 : w.alloc (.cells (askC a).toArray 35) = W0 at *
  obtain ⟨v, l, hc, hR, hm, hok, hGv, hlay⟩ := hh0.opened hN
  have hml : l.length = h.held.length := by rw [← hm, List.length_map]
  have hb := hh0.small
  have hbv : v.ownBlock ≠ some b := fun e => (hGv b e).2 rfl
  have hqv : v.ownBlock ≠ some w.heap.size := fun e => by have := hlt _ (hGv _ e).1; omega
  have hql := lt_of_block hq
  have HL := Lib.hid (fun (w2 : World) (a2 : Ak) (v2 : Value) (D : Nat → Prop) (e2 : a2.plain = a.plain) (hk : Kept (fun k => v.ownBlock ≠ some k) W0 w2) (hO : OR 35 9 askC w2 0 v2 (l ++ [a2])) (hv : ∀ k, v2.ownBlock = some k → v.ownBlock = some k ∨ W0.heap.size ≤ k) (hD : ∀ k, D k → W0.heap.size ≤ k ∧ k < w2.heap.size ∧ v2.ownBlock ≠ some k) (ho : HeldOk a2 ∧ CK D w2 a2) => show Leaves (HMz NG [] b nb) G w (w2.setCell ⟨b, 1, none⟩ v2) ⟨h.n, h.held ++ [a.plain]⟩ from by
    have r := hlay W0 (Below.refl _ _) w2 v2 (l ++ [a2]) [] D hk (.inl hO) hv hD (by rw [List.length_append, hml]; simp; omega) (fun x hx => by
      rcases hx with hx | hx
      · rcases List.mem_append.1 hx with hx | hx
        · exact .inl hx
        · obtain rfl := List.mem_singleton.1 hx
          exact .inr (.inr ho)
      · cases hx)
    rw [List.map_append, hm, List.map_singleton, e2] at r
    exact r.ahead hlt hb0)
  have HC := Lib.hid (fun W (hk : Kept (fun k => v.ownBlock ≠ some k) W0 W) => hC W (((Kept.ofBelow hb0 _).trans (hk.mono (fun k hg e => hg (hGv k e).1)))))
  have HA := Lib.hid ha
  have HR := Lib.hid hR
  have HB := Lib.hid hc
  obtain ⟨vo, vc, hv, _, _, _, _, _⟩ := hR.form
  have c1 := cell_of hc 1
  obtain ⟨c2, _⟩ := two_cells hc
  have k0 : (l.length : Int) < 64 := by omega
  have hl64 := Lib.hid (show l.length + 1 ≤ 1000000 from by omega)
  clear hh hh0 hc hR hm hok hlay hC ha hlt hb0 hl hml
  obtain ⟨k, un, ep, pg, sz, nn, s, pe, L, ao, cap⟩ := a
  obtain ⟨⟨q0, q1, q2, q3, q4, q5, q6, q7, q8⟩, _⟩ := nine_of hq
  subst hv
  have eW : w.alloc (.cells #[.int .i64 k, .int .i64 un, .int .i64 ep, .int .i64 pg, .int .i64 sz, .int .i64 nn, .string s, .int .i64 pe, .slice ao L.length cap] 35) = W0 := hW0
  have cw : (w.alloc (.cells #[.int .i64 k, .int .i64 un, .int .i64 ep, .int .i64 pg, .int .i64 sz, .int .i64 nn, .string s, .int .i64 pe, .slice ao L.length cap] 35)).cell? ⟨b, 1, none⟩ = some (.slice vo l.length vc) := by rw [eW]; exact c1
  have EW := Lib.hid eW
  clear hq hW0 eW
  show Calls _ _ #[.pointer (some ⟨b, 0, none⟩), .agg #[.int .i64 k, .int .i64 un, .int .i64 ep, .int .i64 pg, .int .i64 sz, .int .i64 nn, .string s, .int .i64 pe, .slice ao L.length cap]] w _
  go_enter Tryz.func42, Tryz.ntmps42
  go_wp2_with fail
  rw [EW.out]
  clear cw EW
  go_region_law (first
    | (refine step_app_held rfl (.tmp 14) (.tmp 17) rfl rfl (HR.out.keep (Kept.ofBelow (HB1.out.trans ((below_new w1 _).mono HB1.out.size)) (fun _ => True)) (fun _ _ => trivial)) (N := [(⟨k, un, ep, pg, sz, nn, s, pe, L, a1, n1⟩ : Ak)]) (m := 1) (ad := ⟨w1.heap.size, 0, none⟩) (cap := 1) rfl rfl hone (by decide) (Nat.le_refl _) hl64.out ?_; intro v2 w2 hI hg2 hv2; obtain ⟨a2, k2, hw2, _, _, _, _, _, _⟩ := hI.form ask_rows; rw [List.length_append, List.length_singleton] at hw2; subst hw2; have HI2 := Lib.hid hI; have HV2 := Lib.hid hv2; have HK2 := Lib.hid (show Kept (fun k => (Value.slice vo l.length vc).ownBlock ≠ some k) w1 w2 from ((Kept.refl _ w1).alloc _).grown hg2 (fun k e h => h e)); have qf := free_of (HK2.out.heap hbv (below_heap HB1.out HB.out)) 1; have qc := (two_cells (HK2.out.heap hbv (below_heap HB1.out HB.out))).2.1; have qr := Nat.lt_of_lt_of_le db HK2.out.size; clear hI hv2)
    | (go_simp; go_at_call 66; refine (apart_any ⟨k, un, ep, pg, sz, nn, s, pe, L, ao, cap⟩ _ HA.out (HC.out _ (Kept.refl _ W0).drew)).mono ?_; rintro e w1 ⟨a1, n1, he, ho1, hk1, hb1⟩; obtain rfl : e = .returned (.agg #[.int .i64 k, .int .i64 un, .int .i64 ep, .int .i64 pg, .int .i64 sz, .int .i64 nn, .string s, .int .i64 pe, .slice a1 L.length n1]) := he; have HB1 := Lib.hid (show Below W0.heap.size W0 w1 from (Below.refl W0.heap.size W0).drew.trans hb1); have HC1 := Lib.hid (show CK (fun k => W0.heap.size ≤ k ∧ k < w1.heap.size) w1 (⟨k, un, ep, pg, sz, nn, s, pe, L, a1, n1⟩ : Ak) from hk1); have HO1 := Lib.hid ho1; have hone := Row.one (f := askC) (n := 9) (x := (⟨k, un, ep, pg, sz, nn, s, pe, L, a1, n1⟩ : Ak)) (heap_alloc_new w1 (.cells #[.int .i64 k, .int .i64 un, .int .i64 ep, .int .i64 pg, .int .i64 sz, .int .i64 nn, .string s, .int .i64 pe, .slice a1 L.length n1] 35)); have d1 := cellB HB1.out hb (show W0.cell? ⟨b, 1, none⟩ = some (.slice vo l.length vc) from c1); have db := Nat.lt_of_lt_of_le hb HB1.out.size; clear ho1 hk1))
  all_goals
    go_wp2_with fail
    go_end0
    refine ⟨rfl, HL.out w2 ⟨k, un, ep, pg, sz, nn, s, pe, L, a1, n1⟩ _ (fun k => W0.heap.size ≤ k ∧ k < w1.heap.size) rfl ((Kept.ofBelow HB1.out _).trans HK2.out) HI2.out (fun j e => ?_) (fun j hj => ⟨hj.1, Nat.lt_of_lt_of_le hj.2 HK2.out.size, fun e => ?_⟩) ⟨HO1.out, HC1.out.keep HK2.out (fun j hj e => ?_)⟩⟩
    · rcases HV2.out j e with h | h
      · exact .inl h
      · have := HB1.out.size; simp at h; exact .inr (by omega)
    · rcases HV2.out j e with h | h
      · have := HR.out.lt j h; omega
      · have := hj.2; simp at h; omega
    · have := HR.out.lt j e; have := hj.1; omega
end
end Go.Proofs.YtimjlfkdbkafeaaGreat
namespace Go.Proofs.YtimjlfkdbkafeaaGreat
set_option linter.unusedVariables false
open Go.RowKit
set_option maxRecDepth 20000
section
variable {UG : Nat → Nat → (Nat → Prop) → World → Us → Prop} {OG : Nat → (Nat → Prop) → World → Od → Prop} {LG : Nat → (Nat → Prop) → World → Ly → Prop} {NG : Nat → (Nat → Prop) → World → Nd → Prop} {HG : Nat → Nat → (Nat → Prop) → World → Hd → Prop} {X : Nat → Prop} {w w' : World} {b nb : Nat} {h : Hd}
theorem h_ask (HS : HandSays UG OG LG NG HG) (hs : Solo (HG b nb) X w h) {a : Ak} {fate : Int} (ho : AkOk a) (hL : fewL a.L) (hd : a.data.size ≤ 1000000) (hu : h.n.l.used.length ≤ 100000) (hf : i64w fate) (hA : ∀ W, Kept X w W → CL W a.ao a.L) :
    Calls Tryz.prog 12 #[ptrH b, askV a, .int .i64 fate] w fun e w' => ∃ (ao : Option Addr) (cap : Nat) (C : Nat → Prop), e = .returned (heardT (h.heard a fate) (decide (fate = 0)) ao cap) ∧ CG C w' (.slice ao (h.heard a fate).L.length cap) (h.heard a fate).L ∧ Solo (HG b nb) (fun k => X k ∨ C k) w' (h.asked a.plain fate) ∧ Kept X w w' :=
  solo_told (HS.thing b nb) hs (fun F hF hX => HS.ask b nb F w h a fate hF ho hL hd hu hf (fun W hk => hA W (hk.mono hX)))
/-- a question without a projection -/
theorem h_askN (HS : HandSays UG OG LG NG HG) (hs : Solo (HG b nb) X w h) {k u e p fate : Int} {s : ByteArray} (hk : i64w k) (hu : i64w u) (he : i64w e) (hp : i64w p) (hd : s.size ≤ 1000000) (hl : h.n.l.used.length ≤ 100000) (hf : i64w fate) :
    Calls Tryz.prog 12 #[.pointer (some ⟨b, 0, none⟩), .agg #[.int .i64 k, .int .i64 u, .int .i64 e, .int .i64 p, .int .i64 0, .int .i64 0, .string s, .int .i64 0, .slice none 0 0], .int .i64 fate] w fun e2 w' => ∃ (xc xn : Int) (xd : ByteArray) (xp xm xz xe : Int) (vo : Option Addr) (vn vc : Nat) (c : Bool),
      e2 = .returned (.tuple #[.agg #[.int .i64 xc, .int .i64 xn, .string xd, .int .i64 xp, .slice vo vn vc, .int .i64 xm, .int .i64 xz, .int .i64 xe], .bool c]) ∧ c = decide (fate = 0) ∧ (xc = (h.heard (akN k u e p s) fate).code ∧ xn = (h.heard (akN k u e p s) fate).n) ∧ Solo (HG b nb) X w' (h.asked (akN k u e p s) fate) ∧ Kept X w w' := by
  refine (h_ask HS hs (a := akN k u e p s) (akN_ok hk hu he hp hd) few_nil hd hl hf (fun W _ => CL.nil _ _)).mono ?_
  rintro e2 w' ⟨ao, cap, C, rfl, _, h3, h4⟩
  exact ⟨_, _, _, _, _, _, _, _, _, _, _, rfl, rfl, ⟨rfl, rfl⟩, h3.less (fun k hk => .inl hk), h4⟩
theorem h_does (HS : HandSays UG OG LG NG HG) (hs : Solo (HG b nb) X w h) (hl : h.n.l.used.length ≤ 100000) {k : Int} (hk : i64w k) :
    Calls Tryz.prog 13 #[.pointer (some ⟨b, 0, none⟩), .int .i64 k] w fun e w' => e = .returned (.bool (h.has k)) ∧ Solo (HG b nb) X w' (h.does k) ∧ Kept X w w' :=
  solo_call (R := fun e => e = .returned (.bool (h.has k))) (HS.thing b nb) hs (fun F hF => HS.does b nb F w h k hF hl hk)
end
def akH : Ak := akN 6 0 0 0 ⟨#[]⟩
def exH0 : Hd := ⟨newN 0 [[0, 1]] 9, []⟩
def exH1 : Hd := exH0.asked akH 2
def exH2 : Hd := exH1.asked akH 3
def exH3 : Hd := exH2.asked akH 0
def exH4 : Hd := exH3.does 0
def exH5 : Hd := exH4.asked akH 0
theorem exH_facts : goodB 0 [[0, 1]] = true ∧ (exH2.heard akH 0).n = 1 ∧ exH3.has 0 = true ∧ (exH4.heard akH 0).n = 3 := by decide +kernel
theorem exH_few : exH0.n.l.used.length ≤ 100000 ∧ exH1.n.l.used.length ≤ 100000 ∧ exH2.n.l.used.length ≤ 100000 ∧ exH3.n.l.used.length ≤ 100000 ∧ exH4.n.l.used.length ≤ 100000 := by decide +kernel
end Go.Proofs.YtimjlfkdbkafeaaGreat
namespace Go.Proofs.YtimjlfkdbkafeaaGreat
set_option linter.unusedVariables false
open Go.RowKit
set_option maxRecDepth 20000
/-- the cells of an append, its chains at v -/
def apC (q : Qa) (v : Value) : Array Value := #[.int .i64 q.ep, v, .string q.txt, .int .i64 q.at_, .int .i64 q.was, .int .i64 q.addr, .int .i64 q.unit, .bool q.may, .int .i64 q.err]
/-- block b is the program's append -/
def AQ (b : Nat) (G : Nat → Prop) (w : World) (q : Qa) : Prop :=
  ∃ (v : Value) (F : Nat → Prop), w.heap[b]? = some (.cells (apC q v) 84 (0, 0)) ∧ CG F w v q.L ∧ G b ∧ (∀ k, F k → G k ∧ k ≠ b) ∧ ∀ k, G k → k < w.heap.size
theorem aq_thing (b : Nat) : Thing (AQ b) where
  lt := by
    rintro G w q ⟨v, F, _, _, _, _, h⟩ k hk
    exact h k hk
  keep := by
    rintro G S w w' q ⟨v, F, h1, h2, h3, h4, h5⟩ hk hS
    exact ⟨v, F, hk.heap (hS b h3) h1, h2.keep hk (fun k hf => hS k (h4 k hf).1), h3, h4, fun k hg => Nat.lt_of_lt_of_le (h5 k hg) hk.size⟩
/-- block b is the document's append -/
def AM (b : Nat) (G : Nat → Prop) (w : World) (a : Ap) : Prop := ∃ q, SimA q a ∧ AQ b G w q
theorem am_thing (b : Nat) : Thing (AM b) where
  lt := by
    rintro G w a ⟨q, _, h⟩ k hk
    exact (aq_thing b).lt h k hk
  keep := by
    rintro G S w w' a ⟨q, h0, h⟩ hk hS
    exact ⟨q, h0, (aq_thing b).keep h hk hS⟩
section
variable {w W W2 : World} {b : Nat} {G H : Nat → Prop} {q q' : Qa}
theorem AQ.small (h : AQ b G w q) : b < w.heap.size := by
  obtain ⟨_, _, h1, _⟩ := h
  exact lt_of_block h1
theorem AQ.below (h : AQ b G w q) {w' : World} (hb : Below w.heap.size w w') : AQ b G w' q := (aq_thing b).keep h (Kept.ofBelow hb (fun _ => True)) (fun _ _ => trivial)
/-- what the append's cells hold; they may be turned, the chains being where they are -/
theorem AQ.open (h : AQ b G w q) : ∃ ao cap, w.heap[b]? = some (.cells #[.int .i64 q.ep, .slice ao q.L.length cap, .string q.txt, .int .i64 q.at_, .int .i64 q.was, .int .i64 q.addr, .int .i64 q.unit, .bool q.may, .int .i64 q.err] 84 (0, 0)) ∧ CL w ao q.L ∧
    ∀ (W : World) (q' : Qa), Kept (fun k => k ≠ b) w W → q'.L = q.L → W.heap[b]? = some (.cells #[.int .i64 q'.ep, .slice ao q.L.length cap, .string q'.txt, .int .i64 q'.at_, .int .i64 q'.was, .int .i64 q'.addr, .int .i64 q'.unit, .bool q'.may, .int .i64 q'.err] 84 (0, 0)) → Leaves (AQ b) G w W q' := by
  obtain ⟨v, F, h1, h2, h3, h4, h5⟩ := h
  obtain ⟨ao, cap, rfl, h9, _⟩ := h2.cl
  refine ⟨ao, cap, h1, h9, fun W q' hk hL hW => ⟨G, ⟨_, F, hW, ?_, h3, h4, fun k hg => Nat.lt_of_lt_of_le (h5 k hg) hk.size⟩, hk.mono (fun k hn e => hn (e ▸ h3)), fun k hk => .inl hk⟩⟩
  rw [hL]
  exact h2.keep hk (fun k hf => (h4 k hf).2)
/-- a copy of a projection is laid into the append -/
theorem AQ.chains (h : AQ b G w q) (hb : Below w.heap.size w W) {e : Int} {v : Value} {L : List (List Int)} (hO : OC W w.heap.size v L) (hk : Kept (fun k => k ≠ b) W W2)
    (hW : W2.heap[b]? = some (.cells #[.int .i64 e, v, .string q.txt, .int .i64 2, .int .i64 q.was, .int .i64 q.addr, .int .i64 q.unit, .bool q.may, .int .i64 q.err] 84 (0, 0))) : Leaves (AQ b) G w W2 (q.proj e L) := by
  obtain ⟨v0, F, h1, h2, h3, h4, h5⟩ := h
  have hr := lt_of_block h1
  have hs := hk.size
  refine ⟨fun k => G k ∨ (w.heap.size ≤ k ∧ k < W.heap.size), ⟨v, fun k => w.heap.size ≤ k ∧ k < W.heap.size, hW, ?_, .inl h3, fun k hk2 => ⟨.inr hk2, by omega⟩, fun k hk2 => ?_⟩, (Kept.ofBelow hb _).trans (hk.mono (fun k hn e => hn (e ▸ h3))), fun k hk2 => hk2.imp id (fun h => h.1)⟩
  · exact (CG.of hO).keep hk (fun k hk => by omega)
  · rcases hk2 with hk2 | hk2
    · exact Nat.lt_of_lt_of_le (h5 k hk2) (Nat.le_trans hb.size hs)
    · omega
end
end Go.Proofs.YtimjlfkdbkafeaaGreat
