/- The program's own hand holds a question: a copy of it behind all others. Conditions: as each statement says. Questions that the statements ask a hand themselves; that hand is awake. Conditions: the program's functions return what HandSays says. The program's own tail in memory: its five cells, its projection's chains. Conditions: as each statement says. (Written by gen/gentmp.py.) -/
import Derived.Test.YtchhmfdalghgcaaGreatG25b
import Derived.Deep.RegionHeldLaw
import Derived.Test.YtchhmfdalghgcaaGreatG24a
import Derived.Test.YtchhmfdalghgcaaGreatG11b
import Derived.Test.YtchhmfdalghgcaaGreatG04a
import Derived.Test.YtchhmfdalghgcaaGreatG14a
import Derived.Deep.RegionHeld3
import Derived.BigQuiet
set_option linter.unusedVariables false
namespace Go.Proofs.YtchhmfdalghgcaaGreat
set_option linter.unusedVariables false
open Go.RowKit
set_option maxRecDepth 20000
section
variable {NG : Nat → (Nat → Prop) → World → Nd → Prop} {Z : List Ak} {b nb : Nat} {G : Nat → Prop} {w : World} {h : Hd}
theorem hold_no (b nb : Nat) (G : Nat → Prop) (w : World) (h : Hd) (a : Ak) (hh : HMz NG Z b nb G w h) (hl : ¬ h.held.length < 64) :
    Calls Tryz.prog 29 #[.pointer (some ⟨b, 0, none⟩), askV a] w fun e w' => e = .returned (.tuple #[]) ∧ Below w.heap.size w w' := by
  obtain ⟨v, l, hc, hR, hm, _⟩ := hh.cells
  obtain ⟨vo, vc, rfl, _, _, _, _, _⟩ := hR.form
  obtain ⟨c0, c1, _, _⟩ := two_cells hc
  have hb := hh.small
  have k0 : (64 : Int) ≤ (l.length : Int) := by rw [← hm, List.length_map] at hl; omega
  clear hh hc hR hm hl
  obtain ⟨k, un, ep, pg, sz, nn, s, pe, L, ao, cap⟩ := a
  show Calls _ _ #[.pointer (some ⟨b, 0, none⟩), .agg #[.int .i64 k, .int .i64 un, .int .i64 ep, .int .i64 pg, .int .i64 sz, .int .i64 nn, .string s, .int .i64 pe, .slice ao L.length cap]] w _
  go_enter Tryz.func29, Tryz.ntmps29
  go_wp2_with fail
  go_end0
  exact ⟨rfl, (Below.refl _ _).alloc (Nat.le_refl _) _⟩
set_option maxHeartbeats 3200000 in
theorem hold_yes (hN : ∀ b, Thing (NG b)) (b nb : Nat) (G : Nat → Prop) (w : World) (h : Hd) (a : Ak) (hh : HMz NG [] b nb G w h) (ha : HeldOk a) (hC : ∀ W, Kept (fun k => ¬ G k) w W → CL W a.ao a.L) (hl : h.held.length < 64) :
    Calls Tryz.prog 29 #[.pointer (some ⟨b, 0, none⟩), askV a] w fun e w' => e = .returned (.tuple #[]) ∧ Leaves (HMz NG [] b nb) G w w' ⟨h.n, h.held ++ [a.plain]⟩ := by
  have hb0 := below_new w (.cells (askC a).toArray 37)
  have hh0 := (hmz_thing hN [] b nb).keep hh (Kept.ofBelow hb0 (fun _ => True)) (fun _ _ => trivial)
  have hq := heap_alloc_new w (.cells (askC a).toArray 37)
  have hlt := (hmz_thing hN [] b nb).lt hh
  generalize hW0 : w.alloc (.cells (askC a).toArray 37) = W0 at *
  obtain ⟨v, l, hc, hR, hm, hok, hGv, hlay⟩ := hh0.opened hN
  have hml : l.length = h.held.length := by rw [← hm, List.length_map]
  have hb := hh0.small
  have hbv : v.ownBlock ≠ some b := fun e => (hGv b e).2 rfl
  have hqv : v.ownBlock ≠ some w.heap.size := fun e => by have := hlt _ (hGv _ e).1; omega
  have hql := lt_of_block hq
  have HL := Lib.hid (fun (w2 : World) (a2 : Ak) (v2 : Value) (D : Nat → Prop) (e2 : a2.plain = a.plain) (hk : Kept (fun k => v.ownBlock ≠ some k) W0 w2) (hO : OR 37 9 askC w2 0 v2 (l ++ [a2])) (hv : ∀ k, v2.ownBlock = some k → v.ownBlock = some k ∨ W0.heap.size ≤ k) (hD : ∀ k, D k → W0.heap.size ≤ k ∧ k < w2.heap.size ∧ v2.ownBlock ≠ some k) (ho : HeldOk a2 ∧ CK D w2 a2) => show Leaves (HMz NG [] b nb) G w (w2.setCell ⟨b, 1, none⟩ v2) ⟨h.n, h.held ++ [a.plain]⟩ from by
    have r := hlay W0 (Below.refl _ _) w2 v2 (l ++ [a2]) [] D hk (.inl hO) hv hD (by rw [List.length_append, hml]; simp; omega) (fun x hx => by
      rcases hx with hx | hx
      · rcases List.mem_append.1 hx with hx | hx
        · exact .inl hx
        · obtain rfl := List.mem_singleton.1 hx
          exact .inr (.inr ho)
      · cases hx)
    rw [List.map_append, hm, List.map_singleton, e2] at r
    exact r.ahead hlt hb0)
  have HC := Lib.hid (fun W (hk : Kept (fun k => v.ownBlock ≠ some k) W0 W) => hC W (((Kept.ofBelow hb0 _).trans (hk.mono (fun k hg e => hg (hGv k e).1)))))
  have HA := Lib.hid ha
  have HR := Lib.hid hR
  have HB := Lib.hid hc
  obtain ⟨vo, vc, hv, _, _, _, _, _⟩ := hR.form
  have c1 := cell_of hc 1
  obtain ⟨c2, _⟩ := two_cells hc
  have k0 : (l.length : Int) < 64 := by omega
  have hl64 := Lib.hid (show l.length + 1 ≤ 1000000 from by omega)
  clear hh hh0 hc hR hm hok hlay hC ha hlt hb0 hl hml
  obtain ⟨k, un, ep, pg, sz, nn, s, pe, L, ao, cap⟩ := a
  obtain ⟨⟨q0, q1, q2, q3, q4, q5, q6, q7, q8⟩, _⟩ := nine_of hq
  subst hv
  have eW : w.alloc (.cells #[.int .i64 k, .int .i64 un, .int .i64 ep, .int .i64 pg, .int .i64 sz, .int .i64 nn, .string s, .int .i64 pe, .slice ao L.length cap] 37) = W0 := hW0
  have cw : (w.alloc (.cells #[.int .i64 k, .int .i64 un, .int .i64 ep, .int .i64 pg, .int .i64 sz, .int .i64 nn, .string s, .int .i64 pe, .slice ao L.length cap] 37)).cell? ⟨b, 1, none⟩ = some (.slice vo l.length vc) := by rw [eW]; exact c1
  have EW := Lib.hid eW
  clear hq hW0 eW
  show Calls _ _ #[.pointer (some ⟨b, 0, none⟩), .agg #[.int .i64 k, .int .i64 un, .int .i64 ep, .int .i64 pg, .int .i64 sz, .int .i64 nn, .string s, .int .i64 pe, .slice ao L.length cap]] w _
  go_enter Tryz.func29, Tryz.ntmps29
  go_wp2_with fail
  rw [EW.out]
  clear cw EW
  go_region_law (first
    | (refine step_app_held rfl (.tmp 14) (.tmp 17) rfl rfl (HR.out.keep (Kept.ofBelow (HB1.out.trans ((below_new w1 _).mono HB1.out.size)) (fun _ => True)) (fun _ _ => trivial)) (N := [(⟨k, un, ep, pg, sz, nn, s, pe, L, a1, n1⟩ : Ak)]) (m := 1) (ad := ⟨w1.heap.size, 0, none⟩) (cap := 1) rfl rfl hone (by decide) (Nat.le_refl _) hl64.out ?_; intro v2 w2 hI hg2 hv2; obtain ⟨a2, k2, hw2, _, _, _, _, _, _⟩ := hI.form ask_rows; rw [List.length_append, List.length_singleton] at hw2; subst hw2; have HI2 := Lib.hid hI; have HV2 := Lib.hid hv2; have HK2 := Lib.hid (show Kept (fun k => (Value.slice vo l.length vc).ownBlock ≠ some k) w1 w2 from ((Kept.refl _ w1).alloc _).grown hg2 (fun k e h => h e)); have qf := free_of (HK2.out.heap hbv (below_heap HB1.out HB.out)) 1; have qc := (two_cells (HK2.out.heap hbv (below_heap HB1.out HB.out))).2.1; have qr := Nat.lt_of_lt_of_le db HK2.out.size; clear hI hv2)
    | (go_simp; go_at_call 49; refine (apart_any ⟨k, un, ep, pg, sz, nn, s, pe, L, ao, cap⟩ _ HA.out (HC.out _ (Kept.refl _ W0).drew)).mono ?_; rintro e w1 ⟨a1, n1, he, ho1, hk1, hb1⟩; obtain rfl : e = .returned (.agg #[.int .i64 k, .int .i64 un, .int .i64 ep, .int .i64 pg, .int .i64 sz, .int .i64 nn, .string s, .int .i64 pe, .slice a1 L.length n1]) := he; have HB1 := Lib.hid (show Below W0.heap.size W0 w1 from (Below.refl W0.heap.size W0).drew.trans hb1); have HC1 := Lib.hid (show CK (fun k => W0.heap.size ≤ k ∧ k < w1.heap.size) w1 (⟨k, un, ep, pg, sz, nn, s, pe, L, a1, n1⟩ : Ak) from hk1); have HO1 := Lib.hid ho1; have hone := Row.one (f := askC) (n := 9) (x := (⟨k, un, ep, pg, sz, nn, s, pe, L, a1, n1⟩ : Ak)) (heap_alloc_new w1 (.cells #[.int .i64 k, .int .i64 un, .int .i64 ep, .int .i64 pg, .int .i64 sz, .int .i64 nn, .string s, .int .i64 pe, .slice a1 L.length n1] 37)); have d1 := cellB HB1.out hb (show W0.cell? ⟨b, 1, none⟩ = some (.slice vo l.length vc) from c1); have db := Nat.lt_of_lt_of_le hb HB1.out.size; clear ho1 hk1))
  all_goals
    go_wp2_with fail
    go_end0
    refine ⟨rfl, HL.out w2 ⟨k, un, ep, pg, sz, nn, s, pe, L, a1, n1⟩ _ (fun k => W0.heap.size ≤ k ∧ k < w1.heap.size) rfl ((Kept.ofBelow HB1.out _).trans HK2.out) HI2.out (fun j e => ?_) (fun j hj => ⟨hj.1, Nat.lt_of_lt_of_le hj.2 HK2.out.size, fun e => ?_⟩) ⟨HO1.out, HC1.out.keep HK2.out (fun j hj e => ?_)⟩⟩
    · rcases HV2.out j e with h | h
      · exact .inl h
      · have := HB1.out.size; simp at h; exact .inr (by omega)
    · rcases HV2.out j e with h | h
      · have := HR.out.lt j h; omega
      · have := hj.2; simp at h; omega
    · have := HR.out.lt j e; have := hj.1; omega
end
end Go.Proofs.YtchhmfdalghgcaaGreat
namespace Go.Proofs.YtchhmfdalghgcaaGreat
set_option linter.unusedVariables false
open Go.RowKit
set_option maxRecDepth 20000
section
variable {UG : Nat → Nat → (Nat → Prop) → World → Us → Prop} {OG : Nat → (Nat → Prop) → World → Od → Prop} {LG : Nat → (Nat → Prop) → World → Ly → Prop} {NG : Nat → (Nat → Prop) → World → Nd → Prop} {HG : Nat → Nat → (Nat → Prop) → World → Hd → Prop} {X : Nat → Prop} {w w' : World} {b nb : Nat} {h : Hd}
theorem h_does (HS : HandSays UG OG LG NG HG) (hs : Solo (HG b nb) X w h) (hl : h.n.l.used.length ≤ 100000) {k : Int} (hk : i64w k) :
    Calls Tryz.prog 11 #[.pointer (some ⟨b, 0, none⟩), .int .i64 k] w fun e w' => e = .returned (.bool (h.has k)) ∧ Solo (HG b nb) X w' (h.does k) ∧ Kept X w w' :=
  solo_call (R := fun e => e = .returned (.bool (h.has k))) (HS.thing b nb) hs (fun F hF => HS.does b nb F w h k hF hl hk)
end
end Go.Proofs.YtchhmfdalghgcaaGreat
namespace Go.Proofs.YtchhmfdalghgcaaGreat
set_option linter.unusedVariables false
open Go.RowKit
set_option maxRecDepth 20000
theorem fv_of {w : World} {b : Nat} {t : TypeId} {v0 v1 v2 v3 v4 : Value} (h : w.heap[b]? = some (.cells #[v0, v1, v2, v3, v4] t (0, 0))) :
    (w.cell? ⟨b, 0, none⟩ = some v0 ∧ w.cell? ⟨b, 1, none⟩ = some v1 ∧ w.cell? ⟨b, 2, none⟩ = some v2 ∧ w.cell? ⟨b, 3, none⟩ = some v3 ∧ w.cell? ⟨b, 4, none⟩ = some v4) ∧
    w.frozen? ⟨b, 0, none⟩ = false ∧ w.frozen? ⟨b, 1, none⟩ = false ∧ w.frozen? ⟨b, 2, none⟩ = false ∧ w.frozen? ⟨b, 3, none⟩ = false ∧ w.frozen? ⟨b, 4, none⟩ = false :=
  ⟨⟨cell_of h 0, cell_of h 1, cell_of h 2, cell_of h 3, cell_of h 4⟩, free_of h 0, free_of h 1, free_of h 2, free_of h 3, free_of h 4⟩
theorem fvset0 {w : World} {b : Nat} {v0 v1 v2 v3 v4 : Value} {t : TypeId} (h : w.heap[b]? = some (.cells #[v0, v1, v2, v3, v4] t (0, 0))) (u : Value) : (w.setCell ⟨b, 0, none⟩ u).heap[b]? = some (.cells #[u, v1, v2, v3, v4] t (0, 0)) := heap_setCell_same w b 0 _ t u h
theorem fvset1 {w : World} {b : Nat} {v0 v1 v2 v3 v4 : Value} {t : TypeId} (h : w.heap[b]? = some (.cells #[v0, v1, v2, v3, v4] t (0, 0))) (u : Value) : (w.setCell ⟨b, 1, none⟩ u).heap[b]? = some (.cells #[v0, u, v2, v3, v4] t (0, 0)) := heap_setCell_same w b 1 _ t u h
theorem fvset2 {w : World} {b : Nat} {v0 v1 v2 v3 v4 : Value} {t : TypeId} (h : w.heap[b]? = some (.cells #[v0, v1, v2, v3, v4] t (0, 0))) (u : Value) : (w.setCell ⟨b, 2, none⟩ u).heap[b]? = some (.cells #[v0, v1, u, v3, v4] t (0, 0)) := heap_setCell_same w b 2 _ t u h
theorem fvset3 {w : World} {b : Nat} {v0 v1 v2 v3 v4 : Value} {t : TypeId} (h : w.heap[b]? = some (.cells #[v0, v1, v2, v3, v4] t (0, 0))) (u : Value) : (w.setCell ⟨b, 3, none⟩ u).heap[b]? = some (.cells #[v0, v1, v2, u, v4] t (0, 0)) := heap_setCell_same w b 3 _ t u h
theorem fvset4 {w : World} {b : Nat} {v0 v1 v2 v3 v4 : Value} {t : TypeId} (h : w.heap[b]? = some (.cells #[v0, v1, v2, v3, v4] t (0, 0))) (u : Value) : (w.setCell ⟨b, 4, none⟩ u).heap[b]? = some (.cells #[v0, v1, v2, v3, u] t (0, 0)) := heap_setCell_same w b 4 _ t u h
/-- a tail is at one of its three places, its chains are few -/
def Tl.ok (t : Tl) : Prop := 1 ≤ t.at_ ∧ t.at_ ≤ 3 ∧ fewL t.L
/-- block b is the program's tail -/
def TM (b : Nat) (G : Nat → Prop) (w : World) (t : Tl) : Prop :=
  ∃ (v : Value) (F : Nat → Prop), w.heap[b]? = some (.cells #[.int .i64 t.ep, v, .int .i64 (t.at_ - 1), .int .i64 t.n, .int .i64 t.e] 83 (0, 0)) ∧ CG F w v t.L ∧ t.ok ∧ G b ∧ (∀ k, F k → G k ∧ k ≠ b) ∧ ∀ k, G k → k < w.heap.size
theorem tm_thing (b : Nat) : Thing (TM b) where
  lt := by
    rintro G w t ⟨v, F, _, _, _, _, _, h⟩ k hk
    exact h k hk
  keep := by
    rintro G S w w' t ⟨v, F, h1, h2, h0, h3, h4, h5⟩ hk hS
    exact ⟨v, F, hk.heap (hS b h3) h1, h2.keep hk (fun k hf => hS k (h4 k hf).1), h0, h3, h4, fun k hg => Nat.lt_of_lt_of_le (h5 k hg) hk.size⟩
section
variable {w W W2 : World} {b : Nat} {G H : Nat → Prop} {t t' : Tl}
theorem TM.ok (h : TM b G w t) : t.ok := by
  obtain ⟨_, _, _, _, h, _⟩ := h
  exact h
theorem TM.small (h : TM b G w t) : b < w.heap.size := by
  obtain ⟨_, _, h1, _⟩ := h
  exact lt_of_block h1
theorem TM.below (h : TM b G w t) {w' : World} (hb : Below w.heap.size w w') : TM b G w' t := (tm_thing b).keep h (Kept.ofBelow hb (fun _ => True)) (fun _ _ => trivial)
/-- what the tail's cells hold; they may be turned, the chains being where they are -/
theorem TM.open (h : TM b G w t) : ∃ ao cap, w.heap[b]? = some (.cells #[.int .i64 t.ep, .slice ao t.L.length cap, .int .i64 (t.at_ - 1), .int .i64 t.n, .int .i64 t.e] 83 (0, 0)) ∧ CL w ao t.L ∧
    ∀ (W : World) (t' : Tl), Kept (fun k => k ≠ b) w W → t'.L = t.L → t'.ok → W.heap[b]? = some (.cells #[.int .i64 t'.ep, .slice ao t.L.length cap, .int .i64 (t'.at_ - 1), .int .i64 t'.n, .int .i64 t'.e] 83 (0, 0)) → Leaves (TM b) G w W t' := by
  obtain ⟨v, F, h1, h2, _, h3, h4, h5⟩ := h
  obtain ⟨ao, cap, rfl, h9, _⟩ := h2.cl
  refine ⟨ao, cap, h1, h9, fun W t' hk hL h0 hW => ⟨G, ⟨_, F, hW, ?_, h0, h3, h4, fun k hg => Nat.lt_of_lt_of_le (h5 k hg) hk.size⟩, hk.mono (fun k hn e => hn (e ▸ h3)), fun k hk => .inl hk⟩⟩
  rw [hL]
  exact h2.keep hk (fun k hf => (h4 k hf).2)
/-- a copy of a projection is laid into the tail -/
theorem TM.chains (h : TM b G w t) (hb : Below w.heap.size w W) {v : Value} (hO : OC W w.heap.size v t'.L) (hk : Kept (fun k => k ≠ b) W W2) (h0 : t'.ok)
    (hW : W2.heap[b]? = some (.cells #[.int .i64 t'.ep, v, .int .i64 (t'.at_ - 1), .int .i64 t'.n, .int .i64 t'.e] 83 (0, 0))) : Leaves (TM b) G w W2 t' := by
  obtain ⟨v0, F, h1, h2, _, h3, h4, h5⟩ := h
  have hr := lt_of_block h1
  have hs := hk.size
  refine ⟨fun k => G k ∨ (w.heap.size ≤ k ∧ k < W.heap.size), ⟨v, fun k => w.heap.size ≤ k ∧ k < W.heap.size, hW, ?_, h0, .inl h3, fun k hk2 => ⟨.inr hk2, by omega⟩, fun k hk2 => ?_⟩, (Kept.ofBelow hb _).trans (hk.mono (fun k hn e => hn (e ▸ h3))), fun k hk2 => hk2.imp id (fun h => h.1)⟩
  · exact (CG.of hO).keep hk (fun k hk => by omega)
  · rcases hk2 with hk2 | hk2
    · exact Nat.lt_of_lt_of_le (h5 k hk2) (Nat.le_trans hb.size hs)
    · omega
end
end Go.Proofs.YtchhmfdalghgcaaGreat
