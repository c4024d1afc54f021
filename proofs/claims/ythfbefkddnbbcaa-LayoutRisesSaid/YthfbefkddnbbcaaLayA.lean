/- The document's own layout in memory, and what its New makes. No conditions but those that the statements name. -/
import Derived.Test.YthfbefkddnbbcaaLayM
import Derived.Test.YthfbefkddnbbcaaSide
import Derived.Test.YthfbefkddnbbcaaAskB
import Derived.Test.YthfbefkddnbbcaaPrjH
import Derived.Test.YthfbefkddnbbcaaPrjP
import Derived.Deep.RegionHeld3
import Derived.Deep.RegionHeldLaw
namespace Go.Proofs.Ythfbefkddnbbcaa
set_option linter.unusedVariables false
open Go.RowKit
set_option maxRecDepth 20000
theorem below_new (w : World) (x : Obj) : Below w.heap.size w (w.alloc x) := (Below.refl _ _).alloc (Nat.le_refl _) x
def ptrL (b : Nat) : Value := .pointer (some ⟨b, 0, none⟩)
/-- v is a slice of slices of numbers, the chains L, all of it in blocks of G -/
def CG (G : Nat → Prop) (w : World) (v : Value) (L : List (List Int)) : Prop := ∃ ao cap, v = .slice ao L.length cap ∧ (ao = none → cap = 0) ∧ L.length ≤ cap ∧ (∀ a, ao = some a → G a.block ∧ a.block < w.heap.size) ∧
  ∀ i (h : i < L.length), ∃ bk off ai ci, ao = some ⟨bk, off, none⟩ ∧ w.cell? ⟨bk, off + i, none⟩ = some (.slice ai L[i].length ci) ∧ NLI w ai ci L[i] ∧ ∀ a, ai = some a → G a.block ∧ a.block < w.heap.size
/-- v is a slice of the numbers l, in a block of G -/
def UG1 (G : Nat → Prop) (w : World) (v : Value) (l : List Int) : Prop := ∃ ao cap, v = .slice ao l.length cap ∧ NLI w ao cap l ∧ ∀ a, ao = some a → G a.block ∧ a.block < w.heap.size
theorem CG.keep {G S : Nat → Prop} {w w' : World} {v : Value} {L : List (List Int)} (h : CG G w v L) (hk : Kept S w w') (hS : ∀ k, G k → S k) : CG G w' v L := by
  obtain ⟨ao, cap, h1, h2, h3, h4, h5⟩ := h
  refine ⟨ao, cap, h1, h2, h3, fun a e => ⟨(h4 a e).1, Nat.lt_of_lt_of_le (h4 a e).2 hk.size⟩, fun i hi => ?_⟩
  obtain ⟨bk, off, ai, ci, r1, r2, r3, r4⟩ := h5 i hi
  exact ⟨bk, off, ai, ci, r1, cellK hk (hS _ (h4 _ r1).1) r2, r3.keep hk (fun a e => hS _ (r4 a e).1), fun a e => ⟨(r4 a e).1, Nat.lt_of_lt_of_le (r4 a e).2 hk.size⟩⟩
theorem UG1.keep {G S : Nat → Prop} {w w' : World} {v : Value} {l : List Int} (h : UG1 G w v l) (hk : Kept S w w') (hS : ∀ k, G k → S k) : UG1 G w' v l := by
  obtain ⟨ao, cap, h1, h2, h3⟩ := h
  exact ⟨ao, cap, h1, h2.keep hk (fun a e => hS _ (h3 a e).1), fun a e => ⟨(h3 a e).1, Nat.lt_of_lt_of_le (h3 a e).2 hk.size⟩⟩
theorem CG.mono {G S : Nat → Prop} {w : World} {v : Value} {L : List (List Int)} (h : CG G w v L) (hS : ∀ k, G k → S k) : CG S w v L := by
  obtain ⟨ao, cap, h1, h2, h3, h4, h5⟩ := h
  refine ⟨ao, cap, h1, h2, h3, fun a e => ⟨hS _ (h4 a e).1, (h4 a e).2⟩, fun i hi => ?_⟩
  obtain ⟨bk, off, ai, ci, r1, r2, r3, r4⟩ := h5 i hi
  exact ⟨bk, off, ai, ci, r1, r2, r3, fun a e => ⟨hS _ (r4 a e).1, (r4 a e).2⟩⟩
theorem UG1.mono {G S : Nat → Prop} {w : World} {v : Value} {l : List Int} (h : UG1 G w v l) (hS : ∀ k, G k → S k) : UG1 S w v l := by
  obtain ⟨ao, cap, h1, h2, h3⟩ := h
  exact ⟨ao, cap, h1, h2, fun a e => ⟨hS _ (h3 a e).1, (h3 a e).2⟩⟩
theorem CG.of {w : World} {B : Nat} {v : Value} {L : List (List Int)} (h : OC w B v L) : CG (fun k => B ≤ k ∧ k < w.heap.size) w v L := by
  obtain ⟨ao, cap, rfl, h2, h3, h4, h5⟩ := h.form
  refine ⟨ao, cap, rfl, h3, h4, fun a e => ⟨h5 a e, (h5 a e).2⟩, fun i hi => ?_⟩
  obtain ⟨xs, k1, k2⟩ := h
  obtain ⟨bk, off, ai, ci, r1, r2, r3⟩ := h2 i hi
  obtain ⟨aj, cj, q1, q2, q3⟩ := k2 i hi
  rcases k1.2 with ⟨e, h0⟩ | ⟨g, cap2, cur, e, hbg, hh, hnc, _, hcs, ht⟩
  · omega
  · cases e
    cases r1
    have h6 : (cur.toList.take (L.length * 1))[i]? = some (.slice aj L[i].length cj) := by rw [ht]; exact q1
    rw [List.getElem?_take, if_pos (by omega)] at h6
    have h7 : w.cell? ⟨bk, 0 + i, none⟩ = some (.slice aj L[i].length cj) := by
      rw [Nat.zero_add, ← (by simpa using h6 : cur[i]? = some (.slice aj L[i].length cj))]
      simp [World.cell?, hh]
    rw [h7] at r2
    have e2 := Option.some.inj r2
    have e3 := Value.slice.inj e2
    obtain ⟨rfl, _, rfl⟩ := e3
    exact ⟨bk, 0, aj, cj, rfl, h7, q2, fun a e => ⟨⟨(q3 a e).1, (q3 a e).2.1⟩, (q3 a e).2.1⟩⟩
theorem UG1.of {w : World} {B : Nat} {v : Value} {l : List Int} (h : OI w B v l) : UG1 (fun k => B ≤ k ∧ k < w.heap.size) w v l := by
  obtain ⟨ao, cap, h1, h2, h3, _⟩ := h.form
  exact ⟨ao, cap, h1, h2, fun a e => ⟨h3 a e, (h3 a e).2⟩⟩
theorem CG.cl {G : Nat → Prop} {w : World} {v : Value} {L : List (List Int)} (h : CG G w v L) : ∃ ao cap, v = .slice ao L.length cap ∧ CL w ao L ∧ (ao = none → cap = 0) ∧ L.length ≤ cap := by
  obtain ⟨ao, cap, h1, h2, h3, _, h5⟩ := h
  refine ⟨ao, cap, h1, fun i hi => ?_, h2, h3⟩
  obtain ⟨bk, off, ai, ci, r1, r2, r3, _⟩ := h5 i hi
  exact ⟨bk, off, ai, ci, r1, r2, r3⟩
/-- block r is the document's layout -/
def RL (r : Nat) (G : Nat → Prop) (w : World) (y : Ly) : Prop :=
  (∃ k, y.Ok k) ∧ G r ∧ ∃ (v u : Value) (F : Nat → Prop), w.heap[r]? = some (.cells #[.int .i64 y.ep, v, u, .int .i64 y.mark, .int .i64 y.size, .int .i64 y.n] 47 (0, 0)) ∧ CG F w v y.L ∧ UG1 F w u y.used ∧ (∀ k, F k → G k) ∧ ¬ F r ∧ ∀ k, G k → k < w.heap.size
theorem rl_thing (r : Nat) : Thing (RL r) where
  lt := by
    rintro G w y ⟨_, _, v, u, F, _, _, _, _, _, h⟩ k hk
    exact h k hk
  keep := by
    rintro G S w w' y ⟨h0, h1, v, u, F, h2, h3, h4, h5, h6, h7⟩ hk hS
    exact ⟨h0, h1, v, u, F, hk.heap (hS r h1) h2, h3.keep hk (fun k hf => hS k (h5 k hf)), h4.keep hk (fun k hf => hS k (h5 k hf)), h5, h6, fun k hg => Nat.lt_of_lt_of_le (h7 k hg) hk.size⟩
theorem newL_ok {ep : Int} {L : List (List Int)} (hg : goodB ep L = true) : (newL ep L).Ok (unitsR L).length := ⟨hg, Nat.le_refl _, by show (-1 : Int) ≤ -1 ∧ (-1 : Int) ≤ 16384; omega, by show (-1 : Int) ≤ -1 ∧ (-1 : Int) ≤ 16384; omega, by show (0 : Int) ≤ 0 ∧ (0 : Int) ≤ 65536; omega⟩
theorem rl_new_no (ep : Int) (ao : Option Addr) (cap : Nat) (L : List (List Int)) (w : World) (h : CL w ao L) (hl : L.length ≤ 255 ∧ ∀ c ∈ L, c.length ≤ 255) (hg : goodB ep L = false) :
    Calls Try.prog 11 #[.agg #[.int .i64 ep, .slice ao L.length cap]] w fun e w' => e = .returned (.tuple #[.pointer none, .int .i64 11]) ∧ Below w.heap.size w w' := by
  have HB0 := Lib.hid (below_new w (.cells #[.int .i64 ep, .slice ao L.length cap] 24))
  have CGD := Lib.hid (rgood_any ep ao cap L _ (h.below HB0.out) hl)
  rw [hg] at CGD
  clear h hl hg
  go_enter Try.func11, Try.ntmps11
  go_wp2_with (go_at_call 20; refine CGD.out.mono ?_; rintro e w1 ⟨rfl, hb1⟩; have HB1 := Lib.hid (HB0.out.trans (hb1.mono HB0.out.size)); clear hb1)
  go_ret2
  exact ⟨rfl, HB1.out⟩
section
variable {w w1 W W' : World} {ep : Int} {ao : Option Addr} {n cap b B : Nat} {L : List (List Int)}
theorem ns_cl (h : W.cell? ⟨b, 0, none⟩ = some (.int .i64 ep) ∧ W.cell? ⟨b, 1, none⟩ = some (.slice ao n cap) ∧ CL W ao L ∧ Below B w1 W) : CL W ao L := h.2.2.1
theorem ns_on (hz : B ≤ w1.heap.size) (h : W.cell? ⟨b, 0, none⟩ = some (.int .i64 ep) ∧ W.cell? ⟨b, 1, none⟩ = some (.slice ao n cap) ∧ CL W ao L ∧ Below B w1 W) (hb : Below W.heap.size W W') :
    W'.cell? ⟨b, 0, none⟩ = some (.int .i64 ep) ∧ W'.cell? ⟨b, 1, none⟩ = some (.slice ao n cap) ∧ CL W' ao L ∧ Below B w1 W' :=
  ⟨cellB hb (block_lt_of_cell h.1) h.1, cellB hb (block_lt_of_cell h.2.1) h.2.1, h.2.2.1.below hb, h.2.2.2.trans (hb.mono (Nat.le_trans hz h.2.2.2.size))⟩
end
set_option maxHeartbeats 4000000 in
theorem rl_new_yes (ep : Int) (ao : Option Addr) (cap : Nat) (L : List (List Int)) (w : World) (h : CL w ao L) (hl : L.length ≤ 255 ∧ ∀ c ∈ L, c.length ≤ 255) (hg : goodB ep L = true) :
    Calls Try.prog 11 #[.agg #[.int .i64 ep, .slice ao L.length cap]] w fun e w' => ∃ (r : Nat) (G : Nat → Prop), e = .returned (.tuple #[ptrL r, .int .i64 0]) ∧ RL r G w' (newL ep L) ∧ (∀ k, G k → w.heap.size ≤ k) ∧ Below w.heap.size w w' := by
  have HB0 := Lib.hid (below_new w (.cells #[.int .i64 ep, .slice ao L.length cap] 24))
  have HC := Lib.hid (h.below HB0.out)
  have HP := Lib.hid (show PB (w.alloc (.cells #[.int .i64 ep, .slice ao L.length cap] 24)) w.heap.size ep ao L.length cap from heap_alloc_new _ _)
  have HM := Lib.hid hl
  have HOK := Lib.hid (newL_ok hg)
  have HM2 := Lib.hid (show L.length ≤ 1000 ∧ ∀ c ∈ L, c.length ≤ 1000 from ⟨by have := hl.1; omega, fun c hc => by have := hl.2 c hc; omega⟩)
  have CGD := Lib.hid (rgood_any ep ao cap L _ HC.out hl)
  rw [hg] at CGD
  clear h hl hg
  go_enter Try.func11, Try.ntmps11
  go_wp2_with (go_at_call 20; refine CGD.out.mono ?_; rintro e w1 ⟨rfl, hb1⟩; have HB1 := Lib.hid (HB0.out.trans (hb1.mono HB0.out.size)); have HC1 := Lib.hid (show CL w1.drew ao L from (HC.out.below hb1).below (Below.refl _ _).drew); have HP1 := Lib.hid (HP.out.below hb1); obtain ⟨p0, p1⟩ := HP1.out.cells; have HZ1 := Lib.hid (show w.heap.size ≤ w1.heap.size from by have := hb1.size; simp at this; omega); clear hb1)
  go_region_held3 (fun W => W.cell? ⟨w.heap.size, 0, none⟩ = some (.int .i64 ep) ∧ W.cell? ⟨w.heap.size, 1, none⟩ = some (.slice ao L.length cap) ∧ CL W ao L ∧ Below w.heap.size w1 W)
    (first | exact ⟨p0, p1, HC1.out, (Below.refl _ _).drew⟩ | exact ns_on HZ1.out (by assumption) (below_new _ _) | exact ns_on HZ1.out (by assumption) hb3 | exact ns_on HZ1.out (by assumption) hb2)
    (first
      | (go_at_call 10; refine (keepCopyO_any ep ao cap L _ (ns_cl (by assumption)) HM2.out).mono ?_; rintro e w2 ⟨v, rfl, hO, hb2⟩; have HO := Lib.hid hO; obtain ⟨bo, cb, hv, _⟩ := hO.form; subst hv)
      | (go_at_call 22; refine (refUnitsO_any ep ao cap L _ (ns_cl (by assumption)) ⟨HM.out.1, fun c hc => Nat.le_trans (HM.out.2 c hc) (by decide)⟩).mono ?_; rintro e w3 ⟨u, rfl, hU, hb3⟩; have HU := Lib.hid hU; obtain ⟨bu, cu, hu, _⟩ := hU.form; subst hu))
  all_goals
    go_wp2_with fail
    go_ret2
    have B2 : Below w.heap.size w w2 := HB1.out.trans ((Below.trans (B := w1.heap.size) (Below.refl _ _).drew hb2).mono HZ1.out)
    have B3 : Below w.heap.size w w3 := B2.trans (hb3.mono B2.size)
    have B4 := below_new w3 (.cells #[.int .i64 ep, .slice bo L.length cb, .slice bu (unitsR L).length cu, .int .i64 (-1), .int .i64 0, .int .i64 (-1)] 47)
    have hs2 := hb2.size
    have hs3 := hb3.size
    have hz := HZ1.out
    have hd : w1.drew.heap.size = w1.heap.size := rfl
    refine ⟨w3.heap.size, fun k => w.heap.size ≤ k ∧ k ≤ w3.heap.size, rfl, ⟨⟨_, HOK.out⟩, ⟨by omega, Nat.le_refl _⟩, .slice bo L.length cb, .slice bu (unitsR L).length cu, fun k => w.heap.size ≤ k ∧ k < w3.heap.size, heap_alloc_new _ _, ?_, ?_, fun k hk => ⟨hk.1, Nat.le_of_lt hk.2⟩, fun hk => by have := hk.2; omega, fun k hk => by have := hk.2; simp; omega⟩, fun k hk => hk.1, B3.trans (B4.mono B3.size)⟩
    · exact (((CG.of HO.out).keep (Kept.ofBelow hb3 (fun _ => True)) (fun _ _ => trivial)).keep (Kept.ofBelow B4 (fun _ => True)) (fun _ _ => trivial)).mono (fun k hk => ⟨by have := hk.1; omega, by have := hk.2; omega⟩)
    · exact ((UG1.of HU.out).keep (Kept.ofBelow B4 (fun _ => True)) (fun _ _ => trivial)).mono (fun k hk => ⟨by have := hk.1; omega, hk.2⟩)
end Go.Proofs.Ythfbefkddnbbcaa
