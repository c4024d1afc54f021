/- The world in the Do of the document's own layout: the question, the answers, the layout. No conditions but those that the statements name. -/
import Derived.Test.YthfbefkddnbbcaaLayC
import Derived.Test.YthfbefkddnbbcaaTell
namespace Go.Proofs.Ythfbefkddnbbcaa
set_option linter.unusedVariables false
open Go.RowKit
set_option maxRecDepth 20000
def zeroA : Array Value := #[.int .i64 0, .int .i64 0, .string ⟨#[]⟩, .int .i64 0, .slice none 0 0, .int .i64 0, .int .i64 0, .int .i64 0]
def xN (X : Option (Array Value)) : Nat := if X.isSome then 1 else 0
/-- the world in which Do has laid out the question, the answer, and one more answer -/
structure LdW (w W : World) (r : Nat) (G H : Nat → Prop) (y : Ly) (a : Ak) (Y : Array Value) (X : Option (Array Value)) : Prop where
  ask : W.heap[w.heap.size]? = some (.cells (askC a).toArray 38 (0, 0))
  zero : W.heap[w.heap.size + 1]? = some (.cells Y 41 (0, 0))
  xs : ∀ Z, X = some Z → W.heap[w.heap.size + 1 + 1]? = some (.cells Z 41 (0, 0))
  rl : RL r H W y
  hs : ∀ k, H k → G k ∨ w.heap.size + 1 + xN X < k
  kp : Kept (fun k => ¬ G k) w W
  lt : ∀ k, G k → k < w.heap.size
  rg : G r
theorem ld_startY {w : World} {r : Nat} {G : Nat → Prop} {y : Ly} (h : RL r G w y) (a : Ak) (Y : Array Value) : LdW w ((w.alloc (.cells (askC a).toArray 38)).alloc (.cells Y 41)) r G G y a Y none := by
  have hb : Below w.heap.size w ((w.alloc (.cells (askC a).toArray 38)).alloc (.cells Y 41)) := (below_new _ _).alloc (by simp) _
  obtain ⟨h1, h2⟩ := two_blocks w (askC a).toArray Y 38 41
  exact ⟨h1, h2, fun Z e => (by cases e), (rl_thing r).keep h (Kept.ofBelow hb (fun _ => True)) (fun _ _ => trivial), fun k hk => .inl hk, Kept.ofBelow hb _, fun k hk => (rl_thing r).lt h k hk, h.2.1⟩
theorem ld_start {w : World} {r : Nat} {G : Nat → Prop} {y : Ly} (h : RL r G w y) (a : Ak) : LdW w ((w.alloc (.cells (askC a).toArray 38)).alloc (.cells zeroA 41)) r G G y a zeroA none := ld_startY h a zeroA
section
variable {w W : World} {r : Nat} {G H : Nat → Prop} {y : Ly} {a : Ak} {Y Z : Array Value} {X : Option (Array Value)}
theorem LdW.below (h : LdW w W r G H y a Y X) {W2 : World} (hb : Below W.heap.size W W2) : LdW w W2 r G H y a Y X := by
  exact ⟨below_heap hb h.ask, below_heap hb h.zero, fun Z e => below_heap hb (h.xs Z e), (rl_thing r).keep h.rl (Kept.ofBelow hb (fun _ => True)) (fun _ _ => trivial), h.hs, h.kp.below hb, h.lt, h.rg⟩
theorem LdW.drew (h : LdW w W r G H y a Y X) : LdW w W.drew r G H y a Y X := h.below (Below.refl _ _).drew
theorem LdW.drewN (h : LdW w W r G H y a Y X) (n : Nat) : LdW w (W.drewN n) r G H y a Y X := h.below (below_drewN (Below.refl _ _) n)
theorem LdW.small (h : LdW w W r G H y a Y X) : w.heap.size < W.heap.size ∧ w.heap.size + 1 < W.heap.size ∧ r < w.heap.size := ⟨lt_of_block h.ask, lt_of_block h.zero, h.lt r h.rg⟩
/-- one more answer -/
theorem LdW.more (h : LdW w W r G H y a Y none) (hz : W.heap.size = w.heap.size + 1 + 1) (Z : Array Value) : LdW w (W.alloc (.cells Z 41)) r G H y a Y (some Z) := by
  have h' := h.below (below_new W (.cells Z 41))
  have h1 := h.rl
  have h2 := h.hs
  refine ⟨h'.ask, h'.zero, fun Z' e => ?_, h'.rl, fun k hk => ?_, h'.kp, h.lt, h.rg⟩
  · cases e
    rw [← hz]
    exact heap_alloc_new _ _
  · have hl := (rl_thing r).lt h1 k hk
    rcases h2 k hk with h3 | h3
    · exact .inl h3
    · unfold xN at h3
      simp at h3
      omega
theorem LdW.leaves (h : LdW w W r G H y a Y X) : Leaves (RL r) G w W y := by
  exact ⟨H, h.rl, h.kp, fun k hk => (h.hs k hk).imp id (fun h => by omega)⟩
/-- the answer is written -/
theorem LdW.put (h : LdW w W r G H y a Y X) (i : Nat) (v : Value) : LdW w (W.setCell ⟨w.heap.size + 1, i, none⟩ v) r G H y a (Y.setIfInBounds i v) X := by
  have hk : Kept (fun k => k ≠ w.heap.size + 1) W (W.setCell ⟨w.heap.size + 1, i, none⟩ v) := (Kept.refl _ W).setCell (p := ⟨w.heap.size + 1, i, none⟩) (fun h => h rfl) v
  refine ⟨hk.heap (by omega) h.ask, heap_setCell_same W _ i Y _ v h.zero, fun Z e => hk.heap (by omega) (h.xs Z e), (rl_thing r).keep h.rl hk (fun k hh e => ?_), h.hs, kept_new h.kp (by omega) v, h.lt, h.rg⟩
  rcases h.hs k hh with h3 | h3
  · have := h.lt k h3; omega
  · omega
theorem LdW.putx (h : LdW w W r G H y a Y (some Z)) (i : Nat) (v : Value) : LdW w (W.setCell ⟨w.heap.size + 1 + 1, i, none⟩ v) r G H y a Y (some (Z.setIfInBounds i v)) := by
  have hk : Kept (fun k => k ≠ w.heap.size + 1 + 1) W (W.setCell ⟨w.heap.size + 1 + 1, i, none⟩ v) := (Kept.refl _ W).setCell (p := ⟨w.heap.size + 1 + 1, i, none⟩) (fun h => h rfl) v
  refine ⟨hk.heap (by omega) h.ask, hk.heap (by omega) h.zero, fun Z' e => ?_, (rl_thing r).keep h.rl hk (fun k hh e => ?_), h.hs, kept_new h.kp (by omega) v, h.lt, h.rg⟩
  · cases e
    exact heap_setCell_same W _ i Z _ v (h.xs Z rfl)
  · rcases h.hs k hh with h3 | h3
    · have := h.lt k h3; omega
    · unfold xN at h3; simp at h3; omega
/-- the layout's own cells are written: it is y' then -/
theorem LdW.turn (h : LdW w W r G H y a Y X) {W2 : World} {y' : Ly} (hk : Kept (fun k => k ≠ r) W W2) (hr : ∃ H' : Nat → Prop, RL r H' W2 y' ∧ ∀ k, H' k → H k ∨ W.heap.size ≤ k) : ∃ H' : Nat → Prop, LdW w W2 r G H' y' a Y X := by
  have hs := h.small
  obtain ⟨H', r1, r2⟩ := hr
  refine ⟨H', hk.heap (by omega) h.ask, hk.heap (by omega) h.zero, fun Z e => hk.heap (by have := lt_of_block (h.xs Z e); omega) (h.xs Z e), r1, fun k hk2 => ?_, h.kp.trans (hk.mono (fun k hn e => hn (e ▸ h.rg))), h.lt, h.rg⟩
  rcases r2 k hk2 with h3 | h3
  · exact h.hs k h3
  · refine .inr ?_
    cases X with
    | none => unfold xN; simp; omega
    | some Z => have := lt_of_block (h.xs Z rfl); unfold xN; simp; omega
/-- a copy of the projection is laid into the layout -/
theorem RL.chains (h : RL r H W y) {W2 : World} (hb : Below W.heap.size W W2) {e : Int} {v : Value} {L : List (List Int)} (hO : OC W2 W.heap.size v L) (hg : goodB e L = true) :
    ∃ H' : Nat → Prop, RL r H' ((W2.setCell ⟨r, 0, none⟩ (.int .i64 e)).setCell ⟨r, 1, none⟩ v) ⟨e, L, y.used, y.mark, y.size, y.n⟩ ∧ ∀ k, H' k → H k ∨ W.heap.size ≤ k := by
  obtain ⟨⟨k, hok⟩, h1, v0, u, F, h2, h3, h4, h5, h6, h7⟩ := h
  have hr := lt_of_block h2
  have hk : Kept (fun k => k ≠ r) W2 ((W2.setCell ⟨r, 0, none⟩ (.int .i64 e)).setCell ⟨r, 1, none⟩ v) := ((Kept.refl _ W2).setCell (p := ⟨r, 0, none⟩) (fun h => h rfl) _).setCell (p := ⟨r, 1, none⟩) (fun h => h rfl) _
  have e1 := below_heap hb h2
  have e2 := heap_setCell_same W2 r 0 _ _ (.int .i64 e) e1
  have e3 := heap_setCell_same _ r 1 _ _ v e2
  refine ⟨fun k => H k ∨ (W.heap.size ≤ k ∧ k < W2.heap.size), ⟨⟨k, hg, hok.few, hok.n, hok.mark, hok.size⟩, .inl h1, v, u, fun k => F k ∨ (W.heap.size ≤ k ∧ k < W2.heap.size), e3, ?_, ?_, fun k hk => hk.imp (h5 k) id, fun hf => ?_, fun k hk2 => ?_⟩, fun k hk2 => hk2.imp id (fun h => h.1)⟩
  · exact ((CG.of hO).keep hk (fun k hk => by omega)).mono (fun k hk => .inr hk)
  · exact ((h4.keep (Kept.ofBelow hb (fun _ => True)) (fun _ _ => trivial)).keep hk (fun k hk e => h6 (e ▸ hk))).mono (fun k hk => .inl hk)
  · rcases hf with hf | hf
    · exact h6 hf
    · omega
  · have hs : ((W2.setCell ⟨r, 0, none⟩ (.int .i64 e)).setCell ⟨r, 1, none⟩ v).heap.size = W2.heap.size := by simp [World.setCell]
    rw [hs]
    rcases hk2 with hk2 | hk2
    · exact Nat.lt_of_lt_of_le (h7 k hk2) hb.size
    · exact hk2.2
/-- more units are noted -/
theorem RL.more (h : RL r H W y) {W2 : World} (hb : Below W.heap.size W W2) {v : Value} {U : List Int} (hO : OI W2 W.heap.size v U) :
    ∃ H' : Nat → Prop, RL r H' (W2.setCell ⟨r, 2, none⟩ v) ⟨y.ep, y.L, U, y.mark, y.size, y.n⟩ ∧ ∀ k, H' k → H k ∨ W.heap.size ≤ k := by
  obtain ⟨⟨k, hok⟩, h1, v0, u, F, h2, h3, h4, h5, h6, h7⟩ := h
  have hr := lt_of_block h2
  have hk : Kept (fun k => k ≠ r) W2 (W2.setCell ⟨r, 2, none⟩ v) := (Kept.refl _ W2).setCell (p := ⟨r, 2, none⟩) (fun h => h rfl) _
  have e1 := below_heap hb h2
  have e2 := heap_setCell_same W2 r 2 _ _ v e1
  refine ⟨fun k => H k ∨ (W.heap.size ≤ k ∧ k < W2.heap.size), ⟨⟨U.length, hok.good, Nat.le_refl _, hok.n, hok.mark, hok.size⟩, .inl h1, v0, v, fun k => F k ∨ (W.heap.size ≤ k ∧ k < W2.heap.size), e2, ?_, ?_, fun k hk => hk.imp (h5 k) id, fun hf => ?_, fun k hk2 => ?_⟩, fun k hk2 => hk2.imp id (fun h => h.1)⟩
  · exact ((h3.keep (Kept.ofBelow hb (fun _ => True)) (fun _ _ => trivial)).keep hk (fun k hk e => h6 (e ▸ hk))).mono (fun k hk => .inl hk)
  · exact ((UG1.of hO).keep hk (fun k hk => by omega)).mono (fun k hk => .inr hk)
  · rcases hf with hf | hf
    · exact h6 hf
    · omega
  · have hs : (W2.setCell ⟨r, 2, none⟩ v).heap.size = W2.heap.size := by simp [World.setCell]
    rw [hs]
    rcases hk2 with hk2 | hk2
    · exact Nat.lt_of_lt_of_le (h7 k hk2) hb.size
    · exact hk2.2
/-- an image is marked -/
theorem RL.mark (h : RL r H W y) {m z n : Int} (hm : 0 ≤ m ∧ m < 16384) (hz : 1 ≤ z ∧ z ≤ 65536) (hn : 0 ≤ n ∧ n ≤ 16384) :
    ∃ H' : Nat → Prop, RL r H' (((W.setCell ⟨r, 3, none⟩ (.int .i64 m)).setCell ⟨r, 4, none⟩ (.int .i64 z)).setCell ⟨r, 5, none⟩ (.int .i64 n)) ⟨y.ep, y.L, y.used, m, z, n⟩ ∧ ∀ k, H' k → H k ∨ W.heap.size ≤ k := by
  obtain ⟨⟨k, hok⟩, h1, v0, u, F, h2, h3, h4, h5, h6, h7⟩ := h
  have hk : Kept (fun k => k ≠ r) W (((W.setCell ⟨r, 3, none⟩ (.int .i64 m)).setCell ⟨r, 4, none⟩ (.int .i64 z)).setCell ⟨r, 5, none⟩ (.int .i64 n)) := (((Kept.refl _ W).setCell (p := ⟨r, 3, none⟩) (fun h => h rfl) _).setCell (p := ⟨r, 4, none⟩) (fun h => h rfl) _).setCell (p := ⟨r, 5, none⟩) (fun h => h rfl) _
  have e1 := heap_setCell_same _ r 5 _ _ (.int .i64 n) (heap_setCell_same _ r 4 _ _ (.int .i64 z) (heap_setCell_same W r 3 _ _ (.int .i64 m) h2))
  refine ⟨H, ⟨⟨k, hok.good, hok.few, ⟨by show -1 ≤ n; omega, hn.2⟩, ⟨by show -1 ≤ m; omega, by show m ≤ 16384; omega⟩, ⟨by show 0 ≤ z; omega, hz.2⟩⟩, h1, v0, u, F, e1, h3.keep hk (fun k hk e => h6 (e ▸ hk)), h4.keep hk (fun k hk e => h6 (e ▸ hk)), h5, h6, fun k hk2 => by simpa [World.setCell] using h7 k hk2⟩, fun k hk2 => .inl hk2⟩
/-- the same, whatever stands in the answer -/
def LdE (w W : World) (r : Nat) (G H : Nat → Prop) (y : Ly) (a : Ak) (X : Option (Array Value)) : Prop := ∃ u0 u1 u2 u3 u4 u5 u6 u7, LdW w W r G H y a #[u0, u1, u2, u3, u4, u5, u6, u7] X
theorem LdE.below (h : LdE w W r G H y a X) {W2 : World} (hb : Below W.heap.size W W2) : LdE w W2 r G H y a X := by
  obtain ⟨u0, u1, u2, u3, u4, u5, u6, u7, h⟩ := h
  exact ⟨u0, u1, u2, u3, u4, u5, u6, u7, h.below hb⟩
theorem LdW.any (h : LdW w W r G H y a zeroA X) : LdE w W r G H y a X := ⟨_, _, _, _, _, _, _, _, h⟩
/-- the whole answer is written -/
theorem LdE.eight (h : LdE w W r G H y a X) (v0 v1 v2 v3 v4 v5 v6 v7 : Value) : LdW w ((((((((W.setCell ⟨w.heap.size + 1, 0, none⟩ v0).setCell ⟨w.heap.size + 1, 1, none⟩ v1).setCell ⟨w.heap.size + 1, 2, none⟩ v2).setCell ⟨w.heap.size + 1, 3, none⟩ v3).setCell ⟨w.heap.size + 1, 4, none⟩ v4).setCell ⟨w.heap.size + 1, 5, none⟩ v5).setCell ⟨w.heap.size + 1, 6, none⟩ v6).setCell ⟨w.heap.size + 1, 7, none⟩ v7) r G H y a #[v0, v1, v2, v3, v4, v5, v6, v7] X := by
  obtain ⟨u0, u1, u2, u3, u4, u5, u6, u7, h⟩ := h
  have h1 := (((((((h.put 0 v0).put 1 v1).put 2 v2).put 3 v3).put 4 v4).put 5 v5).put 6 v6).put 7 v7
  exact ⟨h1.ask, eight_set7 (eight_set6 (eight_set5 (eight_set4 (eight_set3 (eight_set2 (eight_set1 (eight_set0 h.zero v0) v1) v2) v3) v4) v5) v6) v7, h1.xs, h1.rl, h1.hs, h1.kp, h1.lt, h1.rg⟩
theorem LdE.cells (h : LdE w W r G H y a X) : ∃ u0 u1 u2 u3 u4 u5 u6 u7, (W.cell? ⟨w.heap.size + 1, 0, none⟩ = some u0 ∧ W.cell? ⟨w.heap.size + 1, 1, none⟩ = some u1 ∧ W.cell? ⟨w.heap.size + 1, 2, none⟩ = some u2 ∧ W.cell? ⟨w.heap.size + 1, 3, none⟩ = some u3 ∧ W.cell? ⟨w.heap.size + 1, 4, none⟩ = some u4 ∧ W.cell? ⟨w.heap.size + 1, 5, none⟩ = some u5 ∧ W.cell? ⟨w.heap.size + 1, 6, none⟩ = some u6 ∧ W.cell? ⟨w.heap.size + 1, 7, none⟩ = some u7) ∧
    W.frozen? ⟨w.heap.size + 1, 0, none⟩ = false ∧ W.frozen? ⟨w.heap.size + 1, 1, none⟩ = false ∧ W.frozen? ⟨w.heap.size + 1, 2, none⟩ = false ∧ W.frozen? ⟨w.heap.size + 1, 3, none⟩ = false ∧ W.frozen? ⟨w.heap.size + 1, 4, none⟩ = false ∧ W.frozen? ⟨w.heap.size + 1, 5, none⟩ = false ∧ W.frozen? ⟨w.heap.size + 1, 6, none⟩ = false ∧ W.frozen? ⟨w.heap.size + 1, 7, none⟩ = false := by
  obtain ⟨u0, u1, u2, u3, u4, u5, u6, u7, h⟩ := h
  exact ⟨u0, u1, u2, u3, u4, u5, u6, u7, eight_cells h.zero⟩
theorem LdE.small (h : LdE w W r G H y a X) : w.heap.size < W.heap.size ∧ w.heap.size + 1 < W.heap.size ∧ r < w.heap.size := by
  obtain ⟨u0, u1, u2, u3, u4, u5, u6, u7, h⟩ := h
  exact h.small
theorem LdE.rl (h : LdE w W r G H y a X) : RL r H W y := by
  obtain ⟨u0, u1, u2, u3, u4, u5, u6, u7, h⟩ := h
  exact h.rl
/-- the chains that the layout's cell names -/
theorem RL.cl {ao : Option Addr} {n cap : Nat} (h : RL r H W y) (hc : W.cell? ⟨r, 1, none⟩ = some (.slice ao n cap)) : CL W ao y.L := by
  obtain ⟨lo, lc, bo, cb, h1, h2, _⟩ := h.open
  have e : W.cell? ⟨r, 1, none⟩ = some (.slice lo y.L.length lc) := cell_of h1 1
  rw [hc] at e
  have e2 := Value.slice.inj (Option.some.inj e)
  rw [e2.1]
  exact h2
theorem eight_kept (W : World) (b : Nat) (v0 v1 v2 v3 v4 v5 v6 v7 : Value) : Kept (fun k => k ≠ b) W ((((((((W.setCell ⟨b, 0, none⟩ v0).setCell ⟨b, 1, none⟩ v1).setCell ⟨b, 2, none⟩ v2).setCell ⟨b, 3, none⟩ v3).setCell ⟨b, 4, none⟩ v4).setCell ⟨b, 5, none⟩ v5).setCell ⟨b, 6, none⟩ v6).setCell ⟨b, 7, none⟩ v7) :=
  ((((((((Kept.refl _ W).setCell (p := ⟨b, 0, none⟩) (fun h => h rfl) _).setCell (p := ⟨b, 1, none⟩) (fun h => h rfl) _).setCell (p := ⟨b, 2, none⟩) (fun h => h rfl) _).setCell (p := ⟨b, 3, none⟩) (fun h => h rfl) _).setCell (p := ⟨b, 4, none⟩) (fun h => h rfl) _).setCell (p := ⟨b, 5, none⟩) (fun h => h rfl) _).setCell (p := ⟨b, 6, none⟩) (fun h => h rfl) _).setCell (p := ⟨b, 7, none⟩) (fun h => h rfl) _
theorem eight_size (W : World) (b : Nat) (v0 v1 v2 v3 v4 v5 v6 v7 : Value) : ((((((((W.setCell ⟨b, 0, none⟩ v0).setCell ⟨b, 1, none⟩ v1).setCell ⟨b, 2, none⟩ v2).setCell ⟨b, 3, none⟩ v3).setCell ⟨b, 4, none⟩ v4).setCell ⟨b, 5, none⟩ v5).setCell ⟨b, 6, none⟩ v6).setCell ⟨b, 7, none⟩ v7).heap.size = W.heap.size := by simp [World.setCell]
/-- chains that were made, behind writes into elder blocks -/
theorem CG.behind {S : Nat → Prop} {W2 W3 : World} {B : Nat} {v : Value} {L : List (List Int)} (hO : OC W2 B v L) (hk : Kept S W2 W3) (hS : ∀ k, B ≤ k → S k) (hs : W3.heap.size = W2.heap.size) : CG (fun k => B ≤ k ∧ k < W3.heap.size) W3 v L := by
  rw [hs]
  exact (CG.of hO).keep hk (fun k hk => hS k hk.1)
section
variable {x0 x1 x2 x3 x4 x5 x6 x7 : Value}
/-- the other answer is written -/
theorem LdW.putx0 (h : LdW w W r G H y a Y (Option.some #[x0, x1, x2, x3, x4, x5, x6, x7])) (v : Value) : LdW w (W.setCell ⟨w.heap.size + 1 + 1, 0, none⟩ v) r G H y a Y (Option.some #[v, x1, x2, x3, x4, x5, x6, x7]) := by
  have h1 := h.putx 0 v
  exact ⟨h1.ask, h1.zero, fun Z e => by cases e; exact eight_set0 (h.xs _ rfl) v, h1.rl, h1.hs, h1.kp, h1.lt, h1.rg⟩
theorem LdW.putx34 (h : LdW w W r G H y a Y (Option.some #[x0, x1, x2, x3, x4, x5, x6, x7])) (v u : Value) : LdW w ((W.setCell ⟨w.heap.size + 1 + 1, 3, none⟩ v).setCell ⟨w.heap.size + 1 + 1, 4, none⟩ u) r G H y a Y (Option.some #[x0, x1, x2, v, u, x5, x6, x7]) := by
  have h1 := (h.putx 3 v).putx 4 u
  exact ⟨h1.ask, h1.zero, fun Z e => by cases e; exact eight_set4 (eight_set3 (h.xs _ rfl) v) u, h1.rl, h1.hs, h1.kp, h1.lt, h1.rg⟩
theorem LdW.xcells (h : LdW w W r G H y a Y (Option.some #[x0, x1, x2, x3, x4, x5, x6, x7])) : W.heap[w.heap.size + 1 + 1]? = some (.cells #[x0, x1, x2, x3, x4, x5, x6, x7] 41 (0, 0)) := h.xs _ rfl
end
theorem xkept (W : World) (b i j : Nat) (v u : Value) : Kept (fun k => k ≠ b) W ((W.setCell ⟨b, i, none⟩ v).setCell ⟨b, j, none⟩ u) := ((Kept.refl _ W).setCell (p := ⟨b, i, none⟩) (fun h => h rfl) _).setCell (p := ⟨b, j, none⟩) (fun h => h rfl) _
/-- the answer tells chains that were made last -/
theorem LdW.tells (h : LdW w W r G H y a Y X) {x : An} {ao : Option Addr} {cap B : Nat} (hB : w.heap.size ≤ B) (hH : ∀ k, H k → k < B) (hC : CG (fun k => B ≤ k ∧ k < W.heap.size) W (.slice ao x.L.length cap) x.L) : Tells (RL r) G w y x (.returned (ansV x ao cap)) W :=
  ⟨ao, cap, fun k => B ≤ k ∧ k < W.heap.size, rfl, hC, fun k hk => ⟨Nat.le_trans hB hk.1, hk.2⟩, H, h.rl, fun k hk hh => by have := hH k hh; omega, h.kp, fun k hk => (h.hs k hk).imp id (fun h => by omega)⟩
/-- it tells none -/
theorem LdW.plain (h : LdW w W r G H y a Y X) {x : An} (hL : x.L = []) : Tells (RL r) G w y x (.returned (ansV x Option.none 0)) W := Tells.plain h.leaves hL
end
end Go.Proofs.Ythfbefkddnbbcaa
