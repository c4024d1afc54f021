/- Two projections that a law holds in boxes of its own: what stays while calls make memory. No conditions. A copy of a projection that a law overwrites, number by number: where it lies. No conditions. -/
import Derived.Test.YtbiihcoobknmjaaJPrjW
import Derived.Deep.RegionHeld3
import Derived.Deep.RegionHeldLaw
set_option linter.unusedVariables false
namespace Go.Proofs.Ytbiihcoobknmjaa
open Go.RowKit
set_option maxRecDepth 20000
theorem boxes_keep {W0 W W' : World} {B b c : Nat} {v0 v1 u0 u1 : Value} (hb : Below W.heap.size W W') (h : W.cell? ⟨b, 0, none⟩ = some v0 ∧ W.cell? ⟨b, 1, none⟩ = some v1 ∧ W.cell? ⟨c, 0, none⟩ = some u0 ∧ W.cell? ⟨c, 1, none⟩ = some u1 ∧ Below B W0 W ∧ B ≤ W.heap.size) :
    W'.cell? ⟨b, 0, none⟩ = some v0 ∧ W'.cell? ⟨b, 1, none⟩ = some v1 ∧ W'.cell? ⟨c, 0, none⟩ = some u0 ∧ W'.cell? ⟨c, 1, none⟩ = some u1 ∧ Below B W0 W' ∧ B ≤ W'.heap.size := by
  obtain ⟨h0, h1, h2, h3, h4, h5⟩ := h
  exact ⟨cellB hb (block_lt_of_cell h0) h0, cellB hb (block_lt_of_cell h1) h1, cellB hb (block_lt_of_cell h2) h2, cellB hb (block_lt_of_cell h3) h3, h4.trans (hb.mono h5), Nat.le_trans h5 hb.size⟩
theorem boxes_below {W0 W : World} {b c : Nat} {v0 v1 u0 u1 : Value} (h : W.cell? ⟨b, 0, none⟩ = some v0 ∧ W.cell? ⟨b, 1, none⟩ = some v1 ∧ W.cell? ⟨c, 0, none⟩ = some u0 ∧ W.cell? ⟨c, 1, none⟩ = some u1 ∧ Below W0.heap.size W0 W ∧ W0.heap.size ≤ W.heap.size) : Below W0.heap.size W0 W := h.2.2.2.2.1
theorem boxes_start {W : World} {b c : Nat} {e1 e2 : Int} {a1 a2 : Option Addr} {n1 n2 c1 c2 : Nat} (h1 : PB W b e1 a1 n1 c1) (h2 : PB W c e2 a2 n2 c2) :
    W.drew.cell? ⟨b, 0, none⟩ = some (.int .i64 e1) ∧ W.drew.cell? ⟨b, 1, none⟩ = some (.slice a1 n1 c1) ∧ W.drew.cell? ⟨c, 0, none⟩ = some (.int .i64 e2) ∧ W.drew.cell? ⟨c, 1, none⟩ = some (.slice a2 n2 c2) ∧ Below W.heap.size W W.drew ∧ W.heap.size ≤ W.drew.heap.size :=
  ⟨h1.cells.1, h1.cells.2, h2.cells.1, h2.cells.2, (Below.refl _ _).drew, Nat.le_refl _⟩
theorem quiet_eqq {P : Program} {f : FuncId} {args : Array Value} {w : World} {q n : Nat} {v : Value}
    (h : Calls P f args (w.drewN (q + n)) fun e w' => e = .returned v ∧ w.drewN (q + n) = w') : Calls P f args (w.drewN (q + n)) fun e w'' => e = .returned v ∧ ∃ m, w'' = w.drewN (q + m) :=
  h.mono fun _ _ ⟨he, hm⟩ => ⟨he, n, hm.symm⟩
theorem apart_of {L : List (List Int)} (h : L.flatten.Nodup) {i j : Nat} (hi : i < L.length) (hj : j < L.length) (hne : i ≠ j) {u : Int} (hu : u ∈ L[i]) : u ∉ L[j] := by
  have h2 := (List.pairwise_flatten.1 h).2
  rw [List.pairwise_iff_getElem] at h2
  intro hu2
  rcases Nat.lt_or_gt_of_ne hne with h3 | h3
  · exact h2 i j hi hj h3 u hu u hu2 rfl
  · exact h2 j i hj hi h3 u hu2 u hu rfl
theorem nextB_all {e1 e2 : Int} {L1 L2 : List (List Int)} (h : nextB e1 L1 e2 L2 = true) : goodB e1 L1 = true ∧ goodB e2 L2 = true ∧ e2 = e1 + 1 ∧ L2.length = L1.length ∧ ∀ i (h1 : i < L1.length) (h2 : i < L2.length), seqB (unitsR L1) L1[i] L2[i] L1[i] false = true := by
  unfold nextB at h
  simp only [Bool.and_eq_true, decide_eq_true_eq] at h
  obtain ⟨h1, h2, h3, h4, h5⟩ := h
  refine ⟨h1, h2, h3, h4, fun i hi1 hi2 => ?_⟩
  have hm : (L1[i], L2[i]) ∈ L1.zip L2 := by
    have : (L1.zip L2)[i]'(by rw [List.length_zip]; omega) = (L1[i], L2[i]) := List.getElem_zip
    rw [← this]
    exact List.getElem_mem _
  exact List.all_eq_true.1 h5 _ hm
theorem seq_first {all old now rest : List Int} (h : seqB all old now rest false = true) (h0 : 0 < now.length) : now[0] ∈ old := by
  cases now with
  | nil => exact absurd h0 (Nat.lt_irrefl _)
  | cons x now => exact seqB_head h
theorem heads_first {e1 e2 : Int} {L1 L2 : List (List Int)} (h : nextB e1 L1 e2 L2 = true) {i : Nat} (h1 : i < L1.length) (h2 : i < L2.length) : ∃ h3 : 0 < L2[i].length, L2[i][0] ∈ L1[i] := by
  obtain ⟨_, hg, _, _, ha⟩ := nextB_all h
  have h4 := (chainB_iff.1 ((goodB_iff.1 hg).2.2.1 _ (List.getElem_mem h2))).1
  exact ⟨by omega, seq_first (ha i h1 h2) (by omega)⟩
theorem heads_rest {e1 e2 : Int} {L1 L2 : List (List Int)} (h : nextB e1 L1 e2 L2 = true) {i j k : Nat} (h1 : i < L1.length) (h2 : i < L2.length) (hj : j < L1.length) (hne : j ≠ i) (hk : k < L2[i].length) : L2[i][k] ∉ L1[j] := by
  obtain ⟨hg, _, _, _, ha⟩ := nextB_all h
  intro hu
  have hn := (goodB_iff.1 hg).2.2.2
  rcases seqB_mem (ha i h1 h2) _ (List.getElem_mem hk) with h3 | h3
  · exact apart_of hn h1 hj (fun e => hne e.symm) h3 hu
  · exact h3 ((unitsR_mem _ _).2 (List.mem_flatten.2 ⟨_, List.getElem_mem hj, hu⟩))
theorem next_self (e : Int) (L : List (List Int)) : nextB e L e L = false := by
  rw [Bool.eq_false_iff]
  intro h
  have := (nextB_all h).2.2.1
  omega
theorem next_back {e1 e2 : Int} {L1 L2 : List (List Int)} (h : nextB e1 L1 e2 L2 = true) : nextB e2 L2 e1 L1 = false := by
  rw [Bool.eq_false_iff]
  intro h2
  have := (nextB_all h).2.2.1
  have := (nextB_all h2).2.2.1
  omega
end Go.Proofs.Ytbiihcoobknmjaa
namespace Go.Proofs.Ytbiihcoobknmjaa
open Go.RowKit
set_option maxRecDepth 20000

/-- the copy's slices and numbers in memory; D: which numbers are as they were -/
structure Lay (w : World) (B : Nat) (bo : Option Addr) (L : List (List Int)) (bk off : Nat) (g o c : Nat → Nat) (ai : Nat → Option Addr) (D : Nat → Nat → Prop) : Prop where
  row : ∀ i (h : i < L.length), bo = some ⟨bk, off, none⟩ ∧ B ≤ bk ∧ w.cell? ⟨bk, off + i, none⟩ = some (.slice (ai i) L[i].length (c i))
  cell : ∀ i (h : i < L.length) k (hk : k < L[i].length), ai i = some ⟨g i, o i, none⟩ ∧ B ≤ g i ∧ g i < w.heap.size ∧ w.frozen? ⟨g i, o i + k, none⟩ = false ∧ (D i k → w.cell? ⟨g i, o i + k, none⟩ = some (.int .i64 L[i][k]))
  apart : ∀ i (h : i < L.length) k (hk : k < L[i].length) j (h2 : j < L.length) m (hm : m < L[j].length), g i = g j → o i + k = o j + m → i = j ∧ k = m
  far : ∀ i (h : i < L.length) k (hk : k < L[i].length) j (h2 : j < L.length), ¬ (g i = bk ∧ o i + k = off + j)
theorem Lay.below {w w' : World} {B : Nat} {bo : Option Addr} {L : List (List Int)} {bk off : Nat} {g o c : Nat → Nat} {ai : Nat → Option Addr} {D : Nat → Nat → Prop} (h : Lay w B bo L bk off g o c ai D) (hb : Below w.heap.size w w') : Lay w' B bo L bk off g o c ai D := by
  refine ⟨fun i hi => ?_, fun i hi k hk => ?_, h.apart, h.far⟩
  · obtain ⟨h1, h2, h3⟩ := h.row i hi
    exact ⟨h1, h2, cellB hb (block_lt_of_cell h3) h3⟩
  · obtain ⟨h1, h2, h3, h4, h5⟩ := h.cell i hi k hk
    exact ⟨h1, h2, Nat.lt_of_lt_of_le h3 hb.size, (hb.frozen (p := ⟨g i, o i + k, none⟩) h3).trans h4, fun hd => cellB hb h3 (h5 hd)⟩
/-- the numbers from place (n, k) on -/
def Ahead (n k : Nat) (i j : Nat) : Prop := n < i ∨ (i = n ∧ k ≤ j)
theorem Lay.mono {w : World} {B : Nat} {bo : Option Addr} {L : List (List Int)} {bk off : Nat} {g o c : Nat → Nat} {ai : Nat → Option Addr} {D E : Nat → Nat → Prop} (h : Lay w B bo L bk off g o c ai D) (hd : ∀ i (_ : i < L.length) k (_ : k < L[i].length), E i k → D i k) : Lay w B bo L bk off g o c ai E :=
  ⟨h.row, fun i hi k hk => by obtain ⟨h1, h2, h3, h4, h5⟩ := h.cell i hi k hk; exact ⟨h1, h2, h3, h4, fun e => h5 (hd i hi k hk e)⟩, h.apart, h.far⟩
theorem Lay.store {w : World} {B : Nat} {bo : Option Addr} {L : List (List Int)} {bk off : Nat} {g o c : Nat → Nat} {ai : Nat → Option Addr} {n k : Nat} (h : Lay w B bo L bk off g o c ai (Ahead n k)) (hn : n < L.length) (hk : k < L[n].length) (q : Nat) (v : Value) :
    Lay ((w.drewN q).setCell ⟨g n, o n + k, none⟩ v) B bo L bk off g o c ai (Ahead n (k + 1)) := by
  have h := h.below (below_drewN (Below.refl _ _) q)
  refine ⟨fun i hi => ?_, fun i hi m hm => ?_, h.apart, h.far⟩
  · obtain ⟨h1, h2, h3⟩ := h.row i hi
    refine ⟨h1, h2, ?_⟩
    exact (World.cell?_setCell_other _ ⟨g n, o n + k, none⟩ ⟨bk, off + i, none⟩ _ (fun e => h.far n hn k hk i hi ⟨congrArg Addr.block e, congrArg Addr.off e⟩)).trans h3
  · obtain ⟨h1, h2, h3, h4, h5⟩ := h.cell i hi m hm
    refine ⟨h1, h2, by simpa [World.setCell] using h3, by rw [World.frozen?_setCell]; exact h4, fun hd => ?_⟩
    have hne : ¬ (n = i ∧ k = m) := by
      rintro ⟨rfl, rfl⟩
      rcases hd with hd | ⟨_, hd⟩ <;> omega
    refine (World.cell?_setCell_other _ ⟨g n, o n + k, none⟩ ⟨g i, o i + m, none⟩ _ (fun e => hne (h.apart n hn k hk i hi m hm (congrArg Addr.block e) (congrArg Addr.off e)))).trans (h5 ?_)
    rcases hd with hd | ⟨rfl, hd⟩
    · exact .inl hd
    · exact .inr ⟨rfl, by omega⟩
theorem Lay.next {w : World} {B : Nat} {bo : Option Addr} {L : List (List Int)} {bk off : Nat} {g o c : Nat → Nat} {ai : Nat → Option Addr} {n : Nat} {k : Nat} (h : Lay w B bo L bk off g o c ai (Ahead n k)) : Lay w B bo L bk off g o c ai (Ahead (n + 1) 0) :=
  h.mono fun i _ m _ e => by
    rcases e with e | ⟨e, _⟩
    · exact .inl (by omega)
    · exact .inl (by omega)
/-- the program's Copy makes such a copy, in new memory -/
def CopySays : Prop := ∀ (ep : Int) (ao : Option Addr) (cap : Nat) (L : List (List Int)) (w : World), Told w ao cap L → Small L →
  Calls Try.prog 11 #[.agg #[.int .i64 ep, .slice ao L.length cap]] w fun e w' => ∃ bo cb bk off g o c ai, e = .returned (.agg #[.int .i64 ep, .slice bo L.length cb]) ∧ Lay w' w.heap.size bo L bk off g o c ai (fun _ _ => True) ∧ Below w.heap.size w w'
theorem boxes6_keep {W0 W W' : World} {b c d : Nat} {v0 v1 u0 u1 x0 x1 : Value} (hb : Below W.heap.size W W') (h : W.cell? ⟨b, 0, none⟩ = some v0 ∧ W.cell? ⟨b, 1, none⟩ = some v1 ∧ W.cell? ⟨c, 0, none⟩ = some u0 ∧ W.cell? ⟨c, 1, none⟩ = some u1 ∧ W.cell? ⟨d, 0, none⟩ = some x0 ∧ W.cell? ⟨d, 1, none⟩ = some x1 ∧ Below W0.heap.size W0 W ∧ W0.heap.size ≤ W.heap.size) : W'.cell? ⟨b, 0, none⟩ = some v0 ∧ W'.cell? ⟨b, 1, none⟩ = some v1 ∧ W'.cell? ⟨c, 0, none⟩ = some u0 ∧ W'.cell? ⟨c, 1, none⟩ = some u1 ∧ W'.cell? ⟨d, 0, none⟩ = some x0 ∧ W'.cell? ⟨d, 1, none⟩ = some x1 ∧ Below W0.heap.size W0 W' ∧ W0.heap.size ≤ W'.heap.size := by
  obtain ⟨h0, h1, h2, h3, h6, h7, h4, h5⟩ := h
  exact ⟨cellB hb (block_lt_of_cell h0) h0, cellB hb (block_lt_of_cell h1) h1, cellB hb (block_lt_of_cell h2) h2, cellB hb (block_lt_of_cell h3) h3, cellB hb (block_lt_of_cell h6) h6, cellB hb (block_lt_of_cell h7) h7, h4.trans (hb.mono h5), Nat.le_trans h5 hb.size⟩
theorem boxes6_below {W0 W : World} {b c d : Nat} {v0 v1 u0 u1 x0 x1 : Value} (h : W.cell? ⟨b, 0, none⟩ = some v0 ∧ W.cell? ⟨b, 1, none⟩ = some v1 ∧ W.cell? ⟨c, 0, none⟩ = some u0 ∧ W.cell? ⟨c, 1, none⟩ = some u1 ∧ W.cell? ⟨d, 0, none⟩ = some x0 ∧ W.cell? ⟨d, 1, none⟩ = some x1 ∧ Below W0.heap.size W0 W ∧ W0.heap.size ≤ W.heap.size) : Below W0.heap.size W0 W := h.2.2.2.2.2.2.1
theorem boxes6_start {W : World} {b c d : Nat} {e1 e2 e3 : Int} {a1 a2 a3 : Option Addr} {n1 n2 n3 c1 c2 c3 : Nat} (h1 : PB W b e1 a1 n1 c1) (h2 : PB W c e2 a2 n2 c2) (h3 : PB W d e3 a3 n3 c3) :
    W.drew.cell? ⟨b, 0, none⟩ = some (.int .i64 e1) ∧ W.drew.cell? ⟨b, 1, none⟩ = some (.slice a1 n1 c1) ∧ W.drew.cell? ⟨c, 0, none⟩ = some (.int .i64 e2) ∧ W.drew.cell? ⟨c, 1, none⟩ = some (.slice a2 n2 c2) ∧ W.drew.cell? ⟨d, 0, none⟩ = some (.int .i64 e3) ∧ W.drew.cell? ⟨d, 1, none⟩ = some (.slice a3 n3 c3) ∧ Below W.heap.size W W.drew ∧ W.heap.size ≤ W.drew.heap.size :=
  ⟨h1.cells.1, h1.cells.2, h2.cells.1, h2.cells.2, h3.cells.1, h3.cells.2, (Below.refl _ _).drew, Nat.le_refl _⟩
end Go.Proofs.Ytbiihcoobknmjaa
