/- Projections as arguments: where they lie, boxed and made by literals; which are not too large. No conditions. -/
import Derived.Test.YthfbefkddnbbcaaPrjF
namespace Go.Proofs.Ythfbefkddnbbcaa
set_option linter.unusedVariables false
open Go.RowKit
set_option maxRecDepth 20000

/-- block b is a projection's -/
def PB (w : World) (b : Nat) (ep : Int) (ao : Option Addr) (n cap : Nat) : Prop := w.heap[b]? = some (.cells #[.int .i64 ep, .slice ao n cap] 24 (0, 0))
theorem PB.below {w w' : World} {b : Nat} {ep : Int} {ao : Option Addr} {n cap : Nat} (h : PB w b ep ao n cap) (hb : Below w.heap.size w w') : PB w' b ep ao n cap := below_heap hb h
theorem PB.cells {w : World} {b : Nat} {ep : Int} {ao : Option Addr} {n cap : Nat} (h : PB w b ep ao n cap) : w.cell? ⟨b, 0, none⟩ = some (.int .i64 ep) ∧ w.cell? ⟨b, 1, none⟩ = some (.slice ao n cap) := ⟨cell_of h 0, cell_of h 1⟩
theorem PB.two (w : World) (e1 e2 : Int) (a1 a2 : Option Addr) (n1 n2 c1 c2 : Nat) : PB ((w.alloc (.cells #[.int .i64 e1, .slice a1 n1 c1] 24)).alloc (.cells #[.int .i64 e2, .slice a2 n2 c2] 24)) w.heap.size e1 a1 n1 c1 ∧
    PB ((w.alloc (.cells #[.int .i64 e1, .slice a1 n1 c1] 24)).alloc (.cells #[.int .i64 e2, .slice a2 n2 c2] 24)) (w.heap.size + 1) e2 a2 n2 c2 := by
  refine ⟨PB.below (heap_alloc_new _ _) ((Below.refl _ _).alloc (Nat.le_refl _) _), ?_⟩
  have := heap_alloc_new (w.alloc (.cells #[.int .i64 e1, .slice a1 n1 c1] 24)) (.cells #[.int .i64 e2, .slice a2 n2 c2] 24)
  have e : (w.alloc (.cells #[.int .i64 e1, .slice a1 n1 c1] 24)).heap.size = w.heap.size + 1 := by simp
  rw [e] at this
  exact this
/-- a projection that was told lies there -/
def Told (w : World) (bo : Option Addr) (cb : Nat) (L : List (List Int)) : Prop := CL w bo L ∧ (bo = none → cb = 0) ∧ L.length ≤ cb
/-- not too many chains, nor units in a chain -/
def Small (L : List (List Int)) : Prop := L.length ≤ 255 ∧ ∀ c ∈ L, c.length ≤ 255
theorem Told.below {w w' : World} {ao : Option Addr} {cap : Nat} {L : List (List Int)} (h : Told w ao cap L) (hb : Below w.heap.size w w') : Told w' ao cap L := ⟨h.1.below hb, h.2⟩
theorem PB.lt {w : World} {b : Nat} {ep : Int} {ao : Option Addr} {n cap : Nat} (h : PB w b ep ao n cap) : b < w.heap.size := by
  unfold PB at h
  exact lt_of_block h
/-- a projection that was handed to a law -/
def PIn (w : World) (ep : Int) (ao : Option Addr) (cap : Nat) (L : List (List Int)) : Prop := Told w ao cap L ∧ (-9223372036854775808 ≤ ep ∧ ep ≤ 9223372036854775807) ∧ L.length ≤ maxLen ∧ ∀ c ∈ L, c.length ≤ maxLen
theorem PIn.below {w w' : World} {ep : Int} {ao : Option Addr} {cap : Nat} {L : List (List Int)} (h : PIn w ep ao cap L) (hb : Below w.heap.size w w') : PIn w' ep ao cap L := ⟨h.1.below hb, h.2⟩
theorem large_small {L : List (List Int)} (h : largeB L = false) : Small L := by
  obtain ⟨h1, h2⟩ := largeB_no h
  exact ⟨by omega, fun c hc => by have := h2 c hc; omega⟩
theorem small_copy {L : List (List Int)} (h : Small L) : L.length ≤ 1000 ∧ ∀ c ∈ L, c.length ≤ 1000 := ⟨by have := h.1; omega, fun c hc => by have := h.2 c hc; omega⟩
theorem small_million {L : List (List Int)} (h : Small L) : L.length ≤ 1000000 ∧ ∀ c ∈ L, c.length ≤ 1000000 := ⟨by have := h.1; omega, fun c hc => by have := h.2 c hc; omega⟩
theorem sameP_self (e : Int) (L : List (List Int)) : sameP e L e L = true := decide_eq_true ⟨rfl, rfl⟩
/-- two chains that a composite literal made -/
theorem told_two {w : World} {g0 g1 g : Nat} {a b : List Int} (h0 : NLI w (some ⟨g0, 0, none⟩) a.length a) (h1 : NLI w (some ⟨g1, 0, none⟩) b.length b)
    (hg : w.heap[g]? = some (.cells #[.slice (some ⟨g0, 0, none⟩) a.length a.length, .slice (some ⟨g1, 0, none⟩) b.length b.length] 45 (0, 0))) : Told w (some ⟨g, 0, none⟩) 2 [a, b] := by
  refine ⟨fun i hi => ?_, (fun e => by cases e), Nat.le_refl _⟩
  match i, hi with
  | 0, _ => exact ⟨g, 0, _, _, rfl, cell_of hg 0, h0⟩
  | 1, _ => exact ⟨g, 0, _, _, rfl, cell_of hg 1, h1⟩
theorem nli_block {w : World} {g : Nat} {l : List Int} (hl : ∀ u ∈ l, (Lit.int .i64 u).wf = true) (h : w.heap[g]? = some (.cells (l.map (Value.int .i64)).toArray 3 (0, 0))) : NLI w (some ⟨g, 0, none⟩) l.length l := by
  refine ⟨fun i hi => ⟨⟨g, 0, rfl, ?_⟩, hl _ (List.getElem_mem hi)⟩, (fun e => by cases e), Nat.le_refl _⟩
  rw [cell_of h]
  simp [hi]
theorem made_ints (w : World) (l : List Int) : (w.alloc (.cells (l.map (Value.int .i64)).toArray 3)).heap[w.heap.size]? = some (.cells (l.map (Value.int .i64)).toArray 3 (0, 0)) := heap_alloc_new w _
/-- a projection of two chains, made by a literal: four blocks, one behind the other -/
def layP (w : World) (ep : Int) (a b : List Int) : World :=
  (((w.alloc (.cells (a.map (Value.int .i64)).toArray 3)).alloc (.cells (b.map (Value.int .i64)).toArray 3)).alloc (.cells #[.slice (some ⟨w.heap.size, 0, none⟩) a.length a.length, .slice (some ⟨w.heap.size + 1, 0, none⟩) b.length b.length] 45)).alloc
    (.cells #[.int .i64 ep, .slice (some ⟨w.heap.size + 2, 0, none⟩) 2 2] 24)
theorem layP_size (w : World) (ep : Int) (a b : List Int) : (layP w ep a b).heap.size = w.heap.size + 4 := by simp [layP]
theorem layP_below (w : World) (ep : Int) (a b : List Int) : Below w.heap.size w (layP w ep a b) :=
  ((((Below.refl _ _).alloc (Nat.le_refl _) _).alloc (by simp) _).alloc (by first | (simp; done) | (simp; omega)) _).alloc (by first | (simp; done) | (simp; omega)) _
theorem layP_told (w : World) (ep : Int) (a b : List Int) (ha : ∀ u ∈ a, (Lit.int .i64 u).wf = true) (hb : ∀ u ∈ b, (Lit.int .i64 u).wf = true) :
    Told (layP w ep a b) (some ⟨w.heap.size + 2, 0, none⟩) 2 [a, b] ∧ PB (layP w ep a b) (w.heap.size + 3) ep (some ⟨w.heap.size + 2, 0, none⟩) 2 2 := by
  have s1 : (w.alloc (.cells (a.map (Value.int .i64)).toArray 3)).heap.size = w.heap.size + 1 := by simp
  have s2 : ((w.alloc (.cells (a.map (Value.int .i64)).toArray 3)).alloc (.cells (b.map (Value.int .i64)).toArray 3)).heap.size = w.heap.size + 2 := by simp
  have s3 : (((w.alloc (.cells (a.map (Value.int .i64)).toArray 3)).alloc (.cells (b.map (Value.int .i64)).toArray 3)).alloc (.cells #[.slice (some ⟨w.heap.size, 0, none⟩) a.length a.length, .slice (some ⟨w.heap.size + 1, 0, none⟩) b.length b.length] 45)).heap.size = w.heap.size + 3 := by simp
  refine ⟨told_two (g0 := w.heap.size) (g1 := w.heap.size + 1) (nli_block ha ?_) (nli_block hb ?_) ?_, ?_⟩
  · exact below_heap ((((Below.refl _ _).alloc (Nat.le_refl _) _).alloc (by simp) _).alloc (by first | (simp; done) | (simp; omega)) _) (made_ints w a)
  · have h := made_ints (w.alloc (.cells (a.map (Value.int .i64)).toArray 3)) b
    rw [s1] at h
    exact below_heap (((Below.refl _ _).alloc (Nat.le_refl _) _).alloc (by simp) _) h
  · have h := heap_alloc_new ((w.alloc (.cells (a.map (Value.int .i64)).toArray 3)).alloc (.cells (b.map (Value.int .i64)).toArray 3)) (.cells #[.slice (some ⟨w.heap.size, 0, none⟩) a.length a.length, .slice (some ⟨w.heap.size + 1, 0, none⟩) b.length b.length] 45)
    rw [s2] at h
    exact below_heap ((Below.refl _ _).alloc (Nat.le_refl _) _) h
  · have h := heap_alloc_new (((w.alloc (.cells (a.map (Value.int .i64)).toArray 3)).alloc (.cells (b.map (Value.int .i64)).toArray 3)).alloc (.cells #[.slice (some ⟨w.heap.size, 0, none⟩) a.length a.length, .slice (some ⟨w.heap.size + 1, 0, none⟩) b.length b.length] 45)) (.cells #[.int .i64 ep, .slice (some ⟨w.heap.size + 2, 0, none⟩) 2 2] 24)
    rw [s3] at h
    exact h
end Go.Proofs.Ythfbefkddnbbcaa
