/- An answer in a block of its own: its eight cells, stores into it, and that a call returns it. No conditions. -/
import Derived.Test.YthfbefkddnbbcaaAskM
import Derived.Test.YthfbefkddnbbcaaKept
import Derived.Laws.ResultCell
import Derived.Laws.Rows
namespace Go.Proofs.Ythfbefkddnbbcaa
set_option linter.unusedVariables false
open Go.RowKit
set_option maxRecDepth 20000
theorem ans_ret {fn : Func} {p : Tmp} (h : fn.results = #[.cell p 41]) {a : Act} {w : World} {g : Nat} {x : An} {ao : Option Addr} {cap : Nat} {R : Ending → World → Prop}
    (hg : w.heap[g]? = some (.cells (ansC x ao cap).toArray 41 (0, 0))) (hp : a.tmps.getD p undef = .pointer (some ⟨g, 0, none⟩)) (hd : a.defers = [])
    (hR : R (.returned (ansV x ao cap)) w) : bodyPost Try.prog fn R .ret a w :=
  bodyPost_ret (results_cell_row h a.tmps w g 41 (ansC x ao cap).toArray (0, 0) _ hp hg Try.underlying41 rfl (by kernel_rfl)) hd hR
theorem eight_cells {w : World} {b : Nat} {v0 v1 v2 v3 v4 v5 v6 v7 : Value} {t : TypeId} (h : w.heap[b]? = some (.cells #[v0, v1, v2, v3, v4, v5, v6, v7] t (0, 0))) :
    (w.cell? ⟨b, 0, none⟩ = some v0 ∧ w.cell? ⟨b, 1, none⟩ = some v1 ∧ w.cell? ⟨b, 2, none⟩ = some v2 ∧ w.cell? ⟨b, 3, none⟩ = some v3 ∧ w.cell? ⟨b, 4, none⟩ = some v4 ∧ w.cell? ⟨b, 5, none⟩ = some v5 ∧ w.cell? ⟨b, 6, none⟩ = some v6 ∧ w.cell? ⟨b, 7, none⟩ = some v7) ∧
    w.frozen? ⟨b, 0, none⟩ = false ∧ w.frozen? ⟨b, 1, none⟩ = false ∧ w.frozen? ⟨b, 2, none⟩ = false ∧ w.frozen? ⟨b, 3, none⟩ = false ∧ w.frozen? ⟨b, 4, none⟩ = false ∧ w.frozen? ⟨b, 5, none⟩ = false ∧ w.frozen? ⟨b, 6, none⟩ = false ∧ w.frozen? ⟨b, 7, none⟩ = false :=
  ⟨⟨cell_of h 0, cell_of h 1, cell_of h 2, cell_of h 3, cell_of h 4, cell_of h 5, cell_of h 6, cell_of h 7⟩, free_of h 0, free_of h 1, free_of h 2, free_of h 3, free_of h 4, free_of h 5, free_of h 6, free_of h 7⟩
theorem eight_set0 {w : World} {b : Nat} {x0 x1 x2 x3 x4 x5 x6 x7 : Value} {t : TypeId} (h : w.heap[b]? = some (.cells #[x0, x1, x2, x3, x4, x5, x6, x7] t (0, 0))) (u : Value) : (w.setCell ⟨b, 0, none⟩ u).heap[b]? = some (.cells #[u, x1, x2, x3, x4, x5, x6, x7] t (0, 0)) :=
  heap_setCell_same w b 0 #[x0, x1, x2, x3, x4, x5, x6, x7] t u h
theorem eight_set1 {w : World} {b : Nat} {x0 x1 x2 x3 x4 x5 x6 x7 : Value} {t : TypeId} (h : w.heap[b]? = some (.cells #[x0, x1, x2, x3, x4, x5, x6, x7] t (0, 0))) (u : Value) : (w.setCell ⟨b, 1, none⟩ u).heap[b]? = some (.cells #[x0, u, x2, x3, x4, x5, x6, x7] t (0, 0)) :=
  heap_setCell_same w b 1 #[x0, x1, x2, x3, x4, x5, x6, x7] t u h
theorem eight_set2 {w : World} {b : Nat} {x0 x1 x2 x3 x4 x5 x6 x7 : Value} {t : TypeId} (h : w.heap[b]? = some (.cells #[x0, x1, x2, x3, x4, x5, x6, x7] t (0, 0))) (u : Value) : (w.setCell ⟨b, 2, none⟩ u).heap[b]? = some (.cells #[x0, x1, u, x3, x4, x5, x6, x7] t (0, 0)) :=
  heap_setCell_same w b 2 #[x0, x1, x2, x3, x4, x5, x6, x7] t u h
theorem eight_set3 {w : World} {b : Nat} {x0 x1 x2 x3 x4 x5 x6 x7 : Value} {t : TypeId} (h : w.heap[b]? = some (.cells #[x0, x1, x2, x3, x4, x5, x6, x7] t (0, 0))) (u : Value) : (w.setCell ⟨b, 3, none⟩ u).heap[b]? = some (.cells #[x0, x1, x2, u, x4, x5, x6, x7] t (0, 0)) :=
  heap_setCell_same w b 3 #[x0, x1, x2, x3, x4, x5, x6, x7] t u h
theorem eight_set4 {w : World} {b : Nat} {x0 x1 x2 x3 x4 x5 x6 x7 : Value} {t : TypeId} (h : w.heap[b]? = some (.cells #[x0, x1, x2, x3, x4, x5, x6, x7] t (0, 0))) (u : Value) : (w.setCell ⟨b, 4, none⟩ u).heap[b]? = some (.cells #[x0, x1, x2, x3, u, x5, x6, x7] t (0, 0)) :=
  heap_setCell_same w b 4 #[x0, x1, x2, x3, x4, x5, x6, x7] t u h
theorem eight_set5 {w : World} {b : Nat} {x0 x1 x2 x3 x4 x5 x6 x7 : Value} {t : TypeId} (h : w.heap[b]? = some (.cells #[x0, x1, x2, x3, x4, x5, x6, x7] t (0, 0))) (u : Value) : (w.setCell ⟨b, 5, none⟩ u).heap[b]? = some (.cells #[x0, x1, x2, x3, x4, u, x6, x7] t (0, 0)) :=
  heap_setCell_same w b 5 #[x0, x1, x2, x3, x4, x5, x6, x7] t u h
theorem eight_set6 {w : World} {b : Nat} {x0 x1 x2 x3 x4 x5 x6 x7 : Value} {t : TypeId} (h : w.heap[b]? = some (.cells #[x0, x1, x2, x3, x4, x5, x6, x7] t (0, 0))) (u : Value) : (w.setCell ⟨b, 6, none⟩ u).heap[b]? = some (.cells #[x0, x1, x2, x3, x4, x5, u, x7] t (0, 0)) :=
  heap_setCell_same w b 6 #[x0, x1, x2, x3, x4, x5, x6, x7] t u h
theorem eight_set7 {w : World} {b : Nat} {x0 x1 x2 x3 x4 x5 x6 x7 : Value} {t : TypeId} (h : w.heap[b]? = some (.cells #[x0, x1, x2, x3, x4, x5, x6, x7] t (0, 0))) (u : Value) : (w.setCell ⟨b, 7, none⟩ u).heap[b]? = some (.cells #[x0, x1, x2, x3, x4, x5, x6, u] t (0, 0)) :=
  heap_setCell_same w b 7 #[x0, x1, x2, x3, x4, x5, x6, x7] t u h
theorem kept_new {S : Nat → Prop} {w W : World} (h : Kept S w W) {b o : Nat} (hb : w.heap.size ≤ b) (v : Value) : Kept S w (W.setCell ⟨b, o, none⟩ v) := by
  have h1 : Kept (fun k => S k ∧ k < w.heap.size) w (W.setCell ⟨b, o, none⟩ v) := (h.mono (fun k hk => hk.1)).setCell (p := ⟨b, o, none⟩) (fun hk => by have := hk.2; simp at this; omega) v
  exact ⟨h1.os, h1.tape, h1.output, h1.size, fun k hk hl => h1.block k ⟨hk, hl⟩ hl⟩
end Go.Proofs.Ythfbefkddnbbcaa
