/- Slices of questions, and of steps with a question in each, that were handed over: what their cells hold. No conditions. -/
import Derived.Test.YthfbefkddnbbcaaAskM
import Derived.Test.YthfbefkddnbbcaaRowA
namespace Go.Proofs.Ythfbefkddnbbcaa
set_option linter.unusedVariables false
open Go.ChangeShapes Go.WideShapes Go.ChangeAt Go.RowKit
set_option maxRecDepth 20000
/-- a step: what to do, and a question -/
structure Sk where
  k : Int
  a : Ak
instance : Inhabited Ak := ⟨⟨0, 0, 0, 0, 0, 0, ⟨#[]⟩, 0, [], none, 0⟩⟩
instance : Inhabited Sk := ⟨⟨0, default⟩⟩
def stepC (s : Sk) : List Value := .int .i64 s.k :: askC s.a
def SkIn (w : World) (s : Sk) : Prop := i64w s.k ∧ AkIn w s.a
section
variable {H : Type} {enc : TypeId × Value → H} {P : Program} {w : World} {base : Nat} {spare : Nat → Bool} {held : Bool}
theorem step_cs {n : Nat} {cs : List Value} {y : DataW H × List MemPlace} {e t ti ts tp tc te : TypeId} {g0 g1 : Field} (T : AskT P t ti ts tp tc te) (he : P.underlying e = some (.struct #[g0, g1])) (h0 : (g0.offset, g0.type) = (0, ti)) (h1 : (g1.offset, g1.type) = (1, t)) (hl : cs.length = 10)
    (hf : DataW.trod enc P w base spare held n e cs = some y) : ∃ s : Sk, cs = stepC s ∧ SkIn w s := by
  obtain ⟨xs, m, _, _, _, hxl, hg⟩ := DataW.trod_struct he hf
  have hxl2 : xs.length = 2 := hxl
  simp only [Prod.mk.injEq] at h0 h1
  have a0 := hg 0 g0 rfl
  have a1 := hg 1 g1 rfl
  rw [h0.1, h0.2, T.ci, List.getElem?_eq_getElem (by omega)] at a0
  rw [h1.1, h1.2, T.cells, List.getElem?_eq_getElem (by omega)] at a1
  obtain ⟨k, e0, _, wf⟩ := DataW.trod_int T.ui a0
  obtain ⟨a, e1, h2⟩ := ask_cs T (by rw [List.length_take, List.length_drop]; omega) a1
  refine ⟨⟨k, a⟩, ?_, wf, h2⟩
  match cs, hl with
  | [x0, x1, x2, x3, x4, x5, x6, x7, x8, x9], _ =>
    simp at e0 e1
    unfold stepC
    rw [← e1, e0]
end
theorem step_at {w : World} {ao : Option Addr} {l : List Sk} (h : Row w ao 10 stepC l) {i : Nat} (hi : i < l.length) : ∃ bk off, ao = some ⟨bk, off, none⟩ ∧ w.cell? ⟨bk, off + i * 10, none⟩ = some (.int .i64 l[i].k) ∧
    w.cell? ⟨bk, off + i * 10 + 1, none⟩ = some (.int .i64 l[i].a.kind) ∧ w.cell? ⟨bk, off + i * 10 + 1 + 1, none⟩ = some (.int .i64 l[i].a.unit) ∧ w.cell? ⟨bk, off + i * 10 + 1 + 2, none⟩ = some (.int .i64 l[i].a.epoch) ∧ w.cell? ⟨bk, off + i * 10 + 1 + 3, none⟩ = some (.int .i64 l[i].a.page) ∧ w.cell? ⟨bk, off + i * 10 + 1 + 4, none⟩ = some (.int .i64 l[i].a.size) ∧
    w.cell? ⟨bk, off + i * 10 + 1 + 5, none⟩ = some (.int .i64 l[i].a.n) ∧ w.cell? ⟨bk, off + i * 10 + 1 + 6, none⟩ = some (.string l[i].a.data) ∧ w.cell? ⟨bk, off + i * 10 + 1 + 7, none⟩ = some (.int .i64 l[i].a.pe) ∧ w.cell? ⟨bk, off + i * 10 + 1 + 8, none⟩ = some (.slice l[i].a.ao l[i].a.L.length l[i].a.cap) := by
  obtain ⟨bk, off, h1, h2⟩ := h i hi
  exact ⟨bk, off, h1, h2 0 _ rfl, h2 1 _ rfl, h2 2 _ rfl, h2 3 _ rfl, h2 4 _ rfl, h2 5 _ rfl, h2 6 _ rfl, h2 7 _ rfl, h2 8 _ rfl, h2 9 _ rfl⟩
theorem nine_at {w W : World} {l : List Sk} {bk off n : Nat} (h : Row w (some ⟨bk, off, none⟩) 10 stepC l) (hn : n < l.length) (hb : Below w.heap.size w W) :
    W.cell? ⟨bk, off + n * 10 + 1, none⟩ = some (.int .i64 l[n].a.kind) ∧ W.cell? ⟨bk, off + n * 10 + 1 + 1, none⟩ = some (.int .i64 l[n].a.unit) ∧ W.cell? ⟨bk, off + n * 10 + 1 + 2, none⟩ = some (.int .i64 l[n].a.epoch) ∧ W.cell? ⟨bk, off + n * 10 + 1 + 3, none⟩ = some (.int .i64 l[n].a.page) ∧ W.cell? ⟨bk, off + n * 10 + 1 + 4, none⟩ = some (.int .i64 l[n].a.size) ∧
    W.cell? ⟨bk, off + n * 10 + 1 + 5, none⟩ = some (.int .i64 l[n].a.n) ∧ W.cell? ⟨bk, off + n * 10 + 1 + 6, none⟩ = some (.string l[n].a.data) ∧ W.cell? ⟨bk, off + n * 10 + 1 + 7, none⟩ = some (.int .i64 l[n].a.pe) ∧ W.cell? ⟨bk, off + n * 10 + 1 + 8, none⟩ = some (.slice l[n].a.ao l[n].a.L.length l[n].a.cap) := by
  obtain ⟨bk2, off2, e, _, h1, h2, h3, h4, h5, h6, h7, h8, h9⟩ := step_at (h.below hb) hn
  cases e
  exact ⟨h1, h2, h3, h4, h5, h6, h7, h8, h9⟩
end Go.Proofs.Ythfbefkddnbbcaa
