/- Parts and moves among a law's arguments: opened. No conditions. -/
import Derived.Test.YtjdhbpgipoifkaaG08a
import Derived.ChangeArms
set_option linter.unusedVariables false
namespace Go.Proofs.Ytjdhbpgipoifkaa
set_option linter.unusedVariables false
open Go.ChangeShapes Go.WideShapes Go.ChangeAt Go.RowKit
def PaIn (w : World) (x : Pt) : Prop := i64w x.off ∧ i64w x.len ∧ i64w x.addr ∧ i64w x.src
instance : Inhabited Pt := ⟨⟨0, 0, 0, 0⟩⟩
section
variable {H : Type} {enc : TypeId × Value → H} {P : Program} {w : World} {base : Nat} {spare : Nat → Bool} {held : Bool}
theorem four_ints {n : Nat} {cs : List Value} {y : DataW H × List MemPlace} {e ti : TypeId} {g0 g1 g2 g3 : Field} (he : P.underlying e = some (.struct #[g0, g1, g2, g3])) (h0 : (g0.offset, g0.type) = (0, ti)) (h1 : (g1.offset, g1.type) = (1, ti)) (h2 : (g2.offset, g2.type) = (2, ti)) (h3 : (g3.offset, g3.type) = (3, ti))
    (ui : P.underlying ti = some (.int .i64)) (ci : P.cellsOf ti = 1) (hl : cs.length = 4)
    (hf : DataW.trod enc P w base spare held n e cs = some y) : ∃ a b c d : Int, cs = [.int .i64 a, .int .i64 b, .int .i64 c, .int .i64 d] ∧ i64w a ∧ i64w b ∧ i64w c ∧ i64w d := by
  obtain ⟨xs, m, _, _, _, hxl, hg⟩ := DataW.trod_struct he hf
  have hxl2 : xs.length = 4 := hxl
  simp only [Prod.mk.injEq] at h0 h1 h2 h3
  have a0 := hg 0 g0 rfl
  have a1 := hg 1 g1 rfl
  have a2 := hg 2 g2 rfl
  have a3 := hg 3 g3 rfl
  rw [h0.1, h0.2, ci, List.getElem?_eq_getElem (by omega)] at a0
  rw [h1.1, h1.2, ci, List.getElem?_eq_getElem (by omega)] at a1
  rw [h2.1, h2.2, ci, List.getElem?_eq_getElem (by omega)] at a2
  rw [h3.1, h3.2, ci, List.getElem?_eq_getElem (by omega)] at a3
  obtain ⟨k0, e0, _, w0⟩ := DataW.trod_int ui a0
  obtain ⟨k1, e1, _, w1⟩ := DataW.trod_int ui a1
  obtain ⟨k2, e2, _, w2⟩ := DataW.trod_int ui a2
  obtain ⟨k3, e3, _, w3⟩ := DataW.trod_int ui a3
  refine ⟨k0, k1, k2, k3, ?_, w0, w1, w2, w3⟩
  match cs, hl with
  | [x0, x1, x2, x3], _ =>
    simp at e0 e1 e2 e3
    rw [e0, e1, e2, e3]
theorem par_cs {n : Nat} {cs : List Value} {y : DataW H × List MemPlace} {e ti : TypeId} {g0 g1 g2 g3 : Field} (he : P.underlying e = some (.struct #[g0, g1, g2, g3])) (h0 : (g0.offset, g0.type) = (0, ti)) (h1 : (g1.offset, g1.type) = (1, ti)) (h2 : (g2.offset, g2.type) = (2, ti)) (h3 : (g3.offset, g3.type) = (3, ti))
    (ui : P.underlying ti = some (.int .i64)) (ci : P.cellsOf ti = 1) (hl : cs.length = 4)
    (hf : DataW.trod enc P w base spare held n e cs = some y) : ∃ x : Pt, cs = parC x ∧ PaIn w x := by
  obtain ⟨a, b, c, d, e, w0, w1, w2, w3⟩ := four_ints he h0 h1 h2 h3 ui ci hl hf
  exact ⟨⟨a, b, c, d⟩, e, w0, w1, w2, w3⟩
/-- a struct of four numbers that was handed over by value -/
theorem open_four {r : Reach} {b0 : Nat} {t ti : TypeId} {g0 g1 g2 g3 : Field} {v : Value} {d : DataW H} {p : List MemPlace} (ht : P.underlying t = some (.struct #[g0, g1, g2, g3])) (hc : P.cellsOf t = 4)
    (h0 : (g0.offset, g0.type) = (0, ti)) (h1 : (g1.offset, g1.type) = (1, ti)) (h2 : (g2.offset, g2.type) = (2, ti)) (h3 : (g3.offset, g3.type) = (3, ti)) (ci : P.cellsOf ti = 1) (ui : P.underlying ti = some (.int .i64)) (hv : Value.okWide P w r b0 t v) (h : DataW.Trod enc P w base spare held t v d p) :
    ∃ x y z u, v = .agg #[.int .i64 x, .int .i64 y, .int .i64 z, .int .i64 u] ∧ i64w x ∧ i64w y ∧ i64w z ∧ i64w u := by
  obtain ⟨A, rfl, hsz⟩ := okWide_rec ht hv
  obtain ⟨fuel, hf⟩ := h
  have hA : A.toList.length = 4 := by rw [Array.length_toList, hsz, hc]
  obtain ⟨a, b, c, d, e, w0, w1, w2, w3⟩ := four_ints ht h0 h1 h2 h3 ui ci hA hf
  refine ⟨a, b, c, d, ?_, w0, w1, w2, w3⟩
  rw [← Array.toArray_toList (xs := A), e]
end
end Go.Proofs.Ytjdhbpgipoifkaa
