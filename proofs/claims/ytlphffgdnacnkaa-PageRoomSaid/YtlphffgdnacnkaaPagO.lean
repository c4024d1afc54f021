/- A step that was handed over by value is two numbers and a text. No conditions. -/
import Derived.Test.YtlphffgdnacnkaaPagS
namespace Go.Proofs.Ytlphffgdnacnkaa
open Go.ChangeShapes Go.WideShapes Go.ChangeAt Go.RowKit
section
variable {H : Type} {enc : TypeId × Value → H} {P : Program} {w : World} {base : Nat} {spare : Nat → Bool} {held : Bool}
theorem okWide_str3 {r : Reach} {b0 : Nat} {t : TypeId} {fs : Array Field} {v : Value} (ht : P.underlying t = some (.struct fs)) (h : Value.okWide P w r b0 t v) : ∃ cs, v = .agg cs ∧ cs.size = P.cellsOf t := by
  simp only [Value.okWide, ht] at h
  obtain ⟨cs, h1, h2, _⟩ := h
  exact ⟨cs, h1, h2⟩
theorem open_step {r : Reach} {b0 : Nat} {t ti ts : TypeId} {g0 g1 g2 : Field} {v : Value} {d : DataW H} {p : List MemPlace} (ht : P.underlying t = some (.struct #[g0, g1, g2])) (hc : P.cellsOf t = 3)
    (h0 : (g0.offset, g0.type) = (0, ti)) (h1 : (g1.offset, g1.type) = (1, ti)) (h2 : (g2.offset, g2.type) = (2, ts)) (ci : P.cellsOf ti = 1) (cs : P.cellsOf ts = 1) (ui : P.underlying ti = some (.int .i64)) (us : P.underlying ts = some .string)
    (hv : Value.okWide P w r b0 t v) (h : DataW.Trod enc P w base spare held t v d p) :
    ∃ x y z, v = .agg #[.int .i64 x, .int .i64 y, .string z] ∧ (Lit.int .i64 x).wf = true ∧ (Lit.int .i64 y).wf = true ∧ z.size ≤ maxLen := by
  obtain ⟨A, rfl, hsz⟩ := okWide_str3 ht hv
  obtain ⟨fuel, hf⟩ := h
  obtain ⟨xs, n, _, _, hl, hxl, hg⟩ := DataW.trod_struct ht hf
  simp only [Value.cells] at hl hg
  have hxl2 : xs.length = 3 := hxl
  simp only [Prod.mk.injEq] at h0 h1 h2
  have a0 := hg 0 g0 rfl
  have a1 := hg 1 g1 rfl
  have a2 := hg 2 g2 rfl
  rw [h0.1, h0.2, ci, List.getElem?_eq_getElem (by omega)] at a0
  rw [h1.1, h1.2, ci, List.getElem?_eq_getElem (by omega)] at a1
  rw [h2.1, h2.2, cs, List.getElem?_eq_getElem (by omega)] at a2
  obtain ⟨x, e0, _, wx⟩ := DataW.trod_int ui a0
  obtain ⟨y, e1, _, wy⟩ := DataW.trod_int ui a1
  obtain ⟨z, e2, _, wz⟩ := DataW.trod_string us a2
  refine ⟨x, y, z, ?_, wx, wy, wz⟩
  have hA : A.size = 3 := by rw [hsz, hc]
  obtain ⟨l⟩ := A
  match l, hA with
  | [u, v, t], _ =>
    simp at e0 e1 e2
    rw [e0, e1, e2]
end
theorem wide_wf {a : Int} (h : (Lit.int .i64 a).wf = true) : wide a := i64_of_wf h
end Go.Proofs.Ytlphffgdnacnkaa
