/- A struct that was handed over by value: a field that is a number, a field that is a text. No conditions. -/
import Derived.Test.YtjdhbpgipoifkaaG02a
import Derived.Test.YtjdhbpgipoifkaaG03a
set_option linter.unusedVariables false
namespace Go.Proofs.Ytjdhbpgipoifkaa
set_option linter.unusedVariables false
open Go.ChangeShapes Go.WideShapes Go.ChangeAt Go.RowKit
set_option maxRecDepth 20000
def i64w (x : Int) : Prop := (Lit.int .i64 x).wf = true
theorem i64w.of {x : Int} (h : i64w x) : -9223372036854775808 ≤ x ∧ x ≤ 9223372036854775807 := i64_of_wf h
section
variable {H : Type} {enc : TypeId × Value → H} {P : Program} {w : World} {base : Nat} {spare : Nat → Bool} {held : Bool}
theorem okWide_rec {r : Reach} {b0 : Nat} {t : TypeId} {fs : Array Field} {v : Value} (ht : P.underlying t = some (.struct fs)) (h : Value.okWide P w r b0 t v) : ∃ cs, v = .agg cs ∧ cs.size = P.cellsOf t := by
  simp only [Value.okWide, ht] at h
  obtain ⟨cs, h1, h2, _⟩ := h
  exact ⟨cs, h1, h2⟩
theorem one_at {cs : List Value} {i : Nat} {x : Value} (e : (cs.drop i).take 1 = [x]) : cs[i]? = some x := by
  have h2 : ((cs.drop i).take 1)[0]? = some x := by rw [e]; rfl
  simpa [List.getElem?_take, List.getElem?_drop] using h2
theorem fld_int {n i : Nat} {fs : Array Field} {cs : List Value} {xs : List (DataW H × List MemPlace)} {t0 : TypeId} (hg : ∀ (i : Nat) (f : Field), fs[i]? = some f → DataW.trod enc P w base spare held n f.type ((cs.drop f.offset).take (P.cellsOf f.type)) = xs[i]?)
    (hf : fs[i]?.map (fun f => (f.offset, f.type)) = some (i, t0)) (hx : i < xs.length) (hc : P.cellsOf t0 = 1) (hu : P.underlying t0 = some (.int .i64)) : ∃ y, cs[i]? = some (.int .i64 y) ∧ i64w y := by
  obtain ⟨f, h1, h2⟩ := Option.map_eq_some_iff.1 hf
  obtain ⟨h3, h4⟩ := Prod.mk.inj h2
  have g := hg i f h1
  rw [h3, h4, hc, List.getElem?_eq_getElem hx] at g
  obtain ⟨y, e, _, wf⟩ := DataW.trod_int hu g
  exact ⟨y, one_at e, wf⟩
theorem fld_text {n i : Nat} {fs : Array Field} {cs : List Value} {xs : List (DataW H × List MemPlace)} {t0 : TypeId} (hg : ∀ (i : Nat) (f : Field), fs[i]? = some f → DataW.trod enc P w base spare held n f.type ((cs.drop f.offset).take (P.cellsOf f.type)) = xs[i]?)
    (hf : fs[i]?.map (fun f => (f.offset, f.type)) = some (i, t0)) (hx : i < xs.length) (hc : P.cellsOf t0 = 1) (hu : P.underlying t0 = some .string) : ∃ y : ByteArray, cs[i]? = some (.string y) ∧ y.size ≤ maxLen := by
  obtain ⟨f, h1, h2⟩ := Option.map_eq_some_iff.1 hf
  obtain ⟨h3, h4⟩ := Prod.mk.inj h2
  have g := hg i f h1
  rw [h3, h4, hc, List.getElem?_eq_getElem hx] at g
  obtain ⟨y, e, _, wf⟩ := DataW.trod_string hu g
  exact ⟨y, one_at e, wf⟩
end
end Go.Proofs.Ytjdhbpgipoifkaa
