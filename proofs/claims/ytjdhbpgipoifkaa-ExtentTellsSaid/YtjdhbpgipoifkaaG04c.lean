/- A slice of whole numbers that was handed over: what its cells hold. No conditions. -/
import Derived.Test.YtjdhbpgipoifkaaG03a
set_option linter.unusedVariables false
namespace Go.Proofs.Ytjdhbpgipoifkaa
open Go.ChangeShapes Go.WideShapes Go.ChangeAt Go.RowKit

/-- the row at ao holds the numbers L -/
def NL (w : World) (ao : Option Addr) (L : List Int) : Prop := ∀ i (h : i < L.length), (∃ bk off, ao = some ⟨bk, off, none⟩ ∧ w.cell? ⟨bk, off + i, none⟩ = some (.int .i64 L[i])) ∧ (Lit.int .i64 L[i]).wf = true
theorem NL.below {w w' : World} {ao : Option Addr} {L : List Int} (h : NL w ao L) (hb : Below w.heap.size w w') : NL w' ao L := by
  intro i hi
  obtain ⟨⟨bk, off, h1, h2⟩, h5⟩ := h i hi
  exact ⟨⟨bk, off, h1, cellB hb (block_lt_of_cell h2) h2⟩, h5⟩
section
variable {H : Type} {enc : TypeId × Value → H} {P : Program} {w : World} {base : Nat} {spare : Nat → Bool} {held : Bool}
theorem open_nums {r : Reach} {b0 : Nat} {t e : TypeId} {v : Value} {d : DataW H} {p : List MemPlace} (ht : P.underlying t = some (.slice e)) (he : P.underlying e = some (.int .i64)) (hc : P.cellsOf e = 1)
    (hv : Value.okWide P w r b0 t v) (h : DataW.Trod enc P w base spare held t v d p) :
    ∃ ao cap L, v = .slice ao L.length cap ∧ L.length ≤ maxLen ∧ NL w ao L := by
  obtain ⟨a0, n0, k0, rfl⟩ := okWide_slice ht hv
  obtain ⟨fuel, hf⟩ := h
  simp only [Value.cells] at hf
  rcases Deep.open_slice ht hf with ⟨h0, _⟩ | ⟨a, len, cap, m, n, D, Pl, hcs, _, hl, hm, hmm, _, hi⟩
  · simp at h0
    obtain ⟨rfl, rfl, rfl⟩ := h0
    exact ⟨none, 0, [], rfl, Nat.zero_le _, fun i hi => absurd hi (Nat.not_lt_zero i)⟩
  simp at hcs
  obtain ⟨rfl, rfl, rfl⟩ := hcs
  have hlm : n0 ≤ m := by rw [hmm]; split <;> omega
  rw [hc] at hi
  have each : ∀ i, i < n0 → ∃ x : Int, w.cell? (a.add (i * 1)) = some (.int .i64 x) ∧ (Lit.int .i64 x).wf = true := by
    intro i hin
    obtain ⟨cs, hcl, htr⟩ := hi i (by omega)
    obtain ⟨_, hlen, hat⟩ := World.cells?_some hcl
    match cs, hlen with
    | [x0], _ =>
      obtain ⟨q0, e0, _, wf0⟩ := DataW.trod_int he htr
      simp at e0
      subst e0
      have a0 := hat 0 (by omega)
      rw [Deep.add_add] at a0
      exact ⟨q0, a0, wf0⟩
  obtain ⟨F, hF⟩ := Deep.choose_lt each
  refine ⟨some a, k0, (List.range n0).map F, by simp, by simp; omega, fun i hi => ?_⟩
  have hin : i < n0 := by simpa using hi
  rw [List.getElem_map, List.getElem_range]
  obtain ⟨b0, ok⟩ := hF i hin
  obtain ⟨z0, _⟩ := hF 0 (by omega)
  have hs := cell_spot z0
  obtain ⟨bk, off, sp⟩ := a
  rw [show ((⟨bk, off, sp⟩ : Addr).add (0 * 1)) = ⟨bk, off, sp⟩ from rfl] at hs
  simp only at hs
  subst hs
  rw [addr_plus, Nat.mul_one] at b0
  exact ⟨⟨bk, off, rfl, b0⟩, ok⟩
end
end Go.Proofs.Ytjdhbpgipoifkaa
