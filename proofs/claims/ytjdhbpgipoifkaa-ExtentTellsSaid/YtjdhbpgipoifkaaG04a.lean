/- A slice that was handed over, of elements of any make: what its cells hold. No conditions. -/
import Derived.Test.YtjdhbpgipoifkaaG03a
set_option linter.unusedVariables false
namespace Go.Proofs.Ytjdhbpgipoifkaa
set_option linter.unusedVariables false
open Go.ChangeShapes Go.WideShapes Go.ChangeAt Go.RowKit
set_option maxRecDepth 20000
/-- the row at ao holds the elements L, n cells each, as f tells -/
def Row {α : Type} (w : World) (ao : Option Addr) (n : Nat) (f : α → List Value) (L : List α) : Prop :=
  ∀ i (h : i < L.length), ∃ bk off, ao = some ⟨bk, off, none⟩ ∧ ∀ j v, (f L[i])[j]? = some v → w.cell? ⟨bk, off + i * n + j, none⟩ = some v
theorem Row.nil {α : Type} (w : World) (ao : Option Addr) (n : Nat) (f : α → List Value) : Row w ao n f [] := fun i h => absurd h (Nat.not_lt_zero i)
theorem Row.below {α : Type} {w w' : World} {ao : Option Addr} {n : Nat} {f : α → List Value} {L : List α} (h : Row w ao n f L) (hb : Below w.heap.size w w') : Row w' ao n f L := by
  intro i hi
  obtain ⟨bk, off, h1, h2⟩ := h i hi
  exact ⟨bk, off, h1, fun j v hv => cellB hb (block_lt_of_cell (h2 j v hv)) (h2 j v hv)⟩
section
variable {H : Type} {enc : TypeId × Value → H} {P : Program} {w : World} {base : Nat} {spare : Nat → Bool} {held : Bool}
theorem rows_cs {α : Type} [Inhabited α] {f : α → List Value} {ok : World → α → Prop} {m n : Nat} {cs : List Value} {y : DataW H × List MemPlace} {t e : TypeId} (ht : P.underlying t = some (.slice e)) (hc : P.cellsOf e = n + 1)
    (one : ∀ (m : Nat) (cs : List Value) (y : DataW H × List MemPlace), cs.length = n + 1 → DataW.trod enc P w base spare held m e cs = some y → ∃ x, cs = f x ∧ ok w x) (hf : DataW.trod enc P w base spare held m t cs = some y) :
    ∃ ao cap L, cs = [.slice ao L.length cap] ∧ L.length ≤ maxLen ∧ Row w ao (n + 1) f L ∧ (∀ x ∈ L, ok w x) ∧ (ao = none → cap = 0) ∧ L.length ≤ cap := by
  rcases Deep.open_slice ht hf with ⟨h0, _⟩ | ⟨a, len, cap, m, n2, D, Pl, hcs, _, hl, hm, hmm, _, hi⟩
  · exact ⟨none, 0, [], h0, Nat.zero_le _, Row.nil _ _ _ _, (fun x hx => by cases hx), fun _ => rfl, Nat.le_refl _⟩
  subst hcs
  have hlm : len ≤ m := by rw [hmm]; split <;> omega
  rw [hc] at hi
  have each : ∀ i, i < len → ∃ x : α, (∀ j v, (f x)[j]? = some v → w.cell? (a.add (i * (n + 1) + j)) = some v) ∧ ok w x ∧ (f x).length = n + 1 := by
    intro i hin
    obtain ⟨cs, hcl, htr⟩ := hi i (by omega)
    obtain ⟨_, hlen, hat⟩ := World.cells?_some hcl
    obtain ⟨x, rfl, hok⟩ := one _ _ _ hlen htr
    refine ⟨x, fun j v hj => ?_, hok, hlen⟩
    have hjl : j < (f x).length := by
      obtain ⟨h1, _⟩ := List.getElem?_eq_some_iff.1 hj
      exact h1
    have a0 := hat j (by omega)
    rw [Deep.add_add] at a0
    rw [a0]
    exact hj
  obtain ⟨F, hF⟩ := Deep.choose_lt each
  refine ⟨some a, cap, (List.range len).map F, by simp, by simp; omega, fun i hi => ?_, fun x hx => ?_, (fun e => by cases e), by simpa using hl⟩
  · have hin : i < len := by simpa using hi
    rw [List.getElem_map, List.getElem_range]
    obtain ⟨b0, _, _⟩ := hF i hin
    obtain ⟨z0, _, zl⟩ := hF 0 (by omega)
    have hz : ∃ v, (f (F 0))[0]? = some v := ⟨(f (F 0))[0]'(by omega), List.getElem?_eq_getElem (by omega)⟩
    obtain ⟨v0, hv0⟩ := hz
    have hs := cell_spot (z0 0 v0 hv0)
    obtain ⟨bk, off, sp⟩ := a
    rw [show ((⟨bk, off, sp⟩ : Addr).add (0 * (n + 1) + 0)) = ⟨bk, off, sp⟩ from by simp [Addr.add]] at hs
    simp only at hs
    subst hs
    refine ⟨bk, off, rfl, fun j v hj => ?_⟩
    have h5 := b0 j v hj
    rw [addr_plus, ← Nat.add_assoc] at h5
    exact h5
  · obtain ⟨i, hi, rfl⟩ := List.mem_map.1 hx
    exact (hF i (List.mem_range.1 hi)).2.1
theorem open_rows {α : Type} [Inhabited α] {f : α → List Value} {ok : World → α → Prop} {n : Nat} {r : Reach} {b0 : Nat} {t e : TypeId} {v : Value} {d : DataW H} {pl : List MemPlace} (ht : P.underlying t = some (.slice e)) (hc : P.cellsOf e = n + 1)
    (one : ∀ (m : Nat) (cs : List Value) (y : DataW H × List MemPlace), cs.length = n + 1 → DataW.trod enc P w base spare held m e cs = some y → ∃ x, cs = f x ∧ ok w x)
    (hv : Value.okWide P w r b0 t v) (h : DataW.Trod enc P w base spare held t v d pl) :
    ∃ ao cap L, v = .slice ao L.length cap ∧ L.length ≤ maxLen ∧ Row w ao (n + 1) f L ∧ (∀ x ∈ L, ok w x) ∧ (ao = none → cap = 0) ∧ L.length ≤ cap := by
  obtain ⟨a0, n0, k0, rfl⟩ := okWide_slice ht hv
  obtain ⟨fuel, hf⟩ := h
  simp only [Value.cells] at hf
  obtain ⟨ao, cap, L, h1, h2⟩ := rows_cs ht hc one hf
  exact ⟨ao, cap, L, by simpa using h1, h2⟩
end
end Go.Proofs.Ytjdhbpgipoifkaa
