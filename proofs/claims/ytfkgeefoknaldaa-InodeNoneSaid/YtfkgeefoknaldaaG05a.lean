/- Slices of slices of whole numbers, and a projection that was handed over by value: what their cells hold. No conditions. -/
import Derived.Test.YtfkgeefoknaldaaG04a
import Derived.Test.YtfkgeefoknaldaaG02b
set_option linter.unusedVariables false
namespace Go.Proofs.Ytfkgeefoknaldaa
open Go.ChangeShapes Go.WideShapes Go.ChangeAt Go.RowKit

/-- the row at ao holds the numbers l; a slice that is nil has no room -/
def NLI (w : World) (ao : Option Addr) (cap : Nat) (l : List Int) : Prop := NL w ao l ∧ (ao = none → cap = 0) ∧ l.length ≤ cap
theorem NL.nil (w : World) (ao : Option Addr) : NL w ao [] := fun i h => absurd h (Nat.not_lt_zero i)
theorem NLI.nil (w : World) : NLI w none 0 [] := ⟨NL.nil w none, fun _ => rfl, Nat.le_refl _⟩
theorem NLI.below {w w' : World} {ao : Option Addr} {cap : Nat} {l : List Int} (h : NLI w ao cap l) (hb : Below w.heap.size w w') : NLI w' ao cap l := ⟨h.1.below hb, h.2⟩
theorem NLI.of_none {w : World} {cap : Nat} {l : List Int} (h : NLI w none cap l) : l = [] ∧ cap = 0 := by
  obtain ⟨h1, h2, h3⟩ := h
  cases l with
  | nil => exact ⟨rfl, h2 rfl⟩
  | cons x l => have := h2 rfl; simp at h3; omega
theorem NLI.at {w : World} {ao : Option Addr} {cap : Nat} {l : List Int} (h : NLI w ao cap l) (i : Nat) (hi : i < l.length) : ∃ bk off, ao = some ⟨bk, off, none⟩ ∧ w.cell? ⟨bk, off + i, none⟩ = some (.int .i64 l[i]) := (h.1 i hi).1
theorem NLI.rng {w : World} {ao : Option Addr} {cap : Nat} {l : List Int} (h : NLI w ao cap l) (i : Nat) (hi : i < l.length) : -9223372036854775808 ≤ l[i] ∧ l[i] ≤ 9223372036854775807 := i64_of_wf (h.1 i hi).2
/-- the row at ao holds slices, whose rows hold the lists of L -/
def CL (w : World) (ao : Option Addr) (L : List (List Int)) : Prop := ∀ i (h : i < L.length), ∃ bk off ai ci, ao = some ⟨bk, off, none⟩ ∧ w.cell? ⟨bk, off + i, none⟩ = some (.slice ai L[i].length ci) ∧ NLI w ai ci L[i]
theorem CL.nil (w : World) (ao : Option Addr) : CL w ao [] := fun i h => absurd h (Nat.not_lt_zero i)
theorem CL.below {w w' : World} {ao : Option Addr} {L : List (List Int)} (h : CL w ao L) (hb : Below w.heap.size w w') : CL w' ao L := by
  intro i hi
  obtain ⟨bk, off, ai, ci, h1, h2, h3⟩ := h i hi
  exact ⟨bk, off, ai, ci, h1, cellB hb (block_lt_of_cell h2) h2, h3.below hb⟩
/-- a list of whole numbers, all of 64 bits -/
def i64L (l : List Int) : Prop := ∀ u ∈ l, -9223372036854775808 ≤ u ∧ u ≤ 9223372036854775807
theorem NLI.i64 {w : World} {ao : Option Addr} {cap : Nat} {l : List Int} (h : NLI w ao cap l) : i64L l := by
  intro u hu
  obtain ⟨i, hi, rfl⟩ := List.getElem_of_mem hu
  exact h.rng i hi
section
variable {H : Type} {enc : TypeId × Value → H} {P : Program} {w : World} {base : Nat} {spare : Nat → Bool} {held : Bool}
theorem nums_cs {n : Nat} {cs : List Value} {y : DataW H × List MemPlace} {t e : TypeId} (ht : P.underlying t = some (.slice e)) (he : P.underlying e = some (.int .i64)) (hc : P.cellsOf e = 1)
    (hf : DataW.trod enc P w base spare held n t cs = some y) : ∃ ao cap L, cs = [.slice ao L.length cap] ∧ NLI w ao cap L ∧ L.length ≤ maxLen := by
  rcases Deep.open_slice ht hf with ⟨h0, _⟩ | ⟨a, len, cap, m, n, D, Pl, hcs, _, hl, hm, hmm, _, hi⟩
  · exact ⟨none, 0, [], h0, NLI.nil w, Nat.zero_le _⟩
  subst hcs
  have hlm : len ≤ m := by rw [hmm]; split <;> omega
  rw [hc] at hi
  have each : ∀ i, i < len → ∃ x : Int, w.cell? (a.add (i * 1)) = some (.int .i64 x) ∧ (Lit.int .i64 x).wf = true := by
    intro i hin
    obtain ⟨cs, hcl, htr⟩ := hi i (by omega)
    obtain ⟨_, hlen, hat⟩ := World.cells?_some hcl
    match cs, hlen with
    | [x0], _ =>
      obtain ⟨q0, e0, _, wf0⟩ := DataW.trod_int he htr
      simp at e0
      subst e0
      have a0 := hat 0 (by omega)
      rw [Deep.add_add] at a0
      exact ⟨q0, a0, wf0⟩
  obtain ⟨F, hF⟩ := Deep.choose_lt each
  refine ⟨some a, cap, (List.range len).map F, by simp, ⟨fun i hi => ?_, (fun h => by cases h), by simpa using hl⟩, by simp; omega⟩
  have hin : i < len := by simpa using hi
  rw [List.getElem_map, List.getElem_range]
  obtain ⟨b0, ok⟩ := hF i hin
  obtain ⟨z0, _⟩ := hF 0 (by omega)
  have hs := cell_spot z0
  obtain ⟨bk, off, sp⟩ := a
  rw [show ((⟨bk, off, sp⟩ : Addr).add (0 * 1)) = ⟨bk, off, sp⟩ from rfl] at hs
  simp only at hs
  subst hs
  rw [addr_plus, Nat.mul_one] at b0
  exact ⟨⟨bk, off, rfl, b0⟩, ok⟩
theorem chains_cs {n : Nat} {cs : List Value} {y : DataW H × List MemPlace} {t e q : TypeId} (ht : P.underlying t = some (.slice e)) (he : P.underlying e = some (.slice q)) (hq : P.underlying q = some (.int .i64)) (ce : P.cellsOf e = 1) (cq : P.cellsOf q = 1)
    (hf : DataW.trod enc P w base spare held n t cs = some y) : ∃ ao cap L, cs = [.slice ao L.length cap] ∧ CL w ao L ∧ (ao = none → cap = 0) ∧ L.length ≤ cap ∧ L.length ≤ maxLen ∧ ∀ i (h : i < L.length), L[i].length ≤ maxLen := by
  rcases Deep.open_slice ht hf with ⟨h0, _⟩ | ⟨a, len, cap, m, n, D, Pl, hcs, _, hl, hm, hmm, _, hi⟩
  · exact ⟨none, 0, [], h0, CL.nil _ _, fun _ => rfl, Nat.le_refl _, Nat.zero_le _, fun i hi => absurd hi (Nat.not_lt_zero i)⟩
  subst hcs
  have hlm : len ≤ m := by rw [hmm]; split <;> omega
  rw [ce] at hi
  have each : ∀ i, i < len → ∃ f : Option Addr × Nat × List Int, w.cell? (a.add (i * 1)) = some (.slice f.1 f.2.2.length f.2.1) ∧ NLI w f.1 f.2.1 f.2.2 ∧ f.2.2.length ≤ maxLen := by
    intro i hin
    obtain ⟨cs, hcl, htr⟩ := hi i (by omega)
    obtain ⟨_, hlen, hat⟩ := World.cells?_some hcl
    obtain ⟨ai, ci, l, hcs, hN, hm2⟩ := nums_cs he hq cq htr
    subst hcs
    have a0 := hat 0 (by simp)
    rw [Deep.add_add] at a0
    exact ⟨(ai, ci, l), a0, hN, hm2⟩
  obtain ⟨F, hF⟩ := Deep.choose_lt each
  refine ⟨some a, cap, (List.range len).map (fun i => (F i).2.2), by simp, fun i hi => ?_, (fun h => by cases h), by simpa using hl, by simp; omega, fun i hi => ?_⟩
  · have hin : i < len := by simpa using hi
    rw [List.getElem_map, List.getElem_range]
    obtain ⟨b0, ok, _⟩ := hF i hin
    obtain ⟨z0, _⟩ := hF 0 (by omega)
    have hs := cell_spot z0
    obtain ⟨bk, off, sp⟩ := a
    rw [show ((⟨bk, off, sp⟩ : Addr).add (0 * 1)) = ⟨bk, off, sp⟩ from rfl] at hs
    simp only at hs
    subst hs
    rw [addr_plus, Nat.mul_one] at b0
    exact ⟨bk, off, _, _, rfl, b0, ok⟩
  · have hin : i < len := by simpa using hi
    rw [List.getElem_map, List.getElem_range]
    exact (hF i hin).2.2
theorem okWide_str {r : Reach} {b0 : Nat} {t : TypeId} {fs : Array Field} {v : Value} (ht : P.underlying t = some (.struct fs)) (h : Value.okWide P w r b0 t v) : ∃ cs, v = .agg cs ∧ cs.size = P.cellsOf t := by
  simp only [Value.okWide, ht] at h
  obtain ⟨cs, h1, h2, _⟩ := h
  exact ⟨cs, h1, h2⟩
/-- a projection that was handed over -/
theorem open_proj {r : Reach} {b0 : Nat} {t ti tc te : TypeId} {g0 g1 : Field} {v : Value} {d : DataW H} {p : List MemPlace} (ht : P.underlying t = some (.struct #[g0, g1])) (hc : P.cellsOf t = 2)
    (h0 : (g0.offset, g0.type) = (0, ti)) (h1 : (g1.offset, g1.type) = (1, tc)) (ci : P.cellsOf ti = 1) (cc : P.cellsOf tc = 1)
    (ui : P.underlying ti = some (.int .i64)) (uc : P.underlying tc = some (.slice te)) (ue : P.underlying te = some (.slice ti)) (ce : P.cellsOf te = 1)
    (hv : Value.okWide P w r b0 t v) (h : DataW.Trod enc P w base spare held t v d p) :
    ∃ ep ao cap L, v = .agg #[.int .i64 ep, .slice ao L.length cap] ∧ (Lit.int .i64 ep).wf = true ∧ CL w ao L ∧ (ao = none → cap = 0) ∧ L.length ≤ cap ∧ L.length ≤ maxLen ∧ ∀ i (h : i < L.length), L[i].length ≤ maxLen := by
  obtain ⟨A, rfl, hsz⟩ := okWide_str ht hv
  obtain ⟨fuel, hf⟩ := h
  obtain ⟨xs, n, _, _, hl, hxl, hg⟩ := DataW.trod_struct ht hf
  simp only [Value.cells] at hl hg
  have hxl2 : xs.length = 2 := hxl
  simp only [Prod.mk.injEq] at h0 h1
  have a0 := hg 0 g0 rfl
  have a1 := hg 1 g1 rfl
  rw [h0.1, h0.2, ci, List.getElem?_eq_getElem (by omega)] at a0
  rw [h1.1, h1.2, cc, List.getElem?_eq_getElem (by omega)] at a1
  obtain ⟨ep, e0, _, wf⟩ := DataW.trod_int ui a0
  obtain ⟨ao, cap, L, e1, h2, h3, h4, h5, h6⟩ := chains_cs uc ue ui ce ci a1
  refine ⟨ep, ao, cap, L, ?_, wf, h2, h3, h4, h5, h6⟩
  have hA : A.size = 2 := by rw [hsz, hc]
  obtain ⟨l⟩ := A
  match l, hA with
  | [x, y], _ =>
    simp at e0 e1
    rw [e0, e1]
end
end Go.Proofs.Ytfkgeefoknaldaa
