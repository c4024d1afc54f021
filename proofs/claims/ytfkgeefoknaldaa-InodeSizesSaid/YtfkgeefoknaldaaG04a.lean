/- A slice that was handed over, of elements of any make: what its cells hold. No conditions. A struct that was handed over by value: a field that is a number, a field that is a text. No conditions. A slice of whole numbers that was handed over: what its cells hold. No conditions. What reads as a key that is a struct of one whole number is one. Conditions: as each statement says. -/
import Derived.Test.YtfkgeefoknaldaaG03a
import Derived.Test.YtfkgeefoknaldaaG02a
set_option linter.unusedVariables false
namespace Go.Proofs.Ytfkgeefoknaldaa
set_option linter.unusedVariables false
open Go.ChangeShapes Go.WideShapes Go.ChangeAt Go.RowKit
set_option maxRecDepth 20000
/-- the row at ao holds the elements L, n cells each, as f tells -/
def Row {α : Type} (w : World) (ao : Option Addr) (n : Nat) (f : α → List Value) (L : List α) : Prop :=
  ∀ i (h : i < L.length), ∃ bk off, ao = some ⟨bk, off, none⟩ ∧ ∀ j v, (f L[i])[j]? = some v → w.cell? ⟨bk, off + i * n + j, none⟩ = some v
theorem Row.nil {α : Type} (w : World) (ao : Option Addr) (n : Nat) (f : α → List Value) : Row w ao n f [] := fun i h => absurd h (Nat.not_lt_zero i)
theorem Row.below {α : Type} {w w' : World} {ao : Option Addr} {n : Nat} {f : α → List Value} {L : List α} (h : Row w ao n f L) (hb : Below w.heap.size w w') : Row w' ao n f L := by
  intro i hi
  obtain ⟨bk, off, h1, h2⟩ := h i hi
  exact ⟨bk, off, h1, fun j v hv => cellB hb (block_lt_of_cell (h2 j v hv)) (h2 j v hv)⟩
section
variable {H : Type} {enc : TypeId × Value → H} {P : Program} {w : World} {base : Nat} {spare : Nat → Bool} {held : Bool}
theorem rows_cs {α : Type} [Inhabited α] {f : α → List Value} {ok : World → α → Prop} {m n : Nat} {cs : List Value} {y : DataW H × List MemPlace} {t e : TypeId} (ht : P.underlying t = some (.slice e)) (hc : P.cellsOf e = n + 1)
    (one : ∀ (m : Nat) (cs : List Value) (y : DataW H × List MemPlace), cs.length = n + 1 → DataW.trod enc P w base spare held m e cs = some y → ∃ x, cs = f x ∧ ok w x) (hf : DataW.trod enc P w base spare held m t cs = some y) :
    ∃ ao cap L, cs = [.slice ao L.length cap] ∧ L.length ≤ maxLen ∧ Row w ao (n + 1) f L ∧ (∀ x ∈ L, ok w x) ∧ (ao = none → cap = 0) ∧ L.length ≤ cap := by
  rcases Deep.open_slice ht hf with ⟨h0, _⟩ | ⟨a, len, cap, m, n2, D, Pl, hcs, _, hl, hm, hmm, _, hi⟩
  · exact ⟨none, 0, [], h0, Nat.zero_le _, Row.nil _ _ _ _, (fun x hx => by cases hx), fun _ => rfl, Nat.le_refl _⟩
  subst hcs
  have hlm : len ≤ m := by rw [hmm]; split <;> omega
  rw [hc] at hi
  have each : ∀ i, i < len → ∃ x : α, (∀ j v, (f x)[j]? = some v → w.cell? (a.add (i * (n + 1) + j)) = some v) ∧ ok w x ∧ (f x).length = n + 1 := by
    intro i hin
    obtain ⟨cs, hcl, htr⟩ := hi i (by omega)
    obtain ⟨_, hlen, hat⟩ := World.cells?_some hcl
    obtain ⟨x, rfl, hok⟩ := one _ _ _ hlen htr
    refine ⟨x, fun j v hj => ?_, hok, hlen⟩
    have hjl : j < (f x).length := by
      obtain ⟨h1, _⟩ := List.getElem?_eq_some_iff.1 hj
      exact h1
    have a0 := hat j (by omega)
    rw [Deep.add_add] at a0
    rw [a0]
    exact hj
  obtain ⟨F, hF⟩ := Deep.choose_lt each
  refine ⟨some a, cap, (List.range len).map F, by simp, by simp; omega, fun i hi => ?_, fun x hx => ?_, (fun e => by cases e), by simpa using hl⟩
  · have hin : i < len := by simpa using hi
    rw [List.getElem_map, List.getElem_range]
    obtain ⟨b0, _, _⟩ := hF i hin
    obtain ⟨z0, _, zl⟩ := hF 0 (by omega)
    have hz : ∃ v, (f (F 0))[0]? = some v := ⟨(f (F 0))[0]'(by omega), List.getElem?_eq_getElem (by omega)⟩
    obtain ⟨v0, hv0⟩ := hz
    have hs := cell_spot (z0 0 v0 hv0)
    obtain ⟨bk, off, sp⟩ := a
    rw [show ((⟨bk, off, sp⟩ : Addr).add (0 * (n + 1) + 0)) = ⟨bk, off, sp⟩ from by simp [Addr.add]] at hs
    simp only at hs
    subst hs
    refine ⟨bk, off, rfl, fun j v hj => ?_⟩
    have h5 := b0 j v hj
    rw [addr_plus, ← Nat.add_assoc] at h5
    exact h5
  · obtain ⟨i, hi, rfl⟩ := List.mem_map.1 hx
    exact (hF i (List.mem_range.1 hi)).2.1
theorem open_rows {α : Type} [Inhabited α] {f : α → List Value} {ok : World → α → Prop} {n : Nat} {r : Reach} {b0 : Nat} {t e : TypeId} {v : Value} {d : DataW H} {pl : List MemPlace} (ht : P.underlying t = some (.slice e)) (hc : P.cellsOf e = n + 1)
    (one : ∀ (m : Nat) (cs : List Value) (y : DataW H × List MemPlace), cs.length = n + 1 → DataW.trod enc P w base spare held m e cs = some y → ∃ x, cs = f x ∧ ok w x)
    (hv : Value.okWide P w r b0 t v) (h : DataW.Trod enc P w base spare held t v d pl) :
    ∃ ao cap L, v = .slice ao L.length cap ∧ L.length ≤ maxLen ∧ Row w ao (n + 1) f L ∧ (∀ x ∈ L, ok w x) ∧ (ao = none → cap = 0) ∧ L.length ≤ cap := by
  obtain ⟨a0, n0, k0, rfl⟩ := okWide_slice ht hv
  obtain ⟨fuel, hf⟩ := h
  simp only [Value.cells] at hf
  obtain ⟨ao, cap, L, h1, h2⟩ := rows_cs ht hc one hf
  exact ⟨ao, cap, L, by simpa using h1, h2⟩
end
end Go.Proofs.Ytfkgeefoknaldaa
namespace Go.Proofs.Ytfkgeefoknaldaa
set_option linter.unusedVariables false
open Go.ChangeShapes Go.WideShapes Go.ChangeAt Go.RowKit
set_option maxRecDepth 20000
def i64w (x : Int) : Prop := (Lit.int .i64 x).wf = true
theorem i64w.of {x : Int} (h : i64w x) : -9223372036854775808 ≤ x ∧ x ≤ 9223372036854775807 := i64_of_wf h
section
variable {H : Type} {enc : TypeId × Value → H} {P : Program} {w : World} {base : Nat} {spare : Nat → Bool} {held : Bool}
theorem okWide_rec {r : Reach} {b0 : Nat} {t : TypeId} {fs : Array Field} {v : Value} (ht : P.underlying t = some (.struct fs)) (h : Value.okWide P w r b0 t v) : ∃ cs, v = .agg cs ∧ cs.size = P.cellsOf t := by
  simp only [Value.okWide, ht] at h
  obtain ⟨cs, h1, h2, _⟩ := h
  exact ⟨cs, h1, h2⟩
theorem one_at {cs : List Value} {i : Nat} {x : Value} (e : (cs.drop i).take 1 = [x]) : cs[i]? = some x := by
  have h2 : ((cs.drop i).take 1)[0]? = some x := by rw [e]; rfl
  simpa [List.getElem?_take, List.getElem?_drop] using h2
theorem fld_int {n i : Nat} {fs : Array Field} {cs : List Value} {xs : List (DataW H × List MemPlace)} {t0 : TypeId} (hg : ∀ (i : Nat) (f : Field), fs[i]? = some f → DataW.trod enc P w base spare held n f.type ((cs.drop f.offset).take (P.cellsOf f.type)) = xs[i]?)
    (hf : fs[i]?.map (fun f => (f.offset, f.type)) = some (i, t0)) (hx : i < xs.length) (hc : P.cellsOf t0 = 1) (hu : P.underlying t0 = some (.int .i64)) : ∃ y, cs[i]? = some (.int .i64 y) ∧ i64w y := by
  obtain ⟨f, h1, h2⟩ := Option.map_eq_some_iff.1 hf
  obtain ⟨h3, h4⟩ := Prod.mk.inj h2
  have g := hg i f h1
  rw [h3, h4, hc, List.getElem?_eq_getElem hx] at g
  obtain ⟨y, e, _, wf⟩ := DataW.trod_int hu g
  exact ⟨y, one_at e, wf⟩
theorem fld_text {n i : Nat} {fs : Array Field} {cs : List Value} {xs : List (DataW H × List MemPlace)} {t0 : TypeId} (hg : ∀ (i : Nat) (f : Field), fs[i]? = some f → DataW.trod enc P w base spare held n f.type ((cs.drop f.offset).take (P.cellsOf f.type)) = xs[i]?)
    (hf : fs[i]?.map (fun f => (f.offset, f.type)) = some (i, t0)) (hx : i < xs.length) (hc : P.cellsOf t0 = 1) (hu : P.underlying t0 = some .string) : ∃ y : ByteArray, cs[i]? = some (.string y) ∧ y.size ≤ maxLen := by
  obtain ⟨f, h1, h2⟩ := Option.map_eq_some_iff.1 hf
  obtain ⟨h3, h4⟩ := Prod.mk.inj h2
  have g := hg i f h1
  rw [h3, h4, hc, List.getElem?_eq_getElem hx] at g
  obtain ⟨y, e, _, wf⟩ := DataW.trod_string hu g
  exact ⟨y, one_at e, wf⟩
end
end Go.Proofs.Ytfkgeefoknaldaa
namespace Go.Proofs.Ytfkgeefoknaldaa
open Go.ChangeShapes Go.WideShapes Go.ChangeAt Go.RowKit

/-- the row at ao holds the numbers L -/
def NL (w : World) (ao : Option Addr) (L : List Int) : Prop := ∀ i (h : i < L.length), (∃ bk off, ao = some ⟨bk, off, none⟩ ∧ w.cell? ⟨bk, off + i, none⟩ = some (.int .i64 L[i])) ∧ (Lit.int .i64 L[i]).wf = true
theorem NL.below {w w' : World} {ao : Option Addr} {L : List Int} (h : NL w ao L) (hb : Below w.heap.size w w') : NL w' ao L := by
  intro i hi
  obtain ⟨⟨bk, off, h1, h2⟩, h5⟩ := h i hi
  exact ⟨⟨bk, off, h1, cellB hb (block_lt_of_cell h2) h2⟩, h5⟩
section
variable {H : Type} {enc : TypeId × Value → H} {P : Program} {w : World} {base : Nat} {spare : Nat → Bool} {held : Bool}
theorem open_nums {r : Reach} {b0 : Nat} {t e : TypeId} {v : Value} {d : DataW H} {p : List MemPlace} (ht : P.underlying t = some (.slice e)) (he : P.underlying e = some (.int .i64)) (hc : P.cellsOf e = 1)
    (hv : Value.okWide P w r b0 t v) (h : DataW.Trod enc P w base spare held t v d p) :
    ∃ ao cap L, v = .slice ao L.length cap ∧ L.length ≤ maxLen ∧ NL w ao L := by
  obtain ⟨a0, n0, k0, rfl⟩ := okWide_slice ht hv
  obtain ⟨fuel, hf⟩ := h
  simp only [Value.cells] at hf
  rcases Deep.open_slice ht hf with ⟨h0, _⟩ | ⟨a, len, cap, m, n, D, Pl, hcs, _, hl, hm, hmm, _, hi⟩
  · simp at h0
    obtain ⟨rfl, rfl, rfl⟩ := h0
    exact ⟨none, 0, [], rfl, Nat.zero_le _, fun i hi => absurd hi (Nat.not_lt_zero i)⟩
  simp at hcs
  obtain ⟨rfl, rfl, rfl⟩ := hcs
  have hlm : n0 ≤ m := by rw [hmm]; split <;> omega
  rw [hc] at hi
  have each : ∀ i, i < n0 → ∃ x : Int, w.cell? (a.add (i * 1)) = some (.int .i64 x) ∧ (Lit.int .i64 x).wf = true := by
    intro i hin
    obtain ⟨cs, hcl, htr⟩ := hi i (by omega)
    obtain ⟨_, hlen, hat⟩ := World.cells?_some hcl
    match cs, hlen with
    | [x0], _ =>
      obtain ⟨q0, e0, _, wf0⟩ := DataW.trod_int he htr
      simp at e0
      subst e0
      have a0 := hat 0 (by omega)
      rw [Deep.add_add] at a0
      exact ⟨q0, a0, wf0⟩
  obtain ⟨F, hF⟩ := Deep.choose_lt each
  refine ⟨some a, k0, (List.range n0).map F, by simp, by simp; omega, fun i hi => ?_⟩
  have hin : i < n0 := by simpa using hi
  rw [List.getElem_map, List.getElem_range]
  obtain ⟨b0, ok⟩ := hF i hin
  obtain ⟨z0, _⟩ := hF 0 (by omega)
  have hs := cell_spot z0
  obtain ⟨bk, off, sp⟩ := a
  rw [show ((⟨bk, off, sp⟩ : Addr).add (0 * 1)) = ⟨bk, off, sp⟩ from rfl] at hs
  simp only at hs
  subst hs
  rw [addr_plus, Nat.mul_one] at b0
  exact ⟨⟨bk, off, rfl, b0⟩, ok⟩
end
end Go.Proofs.Ytfkgeefoknaldaa
namespace Go.Proofs.Ytfkgeefoknaldaa
open Go.RowKit Go.Maps
set_option linter.unusedVariables false
theorem one_cells {P : Program} {k : TypeId} {f0 : Field} (hk : P.underlying k = some (.struct #[f0])) (hc : P.cellsOf k = 1) {v : Value} (h : v.formed P k = true) : ∃ x, v = .agg #[x] := by
  cases v with
  | agg cs =>
    simp only [Value.formed, hk, hc, beq_iff_eq] at h
    obtain ⟨l⟩ := cs
    match l, h with
    | [x], _ => exact ⟨x, rfl⟩
  | _ => simp [Value.formed, hk] at h
theorem key_one_inv {P : Program} {k ti : TypeId} {f0 : Field} (hk : P.underlying k = some (.struct #[f0])) (hc : P.cellsOf k = 1) (hn : (f0.name != "_") = true) (h0 : (f0.offset, f0.type) = (0, ti)) (ci : P.cellsOf ti = 1) (ui : P.underlying ti = some (.int .i64))
    (hkt : P.keyType k = true) {n : Nat} (hs : P.types.size = n + 1) {v : Value} {kl : Lit} (h : keyOf P k v = some kl) : ∃ u, v = .agg #[.int .i64 u] ∧ (Lit.int .i64 u).wf = true := by
  have e0 : f0.offset = 0 := congrArg Prod.fst h0
  have e1 : f0.type = ti := congrArg Prod.snd h0
  unfold keyOf at h
  rw [hk] at h
  simp only [hkt, Bool.true_and] at h
  split at h
  · next hf =>
    obtain ⟨x, rfl⟩ := one_cells hk hc hf
    rw [hs] at h
    simp only [Value.cells] at h
    unfold Program.keyLits at h
    rw [hk] at h
    simp [hc, hn, e0, e1, ci] at h
    unfold Program.keyLits at h
    rw [ui] at h
    cases x with
    | int q a =>
      by_cases hq : q = IntKind.i64 ∧ (Lit.int .i64 a).wf = true
      · obtain ⟨rfl, h1⟩ := hq
        exact ⟨a, rfl, h1⟩
      · simp [hq] at h
    | _ => simp at h
  · cases h
end Go.Proofs.Ytfkgeefoknaldaa
