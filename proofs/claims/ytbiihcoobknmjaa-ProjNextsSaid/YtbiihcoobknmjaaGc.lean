/- A slice that was handed over, whose elements are structs of two whole numbers and a text: what its cells hold. No conditions. A slice of whole numbers that was handed over: what its cells hold. No conditions. Slices of slices of whole numbers, and a projection that was handed over by value: what their cells hold. No conditions. Slices of whole numbers, and slices of such slices, that a call makes for itself by append. No conditions. -/
import Derived.Test.YtbiihcoobknmjaaGb
import Derived.Deep.Slices
import Derived.Test.YtbiihcoobknmjaaGa
import Derived.Maps.AppendAt
import Derived.Laws.OwnMore
import Derived.OwnWalk
set_option linter.unusedVariables false
namespace Go.Proofs.Ytbiihcoobknmjaa
open Go.ChangeShapes Go.WideShapes Go.ChangeAt Go.RowKit

/-- an element: two numbers and a text -/
structure Fld where
  n : Int
  v : Int
  s : ByteArray
instance : Inhabited Fld := ⟨⟨0, 0, ⟨#[]⟩⟩⟩
theorem addr_plus (b o n : Nat) : (⟨b, o, none⟩ : Addr).add n = ⟨b, o + n, none⟩ := by
  unfold Addr.add
  split
  · next h => rw [h]; rfl
  · rfl
/-- element i of the row at ao in the world w -/
def fldAt (w : World) (ao : Option Addr) (i : Nat) (f : Fld) : Prop :=
  ∃ bk off, ao = some ⟨bk, off, none⟩ ∧ w.cell? ⟨bk, off + i * 3, none⟩ = some (.int .i64 f.n) ∧ w.cell? ⟨bk, off + i * 3 + 1, none⟩ = some (.int .i64 f.v) ∧ w.cell? ⟨bk, off + i * 3 + 2, none⟩ = some (.string f.s)
def fldOk (f : Fld) : Prop := (Lit.int .i64 f.n).wf = true ∧ (Lit.int .i64 f.v).wf = true ∧ f.s.size ≤ maxLen
/-- the row holds the list L -/
def FL (w : World) (ao : Option Addr) (L : List Fld) : Prop := ∀ i (h : i < L.length), fldAt w ao i L[i] ∧ fldOk L[i]
theorem FL.below {w w' : World} {ao : Option Addr} {L : List Fld} (h : FL w ao L) (hb : Below w.heap.size w w') : FL w' ao L := by
  intro i hi
  obtain ⟨⟨bk, off, h1, h2, h3, h4⟩, h5⟩ := h i hi
  exact ⟨⟨bk, off, h1, (hb.cell (p := ⟨bk, _, none⟩) (block_lt_of_cell h2)).trans h2, (hb.cell (p := ⟨bk, _, none⟩) (block_lt_of_cell h3)).trans h3, (hb.cell (p := ⟨bk, _, none⟩) (block_lt_of_cell h4)).trans h4⟩, h5⟩
theorem cell_spot {w : World} {a : Addr} {v : Value} (h : w.cell? a = some v) : a.spot = none := by
  unfold World.cell? at h
  split at h
  · split at h
    · cases h
    · next hs => simpa using hs
  · cases h
section
variable {H : Type} {enc : TypeId × Value → H} {P : Program} {w : World} {base : Nat} {spare : Nat → Bool} {held : Bool}
theorem open_flds {r : Reach} {b0 : Nat} {t e t0 t1 t2 : TypeId} {f0 f1 f2 : Field} {v : Value} {d : DataW H} {p : List MemPlace} (ht : P.underlying t = some (.slice e)) (he : P.underlying e = some (.struct #[f0, f1, f2])) (hc : P.cellsOf e = 3)
    (h0 : (f0.offset, f0.type) = (0, t0)) (h1 : (f1.offset, f1.type) = (1, t1)) (h2 : (f2.offset, f2.type) = (2, t2)) (c0 : P.cellsOf t0 = 1) (c1 : P.cellsOf t1 = 1) (c2 : P.cellsOf t2 = 1)
    (u0 : P.underlying t0 = some (.int .i64)) (u1 : P.underlying t1 = some (.int .i64)) (u2 : P.underlying t2 = some .string)
    (hv : Value.okWide P w r b0 t v) (h : DataW.Trod enc P w base spare held t v d p) :
    ∃ ao cap L, v = .slice ao L.length cap ∧ L.length ≤ maxLen ∧ FL w ao L := by
  obtain ⟨a0, n0, k0, rfl⟩ := okWide_slice ht hv
  obtain ⟨fuel, hf⟩ := h
  simp only [Value.cells] at hf
  rcases Deep.open_slice ht hf with ⟨h0, _⟩ | ⟨a, len, cap, m, n, D, Pl, hcs, _, hl, hm, hmm, _, hi⟩
  · simp at h0
    obtain ⟨rfl, rfl, rfl⟩ := h0
    exact ⟨none, 0, [], rfl, Nat.zero_le _, fun i hi => absurd hi (Nat.not_lt_zero i)⟩
  simp at hcs
  obtain ⟨rfl, rfl, rfl⟩ := hcs
  have hlm : n0 ≤ m := by rw [hmm]; split <;> omega
  rw [hc] at hi
  have each : ∀ i, i < n0 → ∃ f : Fld, (w.cell? (a.add (i * 3)) = some (.int .i64 f.n) ∧ w.cell? (a.add (i * 3 + 1)) = some (.int .i64 f.v) ∧ w.cell? (a.add (i * 3 + 2)) = some (.string f.s)) ∧ fldOk f := by
    intro i hin
    obtain ⟨cs, hcl, htr⟩ := hi i (by omega)
    obtain ⟨_, hlen, hat⟩ := World.cells?_some hcl
    obtain ⟨xs, n', _, _, _, hxl, hg⟩ := DataW.trod_struct he htr
    match cs, hlen with
    | [x0, x1, x2], _ =>
      match xs, hxl with
      | [y0, y1, y2], _ =>
        simp only [Prod.mk.injEq] at h0 h1 h2
        have g0 := hg 0 f0 rfl
        have g1 := hg 1 f1 rfl
        have g2 := hg 2 f2 rfl
        rw [h0.1, h0.2, c0] at g0
        rw [h1.1, h1.2, c1] at g1
        rw [h2.1, h2.2, c2] at g2
        obtain ⟨q0, e0, _, wf0⟩ := DataW.trod_int u0 g0
        obtain ⟨q1, e1, _, wf1⟩ := DataW.trod_int u1 g1
        obtain ⟨q2, e2, _, wf2⟩ := DataW.trod_string u2 g2
        simp at e0 e1 e2
        subst e0 e1 e2
        have a0 := hat 0 (by omega)
        have a1 := hat 1 (by omega)
        have a2 := hat 2 (by omega)
        rw [Deep.add_add] at a0 a1 a2
        exact ⟨⟨q0, q1, q2⟩, ⟨a0, a1, a2⟩, wf0, wf1, wf2⟩
  obtain ⟨F, hF⟩ := Deep.choose_lt each
  refine ⟨some a, k0, (List.range n0).map F, by simp, by simp; omega, fun i hi => ?_⟩
  have hin : i < n0 := by simpa using hi
  rw [List.getElem_map, List.getElem_range]
  obtain ⟨⟨b0, b1, b2⟩, ok⟩ := hF i hin
  obtain ⟨⟨z0, _, _⟩, _⟩ := hF 0 (by omega)
  have hs := cell_spot z0
  obtain ⟨bk, off, sp⟩ := a
  rw [show ((⟨bk, off, sp⟩ : Addr).add (0 * 3)) = ⟨bk, off, sp⟩ from rfl] at hs
  simp only at hs
  subst hs
  rw [addr_plus] at b0 b1 b2
  rw [← Nat.add_assoc] at b1 b2
  exact ⟨⟨bk, off, rfl, b0, b1, b2⟩, ok⟩
end
end Go.Proofs.Ytbiihcoobknmjaa
namespace Go.Proofs.Ytbiihcoobknmjaa
open Go.ChangeShapes Go.WideShapes Go.ChangeAt Go.RowKit

/-- the row at ao holds the numbers L -/
def NL (w : World) (ao : Option Addr) (L : List Int) : Prop := ∀ i (h : i < L.length), (∃ bk off, ao = some ⟨bk, off, none⟩ ∧ w.cell? ⟨bk, off + i, none⟩ = some (.int .i64 L[i])) ∧ (Lit.int .i64 L[i]).wf = true
theorem NL.below {w w' : World} {ao : Option Addr} {L : List Int} (h : NL w ao L) (hb : Below w.heap.size w w') : NL w' ao L := by
  intro i hi
  obtain ⟨⟨bk, off, h1, h2⟩, h5⟩ := h i hi
  exact ⟨⟨bk, off, h1, cellB hb (block_lt_of_cell h2) h2⟩, h5⟩
section
variable {H : Type} {enc : TypeId × Value → H} {P : Program} {w : World} {base : Nat} {spare : Nat → Bool} {held : Bool}
theorem open_nums {r : Reach} {b0 : Nat} {t e : TypeId} {v : Value} {d : DataW H} {p : List MemPlace} (ht : P.underlying t = some (.slice e)) (he : P.underlying e = some (.int .i64)) (hc : P.cellsOf e = 1)
    (hv : Value.okWide P w r b0 t v) (h : DataW.Trod enc P w base spare held t v d p) :
    ∃ ao cap L, v = .slice ao L.length cap ∧ L.length ≤ maxLen ∧ NL w ao L := by
  obtain ⟨a0, n0, k0, rfl⟩ := okWide_slice ht hv
  obtain ⟨fuel, hf⟩ := h
  simp only [Value.cells] at hf
  rcases Deep.open_slice ht hf with ⟨h0, _⟩ | ⟨a, len, cap, m, n, D, Pl, hcs, _, hl, hm, hmm, _, hi⟩
  · simp at h0
    obtain ⟨rfl, rfl, rfl⟩ := h0
    exact ⟨none, 0, [], rfl, Nat.zero_le _, fun i hi => absurd hi (Nat.not_lt_zero i)⟩
  simp at hcs
  obtain ⟨rfl, rfl, rfl⟩ := hcs
  have hlm : n0 ≤ m := by rw [hmm]; split <;> omega
  rw [hc] at hi
  have each : ∀ i, i < n0 → ∃ x : Int, w.cell? (a.add (i * 1)) = some (.int .i64 x) ∧ (Lit.int .i64 x).wf = true := by
    intro i hin
    obtain ⟨cs, hcl, htr⟩ := hi i (by omega)
    obtain ⟨_, hlen, hat⟩ := World.cells?_some hcl
    match cs, hlen with
    | [x0], _ =>
      obtain ⟨q0, e0, _, wf0⟩ := DataW.trod_int he htr
      simp at e0
      subst e0
      have a0 := hat 0 (by omega)
      rw [Deep.add_add] at a0
      exact ⟨q0, a0, wf0⟩
  obtain ⟨F, hF⟩ := Deep.choose_lt each
  refine ⟨some a, k0, (List.range n0).map F, by simp, by simp; omega, fun i hi => ?_⟩
  have hin : i < n0 := by simpa using hi
  rw [List.getElem_map, List.getElem_range]
  obtain ⟨b0, ok⟩ := hF i hin
  obtain ⟨z0, _⟩ := hF 0 (by omega)
  have hs := cell_spot z0
  obtain ⟨bk, off, sp⟩ := a
  rw [show ((⟨bk, off, sp⟩ : Addr).add (0 * 1)) = ⟨bk, off, sp⟩ from rfl] at hs
  simp only at hs
  subst hs
  rw [addr_plus, Nat.mul_one] at b0
  exact ⟨⟨bk, off, rfl, b0⟩, ok⟩
end
end Go.Proofs.Ytbiihcoobknmjaa
namespace Go.Proofs.Ytbiihcoobknmjaa
open Go.ChangeShapes Go.WideShapes Go.ChangeAt Go.RowKit

/-- the row at ao holds the numbers l; a slice that is nil has no room -/
def NLI (w : World) (ao : Option Addr) (cap : Nat) (l : List Int) : Prop := NL w ao l ∧ (ao = none → cap = 0) ∧ l.length ≤ cap
theorem NL.nil (w : World) (ao : Option Addr) : NL w ao [] := fun i h => absurd h (Nat.not_lt_zero i)
theorem NLI.nil (w : World) : NLI w none 0 [] := ⟨NL.nil w none, fun _ => rfl, Nat.le_refl _⟩
theorem NLI.below {w w' : World} {ao : Option Addr} {cap : Nat} {l : List Int} (h : NLI w ao cap l) (hb : Below w.heap.size w w') : NLI w' ao cap l := ⟨h.1.below hb, h.2⟩
theorem NLI.of_none {w : World} {cap : Nat} {l : List Int} (h : NLI w none cap l) : l = [] ∧ cap = 0 := by
  obtain ⟨h1, h2, h3⟩ := h
  cases l with
  | nil => exact ⟨rfl, h2 rfl⟩
  | cons x l => have := h2 rfl; simp at h3; omega
theorem NLI.at {w : World} {ao : Option Addr} {cap : Nat} {l : List Int} (h : NLI w ao cap l) (i : Nat) (hi : i < l.length) : ∃ bk off, ao = some ⟨bk, off, none⟩ ∧ w.cell? ⟨bk, off + i, none⟩ = some (.int .i64 l[i]) := (h.1 i hi).1
theorem NLI.rng {w : World} {ao : Option Addr} {cap : Nat} {l : List Int} (h : NLI w ao cap l) (i : Nat) (hi : i < l.length) : -9223372036854775808 ≤ l[i] ∧ l[i] ≤ 9223372036854775807 := i64_of_wf (h.1 i hi).2
/-- the row at ao holds slices, whose rows hold the lists of L -/
def CL (w : World) (ao : Option Addr) (L : List (List Int)) : Prop := ∀ i (h : i < L.length), ∃ bk off ai ci, ao = some ⟨bk, off, none⟩ ∧ w.cell? ⟨bk, off + i, none⟩ = some (.slice ai L[i].length ci) ∧ NLI w ai ci L[i]
theorem CL.nil (w : World) (ao : Option Addr) : CL w ao [] := fun i h => absurd h (Nat.not_lt_zero i)
theorem CL.below {w w' : World} {ao : Option Addr} {L : List (List Int)} (h : CL w ao L) (hb : Below w.heap.size w w') : CL w' ao L := by
  intro i hi
  obtain ⟨bk, off, ai, ci, h1, h2, h3⟩ := h i hi
  exact ⟨bk, off, ai, ci, h1, cellB hb (block_lt_of_cell h2) h2, h3.below hb⟩
/-- a list of whole numbers, all of 64 bits -/
def i64L (l : List Int) : Prop := ∀ u ∈ l, -9223372036854775808 ≤ u ∧ u ≤ 9223372036854775807
theorem NLI.i64 {w : World} {ao : Option Addr} {cap : Nat} {l : List Int} (h : NLI w ao cap l) : i64L l := by
  intro u hu
  obtain ⟨i, hi, rfl⟩ := List.getElem_of_mem hu
  exact h.rng i hi
section
variable {H : Type} {enc : TypeId × Value → H} {P : Program} {w : World} {base : Nat} {spare : Nat → Bool} {held : Bool}
theorem nums_cs {n : Nat} {cs : List Value} {y : DataW H × List MemPlace} {t e : TypeId} (ht : P.underlying t = some (.slice e)) (he : P.underlying e = some (.int .i64)) (hc : P.cellsOf e = 1)
    (hf : DataW.trod enc P w base spare held n t cs = some y) : ∃ ao cap L, cs = [.slice ao L.length cap] ∧ NLI w ao cap L ∧ L.length ≤ maxLen := by
  rcases Deep.open_slice ht hf with ⟨h0, _⟩ | ⟨a, len, cap, m, n, D, Pl, hcs, _, hl, hm, hmm, _, hi⟩
  · exact ⟨none, 0, [], h0, NLI.nil w, Nat.zero_le _⟩
  subst hcs
  have hlm : len ≤ m := by rw [hmm]; split <;> omega
  rw [hc] at hi
  have each : ∀ i, i < len → ∃ x : Int, w.cell? (a.add (i * 1)) = some (.int .i64 x) ∧ (Lit.int .i64 x).wf = true := by
    intro i hin
    obtain ⟨cs, hcl, htr⟩ := hi i (by omega)
    obtain ⟨_, hlen, hat⟩ := World.cells?_some hcl
    match cs, hlen with
    | [x0], _ =>
      obtain ⟨q0, e0, _, wf0⟩ := DataW.trod_int he htr
      simp at e0
      subst e0
      have a0 := hat 0 (by omega)
      rw [Deep.add_add] at a0
      exact ⟨q0, a0, wf0⟩
  obtain ⟨F, hF⟩ := Deep.choose_lt each
  refine ⟨some a, cap, (List.range len).map F, by simp, ⟨fun i hi => ?_, (fun h => by cases h), by simpa using hl⟩, by simp; omega⟩
  have hin : i < len := by simpa using hi
  rw [List.getElem_map, List.getElem_range]
  obtain ⟨b0, ok⟩ := hF i hin
  obtain ⟨z0, _⟩ := hF 0 (by omega)
  have hs := cell_spot z0
  obtain ⟨bk, off, sp⟩ := a
  rw [show ((⟨bk, off, sp⟩ : Addr).add (0 * 1)) = ⟨bk, off, sp⟩ from rfl] at hs
  simp only at hs
  subst hs
  rw [addr_plus, Nat.mul_one] at b0
  exact ⟨⟨bk, off, rfl, b0⟩, ok⟩
theorem chains_cs {n : Nat} {cs : List Value} {y : DataW H × List MemPlace} {t e q : TypeId} (ht : P.underlying t = some (.slice e)) (he : P.underlying e = some (.slice q)) (hq : P.underlying q = some (.int .i64)) (ce : P.cellsOf e = 1) (cq : P.cellsOf q = 1)
    (hf : DataW.trod enc P w base spare held n t cs = some y) : ∃ ao cap L, cs = [.slice ao L.length cap] ∧ CL w ao L ∧ (ao = none → cap = 0) ∧ L.length ≤ cap ∧ L.length ≤ maxLen ∧ ∀ i (h : i < L.length), L[i].length ≤ maxLen := by
  rcases Deep.open_slice ht hf with ⟨h0, _⟩ | ⟨a, len, cap, m, n, D, Pl, hcs, _, hl, hm, hmm, _, hi⟩
  · exact ⟨none, 0, [], h0, CL.nil _ _, fun _ => rfl, Nat.le_refl _, Nat.zero_le _, fun i hi => absurd hi (Nat.not_lt_zero i)⟩
  subst hcs
  have hlm : len ≤ m := by rw [hmm]; split <;> omega
  rw [ce] at hi
  have each : ∀ i, i < len → ∃ f : Option Addr × Nat × List Int, w.cell? (a.add (i * 1)) = some (.slice f.1 f.2.2.length f.2.1) ∧ NLI w f.1 f.2.1 f.2.2 ∧ f.2.2.length ≤ maxLen := by
    intro i hin
    obtain ⟨cs, hcl, htr⟩ := hi i (by omega)
    obtain ⟨_, hlen, hat⟩ := World.cells?_some hcl
    obtain ⟨ai, ci, l, hcs, hN, hm2⟩ := nums_cs he hq cq htr
    subst hcs
    have a0 := hat 0 (by simp)
    rw [Deep.add_add] at a0
    exact ⟨(ai, ci, l), a0, hN, hm2⟩
  obtain ⟨F, hF⟩ := Deep.choose_lt each
  refine ⟨some a, cap, (List.range len).map (fun i => (F i).2.2), by simp, fun i hi => ?_, (fun h => by cases h), by simpa using hl, by simp; omega, fun i hi => ?_⟩
  · have hin : i < len := by simpa using hi
    rw [List.getElem_map, List.getElem_range]
    obtain ⟨b0, ok, _⟩ := hF i hin
    obtain ⟨z0, _⟩ := hF 0 (by omega)
    have hs := cell_spot z0
    obtain ⟨bk, off, sp⟩ := a
    rw [show ((⟨bk, off, sp⟩ : Addr).add (0 * 1)) = ⟨bk, off, sp⟩ from rfl] at hs
    simp only at hs
    subst hs
    rw [addr_plus, Nat.mul_one] at b0
    exact ⟨bk, off, _, _, rfl, b0, ok⟩
  · have hin : i < len := by simpa using hi
    rw [List.getElem_map, List.getElem_range]
    exact (hF i hin).2.2
theorem okWide_str {r : Reach} {b0 : Nat} {t : TypeId} {fs : Array Field} {v : Value} (ht : P.underlying t = some (.struct fs)) (h : Value.okWide P w r b0 t v) : ∃ cs, v = .agg cs ∧ cs.size = P.cellsOf t := by
  simp only [Value.okWide, ht] at h
  obtain ⟨cs, h1, h2, _⟩ := h
  exact ⟨cs, h1, h2⟩
/-- a projection that was handed over -/
theorem open_proj {r : Reach} {b0 : Nat} {t ti tc te : TypeId} {g0 g1 : Field} {v : Value} {d : DataW H} {p : List MemPlace} (ht : P.underlying t = some (.struct #[g0, g1])) (hc : P.cellsOf t = 2)
    (h0 : (g0.offset, g0.type) = (0, ti)) (h1 : (g1.offset, g1.type) = (1, tc)) (ci : P.cellsOf ti = 1) (cc : P.cellsOf tc = 1)
    (ui : P.underlying ti = some (.int .i64)) (uc : P.underlying tc = some (.slice te)) (ue : P.underlying te = some (.slice ti)) (ce : P.cellsOf te = 1)
    (hv : Value.okWide P w r b0 t v) (h : DataW.Trod enc P w base spare held t v d p) :
    ∃ ep ao cap L, v = .agg #[.int .i64 ep, .slice ao L.length cap] ∧ (Lit.int .i64 ep).wf = true ∧ CL w ao L ∧ (ao = none → cap = 0) ∧ L.length ≤ cap ∧ L.length ≤ maxLen ∧ ∀ i (h : i < L.length), L[i].length ≤ maxLen := by
  obtain ⟨A, rfl, hsz⟩ := okWide_str ht hv
  obtain ⟨fuel, hf⟩ := h
  obtain ⟨xs, n, _, _, hl, hxl, hg⟩ := DataW.trod_struct ht hf
  simp only [Value.cells] at hl hg
  have hxl2 : xs.length = 2 := hxl
  simp only [Prod.mk.injEq] at h0 h1
  have a0 := hg 0 g0 rfl
  have a1 := hg 1 g1 rfl
  rw [h0.1, h0.2, ci, List.getElem?_eq_getElem (by omega)] at a0
  rw [h1.1, h1.2, cc, List.getElem?_eq_getElem (by omega)] at a1
  obtain ⟨ep, e0, _, wf⟩ := DataW.trod_int ui a0
  obtain ⟨ao, cap, L, e1, h2, h3, h4, h5, h6⟩ := chains_cs uc ue ui ce ci a1
  refine ⟨ep, ao, cap, L, ?_, wf, h2, h3, h4, h5, h6⟩
  have hA : A.size = 2 := by rw [hsz, hc]
  obtain ⟨l⟩ := A
  match l, hA with
  | [x, y], _ =>
    simp at e0 e1
    rw [e0, e1]
end
end Go.Proofs.Ytbiihcoobknmjaa
namespace Go.Proofs.Ytbiihcoobknmjaa
open Go.RowKit

theorem int_info : (Try.prog.info? 3).map (fun i => (i.zero, i.size, i.bytes)) = some (some (.int .i64 0), 1, 8) := by kernel_rfl
theorem ints_info : (Try.prog.info? 28).map (fun i => (i.zero, i.size, i.bytes)) = some (some (.slice none 0 0), 1, 24) := by kernel_rfl
def wfL (l : List Int) : Prop := ∀ u ∈ l, (Lit.int .i64 u).wf = true
theorem wfL.nil : wfL [] := fun u h => by cases h
theorem wfL.append {l m : List Int} (h : wfL l) (k : wfL m) : wfL (l ++ m) := fun u hu => (List.mem_append.1 hu).elim (h u) (k u)
theorem wfL.one {u : Int} (h : (Lit.int .i64 u).wf = true) : wfL [u] := fun v hv => by rw [List.mem_singleton.1 hv]; exact h
theorem wfL.take {l : List Int} (h : wfL l) (k : Nat) : wfL (l.take k) := fun u hu => h u (List.mem_of_mem_take hu)
theorem wfL.drop {l : List Int} (h : wfL l) (k : Nat) : wfL (l.drop k) := fun u hu => h u (List.mem_of_mem_drop hu)
theorem NLI.wf {w : World} {ao : Option Addr} {cap : Nat} {l : List Int} (h : NLI w ao cap l) : wfL l := by
  intro u hu
  obtain ⟨i, hi, rfl⟩ := List.getElem_of_mem hu
  exact (h.1 i hi).2
/-- v is a row of the call's own that holds the numbers l -/
def OI (w : World) (B : Nat) (v : Value) (l : List Int) : Prop := w.ownsRow B 3 1 v l.length (l.map (Value.int .i64)) ∧ wfL l
theorem OI.nil (w : World) (B : Nat) : OI w B (.slice none 0 0) [] := ⟨World.ownsRow_nil _ _ _ _, wfL.nil⟩
theorem OI.kept {w w' : World} {B : Nat} {v : Value} {l : List Int} {row : Option Nat} (h : OI w B v l) (hg : w.grownBy w' row) (hne : v.ownBlock = none ∨ v.ownBlock ≠ row) : OI w' B v l := ⟨h.1.kept hg hne, h.2⟩
theorem OI.below {w w' : World} {B : Nat} {v : Value} {l : List Int} (h : OI w B v l) (hb : Below w.heap.size w w') : OI w' B v l :=
  ⟨(Kept.ofBelow hb (fun _ => True)).owns h.1 (fun _ _ => trivial), h.2⟩
theorem OI.lower {w : World} {B B' : Nat} {v : Value} {l : List Int} (h : OI w B v l) (hb : B' ≤ B) : OI w B' v l := by
  refine ⟨⟨h.1.1, ?_⟩, h.2⟩
  rcases h.1.2 with h2 | ⟨g, cap, cur, h3, h4, r⟩
  · exact .inl h2
  · exact .inr ⟨g, cap, cur, h3, Nat.le_trans hb h4, r⟩
theorem OI.form {w : World} {B : Nat} {v : Value} {l : List Int} (h : OI w B v l) : ∃ ao cap, v = .slice ao l.length cap ∧ NLI w ao cap l ∧ (∀ a, ao = some a → B ≤ a.block ∧ a.block < w.heap.size) ∧ v.ownBlock = ao.map (·.block) := by
  rcases h.1.2 with ⟨rfl, h0⟩ | ⟨g, cap, cur, rfl, hbg, hh, hnc, _, hcs, ht⟩
  · have : l = [] := List.eq_nil_of_length_eq_zero h0
    subst this
    exact ⟨none, 0, rfl, NLI.nil w, (fun a e => by cases e), rfl⟩
  · refine ⟨some ⟨g, 0, none⟩, cap, rfl, ⟨fun i hi => ?_, (fun e => by cases e), hnc⟩, (fun a e => by cases e; exact ⟨hbg, lt_of_block hh⟩), rfl⟩
    refine ⟨⟨g, 0, rfl, ?_⟩, h.2 _ (List.getElem_mem hi)⟩
    have h2 : (cur.toList.take (l.length * 1))[i]? = some (.int .i64 l[i]) := by
      rw [ht, List.getElem?_map, List.getElem?_eq_getElem hi]
      rfl
    rw [List.getElem?_take, if_pos (by omega)] at h2
    rw [Nat.zero_add, ← (by simpa using h2 : cur[i]? = some (.int .i64 l[i]))]
    simp [World.cell?, hh]
theorem OI.form2 {w : World} {B : Nat} {lo : Option Addr} {lc : Nat} {l : List Int} (h : OI w B (.slice lo l.length lc) l) : lo = none ∨ ∃ g, lo = some ⟨g, 0, none⟩ := by
  rcases h.1.2 with ⟨h1, _⟩ | ⟨g, cap, cur, h1, _⟩
  · exact .inl (Value.slice.inj h1).1
  · exact .inr ⟨g, (Value.slice.inj h1).1⟩
theorem NLI.news {w : World} {ad : Addr} {cap : Nat} {l : List Int} (h : NLI w (some ad) cap l) : ∀ (j : Nat) (u : Value), (l.map (Value.int .i64))[j]? = some u → w.cell? (ad.add j) = some u := by
  intro j u hj
  rw [List.getElem?_map] at hj
  by_cases hl : j < l.length
  · rw [List.getElem?_eq_getElem hl] at hj
    cases hj
    obtain ⟨bk2, off2, h1, h2⟩ := h.at j hl
    cases h1
    rw [addr_plus]
    exact h2
  · rw [List.getElem?_eq_none (by omega)] at hj
    cases hj
theorem nums_one (l : List Int) : ∀ u ∈ l.map (Value.int .i64), u.oneCell' = true := by
  intro u hu
  obtain ⟨s, _, rfl⟩ := List.mem_map.1 hu
  rfl
/-- a slice of numbers is appended to a row of the call's own -/
theorem run_app_ints (w : World) (ty : TypeId) {B : Nat} {v : Value} {D : List Int} (hown : OI w B v D) {ao : Option Addr} {cap : Nat} {l : List Int} (hN : NLI w ao cap l) (hz : D.length + l.length ≤ 1000000) (hB : B ≤ w.heap.size) :
    ∃ v' w', (Builtin.append_ #[28, 28] ty #[v, .slice ao l.length cap]).run Try.prog w = .ok v' w' ∧ OI w' B v' (D ++ l) ∧ w.grownBy w' v.ownBlock ∧ (v'.ownBlock = v.ownBlock ∨ v'.ownBlock = some w.heap.size) := by
  obtain ⟨i0, hi, hz0, hz1, hz2⟩ := info_parts int_info
  cases ao with
  | none =>
    obtain ⟨rfl, rfl⟩ := hN.of_none
    refine ⟨v, w, run_append_owned_none (P := Try.prog) (w := w) B 28 ty 3 i0 1 Try.underlying28 hi v _ _ hown.1, by rw [List.append_nil]; exact hown, ⟨rfl, rfl, rfl, Nat.le_refl _, fun _ _ _ => rfl⟩, .inl rfl⟩
  | some ad =>
    obtain ⟨v', w', hr, h1, h2, _, h4⟩ := run_append_own_at (P := Try.prog) w B 28 ty 3 i0 (.int .i64 0) 1 8 Try.underlying28 hi hz0 hz1 hz2 rfl (by decide) v D.length (D.map (Value.int .i64)) hown.1 ad l.length cap (l.map (Value.int .i64)) (by simp) hN.news (nums_one l) (by unfold maxLen; omega) (by omega) hB
    exact ⟨v', w', hr, ⟨by rw [List.length_append, List.map_append]; exact h1, hown.2.append hN.wf⟩, h2, h4⟩
theorem wpList_app_ints {ops : Array Oper} {rest : List Oper} {o : Oper} {a : Act} {w : World} {Q : Exit → Act → World → Prop} (hgd : o.guard = none) (s x : Operand)
    (ho : o.op = .call { callee := .builtin .append, args := #[s, x], argTypes := #[28, 28] }) {B : Nat} {v : Value} {D : List Int} (hs : a.eval s = v) (hown : OI w B v D)
    {ao : Option Addr} {cap : Nat} {l : List Int} {m : Nat} (hm : l.length = m) (hx : a.eval x = .slice ao m cap) (hN : NLI w ao cap l) (hz : D.length + l.length ≤ 1000000) (hB : B ≤ w.heap.size)
    (h : ∀ v' w', OI w' B v' (D ++ l) → w.grownBy w' v.ownBlock → (v'.ownBlock = v.ownBlock ∨ v'.ownBlock = some w.heap.size) → wpList Try.prog ops Q rest (a.put o.dst v') w') : wpList Try.prog ops Q (o :: rest) a w := by
  refine wpList_plain hgd fun K hK => ?_
  subst hm
  obtain ⟨v', w', hr, h2, h3, h4⟩ := run_app_ints w o.type hown hN hz hB
  unfold Oper.wp execOp
  simp only [ho, resolve, invoke, builtin, Sem.run_bind, Sem.run_pure, Result.andThen_ok, List.map_toArray, List.map_cons, List.map_nil, hs, hx, hr]
  exact hK _ _ (h v' w' h2 h3 h4)
theorem step_app_ints {ops : Array Oper} {o : Oper} {a : Act} {w : World} {K : Act → World → Prop} {Q : Exit → Act → World → Prop} {E : Prop} (hgd : o.guard = none) (s x : Operand)
    (ho : o.op = Op.call { callee := Callee.builtin Builtin.append, args := #[s, x], argTypes := #[28, 28] }) {B : Nat} {v : Value} {D : List Int} (hs : a.eval s = v) (hown : OI w B v D)
    {ao : Option Addr} {cap : Nat} {l : List Int} {m : Nat} (hm : l.length = m) (hx : a.eval x = .slice ao m cap) (hN : NLI w ao cap l) (hz : D.length + l.length ≤ 1000000) (hB : B ≤ w.heap.size)
    (h : ∀ v' w', OI w' B v' (D ++ l) → w.grownBy w' v.ownBlock → (v'.ownBlock = v.ownBlock ∨ v'.ownBlock = some w.heap.size) → K (a.put o.dst v') w') :
    if Region.wanted o (yielded ops a.tmps) = true then Oper.wp Try.prog o a w K Q else E := by
  have hw : Region.wanted o (yielded ops a.tmps) = true := by simp [Region.wanted, hgd]
  rw [if_pos hw]
  subst hm
  obtain ⟨v', w', hr, h2, h3, h4⟩ := run_app_ints w o.type hown hN hz hB
  unfold Oper.wp
  simp [execOp, ho, resolve, invoke, builtin, hs, hx, hr, Result.andThen]
  exact h v' w' h2 h3 h4
/-- a block of one number, as a slice -/
theorem NLI.made (w : World) (u : Int) (hu : (Lit.int .i64 u).wf = true) : NLI (w.alloc (.cells #[.int .i64 u] 3)) (some ⟨w.heap.size, 0, none⟩) 1 [u] := by
  refine ⟨fun i hi => ?_, (fun e => by cases e), Nat.le_refl _⟩
  obtain rfl : i = 0 := by simpa using hi
  exact ⟨⟨w.heap.size, 0, rfl, by simp⟩, hu⟩
theorem OI.made (w : World) {B : Nat} (hB : B ≤ w.heap.size) : OI (w.alloc (.cells #[] 3)) B (.slice (some ⟨w.heap.size, 0, none⟩) 0 0) [] :=
  ⟨World.ownsRow_made w #[] 0 hB (Nat.zero_le _) rfl, wfL.nil⟩
theorem OI.alloc {w : World} {B : Nat} {v : Value} {l : List Int} (h : OI w B v l) (x : Obj) : OI (w.alloc x) B v l := h.below ((Below.refl _ _).alloc (Nat.le_refl _) x)
theorem OI.drew {w : World} {B : Nat} {v : Value} {l : List Int} (h : OI w B v l) : OI w.drew B v l := h.below (Below.refl _ _).drew
theorem NLI.alloc {w : World} {ao : Option Addr} {cap : Nat} {l : List Int} (h : NLI w ao cap l) (x : Obj) : NLI (w.alloc x) ao cap l := h.below ((Below.refl _ _).alloc (Nat.le_refl _) x)
theorem NLI.drew {w : World} {ao : Option Addr} {cap : Nat} {l : List Int} (h : NLI w ao cap l) : NLI w.drew ao cap l := h.below (Below.refl _ _).drew
theorem NLI.take {w : World} {ao : Option Addr} {cap : Nat} {l : List Int} (h : NLI w ao cap l) (k : Nat) (hk : k ≤ l.length) : NLI w ao cap (l.take k) := by
  refine ⟨fun i hi => ?_, h.2.1, by rw [List.length_take]; have := h.2.2; omega⟩
  rw [List.length_take] at hi
  have := h.1 i (by omega)
  rw [List.getElem_take]
  exact this
theorem NLI.drop {w : World} {b o : Nat} {cap : Nat} {l : List Int} (h : NLI w (some ⟨b, o, none⟩) cap l) (k : Nat) : NLI w (some ⟨b, o + k, none⟩) (cap - k) (l.drop k) := by
  refine ⟨fun i hi => ?_, (fun e => by cases e), by rw [List.length_drop]; have := h.2.2; omega⟩
  rw [List.length_drop] at hi
  obtain ⟨⟨bk, off, h1, h2⟩, h3⟩ := h.1 (k + i) (by omega)
  cases h1
  rw [List.getElem_drop]
  exact ⟨⟨b, o + k, rfl, by rw [Nat.add_assoc]; exact h2⟩, h3⟩
theorem NLI.grown {w w' : World} {ao : Option Addr} {cap : Nat} {l : List Int} {row : Option Nat} (h : NLI w ao cap l) (hg : w.grownBy w' row) (hne : ∀ a, ao = some a → row ≠ some a.block) : NLI w' ao cap l := by
  refine ⟨fun i hi => ?_, h.2⟩
  obtain ⟨⟨bk, off, h1, h2⟩, h3⟩ := h.1 i hi
  exact ⟨⟨bk, off, h1, hg.cell h2 (fun e => hne _ h1 e.symm)⟩, h3⟩

/-- v is a row of the call's own that holds slices of its own, whose rows hold the lists of L; no one of them in one block with v -/
def OC (w : World) (B : Nat) (v : Value) (L : List (List Int)) : Prop :=
  ∃ xs, w.ownsRow B 28 1 v L.length xs ∧ ∀ i (h : i < L.length), ∃ ai ci, xs[i]? = some (.slice ai L[i].length ci) ∧ NLI w ai ci L[i] ∧ ∀ a, ai = some a → B ≤ a.block ∧ a.block < w.heap.size ∧ v.ownBlock ≠ some a.block
theorem OC.nil (w : World) (B : Nat) : OC w B (.slice none 0 0) [] := ⟨[], World.ownsRow_nil _ _ _ _, fun i h => absurd h (Nat.not_lt_zero i)⟩
theorem OC.below {w w' : World} {B : Nat} {v : Value} {L : List (List Int)} (h : OC w B v L) (hb : Below w.heap.size w w') : OC w' B v L := by
  obtain ⟨xs, h1, h2⟩ := h
  refine ⟨xs, (Kept.ofBelow hb (fun _ => True)).owns h1 (fun _ _ => trivial), fun i hi => ?_⟩
  obtain ⟨ai, ci, h3, h4, h5⟩ := h2 i hi
  exact ⟨ai, ci, h3, h4.below hb, fun a e => ⟨(h5 a e).1, Nat.lt_of_lt_of_le (h5 a e).2.1 hb.size, (h5 a e).2.2⟩⟩
theorem OC.lt {w : World} {B : Nat} {v : Value} {L : List (List Int)} (h : OC w B v L) : ∀ k, v.ownBlock = some k → B ≤ k ∧ k < w.heap.size := by
  obtain ⟨xs, h1, _⟩ := h
  exact h1.lt
/-- one more slice behind it -/
theorem OC.snoc {w1 w2 : World} {B : Nat} {v v' : Value} {L : List (List Int)} {l : List Int} {xs : List Value} {ai : Option Addr} {ci : Nat} (h1 : w1.ownsRow B 28 1 v L.length xs)
    (h2 : ∀ i (h : i < L.length), ∃ ai ci, xs[i]? = some (.slice ai L[i].length ci) ∧ NLI w1 ai ci L[i] ∧ ∀ a, ai = some a → B ≤ a.block ∧ a.block < w1.heap.size ∧ v.ownBlock ≠ some a.block)
    (hN : NLI w1 ai ci l) (ha : ∀ a, ai = some a → B ≤ a.block ∧ a.block < w1.heap.size ∧ v.ownBlock ≠ some a.block)
    (hown : w2.ownsRow B 28 1 v' (L.length + 1) (xs ++ [.slice ai l.length ci])) (hg : w1.grownBy w2 v.ownBlock) (hat : v'.ownBlock = v.ownBlock ∨ v'.ownBlock = some w1.heap.size) :
    OC w2 B v' (L ++ [l]) := by
  have hx : xs.length = L.length := by have := h1.1; omega
  have far : ∀ a : Addr, a.block < w1.heap.size → v.ownBlock ≠ some a.block → v'.ownBlock ≠ some a.block := by
    intro a hl hne
    rcases hat with e | e
    · rw [e]; exact hne
    · rw [e]; intro e2; have e3 : w1.heap.size = a.block := Option.some.inj e2; omega
  refine ⟨xs ++ [.slice ai l.length ci], by rw [List.length_append]; exact hown, fun i hi => ?_⟩
  by_cases hil : i < L.length
  · obtain ⟨aj, cj, h3, h4, h5⟩ := h2 i hil
    have e : (L ++ [l])[i] = L[i] := List.getElem_append_left hil
    rw [e]
    refine ⟨aj, cj, by rw [List.getElem?_append_left (by omega)]; exact h3, h4.grown hg (fun a e2 => (h5 a e2).2.2), fun a e2 => ?_⟩
    obtain ⟨h6, h7, h8⟩ := h5 a e2
    exact ⟨h6, Nat.lt_of_lt_of_le h7 hg.size, far a h7 h8⟩
  · obtain rfl : i = L.length := by rw [List.length_append] at hi; simp at hi; omega
    have e : (L ++ [l])[L.length] = l := by simp
    rw [e]
    refine ⟨ai, ci, by rw [List.getElem?_append_right (by omega), hx]; simp, hN.grown hg (fun a e2 => (ha a e2).2.2), fun a e2 => ?_⟩
    obtain ⟨h6, h7, h8⟩ := ha a e2
    exact ⟨h6, Nat.lt_of_lt_of_le h7 hg.size, far a h7 h8⟩
/-- the slices of it, as they are read -/
theorem OC.form {w : World} {B : Nat} {v : Value} {L : List (List Int)} (h : OC w B v L) : ∃ ao cap, v = .slice ao L.length cap ∧ CL w ao L ∧ (ao = none → cap = 0) ∧ L.length ≤ cap ∧ ∀ a, ao = some a → B ≤ a.block ∧ a.block < w.heap.size := by
  obtain ⟨xs, h1, h2⟩ := h
  rcases h1.2 with ⟨rfl, h0⟩ | ⟨g, cap, cur, rfl, hbg, hh, hnc, _, hcs, ht⟩
  · have : L = [] := List.eq_nil_of_length_eq_zero h0
    subst this
    exact ⟨none, 0, rfl, CL.nil _ _, fun _ => rfl, Nat.le_refl _, fun a e => by cases e⟩
  · refine ⟨some ⟨g, 0, none⟩, cap, rfl, fun i hi => ?_, (fun e => by cases e), hnc, fun a e => by cases e; exact ⟨hbg, lt_of_block hh⟩⟩
    obtain ⟨ai, ci, h3, h4, _⟩ := h2 i hi
    refine ⟨g, 0, ai, ci, rfl, ?_, h4⟩
    have h5 : (cur.toList.take (L.length * 1))[i]? = some (.slice ai L[i].length ci) := by rw [ht]; exact h3
    rw [List.getElem?_take, if_pos (by omega)] at h5
    rw [Nat.zero_add, ← (by simpa using h5 : cur[i]? = some (.slice ai L[i].length ci))]
    simp [World.cell?, hh]
theorem below_app {w w1 : World} {x : Obj} {row : Option Nat} (hg : (w.alloc x).grownBy w1 row) (hr : ∀ k, row = some k → w.heap.size ≤ k) : Below w.heap.size w w1 :=
  ((Below.refl _ _).alloc (Nat.le_refl _) x).grown hg (by simp) hr
theorem OC.apart {w w1 : World} {B : Nat} {v : Value} {L : List (List Int)} {a1 : Option Addr} (hO : OC w B v L) (hB : B ≤ w.heap.size) (hA : ∀ a, a1 = some a → w.heap.size ≤ a.block ∧ a.block < w1.heap.size) :
    ∀ b, a1 = some b → B ≤ b.block ∧ b.block < w1.heap.size ∧ v.ownBlock ≠ some b.block := by
  intro b e
  obtain ⟨h1, h2⟩ := hA b e
  exact ⟨by omega, h2, fun e2 => by have := (hO.lt _ e2).2; omega⟩
theorem cellK {S : Nat → Prop} {w w' : World} (h : Kept S w w') {b o : Nat} {v : Value} (hS : S b) (hc : w.cell? ⟨b, o, none⟩ = some v) : w'.cell? ⟨b, o, none⟩ = some v :=
  (World.cell?_of_block (a := ⟨b, o, none⟩) (h.block b hS (block_lt_of_cell hc))).trans hc
theorem NLI.keep {S : Nat → Prop} {w w' : World} {ao : Option Addr} {cap : Nat} {l : List Int} (h : NLI w ao cap l) (hk : Kept S w w') (hS : ∀ a, ao = some a → S a.block) : NLI w' ao cap l := by
  refine ⟨fun i hi => ?_, h.2⟩
  obtain ⟨⟨bk, off, h1, h2⟩, h3⟩ := h.1 i hi
  exact ⟨⟨bk, off, h1, cellK hk (hS _ h1) h2⟩, h3⟩
theorem OI.keep {S : Nat → Prop} {w w' : World} {B : Nat} {v : Value} {l : List Int} (h : OI w B v l) (hk : Kept S w w') (hS : ∀ k, B ≤ k → k < w.heap.size → S k) : OI w' B v l :=
  ⟨hk.owns h.1 (fun k e => hS k (h.1.lt k e).1 (h.1.lt k e).2), h.2⟩
theorem OC.keep {S : Nat → Prop} {w w' : World} {B : Nat} {v : Value} {L : List (List Int)} (h : OC w B v L) (hk : Kept S w w') (hS : ∀ k, B ≤ k → k < w.heap.size → S k) : OC w' B v L := by
  obtain ⟨xs, h1, h2⟩ := h
  refine ⟨xs, hk.owns h1 (fun k e => hS k (h1.lt k e).1 (h1.lt k e).2), fun i hi => ?_⟩
  obtain ⟨ai, ci, h3, h4, h5⟩ := h2 i hi
  exact ⟨ai, ci, h3, h4.keep hk (fun a e => hS _ (h5 a e).1 (h5 a e).2.1), fun a e => ⟨(h5 a e).1, Nat.lt_of_lt_of_le (h5 a e).2.1 hk.size, (h5 a e).2.2⟩⟩
theorem made_slice (w : World) (x : Value) (t : TypeId) : ∀ (j : Nat) (u : Value), [x][j]? = some u → (w.alloc (.cells #[x] t)).cell? ((⟨w.heap.size, 0, none⟩ : Addr).add j) = some u := by
  intro j u hj
  match j, hj with
  | 0, hj => cases hj; rw [show ((⟨w.heap.size, 0, none⟩ : Addr).add 0) = ⟨w.heap.size, 0, none⟩ from rfl, World.cell?_alloc_new]; rfl
  | j + 1, hj => simp at hj
/-- append(l, x): a slice x of numbers is put behind a row of the call's own; the walk has made a block of x alone -/
theorem wpList_app_chain {ops : Array Oper} {rest : List Oper} {o : Oper} {a : Act} {w : World} {Q : Exit → Act → World → Prop} (hgd : o.guard = none) (s x : Operand)
    (ho : o.op = .call { callee := .builtin .append, args := #[s, x], argTypes := #[22, 22] }) {B : Nat} {v : Value} {L : List (List Int)} (hs : a.eval s = v) (hown : OC w B v L)
    {ai : Option Addr} {ci : Nat} {l : List Int} (hx : a.eval x = .slice (some ⟨w.heap.size, 0, none⟩) 1 1) (hN : NLI w ai ci l) (ha : ∀ b, ai = some b → B ≤ b.block ∧ b.block < w.heap.size ∧ v.ownBlock ≠ some b.block) (hz : L.length + 1 ≤ 1000000) (hB : B ≤ w.heap.size)
    (h : ∀ v' w', OC w' B v' (L ++ [l]) → Below B w w' → wpList Try.prog ops Q rest (a.put o.dst v') w') : wpList Try.prog ops Q (o :: rest) a (w.alloc (.cells #[.slice ai l.length ci] 28)) := by
  obtain ⟨i0, hi, hz0, hz1, hz2⟩ := info_parts ints_info
  have hb1 : Below w.heap.size w (w.alloc (.cells #[.slice ai l.length ci] 28)) := (Below.refl _ _).alloc (Nat.le_refl _) _
  obtain ⟨xs, h1, h2⟩ := hown.below hb1
  refine wpList_append_own_at _ hgd s x 22 ho B 28 i0 (.slice none 0 0) 1 24 Try.underlying22 hi hz0 hz1 hz2 rfl (by decide) v L.length xs hs h1 ⟨w.heap.size, 0, none⟩ 1 1 [.slice ai l.length ci] hx rfl (made_slice w _ _) (fun u hu => by rw [List.mem_singleton.1 hu]; rfl) (by unfold maxLen; omega) (by omega) (Nat.le_trans hB hb1.size) ?_
  intro v' w' hown' hg _ hat
  refine h v' w' (OC.snoc h1 h2 (hN.below hb1) (fun b e => ?_) hown' hg hat) ?_
  · obtain ⟨h6, h7, h8⟩ := ha b e
    exact ⟨h6, Nat.lt_of_lt_of_le h7 hb1.size, h8⟩
  · exact (hb1.mono hB).grown hg (Nat.le_trans hB hb1.size) (fun k hk => (hown.lt k hk).1)
end Go.Proofs.Ytbiihcoobknmjaa
