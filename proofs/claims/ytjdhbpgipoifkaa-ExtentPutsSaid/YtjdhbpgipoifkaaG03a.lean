/- A slice that was handed over, whose elements are structs of two whole numbers and a text: what its cells hold. No conditions. -/
import Derived.Test.YtjdhbpgipoifkaaG02a
import Derived.Deep.Slices
import Derived.Test.YtjdhbpgipoifkaaG02b
set_option linter.unusedVariables false
namespace Go.Proofs.Ytjdhbpgipoifkaa
open Go.ChangeShapes Go.WideShapes Go.ChangeAt Go.RowKit

/-- an element: two numbers and a text -/
structure Fld where
  n : Int
  v : Int
  s : ByteArray
instance : Inhabited Fld := ⟨⟨0, 0, ⟨#[]⟩⟩⟩
theorem addr_plus (b o n : Nat) : (⟨b, o, none⟩ : Addr).add n = ⟨b, o + n, none⟩ := by
  unfold Addr.add
  split
  · next h => rw [h]; rfl
  · rfl
/-- element i of the row at ao in the world w -/
def fldAt (w : World) (ao : Option Addr) (i : Nat) (f : Fld) : Prop :=
  ∃ bk off, ao = some ⟨bk, off, none⟩ ∧ w.cell? ⟨bk, off + i * 3, none⟩ = some (.int .i64 f.n) ∧ w.cell? ⟨bk, off + i * 3 + 1, none⟩ = some (.int .i64 f.v) ∧ w.cell? ⟨bk, off + i * 3 + 2, none⟩ = some (.string f.s)
def fldOk (f : Fld) : Prop := (Lit.int .i64 f.n).wf = true ∧ (Lit.int .i64 f.v).wf = true ∧ f.s.size ≤ maxLen
/-- the row holds the list L -/
def FL (w : World) (ao : Option Addr) (L : List Fld) : Prop := ∀ i (h : i < L.length), fldAt w ao i L[i] ∧ fldOk L[i]
theorem FL.below {w w' : World} {ao : Option Addr} {L : List Fld} (h : FL w ao L) (hb : Below w.heap.size w w') : FL w' ao L := by
  intro i hi
  obtain ⟨⟨bk, off, h1, h2, h3, h4⟩, h5⟩ := h i hi
  exact ⟨⟨bk, off, h1, (hb.cell (p := ⟨bk, _, none⟩) (block_lt_of_cell h2)).trans h2, (hb.cell (p := ⟨bk, _, none⟩) (block_lt_of_cell h3)).trans h3, (hb.cell (p := ⟨bk, _, none⟩) (block_lt_of_cell h4)).trans h4⟩, h5⟩
theorem cell_spot {w : World} {a : Addr} {v : Value} (h : w.cell? a = some v) : a.spot = none := by
  unfold World.cell? at h
  split at h
  · split at h
    · cases h
    · next hs => simpa using hs
  · cases h
section
variable {H : Type} {enc : TypeId × Value → H} {P : Program} {w : World} {base : Nat} {spare : Nat → Bool} {held : Bool}
theorem open_flds {r : Reach} {b0 : Nat} {t e t0 t1 t2 : TypeId} {f0 f1 f2 : Field} {v : Value} {d : DataW H} {p : List MemPlace} (ht : P.underlying t = some (.slice e)) (he : P.underlying e = some (.struct #[f0, f1, f2])) (hc : P.cellsOf e = 3)
    (h0 : (f0.offset, f0.type) = (0, t0)) (h1 : (f1.offset, f1.type) = (1, t1)) (h2 : (f2.offset, f2.type) = (2, t2)) (c0 : P.cellsOf t0 = 1) (c1 : P.cellsOf t1 = 1) (c2 : P.cellsOf t2 = 1)
    (u0 : P.underlying t0 = some (.int .i64)) (u1 : P.underlying t1 = some (.int .i64)) (u2 : P.underlying t2 = some .string)
    (hv : Value.okWide P w r b0 t v) (h : DataW.Trod enc P w base spare held t v d p) :
    ∃ ao cap L, v = .slice ao L.length cap ∧ L.length ≤ maxLen ∧ FL w ao L := by
  obtain ⟨a0, n0, k0, rfl⟩ := okWide_slice ht hv
  obtain ⟨fuel, hf⟩ := h
  simp only [Value.cells] at hf
  rcases Deep.open_slice ht hf with ⟨h0, _⟩ | ⟨a, len, cap, m, n, D, Pl, hcs, _, hl, hm, hmm, _, hi⟩
  · simp at h0
    obtain ⟨rfl, rfl, rfl⟩ := h0
    exact ⟨none, 0, [], rfl, Nat.zero_le _, fun i hi => absurd hi (Nat.not_lt_zero i)⟩
  simp at hcs
  obtain ⟨rfl, rfl, rfl⟩ := hcs
  have hlm : n0 ≤ m := by rw [hmm]; split <;> omega
  rw [hc] at hi
  have each : ∀ i, i < n0 → ∃ f : Fld, (w.cell? (a.add (i * 3)) = some (.int .i64 f.n) ∧ w.cell? (a.add (i * 3 + 1)) = some (.int .i64 f.v) ∧ w.cell? (a.add (i * 3 + 2)) = some (.string f.s)) ∧ fldOk f := by
    intro i hin
    obtain ⟨cs, hcl, htr⟩ := hi i (by omega)
    obtain ⟨_, hlen, hat⟩ := World.cells?_some hcl
    obtain ⟨xs, n', _, _, _, hxl, hg⟩ := DataW.trod_struct he htr
    match cs, hlen with
    | [x0, x1, x2], _ =>
      match xs, hxl with
      | [y0, y1, y2], _ =>
        simp only [Prod.mk.injEq] at h0 h1 h2
        have g0 := hg 0 f0 rfl
        have g1 := hg 1 f1 rfl
        have g2 := hg 2 f2 rfl
        rw [h0.1, h0.2, c0] at g0
        rw [h1.1, h1.2, c1] at g1
        rw [h2.1, h2.2, c2] at g2
        obtain ⟨q0, e0, _, wf0⟩ := DataW.trod_int u0 g0
        obtain ⟨q1, e1, _, wf1⟩ := DataW.trod_int u1 g1
        obtain ⟨q2, e2, _, wf2⟩ := DataW.trod_string u2 g2
        simp at e0 e1 e2
        subst e0 e1 e2
        have a0 := hat 0 (by omega)
        have a1 := hat 1 (by omega)
        have a2 := hat 2 (by omega)
        rw [Deep.add_add] at a0 a1 a2
        exact ⟨⟨q0, q1, q2⟩, ⟨a0, a1, a2⟩, wf0, wf1, wf2⟩
  obtain ⟨F, hF⟩ := Deep.choose_lt each
  refine ⟨some a, k0, (List.range n0).map F, by simp, by simp; omega, fun i hi => ?_⟩
  have hin : i < n0 := by simpa using hi
  rw [List.getElem_map, List.getElem_range]
  obtain ⟨⟨b0, b1, b2⟩, ok⟩ := hF i hin
  obtain ⟨⟨z0, _, _⟩, _⟩ := hF 0 (by omega)
  have hs := cell_spot z0
  obtain ⟨bk, off, sp⟩ := a
  rw [show ((⟨bk, off, sp⟩ : Addr).add (0 * 3)) = ⟨bk, off, sp⟩ from rfl] at hs
  simp only at hs
  subst hs
  rw [addr_plus] at b0 b1 b2
  rw [← Nat.add_assoc] at b1 b2
  exact ⟨⟨bk, off, rfl, b0, b1, b2⟩, ok⟩
end
end Go.Proofs.Ytjdhbpgipoifkaa
