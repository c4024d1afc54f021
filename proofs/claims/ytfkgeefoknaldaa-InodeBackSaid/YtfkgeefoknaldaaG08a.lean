/- Parts in memory: their four cells, rows of them, a row of the call's own whose last part grows. Conditions: as each statement says. -/
import Derived.Test.YtfkgeefoknaldaaG07a
import Derived.Test.YtfkgeefoknaldaaG06b
set_option linter.unusedVariables false
namespace Go.Proofs.Ytfkgeefoknaldaa
set_option linter.unusedVariables false
open Go.RowKit
set_option maxRecDepth 20000
theorem blwA (w : World) (x : Obj) : Below w.heap.size w (w.alloc x) := (Below.refl _ _).alloc (Nat.le_refl _) x
theorem blwO {w1 W w2 : World} (hb : Below W.heap.size W w2) (h : Below w1.heap.size w1 W) : Below w1.heap.size w1 w2 := h.trans (hb.mono h.size)
/-- a part's four cells -/
def parC (x : Pt) : List Value := [.int .i64 x.off, .int .i64 x.len, .int .i64 x.addr, .int .i64 x.src]
theorem par_rows : RowK Try.prog 48 52 4 parC where
  under := Try.underlying48
  info := by
    have h : (Try.prog.info? 52).map (fun i => (i.zero, i.size, i.bytes)) = some (some (.agg #[.int .i64 0, .int .i64 0, .int .i64 0, .int .i64 0]), 4, 32) := by kernel_rfl
    obtain ⟨i0, hi, hz0, hz1, hz2⟩ := info_parts h
    exact ⟨i0, _, 32, hi, hz0, hz1, hz2, rfl, by decide⟩
  pos := by decide
  len := fun x => rfl
  one := fun x u hu => by
    unfold parC at hu
    simp at hu
    rcases hu with h | h | h | h <;> (rw [h]; rfl)
/-- a row of parts that was told -/
abbrev PaL (w : World) (ao : Option Addr) (l : List Pt) : Prop := Row w ao 4 parC l
/-- a row of parts of a call's own -/
abbrev OPa (w : World) (B : Nat) (v : Value) (l : List Pt) : Prop := OR 52 4 parC w B v l
theorem PaL.below {w w' : World} {ao : Option Addr} {l : List Pt} (h : PaL w ao l) (hb : Below w.heap.size w w') : PaL w' ao l := Row.below h hb
theorem PaL.at {w : World} {ao : Option Addr} {l : List Pt} (h : PaL w ao l) (k : Nat) (hk : k < l.length) : ∃ bk off, ao = some ⟨bk, off, none⟩ ∧ w.cell? ⟨bk, off + k * 4, none⟩ = some (.int .i64 l[k].off) ∧ w.cell? ⟨bk, off + k * 4 + 1, none⟩ = some (.int .i64 l[k].len) ∧ w.cell? ⟨bk, off + k * 4 + 2, none⟩ = some (.int .i64 l[k].addr) ∧ w.cell? ⟨bk, off + k * 4 + 3, none⟩ = some (.int .i64 l[k].src) := by
  obtain ⟨bk, off, e, h1⟩ := h k hk
  exact ⟨bk, off, e, h1 0 _ rfl, h1 1 _ rfl, h1 2 _ rfl, h1 3 _ rfl⟩
/-- a block of four cells -/
theorem four_cells {w : World} {b : Nat} {x y z u : Value} {t : TypeId} (h : w.heap[b]? = some (.cells #[x, y, z, u] t (0, 0))) :
    (w.cell? ⟨b, 0, none⟩ = some x ∧ w.cell? ⟨b, 1, none⟩ = some y ∧ w.cell? ⟨b, 2, none⟩ = some z ∧ w.cell? ⟨b, 3, none⟩ = some u) ∧ w.frozen? ⟨b, 0, none⟩ = false ∧ w.frozen? ⟨b, 1, none⟩ = false ∧ w.frozen? ⟨b, 2, none⟩ = false ∧ w.frozen? ⟨b, 3, none⟩ = false :=
  ⟨⟨cell_of h 0, cell_of h 1, cell_of h 2, cell_of h 3⟩, free_of h 0, free_of h 1, free_of h 2, free_of h 3⟩
/-- a part that was boxed -/
def PtB (w : World) (b : Nat) (x : Pt) : Prop := w.heap[b]? = some (.cells #[.int .i64 x.off, .int .i64 x.len, .int .i64 x.addr, .int .i64 x.src] 52 (0, 0))
theorem PtB.below {w w' : World} {b : Nat} {x : Pt} (h : PtB w b x) (hb : Below w.heap.size w w') : PtB w' b x := below_heap hb h
theorem PtB.lt {w : World} {b : Nat} {x : Pt} (h : PtB w b x) : b < w.heap.size := lt_of_block h
theorem PtB.cells {w : World} {b : Nat} {x : Pt} (h : PtB w b x) : w.cell? ⟨b, 0, none⟩ = some (.int .i64 x.off) ∧ w.cell? ⟨b, 1, none⟩ = some (.int .i64 x.len) ∧ w.cell? ⟨b, 2, none⟩ = some (.int .i64 x.addr) ∧ w.cell? ⟨b, 3, none⟩ = some (.int .i64 x.src) := (four_cells h).1
theorem PtB.row {w : World} {b : Nat} {x : Pt} (h : PtB w b x) : PaL w (some ⟨b, 0, none⟩) [x] := Row.one (f := parC) h
theorem set_mid (l m : List Value) (x y : Value) : (l ++ x :: m).set l.length y = l ++ y :: m := by
  induction l with
  | nil => rfl
  | cons z l ih =>
    show z :: (l ++ x :: m).set l.length y = z :: _
    rw [ih]
    rfl
/-- the last part of a row grows -/
theorem OPa.grow {w : World} {B g cap : Nat} {l : List Pt} {y : Pt} {n : Nat} (hn : n = l.length + 1) (h : OPa w B (.slice (some ⟨g, 0, none⟩) n cap) (l ++ [y])) : OPa (w.setCell ⟨g, l.length * 4 + 1, none⟩ (.int .i64 (y.len + 1))) B (.slice (some ⟨g, 0, none⟩) n cap) (l ++ [growP y]) := by
  subst hn
  have hl : (l ++ [y]).length = l.length + 1 := by simp
  have hl2 : (l ++ [growP y]).length = l.length + 1 := by simp
  unfold OPa OR at h ⊢
  rw [hl] at h
  rw [hl2]
  have e : ((l ++ [y]).flatMap parC).set (l.length * 4 + 1) (.int .i64 (y.len + 1)) = (l ++ [growP y]).flatMap parC := by
    rw [List.flatMap_append, List.flatMap_append]
    have h1 := par_rows.flat_len l
    have := set_mid (l.flatMap parC ++ [.int .i64 y.off]) [.int .i64 y.addr, .int .i64 y.src] (.int .i64 y.len) (.int .i64 (y.len + 1))
    rw [List.length_append, h1] at this
    simpa [parC, growP] using this
  rw [← e]
  exact (h.stored (l.length * 4 + 1) (.int .i64 (y.len + 1))).1
end Go.Proofs.Ytfkgeefoknaldaa
