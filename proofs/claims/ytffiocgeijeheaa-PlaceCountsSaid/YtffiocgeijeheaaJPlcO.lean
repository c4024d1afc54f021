/- A place that was handed over by value is two numbers; what the laws of places need of the facts on them. No conditions. -/
import Derived.Test.YtffiocgeijeheaaJPlcS
import Derived.Test.YtffiocgeijeheaaJKeep
import Derived.Deep.RegionHeld3
import Derived.Deep.RegionHeldLaw
set_option linter.unusedVariables false
namespace Go.Proofs.Ytffiocgeijeheaa
open Go.ChangeShapes Go.WideShapes Go.ChangeAt Go.RowKit
section
variable {H : Type} {enc : TypeId × Value → H} {P : Program} {w : World} {base : Nat} {spare : Nat → Bool} {held : Bool}
theorem open_place {r : Reach} {b0 : Nat} {t ti : TypeId} {g0 g1 : Field} {v : Value} {d : DataW H} {p : List MemPlace} (ht : P.underlying t = some (.struct #[g0, g1])) (hc : P.cellsOf t = 2)
    (h0 : (g0.offset, g0.type) = (0, ti)) (h1 : (g1.offset, g1.type) = (1, ti)) (ci : P.cellsOf ti = 1) (ui : P.underlying ti = some (.int .i64)) (hv : Value.okWide P w r b0 t v) (h : DataW.Trod enc P w base spare held t v d p) :
    ∃ x y, v = .agg #[.int .i64 x, .int .i64 y] ∧ (Lit.int .i64 x).wf = true ∧ (Lit.int .i64 y).wf = true := by
  obtain ⟨A, rfl, hsz⟩ := okWide_str ht hv
  obtain ⟨fuel, hf⟩ := h
  obtain ⟨xs, n, _, _, hl, hxl, hg⟩ := DataW.trod_struct ht hf
  simp only [Value.cells] at hl hg
  have hxl2 : xs.length = 2 := hxl
  simp only [Prod.mk.injEq] at h0 h1
  have a0 := hg 0 g0 rfl
  have a1 := hg 1 g1 rfl
  rw [h0.1, h0.2, ci, List.getElem?_eq_getElem (by omega)] at a0
  rw [h1.1, h1.2, ci, List.getElem?_eq_getElem (by omega)] at a1
  obtain ⟨x, e0, _, wx⟩ := DataW.trod_int ui a0
  obtain ⟨y, e1, _, wy⟩ := DataW.trod_int ui a1
  refine ⟨x, y, ?_, wx, wy⟩
  have hA : A.size = 2 := by rw [hsz, hc]
  obtain ⟨l⟩ := A
  match l, hA with
  | [u, v], _ =>
    simp at e0 e1
    rw [e0, e1]
end
theorem i64_wf {a : Int} (h : (Lit.int .i64 a).wf = true) : i64 a := i64_of_wf h
theorem i64_addr {a : Int} (h : 0 ≤ a ∧ a < 16384) : i64 a := by unfold i64; omega
theorem ofV_yes {ep : Int} {L : List (List Int)} {a : Int} (hg : goodB ep L = true) (ha : 0 ≤ a ∧ a < 16384) : ofV ep L a = .tuple #[.agg #[.int .i64 (a % (L.length : Int)), .int .i64 (a / (L.length : Int))], .bool true] := by
  have ho := ofB_iff.2 ⟨hg, ha⟩
  unfold ofV ofC ofP
  rw [if_pos ho, if_pos ho, ho]
theorem addrV_of {ep : Int} {L : List (List Int)} {a : Int} (hg : goodB ep L = true) (ha : 0 ≤ a ∧ a < 16384) : addrV ep L (a % (L.length : Int)) (a / (L.length : Int)) = .tuple #[.int .i64 a, .bool true] := by
  have h := addr_of hg ha
  have ho := ofB_iff.2 ⟨hg, ha⟩
  unfold ofC ofP at h
  rw [if_pos ho, if_pos ho] at h
  unfold addrV
  rw [h, decide_eq_true ha.1, show max a 0 = a by omega]
theorem mod_addr (x m : Int) (h : 1 ≤ m ∧ m ≤ 16384) : 0 ≤ x % m ∧ x % m < 16384 := by
  have h1 := Int.emod_nonneg x (show m ≠ 0 by omega)
  have h2 := Int.emod_lt_of_pos x (show 0 < m by omega)
  omega
/-- a place's block -/
def XB (w : World) (b : Nat) (c p : Int) : Prop := w.heap[b]? = some (.cells #[.int .i64 c, .int .i64 p] 26 (0, 0))
theorem XB.below {w w' : World} {b : Nat} {c p : Int} (h : XB w b c p) (hb : Below w.heap.size w w') : XB w' b c p := below_heap hb h
theorem XB.cells {w : World} {b : Nat} {c p : Int} (h : XB w b c p) : w.cell? ⟨b, 0, none⟩ = some (.int .i64 c) ∧ w.cell? ⟨b, 1, none⟩ = some (.int .i64 p) := ⟨cell_of h 0, cell_of h 1⟩
theorem XB.lt {w : World} {b : Nat} {c p : Int} (h : XB w b c p) : b < w.heap.size := by
  unfold XB at h
  exact lt_of_block h
theorem XB.new (w : World) (c p : Int) : XB (w.alloc (.cells #[.int .i64 c, .int .i64 p] 26)) w.heap.size c p := heap_alloc_new _ _
theorem below_alloc (w : World) (x : Obj) : Below w.heap.size w (w.alloc x) := (Below.refl _ _).alloc (Nat.le_refl _) x
/-- two boxes of two cells each, what stays -/
theorem two_keep {W0 W W' : World} {b c : Nat} {v0 v1 u0 u1 : Value} (hb : Below W.heap.size W W') (h : W.cell? ⟨b, 0, none⟩ = some v0 ∧ W.cell? ⟨b, 1, none⟩ = some v1 ∧ W.cell? ⟨c, 0, none⟩ = some u0 ∧ W.cell? ⟨c, 1, none⟩ = some u1 ∧ Below W0.heap.size W0 W ∧ W0.heap.size ≤ W.heap.size) :
    W'.cell? ⟨b, 0, none⟩ = some v0 ∧ W'.cell? ⟨b, 1, none⟩ = some v1 ∧ W'.cell? ⟨c, 0, none⟩ = some u0 ∧ W'.cell? ⟨c, 1, none⟩ = some u1 ∧ Below W0.heap.size W0 W' ∧ W0.heap.size ≤ W'.heap.size := by
  obtain ⟨h0, h1, h2, h3, h4, h5⟩ := h
  exact ⟨cellB hb (block_lt_of_cell h0) h0, cellB hb (block_lt_of_cell h1) h1, cellB hb (block_lt_of_cell h2) h2, cellB hb (block_lt_of_cell h3) h3, h4.trans (hb.mono h5), Nat.le_trans h5 hb.size⟩
theorem two_below {W0 W : World} {b c : Nat} {v0 v1 u0 u1 : Value} (h : W.cell? ⟨b, 0, none⟩ = some v0 ∧ W.cell? ⟨b, 1, none⟩ = some v1 ∧ W.cell? ⟨c, 0, none⟩ = some u0 ∧ W.cell? ⟨c, 1, none⟩ = some u1 ∧ Below W0.heap.size W0 W ∧ W0.heap.size ≤ W.heap.size) : Below W0.heap.size W0 W := h.2.2.2.2.1
theorem two_start {W : World} {b c : Nat} {e x y : Int} {a : Option Addr} {n cp : Nat} (h1 : PB W b e a n cp) (h2 : XB W c x y) :
    W.drew.cell? ⟨b, 0, none⟩ = some (.int .i64 e) ∧ W.drew.cell? ⟨b, 1, none⟩ = some (.slice a n cp) ∧ W.drew.cell? ⟨c, 0, none⟩ = some (.int .i64 x) ∧ W.drew.cell? ⟨c, 1, none⟩ = some (.int .i64 y) ∧ Below W.heap.size W W.drew ∧ W.heap.size ≤ W.drew.heap.size :=
  ⟨h1.cells.1, h1.cells.2, h2.cells.1, h2.cells.2, (Below.refl _ _).drew, Nat.le_refl _⟩
theorem clampA_id {a : Int} (h : 0 ≤ a ∧ a < 16384) : clampA a = a := by unfold clampA; omega
theorem belowR_in {ep : Int} {L : List (List Int)} {a c : Int} (hg : goodB ep L = true) (ha : 0 ≤ a ∧ a < 16384) (hc : 0 ≤ c ∧ c < L.length) : belowR ep L a c = cntB a c L.length := by
  unfold belowR
  rw [if_pos ⟨hg, hc⟩, clampA_id ha]
theorem sumB_range {a n : Int} (hn : 1 ≤ n ∧ n ≤ 4) (ha : 0 ≤ a ∧ a < 16384) (k : Nat) : 0 ≤ sumB a n k ∧ sumB a n k ≤ 16384 * k := by
  induction k with
  | zero => exact ⟨Int.le_refl _, by simp [sumB]⟩
  | succ k ih =>
    have := cntB_range (a := a) (c := k) hn (by omega) ⟨ha.1, by omega⟩
    show 0 ≤ sumB a n k + cntB a k n ∧ sumB a n k + cntB a k n ≤ _
    push_cast
    omega
end Go.Proofs.Ytffiocgeijeheaa
