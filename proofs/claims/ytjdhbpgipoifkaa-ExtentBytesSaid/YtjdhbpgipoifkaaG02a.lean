/- Small lemmas for every law of this seat: an array of whole numbers that is handed over by value is so many numbers. No conditions. -/
import Derived.Test.YtjdhbpgipoifkaaRows
import Derived.WalkKit
import Derived.ProofKit
import Derived.OpenShut
import Derived.ShutString
import Derived.ChangeOld
import Derived.Below
import Derived.Carry
import Derived.WalkSmall
import Derived.Test.YtjdhbpgipoifkaaG01b
set_option linter.unusedVariables false
namespace Go.Proofs.Ytjdhbpgipoifkaa
open Go.ChangeShapes Go.WideShapes Go.ChangeAt Go.RowKit

theorem own : ownKnob Try.prog.godebug = none := by kernel_rfl
theorem laidOut : laidOutB Try.prog = true := by kernel_rfl

section
variable {H : Type} {enc : TypeId × Value → H} {P : Program} {w : World} {base : Nat} {spare : Nat → Bool} {held : Bool}
theorem okWide_arr {r : Reach} {b0 : Nat} {t e : TypeId} {n : Nat} {v : Value} (ht : P.underlying t = some (.array n e)) (h : Value.okWide P w r b0 t v) : ∃ cs, v = .agg cs ∧ cs.size = P.cellsOf t := by
  simp only [Value.okWide, ht] at h
  obtain ⟨cs, h1, h2, _⟩ := h
  exact ⟨cs, h1, h2⟩
theorem ints_of_cells {k : IntKind} : ∀ (l : List Value), (∀ i, i < l.length → ∃ m, l[i]? = some (.int k m) ∧ (Lit.int k m).wf = true) → ∃ ns : List Int, l = ns.map (Value.int k) ∧ ∀ m ∈ ns, (Lit.int k m).wf = true
  | [], _ => ⟨[], rfl, by simp⟩
  | v :: l, h => by
    obtain ⟨m, hm, hw⟩ := h 0 (by simp)
    obtain ⟨ns, hns, hall⟩ := ints_of_cells l (fun i hi => by simpa using h (i + 1) (by simpa using hi))
    simp at hm
    exact ⟨m :: ns, by rw [hm, hns]; rfl, by intro x hx; rcases List.mem_cons.1 hx with rfl | hx <;> first | exact hw | exact hall x hx⟩
theorem open_arr {r : Reach} {b0 : Nat} {t e : TypeId} {n : Nat} {k : IntKind} {v : Value} {d : DataW H} {p : List MemPlace} (ht : P.underlying t = some (.array n e)) (he : P.underlying e = some (.int k)) (hc : P.cellsOf e = 1) (hn : P.cellsOf t = n)
    (hv : Value.okWide P w r b0 t v) (h : DataW.Trod enc P w base spare held t v d p) : ∃ ns : List Int, v = .agg (ns.map (Value.int k)).toArray ∧ ns.length = n ∧ ∀ m ∈ ns, (Lit.int k m).wf = true := by
  obtain ⟨cs, rfl, hsz⟩ := okWide_arr ht hv
  obtain ⟨fuel, hf⟩ := h
  obtain ⟨xs, m, _, _, hl, hx, hall⟩ := DataW.trod_array ht hf
  simp only [Value.cells] at hl hall
  have hcs : cs.toList.length = n := by rw [Array.length_toList, hsz, hn]
  obtain ⟨ns, hns, hw⟩ := ints_of_cells (k := k) cs.toList (fun i hi => by
    have h1 := hall i (by omega)
    rw [hc, Nat.mul_one] at h1
    have hxi : i < xs.length := by omega
    rw [List.getElem?_eq_getElem hxi] at h1
    obtain ⟨y, hy, _, hw⟩ := DataW.trod_int he h1
    refine ⟨y, ?_, hw⟩
    have h2 : ((cs.toList.drop i).take 1)[0]? = some (.int k y) := by rw [hy]; rfl
    simpa [List.getElem?_take, List.getElem?_drop] using h2)
  refine ⟨ns, ?_, ?_, hw⟩
  · rw [← hns]
  · rw [← hcs, hns, List.length_map]
end
theorem U64.of_wf {a : Int} (h : (Lit.int .u64 a).wf = true) : U64 a := by
  have := bounds_u64 h
  exact ⟨by omega, by omega⟩
theorem U32.of_wf {a : Int} (h : (Lit.int .u32 a).wf = true) : U32 a := by
  have := bounds_u32 h
  exact ⟨by omega, by omega⟩
theorem i64_of_wf {a : Int} (h : (Lit.int .i64 a).wf = true) : -9223372036854775808 ≤ a ∧ a ≤ 9223372036854775807 := by
  have := bounds_i64 h
  exact ⟨by omega, by omega⟩
/-- the world behind an array of two numbers that was handed over by value and boxed -/
theorem box2_start (w : World) (x y : Value) (t : TypeId) : (w.alloc (.cells #[x, y] t)).drew.cell? ⟨w.heap.size, 0, none⟩ = some x ∧ (w.alloc (.cells #[x, y] t)).drew.cell? ⟨w.heap.size, 1, none⟩ = some y ∧ Below w.heap.size w (w.alloc (.cells #[x, y] t)).drew ∧ w.heap.size < (w.alloc (.cells #[x, y] t)).drew.heap.size :=
  ⟨by simp, by simp, ((Below.refl _ _).alloc (Nat.le_refl _) _).drew, by simp⟩
theorem box2_keep {B : Nat} {x y : Value} {w w1 w2 : World} (hb : Below w1.heap.size w1 w2) (h : w1.cell? ⟨B, 0, none⟩ = some x ∧ w1.cell? ⟨B, 1, none⟩ = some y ∧ Below B w w1 ∧ B < w1.heap.size) :
    w2.cell? ⟨B, 0, none⟩ = some x ∧ w2.cell? ⟨B, 1, none⟩ = some y ∧ Below B w w2 ∧ B < w2.heap.size :=
  have ⟨h0, h1, h2, h3⟩ := h
  ⟨by rw [hb.cell (p := ⟨B, 0, none⟩) h3]; exact h0, by rw [hb.cell (p := ⟨B, 1, none⟩) h3]; exact h1, h2.trans (hb.mono (Nat.le_of_lt h3)), Nat.lt_of_lt_of_le h3 hb.size⟩
theorem box3_start (w : World) (x y z : Value) (t : TypeId) : (w.alloc (.cells #[x, y, z] t)).drew.cell? ⟨w.heap.size, 0, none⟩ = some x ∧ (w.alloc (.cells #[x, y, z] t)).drew.cell? ⟨w.heap.size, 1, none⟩ = some y ∧ (w.alloc (.cells #[x, y, z] t)).drew.cell? ⟨w.heap.size, 2, none⟩ = some z ∧ Below w.heap.size w (w.alloc (.cells #[x, y, z] t)).drew ∧ w.heap.size < (w.alloc (.cells #[x, y, z] t)).drew.heap.size :=
  ⟨by simp, by simp, by simp, ((Below.refl _ _).alloc (Nat.le_refl _) _).drew, by simp⟩
theorem below_draws (w : World) (k : Nat) : Below w.heap.size w (w.drewN k) := below_drewN (Below.refl _ _) k
theorem Calls.drawn {P : Program} {f : FuncId} {args : Array Value} {w : World} {x : Ending} (h : Calls P f args w fun e w' => e = x ∧ ∃ k, w' = w.drewN k) : Calls P f args w fun e w' => e = x ∧ Below w.heap.size w w' :=
  h.mono fun _ _ ⟨he, k, hw⟩ => ⟨he, by rw [hw]; exact below_draws w k⟩
theorem Calls.same {P : Program} {f : FuncId} {args : Array Value} {w : World} {x : Ending} (h : Calls P f args w fun e w' => e = x ∧ w = w') : Calls P f args w fun e w' => e = x ∧ Below w.heap.size w w' :=
  h.mono fun _ _ ⟨he, hw⟩ => ⟨he, by rw [← hw]; exact Below.refl _ _⟩
theorem two_of {ns : List Int} (h : ns.length = 2) : ∃ x y, ns = [x, y] := by
  match ns, h with
  | [x, y], _ => exact ⟨x, y, rfl⟩
theorem three_of {ns : List Int} (h : ns.length = 3) : ∃ x y z, ns = [x, y, z] := by
  match ns, h with
  | [x, y, z], _ => exact ⟨x, y, z, rfl⟩
end Go.Proofs.Ytjdhbpgipoifkaa
