/- A row of pairs is appended to in a region that draws its order; what stays of boxes and of a map while calls make memory. No conditions. -/
import Derived.Test.YtffiocgeijeheaaJPlcO
import Derived.Deep.RegionLaw
set_option linter.unusedVariables false
namespace Go.Proofs.Ytffiocgeijeheaa
open Go.RowKit
set_option maxRecDepth 20000
theorem step_app_pair {ops : Array Oper} {o : Oper} {a : Act} {w : World} {K : Act → World → Prop} {Q : Exit → Act → World → Prop} {E : Prop} (hgd : o.guard = none) (s x : Operand)
    (ho : o.op = Op.call { callee := Callee.builtin Builtin.append, args := #[s, x], argTypes := #[46, 46] }) {B : Nat} {v : Value} {J : List (Int × Int)} (hs : a.eval s = v) (h : OP w B v J)
    {y z : Int} (hx : a.eval x = .slice (some ⟨w.heap.size, 0, none⟩) 1 1) (hy : (Lit.int .i64 y).wf = true) (hz : (Lit.int .i64 z).wf = true) (hl : J.length + 1 ≤ 1000000) (hB : B ≤ w.heap.size)
    (hK : ∀ v' w', OP w' B v' (J ++ [(y, z)]) → Below B w w' → K (a.put o.dst v') w') :
    if Region.wanted o (yielded ops a.tmps) = true then Oper.wp Try.prog o a (w.alloc (.cells #[.int .i64 y, .int .i64 z] 48)) K Q else E := by
  have hw : Region.wanted o (yielded ops a.tmps) = true := by simp [Region.wanted, hgd]
  rw [if_pos hw]
  obtain ⟨v', w', hr, h2, h3⟩ := run_app_pair w o.type h hy hz hl hB
  unfold Oper.wp
  simp [execOp, ho, resolve, invoke, builtin, hs, hx, hr, Result.andThen]
  exact hK v' w' h2 h3
theorem OP.drew {w : World} {B : Nat} {v : Value} {J : List (Int × Int)} (h : OP w B v J) : OP w.drew B v J := h.below (Below.refl _ _).drew
theorem OP.slice {w : World} {B : Nat} {v : Value} {J : List (Int × Int)} (h : OP w B v J) : ∃ ao cap, v = .slice ao J.length cap := by
  obtain ⟨ao, cap, e, _⟩ := h.form
  exact ⟨ao, cap, e⟩
theorem Tm.drew {w : World} {b : Nat} {J : List (Int × Int)} (h : Tm w b J) : Tm w.drew b J := h.below (Below.refl _ _).drew
theorem Tm.low {B : Nat} {w w' : World} {b : Nat} {J : List (Int × Int)} (h : Tm w b J) (hb : Below B w w') (hB : b < B) : Tm w' b J := by
  obtain ⟨D, ⟨es, clock, h1, h2⟩, h3⟩ := h
  exact ⟨D, ⟨es, clock, (hb.block b hB).trans h1, h2⟩, h3⟩
theorem Tm.count {w : World} {b : Nat} {J : List (Int × Int)} (h : Tm w b J) : ∃ es clock, w.heap[b]? = some (.map es clock) ∧ ∀ (ty : TypeId) (W : World), W.heap[b]? = some (.map es clock) → (Builtin.len_ #[45] ty #[.map (some b)]).run Try.prog W = .ok (.int .i64 J.length) W := by
  obtain ⟨D, ⟨es, clock, h1, hF, hn, rfl⟩, h3⟩ := h
  refine ⟨es, clock, h1, fun ty W hW => ?_⟩
  have h := World.ownsMap.len (w := W) (b := b) (n := J.length) ⟨es, clock, hW, hF, hn, rfl⟩ Try.underlying45 ty
  rw [h3.size] at h
  exact h
theorem five_keep {W0 W W2 : World} {b1 b2 b3 : Nat} {v0 v1 u0 u1 : Value} {ob : Obj} (hb : Below W.heap.size W W2) (h : W.cell? ⟨b1, 0, none⟩ = some v0 ∧ W.cell? ⟨b1, 1, none⟩ = some v1 ∧ W.cell? ⟨b2, 0, none⟩ = some u0 ∧ W.cell? ⟨b2, 1, none⟩ = some u1 ∧ W.heap[b3]? = some ob ∧ Below W0.heap.size W0 W ∧ W0.heap.size ≤ W.heap.size) :
    W2.cell? ⟨b1, 0, none⟩ = some v0 ∧ W2.cell? ⟨b1, 1, none⟩ = some v1 ∧ W2.cell? ⟨b2, 0, none⟩ = some u0 ∧ W2.cell? ⟨b2, 1, none⟩ = some u1 ∧ W2.heap[b3]? = some ob ∧ Below W0.heap.size W0 W2 ∧ W0.heap.size ≤ W2.heap.size := by
  obtain ⟨h0, h1, h2, h3, h6, h4, h5⟩ := h
  exact ⟨cellB hb (block_lt_of_cell h0) h0, cellB hb (block_lt_of_cell h1) h1, cellB hb (block_lt_of_cell h2) h2, cellB hb (block_lt_of_cell h3) h3, below_heap hb h6, h4.trans (hb.mono h5), Nat.le_trans h5 hb.size⟩
theorem five_below {W0 W : World} {b1 b2 b3 : Nat} {v0 v1 u0 u1 : Value} {ob : Obj} (h : W.cell? ⟨b1, 0, none⟩ = some v0 ∧ W.cell? ⟨b1, 1, none⟩ = some v1 ∧ W.cell? ⟨b2, 0, none⟩ = some u0 ∧ W.cell? ⟨b2, 1, none⟩ = some u1 ∧ W.heap[b3]? = some ob ∧ Below W0.heap.size W0 W ∧ W0.heap.size ≤ W.heap.size) : Below W0.heap.size W0 W := h.2.2.2.2.2.1
/-- the numbers of the pairs -/
def keysK (J : List (Int × Int)) : List Int := J.map (·.1)
theorem keys_next {J : List (Int × Int)} {u : Int} {j : Nat} (h : j < J.length) : decide (u ∈ keysK (J.take (j + 1))) = (decide (u ∈ keysK (J.take j)) || (J[j].1 == u)) := by
  unfold keysK
  rw [List.take_succ_eq_append_getElem h, List.map_append]
  by_cases h1 : u ∈ (J.take j).map (·.1)
  · rw [decide_eq_true h1, decide_eq_true (List.mem_append_left _ h1)]
    rfl
  · rw [decide_eq_false h1, Bool.false_or]
    by_cases h2 : J[j].1 = u
    · rw [beq_iff_eq.2 h2]
      exact decide_eq_true (List.mem_append_right _ (by simp [h2]))
    · rw [beq_eq_false_iff_ne.2 h2]
      refine decide_eq_false (fun h3 => ?_)
      rcases List.mem_append.1 h3 with h3 | h3
      · exact h1 h3
      · simp at h3
        exact h2 h3.symm
end Go.Proofs.Ytffiocgeijeheaa
