/- Maps from numbers to numbers: which pairs one tells; one that a literal makes, one that a law fills. No conditions. -/
import Derived.Test.YtffiocgeijeheaaJPrjP
import Derived.Maps.Own
import Derived.Maps.OwnOps
import Derived.Maps.OwnSet
import Derived.Maps.Views
import Derived.DeepKeys4
set_option linter.unusedVariables false
namespace Go.Proofs.Ytffiocgeijeheaa
open Go.RowKit Go.Maps
set_option maxRecDepth 20000
theorem int_law : Keyed Try.prog 3 := int_keyed Try.underlying3
theorem int_key {u : Int} (hu : (Lit.int .i64 u).wf = true) : keyOf Try.prog 3 (.int .i64 u) = some (.int .i64 u) := by
  simp [keyOf, Try.underlying3, mapKey, hu]
/-- the map's datum tells the pairs K, each number once -/
structure MK (D : DataW Unit) (K : List (Int × Int)) : Prop where
  tidy : Tidy D
  hs : ∀ u, (Lit.int .i64 u).wf = true → Maps.has D (.int .i64 u) = decide (u ∈ K.map (·.1))
  size : Maps.size D = K.length
  at_ : ∀ e ∈ K, ∀ z, D.atKey (.int .i64 e.1) z = .lit (.int .i64 e.2)
  once : (K.map (·.1)).Nodup
theorem MK.nil : MK (.map []) [] := ⟨tidy_empty, fun _ _ => rfl, rfl, fun e he => (by cases he), List.Pairwise.nil⟩
theorem MK.put {D : DataW Unit} {K : List (Int × Int)} (h : MK D K) {u v : Int} (hu : (Lit.int .i64 u).wf = true) (hn : u ∉ K.map (·.1)) : MK (D.put (.int .i64 u) (.lit (.int .i64 v))) (K ++ [(u, v)]) := by
  have hk : WideAt.IsKeyLit (.int .i64 u) := int_law.key (int_key hu)
  refine ⟨h.tidy.put hk _, fun x hx => ?_, ?_, fun e he z => ?_, ?_⟩
  · by_cases e : x = u
    · subst e
      rw [has_put_same h.tidy.isMap hk]
      exact (decide_eq_true (by simp)).symm
    · rw [has_put_other (fun e2 => e (by injection e2)), h.hs x hx]
      simp [e]
  · rw [size_put h.tidy, h.hs u hu, h.size, decide_eq_false hn]
    simp
  · by_cases e2 : e.1 = u
    · have e3 : e = (u, v) := by
        rcases List.mem_append.1 he with h1 | h1
        · exact absurd (e2 ▸ List.mem_map.2 ⟨e, h1, rfl⟩) hn
        · exact List.mem_singleton.1 h1
      subst e3
      exact atKey_put_same h.tidy.isMap hk _ _
    · rw [atKey_put_other (fun e3 => e2 (by injection e3))]
      rcases List.mem_append.1 he with h1 | h1
      · exact h.at_ e h1 z
      · exact absurd (by rw [List.mem_singleton.1 h1]) e2
  · rw [List.map_append, List.nodup_append]
    refine ⟨h.once, by simp, fun a ha b hb e => ?_⟩
    rw [List.map_singleton, List.mem_singleton] at hb
    subst hb
    exact hn (e ▸ ha)
/-- the map at block b tells the pairs K -/
def Tm (w : World) (b : Nat) (K : List (Int × Int)) : Prop := ∃ D, w.ownsMap Try.prog 3 (plainElem Try.prog 3) b K.length D ∧ MK D K
theorem Tm.made (w : World) : Tm (w.alloc (.map #[] 0)) w.heap.size [] := ⟨_, World.ownsMap_made _ _ _ _, MK.nil⟩
theorem Tm.below {w w' : World} {b : Nat} {K : List (Int × Int)} (h : Tm w b K) (hb : Below w.heap.size w w') : Tm w' b K := by
  obtain ⟨D, ⟨es, clock, h1, h2⟩, h3⟩ := h
  exact ⟨D, ⟨es, clock, below_heap hb h1, h2⟩, h3⟩
theorem Tm.lt {w : World} {b : Nat} {K : List (Int × Int)} (h : Tm w b K) : b < w.heap.size := by
  obtain ⟨D, h1, _⟩ := h
  exact h1.lt
/-- how many entries its block has -/
theorem Tm.block {w : World} {b : Nat} {K : List (Int × Int)} (h : Tm w b K) : ∃ es clock, w.heap[b]? = some (.map es clock) ∧ es.size = K.length := by
  obtain ⟨D, ⟨es, clock, h1, _, _, rfl⟩, h3⟩ := h
  refine ⟨es, clock, h1, ?_⟩
  rw [← h3.size, size_eq, length_sorted]
  simp
/-- m[u] = v, for a number that is not there -/
theorem Tm.put {w : World} {b : Nat} {K : List (Int × Int)} (h : Tm w b K) {u v : Int} (hu : (Lit.int .i64 u).wf = true) (hv : (Lit.int .i64 v).wf = true) (hn : u ∉ K.map (·.1)) (hk : K.length ≤ 1000) :
    ∃ w', (Instr.mapUpdate 45 (.map (some b)) (.int .i64 u) (.int .i64 v)).run Try.prog w = .ok () w' ∧ Tm w' b (K ++ [(u, v)]) ∧ w.grownBy w' (some b) := by
  obtain ⟨D, h1, h2⟩ := h
  obtain ⟨w', hr, h3, hg⟩ := h1.update int_law Try.underlying45 (by unfold maxLen; omega) (int_key hu) (plainElem_int Try.underlying3 hv)
  exact ⟨w', hr, ⟨_, by rw [List.length_append]; exact h3, h2.put hu hn⟩, hg⟩
/-- map[int]int{u: v} -/
theorem map_lit (w : World) {u v : Int} (hu : (Lit.int .i64 u).wf = true) (hv : (Lit.int .i64 v).wf = true) :
    ∃ w', (Instr.mapUpdate 45 (.map (some w.heap.size)) (.int .i64 u) (.int .i64 v)).run Try.prog (w.alloc (.map #[] 0)) = .ok () w' ∧ Tm w' w.heap.size [(u, v)] ∧ Below w.heap.size w w' := by
  obtain ⟨w', hr, h1, hg⟩ := (Tm.made w).put hu hv (by simp) (by simp)
  exact ⟨w', hr, h1, ((Below.refl _ _).alloc (Nat.le_refl _) _).grown hg (by simp) (fun k e => by cases e; exact Nat.le_refl _)⟩
end Go.Proofs.Ytffiocgeijeheaa
