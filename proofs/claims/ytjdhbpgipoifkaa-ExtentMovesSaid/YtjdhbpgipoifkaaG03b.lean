/- Keys of maps that are structs of whole numbers: what they read as; that two of them are one just if their numbers are. Conditions: the numbers are of 64 bits. -/
import Derived.Test.YtjdhbpgipoifkaaG02a
import Derived.Test.YtjdhbpgipoifkaaG02b
import Derived.DeepKeys4
import Derived.Maps.Own
import Derived.Maps.OwnOps
import Derived.Maps.OwnSet
import Derived.Maps.Views
set_option linter.unusedVariables false
namespace Go.Proofs.Ytjdhbpgipoifkaa
open Go.RowKit Go.Maps

section
variable {P : Program}
theorem lits_int {d : Nat} {t : TypeId} (ht : P.underlying t = some (.int .i64)) {u : Int} (hu : (Lit.int .i64 u).wf = true) : P.keyLits (d + 1) t [.int .i64 u] = some [.int .i64 u] := by
  simp [Program.keyLits, ht, hu]
/-- a struct of one number as a key -/
theorem key_one {k ti : TypeId} {f0 : Field} (hk : P.underlying k = some (.struct #[f0])) (hc : P.cellsOf k = 1) (hn : (f0.name != "_") = true) (h0 : (f0.offset, f0.type) = (0, ti)) (ci : P.cellsOf ti = 1) (ui : P.underlying ti = some (.int .i64))
    (hkt : P.keyType k = true) {n : Nat} (hs : P.types.size = n + 1) {u : Int} (hu : (Lit.int .i64 u).wf = true) : keyOf P k (.agg #[.int .i64 u]) = some (.string (keyBytes [.int .i64 u])) := by
  have e0 : f0.offset = 0 := congrArg Prod.fst h0
  have e1 : f0.type = ti := congrArg Prod.snd h0
  unfold keyOf
  rw [hk]
  simp only [hkt, Value.formed, hk, hc, Bool.true_and]
  rw [if_pos (by rfl), hs]
  have : P.keyLits (n + 1 + 1) k [.int .i64 u] = some [.int .i64 u] := by
    unfold Program.keyLits
    rw [hk]
    simp [hc, hn, e0, e1, ci, lits_int ui hu]
  simp only [Value.cells]
  rw [this]
  rfl
/-- a struct of two numbers as a key -/
theorem key_two {k ti : TypeId} {f0 f1 : Field} (hk : P.underlying k = some (.struct #[f0, f1])) (hc : P.cellsOf k = 2) (hn0 : (f0.name != "_") = true) (hn1 : (f1.name != "_") = true) (h0 : (f0.offset, f0.type) = (0, ti)) (h1 : (f1.offset, f1.type) = (1, ti)) (ci : P.cellsOf ti = 1) (ui : P.underlying ti = some (.int .i64))
    (hkt : P.keyType k = true) {n : Nat} (hs : P.types.size = n + 1) {u v : Int} (hu : (Lit.int .i64 u).wf = true) (hv : (Lit.int .i64 v).wf = true) : keyOf P k (.agg #[.int .i64 u, .int .i64 v]) = some (.string (keyBytes [.int .i64 u, .int .i64 v])) := by
  have e0 : f0.offset = 0 := congrArg Prod.fst h0
  have e1 : f0.type = ti := congrArg Prod.snd h0
  have e2 : f1.offset = 1 := congrArg Prod.fst h1
  have e3 : f1.type = ti := congrArg Prod.snd h1
  unfold keyOf
  rw [hk]
  simp only [hkt, Value.formed, hk, hc, Bool.true_and]
  rw [if_pos (by rfl), hs]
  have : P.keyLits (n + 1 + 1) k [.int .i64 u, .int .i64 v] = some [.int .i64 u, .int .i64 v] := by
    unfold Program.keyLits
    rw [hk]
    simp [hc, hn0, hn1, e0, e1, e2, e3, ci, lits_int ui hu, lits_int ui hv]
  simp only [Value.cells]
  rw [this]
  rfl
/-- two keys of one number that read alike are one -/
theorem key_inj {k : TypeId} (K : Keyed P k) {a b : Value} {l : Lit} (ha : keyOf P k a = some l) (hb : keyOf P k b = some l) : a = b := K.inj ha hb
/-- a set of numbers, each under the key that it reads as -/
def setD (kl : Int → Lit) (S : List Int) : DataW Unit := setOf (.agg []) (S.map kl)
theorem setD_snoc (kl : Int → Lit) (S : List Int) (u : Int) : setD kl (S ++ [u]) = (setD kl S).put (kl u) (.agg []) := by
  unfold setD
  rw [List.map_append]
  exact setOf_snoc _ _ _
theorem setD_has {k : TypeId} (K : Keyed P k) {val : Int → Value} {kl : Int → Lit} (hkey : ∀ u, (Lit.int .i64 u).wf = true → keyOf P k (val u) = some (kl u)) (hinj : ∀ u v, val u = val v → u = v)
    {S : List Int} (hS : ∀ u ∈ S, (Lit.int .i64 u).wf = true) {u : Int} (hu : (Lit.int .i64 u).wf = true) : Maps.has (setD kl S) (kl u) = decide (u ∈ S) := by
  unfold setD
  rw [has_setOf]
  · rw [Bool.eq_iff_iff, List.any_eq_true, decide_eq_true_eq]
    constructor
    · rintro ⟨l, hl, hs⟩
      obtain ⟨v, hv, rfl⟩ := List.mem_map.1 hl
      have hl2 : kl v = kl u := WideAt.sameKey_eq hs
      have := K.inj (hkey v (hS v hv)) (hl2 ▸ hkey u hu)
      rw [← hinj v u this]
      exact hv
    · intro h
      exact ⟨kl u, List.mem_map.2 ⟨u, h, rfl⟩, WideAt.sameKey_self (K.key (hkey u hu))⟩
  · intro x hx
    obtain ⟨v, hv, rfl⟩ := List.mem_map.1 hx
    exact K.key (hkey v (hS v hv))
end
end Go.Proofs.Ytjdhbpgipoifkaa
