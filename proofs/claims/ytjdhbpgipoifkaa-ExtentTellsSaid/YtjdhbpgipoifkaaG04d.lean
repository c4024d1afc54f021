/- What reads as a key that is a struct of one whole number is one. Conditions: as each statement says. -/
import Derived.Test.YtjdhbpgipoifkaaG03b
set_option linter.unusedVariables false
namespace Go.Proofs.Ytjdhbpgipoifkaa
open Go.RowKit Go.Maps
set_option linter.unusedVariables false
theorem one_cells {P : Program} {k : TypeId} {f0 : Field} (hk : P.underlying k = some (.struct #[f0])) (hc : P.cellsOf k = 1) {v : Value} (h : v.formed P k = true) : ∃ x, v = .agg #[x] := by
  cases v with
  | agg cs =>
    simp only [Value.formed, hk, hc, beq_iff_eq] at h
    obtain ⟨l⟩ := cs
    match l, h with
    | [x], _ => exact ⟨x, rfl⟩
  | _ => simp [Value.formed, hk] at h
theorem key_one_inv {P : Program} {k ti : TypeId} {f0 : Field} (hk : P.underlying k = some (.struct #[f0])) (hc : P.cellsOf k = 1) (hn : (f0.name != "_") = true) (h0 : (f0.offset, f0.type) = (0, ti)) (ci : P.cellsOf ti = 1) (ui : P.underlying ti = some (.int .i64))
    (hkt : P.keyType k = true) {n : Nat} (hs : P.types.size = n + 1) {v : Value} {kl : Lit} (h : keyOf P k v = some kl) : ∃ u, v = .agg #[.int .i64 u] ∧ (Lit.int .i64 u).wf = true := by
  have e0 : f0.offset = 0 := congrArg Prod.fst h0
  have e1 : f0.type = ti := congrArg Prod.snd h0
  unfold keyOf at h
  rw [hk] at h
  simp only [hkt, Bool.true_and] at h
  split at h
  · next hf =>
    obtain ⟨x, rfl⟩ := one_cells hk hc hf
    rw [hs] at h
    simp only [Value.cells] at h
    unfold Program.keyLits at h
    rw [hk] at h
    simp [hc, hn, e0, e1, ci] at h
    unfold Program.keyLits at h
    rw [ui] at h
    cases x with
    | int q a =>
      by_cases hq : q = IntKind.i64 ∧ (Lit.int .i64 a).wf = true
      · obtain ⟨rfl, h1⟩ := hq
        exact ⟨a, rfl, h1⟩
      · simp [hq] at h
    | _ => simp at h
  · cases h
end Go.Proofs.Ytjdhbpgipoifkaa
