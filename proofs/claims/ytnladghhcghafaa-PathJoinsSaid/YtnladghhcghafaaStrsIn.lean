/- A slice of texts that was handed over: what its cells hold; a copy of it that a call makes for itself. No conditions. -/
import Derived.Test.YtnladghhcghafaaStrs
import Derived.Test.YtnladghhcghafaaFields
import Derived.Laws.AppendOwn
import Derived.Laws.AppendOwnNone
namespace Go.Proofs.Ytnladghhcghafaa
open Go.ChangeShapes Go.WideShapes Go.ChangeAt Go.RowKit

/-- the row at ao holds the texts L, and a slice that is nil has no room -/
def SLI (w : World) (ao : Option Addr) (cap : Nat) (L : List ByteArray) : Prop := SL w ao L ∧ (ao = none → cap = 0)
section
variable {H : Type} {enc : TypeId × Value → H} {P : Program} {w : World} {base : Nat} {spare : Nat → Bool} {held : Bool}
theorem open_strs {r : Reach} {b0 : Nat} {t e : TypeId} {v : Value} {d : DataW H} {p : List MemPlace} (ht : P.underlying t = some (.slice e)) (he : P.underlying e = some .string) (hc : P.cellsOf e = 1)
    (hv : Value.okWide P w r b0 t v) (h : DataW.Trod enc P w base spare held t v d p) :
    ∃ ao cap L, v = .slice ao L.length cap ∧ L.length ≤ maxLen ∧ SLI w ao cap L := by
  obtain ⟨a0, n0, k0, rfl⟩ := okWide_slice ht hv
  obtain ⟨fuel, hf⟩ := h
  simp only [Value.cells] at hf
  rcases Deep.open_slice ht hf with ⟨h0, _⟩ | ⟨a, len, cap, m, n, D, Pl, hcs, _, hl, hm, hmm, _, hi⟩
  · simp at h0
    obtain ⟨rfl, rfl, rfl⟩ := h0
    exact ⟨none, 0, [], rfl, Nat.zero_le _, fun i hi => absurd hi (Nat.not_lt_zero i), fun _ => rfl⟩
  simp at hcs
  obtain ⟨rfl, rfl, rfl⟩ := hcs
  have hlm : n0 ≤ m := by rw [hmm]; split <;> omega
  rw [hc] at hi
  have each : ∀ i, i < n0 → ∃ x : ByteArray, w.cell? (a.add (i * 1)) = some (.string x) := by
    intro i hin
    obtain ⟨cs, hcl, htr⟩ := hi i (by omega)
    obtain ⟨_, hlen, hat⟩ := World.cells?_some hcl
    match cs, hlen with
    | [x0], _ =>
      obtain ⟨q0, e0, _, wf0⟩ := DataW.trod_string he htr
      simp at e0
      subst e0
      have a0 := hat 0 (by omega)
      rw [Deep.add_add] at a0
      exact ⟨q0, a0⟩
  obtain ⟨F, hF⟩ := Deep.choose_lt each
  refine ⟨some a, k0, (List.range n0).map F, by simp, by simp; omega, fun i hi => ?_, fun e => by cases e⟩
  have hin : i < n0 := by simpa using hi
  rw [List.getElem_map, List.getElem_range]
  have b0 := hF i hin
  have z0 := hF 0 (by omega)
  have hs := cell_spot z0
  obtain ⟨bk, off, sp⟩ := a
  rw [show ((⟨bk, off, sp⟩ : Addr).add (0 * 1)) = ⟨bk, off, sp⟩ from rfl] at hs
  simp only at hs
  subst hs
  rw [addr_plus, Nat.mul_one] at b0
  exact ⟨bk, off, rfl, b0⟩
end
theorem SL.news {w : World} {ad : Addr} {L : List ByteArray} (h : SL w (some ad) L) : ∀ (j : Nat) (u : Value), (L.map Value.string)[j]? = some u → w.cell? (ad.add j) = some u := by
  intro j u hj
  rw [List.getElem?_map] at hj
  by_cases hl : j < L.length
  · rw [List.getElem?_eq_getElem hl] at hj
    cases hj
    obtain ⟨bk2, off2, h1, h2⟩ := h j hl
    cases h1
    rw [addr_plus]
    exact h2
  · rw [List.getElem?_eq_none (by omega)] at hj
    cases hj
theorem strs_one (L : List ByteArray) : ∀ u ∈ L.map Value.string, u.oneCell' = true := by
  intro u hu
  obtain ⟨s, _, rfl⟩ := List.mem_map.1 hu
  rfl
/-- append([]string{}, l...): the copy of a list that a call makes for itself -/
theorem wpList_copy_strs {ops : Array Oper} {rest : List Oper} {o : Oper} {a : Act} {w : World} {Q : Exit → Act → World → Prop} (hgd : o.guard = none) (s x : Operand)
    (ho : o.op = .call { callee := .builtin .append, args := #[s, x], argTypes := #[23, 23] }) (g : Nat) (hs : a.eval s = .slice (some ⟨g, 0, none⟩) 0 0) (hg : w.heap[g]? = some (.cells #[] 9 (0, 0)))
    (ao : Option Addr) (cap : Nat) (L : List ByteArray) (hx : a.eval x = .slice ao L.length cap) (hL : SLI w ao cap L) (hl : L.length ≤ 1000000) (B : Nat) (w0 : World) (hB : B ≤ g) (hb : Below B w0 w)
    (h : ∀ ao' cap' w', SL w' ao' L → Below B w0 w' → wpList Try.prog ops Q rest (a.put o.dst (.slice ao' L.length cap')) w') : wpList Try.prog ops Q (o :: rest) a w := by
  obtain ⟨i0, hi, hz0, hz1, hz2⟩ := info_parts str_info
  have hlt := lt_of_block hg
  have hown : w.ownsRow B 9 1 (.slice (some ⟨g, 0, none⟩) 0 0) 0 [] := ⟨by simp, .inr ⟨g, 0, #[], rfl, hB, hg, Nat.le_refl _, Nat.zero_le _, by simp, by simp⟩⟩
  cases ao with
  | none =>
    have hc := hL.2 rfl
    have hn : L = [] := by
      cases L with
      | nil => rfl
      | cons y l => obtain ⟨_, _, h1, _⟩ := hL.1 0 (by simp); cases h1
    subst hc hn
    exact wpList_append_own_none hgd s x 23 ho B 9 i0 1 Try.underlying23 hi _ 0 [] hs hown hx (h _ _ _ (SL.nil _ _) hb)
  | some ad =>
    refine wpList_append_own w hgd s x 23 ho B 9 i0 (.string ⟨#[]⟩) 1 16 Try.underlying23 hi hz0 hz1 hz2 rfl (by decide) _ 0 [] hs hown ad L.length cap (L.map Value.string) hx (by simp) hL.1.news (strs_one L) (by unfold maxLen; omega) (by omega) (Nat.le_trans hB (Nat.le_of_lt hlt)) ?_
    intro v' w' hown' hgrow _
    rw [List.nil_append] at hown'
    obtain ⟨ao', cap', rfl, hsl, _⟩ := SL.ofOwn hown' (by omega)
    exact h ao' cap' w' hsl (hb.grown hgrow (Nat.le_trans hB (Nat.le_of_lt hlt)) (fun k hk => by cases hk; exact hB))
end Go.Proofs.Ytnladghhcghafaa
