/- A slice of texts: what its cells hold; one that was made, filled place by place; one that was handed over. No conditions. -/
import Derived.Test.YtnladghhcghafaaFrame
import Derived.Test.YtnladghhcghafaaKept
import Derived.Laws.MakeOwn
import Derived.Laws.NewBlocks
namespace Go.Proofs.Ytnladghhcghafaa
open Go.ChangeShapes Go.WideShapes Go.ChangeAt Go.RowKit

/-- the row at ao holds the texts L -/
def SL (w : World) (ao : Option Addr) (L : List ByteArray) : Prop := ∀ i (h : i < L.length), ∃ bk off, ao = some ⟨bk, off, none⟩ ∧ w.cell? ⟨bk, off + i, none⟩ = some (.string L[i])
theorem SL.nil (w : World) (ao : Option Addr) : SL w ao [] := fun i h => absurd h (Nat.not_lt_zero i)
theorem SL.below {w w' : World} {ao : Option Addr} {L : List ByteArray} (h : SL w ao L) (hb : Below w.heap.size w w') : SL w' ao L := by
  intro i hi
  obtain ⟨bk, off, h1, h2⟩ := h i hi
  exact ⟨bk, off, h1, cellB hb (block_lt_of_cell h2) h2⟩
theorem SL.take {w : World} {ao : Option Addr} {L : List ByteArray} (h : SL w ao L) (k : Nat) : SL w ao (L.take k) := by
  intro i hi
  rw [List.length_take] at hi
  obtain ⟨bk, off, h1, h2⟩ := h i (by omega)
  exact ⟨bk, off, h1, by rw [List.getElem_take]; exact h2⟩
theorem SL.left {w : World} {ao : Option Addr} {L M : List ByteArray} (h : SL w ao (L ++ M)) : SL w ao L := by
  have := h.take L.length
  rwa [List.take_left] at this
theorem SL.last {w : World} {ao : Option Addr} {L : List ByteArray} {s : ByteArray} (h : SL w ao (L ++ [s])) : ∃ bk off, ao = some ⟨bk, off, none⟩ ∧ w.cell? ⟨bk, off + L.length, none⟩ = some (.string s) := by
  obtain ⟨bk, off, h1, h2⟩ := h L.length (by simp)
  exact ⟨bk, off, h1, by rw [h2]; simp⟩
theorem SL.ofBlock {w : World} {g : Nat} {L : List ByteArray} {cs : Array Value} {t : TypeId} {fr : Nat × Nat} (h : w.heap[g]? = some (.cells cs t fr)) (hc : ∀ i (hi : i < L.length), cs[i]? = some (.string L[i])) : SL w (some ⟨g, 0, none⟩) L := by
  intro i hi
  refine ⟨g, 0, rfl, ?_⟩
  rw [Nat.zero_add, ← hc i hi]
  simp [World.cell?, h]
theorem SL.ofOwn {w : World} {base n : Nat} {e : TypeId} {v : Value} {L : List ByteArray} (h : w.ownsRow base e 1 v n (L.map Value.string)) (hn : n = L.length) : ∃ ao cap, v = .slice ao L.length cap ∧ SL w ao L ∧ L.length ≤ cap := by
  subst hn
  rcases h.2 with ⟨rfl, h0⟩ | ⟨g, cap, cur, rfl, _, hh, hnc, _, hcs, ht⟩
  · have : L = [] := List.eq_nil_of_length_eq_zero (by simpa using h0)
    subst this
    exact ⟨none, 0, rfl, SL.nil _ _, Nat.le_refl _⟩
  · refine ⟨some ⟨g, 0, none⟩, cap, rfl, SL.ofBlock hh fun i hi => ?_, hnc⟩
    have h2 : (cur.toList.take (L.length * 1))[i]? = some (.string L[i]) := by
      rw [ht, List.getElem?_map, List.getElem?_eq_getElem hi]
      rfl
    rw [List.getElem?_take] at h2
    rw [if_pos (by omega)] at h2
    simpa using h2
/-- so many texts: below k those of L, above empty ones -/
def fillS (L : List ByteArray) (k : Nat) : Array Value := ((List.range L.length).map fun i => Value.string (if i < k then L.getD i ⟨#[]⟩ else ⟨#[]⟩)).toArray
theorem fillS_size (L : List ByteArray) (k : Nat) : (fillS L k).size = L.length := by simp [fillS]
theorem fillS_get (L : List ByteArray) (k i : Nat) (h : i < L.length) : (fillS L k)[i]? = some (.string (if i < k then L.getD i ⟨#[]⟩ else ⟨#[]⟩)) := by
  unfold fillS
  simp only [List.getElem?_toArray, List.getElem?_map]
  rw [List.getElem?_range h]
  rfl
theorem fillS_succ (L : List ByteArray) (k : Nat) (h : k < L.length) : (fillS L k).setIfInBounds k (.string L[k]) = fillS L (k + 1) := by
  apply Array.ext_getElem?
  intro i
  rw [Array.getElem?_setIfInBounds]
  by_cases hi : i < L.length
  · rw [fillS_get L (k + 1) i hi]
    by_cases e : k = i
    · subst e
      simp [fillS_size, h]
    · rw [if_neg e, fillS_get L k i hi]
      have : (i < k) ↔ (i < k + 1) := by omega
      simp [this]
  · have h1 : (fillS L k)[i]? = none := by simp [fillS_size]; omega
    have h2 : (fillS L (k + 1))[i]? = none := by simp [fillS_size]; omega
    rw [h1, h2]
    have : ¬ k = i := by omega
    simp [this]
theorem fillS_all (L : List ByteArray) (i : Nat) (h : i < L.length) : (fillS L L.length)[i]? = some (.string L[i]) := by
  rw [fillS_get L L.length i h, if_pos h]
  simp [h]
theorem madeS (L : List ByteArray) : madeCells (Value.string ⟨#[]⟩).cells (L.length * 1) = fillS L 0 := by
  apply Array.ext_getElem?
  intro i
  by_cases hi : i < L.length
  · rw [fillS_get L 0 i hi, if_neg (Nat.not_lt_zero i)]
    unfold madeCells
    rw [Nat.mul_one]
    simp [hi, Value.cells, Nat.mod_one]
  · rw [Array.getElem?_eq_none (by rw [size_madeCells]; omega), Array.getElem?_eq_none (by rw [fillS_size]; omega)]
theorem str_info : (Try.prog.info? 9).map (fun i => (i.zero, i.size, i.bytes)) = some (some (.string ⟨#[]⟩), 1, 16) := by kernel_rfl
theorem make_strs (L : List ByteArray) (h : L.length ≤ 1000000) (w : World) :
    (Instr.makeSlice 23 (.int .i64 (L.length : Int)) (.int .i64 (L.length : Int))).run Try.prog w = .ok (.slice (some ⟨w.heap.size, 0, none⟩) L.length L.length) (w.alloc (.cells (fillS L 0) 9)) := by
  cases hq : Try.prog.info? 9 with
  | none => have h0 := str_info; rw [hq] at h0; cases h0
  | some i =>
    have h0 := str_info
    rw [hq] at h0
    simp only [Option.map_some, Option.some.injEq, Prod.mk.injEq] at h0
    obtain ⟨hz, hs, hb⟩ := h0
    have hr := run_make (P := Try.prog) w 23 9 i (.string ⟨#[]⟩) Try.underlying23 hq hz .i64 .i64 L.length L.length (by omega) (Int.le_refl _) (by rw [hb]; omega) (by omega)
    simp only [Int.toNat_natCast] at hr
    rw [hr, hs, madeS L]
end Go.Proofs.Ytnladghhcghafaa
