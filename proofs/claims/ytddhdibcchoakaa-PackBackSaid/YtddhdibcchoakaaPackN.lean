/- Plain facts on fields that are packed one behind the other; a packer beside another object. Conditions: as each lemma states them. -/
import Derived.Test.YtddhdibcchoakaaPackW
import Derived.Test.YtddhdibcchoakaaPackG
import Derived.Test.YtddhdibcchoakaaPackL
namespace Go.Proofs.Ytddhdibcchoakaa
open Go.RowKit

def St.go (t : St) (f : Fld) : St := if f.n = 0 then t.text f.s else t.num f.v f.n
def stT (l : List Fld) (k : Nat) : St := (l.take k).foldl St.go st0
theorem stT_zero (l : List Fld) : stT l 0 = st0 := by simp [stT]
theorem stT_succ (l : List Fld) (k : Nat) (h : k < l.length) : stT l (k + 1) = (stT l k).go l[k] := by
  unfold stT
  rw [List.take_succ_eq_append_getElem h, List.foldl_append]
  rfl
theorem go_size (t : St) (f : Fld) : (t.go f).s.size ≤ t.s.size + f.s.size + 8 := by
  unfold St.go
  split
  · unfold St.text St.add St.spoil
    split
    · have := putR_small f.s.size 2 (by decide)
      simp only [ByteArray.size_append]
      omega
    · simp only; omega
  · unfold St.num St.add St.spoil
    split
    · next h =>
      have := putR_small f.v f.n (numOk_n h)
      simp only [ByteArray.size_append]
      omega
    · simp only; omega
theorem stT_size (l : List Fld) (k : Nat) (h : k ≤ l.length) : (stT l k).s.size ≤ sumS (l.take k) + 8 * k := by
  induction k with
  | zero => rw [stT_zero]; exact Nat.zero_le _
  | succ k ih =>
    have := ih (by omega)
    have := go_size (stT l k) (l[k]'(by omega))
    rw [stT_succ l k (by omega), sumS_take_succ l k (by omega)]
    omega
theorem stT_small (l : List Fld) (k : Nat) (h : k ≤ l.length) (hf : fairB l) : (stT l k).s.size ≤ 1000000 := by
  have := stT_size l k h
  have := sumS_take_le l k
  have := hf.1
  have := hf.2
  omega
theorem sumS_mem (l : List Fld) (k : Nat) (h : k < l.length) : l[k].s.size ≤ sumS l := by
  have := sumS_take_succ l k h
  have := sumS_take_le l (k + 1)
  omega

/-- a packer, and a block that was made behind it -/
theorem PKs.beside {S : Nat → Prop} {w w' : World} {b q : Nat} {t : St} (h : PKs S w b t) (hb : Below w.heap.size w w') (hq : w.heap.size ≤ q) (hq' : q < w'.heap.size) : PKs (fun k => S k ∨ k = q) w' b t := by
  have hlt := h.lt
  obtain ⟨h1, h2, v, h3, h4, h5⟩ := h
  refine ⟨fun k hk => ?_, fun hk => ?_, v, below_heap hb h3, (Kept.ofBelow hb (fun _ => True)).owns h4 (fun _ _ => trivial), fun k hk => ⟨fun hs => ?_, (h5 k hk).2⟩⟩
  · rcases hk with hk | rfl
    · exact Nat.lt_of_lt_of_le (h1 k hk) hb.size
    · exact hq'
  · rcases hk with hk | rfl
    · exact h2 hk
    · omega
  · rcases hs with hs | rfl
    · exact (h5 k hk).1 hs
    · have := (h4.lt k hk).2
      omega
/-- what one field makes of both packers -/
theorem both_go {N q b : Nat} {w w1 w2 w3 : World} {t : St} (hb : Below N w w1) (hN : N ≤ w.heap.size) (hp : PKs (fun k => k < N ∨ k = q) w2 b t) (hk : Kept (fun k => k < N ∨ k = q) w1 w2) (hq : QK w3 q t) (hk3 : Kept (fun k => k ≠ q) w2 w3) (hNq : N ≤ q) :
    PKs (fun k => k < N ∨ k = q) w3 b t ∧ QK w3 q t ∧ Below N w w3 := by
  have s1 : N ≤ w1.heap.size := Nat.le_trans hN hb.size
  have b2 : Below N w w2 := hb.trans (hk.toBelow s1 (fun k h => .inl h))
  exact ⟨hp.keep hk3 (fun k h => fun e => h (.inr e)), hq, b2.trans (hk3.toBelow (Nat.le_trans s1 hk.size) (fun k h => by omega))⟩
end Go.Proofs.Ytddhdibcchoakaa
