/- Plain facts on places: where an address lies, which address lies anywhere, how many pages lie below one, the least address above all. No conditions. -/
import Derived.Test.YthffjanidjjkdaaGreatG02b
set_option linter.unusedVariables false
namespace Go.Proofs.YthffjanidjjkdaaGreat
open Go.RowKit
/-- does an address lie anywhere? in which chain, on which page? -/
def ofB (ep : Int) (L : List (List Int)) (a : Int) : Bool := goodB ep L && decide (0 ≤ a ∧ a < 16384)
def ofC (ep : Int) (L : List (List Int)) (a : Int) : Int := if ofB ep L a = true then a % (L.length : Int) else 0
def ofP (ep : Int) (L : List (List Int)) (a : Int) : Int := if ofB ep L a = true then a / (L.length : Int) else 0
/-- which address lies at a place? -1: none -/
def addrR (ep : Int) (L : List (List Int)) (c p : Int) : Int := if goodB ep L = true ∧ (0 ≤ c ∧ c < L.length) ∧ (0 ≤ p ∧ p < 16384) ∧ p * L.length + c < 16384 then p * L.length + c else -1
/-- the units of an address's chain -/
def chainR (ep : Int) (L : List (List Int)) (a : Int) : List Int := if ofB ep L a = true then L.getD (a % (L.length : Int)).toNat [] else []
/-- an address between 0 and the most -/
def clampA (a : Int) : Int := max 0 (min a 16384)
/-- how many numbers from 0 to a, c apart from a multiple of n -/
def cntB (a c n : Int) : Int := if c < a then (a - c - 1) / n + 1 else 0
def belowR (ep : Int) (L : List (List Int)) (a c : Int) : Int := if goodB ep L = true ∧ (0 ≤ c ∧ c < L.length) then cntB (clampA a) c L.length else 0
/-- the least address above the first v pages of chain i -/
def gain (n i v : Int) : Int := if v ≤ 0 then 0 else (min v 4096 - 1) * n + i + 1
/-- the same of all that tell of unit u -/
def tailJ (n i u : Int) (K : List (Int × Int)) (t : Int) : Int := K.foldl (fun t e => if e.1 = u then max t (gain n i e.2) else t) t
def tailK (n i : Int) (K : List (Int × Int)) (c : List Int) (t : Int) : Int := c.foldl (fun t u => tailJ n i u K t) t
def tailN (L : List (List Int)) (K : List (Int × Int)) (k : Nat) : Int := (List.range k).foldl (fun (t : Int) (i : Nat) => tailK L.length i K (L.getD i []) t) 0
def tailR (ep : Int) (L : List (List Int)) (K : List (Int × Int)) : Int := if goodB ep L = true then tailN L K L.length else 0

theorem good_len {ep : Int} {L : List (List Int)} (h : goodB ep L = true) : 1 ≤ L.length ∧ L.length ≤ 4 := (goodB_iff.1 h).2.1
theorem ofB_iff {ep : Int} {L : List (List Int)} {a : Int} : ofB ep L a = true ↔ goodB ep L = true ∧ 0 ≤ a ∧ a < 16384 := by simp [ofB]
theorem len_cases {n : Int} (h : 1 ≤ n ∧ n ≤ 4) : n = 1 ∨ n = 2 ∨ n = 3 ∨ n = 4 := by omega
theorem of_range {n a : Int} (h : 1 ≤ n ∧ n ≤ 4) (ha : 0 ≤ a ∧ a < 16384) : (0 ≤ a % n ∧ a % n < n) ∧ (0 ≤ a / n ∧ a / n < 16384) ∧ a / n * n + a % n = a := by
  rcases len_cases h with rfl | rfl | rfl | rfl <;> omega
end Go.Proofs.YthffjanidjjkdaaGreat
