/- Plain facts on places: where an address lies, which address lies anywhere, how many pages lie below one, the least address above all. No conditions. -/
import Derived.Test.YtimjlfkdbkafeaaGreatG02b
set_option linter.unusedVariables false
namespace Go.Proofs.YtimjlfkdbkafeaaGreat
open Go.RowKit
/-- does an address lie anywhere? in which chain, on which page? -/
def ofB (ep : Int) (L : List (List Int)) (a : Int) : Bool := goodB ep L && decide (0 ≤ a ∧ a < 16384)
def ofC (ep : Int) (L : List (List Int)) (a : Int) : Int := if ofB ep L a = true then a % (L.length : Int) else 0
def ofP (ep : Int) (L : List (List Int)) (a : Int) : Int := if ofB ep L a = true then a / (L.length : Int) else 0
/-- which address lies at a place? -1: none -/
def addrR (ep : Int) (L : List (List Int)) (c p : Int) : Int := if goodB ep L = true ∧ (0 ≤ c ∧ c < L.length) ∧ (0 ≤ p ∧ p < 16384) ∧ p * L.length + c < 16384 then p * L.length + c else -1
/-- the units of an address's chain -/
def chainR (ep : Int) (L : List (List Int)) (a : Int) : List Int := if ofB ep L a = true then L.getD (a % (L.length : Int)).toNat [] else []
/-- an address between 0 and the most -/
def clampA (a : Int) : Int := max 0 (min a 16384)
/-- how many numbers from 0 to a, c apart from a multiple of n -/
def cntB (a c n : Int) : Int := if c < a then (a - c - 1) / n + 1 else 0
def belowR (ep : Int) (L : List (List Int)) (a c : Int) : Int := if goodB ep L = true ∧ (0 ≤ c ∧ c < L.length) then cntB (clampA a) c L.length else 0
/-- the least address above the first v pages of chain i -/
def gain (n i v : Int) : Int := if v ≤ 0 then 0 else (min v 4096 - 1) * n + i + 1
/-- the same of all that tell of unit u -/
def tailJ (n i u : Int) (K : List (Int × Int)) (t : Int) : Int := K.foldl (fun t e => if e.1 = u then max t (gain n i e.2) else t) t
def tailK (n i : Int) (K : List (Int × Int)) (c : List Int) (t : Int) : Int := c.foldl (fun t u => tailJ n i u K t) t
def tailN (L : List (List Int)) (K : List (Int × Int)) (k : Nat) : Int := (List.range k).foldl (fun (t : Int) (i : Nat) => tailK L.length i K (L.getD i []) t) 0
def tailR (ep : Int) (L : List (List Int)) (K : List (Int × Int)) : Int := if goodB ep L = true then tailN L K L.length else 0

theorem good_len {ep : Int} {L : List (List Int)} (h : goodB ep L = true) : 1 ≤ L.length ∧ L.length ≤ 4 := (goodB_iff.1 h).2.1
theorem ofB_iff {ep : Int} {L : List (List Int)} {a : Int} : ofB ep L a = true ↔ goodB ep L = true ∧ 0 ≤ a ∧ a < 16384 := by simp [ofB]
theorem len_cases {n : Int} (h : 1 ≤ n ∧ n ≤ 4) : n = 1 ∨ n = 2 ∨ n = 3 ∨ n = 4 := by omega
theorem of_range {n a : Int} (h : 1 ≤ n ∧ n ≤ 4) (ha : 0 ≤ a ∧ a < 16384) : (0 ≤ a % n ∧ a % n < n) ∧ (0 ≤ a / n ∧ a / n < 16384) ∧ a / n * n + a % n = a := by
  rcases len_cases h with rfl | rfl | rfl | rfl <;> omega
theorem of_inj {n a b : Int} (h : 1 ≤ n ∧ n ≤ 4) (e : a % n = b % n) (f : a / n = b / n) : a = b := by
  rcases len_cases h with rfl | rfl | rfl | rfl <;> omega
/-- what lies at the place of an address is that address -/
theorem addr_of {ep : Int} {L : List (List Int)} {a : Int} (hg : goodB ep L = true) (ha : 0 ≤ a ∧ a < 16384) : addrR ep L (ofC ep L a) (ofP ep L a) = a := by
  have hn := good_len hg
  have ho := ofB_iff.2 ⟨hg, ha⟩
  obtain ⟨h1, h2, h3⟩ := of_range (n := L.length) ⟨by omega, by omega⟩ ha
  unfold addrR ofC ofP
  rw [if_pos ho, if_pos ho, if_pos ⟨hg, h1, h2, by omega⟩]
  exact h3
/-- the pages below a, of chain 0 to k - 1 -/
def sumB (a n : Int) : Nat → Int
  | 0 => 0
  | k + 1 => sumB a n k + cntB a k n
theorem sumB_all {a n : Int} (h : 1 ≤ n ∧ n ≤ 4) (ha : 0 ≤ a) : sumB a n n.toNat = a := by
  rcases len_cases h with rfl | rfl | rfl | rfl
  · simp only [show (1 : Int).toNat = 1 from rfl, sumB, cntB]
    split <;> omega
  · simp only [show (2 : Int).toNat = 2 from rfl, sumB, cntB]
    repeat' split
    all_goals omega
  · simp only [show (3 : Int).toNat = 3 from rfl, sumB, cntB]
    repeat' split
    all_goals omega
  · simp only [show (4 : Int).toNat = 4 from rfl, sumB, cntB]
    repeat' split
    all_goals omega
theorem cntB_own {a n : Int} (h : 1 ≤ n ∧ n ≤ 4) (ha : 0 ≤ a) : cntB a (a % n) n = a / n := by
  unfold cntB
  rcases len_cases h with rfl | rfl | rfl | rfl <;> split <;> omega
theorem cntB_range {a c n : Int} (h : 1 ≤ n ∧ n ≤ 4) (hc : 0 ≤ c) (ha : 0 ≤ a ∧ a ≤ 16384) : 0 ≤ cntB a c n ∧ cntB a c n ≤ 16384 := by
  unfold cntB
  rcases len_cases h with rfl | rfl | rfl | rfl <;> split <;> omega
/-- one more that is below a -/
theorem cntB_step {a c n : Int} {k : Nat} (h : 1 ≤ n ∧ n ≤ 4) : (c + k * n < a ↔ (k : Int) < cntB a c n) := by
  unfold cntB
  rcases len_cases h with rfl | rfl | rfl | rfl <;> split <;> omega
theorem round_next {n a : Int} (h : 1 ≤ n ∧ n ≤ 4) : (a + 1) % n = (a % n + 1) % n ∧ (((a + 1) / n = a / n) ↔ a % n < (a + 1) % n) ∧ (a + n) % n = a % n ∧ (a + n) / n = a / n + 1 := by
  rcases len_cases h with rfl | rfl | rfl | rfl <;> omega
theorem gain_range {n i v : Int} (hn : 1 ≤ n ∧ n ≤ 4) (hi : 0 ≤ i ∧ i < n) : 0 ≤ gain n i v ∧ gain n i v ≤ 16384 := by
  unfold gain
  rcases len_cases hn with rfl | rfl | rfl | rfl <;> split <;> omega
theorem tailJ_snoc (n i u : Int) (K : List (Int × Int)) (e : Int × Int) (t : Int) : tailJ n i u (K ++ [e]) t = if e.1 = u then max (tailJ n i u K t) (gain n i e.2) else tailJ n i u K t := by
  unfold tailJ
  rw [List.foldl_append]
  rfl
theorem tailK_snoc (n i : Int) (K : List (Int × Int)) (c : List Int) (u t : Int) : tailK n i K (c ++ [u]) t = tailJ n i u K (tailK n i K c t) := by
  unfold tailK
  rw [List.foldl_append]
  rfl
theorem tailN_succ (L : List (List Int)) (K : List (Int × Int)) (k : Nat) : tailN L K (k + 1) = tailK L.length k K (L.getD k []) (tailN L K k) := by
  unfold tailN
  rw [List.range_succ, List.foldl_append]
  rfl
/-- v is the greatest of t and what is said of e in K with e.1 = u -/
theorem tailJ_spec (n i u : Int) (K : List (Int × Int)) (t : Int) : (tailJ n i u K t = t ∨ ∃ e ∈ K, e.1 = u ∧ tailJ n i u K t = gain n i e.2) ∧ t ≤ tailJ n i u K t ∧ ∀ e ∈ K, e.1 = u → gain n i e.2 ≤ tailJ n i u K t := by
  induction K generalizing t with
  | nil => exact ⟨.inl rfl, Int.le_refl _, fun e he => by cases he⟩
  | cons x K ih =>
    have hx : tailJ n i u (x :: K) t = tailJ n i u K (if x.1 = u then max t (gain n i x.2) else t) := rfl
    obtain ⟨h1, h2, h3⟩ := ih (if x.1 = u then max t (gain n i x.2) else t)
    rw [hx]
    by_cases hu : x.1 = u
    · rw [if_pos hu] at h1 h2 h3 ⊢
      refine ⟨?_, by omega, fun e he hf => ?_⟩
      · rcases h1 with h1 | ⟨e, he, hf, h1⟩
        · rcases Int.le_total t (gain n i x.2) with h4 | h4
          · exact .inr ⟨x, List.mem_cons_self, hu, by omega⟩
          · exact .inl (by omega)
        · exact .inr ⟨e, List.mem_cons_of_mem _ he, hf, h1⟩
      · rcases List.mem_cons.1 he with rfl | he
        · omega
        · exact h3 e he hf
    · rw [if_neg hu] at h1 h2 h3 ⊢
      refine ⟨?_, h2, fun e he hf => ?_⟩
      · rcases h1 with h1 | ⟨e, he, hf, h1⟩
        · exact .inl h1
        · exact .inr ⟨e, List.mem_cons_of_mem _ he, hf, h1⟩
      · rcases List.mem_cons.1 he with rfl | he
        · exact absurd hf hu
        · exact h3 e he hf
theorem tailK_spec (n i : Int) (K : List (Int × Int)) (c : List Int) (t : Int) : (tailK n i K c t = t ∨ ∃ u ∈ c, ∃ e ∈ K, e.1 = u ∧ tailK n i K c t = gain n i e.2) ∧ t ≤ tailK n i K c t ∧ ∀ u ∈ c, ∀ e ∈ K, e.1 = u → gain n i e.2 ≤ tailK n i K c t := by
  induction c generalizing t with
  | nil => exact ⟨.inl rfl, Int.le_refl _, fun u hu => by cases hu⟩
  | cons x c ih =>
    have hx : tailK n i K (x :: c) t = tailK n i K c (tailJ n i x K t) := rfl
    obtain ⟨h1, h2, h3⟩ := ih (tailJ n i x K t)
    obtain ⟨k1, k2, k3⟩ := tailJ_spec n i x K t
    rw [hx]
    refine ⟨?_, by omega, fun u hu e he hf => ?_⟩
    · rcases h1 with h1 | ⟨u, hu, e, he, hf, h1⟩
      · rw [h1]
        rcases k1 with k1 | ⟨e, he, hf, k1⟩
        · exact .inl k1
        · exact .inr ⟨x, List.mem_cons_self, e, he, hf, k1⟩
      · exact .inr ⟨u, List.mem_cons_of_mem _ hu, e, he, hf, h1⟩
    · rcases List.mem_cons.1 hu with rfl | hu
      · have := k3 e he hf
        omega
      · exact h3 u hu e he hf
/-- what is said of all: the greatest -/
theorem tailN_spec (L : List (List Int)) (K : List (Int × Int)) (k : Nat) : (tailN L K k = 0 ∨ ∃ i, i < k ∧ ∃ u ∈ L.getD i [], ∃ e ∈ K, e.1 = u ∧ tailN L K k = gain L.length i e.2) ∧ 0 ≤ tailN L K k ∧ ∀ i, i < k → ∀ u ∈ L.getD i [], ∀ e ∈ K, e.1 = u → gain L.length i e.2 ≤ tailN L K k := by
  induction k with
  | zero => exact ⟨.inl rfl, Int.le_refl _, fun i hi => absurd hi (Nat.not_lt_zero i)⟩
  | succ k ih =>
    obtain ⟨h1, h2, h3⟩ := ih
    obtain ⟨k1, k2, k3⟩ := tailK_spec L.length k K (L.getD k []) (tailN L K k)
    rw [tailN_succ]
    refine ⟨?_, by omega, fun i hi u hu e he hf => ?_⟩
    · rcases k1 with k1 | ⟨u, hu, e, he, hf, k1⟩
      · rw [k1]
        rcases h1 with h1 | ⟨i, hi, u, hu, e, he, hf, h1⟩
        · exact .inl h1
        · exact .inr ⟨i, by omega, u, hu, e, he, hf, h1⟩
      · exact .inr ⟨k, by omega, u, hu, e, he, hf, k1⟩
    · by_cases hik : i = k
      · subst hik
        exact k3 u hu e he hf
      · have := h3 i (by omega) u hu e he hf
        omega
/-- whoever is one of them, and not less than any, is it -/
theorem tailN_of {L : List (List Int)} {K : List (Int × Int)} {k : Nat} {t : Int} (h0 : 0 ≤ t) (h1 : t = 0 ∨ ∃ i, i < k ∧ ∃ u ∈ L.getD i [], ∃ e ∈ K, e.1 = u ∧ t = gain L.length i e.2) (h2 : ∀ i, i < k → ∀ u ∈ L.getD i [], ∀ e ∈ K, e.1 = u → gain L.length i e.2 ≤ t) : t = tailN L K k := by
  obtain ⟨k1, k2, k3⟩ := tailN_spec L K k
  have a1 : t ≤ tailN L K k := by
    rcases h1 with h1 | ⟨i, hi, u, hu, e, he, hf, h1⟩
    · omega
    · rw [h1]; exact k3 i hi u hu e he hf
  have a2 : tailN L K k ≤ t := by
    rcases k1 with k1 | ⟨i, hi, u, hu, e, he, hf, k1⟩
    · omega
    · rw [k1]; exact h2 i hi u hu e he hf
  omega
/-- page by page: behind k pages -/
theorem gain_step {n i t : Int} {k : Nat} (hn : 1 ≤ n ∧ n ≤ 4) (hi : 0 ≤ i ∧ i < n) (hk : k < 4096) (v : Int) (hv : v = k) : max (max t (gain n i v)) ((k : Int) * n + i + 1) = max t (gain n i (v + 1)) ∧ (k : Int) * n + i < 16384 := by
  subst hv
  unfold gain
  rcases len_cases hn with rfl | rfl | rfl | rfl <;> split <;> split <;> omega
theorem gain_most {n i v : Int} : gain n i v = gain n i (max 0 (min v 4096)) := by
  unfold gain
  by_cases h : v ≤ 0
  · rw [if_pos h, if_pos (by omega)]
  · rw [if_neg h, if_neg (by omega), show min (max 0 (min v 4096)) 4096 = min v 4096 by omega]
theorem gain_zero (n i : Int) : gain n i 0 = 0 := rfl
end Go.Proofs.YtimjlfkdbkafeaaGreat
