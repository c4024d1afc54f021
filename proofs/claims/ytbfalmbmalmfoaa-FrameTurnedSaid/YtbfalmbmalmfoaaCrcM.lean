/- Plain facts on the sum of 32 bits of IEEE 802.3: bit by bit, byte by byte, joined, and turned bits; no program is spoken of. Conditions: the numbers' bounds, as each lemma states them. -/
import Derived.RowKit
namespace Go.Proofs.Ytbfalmbmalmfoaa

def cpoly : Nat := 3988292384
/-- a bit 0 behind it -/
def cstep (x : Nat) : Nat := if x % 2 = 1 then (x / 2) ^^^ cpoly else x / 2
def csteps : Nat → Nat → Nat
  | 0, x => x
  | n + 1, x => csteps n (cstep x)
def cbyte (x : Nat) (c : UInt8) : Nat := csteps 8 (x ^^^ c.toNat)
def cfold (x : Nat) (l : List UInt8) : Nat := l.foldl cbyte x
def cflip (x : Nat) : Nat := x ^^^ 4294967295
def csum (l : List UInt8) : Nat := cflip (cfold 4294967295 l)
def cmore (s : Nat) (l : List UInt8) : Nat := cflip (cfold (cflip s) l)
def cjoin (a b n : Nat) : Nat := csteps (8 * n) a ^^^ b

theorem xor_half (x y : Nat) : (x ^^^ y) / 2 = (x / 2) ^^^ (y / 2) := by
  have e : ∀ z, z / 2 = z >>> 1 := fun z => by rw [Nat.shiftRight_eq_div_pow, Nat.pow_one]
  rw [e, e, e, Nat.shiftRight_xor_distrib]
theorem xor_mod2 (x y : Nat) : (x ^^^ y) % 2 = (x % 2 + y % 2) % 2 := by
  have h := Nat.xor_mod_two_pow (a := x) (b := y) (n := 1)
  rw [Nat.pow_one] at h
  rw [h]
  rcases Nat.mod_two_eq_zero_or_one x with a | a <;> rcases Nat.mod_two_eq_zero_or_one y with b | b <;> rw [a, b] <;> decide
theorem cstep_xor (x y : Nat) : cstep (x ^^^ y) = cstep x ^^^ cstep y := by
  unfold cstep
  rw [xor_mod2, xor_half]
  rcases Nat.mod_two_eq_zero_or_one x with a | a <;> rcases Nat.mod_two_eq_zero_or_one y with b | b <;> rw [a, b]
  · simp
  · simp [Nat.xor_assoc]
  · simp only [Nat.reduceAdd, Nat.reduceMod, if_true, Nat.zero_ne_one, if_false]
    rw [Nat.xor_assoc, Nat.xor_comm (y / 2) cpoly, ← Nat.xor_assoc]
  · simp only [Nat.reduceAdd, Nat.reduceMod, if_true, Nat.zero_ne_one, if_false]
    rw [Nat.xor_assoc, Nat.xor_comm cpoly, Nat.xor_assoc, Nat.xor_self, Nat.xor_zero]
theorem csteps_xor (n x y : Nat) : csteps n (x ^^^ y) = csteps n x ^^^ csteps n y := by
  induction n generalizing x y with
  | zero => rfl
  | succ n ih => simp only [csteps, cstep_xor, ih]
theorem csteps_add (m n x : Nat) : csteps (m + n) x = csteps n (csteps m x) := by
  induction m generalizing x with
  | zero => simp [csteps]
  | succ m ih => rw [show m + 1 + n = (m + n) + 1 by omega]; simp only [csteps, ih]
theorem cstep_even (x : Nat) : cstep (2 * x) = x := by
  unfold cstep
  rw [if_neg (by omega)]
  omega
theorem csteps_pow (k x : Nat) : csteps k (2 ^ k * x) = x := by
  induction k with
  | zero => simp [csteps]
  | succ k ih => rw [csteps, Nat.pow_succ, Nat.mul_comm (2 ^ k) 2, Nat.mul_assoc, cstep_even, ih]
theorem csteps_zero (n : Nat) : csteps n 0 = 0 := by
  have h := csteps_pow n 0
  rwa [Nat.mul_zero] at h
theorem cstep_lt {x : Nat} (h : x < 4294967296) : cstep x < 4294967296 := by
  unfold cstep
  split
  · exact Nat.xor_lt_two_pow (n := 32) (show x / 2 < 2 ^ 32 by omega) (by decide)
  · omega
theorem csteps_lt (n : Nat) {x : Nat} (h : x < 4294967296) : csteps n x < 4294967296 := by
  induction n generalizing x with
  | zero => exact h
  | succ n ih => exact ih (cstep_lt h)
theorem xor_eq_zero {a b : Nat} (h : a ^^^ b = 0) : a = b := by
  have e : a ^^^ b ^^^ b = 0 ^^^ b := by rw [h]
  rwa [Nat.xor_assoc, Nat.xor_self, Nat.xor_zero, Nat.zero_xor] at e
theorem cstep_eq_zero {x : Nat} (h : x < 4294967296) (e : cstep x = 0) : x = 0 := by
  unfold cstep at e
  split at e
  · have hp : x / 2 = cpoly := xor_eq_zero e
    unfold cpoly at hp
    omega
  · omega
theorem csteps_eq_zero (n : Nat) {x : Nat} (h : x < 4294967296) (e : csteps n x = 0) : x = 0 := by
  induction n generalizing x with
  | zero => exact e
  | succ n ih => exact cstep_eq_zero h (ih (cstep_lt h) e)

/-! ### texts -/
theorem cbyte_lt {x : Nat} (h : x < 4294967296) (c : UInt8) : cbyte x c < 4294967296 :=
  csteps_lt 8 (Nat.xor_lt_two_pow (n := 32) h (by have := c.toNat_lt; omega))
theorem cfold_lt {x : Nat} (h : x < 4294967296) (l : List UInt8) : cfold x l < 4294967296 := by
  induction l generalizing x with
  | nil => exact h
  | cons c l ih => exact ih (cbyte_lt h c)
theorem cflip_lt {x : Nat} (h : x < 4294967296) : cflip x < 4294967296 := Nat.xor_lt_two_pow (n := 32) h (by decide)
theorem csum_lt (l : List UInt8) : csum l < 4294967296 := cflip_lt (cfold_lt (by decide) l)
theorem cflip_flip (x : Nat) : cflip (cflip x) = x := by unfold cflip; rw [Nat.xor_assoc, Nat.xor_self, Nat.xor_zero]
theorem cfold_append (x : Nat) (l m : List UInt8) : cfold x (l ++ m) = cfold (cfold x l) m := List.foldl_append
theorem cfold_xor (x y : Nat) (l m : List UInt8) (h : l.length = m.length) : cfold (x ^^^ y) (List.zipWith (· ^^^ ·) l m) = cfold x l ^^^ cfold y m := by
  induction l generalizing x y m with
  | nil =>
    obtain rfl : m = [] := by simpa using h.symm
    rfl
  | cons c l ih =>
    cases m with
    | nil => simp at h
    | cons d m =>
      have e : cbyte (x ^^^ y) (c ^^^ d) = cbyte x c ^^^ cbyte y d := by
        unfold cbyte
        rw [UInt8.toNat_xor, ← csteps_xor]
        congr 1
        rw [Nat.xor_assoc, Nat.xor_assoc, ← Nat.xor_assoc y, Nat.xor_comm y, Nat.xor_assoc]
      show cfold (cbyte (x ^^^ y) (c ^^^ d)) (List.zipWith (· ^^^ ·) l m) = cfold (cbyte x c) l ^^^ cfold (cbyte y d) m
      rw [e]
      exact ih _ _ m (by simpa using h)
theorem cfold_split (x : Nat) (l : List UInt8) : cfold x l = csteps (8 * l.length) x ^^^ cfold 0 l := by
  induction l generalizing x with
  | nil => simp [cfold, csteps]
  | cons c l ih =>
    have e : cbyte x c = csteps 8 x ^^^ cbyte 0 c := by unfold cbyte; rw [csteps_xor, Nat.zero_xor]
    show cfold (cbyte x c) l = csteps (8 * (l.length + 1)) x ^^^ cfold (cbyte 0 c) l
    rw [ih, ih (cbyte 0 c), e, csteps_xor, show 8 * (l.length + 1) = 8 + 8 * l.length by omega, csteps_add, Nat.xor_assoc]
theorem csum_more (l m : List UInt8) : csum (l ++ m) = cmore (csum l) m := by
  unfold csum cmore
  rw [cflip_flip, cfold_append]
theorem csum_join (l m : List UInt8) : csum (l ++ m) = cjoin (csum l) (csum m) m.length := by
  unfold csum cjoin cflip
  rw [cfold_append, cfold_split (cfold 4294967295 l) m, cfold_split 4294967295 m, csteps_xor]
  generalize csteps (8 * m.length) (cfold 4294967295 l) = a
  generalize csteps (8 * m.length) 4294967295 = b
  generalize cfold 0 m = c
  generalize 4294967295 = d
  rw [Nat.xor_assoc a b, ← Nat.xor_assoc b (b ^^^ c) d, ← Nat.xor_assoc b b c, Nat.xor_self, Nat.zero_xor, Nat.xor_assoc]
theorem csum_nil : csum [] = 0 := by decide
theorem cmore_nil (s : Nat) : cmore s [] = s := cflip_flip s
theorem csum_linear (a b c : List UInt8) (h1 : a.length = b.length) (h2 : b.length = c.length) :
    csum (List.zipWith (· ^^^ ·) (List.zipWith (· ^^^ ·) a b) c) = csum a ^^^ csum b ^^^ csum c := by
  have e : (4294967295 : Nat) = (4294967295 ^^^ 4294967295) ^^^ 4294967295 := by rw [Nat.xor_self, Nat.zero_xor]
  unfold csum cflip
  rw [show cfold 4294967295 (List.zipWith (· ^^^ ·) (List.zipWith (· ^^^ ·) a b) c) = cfold ((4294967295 ^^^ 4294967295) ^^^ 4294967295) (List.zipWith (· ^^^ ·) (List.zipWith (· ^^^ ·) a b) c) by rw [← e], cfold_xor _ _ _ _ (by simp; omega), cfold_xor _ _ _ _ h1]
  generalize cfold 4294967295 a = x
  generalize cfold 4294967295 b = y
  generalize cfold 4294967295 c = z
  generalize 4294967295 = d
  rw [Nat.xor_assoc x d, ← Nat.xor_assoc d y d, Nat.xor_comm d y, Nat.xor_assoc y d d, Nat.xor_self, Nat.xor_zero, Nat.xor_assoc (x ^^^ y)]

/-! ### turned bits -/
/-- the number that bytes are, the lowest of them first -/
def leN : List UInt8 → Nat
  | [] => 0
  | c :: l => c.toNat + 256 * leN l
theorem xor_low (k a b : Nat) (h : a < 2 ^ k) : a ^^^ 2 ^ k * b = a + 2 ^ k * b := by
  rw [Nat.add_comm, Nat.xor_comm]
  apply Nat.eq_of_testBit_eq
  intro i
  rw [Nat.testBit_two_pow_mul_add _ h, Nat.testBit_xor, Nat.mul_comm, Nat.testBit_mul_two_pow]
  by_cases c : i < k
  · have n1 : ¬ k ≤ i := by omega
    simp [c, n1]
  · have n1 : k ≤ i := by omega
    have n2 : a.testBit i = false := Nat.testBit_lt_two_pow (Nat.lt_of_lt_of_le h (Nat.pow_le_pow_right (by decide) n1))
    simp [c, n1, n2]
theorem cfold_le (x : Nat) (l : List UInt8) : cfold x l = csteps (8 * l.length) (x ^^^ leN l) := by
  induction l generalizing x with
  | nil => simp [cfold, leN, csteps]
  | cons c l ih =>
    have hc : c.toNat < 2 ^ 8 := c.toNat_lt
    have e : leN (c :: l) = c.toNat ^^^ 2 ^ 8 * leN l := by rw [xor_low 8 _ _ hc]; rfl
    show cfold (cbyte x c) l = csteps (8 * (l.length + 1)) (x ^^^ leN (c :: l))
    rw [ih, e, show 8 * (l.length + 1) = 8 + 8 * l.length by omega, csteps_add, ← Nat.xor_assoc, csteps_xor 8, csteps_pow]
    rfl
/-- two texts that differ by the bits of f (32 of them) from place k on have the same sum just if none of these bits lies in the text -/
theorem csum_turned (l d : List UInt8) (f k : Nat) (hl : l.length = d.length) (hk : k ≤ 8 * d.length) (hf : f < 4294967296)
    (hd : leN d = 2 ^ k * (f % 2 ^ (8 * d.length - k))) :
    (csum (List.zipWith (· ^^^ ·) l d) = csum l) ↔ f % 2 ^ (8 * d.length - k) = 0 := by
  have h1 : csum (List.zipWith (· ^^^ ·) l d) = csum l ^^^ cfold 0 d := by
    unfold csum cflip
    rw [show cfold 4294967295 (List.zipWith (· ^^^ ·) l d) = cfold (4294967295 ^^^ 0) (List.zipWith (· ^^^ ·) l d) by rw [Nat.xor_zero], cfold_xor _ _ _ _ hl]
    rw [Nat.xor_assoc, Nat.xor_assoc, Nat.xor_comm (cfold 0 d)]
  have h2 : cfold 0 d = csteps (8 * d.length - k) (f % 2 ^ (8 * d.length - k)) := by
    rw [cfold_le, Nat.zero_xor, hd, show 8 * d.length = k + (8 * d.length - k) by omega, csteps_add, show k + (8 * d.length - k) - k = 8 * d.length - k by omega, csteps_pow]
  have h3 : f % 2 ^ (8 * d.length - k) < 4294967296 := Nat.lt_of_le_of_lt (Nat.mod_le _ _) hf
  rw [h1, h2]
  constructor
  · intro h
    apply csteps_eq_zero _ h3
    have h4 : csum l ^^^ (csum l ^^^ csteps (8 * d.length - k) (f % 2 ^ (8 * d.length - k))) = csum l ^^^ csum l := by rw [h]
    rw [← Nat.xor_assoc, Nat.xor_self, Nat.zero_xor] at h4
    exact h4
  · intro h
    rw [h, csteps_zero, Nat.xor_zero]
/-- a byte's eight steps by a table: what eight bits 0 make of the lowest byte, and the rest -/
theorem csteps_table (x : Nat) : csteps 8 x = csteps 8 (x % 256) ^^^ (x / 256) := by
  have e : x = x % 256 ^^^ 2 ^ 8 * (x / 256) := by
    rw [xor_low 8 _ _ (Nat.mod_lt _ (by decide))]
    omega
  have h : csteps 8 x = csteps 8 (x % 256 ^^^ 2 ^ 8 * (x / 256)) := by rw [← e]
  rw [h, csteps_xor, csteps_pow]
end Go.Proofs.Ytbfalmbmalmfoaa
