/- Plain facts on whole numbers, their bits and their bytes; no program is spoken of. Conditions: the numbers' bounds, as each lemma states them. Plain facts on projections: a list of numbers that rises, each once; which projections are good; which may come next. No conditions. Plain facts on whole numbers, their bits and their bytes; no program is spoken of. Conditions: the numbers' bounds, as each lemma states them. -/
import Derived.Laws.Bits64b
import Derived.Laws.BitsAllLaws
import Derived.Laws.Wrap64
import Derived.Laws.BitsLemmas
import Derived.RowKit
set_option linter.unusedVariables false
namespace Go.Proofs.Ytbiihcoobknmjaa
open Go.RowKit

/-- a number of 64 bits without a sign -/
def U64 (v : Int) : Prop := 0 ≤ v ∧ v < 18446744073709551616

theorem U64.lo {v : Int} (h : U64 v) : 0 ≤ v := h.1
theorem wrapU_in {v : Int} (h : U64 v) : IntKind.u64.wrap v = v := by
  rw [IntKind.wrap_u64]; exact Int.emod_eq_of_lt h.1 h.2
theorem wrapU_U (v : Int) : U64 (IntKind.u64.wrap v) := by
  rw [IntKind.wrap_u64]; exact ⟨Int.emod_nonneg _ (by decide), Int.emod_lt_of_pos _ (by decide)⟩

theorem two_pow_cast (n : Nat) : (2 : Int) ^ n = ((2 ^ n : Nat) : Int) := by simp
theorem two_pow_pos (n : Nat) : (1 : Int) ≤ 2 ^ n := by
  rw [two_pow_cast]; have := Nat.two_pow_pos n; omega
theorem two_pow_mono {m n : Nat} (h : m ≤ n) : (2 : Int) ^ m ≤ 2 ^ n := by
  rw [two_pow_cast, two_pow_cast]; have := Nat.pow_le_pow_right (by decide : 2 > 0) h; omega
theorem two_pow_succ (n : Nat) : (2 : Int) ^ (n + 1) = 2 * 2 ^ n := by rw [Int.pow_succ]; omega
theorem two_pow_split {m n : Nat} (h : m ≤ n) : (2 : Int) ^ n = 2 ^ (n - m) * 2 ^ m := by
  rw [← Int.pow_add, Nat.sub_add_cancel h]
theorem two_64 : (2 : Int) ^ 64 = 18446744073709551616 := by decide
theorem two_63 : (2 : Int) ^ 63 = 9223372036854775808 := by decide

theorem U64.ediv {v : Int} (h : U64 v) (n : Nat) : U64 (v / 2 ^ n) := by
  refine ⟨Int.ediv_nonneg h.1 (by have := two_pow_pos n; omega), ?_⟩
  have := Int.ediv_le_self (2 ^ n) h.1
  have := h.2
  omega
theorem U64.emod {v : Int} (h : U64 v) (n : Nat) : U64 (v % 2 ^ n) := by
  have hp := two_pow_pos n
  refine ⟨Int.emod_nonneg _ (by omega), ?_⟩
  have h1 : v % 2 ^ n ≤ v := by
    have e := Int.mul_ediv_add_emod v (2 ^ n)
    have d : 0 ≤ 2 ^ n * (v / 2 ^ n) := Int.mul_nonneg (by omega) (Int.ediv_nonneg h.1 (by omega))
    omega
  have := h.2
  omega
theorem pow_U {n : Nat} (h : n ≤ 63) : U64 ((2 : Int) ^ n) := by
  have h1 := two_pow_pos n
  have h2 := two_pow_mono h
  rw [two_63] at h2
  exact ⟨by omega, by omega⟩
def U32 (v : Int) : Prop := 0 ≤ v ∧ v < 4294967296
theorem two_32 : (2 : Int) ^ 32 = 4294967296 := by decide
theorem wrap64_eq (x : Int) : wrap64 x = (x + 9223372036854775808) % 18446744073709551616 - 9223372036854775808 := rfl
end Go.Proofs.Ytbiihcoobknmjaa
namespace Go.Proofs.Ytbiihcoobknmjaa
open Go.RowKit

/-- a number is put into a rising list, once -/
def insU (u : Int) : List Int → List Int
  | [] => [u]
  | x :: l => if x < u then x :: insU u l else if x = u then x :: l else u :: x :: l
theorem insU_mem (u y : Int) (l : List Int) : y ∈ insU u l ↔ y = u ∨ y ∈ l := by
  induction l with
  | nil => simp [insU]
  | cons x l ih =>
    unfold insU
    split
    · rw [List.mem_cons, ih, List.mem_cons]
      constructor
      · rintro (h | h | h) <;> simp [h]
      · rintro (h | h | h) <;> simp [h]
    · split
      · next h => subst h; simp
      · simp
/-- where it is put, or that it is there -/
theorem insU_at (u : Int) (l : List Int) (j : Nat) (hj : j ≤ l.length) (hb : ∀ i (h : i < l.length), i < j → l[i] < u) (he : ∀ h : j < l.length, ¬ l[j] < u) :
    insU u l = if ∃ h : j < l.length, l[j] = u then l else l.take j ++ u :: l.drop j := by
  induction l generalizing j with
  | nil =>
    obtain rfl : j = 0 := by simpa using hj
    simp [insU]
  | cons x l ih =>
    cases j with
    | zero =>
      have h0 : ¬ x < u := he (by simp)
      unfold insU
      rw [if_neg h0]
      by_cases hx : x = u
      · rw [if_pos hx, if_pos ⟨by simp, hx⟩]
      · rw [if_neg hx, if_neg (by rintro ⟨_, h⟩; exact hx h)]
        rfl
    | succ j =>
      have h0 : x < u := hb 0 (by simp) (by omega)
      have e := ih j (by simpa using hj) (fun i h hi => by have := hb (i + 1) (by simpa using h) (by omega); simpa using this) (fun h => by have := he (by simpa using h); simpa using this)
      unfold insU
      rw [if_pos h0, e]
      by_cases hx : ∃ h : j < l.length, l[j] = u
      · rw [if_pos hx, if_pos (by obtain ⟨h1, h2⟩ := hx; exact ⟨by simpa using h1, by simpa using h2⟩)]
      · rw [if_neg hx, if_neg (by rintro ⟨h1, h2⟩; exact hx ⟨by simpa using h1, by simpa using h2⟩)]
        rfl
/-- each once, rising -/
def Rises (l : List Int) : Prop := l.Pairwise (· < ·)
theorem insU_rises (u : Int) (l : List Int) (h : Rises l) : Rises (insU u l) := by
  unfold Rises at *
  induction l with
  | nil => simp [insU]
  | cons x l ih =>
    rw [List.pairwise_cons] at h
    unfold insU
    split
    · next hx =>
      rw [List.pairwise_cons]
      refine ⟨fun y hy => ?_, ih h.2⟩
      rcases (insU_mem u y l).1 hy with rfl | hy
      · exact hx
      · exact h.1 y hy
    · split
      · exact List.pairwise_cons.2 h
      · next h1 h2 =>
        rw [List.pairwise_cons]
        refine ⟨fun y hy => ?_, List.pairwise_cons.2 h⟩
        rcases List.mem_cons.1 hy with rfl | hy
        · omega
        · have := h.1 y hy; omega
theorem rises_ext {l m : List Int} (hl : Rises l) (hm : Rises m) (h : ∀ x, x ∈ l ↔ x ∈ m) : l = m := by
  unfold Rises at *
  induction l generalizing m with
  | nil =>
    cases m with
    | nil => rfl
    | cons y m => exact absurd ((h y).2 (by simp)) (by simp)
  | cons x l ih =>
    cases m with
    | nil => exact absurd ((h x).1 (by simp)) (by simp)
    | cons y m =>
      rw [List.pairwise_cons] at hl hm
      have e : x = y := by
        rcases List.mem_cons.1 ((h x).1 (by simp)) with e | hx
        · exact e
        · rcases List.mem_cons.1 ((h y).2 (by simp)) with e | hy
          · exact e.symm
          · have := hl.1 y hy; have := hm.1 x hx; omega
      subst e
      rw [ih hl.2 hm.2 (fun z => ?_)]
      constructor
      · intro hz
        rcases List.mem_cons.1 ((h z).1 (by simp [hz])) with e | h'
        · subst e; exact absurd (hl.1 z hz) (by omega)
        · exact h'
      · intro hz
        rcases List.mem_cons.1 ((h z).2 (by simp [hz])) with e | h'
        · subst e; exact absurd (hm.1 z hz) (by omega)
        · exact h'
theorem rises_nodup {l : List Int} (h : Rises l) : l.Nodup := by
  unfold Rises at h
  exact h.imp (fun hxy e => by omega)
/-- numbers put in one behind the other -/
def insAll (l : List Int) (m : List Int) : List Int := m.foldl (fun a u => insU u a) l
theorem insAll_snoc (l m : List Int) (u : Int) : insAll l (m ++ [u]) = insU u (insAll l m) := by
  unfold insAll; rw [List.foldl_append]; rfl
theorem insAll_mem (l m : List Int) (y : Int) : y ∈ insAll l m ↔ y ∈ l ∨ y ∈ m := by
  induction m generalizing l with
  | nil => simp [insAll]
  | cons u m ih =>
    show y ∈ insAll (insU u l) m ↔ _
    rw [ih, insU_mem, List.mem_cons]
    constructor
    · rintro ((h | h) | h) <;> simp [h]
    · rintro (h | h | h) <;> simp [h]
theorem insAll_rises (l m : List Int) (h : Rises l) : Rises (insAll l m) := by
  induction m generalizing l with
  | nil => exact h
  | cons u m ih => exact ih _ (insU_rises u l h)
/-- all units of some chains, rising, each once -/
def unitsR (L : List (List Int)) : List Int := insAll [] L.flatten
theorem unitsR_mem (L : List (List Int)) (y : Int) : y ∈ unitsR L ↔ y ∈ L.flatten := by simp [unitsR, insAll_mem]
theorem unitsR_rises (L : List (List Int)) : Rises (unitsR L) := insAll_rises _ _ List.Pairwise.nil
theorem unitsR_of {l : List Int} {L : List (List Int)} (h : Rises l) (hm : ∀ x, x ∈ l ↔ x ∈ L.flatten) : l = unitsR L :=
  rises_ext h (unitsR_rises L) (fun x => (hm x).trans (unitsR_mem L x).symm)
theorem insU_length (u : Int) (l : List Int) (h : Rises l) : (insU u l).length = l.length + if u ∈ l then 0 else 1 := by
  unfold Rises at h
  induction l with
  | nil => simp [insU]
  | cons x l ih =>
    rw [List.pairwise_cons] at h
    unfold insU
    split
    · next hx =>
      rw [List.length_cons, ih h.2, List.length_cons]
      have : u ∈ x :: l ↔ u ∈ l := by
        rw [List.mem_cons]
        constructor
        · rintro (e | e)
          · omega
          · exact e
        · exact fun e => .inr e
      simp only [this]
      omega
    · split
      · next h1 h2 => subst h2; simp
      · next h1 h2 =>
        have : ¬ u ∈ x :: l := by
          rw [List.mem_cons]
          rintro (e | e)
          · exact h2 e.symm
          · have := h.1 u e; omega
        rw [if_neg this]
        simp
theorem insAll_length (l m : List Int) (h : Rises l) : (insAll l m).length ≤ l.length + m.length ∧ ((insAll l m).length = l.length + m.length ↔ m.Nodup ∧ ∀ u ∈ m, u ∉ l) := by
  induction m generalizing l with
  | nil => simp [insAll]
  | cons u m ih =>
    have hl := insU_length u l h
    obtain ⟨h1, h2⟩ := ih _ (insU_rises u l h)
    have e : insAll l (u :: m) = insAll (insU u l) m := rfl
    rw [e, List.length_cons]
    by_cases hu : u ∈ l
    · rw [if_pos hu] at hl
      refine ⟨by omega, ?_⟩
      constructor
      · intro h3; omega
      · rintro ⟨_, h4⟩; exact absurd hu (h4 u (by simp))
    · rw [if_neg hu] at hl
      refine ⟨by omega, ?_⟩
      rw [show (insAll (insU u l) m).length = l.length + (m.length + 1) ↔ (insAll (insU u l) m).length = (insU u l).length + m.length by omega, h2, List.nodup_cons]
      constructor
      · rintro ⟨h3, h4⟩
        refine ⟨⟨fun hm => h4 u hm ((insU_mem u u l).2 (.inl rfl)), h3⟩, fun v hv => ?_⟩
        rcases List.mem_cons.1 hv with rfl | hv
        · exact hu
        · exact fun hvl => h4 v hv ((insU_mem u v l).2 (.inr hvl))
      · rintro ⟨⟨h3, h4⟩, h5⟩
        refine ⟨h4, fun v hv hvl => ?_⟩
        rcases (insU_mem u v l).1 hvl with rfl | hvl
        · exact h3 hv
        · exact h5 v (by simp [hv]) hvl
theorem unitsR_length (L : List (List Int)) : (unitsR L).length = L.flatten.length ↔ L.flatten.Nodup := by
  have h := (insAll_length [] L.flatten List.Pairwise.nil).2
  simp only [List.length_nil, Nat.zero_add] at h
  rw [show unitsR L = insAll [] L.flatten from rfl, h]
  simp

/-- a chain's units, and how many -/
def chainB (c : List Int) : Bool := decide (1 ≤ c.length ∧ c.length ≤ 4) && c.all (fun u => decide (0 ≤ u ∧ u ≤ 15))
/-- is a projection good? -/
def goodB (ep : Int) (L : List (List Int)) : Bool := decide (0 ≤ ep ∧ ep ≤ 2147483647) && (decide (1 ≤ L.length ∧ L.length ≤ 4) && (L.all chainB && decide L.flatten.Nodup))
theorem chainB_iff {c : List Int} : chainB c = true ↔ (1 ≤ c.length ∧ c.length ≤ 4) ∧ ∀ u ∈ c, 0 ≤ u ∧ u ≤ 15 := by
  simp [chainB, List.all_eq_true]
theorem goodB_iff {ep : Int} {L : List (List Int)} : goodB ep L = true ↔ (0 ≤ ep ∧ ep ≤ 2147483647) ∧ (1 ≤ L.length ∧ L.length ≤ 4) ∧ (∀ c ∈ L, chainB c = true) ∧ L.flatten.Nodup := by
  simp [goodB, List.all_eq_true]

/-- how a chain goes on: units of the one ahead in their order, one or more, then such as stood nowhere -/
def seqB (all old : List Int) : List Int → List Int → Bool → Bool
  | [], _, met => met
  | x :: now, rest, met => if x ∈ old then (match rest.dropWhile (fun y => y != x) with | [] => false | _ :: r => seqB all old now r true) else met && (x :: now).all (fun y => !decide (y ∈ all))
/-- may one come next behind another? -/
def nextB (e1 : Int) (L1 : List (List Int)) (e2 : Int) (L2 : List (List Int)) : Bool :=
  goodB e1 L1 && (goodB e2 L2 && (decide (e2 = e1 + 1) && (decide (L2.length = L1.length) && (L1.zip L2).all (fun c => seqB (unitsR L1) c.1 c.2 c.1 false))))
theorem seqB_mem {all old : List Int} : ∀ {now rest : List Int} {met : Bool}, seqB all old now rest met = true → ∀ u ∈ now, u ∈ old ∨ u ∉ all
  | [], _, _, _ => fun u hu => by cases hu
  | x :: now, rest, met, h => by
    unfold seqB at h
    split at h
    · next hx =>
      split at h
      · cases h
      · intro u hu
        rcases List.mem_cons.1 hu with rfl | hu
        · exact .inl hx
        · exact seqB_mem h u hu
    · simp only [Bool.and_eq_true, List.all_eq_true, Bool.not_eq_true', decide_eq_false_iff_not] at h
      exact fun u hu => .inr (h.2 u hu)
theorem seqB_head {all old : List Int} {x : Int} {now rest : List Int} (h : seqB all old (x :: now) rest false = true) : x ∈ old := by
  unfold seqB at h
  split at h
  · next hx => exact hx
  · simp at h
end Go.Proofs.Ytbiihcoobknmjaa
namespace Go.Proofs.Ytbiihcoobknmjaa
open Go.RowKit

/-! ### the mask of n bits -/
def ones (n : Nat) : Int := 2 ^ n - 1
theorem ones_nat (n : Nat) : ones n = ((2 ^ n - 1 : Nat) : Int) := by
  unfold ones; rw [two_pow_cast]; have := Nat.two_pow_pos n; omega
theorem ones_U {n : Nat} (h : n ≤ 64) : U64 (ones n) := by
  have h1 := two_pow_pos n
  have h2 := two_pow_mono h
  rw [two_64] at h2
  exact ⟨by unfold ones; omega, by unfold ones; omega⟩
theorem mask_val {n : Nat} (h : n ≤ 64) : IntKind.u64.wrap (IntKind.u64.wrap (2 ^ n) - 1) = ones n := by
  rcases Nat.lt_or_ge n 64 with hn | hn
  · have hp := pow_U (show n ≤ 63 by omega)
    rw [wrapU_in hp]
    exact wrapU_in (ones_U h)
  · obtain rfl : n = 64 := by omega
    decide

/-- some bits of a number -/
def fieldI (v : Int) (a n : Nat) : Int := v / 2 ^ a % 2 ^ n
theorem nat_and_ones (x n : Nat) : x &&& (2 ^ n - 1) = x % 2 ^ n := Nat.and_two_pow_sub_one_eq_mod x n
theorem and_ones {x : Int} (hx : U64 x) {n : Nat} (h : n ≤ 64) : bits .and .u64 x (ones n) = x % 2 ^ n := by
  have ho := ones_U h
  rw [u64_and _ _ hx.1 hx.2 ho.1 ho.2, ones_nat, Int.toNat_natCast, nat_and_ones, two_pow_cast, Int.natCast_emod, Int.toNat_of_nonneg hx.1]
theorem field_val {v : Int} (hv : U64 v) (a : Nat) {n : Nat} (h : n ≤ 64) : bits .and .u64 (v / 2 ^ a) (ones n) = fieldI v a n :=
  and_ones (hv.ediv a) h
theorem fieldI_U {v : Int} (hv : U64 v) (a n : Nat) : U64 (fieldI v a n) := (hv.ediv a).emod n
theorem fieldI_lt (v : Int) (a n : Nat) : fieldI v a n < 2 ^ n := Int.emod_lt_of_pos _ (by have := two_pow_pos n; omega)

/-- a number with other bits there -/
def withI (v : Int) (a n : Nat) (f : Int) : Int := v - fieldI v a n * 2 ^ a + f % 2 ^ n * 2 ^ a

theorem nat_with (v f a n : Nat) (han : a + n ≤ 64) (hv : v < 2 ^ 64) :
    (v &&& (2 ^ 64 - ((2 ^ n - 1) * 2 ^ a + 1))) ||| ((f % 2 ^ n) * 2 ^ a) = 2 ^ (a + n) * (v / 2 ^ (a + n)) + (2 ^ a * (f % 2 ^ n) + v % 2 ^ a) := by
  have hb : (2 ^ n - 1) * 2 ^ a < 2 ^ 64 := by
    have h1 : (2 ^ n - 1) * 2 ^ a < 2 ^ n * 2 ^ a := Nat.mul_lt_mul_of_pos_right (by have := Nat.two_pow_pos n; omega) (Nat.two_pow_pos a)
    have h2 : 2 ^ n * 2 ^ a ≤ 2 ^ 64 := by rw [← Nat.pow_add]; exact Nat.pow_le_pow_right (by decide) (by omega)
    omega
  have hlo : v % 2 ^ a < 2 ^ a := Nat.mod_lt _ (Nat.two_pow_pos a)
  have hg : f % 2 ^ n < 2 ^ n := Nat.mod_lt _ (Nat.two_pow_pos n)
  have hin : 2 ^ a * (f % 2 ^ n) + v % 2 ^ a < 2 ^ (a + n) := by
    rw [Nat.pow_add]
    have : 2 ^ a * (f % 2 ^ n) + 2 ^ a ≤ 2 ^ a * 2 ^ n := by
      rw [← Nat.mul_succ]; exact Nat.mul_le_mul_left _ hg
    omega
  apply Nat.eq_of_testBit_eq
  intro i
  rw [Nat.testBit_two_pow_mul_add _ hin, Nat.testBit_two_pow_mul_add _ hlo, Nat.testBit_or, Nat.testBit_and, Nat.testBit_two_pow_sub_succ hb, Nat.testBit_mul_two_pow, Nat.testBit_mul_two_pow, Nat.testBit_two_pow_sub_one, Nat.testBit_mod_two_pow, Nat.testBit_mod_two_pow, Nat.testBit_div_two_pow]
  by_cases h64 : i < 64
  · by_cases h1 : i < a
    · have n1 : ¬ a ≤ i := by omega
      have n2 : i < a + n := by omega
      simp [h64, h1, n1, n2]
    · have n1 : a ≤ i := by omega
      by_cases h2 : i < a + n
      · have n2 : i - a < n := by omega
        simp [h1, n1, n2, h2]
      · have n2 : ¬ i - a < n := by omega
        have n3 : a + n + (i - (a + n)) = i := by omega
        have n4 : i - (a + n) + (a + n) = i := by omega
        simp [h64, n2, h2, n4]
  · have hv' : v.testBit i = false := Nat.testBit_lt_two_pow (Nat.lt_of_lt_of_le hv (Nat.pow_le_pow_right (by decide) (by omega)))
    have n2 : ¬ i < a + n := by omega
    have n4 : i - (a + n) + (a + n) = i := by omega
    have n5 : ¬ i - a < n := by omega
    simp [hv', h64, n2, n4, n5]

theorem nat_split3 (v a n : Nat) : v = 2 ^ (a + n) * (v / 2 ^ (a + n)) + (2 ^ a * (v / 2 ^ a % 2 ^ n) + v % 2 ^ a) := by
  have h1 := Nat.div_add_mod v (2 ^ a)
  have h2 := Nat.div_add_mod (v / 2 ^ a) (2 ^ n)
  rw [Nat.div_div_eq_div_mul, ← Nat.pow_add] at h2
  have h3 : 2 ^ a * (v / 2 ^ a) = 2 ^ (a + n) * (v / 2 ^ (a + n)) + 2 ^ a * (v / 2 ^ a % 2 ^ n) := by
    rw [Nat.pow_add, Nat.mul_assoc, ← Nat.mul_add, ← Nat.pow_add, h2]
  omega

theorem ones_shift_U {a n : Nat} (h : a + n ≤ 64) : U64 (ones n * 2 ^ a) := by
  have h0 := two_pow_pos n
  have ha := two_pow_pos a
  have h2 : (2 : Int) ^ n * 2 ^ a ≤ 2 ^ 64 := by rw [← Int.pow_add]; exact two_pow_mono (by omega)
  rw [two_64] at h2
  unfold ones
  have e : (2 ^ n - 1) * 2 ^ a = (2 : Int) ^ n * 2 ^ a - 2 ^ a := by rw [Int.sub_mul]; omega
  exact ⟨Int.mul_nonneg (by omega) (by omega), by omega⟩
theorem low_shift_U {f : Int} {a n : Nat} (h : a + n ≤ 64) : U64 (f % 2 ^ n * 2 ^ a) := by
  have h0 := two_pow_pos n
  have ha := two_pow_pos a
  have h2 : (2 : Int) ^ n * 2 ^ a ≤ 2 ^ 64 := by rw [← Int.pow_add]; exact two_pow_mono (by omega)
  rw [two_64] at h2
  have hl : f % 2 ^ n < 2 ^ n := Int.emod_lt_of_pos _ (by omega)
  have h3 : f % 2 ^ n * 2 ^ a < 2 ^ n * 2 ^ a := Int.mul_lt_mul_of_pos_right hl (by omega)
  exact ⟨Int.mul_nonneg (Int.emod_nonneg _ (by omega)) (by omega), by omega⟩
theorem withI_nat (v f a n : Nat) : withI (v : Int) a n (f : Int) = ((2 ^ (a + n) * (v / 2 ^ (a + n)) + (2 ^ a * (f % 2 ^ n) + v % 2 ^ a) : Nat) : Int) := by
  have h := nat_split3 v a n
  unfold withI fieldI
  rw [two_pow_cast, two_pow_cast, ← Int.natCast_ediv, ← Int.natCast_emod, ← Int.natCast_emod, ← Int.natCast_mul, ← Int.natCast_mul]
  have c1 : v / 2 ^ a % 2 ^ n * 2 ^ a = 2 ^ a * (v / 2 ^ a % 2 ^ n) := Nat.mul_comm _ _
  have c2 : f % 2 ^ n * 2 ^ a = 2 ^ a * (f % 2 ^ n) := Nat.mul_comm _ _
  omega
theorem with_val {v f : Int} (hv : U64 v) (hf : U64 f) {a n : Nat} (h : a + n ≤ 64) :
    bits .or .u64 (bits .andNot .u64 v (IntKind.u64.wrap (ones n * 2 ^ a))) (IntKind.u64.wrap (bits .and .u64 f (ones n) * 2 ^ a)) = withI v a n f := by
  have hs := ones_shift_U h
  rw [and_ones hf (by omega), wrapU_in hs, wrapU_in (low_shift_U h)]
  obtain ⟨x, rfl⟩ := Int.eq_ofNat_of_zero_le hv.1
  obtain ⟨y, rfl⟩ := Int.eq_ofNat_of_zero_le hf.1
  have hb : (2 ^ n - 1) * 2 ^ a < 2 ^ 64 := by
    have e : ones n * 2 ^ a = (((2 ^ n - 1) * 2 ^ a : Nat) : Int) := by rw [ones_nat, two_pow_cast, ← Int.natCast_mul]
    have := hs.2
    rw [e] at this
    omega
  have hx : x < 2 ^ 64 := by have := hv.2; omega
  have eo : ones n * 2 ^ a = (((2 ^ n - 1) * 2 ^ a : Nat) : Int) := by rw [ones_nat, two_pow_cast, ← Int.natCast_mul]
  have ef : (y : Int) % 2 ^ n * 2 ^ a = ((y % 2 ^ n * 2 ^ a : Nat) : Int) := by rw [two_pow_cast, two_pow_cast, ← Int.natCast_emod, ← Int.natCast_mul]
  have hfU := low_shift_U (f := (y : Int)) h
  rw [ef] at hfU
  rw [eo, ef, u64_andNot_nat _ _ (by omega) (by omega)]
  have e2 : 18446744073709551615 - (2 ^ n - 1) * 2 ^ a = 2 ^ 64 - ((2 ^ n - 1) * 2 ^ a + 1) := by omega
  rw [e2, u64_or_nat _ _ (Nat.lt_of_le_of_lt Nat.and_le_left (by omega)) (by have := hfU.2; omega), withI_nat, nat_with x y a n h hx]
theorem withI_U {v f : Int} (hv : U64 v) {a n : Nat} (h : a + n ≤ 64) (hf : 0 ≤ f) : U64 (withI v a n f) := by
  obtain ⟨x, rfl⟩ := Int.eq_ofNat_of_zero_le hv.1
  obtain ⟨y, rfl⟩ := Int.eq_ofNat_of_zero_le hf
  have hx : x < 2 ^ 64 := by have := hv.2; omega
  rw [withI_nat, ← nat_with x y a n h hx]
  have h1 : (x &&& (2 ^ 64 - ((2 ^ n - 1) * 2 ^ a + 1))) < 2 ^ 64 := Nat.lt_of_le_of_lt Nat.and_le_left hx
  have h2 : y % 2 ^ n * 2 ^ a < 2 ^ 64 := by
    have := (low_shift_U (f := (y : Int)) h).2
    rw [two_pow_cast, two_pow_cast, ← Int.natCast_emod, ← Int.natCast_mul] at this
    omega
  have := Nat.or_lt_two_pow h1 h2
  exact ⟨by omega, by omega⟩

/-! ### with a sign -/
def sgnI (v : Int) (n : Nat) : Int := if v % 2 ^ n < 2 ^ (n - 1) then v % 2 ^ n else v % 2 ^ n - 2 ^ n
theorem half_pos (n : Nat) : (1 : Int) ≤ 2 ^ (n - 1) := two_pow_pos _
theorem half_le {n : Nat} (h : n ≤ 64) : (2 : Int) ^ (n - 1) ≤ 9223372036854775808 := by
  have := two_pow_mono (show n - 1 ≤ 63 by omega); rwa [two_63] at this
theorem half_two {n : Nat} (h : 1 ≤ n) : (2 : Int) ^ n = 2 * 2 ^ (n - 1) := by
  obtain ⟨m, rfl⟩ : ∃ m, n = m + 1 := ⟨n - 1, by omega⟩
  exact two_pow_succ m
theorem shl_mod {v : Int} {n : Nat} (h : n ≤ 64) : IntKind.u64.wrap (v * 2 ^ (64 - n)) = v % 2 ^ n * 2 ^ (64 - n) := by
  rw [IntKind.wrap_u64, ← two_64, two_pow_split h, Int.mul_comm v, Int.mul_emod_mul_of_pos _ _ (by have := two_pow_pos (64 - n); omega), Int.mul_comm]
theorem signed_val {v : Int} {n : Nat} (h0 : 1 ≤ n) (h1 : n ≤ 64) :
    wrap64 (IntKind.u64.wrap (v * 2 ^ (64 - n))) / 2 ^ (64 - n) = sgnI v n := by
  rw [shl_mod h1, wrap64_eq]
  unfold sgnI
  have hp := two_pow_pos (64 - n)
  have hh := half_pos n
  have e := half_two h0
  have hx0 : 0 ≤ v % 2 ^ n := Int.emod_nonneg _ (by omega)
  have hx1 : v % 2 ^ n < 2 ^ n := Int.emod_lt_of_pos _ (by omega)
  have hu : (2 : Int) ^ n * 2 ^ (64 - n) = 18446744073709551616 := by rw [← Int.pow_add, ← two_64]; congr 1; omega
  generalize v % 2 ^ n = x at *
  generalize (2 : Int) ^ (64 - n) = u at *
  generalize (2 : Int) ^ (n - 1) = k at *
  rw [e] at hx1 hu ⊢
  have hku : k * u = 9223372036854775808 := by rw [Int.mul_assoc] at hu; omega
  split
  · rename_i hlt
    have a1 : x * u < k * u := Int.mul_lt_mul_of_pos_right hlt (by omega)
    have a2 : 0 ≤ x * u := Int.mul_nonneg hx0 (by omega)
    have e1 : (x * u + 9223372036854775808) % 18446744073709551616 - 9223372036854775808 = x * u := by omega
    rw [e1, Int.mul_ediv_cancel _ (by omega)]
  · rename_i hge
    have a1 : k * u ≤ x * u := Int.mul_le_mul_of_nonneg_right (by omega) (by omega)
    have a2 : x * u < 2 * k * u := Int.mul_lt_mul_of_pos_right hx1 (by omega)
    have a3 : (x - 2 * k) * u = x * u - 2 * k * u := Int.sub_mul _ _ _
    have e1 : (x * u + 9223372036854775808) % 18446744073709551616 - 9223372036854775808 = (x - 2 * k) * u := by omega
    rw [e1, Int.mul_ediv_cancel _ (by omega)]
def fitI (w : Int) (n : Nat) : Int := if w < -2 ^ (n - 1) then -2 ^ (n - 1) else if 2 ^ (n - 1) - 1 < w then 2 ^ (n - 1) - 1 else w
theorem wrap64_neg_half {n : Nat} (h : n ≤ 64) : wrap64 (-2 ^ (n - 1)) = -2 ^ (n - 1) := by
  have h1 := half_pos n
  have h2 := half_le h
  rw [wrap64_eq]; omega
theorem xor_ones_i64 {x : Int} (h0 : -9223372036854775808 ≤ x) (h1 : x ≤ 9223372036854775807) : bits .xor .i64 (-1) x = -x - 1 := by
  have e : bits .xor .i64 (-1) x = IntKind.i64.wrap ((BitVec.ofInt 64 (-1) ^^^ BitVec.ofInt 64 x).toNat : Int) := rfl
  have h2 : (BitVec.ofInt 64 (-1) ^^^ BitVec.ofInt 64 x) = ~~~ (BitVec.ofInt 64 x) := by
    have : BitVec.ofInt 64 (-1) = BitVec.allOnes 64 := by decide
    rw [this, BitVec.allOnes_xor]
  rw [e, h2, BitVec.toNat_not, IntKind.wrap_i64]
  have h3 : ((BitVec.ofInt 64 x).toNat : Int) = x % 18446744073709551616 := by
    rw [BitVec.toNat_ofInt]
    have : (0 : Int) ≤ x % ((2 ^ 64 : Nat) : Int) := Int.emod_nonneg _ (by decide)
    rw [Int.toNat_of_nonneg this]; rfl
  have h4 : (BitVec.ofInt 64 x).toNat < 2 ^ 64 := (BitVec.ofInt 64 x).isLt
  omega

end Go.Proofs.Ytbiihcoobknmjaa
