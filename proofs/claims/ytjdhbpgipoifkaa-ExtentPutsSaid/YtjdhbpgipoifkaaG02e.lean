/- Plain facts on projections: a list of numbers that rises, each once; which projections are good; which may come next. No conditions. -/
import Derived.Test.YtjdhbpgipoifkaaG01b
set_option linter.unusedVariables false
namespace Go.Proofs.Ytjdhbpgipoifkaa
open Go.RowKit

/-- a number is put into a rising list, once -/
def insU (u : Int) : List Int → List Int
  | [] => [u]
  | x :: l => if x < u then x :: insU u l else if x = u then x :: l else u :: x :: l
theorem insU_mem (u y : Int) (l : List Int) : y ∈ insU u l ↔ y = u ∨ y ∈ l := by
  induction l with
  | nil => simp [insU]
  | cons x l ih =>
    unfold insU
    split
    · rw [List.mem_cons, ih, List.mem_cons]
      constructor
      · rintro (h | h | h) <;> simp [h]
      · rintro (h | h | h) <;> simp [h]
    · split
      · next h => subst h; simp
      · simp
/-- where it is put, or that it is there -/
theorem insU_at (u : Int) (l : List Int) (j : Nat) (hj : j ≤ l.length) (hb : ∀ i (h : i < l.length), i < j → l[i] < u) (he : ∀ h : j < l.length, ¬ l[j] < u) :
    insU u l = if ∃ h : j < l.length, l[j] = u then l else l.take j ++ u :: l.drop j := by
  induction l generalizing j with
  | nil =>
    obtain rfl : j = 0 := by simpa using hj
    simp [insU]
  | cons x l ih =>
    cases j with
    | zero =>
      have h0 : ¬ x < u := he (by simp)
      unfold insU
      rw [if_neg h0]
      by_cases hx : x = u
      · rw [if_pos hx, if_pos ⟨by simp, hx⟩]
      · rw [if_neg hx, if_neg (by rintro ⟨_, h⟩; exact hx h)]
        rfl
    | succ j =>
      have h0 : x < u := hb 0 (by simp) (by omega)
      have e := ih j (by simpa using hj) (fun i h hi => by have := hb (i + 1) (by simpa using h) (by omega); simpa using this) (fun h => by have := he (by simpa using h); simpa using this)
      unfold insU
      rw [if_pos h0, e]
      by_cases hx : ∃ h : j < l.length, l[j] = u
      · rw [if_pos hx, if_pos (by obtain ⟨h1, h2⟩ := hx; exact ⟨by simpa using h1, by simpa using h2⟩)]
      · rw [if_neg hx, if_neg (by rintro ⟨h1, h2⟩; exact hx ⟨by simpa using h1, by simpa using h2⟩)]
        rfl
/-- each once, rising -/
def Rises (l : List Int) : Prop := l.Pairwise (· < ·)
theorem insU_rises (u : Int) (l : List Int) (h : Rises l) : Rises (insU u l) := by
  unfold Rises at *
  induction l with
  | nil => simp [insU]
  | cons x l ih =>
    rw [List.pairwise_cons] at h
    unfold insU
    split
    · next hx =>
      rw [List.pairwise_cons]
      refine ⟨fun y hy => ?_, ih h.2⟩
      rcases (insU_mem u y l).1 hy with rfl | hy
      · exact hx
      · exact h.1 y hy
    · split
      · exact List.pairwise_cons.2 h
      · next h1 h2 =>
        rw [List.pairwise_cons]
        refine ⟨fun y hy => ?_, List.pairwise_cons.2 h⟩
        rcases List.mem_cons.1 hy with rfl | hy
        · omega
        · have := h.1 y hy; omega
theorem rises_ext {l m : List Int} (hl : Rises l) (hm : Rises m) (h : ∀ x, x ∈ l ↔ x ∈ m) : l = m := by
  unfold Rises at *
  induction l generalizing m with
  | nil =>
    cases m with
    | nil => rfl
    | cons y m => exact absurd ((h y).2 (by simp)) (by simp)
  | cons x l ih =>
    cases m with
    | nil => exact absurd ((h x).1 (by simp)) (by simp)
    | cons y m =>
      rw [List.pairwise_cons] at hl hm
      have e : x = y := by
        rcases List.mem_cons.1 ((h x).1 (by simp)) with e | hx
        · exact e
        · rcases List.mem_cons.1 ((h y).2 (by simp)) with e | hy
          · exact e.symm
          · have := hl.1 y hy; have := hm.1 x hx; omega
      subst e
      rw [ih hl.2 hm.2 (fun z => ?_)]
      constructor
      · intro hz
        rcases List.mem_cons.1 ((h z).1 (by simp [hz])) with e | h'
        · subst e; exact absurd (hl.1 z hz) (by omega)
        · exact h'
      · intro hz
        rcases List.mem_cons.1 ((h z).2 (by simp [hz])) with e | h'
        · subst e; exact absurd (hm.1 z hz) (by omega)
        · exact h'
theorem rises_nodup {l : List Int} (h : Rises l) : l.Nodup := by
  unfold Rises at h
  exact h.imp (fun hxy e => by omega)
/-- numbers put in one behind the other -/
def insAll (l : List Int) (m : List Int) : List Int := m.foldl (fun a u => insU u a) l
theorem insAll_snoc (l m : List Int) (u : Int) : insAll l (m ++ [u]) = insU u (insAll l m) := by
  unfold insAll; rw [List.foldl_append]; rfl
theorem insAll_mem (l m : List Int) (y : Int) : y ∈ insAll l m ↔ y ∈ l ∨ y ∈ m := by
  induction m generalizing l with
  | nil => simp [insAll]
  | cons u m ih =>
    show y ∈ insAll (insU u l) m ↔ _
    rw [ih, insU_mem, List.mem_cons]
    constructor
    · rintro ((h | h) | h) <;> simp [h]
    · rintro (h | h | h) <;> simp [h]
theorem insAll_rises (l m : List Int) (h : Rises l) : Rises (insAll l m) := by
  induction m generalizing l with
  | nil => exact h
  | cons u m ih => exact ih _ (insU_rises u l h)
/-- all units of some chains, rising, each once -/
def unitsR (L : List (List Int)) : List Int := insAll [] L.flatten
theorem unitsR_mem (L : List (List Int)) (y : Int) : y ∈ unitsR L ↔ y ∈ L.flatten := by simp [unitsR, insAll_mem]
theorem unitsR_rises (L : List (List Int)) : Rises (unitsR L) := insAll_rises _ _ List.Pairwise.nil
theorem unitsR_of {l : List Int} {L : List (List Int)} (h : Rises l) (hm : ∀ x, x ∈ l ↔ x ∈ L.flatten) : l = unitsR L :=
  rises_ext h (unitsR_rises L) (fun x => (hm x).trans (unitsR_mem L x).symm)
theorem insU_length (u : Int) (l : List Int) (h : Rises l) : (insU u l).length = l.length + if u ∈ l then 0 else 1 := by
  unfold Rises at h
  induction l with
  | nil => simp [insU]
  | cons x l ih =>
    rw [List.pairwise_cons] at h
    unfold insU
    split
    · next hx =>
      rw [List.length_cons, ih h.2, List.length_cons]
      have : u ∈ x :: l ↔ u ∈ l := by
        rw [List.mem_cons]
        constructor
        · rintro (e | e)
          · omega
          · exact e
        · exact fun e => .inr e
      simp only [this]
      omega
    · split
      · next h1 h2 => subst h2; simp
      · next h1 h2 =>
        have : ¬ u ∈ x :: l := by
          rw [List.mem_cons]
          rintro (e | e)
          · exact h2 e.symm
          · have := h.1 u e; omega
        rw [if_neg this]
        simp
theorem insAll_length (l m : List Int) (h : Rises l) : (insAll l m).length ≤ l.length + m.length ∧ ((insAll l m).length = l.length + m.length ↔ m.Nodup ∧ ∀ u ∈ m, u ∉ l) := by
  induction m generalizing l with
  | nil => simp [insAll]
  | cons u m ih =>
    have hl := insU_length u l h
    obtain ⟨h1, h2⟩ := ih _ (insU_rises u l h)
    have e : insAll l (u :: m) = insAll (insU u l) m := rfl
    rw [e, List.length_cons]
    by_cases hu : u ∈ l
    · rw [if_pos hu] at hl
      refine ⟨by omega, ?_⟩
      constructor
      · intro h3; omega
      · rintro ⟨_, h4⟩; exact absurd hu (h4 u (by simp))
    · rw [if_neg hu] at hl
      refine ⟨by omega, ?_⟩
      rw [show (insAll (insU u l) m).length = l.length + (m.length + 1) ↔ (insAll (insU u l) m).length = (insU u l).length + m.length by omega, h2, List.nodup_cons]
      constructor
      · rintro ⟨h3, h4⟩
        refine ⟨⟨fun hm => h4 u hm ((insU_mem u u l).2 (.inl rfl)), h3⟩, fun v hv => ?_⟩
        rcases List.mem_cons.1 hv with rfl | hv
        · exact hu
        · exact fun hvl => h4 v hv ((insU_mem u v l).2 (.inr hvl))
      · rintro ⟨⟨h3, h4⟩, h5⟩
        refine ⟨h4, fun v hv hvl => ?_⟩
        rcases (insU_mem u v l).1 hvl with rfl | hvl
        · exact h3 hv
        · exact h5 v (by simp [hv]) hvl
theorem unitsR_length (L : List (List Int)) : (unitsR L).length = L.flatten.length ↔ L.flatten.Nodup := by
  have h := (insAll_length [] L.flatten List.Pairwise.nil).2
  simp only [List.length_nil, Nat.zero_add] at h
  rw [show unitsR L = insAll [] L.flatten from rfl, h]
  simp

/-- a chain's units, and how many -/
def chainB (c : List Int) : Bool := decide (1 ≤ c.length ∧ c.length ≤ 4) && c.all (fun u => decide (0 ≤ u ∧ u ≤ 15))
/-- is a projection good? -/
def goodB (ep : Int) (L : List (List Int)) : Bool := decide (0 ≤ ep ∧ ep ≤ 2147483647) && (decide (1 ≤ L.length ∧ L.length ≤ 4) && (L.all chainB && decide L.flatten.Nodup))
theorem chainB_iff {c : List Int} : chainB c = true ↔ (1 ≤ c.length ∧ c.length ≤ 4) ∧ ∀ u ∈ c, 0 ≤ u ∧ u ≤ 15 := by
  simp [chainB, List.all_eq_true]
theorem goodB_iff {ep : Int} {L : List (List Int)} : goodB ep L = true ↔ (0 ≤ ep ∧ ep ≤ 2147483647) ∧ (1 ≤ L.length ∧ L.length ≤ 4) ∧ (∀ c ∈ L, chainB c = true) ∧ L.flatten.Nodup := by
  simp [goodB, List.all_eq_true]

/-- how a chain goes on: units of the one ahead in their order, one or more, then such as stood nowhere -/
def seqB (all old : List Int) : List Int → List Int → Bool → Bool
  | [], _, met => met
  | x :: now, rest, met => if x ∈ old then (match rest.dropWhile (fun y => y != x) with | [] => false | _ :: r => seqB all old now r true) else met && (x :: now).all (fun y => !decide (y ∈ all))
/-- may one come next behind another? -/
def nextB (e1 : Int) (L1 : List (List Int)) (e2 : Int) (L2 : List (List Int)) : Bool :=
  goodB e1 L1 && (goodB e2 L2 && (decide (e2 = e1 + 1) && (decide (L2.length = L1.length) && (L1.zip L2).all (fun c => seqB (unitsR L1) c.1 c.2 c.1 false))))
theorem seqB_mem {all old : List Int} : ∀ {now rest : List Int} {met : Bool}, seqB all old now rest met = true → ∀ u ∈ now, u ∈ old ∨ u ∉ all
  | [], _, _, _ => fun u hu => by cases hu
  | x :: now, rest, met, h => by
    unfold seqB at h
    split at h
    · next hx =>
      split at h
      · cases h
      · intro u hu
        rcases List.mem_cons.1 hu with rfl | hu
        · exact .inl hx
        · exact seqB_mem h u hu
    · simp only [Bool.and_eq_true, List.all_eq_true, Bool.not_eq_true', decide_eq_false_iff_not] at h
      exact fun u hu => .inr (h.2 u hu)
theorem seqB_head {all old : List Int} {x : Int} {now rest : List Int} (h : seqB all old (x :: now) rest false = true) : x ∈ old := by
  unfold seqB at h
  split at h
  · next hx => exact hx
  · simp at h
end Go.Proofs.Ytjdhbpgipoifkaa
