/- Plain facts on the parts of a file: where each byte lies; parts that are joined are told by that alone. No conditions but those that the statements name. Plain facts on projections: a list of numbers that rises, each once; which projections are good; which may come next. No conditions. -/
import Derived.Test.YtfkgeefoknaldaaG01b
set_option linter.unusedVariables false
namespace Go.Proofs.Ytfkgeefoknaldaa
set_option linter.unusedVariables false
open Go.RowKit
/-- a part: where it lies in the file, how long it is, which address's data, from where on -/
structure Pt where
  off : Int
  len : Int
  addr : Int
  src : Int
def Pt.stop (x : Pt) : Int := x.off + x.len
theorem Pt.ext4 {x y : Pt} (h1 : x.off = y.off) (h2 : x.len = y.len) (h3 : x.addr = y.addr) (h4 : x.src = y.src) : x = y := by
  cases x; cases y; simp_all
/-- is a part good, alone? -/
def oneB (x : Pt) : Bool := decide (0 ≤ x.off ∧ 1 ≤ x.len ∧ x.off + x.len ≤ 8192 ∧ 0 ≤ x.addr ∧ x.addr < 16384 ∧ 0 ≤ x.src ∧ x.src + x.len ≤ 1024)
theorem oneB_iff {x : Pt} : oneB x = true ↔ 0 ≤ x.off ∧ 1 ≤ x.len ∧ x.off + x.len ≤ 8192 ∧ 0 ≤ x.addr ∧ x.addr < 16384 ∧ 0 ≤ x.src ∧ x.src + x.len ≤ 1024 := decide_eq_true_iff
/-- does y come behind x, and is it no going on of it? -/
def fitB (x y : Pt) : Bool := decide (x.stop ≤ y.off) && !decide (x.stop = y.off ∧ x.addr = y.addr ∧ x.src + x.len = y.src)
theorem fitB_iff {x y : Pt} : fitB x y = true ↔ x.stop ≤ y.off ∧ ¬ (x.stop = y.off ∧ x.addr = y.addr ∧ x.src + x.len = y.src) := by
  unfold fitB
  rw [Bool.and_eq_true, Bool.not_eq_true', decide_eq_true_iff, decide_eq_false_iff_not]
/-- rising, none over another one, joined -/
def railB : List Pt → Bool
  | [] => true
  | x :: l => oneB x && (match l with | [] => true | y :: _ => fitB x y) && railB l
/-- are parts good? -/
def goodE (l : List Pt) : Bool := decide (l.length ≤ 64) && railB l
theorem railB_cons {x : Pt} {l : List Pt} (h : railB (x :: l) = true) : oneB x = true ∧ railB l = true ∧ ∀ y m, l = y :: m → fitB x y = true := by
  unfold railB at h
  rw [Bool.and_eq_true, Bool.and_eq_true] at h
  refine ⟨h.1.1, h.2, fun y m e => ?_⟩
  subst e
  exact h.1.2
theorem railB_of {x : Pt} {l : List Pt} (h1 : oneB x = true) (h2 : railB l = true) (h3 : ∀ y m, l = y :: m → fitB x y = true) : railB (x :: l) = true := by
  unfold railB
  rw [h1, h2, Bool.true_and, Bool.and_true]
  cases l with
  | nil => rfl
  | cons y m => exact h3 y m rfl
/-- all behind the first lie behind it -/
theorem railB_behind {x : Pt} {l : List Pt} (h : railB (x :: l) = true) : ∀ y ∈ l, x.stop ≤ y.off := by
  induction l generalizing x with
  | nil => intro y hy; cases hy
  | cons z l ih =>
    obtain ⟨h1, h2, h3⟩ := railB_cons h
    have h4 := (fitB_iff.1 (h3 z l rfl)).1
    have h5 := (oneB_iff.1 (railB_cons h2).1)
    intro y hy
    rcases List.mem_cons.1 hy with rfl | hy
    · exact h4
    · have := ih h2 y hy
      have : z.stop = z.off + z.len := rfl
      omega
/-- does a part cover a byte? -/
def Pt.hasB (x : Pt) (i : Int) : Bool := decide (x.off ≤ i ∧ i < x.off + x.len)
theorem Pt.hasB_iff {x : Pt} {i : Int} : x.hasB i = true ↔ x.off ≤ i ∧ i < x.off + x.len := decide_eq_true_iff
/-- where a byte lies; none: in a hole -/
def atE : List Pt → Int → Option (Int × Int)
  | [], _ => none
  | x :: l, i => if x.hasB i = true then some (x.addr, x.src + (i - x.off)) else atE l i
theorem atE_yes {x : Pt} {l : List Pt} {i : Int} (h : x.off ≤ i ∧ i < x.off + x.len) : atE (x :: l) i = some (x.addr, x.src + (i - x.off)) := if_pos (Pt.hasB_iff.2 h)
theorem atE_no {x : Pt} {l : List Pt} {i : Int} (h : ¬ (x.off ≤ i ∧ i < x.off + x.len)) : atE (x :: l) i = atE l i := if_neg (fun e => h (Pt.hasB_iff.1 e))
/-- no part covers what lies ahead of all -/
theorem atE_ahead {l : List Pt} {i : Int} (h : ∀ y ∈ l, i < y.off) : atE l i = none := by
  induction l with
  | nil => rfl
  | cons x l ih =>
    have h1 := h x List.mem_cons_self
    rw [atE_no (by omega)]
    exact ih (fun y hy => h y (List.mem_cons_of_mem _ hy))
theorem atE_some {l : List Pt} {i a f : Int} (h : atE l i = some (a, f)) : ∃ x ∈ l, (x.off ≤ i ∧ i < x.off + x.len) ∧ a = x.addr ∧ f = x.src + (i - x.off) := by
  induction l with
  | nil => cases h
  | cons x l ih =>
    by_cases hx : x.off ≤ i ∧ i < x.off + x.len
    · rw [atE_yes hx] at h
      cases h
      exact ⟨x, List.mem_cons_self, hx, rfl, rfl⟩
    · rw [atE_no hx] at h
      obtain ⟨y, hy, q⟩ := ih h
      exact ⟨y, List.mem_cons_of_mem _ hy, q⟩
/-- of two joined lists that tell the same of each byte the first parts are not one shorter than the other -/
theorem rail_len {x y : Pt} {l m : List Pt} (hx : railB (x :: l) = true) (hy : railB (y :: m) = true) (h : ∀ i, atE (x :: l) i = atE (y :: m) i) (h1 : x.off = y.off) (h3 : x.addr = y.addr) (h4 : x.src = y.src) (hl : x.len < y.len) : False := by
  obtain ⟨o1, r1, f1⟩ := railB_cons hx
  have ox := oneB_iff.1 o1
  have hi := h x.stop
  have e : x.stop = x.off + x.len := rfl
  rw [atE_yes (x := y) (by omega), atE_no (x := x) (by omega)] at hi
  obtain ⟨z, hz, hz2, ha, hf⟩ := atE_some hi
  have hb := railB_behind hx z hz
  cases l with
  | nil => cases hz
  | cons z1 l1 =>
    have f2 := fitB_iff.1 (f1 z1 l1 rfl)
    rcases List.mem_cons.1 hz with rfl | hz3
    · exact f2.2 ⟨by omega, by omega, by omega⟩
    · have h5 := railB_behind r1 z hz3
      have h6 := oneB_iff.1 (railB_cons r1).1
      have e2 : z1.stop = z1.off + z1.len := rfl
      omega
/-- joined lists that tell the same of each byte are one -/
theorem rail_same {l m : List Pt} (hl : railB l = true) (hm : railB m = true) (h : ∀ i, atE l i = atE m i) : l = m := by
  induction l generalizing m with
  | nil =>
    cases m with
    | nil => rfl
    | cons y m =>
      have oy := oneB_iff.1 (railB_cons hm).1
      have := h y.off
      rw [atE_yes (x := y) (by omega)] at this
      cases this
  | cons x l ih =>
    have ox := oneB_iff.1 (railB_cons hl).1
    cases m with
    | nil =>
      have := h x.off
      rw [atE_yes (x := x) (by omega)] at this
      cases this
    | cons y m =>
      have oy := oneB_iff.1 (railB_cons hm).1
      have bx := railB_behind hl
      have by_ := railB_behind hm
      have ex : x.stop = x.off + x.len := rfl
      have ey : y.stop = y.off + y.len := rfl
      have h1 : x.off = y.off := by
        rcases Int.lt_trichotomy x.off y.off with g | g | g
        · have q := h x.off
          rw [atE_yes (x := x) (by omega), atE_ahead (l := y :: m) (fun z hz => by rcases List.mem_cons.1 hz with rfl | hz; exact g; have := by_ z hz; omega)] at q
          cases q
        · exact g
        · have q := h y.off
          rw [atE_yes (x := y) (by omega), atE_ahead (l := x :: l) (fun z hz => by rcases List.mem_cons.1 hz with rfl | hz; exact g; have := bx z hz; omega)] at q
          cases q
      have q := h x.off
      rw [atE_yes (x := x) (by omega), atE_yes (x := y) (by omega)] at q
      obtain ⟨h3, h4⟩ := Prod.mk.inj (Option.some.inj q)
      have h4' : x.src = y.src := by omega
      have h2 : x.len = y.len := by
        rcases Int.lt_trichotomy x.len y.len with g | g | g
        · exact (rail_len hl hm h h1 h3 h4' g).elim
        · exact g
        · exact (rail_len hm hl (fun i => (h i).symm) h1.symm h3.symm h4'.symm g).elim
      have hxy : x = y := Pt.ext4 h1 h2 h3 h4'
      subst hxy
      congr 1
      refine ih (railB_cons hl).2.1 (railB_cons hm).2.1 (fun i => ?_)
      by_cases hi : x.off ≤ i ∧ i < x.off + x.len
      · by_cases hi2 : i < x.stop
        · rw [atE_ahead (fun z hz => by have := bx z hz; omega), atE_ahead (fun z hz => by have := by_ z hz; omega)]
        · omega
      · have := h i
        rwa [atE_no hi, atE_no hi] at this
end Go.Proofs.Ytfkgeefoknaldaa
namespace Go.Proofs.Ytfkgeefoknaldaa
open Go.RowKit

/-- a number is put into a rising list, once -/
def insU (u : Int) : List Int → List Int
  | [] => [u]
  | x :: l => if x < u then x :: insU u l else if x = u then x :: l else u :: x :: l
theorem insU_mem (u y : Int) (l : List Int) : y ∈ insU u l ↔ y = u ∨ y ∈ l := by
  induction l with
  | nil => simp [insU]
  | cons x l ih =>
    unfold insU
    split
    · rw [List.mem_cons, ih, List.mem_cons]
      constructor
      · rintro (h | h | h) <;> simp [h]
      · rintro (h | h | h) <;> simp [h]
    · split
      · next h => subst h; simp
      · simp
/-- where it is put, or that it is there -/
theorem insU_at (u : Int) (l : List Int) (j : Nat) (hj : j ≤ l.length) (hb : ∀ i (h : i < l.length), i < j → l[i] < u) (he : ∀ h : j < l.length, ¬ l[j] < u) :
    insU u l = if ∃ h : j < l.length, l[j] = u then l else l.take j ++ u :: l.drop j := by
  induction l generalizing j with
  | nil =>
    obtain rfl : j = 0 := by simpa using hj
    simp [insU]
  | cons x l ih =>
    cases j with
    | zero =>
      have h0 : ¬ x < u := he (by simp)
      unfold insU
      rw [if_neg h0]
      by_cases hx : x = u
      · rw [if_pos hx, if_pos ⟨by simp, hx⟩]
      · rw [if_neg hx, if_neg (by rintro ⟨_, h⟩; exact hx h)]
        rfl
    | succ j =>
      have h0 : x < u := hb 0 (by simp) (by omega)
      have e := ih j (by simpa using hj) (fun i h hi => by have := hb (i + 1) (by simpa using h) (by omega); simpa using this) (fun h => by have := he (by simpa using h); simpa using this)
      unfold insU
      rw [if_pos h0, e]
      by_cases hx : ∃ h : j < l.length, l[j] = u
      · rw [if_pos hx, if_pos (by obtain ⟨h1, h2⟩ := hx; exact ⟨by simpa using h1, by simpa using h2⟩)]
      · rw [if_neg hx, if_neg (by rintro ⟨h1, h2⟩; exact hx ⟨by simpa using h1, by simpa using h2⟩)]
        rfl
/-- each once, rising -/
def Rises (l : List Int) : Prop := l.Pairwise (· < ·)
theorem insU_rises (u : Int) (l : List Int) (h : Rises l) : Rises (insU u l) := by
  unfold Rises at *
  induction l with
  | nil => simp [insU]
  | cons x l ih =>
    rw [List.pairwise_cons] at h
    unfold insU
    split
    · next hx =>
      rw [List.pairwise_cons]
      refine ⟨fun y hy => ?_, ih h.2⟩
      rcases (insU_mem u y l).1 hy with rfl | hy
      · exact hx
      · exact h.1 y hy
    · split
      · exact List.pairwise_cons.2 h
      · next h1 h2 =>
        rw [List.pairwise_cons]
        refine ⟨fun y hy => ?_, List.pairwise_cons.2 h⟩
        rcases List.mem_cons.1 hy with rfl | hy
        · omega
        · have := h.1 y hy; omega
theorem rises_ext {l m : List Int} (hl : Rises l) (hm : Rises m) (h : ∀ x, x ∈ l ↔ x ∈ m) : l = m := by
  unfold Rises at *
  induction l generalizing m with
  | nil =>
    cases m with
    | nil => rfl
    | cons y m => exact absurd ((h y).2 (by simp)) (by simp)
  | cons x l ih =>
    cases m with
    | nil => exact absurd ((h x).1 (by simp)) (by simp)
    | cons y m =>
      rw [List.pairwise_cons] at hl hm
      have e : x = y := by
        rcases List.mem_cons.1 ((h x).1 (by simp)) with e | hx
        · exact e
        · rcases List.mem_cons.1 ((h y).2 (by simp)) with e | hy
          · exact e.symm
          · have := hl.1 y hy; have := hm.1 x hx; omega
      subst e
      rw [ih hl.2 hm.2 (fun z => ?_)]
      constructor
      · intro hz
        rcases List.mem_cons.1 ((h z).1 (by simp [hz])) with e | h'
        · subst e; exact absurd (hl.1 z hz) (by omega)
        · exact h'
      · intro hz
        rcases List.mem_cons.1 ((h z).2 (by simp [hz])) with e | h'
        · subst e; exact absurd (hm.1 z hz) (by omega)
        · exact h'
theorem rises_nodup {l : List Int} (h : Rises l) : l.Nodup := by
  unfold Rises at h
  exact h.imp (fun hxy e => by omega)
/-- numbers put in one behind the other -/
def insAll (l : List Int) (m : List Int) : List Int := m.foldl (fun a u => insU u a) l
theorem insAll_snoc (l m : List Int) (u : Int) : insAll l (m ++ [u]) = insU u (insAll l m) := by
  unfold insAll; rw [List.foldl_append]; rfl
theorem insAll_mem (l m : List Int) (y : Int) : y ∈ insAll l m ↔ y ∈ l ∨ y ∈ m := by
  induction m generalizing l with
  | nil => simp [insAll]
  | cons u m ih =>
    show y ∈ insAll (insU u l) m ↔ _
    rw [ih, insU_mem, List.mem_cons]
    constructor
    · rintro ((h | h) | h) <;> simp [h]
    · rintro (h | h | h) <;> simp [h]
theorem insAll_rises (l m : List Int) (h : Rises l) : Rises (insAll l m) := by
  induction m generalizing l with
  | nil => exact h
  | cons u m ih => exact ih _ (insU_rises u l h)
/-- all units of some chains, rising, each once -/
def unitsR (L : List (List Int)) : List Int := insAll [] L.flatten
theorem unitsR_mem (L : List (List Int)) (y : Int) : y ∈ unitsR L ↔ y ∈ L.flatten := by simp [unitsR, insAll_mem]
theorem unitsR_rises (L : List (List Int)) : Rises (unitsR L) := insAll_rises _ _ List.Pairwise.nil
theorem unitsR_of {l : List Int} {L : List (List Int)} (h : Rises l) (hm : ∀ x, x ∈ l ↔ x ∈ L.flatten) : l = unitsR L :=
  rises_ext h (unitsR_rises L) (fun x => (hm x).trans (unitsR_mem L x).symm)
theorem insU_length (u : Int) (l : List Int) (h : Rises l) : (insU u l).length = l.length + if u ∈ l then 0 else 1 := by
  unfold Rises at h
  induction l with
  | nil => simp [insU]
  | cons x l ih =>
    rw [List.pairwise_cons] at h
    unfold insU
    split
    · next hx =>
      rw [List.length_cons, ih h.2, List.length_cons]
      have : u ∈ x :: l ↔ u ∈ l := by
        rw [List.mem_cons]
        constructor
        · rintro (e | e)
          · omega
          · exact e
        · exact fun e => .inr e
      simp only [this]
      omega
    · split
      · next h1 h2 => subst h2; simp
      · next h1 h2 =>
        have : ¬ u ∈ x :: l := by
          rw [List.mem_cons]
          rintro (e | e)
          · exact h2 e.symm
          · have := h.1 u e; omega
        rw [if_neg this]
        simp
theorem insAll_length (l m : List Int) (h : Rises l) : (insAll l m).length ≤ l.length + m.length ∧ ((insAll l m).length = l.length + m.length ↔ m.Nodup ∧ ∀ u ∈ m, u ∉ l) := by
  induction m generalizing l with
  | nil => simp [insAll]
  | cons u m ih =>
    have hl := insU_length u l h
    obtain ⟨h1, h2⟩ := ih _ (insU_rises u l h)
    have e : insAll l (u :: m) = insAll (insU u l) m := rfl
    rw [e, List.length_cons]
    by_cases hu : u ∈ l
    · rw [if_pos hu] at hl
      refine ⟨by omega, ?_⟩
      constructor
      · intro h3; omega
      · rintro ⟨_, h4⟩; exact absurd hu (h4 u (by simp))
    · rw [if_neg hu] at hl
      refine ⟨by omega, ?_⟩
      rw [show (insAll (insU u l) m).length = l.length + (m.length + 1) ↔ (insAll (insU u l) m).length = (insU u l).length + m.length by omega, h2, List.nodup_cons]
      constructor
      · rintro ⟨h3, h4⟩
        refine ⟨⟨fun hm => h4 u hm ((insU_mem u u l).2 (.inl rfl)), h3⟩, fun v hv => ?_⟩
        rcases List.mem_cons.1 hv with rfl | hv
        · exact hu
        · exact fun hvl => h4 v hv ((insU_mem u v l).2 (.inr hvl))
      · rintro ⟨⟨h3, h4⟩, h5⟩
        refine ⟨h4, fun v hv hvl => ?_⟩
        rcases (insU_mem u v l).1 hvl with rfl | hvl
        · exact h3 hv
        · exact h5 v (by simp [hv]) hvl
theorem unitsR_length (L : List (List Int)) : (unitsR L).length = L.flatten.length ↔ L.flatten.Nodup := by
  have h := (insAll_length [] L.flatten List.Pairwise.nil).2
  simp only [List.length_nil, Nat.zero_add] at h
  rw [show unitsR L = insAll [] L.flatten from rfl, h]
  simp

/-- a chain's units, and how many -/
def chainB (c : List Int) : Bool := decide (1 ≤ c.length ∧ c.length ≤ 4) && c.all (fun u => decide (0 ≤ u ∧ u ≤ 15))
/-- is a projection good? -/
def goodB (ep : Int) (L : List (List Int)) : Bool := decide (0 ≤ ep ∧ ep ≤ 2147483647) && (decide (1 ≤ L.length ∧ L.length ≤ 4) && (L.all chainB && decide L.flatten.Nodup))
theorem chainB_iff {c : List Int} : chainB c = true ↔ (1 ≤ c.length ∧ c.length ≤ 4) ∧ ∀ u ∈ c, 0 ≤ u ∧ u ≤ 15 := by
  simp [chainB, List.all_eq_true]
theorem goodB_iff {ep : Int} {L : List (List Int)} : goodB ep L = true ↔ (0 ≤ ep ∧ ep ≤ 2147483647) ∧ (1 ≤ L.length ∧ L.length ≤ 4) ∧ (∀ c ∈ L, chainB c = true) ∧ L.flatten.Nodup := by
  simp [goodB, List.all_eq_true]

/-- how a chain goes on: units of the one ahead in their order, one or more, then such as stood nowhere -/
def seqB (all old : List Int) : List Int → List Int → Bool → Bool
  | [], _, met => met
  | x :: now, rest, met => if x ∈ old then (match rest.dropWhile (fun y => y != x) with | [] => false | _ :: r => seqB all old now r true) else met && (x :: now).all (fun y => !decide (y ∈ all))
/-- may one come next behind another? -/
def nextB (e1 : Int) (L1 : List (List Int)) (e2 : Int) (L2 : List (List Int)) : Bool :=
  goodB e1 L1 && (goodB e2 L2 && (decide (e2 = e1 + 1) && (decide (L2.length = L1.length) && (L1.zip L2).all (fun c => seqB (unitsR L1) c.1 c.2 c.1 false))))
theorem seqB_mem {all old : List Int} : ∀ {now rest : List Int} {met : Bool}, seqB all old now rest met = true → ∀ u ∈ now, u ∈ old ∨ u ∉ all
  | [], _, _, _ => fun u hu => by cases hu
  | x :: now, rest, met, h => by
    unfold seqB at h
    split at h
    · next hx =>
      split at h
      · cases h
      · intro u hu
        rcases List.mem_cons.1 hu with rfl | hu
        · exact .inl hx
        · exact seqB_mem h u hu
    · simp only [Bool.and_eq_true, List.all_eq_true, Bool.not_eq_true', decide_eq_false_iff_not] at h
      exact fun u hu => .inr (h.2 u hu)
theorem seqB_head {all old : List Int} {x : Int} {now rest : List Int} (h : seqB all old (x :: now) rest false = true) : x ∈ old := by
  unfold seqB at h
  split at h
  · next hx => exact hx
  · simp at h
end Go.Proofs.Ytfkgeefoknaldaa
