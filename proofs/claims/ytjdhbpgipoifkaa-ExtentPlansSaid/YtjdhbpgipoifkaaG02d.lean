/- Plain facts on the parts of a file: where each byte lies; parts that are joined are told by that alone. No conditions but those that the statements name. -/
import Derived.Test.YtjdhbpgipoifkaaG01b
set_option linter.unusedVariables false
namespace Go.Proofs.Ytjdhbpgipoifkaa
set_option linter.unusedVariables false
open Go.RowKit
/-- a part: where it lies in the file, how long it is, which address's data, from where on -/
structure Pt where
  off : Int
  len : Int
  addr : Int
  src : Int
def Pt.stop (x : Pt) : Int := x.off + x.len
theorem Pt.ext4 {x y : Pt} (h1 : x.off = y.off) (h2 : x.len = y.len) (h3 : x.addr = y.addr) (h4 : x.src = y.src) : x = y := by
  cases x; cases y; simp_all
/-- is a part good, alone? -/
def oneB (x : Pt) : Bool := decide (0 ≤ x.off ∧ 1 ≤ x.len ∧ x.off + x.len ≤ 8192 ∧ 0 ≤ x.addr ∧ x.addr < 16384 ∧ 0 ≤ x.src ∧ x.src + x.len ≤ 1024)
theorem oneB_iff {x : Pt} : oneB x = true ↔ 0 ≤ x.off ∧ 1 ≤ x.len ∧ x.off + x.len ≤ 8192 ∧ 0 ≤ x.addr ∧ x.addr < 16384 ∧ 0 ≤ x.src ∧ x.src + x.len ≤ 1024 := decide_eq_true_iff
/-- does y come behind x, and is it no going on of it? -/
def fitB (x y : Pt) : Bool := decide (x.stop ≤ y.off) && !decide (x.stop = y.off ∧ x.addr = y.addr ∧ x.src + x.len = y.src)
theorem fitB_iff {x y : Pt} : fitB x y = true ↔ x.stop ≤ y.off ∧ ¬ (x.stop = y.off ∧ x.addr = y.addr ∧ x.src + x.len = y.src) := by
  unfold fitB
  rw [Bool.and_eq_true, Bool.not_eq_true', decide_eq_true_iff, decide_eq_false_iff_not]
/-- rising, none over another one, joined -/
def railB : List Pt → Bool
  | [] => true
  | x :: l => oneB x && (match l with | [] => true | y :: _ => fitB x y) && railB l
/-- are parts good? -/
def goodE (l : List Pt) : Bool := decide (l.length ≤ 64) && railB l
theorem railB_cons {x : Pt} {l : List Pt} (h : railB (x :: l) = true) : oneB x = true ∧ railB l = true ∧ ∀ y m, l = y :: m → fitB x y = true := by
  unfold railB at h
  rw [Bool.and_eq_true, Bool.and_eq_true] at h
  refine ⟨h.1.1, h.2, fun y m e => ?_⟩
  subst e
  exact h.1.2
theorem railB_of {x : Pt} {l : List Pt} (h1 : oneB x = true) (h2 : railB l = true) (h3 : ∀ y m, l = y :: m → fitB x y = true) : railB (x :: l) = true := by
  unfold railB
  rw [h1, h2, Bool.true_and, Bool.and_true]
  cases l with
  | nil => rfl
  | cons y m => exact h3 y m rfl
/-- all behind the first lie behind it -/
theorem railB_behind {x : Pt} {l : List Pt} (h : railB (x :: l) = true) : ∀ y ∈ l, x.stop ≤ y.off := by
  induction l generalizing x with
  | nil => intro y hy; cases hy
  | cons z l ih =>
    obtain ⟨h1, h2, h3⟩ := railB_cons h
    have h4 := (fitB_iff.1 (h3 z l rfl)).1
    have h5 := (oneB_iff.1 (railB_cons h2).1)
    intro y hy
    rcases List.mem_cons.1 hy with rfl | hy
    · exact h4
    · have := ih h2 y hy
      have : z.stop = z.off + z.len := rfl
      omega
/-- does a part cover a byte? -/
def Pt.hasB (x : Pt) (i : Int) : Bool := decide (x.off ≤ i ∧ i < x.off + x.len)
theorem Pt.hasB_iff {x : Pt} {i : Int} : x.hasB i = true ↔ x.off ≤ i ∧ i < x.off + x.len := decide_eq_true_iff
/-- where a byte lies; none: in a hole -/
def atE : List Pt → Int → Option (Int × Int)
  | [], _ => none
  | x :: l, i => if x.hasB i = true then some (x.addr, x.src + (i - x.off)) else atE l i
theorem atE_yes {x : Pt} {l : List Pt} {i : Int} (h : x.off ≤ i ∧ i < x.off + x.len) : atE (x :: l) i = some (x.addr, x.src + (i - x.off)) := if_pos (Pt.hasB_iff.2 h)
theorem atE_no {x : Pt} {l : List Pt} {i : Int} (h : ¬ (x.off ≤ i ∧ i < x.off + x.len)) : atE (x :: l) i = atE l i := if_neg (fun e => h (Pt.hasB_iff.1 e))
/-- no part covers what lies ahead of all -/
theorem atE_ahead {l : List Pt} {i : Int} (h : ∀ y ∈ l, i < y.off) : atE l i = none := by
  induction l with
  | nil => rfl
  | cons x l ih =>
    have h1 := h x List.mem_cons_self
    rw [atE_no (by omega)]
    exact ih (fun y hy => h y (List.mem_cons_of_mem _ hy))
theorem atE_some {l : List Pt} {i a f : Int} (h : atE l i = some (a, f)) : ∃ x ∈ l, (x.off ≤ i ∧ i < x.off + x.len) ∧ a = x.addr ∧ f = x.src + (i - x.off) := by
  induction l with
  | nil => cases h
  | cons x l ih =>
    by_cases hx : x.off ≤ i ∧ i < x.off + x.len
    · rw [atE_yes hx] at h
      cases h
      exact ⟨x, List.mem_cons_self, hx, rfl, rfl⟩
    · rw [atE_no hx] at h
      obtain ⟨y, hy, q⟩ := ih h
      exact ⟨y, List.mem_cons_of_mem _ hy, q⟩
/-- of two joined lists that tell the same of each byte the first parts are not one shorter than the other -/
theorem rail_len {x y : Pt} {l m : List Pt} (hx : railB (x :: l) = true) (hy : railB (y :: m) = true) (h : ∀ i, atE (x :: l) i = atE (y :: m) i) (h1 : x.off = y.off) (h3 : x.addr = y.addr) (h4 : x.src = y.src) (hl : x.len < y.len) : False := by
  obtain ⟨o1, r1, f1⟩ := railB_cons hx
  have ox := oneB_iff.1 o1
  have hi := h x.stop
  have e : x.stop = x.off + x.len := rfl
  rw [atE_yes (x := y) (by omega), atE_no (x := x) (by omega)] at hi
  obtain ⟨z, hz, hz2, ha, hf⟩ := atE_some hi
  have hb := railB_behind hx z hz
  cases l with
  | nil => cases hz
  | cons z1 l1 =>
    have f2 := fitB_iff.1 (f1 z1 l1 rfl)
    rcases List.mem_cons.1 hz with rfl | hz3
    · exact f2.2 ⟨by omega, by omega, by omega⟩
    · have h5 := railB_behind r1 z hz3
      have h6 := oneB_iff.1 (railB_cons r1).1
      have e2 : z1.stop = z1.off + z1.len := rfl
      omega
/-- joined lists that tell the same of each byte are one -/
theorem rail_same {l m : List Pt} (hl : railB l = true) (hm : railB m = true) (h : ∀ i, atE l i = atE m i) : l = m := by
  induction l generalizing m with
  | nil =>
    cases m with
    | nil => rfl
    | cons y m =>
      have oy := oneB_iff.1 (railB_cons hm).1
      have := h y.off
      rw [atE_yes (x := y) (by omega)] at this
      cases this
  | cons x l ih =>
    have ox := oneB_iff.1 (railB_cons hl).1
    cases m with
    | nil =>
      have := h x.off
      rw [atE_yes (x := x) (by omega)] at this
      cases this
    | cons y m =>
      have oy := oneB_iff.1 (railB_cons hm).1
      have bx := railB_behind hl
      have by_ := railB_behind hm
      have ex : x.stop = x.off + x.len := rfl
      have ey : y.stop = y.off + y.len := rfl
      have h1 : x.off = y.off := by
        rcases Int.lt_trichotomy x.off y.off with g | g | g
        · have q := h x.off
          rw [atE_yes (x := x) (by omega), atE_ahead (l := y :: m) (fun z hz => by rcases List.mem_cons.1 hz with rfl | hz; exact g; have := by_ z hz; omega)] at q
          cases q
        · exact g
        · have q := h y.off
          rw [atE_yes (x := y) (by omega), atE_ahead (l := x :: l) (fun z hz => by rcases List.mem_cons.1 hz with rfl | hz; exact g; have := bx z hz; omega)] at q
          cases q
      have q := h x.off
      rw [atE_yes (x := x) (by omega), atE_yes (x := y) (by omega)] at q
      obtain ⟨h3, h4⟩ := Prod.mk.inj (Option.some.inj q)
      have h4' : x.src = y.src := by omega
      have h2 : x.len = y.len := by
        rcases Int.lt_trichotomy x.len y.len with g | g | g
        · exact (rail_len hl hm h h1 h3 h4' g).elim
        · exact g
        · exact (rail_len hm hl (fun i => (h i).symm) h1.symm h3.symm h4'.symm g).elim
      have hxy : x = y := Pt.ext4 h1 h2 h3 h4'
      subst hxy
      congr 1
      refine ih (railB_cons hl).2.1 (railB_cons hm).2.1 (fun i => ?_)
      by_cases hi : x.off ≤ i ∧ i < x.off + x.len
      · by_cases hi2 : i < x.stop
        · rw [atE_ahead (fun z hz => by have := bx z hz; omega), atE_ahead (fun z hz => by have := by_ z hz; omega)]
        · omega
      · have := h i
        rwa [atE_no hi, atE_no hi] at this
end Go.Proofs.Ytjdhbpgipoifkaa
