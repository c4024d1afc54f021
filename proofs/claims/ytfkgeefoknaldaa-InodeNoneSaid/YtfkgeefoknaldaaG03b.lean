/- Plain facts: bytes, each where it lies, are gathered to parts that are joined, and tell the same. No conditions but those that the statements name. -/
import Derived.Test.YtfkgeefoknaldaaG02b
set_option linter.unusedVariables false
namespace Go.Proofs.Ytfkgeefoknaldaa
set_option linter.unusedVariables false
set_option maxRecDepth 20000
open Go.RowKit
theorem atE_append (l m : List Pt) (i : Int) : atE (l ++ m) i = (atE l i).or (atE m i) := by
  induction l with
  | nil => rfl
  | cons x l ih =>
    rw [List.cons_append]
    by_cases h : x.off ≤ i ∧ i < x.off + x.len
    · rw [atE_yes h, atE_yes h]
      rfl
    · rw [atE_no h, atE_no h, ih]
/-- one part more at the end -/
theorem rail_snoc {l : List Pt} {x : Pt} : railB (l ++ [x]) = true ↔ railB l = true ∧ oneB x = true ∧ ∀ y m, l = m ++ [y] → fitB y x = true := by
  induction l with
  | nil =>
    constructor
    · intro h
      exact ⟨rfl, (railB_cons h).1, fun y m e => by simp at e⟩
    · rintro ⟨_, h, _⟩
      exact railB_of h rfl (fun y m e => by cases e)
  | cons z l ih =>
    rw [List.cons_append]
    constructor
    · intro h
      obtain ⟨h1, h2, h3⟩ := railB_cons h
      obtain ⟨g1, g2, g3⟩ := ih.1 h2
      refine ⟨railB_of h1 g1 (fun y m e => h3 y (m ++ [x]) (by rw [e]; rfl)), g2, fun y m e => ?_⟩
      cases m with
      | nil =>
        simp at e
        obtain ⟨rfl, rfl⟩ := e
        exact h3 x [] rfl
      | cons u m =>
        rw [List.cons_append] at e
        exact g3 y m (List.cons.inj e).2
    · rintro ⟨h, hx, hf⟩
      obtain ⟨h1, h2, h3⟩ := railB_cons h
      refine railB_of h1 (ih.2 ⟨h2, hx, fun y m e => hf y (z :: m) (by rw [e]; rfl)⟩) (fun y m e => ?_)
      cases l with
      | nil =>
        simp at e
        obtain ⟨rfl, _⟩ := e
        exact hf z [] rfl
      | cons u l =>
        rw [List.cons_append] at e
        obtain ⟨rfl, _⟩ := List.cons.inj e
        exact h3 u l rfl
/-- bytes: where each lies; below 0: in a hole -/
abbrev ByteF := Nat → Int × Int
/-- one byte more: the last part goes on, or another one begins -/
def joinE (l : List Pt) (x : Pt) : List Pt :=
  match l.getLast? with
  | some y => if y.stop = x.off ∧ y.addr = x.addr ∧ y.src + y.len = x.src then l.dropLast ++ [⟨y.off, y.len + 1, y.addr, y.src⟩] else l ++ [x]
  | none => l ++ [x]
def gatE (b : ByteF) : Nat → List Pt
  | 0 => []
  | n + 1 => if (b n).1 < 0 then gatE b n else joinE (gatE b n) ⟨n, 1, (b n).1, (b n).2⟩
theorem joinE_nil (x : Pt) : joinE [] x = [x] := rfl
theorem joinE_snoc (l : List Pt) (y x : Pt) : joinE (l ++ [y]) x = if y.stop = x.off ∧ y.addr = x.addr ∧ y.src + y.len = x.src then l ++ [⟨y.off, y.len + 1, y.addr, y.src⟩] else (l ++ [y]) ++ [x] := by
  unfold joinE
  rw [List.getLast?_append, List.getLast?_singleton, Option.some_or]
  simp
/-- a byte that is in no hole lies in some address's data -/
def soundF (b : ByteF) (n : Nat) : Prop := ∀ i, i < n → (b i).1 < 0 ∨ ((b i).1 < 16384 ∧ 0 ≤ (b i).2 ∧ (b i).2 < 1024)
/-- what is told of a byte -/
def tellF (b : ByteF) (n : Nat) (i : Int) : Option (Int × Int) := if 0 ≤ i ∧ i < n ∧ 0 ≤ (b i.toNat).1 then some (b i.toNat) else none
structure GatE (b : ByteF) (n : Nat) (l : List Pt) : Prop where
  rail : railB l = true
  below : ∀ x ∈ l, x.stop ≤ n
  tell : ∀ i, atE l i = tellF b n i
theorem atE_stop {l : List Pt} {i : Int} (h : ∀ x ∈ l, x.stop ≤ i) : atE l i = none := by
  induction l with
  | nil => rfl
  | cons x l ih =>
    have h1 := h x List.mem_cons_self
    have e : x.stop = x.off + x.len := rfl
    rw [atE_no (by omega)]
    exact ih (fun y hy => h y (List.mem_cons_of_mem _ hy))
theorem atE_one (x : Pt) (i : Int) : atE [x] i = if x.off ≤ i ∧ i < x.off + x.len then some (x.addr, x.src + (i - x.off)) else none := by
  by_cases h : x.off ≤ i ∧ i < x.off + x.len
  · rw [if_pos h, atE_yes h]
  · rw [if_neg h, atE_no h]
    rfl
theorem tellF_hole {b : ByteF} {n : Nat} (h : (b n).1 < 0) (i : Int) : tellF b (n + 1) i = tellF b n i := by
  unfold tellF
  by_cases e : i = n
  · subst e
    rw [if_neg (by rw [Int.toNat_natCast]; omega), if_neg (by omega)]
  · by_cases g : 0 ≤ i ∧ i < n ∧ 0 ≤ (b i.toNat).1
    · rw [if_pos g, if_pos ⟨g.1, by omega, g.2.2⟩]
    · rw [if_neg g, if_neg (fun q => g ⟨q.1, by omega, q.2.2⟩)]
theorem tellF_next {b : ByteF} {n : Nat} (h : ¬ (b n).1 < 0) (i : Int) : tellF b (n + 1) i = if i = n then some (b n) else tellF b n i := by
  unfold tellF
  by_cases e : i = n
  · subst e
    rw [if_pos rfl, if_pos ⟨by omega, by omega, by rw [Int.toNat_natCast]; omega⟩, Int.toNat_natCast]
  · rw [if_neg e]
    by_cases g : 0 ≤ i ∧ i < n ∧ 0 ≤ (b i.toNat).1
    · rw [if_pos g, if_pos ⟨g.1, by omega, g.2.2⟩]
    · rw [if_neg g, if_neg (fun q => g ⟨q.1, by omega, q.2.2⟩)]
/-- bytes that were gathered -/
theorem gatE_all {b : ByteF} {n : Nat} (hb : soundF b n) (hn : n ≤ 8192) : GatE b n (gatE b n) := by
  induction n with
  | zero => exact ⟨rfl, fun x hx => (by cases hx), fun i => (if_neg (by omega)).symm⟩
  | succ n ih =>
    have H := ih (fun i hi => hb i (by omega)) (by omega)
    show GatE b (n + 1) (if (b n).1 < 0 then gatE b n else joinE (gatE b n) ⟨n, 1, (b n).1, (b n).2⟩)
    by_cases h : (b n).1 < 0
    · rw [if_pos h]
      exact ⟨H.rail, fun x hx => by have := H.below x hx; omega, fun i => by rw [H.tell, tellF_hole h]⟩
    · rw [if_neg h]
      have hs := (hb n (by omega)).resolve_left h
      have hx : oneB ⟨n, 1, (b n).1, (b n).2⟩ = true := oneB_iff.2 ⟨by show (0 : Int) ≤ n; omega, by show (1 : Int) ≤ 1; omega, by show (n : Int) + 1 ≤ 8192; omega, by show 0 ≤ (b n).1; omega, hs.1, hs.2.1, by show (b n).2 + 1 ≤ 1024; omega⟩
      have key : ∀ l : List Pt, (∀ x ∈ l, x.stop ≤ n) → ∀ i, atE (l ++ [⟨n, 1, (b n).1, (b n).2⟩]) i = if i = n then some (b n) else atE l i := fun l hl i => by
        rw [atE_append, atE_one]
        by_cases e : i = n
        · subst e
          rw [if_pos rfl, atE_stop hl, if_pos ⟨Int.le_refl _, by show (n : Int) < n + 1; omega⟩, Option.none_or]
          show some ((b n).1, (b n).2 + ((n : Int) - n)) = some (b n)
          rw [Int.sub_self, Int.add_zero]
        · rw [if_neg e, if_neg (fun g => e (by have g1 : (n : Int) ≤ i := g.1; have g2 : i < (n : Int) + 1 := g.2; omega)), Option.or_none]
      rcases List.eq_nil_or_concat (gatE b n) with e | ⟨m, y, e⟩
      · rw [e, joinE_nil]
        rw [e] at H
        refine ⟨railB_of hx rfl (fun y m e => by cases e), fun x hx => ?_, fun i => ?_⟩
        · rw [List.mem_singleton.1 hx]
          show (n : Int) + 1 ≤ ((n + 1 : Nat) : Int)
          omega
        · have := key [] (fun x hx => by cases hx) i
          rw [List.nil_append] at this
          rw [this, tellF_next h, ← H.tell]
      · rw [List.concat_eq_append] at e
        rw [e] at H ⊢
        rw [joinE_snoc]
        obtain ⟨r1, r2, r3⟩ := rail_snoc.1 H.rail
        have oy := oneB_iff.1 r2
        have hy := H.below y (by simp)
        have ey : y.stop = y.off + y.len := rfl
        by_cases c : y.stop = (n : Int) ∧ y.addr = (b n).1 ∧ y.src + y.len = (b n).2
        · rw [if_pos c]
          have hm : ∀ x ∈ m, x.stop ≤ n := fun x hx => H.below x (List.mem_append_left _ hx)
          refine ⟨rail_snoc.2 ⟨r1, oneB_iff.2 ⟨oy.1, by show 1 ≤ y.len + 1; omega, by show y.off + (y.len + 1) ≤ 8192; omega, oy.2.2.2.1, oy.2.2.2.2.1, oy.2.2.2.2.2.1, by show y.src + (y.len + 1) ≤ 1024; omega⟩, fun z q e2 => ?_⟩, fun x hx => ?_, fun i => ?_⟩
          · exact fitB_iff.2 (fitB_iff.1 (r3 z q e2))
          · rcases List.mem_append.1 hx with g | g
            · have := hm x g; omega
            · rw [List.mem_singleton.1 g]
              show y.off + (y.len + 1) ≤ ((n + 1 : Nat) : Int)
              omega
          · have ht := H.tell i
            rw [atE_append, atE_one] at ht
            rw [atE_append, atE_one, tellF_next h]
            by_cases e : i = n
            · subst e
              rw [if_pos rfl, atE_stop hm, Option.none_or, if_pos ⟨by show y.off ≤ (n : Int); omega, by show (n : Int) < y.off + (y.len + 1); omega⟩]
              show some (y.addr, y.src + ((n : Int) - y.off)) = some (b n)
              rw [show y.src + ((n : Int) - y.off) = (b n).2 by omega, c.2.1]
            · rw [if_neg e, ← ht]
              by_cases g : y.off ≤ i ∧ i < y.off + y.len
              · rw [if_pos g, if_pos (show y.off ≤ i ∧ i < y.off + (y.len + 1) from ⟨g.1, by omega⟩)]
              · rw [if_neg g, if_neg (show ¬ (y.off ≤ i ∧ i < y.off + (y.len + 1)) from fun q => g ⟨q.1, by omega⟩)]
        · rw [if_neg c]
          refine ⟨rail_snoc.2 ⟨H.rail, hx, fun z q e2 => ?_⟩, fun x hx => ?_, fun i => ?_⟩
          · have : z = y := by
              have := List.append_inj' e2 rfl
              exact (List.cons.inj this.2).1.symm
            subst this
            exact fitB_iff.2 ⟨hy, c⟩
          · rcases List.mem_append.1 hx with g | g
            · have := H.below x g; omega
            · rw [List.mem_singleton.1 g]
              show (n : Int) + 1 ≤ ((n + 1 : Nat) : Int)
              omega
          · rw [key _ H.below i, tellF_next h, H.tell]
end Go.Proofs.Ytfkgeefoknaldaa
