/- Plain facts: the bytes that parts tell, one part laid over them, cut off, moved; what is gathered of them is the one joined list that tells the same. No conditions but those that the statements name. -/
import Derived.Test.YtfkgeefoknaldaaG03b
set_option linter.unusedVariables false
namespace Go.Proofs.Ytfkgeefoknaldaa
set_option linter.unusedVariables false
set_option maxRecDepth 20000
open Go.RowKit
/-- where each byte of parts lies -/
def spF (l : List Pt) : ByteF := fun i => match atE l i with | some x => x | none => (-1, 0)
theorem spF_some {l : List Pt} {i : Nat} {x : Int × Int} (h : atE l i = some x) : spF l i = x := by unfold spF; rw [h]
theorem spF_none {l : List Pt} {i : Nat} (h : atE l i = none) : spF l i = (-1, 0) := by unfold spF; rw [h]
theorem rail_one {l : List Pt} (h : railB l = true) : ∀ x ∈ l, oneB x = true := by
  induction l with
  | nil => intro x hx; cases hx
  | cons y l ih =>
    obtain ⟨h1, h2, _⟩ := railB_cons h
    intro x hx
    rcases List.mem_cons.1 hx with rfl | hx
    · exact h1
    · exact ih h2 x hx
theorem rail_at {l : List Pt} (h : railB l = true) {i a f : Int} (ha : atE l i = some (a, f)) : (0 ≤ i ∧ i < 8192) ∧ 0 ≤ a ∧ a < 16384 ∧ 0 ≤ f ∧ f < 1024 := by
  obtain ⟨x, hx, hi, rfl, rfl⟩ := atE_some ha
  have o := oneB_iff.1 (rail_one h x hx)
  omega
theorem spF_sound {l : List Pt} (h : railB l = true) (n : Nat) : soundF (spF l) n := fun i _ => by
  cases e : atE l i with
  | none => rw [spF_none e]; exact .inl (by decide)
  | some x =>
    obtain ⟨a, f⟩ := x
    rw [spF_some e]
    have := rail_at h e
    exact .inr ⟨this.2.2.1, this.2.2.2.1, this.2.2.2.2⟩
/-- what bytes tell of the parts that they were made of -/
theorem spF_tell {l : List Pt} (h : railB l = true) (i : Int) : tellF (spF l) 8192 i = atE l i := by
  unfold tellF
  cases e : atE l i with
  | some x =>
    obtain ⟨a, f⟩ := x
    have g := rail_at h e
    have e2 : atE l (i.toNat : Int) = some (a, f) := by rw [Int.toNat_of_nonneg g.1.1]; exact e
    rw [spF_some e2, if_pos ⟨g.1.1, by omega, g.2.1⟩]
  | none =>
    by_cases g : 0 ≤ i
    · have e2 : atE l (i.toNat : Int) = none := by rw [Int.toNat_of_nonneg g]; exact e
      rw [spF_none e2, if_neg (fun q => absurd q.2.2 (by decide))]
    · rw [if_neg (fun q => g q.1)]
/-- one part over all -/
def putF (b : ByteF) (x : Pt) : ByteF := fun i => if x.off ≤ (i : Int) ∧ (i : Int) < x.off + x.len then (x.addr, x.src + ((i : Int) - x.off)) else b i
/-- what lies below a size -/
def cutF (b : ByteF) (n : Int) : ByteF := fun i => if n ≤ (i : Int) then (-1, (b i).2) else b i
/-- what lies in one address's data, from a place on, lies in another one's -/
def movF (b : ByteF) (ad fr at_ ln to : Int) : ByteF := fun i => if (b i).1 = ad ∧ 0 ≤ (b i).2 - fr ∧ (b i).2 - fr < ln then (to, at_ + ((b i).2 - fr)) else b i
theorem putF_sound {b : ByteF} {n : Nat} (h : soundF b n) {x : Pt} (hx : oneB x = true) : soundF (putF b x) n := fun i hi => by
  unfold putF
  have o := oneB_iff.1 hx
  split
  · next c => exact .inr ⟨o.2.2.2.2.1, by show 0 ≤ x.src + _; omega, by show x.src + _ < 1024; omega⟩
  · exact h i hi
theorem cutF_sound {b : ByteF} {n : Nat} (h : soundF b n) (s : Int) : soundF (cutF b s) n := fun i hi => by
  unfold cutF
  split
  · exact .inl (by show (-1 : Int) < 0; decide)
  · exact h i hi
theorem movF_sound {b : ByteF} {n : Nat} (h : soundF b n) {ad fr at_ ln to : Int} (h1 : to < 16384) (h2 : 0 ≤ at_) (h3 : at_ + ln ≤ 1024) : soundF (movF b ad fr at_ ln to) n := fun i hi => by
  unfold movF
  split
  · next c => exact .inr ⟨h1, by show 0 ≤ at_ + _; omega, by show at_ + _ < 1024; omega⟩
  · exact h i hi
/-- what is gathered is the one joined list that tells the same -/
theorem gat_is {b : ByteF} {l : List Pt} (hb : soundF b 8192) (hl : railB l = true) (h : ∀ i, atE l i = tellF b 8192 i) : gatE b 8192 = l :=
  rail_same (gatE_all hb (Nat.le_refl _)).rail hl (fun i => by rw [(gatE_all hb (Nat.le_refl _)).tell, h])
theorem gat_spF {l : List Pt} (hl : railB l = true) : gatE (spF l) 8192 = l := gat_is (spF_sound hl _) hl (fun i => (spF_tell hl i).symm)
theorem tell_put {b : ByteF} {x : Pt} (hx : oneB x = true) (i : Int) : tellF (putF b x) 8192 i = if x.off ≤ i ∧ i < x.off + x.len then some (x.addr, x.src + (i - x.off)) else tellF b 8192 i := by
  have o := oneB_iff.1 hx
  unfold tellF putF
  by_cases c : x.off ≤ i ∧ i < x.off + x.len
  · have e : (i.toNat : Int) = i := Int.toNat_of_nonneg (by omega)
    rw [if_pos c, if_pos ⟨by omega, by omega, by rw [e, if_pos c]; exact o.2.2.2.1⟩, e, if_pos c]
  · rw [if_neg c]
    by_cases g : 0 ≤ i
    · have e : (i.toNat : Int) = i := Int.toNat_of_nonneg g
      rw [e, if_neg c]
    · rw [if_neg (fun q => g q.1), if_neg (fun q => g q.1)]
theorem tell_cut {b : ByteF} (s i : Int) : tellF (cutF b s) 8192 i = if i < s then tellF b 8192 i else none := by
  unfold tellF cutF
  by_cases g : 0 ≤ i
  · have e : (i.toNat : Int) = i := Int.toNat_of_nonneg g
    rw [e]
    by_cases c : i < s
    · rw [if_pos c, if_neg (by omega : ¬ s ≤ i)]
    · rw [if_neg c, if_pos (by omega : s ≤ i), if_neg (show ¬ (0 ≤ i ∧ i < (8192 : Nat) ∧ (0 : Int) ≤ -1) from fun q => absurd q.2.2 (by decide))]
  · rw [if_neg (fun q => g q.1)]
    split
    · rw [if_neg (fun q => g q.1)]
    · rfl
theorem tell_mov {b : ByteF} {ad fr at_ ln to : Int} (h0 : 0 ≤ to) (ha : 0 ≤ ad) (i : Int) : tellF (movF b ad fr at_ ln to) 8192 i = (tellF b 8192 i).map (fun x => if x.1 = ad ∧ 0 ≤ x.2 - fr ∧ x.2 - fr < ln then (to, at_ + (x.2 - fr)) else x) := by
  unfold tellF movF
  by_cases g : 0 ≤ i ∧ i < (8192 : Nat) ∧ 0 ≤ (b i.toNat).1
  · rw [if_pos g, Option.map_some]
    by_cases c : (b i.toNat).1 = ad ∧ 0 ≤ (b i.toNat).2 - fr ∧ (b i.toNat).2 - fr < ln
    · rw [if_pos c, if_pos ⟨g.1, g.2.1, h0⟩]
    · rw [if_neg c, if_pos g]
  · rw [if_neg g, Option.map_none, if_neg (fun q => ?_)]
    by_cases c : (b i.toNat).1 = ad ∧ 0 ≤ (b i.toNat).2 - fr ∧ (b i.toNat).2 - fr < ln
    · rw [if_pos c] at q
      exact g ⟨q.1, q.2.1, by omega⟩
    · rw [if_neg c] at q
      exact g q
end Go.Proofs.Ytfkgeefoknaldaa
