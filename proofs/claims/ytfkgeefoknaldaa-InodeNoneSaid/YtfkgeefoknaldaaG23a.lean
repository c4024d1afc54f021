/- Stage 20: the document's table: an inode among those at hand; Truncate. No conditions. -/
import Derived.Test.YtfkgeefoknaldaaG10b
import Derived.Test.YtfkgeefoknaldaaG22a
set_option linter.unusedVariables false
namespace Go.Proofs.Ytfkgeefoknaldaa
open Go.RowKit
set_option linter.unusedVariables false
set_option maxRecDepth 20000
theorem iv_cases (l : List Iv) (n : Int) : ((∀ j (hj : j < l.length), l[j].x.ino ≠ n) ∧ getI (l.map (·.x)) n = none) ∨ ∃ a y r, l = a ++ y :: r ∧ y.x.ino = n ∧ (∀ z ∈ a, z.x.ino ≠ n) ∧ getI (l.map (·.x)) n = some y.x := by
  induction l with
  | nil => exact .inl ⟨fun j hj => absurd hj (Nat.not_lt_zero _), rfl⟩
  | cons y l ih =>
    by_cases h : y.x.ino = n
    · exact .inr ⟨[], y, l, rfl, h, (fun z hz => by cases hz), List.find?_cons_of_pos (by simpa using h)⟩
    · have hf : getI ((y :: l).map (·.x)) n = getI (l.map (·.x)) n := List.find?_cons_of_neg (by simpa using h)
      rw [hf]
      rcases ih with ⟨h1, h2⟩ | ⟨a, z, r, h1, h2, h3, h4⟩
      · exact .inl ⟨fun j hj => by
          cases j with
          | zero => exact h
          | succ j => exact h1 j (by simpa using hj), h2⟩
      · exact .inr ⟨y :: a, z, r, by rw [h1]; rfl, h2, fun u hu => by
          rcases List.mem_cons.1 hu with rfl | hu
          · exact h
          · exact h3 u hu, h4⟩
theorem iv_before {a r : List Iv} {y : Iv} {n : Int} (h : ∀ z ∈ a, z.x.ino ≠ n) : ∀ j (hj : j < a.length), ((a ++ y :: r)[j]'(by simp; omega)).x.ino ≠ n := fun j hj => by
  rw [List.getElem_append_left hj]
  exact h _ (List.getElem_mem hj)
theorem iv_at (a r : List Iv) (y : Iv) : (a ++ y :: r)[a.length]'(by simp) = y := by simp
/-- numbers rise: behind the one there is no other -/
theorem iv_turn {a r : List Iv} {y : Iv} {n : Int} {f : Ino → Ino} {y' : Iv} (hp : ((a ++ y :: r).map (·.x)).Pairwise (fun x y => x.ino < y.ino)) (hy : y.x.ino = n) (ha : ∀ z ∈ a, z.x.ino ≠ n) (hf : y'.x = f y.x) :
    (a ++ y' :: r).map (·.x) = turnI ((a ++ y :: r).map (·.x)) n f := by
  have hr : ∀ z ∈ r, z.x.ino ≠ n := fun z hz => by
    rw [List.map_append, List.map_cons, List.pairwise_append] at hp
    have := (List.pairwise_cons.1 hp.2.1).1 z.x (List.mem_map.2 ⟨z, hz, rfl⟩)
    omega
  unfold turnI
  rw [List.map_append, List.map_cons, List.map_append, List.map_cons, List.map_append, List.map_cons, if_pos hy, hf]
  congr 1
  · rw [List.map_map]
    exact List.map_congr_left (fun z hz => (if_neg (ha z hz)).symm)
  · congr 1
    rw [List.map_map]
    exact List.map_congr_left (fun z hz => (if_neg (hr z hz)).symm)
theorem DTab.few {w : World} {B q g cap : Nat} {l : List Iv} {t : Tb} (ht : TbI t) (hm : l.map (·.x) = t.l) : l.length ≤ 64 := by
  have := ht.most
  rw [← hm, List.length_map] at this
  exact this
theorem IvIn.turn {w : World} {q g : Nat} {y : Iv} (h : IvIn w q g y) (x : Ino) (hx : x.parts = y.x.parts) : IvIn w q g ⟨x, y.ao, y.cap⟩ := by
  unfold IvIn at h ⊢
  show PaL w y.ao x.parts ∧ (y.ao = none → y.cap = 0) ∧ x.parts.length ≤ y.cap ∧ _
  rw [hx]
  exact h
/-- new parts, in memory of their own -/
theorem IvIn.fresh {w W : World} {q g : Nat} {v : Value} {l : List Pt} {x : Ino} (h : OPa w W.heap.size v l) (hx : x.parts = l) (hq : q < W.heap.size) (hg : g < W.heap.size) : ∃ ao cap, v = .slice ao l.length cap ∧ IvIn w q g ⟨x, ao, cap⟩ := by
  obtain ⟨ao, cap, h1, h2, h3, h4, h5, _⟩ := OR.form par_rows h
  refine ⟨ao, cap, h1, ?_⟩
  show PaL w ao x.parts ∧ (ao = none → cap = 0) ∧ x.parts.length ≤ cap ∧ ∀ a, ao = some a → _
  rw [hx]
  exact ⟨h2, h4, h3, fun a e => ⟨(h5 a e).2, by have := (h5 a e).1; omega, by have := (h5 a e).1; omega⟩⟩
abbrev laterOp (o : Op) : Op := o
theorem fileI_none {t : Tb} {n : Int} {f : Ino → Ino × Int} (h : getI t.l n = none) : fileI t n f = (t, 60) := by unfold fileI; rw [h]
theorem fileI_dir {t : Tb} {n : Int} {f : Ino → Ino × Int} {x : Ino} (h : getI t.l n = some x) (hk : x.kind = 1) : fileI t n f = (t, 63) := by unfold fileI; rw [h]; exact if_pos hk
theorem fileI_yes {t : Tb} {n : Int} {f : Ino → Ino × Int} {x : Ino} (h : getI t.l n = some x) (hk : ¬ x.kind = 1) : fileI t n f = (⟨turnI t.l n (fun y => (f y).1), t.next⟩, (f x).2) := by unfold fileI; rw [h]; exact if_neg hk
theorem turnI_same (l : List Ino) (n : Int) : turnI l n (fun y => y) = l := by
  unfold turnI
  conv => rhs; rw [← List.map_id l]
  exact List.map_congr_left (fun x _ => by by_cases h : x.ino = n <;> simp [h])
end Go.Proofs.Ytfkgeefoknaldaa
