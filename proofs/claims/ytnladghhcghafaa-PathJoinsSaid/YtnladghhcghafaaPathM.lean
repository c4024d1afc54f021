/- Plain facts on names and paths: what a name is, a text cut at each slash, the path of names, that each is the other's opposite. No conditions. -/
import Derived.Test.YtnladghhcghafaaBytes
namespace Go.Proofs.Ytnladghhcghafaa
open Go.RowKit

/-- may a name have this byte? -/
def nameC (c : UInt8) : Bool := (decide (97 ≤ c.toNat) && decide (c.toNat ≤ 122)) || (decide (48 ≤ c.toNat) && decide (c.toNat ≤ 57)) || decide (c.toNat = 95)
def nameB (s : ByteArray) : Bool := decide (1 ≤ s.size) && (decide (s.size ≤ 8) && (lof s).all nameC)
theorem nameB_iff (s : ByteArray) : nameB s = true ↔ 1 ≤ s.size ∧ s.size ≤ 8 ∧ (lof s).all nameC = true := by simp [nameB]
theorem nameC_slash : nameC 47 = false := by decide
theorem name_slash {s : ByteArray} (h : nameB s = true) : (47 : UInt8) ∉ lof s := by
  intro hm
  have := List.all_eq_true.1 ((nameB_iff s).1 h).2.2 47 hm
  rw [nameC_slash] at this
  cases this
/-- a text cut at each slash -/
def cutAt : List UInt8 → List (List UInt8)
  | [] => [[]]
  | c :: t => if c = 47 then [] :: cutAt t else (match cutAt t with | [] => [[c]] | h :: r => (c :: h) :: r)
theorem cutAt_ne (l : List UInt8) : cutAt l ≠ [] := by
  cases l with
  | nil => simp [cutAt]
  | cons c t =>
    unfold cutAt
    split
    · simp
    · split <;> simp
theorem cutAt_at (t : List UInt8) : cutAt (47 :: t) = [] :: cutAt t := by rw [cutAt]; exact if_pos rfl
theorem cutAt_else (c : UInt8) (t : List UInt8) (h : c ≠ 47) : cutAt (c :: t) = (match cutAt t with | [] => [[c]] | h :: r => (c :: h) :: r) := by rw [cutAt]; exact if_neg h
theorem cutAt_slash (a b : List UInt8) : cutAt (a ++ 47 :: b) = cutAt a ++ cutAt b := by
  induction a with
  | nil => rw [List.nil_append, cutAt_at]; rfl
  | cons c t ih =>
    rw [List.cons_append]
    by_cases h : c = 47
    · rw [h, cutAt_at, cutAt_at, ih, List.cons_append]
    · rw [cutAt_else c _ h, cutAt_else c _ h, ih]
      cases h2 : cutAt t with
      | nil => exact absurd h2 (cutAt_ne t)
      | cons x r => rfl
theorem cutAt_plain (a : List UInt8) (h : (47 : UInt8) ∉ a) : cutAt a = [a] := by
  induction a with
  | nil => rfl
  | cons c t ih =>
    have h1 : c ≠ 47 := fun e => h (by rw [e]; exact List.mem_cons_self)
    have h2 : (47 : UInt8) ∉ t := fun e => h (List.mem_cons_of_mem _ e)
    rw [cutAt_else c t h1, ih h2]
/-- what a text is, cut at each slash -/
def pieces (l : List UInt8) : List ByteArray := (cutAt l).map bof
theorem pieces_slash (a b : List UInt8) : pieces (a ++ 47 :: b) = pieces a ++ pieces b := by unfold pieces; rw [cutAt_slash, List.map_append]
theorem pieces_plain (a : List UInt8) (h : (47 : UInt8) ∉ a) : pieces a = [bof a] := by unfold pieces; rw [cutAt_plain a h]; rfl
theorem pieces_ne (l : List UInt8) : pieces l ≠ [] := by unfold pieces; simp [cutAt_ne]
theorem pieces_name {s : ByteArray} (h : nameB s = true) : pieces (lof s) = [s] := by rw [pieces_plain _ (name_slash h)]; rfl

def slashB : ByteArray := ⟨#[47]⟩
theorem lof_slash : lof slashB = [47] := rfl
/-- names, each with a slash ahead -/
def joinL (l : List ByteArray) : ByteArray := l.foldl (fun p s => p ++ (slashB ++ s)) ⟨#[]⟩
theorem joinL_snoc (l : List ByteArray) (s : ByteArray) : joinL (l ++ [s]) = joinL l ++ (slashB ++ s) := by unfold joinL; rw [List.foldl_append]; rfl
def joinC : List ByteArray → List UInt8
  | [] => []
  | s :: l => 47 :: (lof s ++ joinC l)
theorem joinC_app (a b : List ByteArray) : joinC (a ++ b) = joinC a ++ joinC b := by
  induction a with
  | nil => rfl
  | cons s l ih => simp [joinC, ih]
theorem joinL_list (l : List ByteArray) : lof (joinL l) = joinC l := by
  have : ∀ p, lof (l.foldl (fun p s => p ++ (slashB ++ s)) p) = lof p ++ joinC l := by
    induction l with
    | nil => intro p; simp [joinC]
    | cons s l ih =>
      intro p
      rw [List.foldl_cons, ih, lof_app, lof_app, lof_slash]
      simp [joinC]
  unfold joinL
  rw [this]
  rfl
/-- a text cut at each slash, put together again -/
theorem joinC_cut (l : List UInt8) : joinC (pieces l) = 47 :: l := by
  induction l with
  | nil => rfl
  | cons c t ih =>
    unfold pieces at *
    unfold cutAt
    split
    · next h => rw [List.map_cons, joinC, ih, h]; rfl
    · cases h : cutAt t with
      | nil => exact absurd h (cutAt_ne t)
      | cons x r =>
        rw [h] at ih
        simp only [List.map_cons, joinC, lof_bof] at ih ⊢
        have := (List.cons.inj ih).2
        rw [List.cons_append, this]
/-- names that were put together, cut again -/
theorem cut_joinC (l : List ByteArray) (hn : l ≠ []) (h : l.all nameB = true) : ∃ t, joinC l = 47 :: t ∧ pieces t = l := by
  induction l with
  | nil => exact absurd rfl hn
  | cons s l ih =>
    rw [List.all_cons, Bool.and_eq_true] at h
    refine ⟨lof s ++ joinC l, rfl, ?_⟩
    cases l with
    | nil => simp only [joinC, List.append_nil]; exact pieces_name h.1
    | cons s2 l2 =>
      obtain ⟨t, h1, h2⟩ := ih (by simp) h.2
      rw [h1, pieces_slash, h2, pieces_name h.1]
      rfl
theorem joinL_size_le (l : List ByteArray) (h : l.all nameB = true) : (joinL l).size ≤ 9 * l.length := by
  rw [lof_size, joinL_list]
  induction l with
  | nil => exact Nat.le_refl _
  | cons s l ih =>
    rw [List.all_cons, Bool.and_eq_true] at h
    have := ih h.2
    have h8 := ((nameB_iff s).1 h.1).2.1
    rw [lof_size] at h8
    simp only [joinC, List.length_cons, List.length_append]
    omega
theorem joinL_ne {l : List ByteArray} (h : l ≠ []) : joinL l ≠ ⟨#[]⟩ := by
  intro e
  have := congrArg lof e
  rw [joinL_list] at this
  cases l with
  | nil => exact h rfl
  | cons s l => simp [joinC, lof] at this

/-- the path of names -/
def pathL (l : List ByteArray) : ByteArray := if l = [] then slashB else joinL l
/-- can names be a path's? -/
def fit (l : List ByteArray) : Bool := decide (l.length ≤ 8) && l.all nameB
theorem fit_iff (l : List ByteArray) : fit l = true ↔ l.length ≤ 8 ∧ l.all nameB = true := by simp [fit]
/-- Join: the path and the error -/
def joinR (l : List ByteArray) : ByteArray × Int := if fit l then (pathL l, 0) else (⟨#[]⟩, 11)
/-- is a text a path? -/
def goodR (p : ByteArray) : Bool := decide (p = slashB) || (decide ((lof p).head? = some 47) && fit (pieces ((lof p).drop 1)))
/-- the names of a path; none of the root, and of what is no path -/
def namesR (p : ByteArray) : List ByteArray := if p = slashB then [] else if goodR p then pieces ((lof p).drop 1) else []
def codeR (p : ByteArray) : Int := if goodR p then 0 else 11

theorem goodR_root : goodR slashB = true := by simp [goodR]
theorem namesR_root : namesR slashB = [] := if_pos rfl
theorem goodR_other {p : ByteArray} (h : p ≠ slashB) : goodR p = (decide ((lof p).head? = some 47) && fit (pieces ((lof p).drop 1))) := by simp [goodR, h]
/-- a text is a path just if it is some names' -/
theorem good_fit (p : ByteArray) (h : goodR p = true) : fit (namesR p) = true ∧ pathL (namesR p) = p := by
  by_cases e : p = slashB
  · subst e
    rw [namesR_root]
    exact ⟨rfl, rfl⟩
  · have h2 := h
    rw [goodR_other e, Bool.and_eq_true, decide_eq_true_eq] at h2
    have hn : namesR p = pieces ((lof p).drop 1) := by unfold namesR; rw [if_neg e, if_pos h]
    rw [hn]
    refine ⟨h2.2, ?_⟩
    unfold pathL
    rw [if_neg (pieces_ne _)]
    apply lof_inj
    rw [joinL_list, joinC_cut]
    cases hl : lof p with
    | nil => rw [hl] at h2; simp at h2
    | cons c t => rw [hl] at h2; simp at h2; rw [h2.1]; rfl
theorem fit_good (l : List ByteArray) (h : fit l = true) : goodR (pathL l) = true ∧ namesR (pathL l) = l := by
  by_cases e : l = []
  · subst e
    exact ⟨goodR_root, namesR_root⟩
  · have h2 := (fit_iff l).1 h
    obtain ⟨t, h3, h4⟩ := cut_joinC l e h2.2
    have hp : pathL l = joinL l := if_neg e
    have hl : lof (joinL l) = 47 :: t := by rw [joinL_list, h3]
    have hne : joinL l ≠ slashB := by
      intro e2
      rw [e2, lof_slash] at hl
      obtain rfl := (List.cons.inj hl).2
      rw [pieces_plain [] (by simp)] at h4
      rw [← h4] at h2
      exact absurd h2.2 (by decide)
    have hg : goodR (joinL l) = true := by
      rw [goodR_other hne, hl]
      simp [h4, h]
    rw [hp]
    refine ⟨hg, ?_⟩
    unfold namesR
    rw [if_neg hne, if_pos hg, hl]
    exact h4
theorem names_none {p : ByteArray} (h : goodR p = false) : namesR p = [] := by
  unfold namesR
  split
  · rfl
  · rw [if_neg (by rw [h]; simp)]
end Go.Proofs.Ytnladghhcghafaa
