/- Small lemmas for every walk of this seat. No conditions. Plain facts on bytes as lists: joined, cut, alike. No conditions. Plain facts on names and paths: what a name is, a text cut at each slash, the path of names, that each is the other's opposite. No conditions. What Name returns, of path: whether a text is a name. Conditions: none but that a text is no longer than any may be. What Name returns, of the document's own answer: whether a text is a name. No conditions. -/
import Derived.Test.YthileemkiplodaaProg
import Derived.WalkKit
import Derived.WalkSpells
import Derived.WalkLawsBesides
import Derived.Lib.Hide
import Derived.BigQuiet
import Derived.Deep.QuietTactic
import Derived.Lib.Strings
set_option linter.unusedVariables false
namespace Go.Proofs.Ythileemkiplodaa
open Go.RowKit
theorem ret_int {k : IntKind} {a b : Int} (h : a = b) : Ending.returned (.int k a) = .returned (.int k b) := by rw [h]
theorem quiet_eq {P : Program} {f : FuncId} {args : Array Value} {w : World} {n : Nat} {v : Value}
    (h : Calls P f args (w.drewN n) fun e w' => e = .returned v ∧ w.drewN n = w') : Calls P f args (w.drewN n) fun e w'' => e = .returned v ∧ ∃ m, w'' = w.drewN m :=
  h.mono fun _ _ ⟨he, hm⟩ => ⟨he, n, hm.symm⟩
end Go.Proofs.Ythileemkiplodaa
namespace Go.Proofs.Ythileemkiplodaa
open Go.RowKit

def lof (s : ByteArray) : List UInt8 := s.data.toList
def bof (l : List UInt8) : ByteArray := ⟨⟨l⟩⟩
theorem bof_lof (s : ByteArray) : bof (lof s) = s := rfl
theorem lof_bof (l : List UInt8) : lof (bof l) = l := rfl
theorem lof_inj {s t : ByteArray} (h : lof s = lof t) : s = t := ByteArray.ext (Array.toList_inj.1 h)
theorem lof_app (a b : ByteArray) : lof (a ++ b) = lof a ++ lof b := by
  unfold lof
  rw [ByteArray.data_append]
  exact Array.toList_append
theorem lof_size (s : ByteArray) : s.size = (lof s).length := by simp [lof]
theorem lof_ext (s : ByteArray) (a b : Nat) : lof (s.extract a b) = ((lof s).drop a).take (b - a) := by
  unfold lof
  rw [ByteArray.data_extract]
  simp [Array.toList_extract, List.extract]
theorem lof_rest (s : ByteArray) (a : Nat) : lof (s.extract a s.size) = (lof s).drop a := by
  rw [lof_ext, List.take_of_length_le (by rw [List.length_drop, ← lof_size]; exact Nat.le_refl _)]
theorem lof_head (s : ByteArray) (b : Nat) : lof (s.extract 0 b) = (lof s).take b := by rw [lof_ext, List.drop_zero, Nat.sub_zero]
theorem lof_get (s : ByteArray) (i : Nat) (h : i < s.size) : (lof s)[i]? = some s[i] := by
  rw [List.getElem?_eq_getElem (by rw [← lof_size]; exact h)]
  rfl
theorem lof_at (s : ByteArray) (i : Nat) (h : i < s.size) : (lof s)[i]'(by rw [← lof_size]; exact h) = s[i] := rfl
theorem bof_size (l : List UInt8) : (bof l).size = l.length := lof_size _
theorem lof_nil : lof ⟨#[]⟩ = [] := rfl
theorem isEmpty_of {s : ByteArray} (h : s ≠ ⟨#[]⟩) : s.toList.isEmpty = false := by
  cases e : s.toList.isEmpty
  · rfl
  · exfalso
    apply h
    rw [List.isEmpty_iff, Lib.toList_data] at e
    exact lof_inj e
theorem str_ne {p q : ByteArray} (h : p ≠ q) : (p.toList == q.toList) = false := by
  rw [beq_eq_false_iff_ne, Lib.toList_data, Lib.toList_data]
  intro e
  exact h (lof_inj e)
theorem byte_eq {c : UInt8} : c.toNat = 47 ↔ c = 47 := by
  constructor
  · intro h; exact UInt8.toNat_inj.1 h
  · rintro rfl; rfl
end Go.Proofs.Ythileemkiplodaa
namespace Go.Proofs.Ythileemkiplodaa
open Go.RowKit

/-- may a name have this byte? -/
def nameC (c : UInt8) : Bool := (decide (97 ≤ c.toNat) && decide (c.toNat ≤ 122)) || (decide (48 ≤ c.toNat) && decide (c.toNat ≤ 57)) || decide (c.toNat = 95)
def nameB (s : ByteArray) : Bool := decide (1 ≤ s.size) && (decide (s.size ≤ 8) && (lof s).all nameC)
theorem nameB_iff (s : ByteArray) : nameB s = true ↔ 1 ≤ s.size ∧ s.size ≤ 8 ∧ (lof s).all nameC = true := by simp [nameB]
theorem nameC_slash : nameC 47 = false := by decide
theorem name_slash {s : ByteArray} (h : nameB s = true) : (47 : UInt8) ∉ lof s := by
  intro hm
  have := List.all_eq_true.1 ((nameB_iff s).1 h).2.2 47 hm
  rw [nameC_slash] at this
  cases this
/-- a text cut at each slash -/
def cutAt : List UInt8 → List (List UInt8)
  | [] => [[]]
  | c :: t => if c = 47 then [] :: cutAt t else (match cutAt t with | [] => [[c]] | h :: r => (c :: h) :: r)
theorem cutAt_ne (l : List UInt8) : cutAt l ≠ [] := by
  cases l with
  | nil => simp [cutAt]
  | cons c t =>
    unfold cutAt
    split
    · simp
    · split <;> simp
theorem cutAt_at (t : List UInt8) : cutAt (47 :: t) = [] :: cutAt t := by rw [cutAt]; exact if_pos rfl
theorem cutAt_else (c : UInt8) (t : List UInt8) (h : c ≠ 47) : cutAt (c :: t) = (match cutAt t with | [] => [[c]] | h :: r => (c :: h) :: r) := by rw [cutAt]; exact if_neg h
theorem cutAt_slash (a b : List UInt8) : cutAt (a ++ 47 :: b) = cutAt a ++ cutAt b := by
  induction a with
  | nil => rw [List.nil_append, cutAt_at]; rfl
  | cons c t ih =>
    rw [List.cons_append]
    by_cases h : c = 47
    · rw [h, cutAt_at, cutAt_at, ih, List.cons_append]
    · rw [cutAt_else c _ h, cutAt_else c _ h, ih]
      cases h2 : cutAt t with
      | nil => exact absurd h2 (cutAt_ne t)
      | cons x r => rfl
theorem cutAt_plain (a : List UInt8) (h : (47 : UInt8) ∉ a) : cutAt a = [a] := by
  induction a with
  | nil => rfl
  | cons c t ih =>
    have h1 : c ≠ 47 := fun e => h (by rw [e]; exact List.mem_cons_self)
    have h2 : (47 : UInt8) ∉ t := fun e => h (List.mem_cons_of_mem _ e)
    rw [cutAt_else c t h1, ih h2]
/-- what a text is, cut at each slash -/
def pieces (l : List UInt8) : List ByteArray := (cutAt l).map bof
theorem pieces_slash (a b : List UInt8) : pieces (a ++ 47 :: b) = pieces a ++ pieces b := by unfold pieces; rw [cutAt_slash, List.map_append]
theorem pieces_plain (a : List UInt8) (h : (47 : UInt8) ∉ a) : pieces a = [bof a] := by unfold pieces; rw [cutAt_plain a h]; rfl
theorem pieces_ne (l : List UInt8) : pieces l ≠ [] := by unfold pieces; simp [cutAt_ne]
theorem pieces_name {s : ByteArray} (h : nameB s = true) : pieces (lof s) = [s] := by rw [pieces_plain _ (name_slash h)]; rfl

def slashB : ByteArray := ⟨#[47]⟩
theorem lof_slash : lof slashB = [47] := rfl
/-- names, each with a slash ahead -/
def joinL (l : List ByteArray) : ByteArray := l.foldl (fun p s => p ++ (slashB ++ s)) ⟨#[]⟩
theorem joinL_snoc (l : List ByteArray) (s : ByteArray) : joinL (l ++ [s]) = joinL l ++ (slashB ++ s) := by unfold joinL; rw [List.foldl_append]; rfl
def joinC : List ByteArray → List UInt8
  | [] => []
  | s :: l => 47 :: (lof s ++ joinC l)
theorem joinC_app (a b : List ByteArray) : joinC (a ++ b) = joinC a ++ joinC b := by
  induction a with
  | nil => rfl
  | cons s l ih => simp [joinC, ih]
theorem joinL_list (l : List ByteArray) : lof (joinL l) = joinC l := by
  have : ∀ p, lof (l.foldl (fun p s => p ++ (slashB ++ s)) p) = lof p ++ joinC l := by
    induction l with
    | nil => intro p; simp [joinC]
    | cons s l ih =>
      intro p
      rw [List.foldl_cons, ih, lof_app, lof_app, lof_slash]
      simp [joinC]
  unfold joinL
  rw [this]
  rfl
/-- a text cut at each slash, put together again -/
theorem joinC_cut (l : List UInt8) : joinC (pieces l) = 47 :: l := by
  induction l with
  | nil => rfl
  | cons c t ih =>
    unfold pieces at *
    unfold cutAt
    split
    · next h => rw [List.map_cons, joinC, ih, h]; rfl
    · cases h : cutAt t with
      | nil => exact absurd h (cutAt_ne t)
      | cons x r =>
        rw [h] at ih
        simp only [List.map_cons, joinC, lof_bof] at ih ⊢
        have := (List.cons.inj ih).2
        rw [List.cons_append, this]
/-- names that were put together, cut again -/
theorem cut_joinC (l : List ByteArray) (hn : l ≠ []) (h : l.all nameB = true) : ∃ t, joinC l = 47 :: t ∧ pieces t = l := by
  induction l with
  | nil => exact absurd rfl hn
  | cons s l ih =>
    rw [List.all_cons, Bool.and_eq_true] at h
    refine ⟨lof s ++ joinC l, rfl, ?_⟩
    cases l with
    | nil => simp only [joinC, List.append_nil]; exact pieces_name h.1
    | cons s2 l2 =>
      obtain ⟨t, h1, h2⟩ := ih (by simp) h.2
      rw [h1, pieces_slash, h2, pieces_name h.1]
      rfl
theorem joinL_size_le (l : List ByteArray) (h : l.all nameB = true) : (joinL l).size ≤ 9 * l.length := by
  rw [lof_size, joinL_list]
  induction l with
  | nil => exact Nat.le_refl _
  | cons s l ih =>
    rw [List.all_cons, Bool.and_eq_true] at h
    have := ih h.2
    have h8 := ((nameB_iff s).1 h.1).2.1
    rw [lof_size] at h8
    simp only [joinC, List.length_cons, List.length_append]
    omega
theorem joinL_ne {l : List ByteArray} (h : l ≠ []) : joinL l ≠ ⟨#[]⟩ := by
  intro e
  have := congrArg lof e
  rw [joinL_list] at this
  cases l with
  | nil => exact h rfl
  | cons s l => simp [joinC, lof] at this

/-- the path of names -/
def pathL (l : List ByteArray) : ByteArray := if l = [] then slashB else joinL l
/-- can names be a path's? -/
def fit (l : List ByteArray) : Bool := decide (l.length ≤ 8) && l.all nameB
theorem fit_iff (l : List ByteArray) : fit l = true ↔ l.length ≤ 8 ∧ l.all nameB = true := by simp [fit]
/-- Join: the path and the error -/
def joinR (l : List ByteArray) : ByteArray × Int := if fit l then (pathL l, 0) else (⟨#[]⟩, 11)
/-- is a text a path? -/
def goodR (p : ByteArray) : Bool := decide (p = slashB) || (decide ((lof p).head? = some 47) && fit (pieces ((lof p).drop 1)))
/-- the names of a path; none of the root, and of what is no path -/
def namesR (p : ByteArray) : List ByteArray := if p = slashB then [] else if goodR p then pieces ((lof p).drop 1) else []
def codeR (p : ByteArray) : Int := if goodR p then 0 else 11

theorem goodR_root : goodR slashB = true := by simp [goodR]
theorem namesR_root : namesR slashB = [] := if_pos rfl
theorem goodR_other {p : ByteArray} (h : p ≠ slashB) : goodR p = (decide ((lof p).head? = some 47) && fit (pieces ((lof p).drop 1))) := by simp [goodR, h]
/-- a text is a path just if it is some names' -/
theorem good_fit (p : ByteArray) (h : goodR p = true) : fit (namesR p) = true ∧ pathL (namesR p) = p := by
  by_cases e : p = slashB
  · subst e
    rw [namesR_root]
    exact ⟨rfl, rfl⟩
  · have h2 := h
    rw [goodR_other e, Bool.and_eq_true, decide_eq_true_eq] at h2
    have hn : namesR p = pieces ((lof p).drop 1) := by unfold namesR; rw [if_neg e, if_pos h]
    rw [hn]
    refine ⟨h2.2, ?_⟩
    unfold pathL
    rw [if_neg (pieces_ne _)]
    apply lof_inj
    rw [joinL_list, joinC_cut]
    cases hl : lof p with
    | nil => rw [hl] at h2; simp at h2
    | cons c t => rw [hl] at h2; simp at h2; rw [h2.1]; rfl
theorem fit_good (l : List ByteArray) (h : fit l = true) : goodR (pathL l) = true ∧ namesR (pathL l) = l := by
  by_cases e : l = []
  · subst e
    exact ⟨goodR_root, namesR_root⟩
  · have h2 := (fit_iff l).1 h
    obtain ⟨t, h3, h4⟩ := cut_joinC l e h2.2
    have hp : pathL l = joinL l := if_neg e
    have hl : lof (joinL l) = 47 :: t := by rw [joinL_list, h3]
    have hne : joinL l ≠ slashB := by
      intro e2
      rw [e2, lof_slash] at hl
      obtain rfl := (List.cons.inj hl).2
      rw [pieces_plain [] (by simp)] at h4
      rw [← h4] at h2
      exact absurd h2.2 (by decide)
    have hg : goodR (joinL l) = true := by
      rw [goodR_other hne, hl]
      simp [h4, h]
    rw [hp]
    refine ⟨hg, ?_⟩
    unfold namesR
    rw [if_neg hne, if_pos hg, hl]
    exact h4
theorem names_none {p : ByteArray} (h : goodR p = false) : namesR p = [] := by
  unfold namesR
  split
  · rfl
  · rw [if_neg (by rw [h]; simp)]
theorem names_le (p : ByteArray) : (namesR p).length ≤ 8 ∧ (namesR p).all nameB = true := by
  cases h : goodR p
  · rw [names_none h]; exact ⟨by simp, rfl⟩
  · exact (fit_iff _).1 (good_fit p h).1
theorem joinR_yes {L : List ByteArray} (h : fit L = true) : joinR L = (pathL L, 0) := by simp [joinR, h]
theorem joinR_no {L : List ByteArray} (h : fit L = false) : joinR L = (⟨#[]⟩, 11) := by simp [joinR, h]
theorem fit_long {L : List ByteArray} (h : 8 < L.length) : fit L = false := by simp [fit]; omega
theorem fit_not {L : List ByteArray} {k : Nat} (hk : k < L.length) (h : nameB L[k] = false) : fit L = false := by
  apply Bool.eq_false_iff.2
  intro hf
  have := List.all_eq_true.1 ((fit_iff _).1 hf).2 _ (List.getElem_mem hk)
  rw [h] at this
  cases this
theorem take_names {L : List ByteArray} {k : Nat} (hk : k < L.length) (h : (L.take k).all nameB = true) (hn : nameB L[k] = true) : (L.take (k + 1)).all nameB = true := by
  rw [List.take_succ_eq_append_getElem hk, List.all_append, h]
  simp [hn]
theorem take_join {L : List ByteArray} {k : Nat} (hk : k < L.length) : joinC (L.take (k + 1)) = joinC (L.take k) ++ 47 :: lof L[k] := by
  rw [List.take_succ_eq_append_getElem hk, joinC_app]
  simp [joinC]
theorem joinC_le (l : List ByteArray) (h : l.all nameB = true) : (joinC l).length ≤ 9 * l.length := by
  have := joinL_size_le l h
  rwa [lof_size, joinL_list] at this
theorem joinL_take {L : List ByteArray} {k : Nat} (hk : k < L.length) : joinL (L.take (k + 1)) = joinL (L.take k) ++ (⟨#[47]⟩ ++ L[k]) := by
  rw [List.take_succ_eq_append_getElem hk, joinL_snoc]
  rfl
theorem codeR_yes {p : ByteArray} (h : goodR p = true) : codeR p = 0 := by unfold codeR; rw [h]; rfl
theorem codeR_no {p : ByteArray} (h : goodR p = false) : codeR p = 11 := by unfold codeR; rw [h]; rfl
theorem joinC_pieces (K : List ByteArray) (h : K.all nameB = true) (t : List UInt8) : ∃ u, joinC K ++ 47 :: t = 47 :: u ∧ pieces u = K ++ pieces t := by
  induction K with
  | nil => exact ⟨t, rfl, rfl⟩
  | cons s K ih =>
    rw [List.all_cons, Bool.and_eq_true] at h
    obtain ⟨u, h1, h2⟩ := ih h.2
    refine ⟨lof s ++ 47 :: u, ?_, ?_⟩
    · rw [joinC, List.cons_append, List.append_assoc, h1]
    · rw [pieces_slash, pieces_name h.1, h2]
      rfl
theorem good_pieces {p : ByteArray} (hp : p ≠ slashB) (K : List ByteArray) (h : K.all nameB = true) (t : List UInt8) (e : lof p = joinC K ++ 47 :: t) :
    goodR p = fit (K ++ pieces t) ∧ (goodR p = true → namesR p = K ++ pieces t) := by
  obtain ⟨u, h1, h2⟩ := joinC_pieces K h t
  have e2 : lof p = 47 :: u := e.trans h1
  have hg : goodR p = fit (K ++ pieces t) := by
    rw [goodR_other hp, e2]
    simp [h2]
  refine ⟨hg, fun hy => ?_⟩
  unfold namesR
  rw [if_neg hp, if_pos hy, e2]
  exact h2
theorem cut_none {p : ByteArray} (hp : p ≠ slashB) (hr : (lof p).head? ≠ some 47) : goodR p = false := by
  rw [goodR_other hp]
  simp [hr]
theorem rootB {p : ByteArray} (h : p ≠ slashB) : (p.toList == [47]) = false := by
  rw [beq_eq_false_iff_ne, Lib.toList_data]
  intro e
  exact h (lof_inj e)
theorem split_of {p : ByteArray} (hp : p ≠ slashB) (hh : (lof p).head? = some 47) : goodR p = fit (pieces ((lof p).drop 1)) ∧ (goodR p = true → namesR p = pieces ((lof p).drop 1)) := by
  refine ⟨by rw [goodR_other hp]; simp [hh], fun hg => ?_⟩
  unfold namesR
  rw [if_neg hp, if_pos hg]
theorem nameC_yes1 {c : UInt8} (h1 : 97 ≤ c.toNat) (h2 : c.toNat ≤ 122) : nameC c = true := by simp [nameC, h1, h2]
theorem nameC_yes2 {c : UInt8} (h1 : 48 ≤ c.toNat) (h2 : c.toNat ≤ 57) : nameC c = true := by simp [nameC, h1, h2]
theorem nameC_yes3 {c : UInt8} (h1 : c.toNat = 95) : nameC c = true := by simp [nameC, h1]
theorem nameC_no {c : UInt8} (h1 : ¬ (97 ≤ c.toNat ∧ c.toNat ≤ 122)) (h2 : ¬ (48 ≤ c.toNat ∧ c.toNat ≤ 57)) (h3 : c.toNat ≠ 95) : nameC c = false := by
  simp only [nameC, Bool.or_eq_false_iff, Bool.and_eq_false_iff, decide_eq_false_iff_not]
  omega
theorem all_snoc (s : ByteArray) (k : Nat) (h : k < s.size) (ha : ((lof s).take k).all nameC = true) (hc : nameC s[k] = true) : ((lof s).take (k + 1)).all nameC = true := by
  rw [List.take_succ_eq_append_getElem (by rw [← lof_size]; exact h), List.all_append, ha]
  show (nameC s[k] && true) = true
  rw [hc]
  rfl
theorem all_not (s : ByteArray) (k : Nat) (h : k < s.size) (hc : nameC s[k] = false) : nameB s = false := by
  apply Bool.eq_false_iff.2
  intro hb
  have h2 := List.all_eq_true.1 ((nameB_iff s).1 hb).2.2 s[k] (List.mem_of_getElem? (lof_get s k h))
  rw [hc] at h2
  cases h2
theorem name_short {s : ByteArray} (h : s.size < 1) : nameB s = false := by simp [nameB]; omega
theorem name_long {s : ByteArray} (h : 8 < s.size) : nameB s = false := by simp [nameB]; omega
theorem name_yes {s : ByteArray} (h1 : 1 ≤ s.size) (h2 : s.size ≤ 8) (h : ((lof s).take s.size).all nameC = true) : nameB s = true := by
  rw [List.take_of_length_le (by rw [← lof_size]; exact Nat.le_refl _)] at h
  exact (nameB_iff s).2 ⟨h1, h2, h⟩
end Go.Proofs.Ythileemkiplodaa
namespace Go.Proofs.Ythileemkiplodaa
open Go.RowKit

theorem inName_any (c : UInt8) (w : World) :
    Calls Try.prog 78 #[.int .u8 (c.toNat : Int)] w fun e w' => e = .returned (.bool (nameC c)) ∧ w = w' := by
  have hn := c.toNat_lt
  have y1 := @nameC_yes1 c
  have y2 := @nameC_yes2 c
  have y3 := @nameC_yes3 c
  have y4 := @nameC_no c
  generalize nameC c = B at *
  generalize c.toNat = n at *
  by_cases a1 : n < 48
  · obtain rfl := y4 (by omega) (by omega) (by omega)
    have d := beq_eq_false_iff_ne.2 (show (n : Int) ≠ 95 by omega)
    have b1 : (n : Int) < 48 := by omega
    clear y1 y2 y3 y4 a1 hn
    go_enter Try.func78, Try.ntmps78
    go_wp2
    go_ret
    exact ⟨rfl, rfl⟩
  by_cases a2 : n ≤ 57
  · obtain rfl := y2 (by omega) (by omega)
    have b1 : (48 : Int) ≤ (n : Int) := by omega
    have b2 : (n : Int) ≤ 57 := by omega
    clear y1 y2 y3 y4 a1 a2 hn
    go_enter Try.func78, Try.ntmps78
    go_wp2
    go_ret
    exact ⟨rfl, rfl⟩
  by_cases a3 : n = 95
  · obtain rfl := y3 a3
    subst a3
    clear y1 y2 y3 y4 a1 a2 hn
    go_enter Try.func78, Try.ntmps78
    go_wp2
    go_ret
    exact ⟨rfl, rfl⟩
  have d := beq_eq_false_iff_ne.2 (show (n : Int) ≠ 95 by omega)
  by_cases a4 : n < 97
  · obtain rfl := y4 (by omega) (by omega) (by omega)
    have b1 : decide ((n : Int) ≤ 57) = false := decide_eq_false (by omega)
    have b2 : (n : Int) < 97 := by omega
    have b3 : (48 : Int) ≤ (n : Int) := by omega
    clear y1 y2 y3 y4 a1 a2 a3 a4 hn
    go_enter Try.func78, Try.ntmps78
    go_wp2
    go_ret
    exact ⟨rfl, rfl⟩
  by_cases a5 : n ≤ 122
  · obtain rfl := y1 (by omega) (by omega)
    have b1 : (97 : Int) ≤ (n : Int) := by omega
    have b2 : (n : Int) ≤ 122 := by omega
    clear y1 y2 y3 y4 a1 a2 a3 a4 a5 hn d
    go_enter Try.func78, Try.ntmps78
    go_wp2
    go_ret
    exact ⟨rfl, rfl⟩
  · obtain rfl := y4 (by omega) (by omega) (by omega)
    have b1 : decide ((n : Int) ≤ 57) = false := decide_eq_false (by omega)
    have b2 : decide ((n : Int) ≤ 122) = false := decide_eq_false (by omega)
    have b3 : (97 : Int) ≤ (n : Int) := by omega
    have b4 : (48 : Int) ≤ (n : Int) := by omega
    clear y1 y2 y3 y4 a1 a2 a3 a4 a5 hn
    go_enter Try.func78, Try.ntmps78
    go_wp2
    go_ret
    exact ⟨rfl, rfl⟩
set_option maxHeartbeats 400000 in
theorem name_any (s : ByteArray) (w : World) :
    Calls Try.prog 77 #[.string s] w fun e w' => e = .returned (.bool (nameB s)) ∧ w = w' := by
  by_cases h1 : s.size < 1
  · have h1' : (s.size : Int) < 1 := by omega
    rw [name_short h1]
    clear h1
    go_enter Try.func77, Try.ntmps77
    go_wp2
    go_ret
    exact ⟨rfl, rfl⟩
  by_cases h2 : 8 < s.size
  · have h2' : 8 < (s.size : Int) := by omega
    rw [name_long h2]
    clear h1 h2
    go_enter Try.func77, Try.ntmps77
    go_wp2
    go_ret
    exact ⟨rfl, rfl⟩
  have h1' : 1 ≤ (s.size : Int) := by omega
  have h2' : (s.size : Int) ≤ 8 := by omega
  have h3 : 1 ≤ s.size := by omega
  have h4 : s.size ≤ 8 := by omega
  clear h1 h2
  go_enter Try.func77, Try.ntmps77
  go_wp2
  go_loop [14] (fun i => ∃ k : Nat, k ≤ s.size ∧ i = .int .i64 k ∧ ((lof s).take k).all nameC = true) (fun i => s.size - (intOf i).toNat)
  case atStart => exact ⟨0, Nat.zero_le _, rfl, rfl⟩
  case round =>
    obtain ⟨k, hk, rfl, ha⟩ := hrel
    have HA := Lib.hid ha
    clear ha
    by_cases hlt : k < s.size
    · have c := fun w => inName_any s[k] w
      have HY := Lib.hid (all_snoc s k hlt HA.out)
      have HN := Lib.hid (all_not s k hlt)
      cases hc : nameC s[k]
      · rw [hc] at c HN
        have HN' := Lib.hid (HN.out rfl)
        clear HN HY hc
        go_wp2_with (go_at_call 78; refine (c _).mono ?_; rintro e w' ⟨rfl, rfl⟩)
        go_ret
        rw [HN'.out]
        exact ⟨rfl, rfl⟩
      · rw [hc] at c HY
        have HY' := Lib.hid (HY.out rfl)
        clear HN HY hc
        go_wp2_with (go_at_call 78; refine (c _).mono ?_; rintro e w' ⟨rfl, rfl⟩)
        go_round
        case rel => exact ⟨k + 1, by omega, by go_num, HY'.out⟩
        case measure => simp [intOf]; omega
    · obtain rfl : k = s.size := by omega
      go_wp2
      go_ret
      rw [name_yes h3 h4 HA.out]
      exact ⟨rfl, rfl⟩
end Go.Proofs.Ythileemkiplodaa
namespace Go.Proofs.Ythileemkiplodaa
open Go.RowKit

set_option maxHeartbeats 1000000 in
theorem rname_any (s : ByteArray) (w : World) :
    Calls Try.prog 73 #[.string s] w fun e w' => e = .returned (.bool (nameB s)) ∧ w = w' := by
  by_cases h1 : s.size < 1
  · have h1' : (s.size : Int) < 1 := by omega
    rw [name_short h1]
    clear h1
    go_enter Try.func73, Try.ntmps73
    go_wp2
    go_ret
    exact ⟨rfl, rfl⟩
  by_cases h2 : 8 < s.size
  · have h2' : 8 < (s.size : Int) := by omega
    rw [name_long h2]
    clear h1 h2
    go_enter Try.func73, Try.ntmps73
    go_wp2
    go_ret
    exact ⟨rfl, rfl⟩
  have h1' : 1 ≤ (s.size : Int) := by omega
  have h2' : (s.size : Int) ≤ 8 := by omega
  have h3 : 1 ≤ s.size := by omega
  have h4 : s.size ≤ 8 := by omega
  clear h1 h2
  go_enter Try.func73, Try.ntmps73
  go_wp2
  go_loop [3] (fun i => ∃ k : Nat, k ≤ s.size ∧ i = .int .i64 k ∧ ((lof s).take k).all nameC = true) (fun i => s.size - (intOf i).toNat)
  case atStart => exact ⟨0, Nat.zero_le _, rfl, rfl⟩
  case round =>
    obtain ⟨k, hk, rfl, ha⟩ := hrel
    have HA := Lib.hid ha
    clear ha
    by_cases hlt : k < s.size
    · have HY := Lib.hid (all_snoc s k hlt HA.out)
      have HN := Lib.hid (all_not s k hlt)
      have hn := s[k].toNat_lt
      have Y1 := Lib.hid (@nameC_yes1 s[k])
      have Y2 := Lib.hid (@nameC_yes2 s[k])
      have Y3 := Lib.hid (@nameC_yes3 s[k])
      have Y4 := Lib.hid (@nameC_no s[k])
      by_cases a1 : s[k].toNat < 48
      · have HN' := Lib.hid (HN.out (Y4.out (by omega) (by omega) (by omega)))
        have d := beq_eq_false_iff_ne.2 (show (s[k].toNat : Int) ≠ 95 by omega)
        have b1 : (s[k].toNat : Int) < 48 := by omega
        clear HN HY Y1 Y2 Y3 Y4 a1 hn
        go_wp2
        go_ret
        rw [HN'.out]
        exact ⟨rfl, rfl⟩
      by_cases a2 : s[k].toNat ≤ 57
      · have HY' := Lib.hid (HY.out (Y2.out (by omega) (by omega)))
        have b1 : (48 : Int) ≤ (s[k].toNat : Int) := by omega
        have b2 : (s[k].toNat : Int) ≤ 57 := by omega
        clear HN HY Y1 Y2 Y3 Y4 a1 a2 hn
        go_wp2
        go_round
        case rel => exact ⟨k + 1, by omega, by go_num, HY'.out⟩
        case measure => simp [intOf]; omega
      by_cases a3 : s[k].toNat = 95
      · have HY' := Lib.hid (HY.out (Y3.out a3))
        have d := beq_iff_eq.2 (show (s[k].toNat : Int) = 95 by omega)
        have b1 : decide ((s[k].toNat : Int) ≤ 57) = false := decide_eq_false (by omega)
        have b3 : (48 : Int) ≤ (s[k].toNat : Int) := by omega
        have b4 : (s[k].toNat : Int) < 97 := by omega
        clear HN HY Y1 Y2 Y3 Y4 a1 a2 a3 hn
        go_wp2
        go_round
        case rel => exact ⟨k + 1, by omega, by go_num, HY'.out⟩
        case measure => simp [intOf]; omega
      have d := beq_eq_false_iff_ne.2 (show (s[k].toNat : Int) ≠ 95 by omega)
      by_cases a4 : s[k].toNat < 97
      · have HN' := Lib.hid (HN.out (Y4.out (by omega) (by omega) (by omega)))
        have b1 : decide ((s[k].toNat : Int) ≤ 57) = false := decide_eq_false (by omega)
        have b2 : (s[k].toNat : Int) < 97 := by omega
        have b3 : (48 : Int) ≤ (s[k].toNat : Int) := by omega
        clear HN HY Y1 Y2 Y3 Y4 a1 a2 a3 a4 hn
        go_wp2
        go_ret
        rw [HN'.out]
        exact ⟨rfl, rfl⟩
      by_cases a5 : s[k].toNat ≤ 122
      · have HY' := Lib.hid (HY.out (Y1.out (by omega) (by omega)))
        have b1 : (97 : Int) ≤ (s[k].toNat : Int) := by omega
        have b2 : (s[k].toNat : Int) ≤ 122 := by omega
        clear HN HY Y1 Y2 Y3 Y4 a1 a2 a3 a4 a5 hn d
        go_wp2
        go_round
        case rel => exact ⟨k + 1, by omega, by go_num, HY'.out⟩
        case measure => simp [intOf]; omega
      · have HN' := Lib.hid (HN.out (Y4.out (by omega) (by omega) (by omega)))
        have b1 : decide ((s[k].toNat : Int) ≤ 57) = false := decide_eq_false (by omega)
        have b2 : decide ((s[k].toNat : Int) ≤ 122) = false := decide_eq_false (by omega)
        have b3 : (97 : Int) ≤ (s[k].toNat : Int) := by omega
        have b4 : (48 : Int) ≤ (s[k].toNat : Int) := by omega
        clear HN HY Y1 Y2 Y3 Y4 a1 a2 a3 a4 a5 hn
        go_wp2
        go_ret
        rw [HN'.out]
        exact ⟨rfl, rfl⟩
    · obtain rfl : k = s.size := by omega
      go_wp2
      go_ret
      rw [name_yes h3 h4 HA.out]
      exact ⟨rfl, rfl⟩
end Go.Proofs.Ythileemkiplodaa
