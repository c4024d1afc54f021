/- Plain facts on pages that are full: how many there are, what is answered at the next one, what a trim makes room for. No conditions. -/
import Derived.Test.YtlphffgdnacnkaaPagV
namespace Go.Proofs.Ytlphffgdnacnkaa
open Go.RowKit
set_option linter.unusedVariables false
set_option maxRecDepth 20000
theorem u8_of_wf {a : Int} (h : (Lit.int .u8 a).wf = true) : 0 ≤ a ∧ a ≤ 255 := by
  have := bounds_u8 h
  exact ⟨by omega, by omega⟩
/-- i pages, written one behind the other with one text, in a room for n -/
def rowP (n i : Nat) : Ps := ⟨(List.range i).map (fun (j : Nat) => (⟨j, 1, ⟨#[97]⟩⟩ : Pg)), n, 0⟩
theorem rowP_zero (n : Nat) : rowP n 0 = newP n := rfl
theorem rowP_len (n i : Nat) : (rowP n i).l.length = i := by simp [rowP]
theorem rowP_find_no {n i : Nat} {a : Int} (h : (i : Int) ≤ a) : findP (rowP n i).l a = none := by
  rw [findP_none]
  intro x hx
  obtain ⟨j, hj, rfl⟩ := List.mem_map.1 hx
  rw [List.mem_range] at hj
  show ((j : Nat) : Int) ≠ a
  omega
theorem rowP_kind_no {n i : Nat} {a : Int} (h : (i : Int) ≤ a) (h2 : a < 4096) : (rowP n i).kind a = 0 := by
  unfold Ps.kind
  rw [if_pos (thereB_iff.2 ⟨by omega, h2⟩), if_neg (show ¬ a < (rowP n i).edge from by show ¬ a < 0; omega), rowP_find_no h]
theorem rowP_succ (n i : Nat) : rowP n (i + 1) = (rowP n i).add ⟨i, 1, ⟨#[97]⟩⟩ := by
  unfold rowP Ps.add
  rw [List.range_succ, List.map_append]
  rfl
theorem rowP_write {n i : Nat} (h : i < n) (hn : n ≤ 256) : (rowP n i).writeE i ⟨#[97]⟩ = 0 ∧ (rowP n i).write i ⟨#[97]⟩ = rowP n (i + 1) := by
  have ht : thereB (i : Int) = true := thereB_iff.2 (by omega)
  have e : (rowP n i).writeE i ⟨#[97]⟩ = 0 := by
    unfold Ps.writeE
    rw [ht, rowP_kind_no (Int.le_refl _) (by omega), if_neg (by decide), if_neg (by decide), if_neg (by decide), if_neg (by decide), if_neg]
    rw [rowP_len]
    show ¬ ((n : Nat) : Int) ≤ (i : Int)
    omega
  refine ⟨e, ?_⟩
  unfold Ps.write
  rw [if_pos e, rowP_succ]
theorem rowP_fill {n i : Nat} (h : i < n) (hn : n ≤ 256) : (rowP n (i + 1)).fillE i = 41 ∧ (rowP n (i + 1)).fill i = rowP n (i + 1) := by
  have ht : thereB (i : Int) = true := thereB_iff.2 (by omega)
  have hk : (rowP n (i + 1)).kind i = 1 := by
    unfold Ps.kind
    rw [if_pos ht, if_neg (show ¬ (i : Int) < (rowP n (i + 1)).edge from by show ¬ (i : Int) < 0; omega)]
    have : findP (rowP n (i + 1)).l i = some ⟨i, 1, ⟨#[97]⟩⟩ := by
      rw [rowP_succ]
      show findP ((rowP n i).l ++ [_]) i = _
      unfold findP
      rw [List.find?_append, show (rowP n i).l.find? (fun x => decide (x.at_ = (i : Int))) = none from rowP_find_no (Int.le_refl _)]
      simp
    rw [this]
  have e : (rowP n (i + 1)).fillE i = 41 := by
    unfold Ps.fillE
    rw [ht, hk, if_neg (by decide), if_neg (by decide), if_neg (by decide), if_pos rfl]
  refine ⟨e, ?_⟩
  unfold Ps.fill
  rw [if_neg (by rw [e]; omega)]
/-- behind the trim: the first page is gone, one more is there -/
def cutP (n : Nat) : Ps := ⟨((List.range n).filter (fun j => decide (1 ≤ j))).map (fun (j : Nat) => (⟨j, 1, ⟨#[97]⟩⟩ : Pg)), n, 1⟩
def endP (n : Nat) : Ps := (cutP n).add ⟨n, 2, ⟨#[]⟩⟩
theorem cut_len (n : Nat) (h : 1 ≤ n) : ((List.range n).filter (fun j => decide (1 ≤ j))).length + 1 = n := by
  induction n with
  | zero => omega
  | succ n ih =>
    rw [List.range_succ, List.filter_append, List.length_append]
    rcases Nat.eq_zero_or_pos n with rfl | hp
    · rfl
    · have := ih hp
      rw [show [n].filter (fun j => decide (1 ≤ j)) = [n] from by rw [List.filter_cons_of_pos (p := fun j => decide (1 ≤ j)) (decide_eq_true hp)]; rfl, List.length_singleton]
      omega
theorem rowP_trim (n : Nat) : (rowP n n).trim 1 = cutP n := by
  unfold Ps.trim
  rw [if_pos (show Ps.trimE 1 = 0 from rfl)]
  unfold rowP cutP
  show Ps.mk _ _ _ = Ps.mk _ _ _
  rw [List.filter_map]
  have e : max (0 : Int) 1 = 1 := by decide
  simp only [e]
  congr 2
  apply List.filter_congr
  intro j _
  show decide ((1 : Int) ≤ ((j : Nat) : Int)) = decide (1 ≤ j)
  rw [decide_eq_decide]
  omega
theorem cut_find_no {n : Nat} {a : Int} (h : (n : Int) ≤ a) : findP (cutP n).l a = none := by
  rw [findP_none]
  intro x hx
  obtain ⟨j, hj, rfl⟩ := List.mem_map.1 hx
  have hj' := List.mem_range.1 (List.mem_filter.1 hj).1
  show ((j : Nat) : Int) ≠ a
  omega
theorem end_len {n : Nat} (h : 1 ≤ n) : (endP n).l.length = n := by
  show (List.map _ _ ++ [_]).length = n
  have := cut_len n h
  simp only [List.length_append, List.length_map, List.length_singleton]
  exact this
theorem full_write {n : Nat} (h : 1 ≤ n) (hn : n ≤ 256) (s : ByteArray) (hs : s.size ≤ 4096) : (rowP n n).writeE n s = 44 ∧ (rowP n n).write n s = rowP n n := by
  have e : (rowP n n).writeE n s = 44 := by
    unfold Ps.writeE
    rw [thereB_iff.2 ⟨by omega, by omega⟩, rowP_kind_no (Int.le_refl _) (by omega), if_neg (by decide), if_neg (by omega), if_neg (by decide), if_neg (by decide), if_pos]
    rw [rowP_len]
    exact Int.le_refl _
  refine ⟨e, ?_⟩
  unfold Ps.write
  rw [if_neg (by rw [e]; decide)]
theorem full_fill {n : Nat} (h : 1 ≤ n) (hn : n ≤ 256) : (rowP n n).fillE n = 44 ∧ (rowP n n).fill n = rowP n n := by
  have e : (rowP n n).fillE n = 44 := by
    unfold Ps.fillE
    rw [thereB_iff.2 ⟨by omega, by omega⟩, rowP_kind_no (Int.le_refl _) (by omega), if_neg (by decide), if_neg (by decide), if_neg (by decide), if_neg (by decide), if_pos]
    rw [rowP_len]
    exact Int.le_refl _
  refine ⟨e, ?_⟩
  unfold Ps.fill
  rw [if_neg (by rw [e]; omega)]
theorem cut_fill {n : Nat} (h : 1 ≤ n) (hn : n ≤ 256) : (cutP n).fillE n = 0 ∧ (cutP n).fill n = endP n := by
  have hk : (cutP n).kind n = 0 := by
    unfold Ps.kind
    rw [if_pos (thereB_iff.2 ⟨by omega, by omega⟩), if_neg (show ¬ (n : Int) < (cutP n).edge from by show ¬ (n : Int) < 1; omega), cut_find_no (Int.le_refl _)]
  have e : (cutP n).fillE n = 0 := by
    unfold Ps.fillE
    rw [thereB_iff.2 ⟨by omega, by omega⟩, hk, if_neg (by decide), if_neg (by decide), if_neg (by decide), if_neg (by decide), if_neg]
    show ¬ ((n : Nat) : Int) ≤ ((List.map _ _).length : Nat)
    have := cut_len n h
    rw [List.length_map]
    omega
  refine ⟨e, ?_⟩
  unfold Ps.fill
  rw [if_pos ⟨e, by rw [hk]; decide⟩]
  rfl
theorem end_find {n : Nat} : findP (endP n).l n = some ⟨n, 2, ⟨#[]⟩⟩ := by
  show findP ((cutP n).l ++ [_]) n = _
  unfold findP
  rw [List.find?_append, show (cutP n).l.find? (fun x => decide (x.at_ = (n : Int))) = none from cut_find_no (Int.le_refl _)]
  simp
theorem end_fill {n : Nat} (h : 1 ≤ n) (hn : n ≤ 256) : (endP n).fillE n = 0 ∧ (endP n).fill n = endP n := by
  have hk : (endP n).kind n = 2 := by
    unfold Ps.kind
    rw [if_pos (thereB_iff.2 ⟨by omega, by omega⟩), if_neg (show ¬ (n : Int) < (endP n).edge from by show ¬ (n : Int) < 1; omega), end_find]
  have e : (endP n).fillE n = 0 := by
    unfold Ps.fillE
    rw [thereB_iff.2 ⟨by omega, by omega⟩, hk, if_neg (by decide), if_neg (by decide), if_pos rfl]
  refine ⟨e, ?_⟩
  unfold Ps.fill
  rw [if_neg (by rw [hk]; exact fun h => h.2 rfl)]
theorem end_write {n : Nat} (h : 1 ≤ n) (hn : n ≤ 256) (s : ByteArray) (hs : s.size ≤ 4096) : (endP n).writeE ((n : Int) + 1) s = 44 ∧ (endP n).write ((n : Int) + 1) s = endP n := by
  have hk : (endP n).kind ((n : Int) + 1) = 0 := by
    unfold Ps.kind
    rw [if_pos (thereB_iff.2 ⟨by omega, by omega⟩), if_neg (show ¬ ((n : Int) + 1) < (endP n).edge from by show ¬ ((n : Int) + 1) < 1; omega)]
    have : findP (endP n).l ((n : Int) + 1) = none := by
      show findP ((cutP n).l ++ [_]) _ = _
      unfold findP
      rw [List.find?_append, show (cutP n).l.find? (fun x => decide (x.at_ = ((n : Int) + 1))) = none from cut_find_no (by omega)]
      simp
      omega
    rw [this]
  have e : (endP n).writeE ((n : Int) + 1) s = 44 := by
    unfold Ps.writeE
    rw [thereB_iff.2 ⟨by omega, by omega⟩, hk, if_neg (by decide), if_neg (by omega), if_neg (by decide), if_neg (by decide), if_pos]
    rw [end_len h]
    exact Int.le_refl _
  refine ⟨e, ?_⟩
  unfold Ps.write
  rw [if_neg (by rw [e]; decide)]
theorem end_tail {n : Nat} (h : 1 ≤ n) : (endP n).tail = (n : Int) + 1 := by
  refine (tailP_of (v := (n : Int) + 1) (.inr ⟨⟨n, 2, ⟨#[]⟩⟩, ?_, rfl⟩) (by show (1 : Int) ≤ _; omega) ?_).symm
  · show _ ∈ (cutP n).l ++ [_]
    simp
  · intro x hx
    rcases List.mem_append.1 hx with hx | hx
    · obtain ⟨j, hj, rfl⟩ := List.mem_map.1 hx
      have hj' := List.mem_range.1 (List.mem_filter.1 hj).1
      show ((j : Nat) : Int) + 1 ≤ _
      omega
    · rw [List.mem_singleton.1 hx]
      exact Int.le_refl _
end Go.Proofs.Ytlphffgdnacnkaa
