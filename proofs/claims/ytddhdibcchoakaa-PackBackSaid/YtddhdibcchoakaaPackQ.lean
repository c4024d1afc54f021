/- Plain facts: what was packed is taken out, field by field. Conditions: each field is one that is packed. -/
import Derived.Test.YtddhdibcchoakaaPackN
import Derived.Test.YtddhdibcchoakaaPackO
namespace Go.Proofs.Ytddhdibcchoakaa
open Go.RowKit

def enc (f : Fld) : ByteArray := if f.n = 0 then putR f.s.size 2 ++ f.s else putR f.v f.n
def okF (f : Fld) : Prop := if f.n = 0 then f.s.size ≤ 65535 else numOk f.v f.n
def encs : List Fld → ByteArray
  | [] => ⟨#[]⟩
  | f :: l => enc f ++ encs l
theorem empty_append (x : ByteArray) : (⟨#[]⟩ : ByteArray) ++ x = x := by
  apply bytes_ext
  rw [ByteArray.data_append, Array.toList_append]
  rfl
theorem append_empty (x : ByteArray) : x ++ (⟨#[]⟩ : ByteArray) = x := by
  apply bytes_ext
  rw [ByteArray.data_append, Array.toList_append]
  simp
theorem encs_snoc (l : List Fld) (f : Fld) : encs (l ++ [f]) = encs l ++ enc f := by
  induction l with
  | nil => show enc f ++ ⟨#[]⟩ = ⟨#[]⟩ ++ enc f; rw [empty_append, append_empty]
  | cons g l ih => show enc g ++ encs (l ++ [f]) = (enc g ++ encs l) ++ enc f; rw [ih, ByteArray.append_assoc]
theorem go_fine (t : St) (f : Fld) (h : (t.go f).bad = false) : t.bad = false ∧ okF f ∧ (t.go f).s = t.s ++ enc f := by
  unfold St.go at h ⊢
  unfold okF enc
  by_cases hn : f.n = 0
  · rw [if_pos hn] at h ⊢
    rw [if_pos hn, if_pos hn]
    unfold St.text at h ⊢
    by_cases hs : f.s.size ≤ 65535
    · rw [if_pos hs] at h ⊢
      exact ⟨h, hs, rfl⟩
    · rw [if_neg hs] at h
      cases h
  · rw [if_neg hn] at h ⊢
    rw [if_neg hn, if_neg hn]
    unfold St.num at h ⊢
    by_cases hs : numOk f.v f.n
    · rw [if_pos hs] at h ⊢
      exact ⟨h, hs, rfl⟩
    · rw [if_neg hs] at h
      cases h
theorem stT_fine (l : List Fld) (k : Nat) (hk : k ≤ l.length) (h : (stT l k).bad = false) : (∀ i (hi : i < k), okF (l[i]'(by omega))) ∧ (stT l k).s = encs (l.take k) := by
  induction k with
  | zero => exact ⟨fun i hi => absurd hi (Nat.not_lt_zero i), by rw [stT_zero]; rfl⟩
  | succ k ih =>
    rw [stT_succ l k (by omega)] at h ⊢
    obtain ⟨h1, h2, h3⟩ := go_fine _ _ h
    obtain ⟨i1, i2⟩ := ih (by omega) h1
    refine ⟨fun i hi => ?_, by rw [h3, i2, List.take_succ_eq_append_getElem (by omega), encs_snoc]⟩
    by_cases e : i = k
    · subst e; exact h2
    · exact i1 i (by omega)
theorem encs_drop (l : List Fld) (k : Nat) (h : k < l.length) : encs (l.drop k) = enc l[k] ++ encs (l.drop (k + 1)) := by
  rw [List.drop_eq_getElem_cons h]
  rfl
theorem ext_front (a b : ByteArray) : (a ++ b).extract 0 a.size = a := by
  apply bytes_ext
  rw [ext_list, ByteArray.data_append, Array.toList_append, List.drop_zero, Nat.sub_zero, List.take_append_of_le_length (by rw [← Lib.size_eq]; exact Nat.le_refl _), List.take_of_length_le (by rw [← Lib.size_eq]; exact Nat.le_refl _)]
theorem ext_back (a b : ByteArray) : (a ++ b).extract a.size (a ++ b).size = b := by
  apply bytes_ext
  rw [ext_list, ByteArray.data_append, Array.toList_append, List.drop_append_of_le_length (by rw [← Lib.size_eq]; exact Nat.le_refl _), List.drop_of_length_le (by rw [← Lib.size_eq]; exact Nat.le_refl _), List.nil_append, List.take_of_length_le (by rw [ByteArray.size_append, ← Lib.size_eq]; omega)]
theorem cut_front (a b : ByteArray) : cutL (a ++ b) 0 a.size = a.data.toList := by
  unfold cutL
  rw [ByteArray.data_append, Array.toList_append, List.drop_zero, List.take_append_of_le_length (by rw [← Lib.size_eq]; exact Nat.le_refl _), List.take_of_length_le (by rw [← Lib.size_eq]; exact Nat.le_refl _)]

/-- a number that was put is there, and behind it what follows -/
theorem num_back (v n : Int) (R : ByteArray) (h : numOk v n) (hv : v ≤ 9223372036854775807) : numV (some (putR v n ++ R)) n = v ∧ numO (some (putR v n ++ R)) n = some R := by
  have hn := numOk_n h
  have h0 := numOk_nonneg h
  have hs : n = 1 ∨ n = 2 ∨ n = 4 ∨ n = 8 := by unfold numOk at h; omega
  obtain ⟨x, rfl⟩ := Int.eq_ofNat_of_zero_le h0
  obtain ⟨k, rfl⟩ := Int.eq_ofNat_of_zero_le (show 0 ≤ n by omega)
  have hk : (putR (x : Int) k).size = k := putR_len x k (by omega)
  have hl : (putR (x : Int) k).data.toList = bl x k := by rw [putR_eq (by omega) (by omega), Int.toNat_natCast, putS_list]
  have hc : cutL (putR (x : Int) k ++ R) 0 k = bl x k := by
    have h := cut_front (putR (x : Int) k) R
    rwa [hk, hl] at h
  have hx : x % 256 ^ k = x := by
    apply Nat.mod_eq_of_lt
    unfold numOk at h
    rcases h with ⟨h, _, h'⟩ | ⟨h, _, h'⟩ | ⟨h, _, h'⟩ | ⟨h, _⟩
    · obtain rfl : k = 1 := by omega
      omega
    · obtain rfl : k = 2 := by omega
      omega
    · obtain rfl : k = 4 := by omega
      omega
    · obtain rfl : k = 8 := by omega
      omega
  have hg : getI (cutL (putR (x : Int) k ++ R) 0 k) = x := by rw [hc, getI_bl, hx]
  have hh : hasN (ukL (some (putR (x : Int) k ++ R))) k := by
    refine ⟨by omega, ?_⟩
    rw [Int.toNat_natCast]
    refine ⟨by omega, ?_, ?_⟩
    · show 0 + k ≤ (putR (x : Int) k ++ R).size
      rw [ByteArray.size_append, hk]; omega
    · show getI (cutL (putR (x : Int) k ++ R) 0 k) < _
      rw [hg]; omega
  refine ⟨?_, ?_⟩
  · rw [show numV (some (putR (x : Int) k ++ R)) k = getI (cutL (putR (x : Int) k ++ R) 0 (k : Int).toNat) from if_pos hh, Int.toNat_natCast, hg]
  · rw [show numO (some (putR (x : Int) k ++ R)) k = some ((putR (x : Int) k ++ R).extract (k : Int).toNat (putR (x : Int) k ++ R).size) from if_pos hh, Int.toNat_natCast]
    have h := ext_back (putR (x : Int) k) R
    rw [hk] at h
    rw [h]
theorem text_back (x R : ByteArray) (h : x.size ≤ 65535) : textV (some ((putR x.size 2 ++ x) ++ R)) 65535 = x ∧ textO (some ((putR x.size 2 ++ x) ++ R)) 65535 = some R := by
  obtain ⟨e1, e2⟩ := num_back x.size 2 (x ++ R) (.inr (.inl ⟨rfl, by omega, by omega⟩)) (by omega)
  rw [← ByteArray.append_assoc] at e1 e2
  have ht : hasT (some ((putR x.size 2 ++ x) ++ R)) 65535 := by
    unfold hasT
    rw [e1, e2]
    refine ⟨rfl, by omega, ?_⟩
    show (x.size : Int) ≤ (x ++ R).size
    rw [ByteArray.size_append]; omega
  refine ⟨?_, ?_⟩
  · rw [show textV (some ((putR x.size 2 ++ x) ++ R)) 65535 = (ukL (numO (some ((putR x.size 2 ++ x) ++ R)) 2)).extract 0 (numV (some ((putR x.size 2 ++ x) ++ R)) 2).toNat from if_pos ht, e1, e2, Int.toNat_natCast]
    exact ext_front x R
  · rw [show textO (some ((putR x.size 2 ++ x) ++ R)) 65535 = some ((ukL (numO (some ((putR x.size 2 ++ x) ++ R)) 2)).extract (numV (some ((putR x.size 2 ++ x) ++ R)) 2).toNat (ukL (numO (some ((putR x.size 2 ++ x) ++ R)) 2)).size) from if_pos ht, e1, e2, Int.toNat_natCast]
    exact congrArg some (ext_back x R)
theorem none_left1 : numV (some ⟨#[]⟩) 1 = 0 ∧ numO (some ⟨#[]⟩) 1 = none := by decide +kernel
end Go.Proofs.Ytddhdibcchoakaa
