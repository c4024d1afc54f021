/- What the method add of path's names does: a name is put behind the others. Conditions: the block holds fewer than eight names. -/
import Derived.Test.YthileemkiplodaaGb
import Derived.Test.YthileemkiplodaaJKept
import Derived.StillTailTactics
set_option linter.unusedVariables false
namespace Go.Proofs.Ythileemkiplodaa
open Go.RowKit
set_option maxRecDepth 20000

/-- eight places of texts and how many are taken, as cells -/
def namesL (K : List ByteArray) : List Value := K.map Value.string ++ (List.replicate (8 - K.length) (Value.string ⟨#[]⟩) ++ [Value.int .i64 (K.length : Int)])
def namesA (K : List ByteArray) : Array Value := (namesL K).toArray
theorem namesA_nil : namesA [] = #[.string ⟨#[]⟩, .string ⟨#[]⟩, .string ⟨#[]⟩, .string ⟨#[]⟩, .string ⟨#[]⟩, .string ⟨#[]⟩, .string ⟨#[]⟩, .string ⟨#[]⟩, .int .i64 0] := rfl
theorem namesA_size (K : List ByteArray) (h : K.length ≤ 8) : (namesA K).size = 9 := by
  simp [namesA, namesL]
  omega
theorem namesA_count (K : List ByteArray) (h : K.length ≤ 8) : (namesA K)[8]? = some (.int .i64 (K.length : Int)) := by
  unfold namesA namesL
  rw [List.getElem?_toArray, List.getElem?_append_right (by simp; try omega), List.getElem?_append_right (by simp; try omega)]
  rw [show 8 - (K.map Value.string).length - (List.replicate (8 - K.length) (Value.string ⟨#[]⟩)).length = 0 by simp]
  rfl
theorem namesA_get (K : List ByteArray) (i : Nat) (h : i < K.length) : (namesA K)[i]? = some (.string K[i]) := by
  unfold namesA namesL
  rw [List.getElem?_toArray, List.getElem?_append_left (by simpa using h), List.getElem?_map, List.getElem?_eq_getElem h]
  rfl
theorem namesA_free (K : List ByteArray) (i : Nat) (h : K.length ≤ i) (h8 : i < 8) : (namesA K)[i]? = some (.string ⟨#[]⟩) := by
  unfold namesA namesL
  rw [List.getElem?_toArray, List.getElem?_append_right (by simpa using h), List.getElem?_append_left (by simp; omega), List.getElem?_replicate, if_pos (by simp; try omega)]
theorem namesA_add (K : List ByteArray) (s : ByteArray) (h : K.length < 8) : ((namesA K).setIfInBounds K.length (.string s)).setIfInBounds 8 (.int .i64 ((K ++ [s]).length : Int)) = namesA (K ++ [s]) := by
  apply Array.ext_getElem?
  intro i
  have hs := namesA_size K (by omega)
  have hs2 := namesA_size (K ++ [s]) (by simp; omega)
  by_cases e8 : i = 8
  · subst e8
    rw [namesA_count _ (by simp; omega), Array.getElem?_setIfInBounds_self_of_lt (by simp [hs])]
  rw [Array.getElem?_setIfInBounds_ne (Ne.symm e8)]
  by_cases e1 : i = K.length
  · subst e1
    rw [Array.getElem?_setIfInBounds_self_of_lt (by omega), namesA_get _ _ (by simp)]
    simp
  rw [Array.getElem?_setIfInBounds_ne (Ne.symm e1)]
  by_cases h1 : i < K.length
  · rw [namesA_get K i h1, namesA_get (K ++ [s]) i (by simp; omega), List.getElem_append_left h1]
  by_cases h2 : i < 8
  · rw [namesA_free K i (by omega) h2, namesA_free (K ++ [s]) i (by simp; omega) h2]
  · rw [Array.getElem?_eq_none (by omega), Array.getElem?_eq_none (by omega)]
/-- block b holds the names K -/
def NK (w : World) (b : Nat) (K : List ByteArray) : Prop := w.heap[b]? = some (.cells (namesA K) 114 (0, 0))
theorem NK.keep {T : Nat → Prop} {w w' : World} {b : Nat} {K : List ByteArray} (h : NK w b K) (hk : Kept T w w') (hb : T b) : NK w' b K := hk.heap hb h
theorem NK.count {w : World} {b : Nat} {K : List ByteArray} (h : NK w b K) (hk : K.length ≤ 8) : w.cell? ⟨b, 8, none⟩ = some (.int .i64 (K.length : Int)) := by rw [cell_of h]; exact namesA_count K hk
theorem NK.name {w : World} {b : Nat} {K : List ByteArray} (h : NK w b K) (i : Nat) (hi : i < K.length) : w.cell? ⟨b, i, none⟩ = some (.string K[i]) := by rw [cell_of h]; exact namesA_get K i hi
theorem NK.put {w : World} {b : Nat} {K : List ByteArray} {s : ByteArray} (h : NK w b K) (hk : K.length < 8) (q : Nat) :
    (((w.drewN q).setCell ⟨b, K.length, none⟩ (.string s)).setCell ⟨b, 8, none⟩ (.int .i64 ((K.length : Int) + 1))).heap[b]? = some (.cells (namesA (K ++ [s])) 114 (0, 0)) := by
  have h0 : (w.drewN q).heap[b]? = some (.cells (namesA K) 114 (0, 0)) := h
  have h1 := heap_setCell_same (w.drewN q) b K.length (namesA K) 114 (.string s) h0
  have h2 := heap_setCell_same _ b 8 _ 114 (.int .i64 ((K ++ [s]).length : Int)) h1
  rw [namesA_add K s hk] at h2
  rw [List.length_append, List.length_singleton] at h2
  exact h2
theorem add_no (b : Nat) (s : ByteArray) (hs : nameB s = false) (w : World) :
    Calls Try.prog 75 #[.pointer (some ⟨b, 0, none⟩), .string s] w fun e w' => e = .returned (.bool false) ∧ w = w' := by
  have c := fun w => name_any s w
  rw [hs] at c
  clear hs
  go_enter Try.func75, Try.ntmps75
  go_wp2_with (go_at_call 77; refine (c _).mono ?_; rintro e w' ⟨rfl, rfl⟩)
  go_ret
  exact ⟨rfl, rfl⟩
theorem add_yes (b : Nat) (K : List ByteArray) (s : ByteArray) (hs : nameB s = true) (w : World) (h : NK w b K) (hk : K.length < 8) :
    Calls Try.prog 75 #[.pointer (some ⟨b, 0, none⟩), .string s] w fun e w' => e = .returned (.bool true) ∧ NK w' b (K ++ [s]) ∧ Kept (fun k => k ≠ b) w w' := by
  have c := fun w => name_any s w
  rw [hs] at c
  have c8 := h.count (by omega)
  have ck : w.cell? ⟨b, K.length, none⟩ = some (.string ⟨#[]⟩) := by rw [cell_of h]; exact namesA_free K _ (Nat.le_refl _) hk
  have f8 := free_of h 8
  have fk := free_of h K.length
  have k8 : (K.length : Int) < 8 := by omega
  have HP := Lib.hid (fun q => h.put (s := s) hk q)
  have h1 := heap_setCell_same w b K.length (namesA K) 114 (.string s) h
  have d8 : (w.setCell ⟨b, K.length, none⟩ (.string s)).cell? ⟨b, 8, none⟩ = some (.int .i64 (K.length : Int)) := by
    rw [cell_of h1, Array.getElem?_setIfInBounds_ne (by omega)]
    exact namesA_count K (by omega)
  have g8 := free_of h1 8
  have hlt := lt_of_block h
  clear h1
  clear hs h
  go_enter Try.func75, Try.ntmps75
  go_wp2_with (go_at_call 77; refine (c _).mono ?_; rintro e w' ⟨rfl, rfl⟩)
  go_still_tail 9, (by kernel_rfl)
  change wpList _ _ _ _ _ w.drew
  go_wp2_with fail
  go_ret
  exact ⟨rfl, HP.out 0, (((Kept.refl _ w).setCell (by simp) _).setCell (by simp) _).drew⟩
end Go.Proofs.Ythileemkiplodaa
