/- What the calls of an unpacker do. Conditions: its block is as UK says; its text is no longer than 2^40 bytes. What Num and Text of an unpacker do. Conditions: its block is as UK says; its text is no longer than 2^40 bytes. Plain facts: which number, which text is taken out, and what is left behind it. No conditions. -/
import Derived.Test.YtbiihcoobknmjaaGe
import Derived.Lib.Strings
set_option linter.unusedVariables false
namespace Go.Proofs.Ytbiihcoobknmjaa
open Go.RowKit
set_option maxRecDepth 20000

/-- block b is an unpacker ahead of l; or it is spoilt -/
def UK (w : World) (b : Nat) (o : Option ByteArray) : Prop :=
  match o with
  | some l => w.heap[b]? = some (.cells #[.string l, .bool false] 85 (0, 0))
  | none => w.heap[b]? = some (.cells #[.string ⟨#[]⟩, .bool true] 85 (0, 0))
theorem UK.keep {T : Nat → Prop} {w w' : World} {b : Nat} {o : Option ByteArray} (h : UK w b o) (hk : Kept T w w') (hb : T b) : UK w' b o := by
  cases o <;> exact hk.heap hb h
/-- the bytes and the mark of an unpacker -/
def ukL (o : Option ByteArray) : ByteArray := o.getD ⟨#[]⟩
def ukB (o : Option ByteArray) : Bool := o.isNone
theorem UK.cells {w : World} {b : Nat} {o : Option ByteArray} (h : UK w b o) : w.heap[b]? = some (.cells #[.string (ukL o), .bool (ukB o)] 85 (0, 0)) := by
  cases o <;> exact h
theorem uk_spoil {w : World} {b : Nat} {o : Option ByteArray} (h : UK w b o) : UK ((w.setCell ⟨b, 0, none⟩ (.string ⟨#[]⟩)).setCell ⟨b, 1, none⟩ (.bool true)) b none ∧ Kept (fun k => k ≠ b) w ((w.setCell ⟨b, 0, none⟩ (.string ⟨#[]⟩)).setCell ⟨b, 1, none⟩ (.bool true)) :=
  ⟨two_set1 (two_set0 h.cells _) _, ((Kept.refl _ _).setCell (fun h => h rfl) _).setCell (fun h => h rfl) _⟩
theorem uk_set {w : World} {b : Nat} {l : ByteArray} (h : UK w b (some l)) (l' : ByteArray) : UK (w.setCell ⟨b, 0, none⟩ (.string l')) b (some l') ∧ Kept (fun k => k ≠ b) w (w.setCell ⟨b, 0, none⟩ (.string l')) :=
  ⟨two_set0 (show w.heap[b]? = _ from h) _, (Kept.refl _ _).setCell (fun h => h rfl) _⟩

theorem open_any (s : ByteArray) (w : World) :
    Calls Try.prog 37 #[.string s] w fun e w' => e = .returned (.pointer (some ⟨w.heap.size, 0, none⟩)) ∧ UK w' w.heap.size (some s) ∧ Below w.heap.size w w' := by
  go_enter Try.func37, Try.ntmps37
  go_wp2
  go_ret
  exact ⟨rfl, heap_alloc_new _ _, (Below.refl _ _).alloc (Nat.le_refl _) _⟩
theorem spoil_any (w : World) (b : Nat) (o : Option ByteArray) (h : UK w b o) :
    Calls Try.prog 53 #[.pointer (some ⟨b, 0, none⟩)] w fun e w' => e = .returned (.tuple #[]) ∧ UK w' b none ∧ Kept (fun k => k ≠ b) w w' := by
  obtain ⟨c0, c1, f0, f1⟩ := two_cells h.cells
  go_enter Try.func53, Try.ntmps53
  go_wp2
  go_end0
  exact ⟨rfl, uk_spoil h⟩
def ukE (o : Option ByteArray) : Int := match o with
  | some l => if l.size = 0 then 0 else 11
  | none => 11
theorem empty_of (l : ByteArray) (h : l.size = 0) : l = ⟨#[]⟩ := ByteArray.ext (Array.eq_empty_of_size_eq_zero h)
theorem toList_ne (l : ByteArray) (h : l.size ≠ 0) : l.toList.isEmpty = false := by
  cases e : l.toList.isEmpty
  · rfl
  · exfalso
    apply h
    have : l.toList = [] := by simpa using e
    have h2 : l.toList.length = l.size := by rw [Lib.toList_data, ← Lib.size_eq]
    rw [← h2, this]
    rfl
theorem end_any (w : World) (b : Nat) (o : Option ByteArray) (h : UK w b o) :
    Calls Try.prog 39 #[.pointer (some ⟨b, 0, none⟩)] w fun e w' => e = .returned (.int .i64 (ukE o)) ∧ w = w' := by
  cases o with
  | none =>
    obtain ⟨c0, c1, f0, f1⟩ := two_cells h.cells
    unfold ukB at c1
    simp only [Option.isNone_none] at c1
    go_enter Try.func39, Try.ntmps39
    go_wp2
    go_ret
    exact ⟨rfl, rfl⟩
  | some l =>
    obtain ⟨c0, c1, f0, f1⟩ := two_cells (show w.heap[b]? = _ from h)
    by_cases hl : l.size = 0
    · obtain rfl := empty_of l hl
      go_enter Try.func39, Try.ntmps39
      go_wp2
      go_ret
      exact ⟨rfl, rfl⟩
    · have H := Lib.hid (show ukE (some l) = 11 from if_neg hl)
      have hd := toList_ne l hl
      have hd2 : (!l.toList.isEmpty) = true := by rw [hd]; rfl
      clear hl
      go_enter Try.func39, Try.ntmps39
      go_wp2
      go_ret
      rw [H.out]
      exact ⟨rfl, rfl⟩
end Go.Proofs.Ytbiihcoobknmjaa
namespace Go.Proofs.Ytbiihcoobknmjaa
open Go.RowKit
set_option maxRecDepth 20000

/-- there is a number of n bytes at place a of l -/
def okN (l : ByteArray) (a n : Nat) : Prop := (n = 1 ∨ n = 2 ∨ n = 4 ∨ n = 8) ∧ a + n ≤ l.size ∧ getI (cutL l a n) < 9223372036854775808
instance (l : ByteArray) (a n : Nat) : Decidable (okN l a n) := by unfold okN; infer_instance
theorem isSize_any (n : Int) (w : World) :
    Calls Try.prog 52 #[.int .i64 n] w fun e w' => e = .returned (.bool (decide (n = 1 ∨ n = 2 ∨ n = 4 ∨ n = 8))) ∧ w = w' := by
  by_cases h : n = 1 ∨ n = 2 ∨ n = 4 ∨ n = 8
  · rcases h with rfl | rfl | rfl | rfl
    all_goals
      go_enter Try.func52, Try.ntmps52
      go_wp2
      go_ret
      exact ⟨rfl, rfl⟩
  · have H := Lib.hid (show decide (n = 1 ∨ n = 2 ∨ n = 4 ∨ n = 8) = false by simpa using h)
    have d1 : (n == 1) = false := by simp; omega
    have d2 : (n == 2) = false := by simp; omega
    have d4 : (n == 4) = false := by simp; omega
    have d8 : (n == 8) = false := by simp; omega
    clear h
    go_enter Try.func52, Try.ntmps52
    go_wp2
    go_ret
    rw [H.out]
    exact ⟨rfl, rfl⟩
theorem getI_nonneg (l : List UInt8) : 0 ≤ getI l := (getI_bound l).1
theorem getR_hit {l : ByteArray} {a n : Nat} (hn : n ≤ 8) (h : a + n ≤ l.size) : getR l a n = (getI (cutL l a n), true) := by
  unfold getR
  rw [if_pos ⟨by omega, by omega, by omega, by omega⟩, Int.toNat_natCast, Int.toNat_natCast]

set_option maxHeartbeats 1000000 in
theorem uNum_in (w : World) (b : Nat) (l : ByteArray) (n : Nat) (h : UK w b (some l)) (hl : l.size ≤ 1099511627776) (hok : okN l 0 n) :
    Calls Try.prog 38 #[.pointer (some ⟨b, 0, none⟩), .int .i64 n] w fun e w' => e = .returned (.int .i64 (getI (cutL l 0 n))) ∧ UK w' b (some (l.extract n l.size)) ∧ Kept (fun k => k ≠ b) w w' := by
  obtain ⟨c0, c1, f0, f1⟩ := two_cells (show w.heap[b]? = _ from h)
  obtain ⟨hs, hn, hv⟩ := hok
  have n8 : n ≤ 8 := by omega
  have x0 := getI_nonneg (cutL l 0 n)
  have hr : getR l 0 n = (getI (cutL l 0 n), true) := getR_hit (a := 0) n8 hn
  generalize getI (cutL l 0 n) = x at *
  have HR := Lib.hid hr
  have HS := Lib.hid (show decide ((n : Int) = 1 ∨ (n : Int) = 2 ∨ (n : Int) = 4 ∨ (n : Int) = 8) = true by simp; omega)
  have hm : l.size ≤ maxLen := by unfold maxLen; omega
  have hn2 : n ≤ l.size := by omega
  clear hr hs
  go_enter Try.func38, Try.ntmps38
  go_wp2_with (first | (go_at_call 51; refine (get_any l 0 n hm (by omega) (by omega) _).mono ?_; rintro e w' ⟨rfl, rfl⟩; rw [HR.out]) | (go_at_call 52; refine (isSize_any n _).mono ?_; rintro e w' ⟨rfl, rfl⟩; rw [HS.out]))
  go_ret
  exact ⟨rfl, uk_set h _⟩

/-- a number of n bytes is there, n any number -/
def hasN (l : ByteArray) (n : Int) : Prop := 0 ≤ n ∧ okN l 0 n.toNat
instance (l : ByteArray) (n : Int) : Decidable (hasN l n) := by unfold hasN; infer_instance
set_option maxHeartbeats 1000000 in
theorem uNum_out (w : World) (b : Nat) (o : Option ByteArray) (n : Int) (h : UK w b o) (hl : (ukL o).size ≤ 1099511627776) (hi : -9223372036854775808 ≤ n ∧ n ≤ 9223372036854775807) (hno : ¬ hasN (ukL o) n) :
    Calls Try.prog 38 #[.pointer (some ⟨b, 0, none⟩), .int .i64 n] w fun e w' => e = .returned (.int .i64 0) ∧ UK w' b none ∧ Kept (fun k => k ≠ b) w w' := by
  obtain ⟨c0, c1, f0, f1⟩ := two_cells h.cells
  generalize ukL o = l at *
  have hm : l.size ≤ maxLen := by unfold maxLen; omega
  by_cases hg : 0 ≤ n ∧ n ≤ 8 ∧ (0 : Int) ≤ 0 ∧ (0 : Int) ≤ l.size - n
  · obtain ⟨g0, g1, _, g3⟩ := hg
    obtain ⟨k, rfl⟩ := Int.eq_ofNat_of_zero_le g0
    have hr : getR l 0 k = (getI (cutL l 0 k), true) := getR_hit (a := 0) (by omega) (by omega)
    have x0 := getI_nonneg (cutL l 0 k)
    have hno' : ¬ okN l 0 k := fun hx => hno ⟨g0, by rw [Int.toNat_natCast]; exact hx⟩
    unfold okN at hno'
    generalize getI (cutL l 0 k) = x at *
    have HR := Lib.hid hr
    clear hr hno
    by_cases hs : k = 1 ∨ k = 2 ∨ k = 4 ∨ k = 8
    · have hv : 9223372036854775807 < x := by
        rcases Int.lt_or_le 9223372036854775807 x with h | h
        · exact h
        · exact absurd ⟨hs, by omega, by omega⟩ hno'
      have HS := Lib.hid (show decide ((k : Int) = 1 ∨ (k : Int) = 2 ∨ (k : Int) = 4 ∨ (k : Int) = 8) = true by simp; omega)
      clear hs hno'
      go_enter Try.func38, Try.ntmps38
      go_wp2_with (first | (go_at_call 51; refine (get_any l 0 k hm (by omega) (by omega) _).mono ?_; rintro e w' ⟨rfl, rfl⟩; rw [HR.out]) | (go_at_call 52; refine (isSize_any k _).mono ?_; rintro e w' ⟨rfl, rfl⟩; rw [HS.out]) | (go_at_call 53; refine (spoil_any _ b o h).mono ?_; rintro e w2 ⟨rfl, hp, hk⟩))
      go_ret
      exact ⟨rfl, hp, hk⟩
    · have HS := Lib.hid (show decide ((k : Int) = 1 ∨ (k : Int) = 2 ∨ (k : Int) = 4 ∨ (k : Int) = 8) = false by simp; omega)
      clear hs hno'
      go_enter Try.func38, Try.ntmps38
      go_wp2_with (first | (go_at_call 51; refine (get_any l 0 k hm (by omega) (by omega) _).mono ?_; rintro e w' ⟨rfl, rfl⟩; rw [HR.out]) | (go_at_call 52; refine (isSize_any k _).mono ?_; rintro e w' ⟨rfl, rfl⟩; rw [HS.out]) | (go_at_call 53; refine (spoil_any _ b o h).mono ?_; rintro e w2 ⟨rfl, hp, hk⟩))
      go_ret
      exact ⟨rfl, hp, hk⟩
  · have HR := Lib.hid (show getR l 0 n = (0, false) from if_neg hg)
    clear hg hno
    go_enter Try.func38, Try.ntmps38
    go_wp2_with (first | (go_at_call 51; refine (get_any l 0 n hm (by omega) (by omega) _).mono ?_; rintro e w' ⟨rfl, rfl⟩; rw [HR.out]) | (go_at_call 53; refine (spoil_any _ b o h).mono ?_; rintro e w2 ⟨rfl, hp, hk⟩))
    go_ret
    exact ⟨rfl, hp, hk⟩

/-- what Num of n bytes tells, and what is left behind it -/
def numV (o : Option ByteArray) (n : Int) : Int := if hasN (ukL o) n then getI (cutL (ukL o) 0 n.toNat) else 0
def numO (o : Option ByteArray) (n : Int) : Option ByteArray := if hasN (ukL o) n then some ((ukL o).extract n.toNat (ukL o).size) else none
theorem hasN_some {o : Option ByteArray} {n : Int} (h : hasN (ukL o) n) : o = some (ukL o) := by
  cases o with
  | some l => rfl
  | none =>
    obtain ⟨_, h1, h2, _⟩ := h
    have h2 : 0 + n.toNat ≤ 0 := h2
    omega
theorem uNum_any (w : World) (b : Nat) (o : Option ByteArray) (n : Int) (h : UK w b o) (hl : (ukL o).size ≤ 1099511627776) (hi : -9223372036854775808 ≤ n ∧ n ≤ 9223372036854775807) :
    Calls Try.prog 38 #[.pointer (some ⟨b, 0, none⟩), .int .i64 n] w fun e w' => e = .returned (.int .i64 (numV o n)) ∧ UK w' b (numO o n) ∧ Kept (fun k => k ≠ b) w w' := by
  by_cases hh : hasN (ukL o) n
  · rw [show numV o n = getI (cutL (ukL o) 0 n.toNat) from if_pos hh, show numO o n = some ((ukL o).extract n.toNat (ukL o).size) from if_pos hh]
    obtain ⟨k, rfl⟩ := Int.eq_ofNat_of_zero_le hh.1
    have h2 := hh.2
    rw [Int.toNat_natCast] at h2 ⊢
    exact uNum_in w b (ukL o) k (by rw [← hasN_some hh]; exact h) hl h2
  · rw [show numV o n = 0 from if_neg hh, show numO o n = none from if_neg hh]
    exact uNum_out w b o n h hl hi hh
end Go.Proofs.Ytbiihcoobknmjaa
namespace Go.Proofs.Ytbiihcoobknmjaa
open Go.RowKit
set_option maxRecDepth 20000

theorem numV_range (o : Option ByteArray) (n : Int) : 0 ≤ numV o n ∧ numV o n ≤ 9223372036854775807 := by
  unfold numV
  split
  · next h => exact ⟨getI_nonneg _, by have := h.2.2.2; omega⟩
  · omega
theorem numO_size (o : Option ByteArray) (n : Int) : (ukL (numO o n)).size ≤ (ukL o).size := by
  unfold numO
  split
  · show ((ukL o).extract n.toNat (ukL o).size).size ≤ _
    rw [ByteArray.size_extract]
    omega
  · exact Nat.zero_le _
/-- a text of at most so many bytes is there -/
def hasT (o : Option ByteArray) (most : Int) : Prop := (numO o 2).isSome = true ∧ numV o 2 ≤ most ∧ numV o 2 ≤ (ukL (numO o 2)).size
instance (o : Option ByteArray) (most : Int) : Decidable (hasT o most) := by unfold hasT; infer_instance
def textV (o : Option ByteArray) (most : Int) : ByteArray := if hasT o most then (ukL (numO o 2)).extract 0 (numV o 2).toNat else ⟨#[]⟩
def textO (o : Option ByteArray) (most : Int) : Option ByteArray := if hasT o most then some ((ukL (numO o 2)).extract (numV o 2).toNat (ukL (numO o 2)).size) else none
end Go.Proofs.Ytbiihcoobknmjaa
