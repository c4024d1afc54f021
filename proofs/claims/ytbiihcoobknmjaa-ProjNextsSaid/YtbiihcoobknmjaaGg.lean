/- What the document's own packer does. Conditions: its block is as QK says; sizes are such that its text is no longer than a string may be. What the calls of the document's own unpacker do. Conditions: its block is as RK says; its text is no longer than 2^40 bytes. -/
import Derived.Test.YtbiihcoobknmjaaGe
import Derived.Deep.RegionHeld3
import Derived.Deep.RegionLaw
import Derived.StillTailTactics
import Derived.Test.YtbiihcoobknmjaaGf
set_option linter.unusedVariables false
namespace Go.Proofs.Ytbiihcoobknmjaa
open Go.RowKit
set_option maxRecDepth 20000

/-- block b is the document's own packer, in the state t -/
def QK (w : World) (b : Nat) (t : St) : Prop := w.heap[b]? = some (.cells #[.string t.s, .bool t.bad] 81 (0, 0))
theorem QK.keep {T : Nat → Prop} {w w' : World} {b : Nat} {t : St} (h : QK w b t) (hk : Kept T w w') (hb : T b) : QK w' b t := hk.heap hb h

theorem refNew_any (w : World) :
    Calls Try.prog 34 #[] w fun e w' => e = .returned (.pointer (some ⟨w.heap.size, 0, none⟩)) ∧ QK w' w.heap.size ⟨⟨#[]⟩, false⟩ ∧ Below w.heap.size w w' := by
  go_enter Try.func34, Try.ntmps34
  go_wp2
  go_ret
  exact ⟨rfl, heap_alloc_new _ _, (Below.refl _ _).alloc (Nat.le_refl _) _⟩

theorem refSize_any (n : Int) (w : World) :
    Calls Try.prog 49 #[.int .i64 n] w fun e w' => e = .returned (.bool (decide (n = 1 ∨ n = 2 ∨ n = 4 ∨ n = 8))) ∧ w = w' := by
  by_cases n1 : n = 1
  · subst n1
    go_enter Try.func49, Try.ntmps49
    go_wp2
    go_ret
    exact ⟨rfl, rfl⟩
  by_cases n2 : n = 2
  · subst n2
    go_enter Try.func49, Try.ntmps49
    go_wp2
    go_ret
    exact ⟨rfl, rfl⟩
  by_cases n4 : n = 4
  · subst n4
    go_enter Try.func49, Try.ntmps49
    go_wp2
    go_ret
    exact ⟨rfl, rfl⟩
  by_cases n8 : n = 8
  · subst n8
    go_enter Try.func49, Try.ntmps49
    go_wp2
    go_ret
    exact ⟨rfl, rfl⟩
  · have H := Lib.hid (show decide (n = 1 ∨ n = 2 ∨ n = 4 ∨ n = 8) = false by simp [n1, n2, n4, n8])
    have d1 : (n == 1) = false := by simpa using n1
    have d2 : (n == 2) = false := by simpa using n2
    have d4 : (n == 4) = false := by simpa using n4
    have d8 : (n == 8) = false := by simpa using n8
    clear n1 n2 n4 n8
    go_enter Try.func49, Try.ntmps49
    go_wp2
    go_ret
    rw [H.out]
    exact ⟨rfl, rfl⟩

theorem refDone_any (w : World) (b : Nat) (t : St) (h : QK w b t) (hs : t.s.size ≤ 1099511627776) :
    Calls Try.prog 36 #[.pointer (some ⟨b, 0, none⟩)] w fun e w' => e = .returned (.tuple #[.string t.made, .int .i64 t.code]) ∧ w = w' := by
  obtain ⟨c0, c1, f0, f1⟩ := two_cells h
  cases hb : t.bad
  · rw [hb] at c1
    by_cases hl : 65536 < t.s.size
    · have H := Lib.hid (show t.made = ⟨#[]⟩ ∧ t.code = 2 from ⟨if_pos (.inr hl), by simp [St.code, hb, hl]⟩)
      have hl' : (65536 : Int) < t.s.size := by omega
      clear hb h
      go_enter Try.func36, Try.ntmps36
      go_wp2
      go_ret2
      rw [H.out.1, H.out.2]
      exact ⟨rfl, rfl⟩
    · have H := Lib.hid (show t.made = t.s ∧ t.code = 0 from ⟨by simp [St.made, hb, hl], by simp [St.code, hb, hl]⟩)
      have hl' : (t.s.size : Int) ≤ 65536 := by omega
      clear hb h
      go_enter Try.func36, Try.ntmps36
      go_wp2
      go_ret2
      rw [H.out.1, H.out.2]
      exact ⟨rfl, rfl⟩
  · rw [hb] at c1
    have H := Lib.hid (show t.made = ⟨#[]⟩ ∧ t.code = 11 from ⟨if_pos (.inl hb), by simp [St.code, hb]⟩)
    clear hb h
    go_enter Try.func36, Try.ntmps36
    go_wp2
    go_ret2
    rw [H.out.1, H.out.2]
    exact ⟨rfl, rfl⟩
end Go.Proofs.Ytbiihcoobknmjaa
namespace Go.Proofs.Ytbiihcoobknmjaa
open Go.RowKit
set_option maxRecDepth 20000

/-- block b is the document's own unpacker of s, at the place a, spoilt or not -/
def RK (w : World) (b : Nat) (s : ByteArray) (a : Nat) (bad : Bool) : Prop := w.heap[b]? = some (.cells #[.string s, .int .i64 a, .bool bad] 89 (0, 0)) ∧ a ≤ s.size
theorem RK.keep {T : Nat → Prop} {w w' : World} {b : Nat} {s : ByteArray} {a : Nat} {bad : Bool} (h : RK w b s a bad) (hk : Kept T w w') (hb : T b) : RK w' b s a bad := ⟨hk.heap hb h.1, h.2⟩
/-- what is left of it -/
def rkO (s : ByteArray) (a : Nat) (bad : Bool) : Option ByteArray := if bad = true then none else some (s.extract a s.size)

theorem refOpen_any (s : ByteArray) (w : World) :
    Calls Try.prog 40 #[.string s] w fun e w' => e = .returned (.pointer (some ⟨w.heap.size, 0, none⟩)) ∧ RK w' w.heap.size s 0 false ∧ Below w.heap.size w w' := by
  go_enter Try.func40, Try.ntmps40
  go_wp2
  go_ret
  exact ⟨rfl, ⟨heap_alloc_new _ _, Nat.zero_le _⟩, (Below.refl _ _).alloc (Nat.le_refl _) _⟩
theorem refEnd_any (w : World) (b : Nat) (s : ByteArray) (a : Nat) (bad : Bool) (h : RK w b s a bad) :
    Calls Try.prog 42 #[.pointer (some ⟨b, 0, none⟩)] w fun e w' => e = .returned (.int .i64 (ukE (rkO s a bad))) ∧ ∃ k, w' = w.drewN k := by
  obtain ⟨c0, c1, c2, f0, f1, f2⟩ := three_cells h.1
  have ha := h.2
  cases bad
  · by_cases hz : a = s.size
    · have H := Lib.hid (show ukE (rkO s a false) = 0 by
        show (if (s.extract a s.size).size = 0 then (0 : Int) else 11) = 0
        rw [if_pos (by rw [ByteArray.size_extract]; omega)])
      subst hz
      have d0 : ((s.size : Int) != (s.size : Int)) = false := by simp
      go_enter Try.func42, Try.ntmps42
      go_wp2
      go_quiet (fail)
      go_wp2
      go_ret
      rw [H.out]
      exact ⟨rfl, _, rfl⟩
    · have H := Lib.hid (show ukE (rkO s a false) = 11 by
        show (if (s.extract a s.size).size = 0 then (0 : Int) else 11) = 11
        rw [if_neg (by rw [ByteArray.size_extract]; omega)])
      have d0 : ((a : Int) != (s.size : Int)) = true := by simp; omega
      have d1 : (a != s.size) = true := by simp; omega
      clear hz
      go_enter Try.func42, Try.ntmps42
      go_wp2
      go_quiet (fail)
      go_wp2
      go_ret
      rw [H.out]
      exact ⟨rfl, _, rfl⟩
  · go_enter Try.func42, Try.ntmps42
    go_wp2
    go_quiet (fail)
    go_wp2
    go_ret
    exact ⟨rfl, _, rfl⟩
end Go.Proofs.Ytbiihcoobknmjaa
