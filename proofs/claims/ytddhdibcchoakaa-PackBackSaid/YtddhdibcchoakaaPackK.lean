/- What the calls of the document's own unpacker do. Conditions: its block is as RK says; its text is no longer than 2^40 bytes. -/
import Derived.Test.YtddhdibcchoakaaPackJ
import Derived.Test.YtddhdibcchoakaaPackF
namespace Go.Proofs.Ytddhdibcchoakaa
open Go.RowKit

/-- block b is the document's own unpacker of s, at the place a, spoilt or not -/
def RK (w : World) (b : Nat) (s : ByteArray) (a : Nat) (bad : Bool) : Prop := w.heap[b]? = some (.cells #[.string s, .int .i64 a, .bool bad] 65 (0, 0)) ∧ a ≤ s.size
theorem RK.keep {T : Nat → Prop} {w w' : World} {b : Nat} {s : ByteArray} {a : Nat} {bad : Bool} (h : RK w b s a bad) (hk : Kept T w w') (hb : T b) : RK w' b s a bad := ⟨hk.heap hb h.1, h.2⟩
/-- what is left of it -/
def rkO (s : ByteArray) (a : Nat) (bad : Bool) : Option ByteArray := if bad = true then none else some (s.extract a s.size)

theorem refOpen_any (s : ByteArray) (w : World) :
    Calls Try.prog 18 #[.string s] w fun e w' => e = .returned (.pointer (some ⟨w.heap.size, 0, none⟩)) ∧ RK w' w.heap.size s 0 false ∧ Below w.heap.size w w' := by
  go_enter Try.func18, Try.ntmps18
  go_wp2
  go_ret
  exact ⟨rfl, ⟨heap_alloc_new _ _, Nat.zero_le _⟩, (Below.refl _ _).alloc (Nat.le_refl _) _⟩
theorem refLeft_any (w : World) (b : Nat) (s : ByteArray) (a : Nat) (bad : Bool) (h : RK w b s a bad) (hl : s.size ≤ 1099511627776) :
    Calls Try.prog 24 #[.pointer (some ⟨b, 0, none⟩)] w fun e w' => e = .returned (.int .i64 (ukL (rkO s a bad)).size) ∧ ∃ k, w' = w.drewN k := by
  obtain ⟨c0, c1, c2, f0, f1, f2⟩ := three_cells h.1
  have ha := h.2
  cases bad
  · have H := Lib.hid (show ((ukL (rkO s a false)).size : Int) = (s.size : Int) - a by
      show ((s.extract a s.size).size : Int) = _
      rw [ByteArray.size_extract]; omega)
    go_enter Try.func24, Try.ntmps24
    go_wp2
    go_quiet (fail)
    go_wp2
    go_ret
    rw [H.out]
    exact ⟨rfl, _, rfl⟩
  · go_enter Try.func24, Try.ntmps24
    go_wp2
    go_ret
    exact ⟨rfl, 0, rfl⟩
theorem refEnd_any (w : World) (b : Nat) (s : ByteArray) (a : Nat) (bad : Bool) (h : RK w b s a bad) :
    Calls Try.prog 26 #[.pointer (some ⟨b, 0, none⟩)] w fun e w' => e = .returned (.int .i64 (ukE (rkO s a bad))) ∧ ∃ k, w' = w.drewN k := by
  obtain ⟨c0, c1, c2, f0, f1, f2⟩ := three_cells h.1
  have ha := h.2
  cases bad
  · by_cases hz : a = s.size
    · have H := Lib.hid (show ukE (rkO s a false) = 0 by
        show (if (s.extract a s.size).size = 0 then (0 : Int) else 11) = 0
        rw [if_pos (by rw [ByteArray.size_extract]; omega)])
      subst hz
      have d0 : ((s.size : Int) != (s.size : Int)) = false := by simp
      go_enter Try.func26, Try.ntmps26
      go_wp2
      go_quiet (fail)
      go_wp2
      go_ret
      rw [H.out]
      exact ⟨rfl, _, rfl⟩
    · have H := Lib.hid (show ukE (rkO s a false) = 11 by
        show (if (s.extract a s.size).size = 0 then (0 : Int) else 11) = 11
        rw [if_neg (by rw [ByteArray.size_extract]; omega)])
      have d0 : ((a : Int) != (s.size : Int)) = true := by simp; omega
      have d1 : (a != s.size) = true := by simp; omega
      clear hz
      go_enter Try.func26, Try.ntmps26
      go_wp2
      go_quiet (fail)
      go_wp2
      go_ret
      rw [H.out]
      exact ⟨rfl, _, rfl⟩
  · go_enter Try.func26, Try.ntmps26
    go_wp2
    go_quiet (fail)
    go_wp2
    go_ret
    exact ⟨rfl, _, rfl⟩
end Go.Proofs.Ytddhdibcchoakaa
