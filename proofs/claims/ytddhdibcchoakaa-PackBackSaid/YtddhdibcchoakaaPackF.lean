/- What the document's own packer does. Conditions: its block is as QK says; sizes are such that its text is no longer than a string may be. -/
import Derived.Test.YtddhdibcchoakaaPackE
import Derived.Deep.RegionHeld3
import Derived.Deep.RegionLaw
import Derived.StillTailTactics
namespace Go.Proofs.Ytddhdibcchoakaa
open Go.RowKit

/-- block b is the document's own packer, in the state t -/
def QK (w : World) (b : Nat) (t : St) : Prop := w.heap[b]? = some (.cells #[.string t.s, .bool t.bad] 54 (0, 0))
theorem QK.keep {T : Nat → Prop} {w w' : World} {b : Nat} {t : St} (h : QK w b t) (hk : Kept T w w') (hb : T b) : QK w' b t := hk.heap hb h

theorem refNew_any (w : World) :
    Calls Try.prog 10 #[] w fun e w' => e = .returned (.pointer (some ⟨w.heap.size, 0, none⟩)) ∧ QK w' w.heap.size ⟨⟨#[]⟩, false⟩ ∧ Below w.heap.size w w' := by
  go_enter Try.func10, Try.ntmps10
  go_wp2
  go_ret
  exact ⟨rfl, heap_alloc_new _ _, (Below.refl _ _).alloc (Nat.le_refl _) _⟩

theorem refSize_any (n : Int) (w : World) :
    Calls Try.prog 32 #[.int .i64 n] w fun e w' => e = .returned (.bool (decide (n = 1 ∨ n = 2 ∨ n = 4 ∨ n = 8))) ∧ w = w' := by
  by_cases n1 : n = 1
  · subst n1
    go_enter Try.func32, Try.ntmps32
    go_wp2
    go_ret
    exact ⟨rfl, rfl⟩
  by_cases n2 : n = 2
  · subst n2
    go_enter Try.func32, Try.ntmps32
    go_wp2
    go_ret
    exact ⟨rfl, rfl⟩
  by_cases n4 : n = 4
  · subst n4
    go_enter Try.func32, Try.ntmps32
    go_wp2
    go_ret
    exact ⟨rfl, rfl⟩
  by_cases n8 : n = 8
  · subst n8
    go_enter Try.func32, Try.ntmps32
    go_wp2
    go_ret
    exact ⟨rfl, rfl⟩
  · have H := Lib.hid (show decide (n = 1 ∨ n = 2 ∨ n = 4 ∨ n = 8) = false by simp [n1, n2, n4, n8])
    have d1 : (n == 1) = false := by simpa using n1
    have d2 : (n == 2) = false := by simpa using n2
    have d4 : (n == 4) = false := by simpa using n4
    have d8 : (n == 8) = false := by simpa using n8
    clear n1 n2 n4 n8
    go_enter Try.func32, Try.ntmps32
    go_wp2
    go_ret
    rw [H.out]
    exact ⟨rfl, rfl⟩

theorem refDone_any (w : World) (b : Nat) (t : St) (h : QK w b t) (hs : t.s.size ≤ 1099511627776) :
    Calls Try.prog 16 #[.pointer (some ⟨b, 0, none⟩)] w fun e w' => e = .returned (.tuple #[.string t.made, .int .i64 t.code]) ∧ w = w' := by
  obtain ⟨c0, c1, f0, f1⟩ := two_cells h
  cases hb : t.bad
  · rw [hb] at c1
    by_cases hl : 65536 < t.s.size
    · have H := Lib.hid (show t.made = ⟨#[]⟩ ∧ t.code = 2 from ⟨if_pos (.inr hl), by simp [St.code, hb, hl]⟩)
      have hl' : (65536 : Int) < t.s.size := by omega
      clear hb h
      go_enter Try.func16, Try.ntmps16
      go_wp2
      go_ret2
      rw [H.out.1, H.out.2]
      exact ⟨rfl, rfl⟩
    · have H := Lib.hid (show t.made = t.s ∧ t.code = 0 from ⟨by simp [St.made, hb, hl], by simp [St.code, hb, hl]⟩)
      have hl' : (t.s.size : Int) ≤ 65536 := by omega
      clear hb h
      go_enter Try.func16, Try.ntmps16
      go_wp2
      go_ret2
      rw [H.out.1, H.out.2]
      exact ⟨rfl, rfl⟩
  · rw [hb] at c1
    have H := Lib.hid (show t.made = ⟨#[]⟩ ∧ t.code = 11 from ⟨if_pos (.inl hb), by simp [St.code, hb]⟩)
    clear hb h
    go_enter Try.func16, Try.ntmps16
    go_wp2
    go_ret2
    rw [H.out.1, H.out.2]
    exact ⟨rfl, rfl⟩
end Go.Proofs.Ytddhdibcchoakaa
