/- What the calls of an unpacker do. Conditions: its block is as UK says; its text is no longer than 2^40 bytes. -/
import Derived.Test.YtddhdibcchoakaaPackE
import Derived.Test.YtddhdibcchoakaaClone
namespace Go.Proofs.Ytddhdibcchoakaa
open Go.RowKit

/-- block b is an unpacker ahead of l; or it is spoilt -/
def UK (w : World) (b : Nat) (o : Option ByteArray) : Prop :=
  match o with
  | some l => w.heap[b]? = some (.cells #[.string l, .bool false] 63 (0, 0))
  | none => w.heap[b]? = some (.cells #[.string ⟨#[]⟩, .bool true] 63 (0, 0))
theorem UK.keep {T : Nat → Prop} {w w' : World} {b : Nat} {o : Option ByteArray} (h : UK w b o) (hk : Kept T w w') (hb : T b) : UK w' b o := by
  cases o <;> exact hk.heap hb h
/-- the bytes and the mark of an unpacker -/
def ukL (o : Option ByteArray) : ByteArray := o.getD ⟨#[]⟩
def ukB (o : Option ByteArray) : Bool := o.isNone
theorem UK.cells {w : World} {b : Nat} {o : Option ByteArray} (h : UK w b o) : w.heap[b]? = some (.cells #[.string (ukL o), .bool (ukB o)] 63 (0, 0)) := by
  cases o <;> exact h
theorem uk_spoil {w : World} {b : Nat} {o : Option ByteArray} (h : UK w b o) : UK ((w.setCell ⟨b, 0, none⟩ (.string ⟨#[]⟩)).setCell ⟨b, 1, none⟩ (.bool true)) b none ∧ Kept (fun k => k ≠ b) w ((w.setCell ⟨b, 0, none⟩ (.string ⟨#[]⟩)).setCell ⟨b, 1, none⟩ (.bool true)) :=
  ⟨two_set1 (two_set0 h.cells _) _, ((Kept.refl _ _).setCell (fun h => h rfl) _).setCell (fun h => h rfl) _⟩
theorem uk_set {w : World} {b : Nat} {l : ByteArray} (h : UK w b (some l)) (l' : ByteArray) : UK (w.setCell ⟨b, 0, none⟩ (.string l')) b (some l') ∧ Kept (fun k => k ≠ b) w (w.setCell ⟨b, 0, none⟩ (.string l')) :=
  ⟨two_set0 (show w.heap[b]? = _ from h) _, (Kept.refl _ _).setCell (fun h => h rfl) _⟩

theorem open_any (s : ByteArray) (w : World) :
    Calls Try.prog 17 #[.string s] w fun e w' => e = .returned (.pointer (some ⟨w.heap.size, 0, none⟩)) ∧ UK w' w.heap.size (some s) ∧ Below w.heap.size w w' := by
  go_enter Try.func17, Try.ntmps17
  go_wp2
  go_ret
  exact ⟨rfl, heap_alloc_new _ _, (Below.refl _ _).alloc (Nat.le_refl _) _⟩
theorem spoil_any (w : World) (b : Nat) (o : Option ByteArray) (h : UK w b o) :
    Calls Try.prog 33 #[.pointer (some ⟨b, 0, none⟩)] w fun e w' => e = .returned (.tuple #[]) ∧ UK w' b none ∧ Kept (fun k => k ≠ b) w w' := by
  obtain ⟨c0, c1, f0, f1⟩ := two_cells h.cells
  go_enter Try.func33, Try.ntmps33
  go_wp2
  go_end0
  exact ⟨rfl, uk_spoil h⟩
theorem left_any (w : World) (b : Nat) (o : Option ByteArray) (h : UK w b o) :
    Calls Try.prog 23 #[.pointer (some ⟨b, 0, none⟩)] w fun e w' => e = .returned (.int .i64 (ukL o).size) ∧ w = w' := by
  obtain ⟨c0, c1, f0, f1⟩ := two_cells h.cells
  go_enter Try.func23, Try.ntmps23
  go_wp2
  go_ret
  exact ⟨rfl, rfl⟩
def ukE (o : Option ByteArray) : Int := match o with
  | some l => if l.size = 0 then 0 else 11
  | none => 11
theorem empty_of (l : ByteArray) (h : l.size = 0) : l = ⟨#[]⟩ := ByteArray.ext (Array.eq_empty_of_size_eq_zero h)
theorem toList_ne (l : ByteArray) (h : l.size ≠ 0) : l.toList.isEmpty = false := by
  cases e : l.toList.isEmpty
  · rfl
  · exfalso
    apply h
    have : l.toList = [] := by simpa using e
    have h2 : l.toList.length = l.size := by rw [Lib.toList_data, ← Lib.size_eq]
    rw [← h2, this]
    rfl
theorem end_any (w : World) (b : Nat) (o : Option ByteArray) (h : UK w b o) :
    Calls Try.prog 25 #[.pointer (some ⟨b, 0, none⟩)] w fun e w' => e = .returned (.int .i64 (ukE o)) ∧ w = w' := by
  cases o with
  | none =>
    obtain ⟨c0, c1, f0, f1⟩ := two_cells h.cells
    unfold ukB at c1
    simp only [Option.isNone_none] at c1
    go_enter Try.func25, Try.ntmps25
    go_wp2
    go_ret
    exact ⟨rfl, rfl⟩
  | some l =>
    obtain ⟨c0, c1, f0, f1⟩ := two_cells (show w.heap[b]? = _ from h)
    by_cases hl : l.size = 0
    · obtain rfl := empty_of l hl
      go_enter Try.func25, Try.ntmps25
      go_wp2
      go_ret
      exact ⟨rfl, rfl⟩
    · have H := Lib.hid (show ukE (some l) = 11 from if_neg hl)
      have hd := toList_ne l hl
      have hd2 : (!l.toList.isEmpty) = true := by rw [hd]; rfl
      clear hl
      go_enter Try.func25, Try.ntmps25
      go_wp2
      go_ret
      rw [H.out]
      exact ⟨rfl, rfl⟩
end Go.Proofs.Ytddhdibcchoakaa
