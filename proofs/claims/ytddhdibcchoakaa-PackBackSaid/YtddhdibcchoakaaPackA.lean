/- What a packer is in memory; what New and stop make of it. Conditions: the packer is as PK says. -/
import Derived.Test.YtddhdibcchoakaaKept
import Derived.Test.YtddhdibcchoakaaPutM
namespace Go.Proofs.Ytddhdibcchoakaa
open Go.RowKit

/-- in world w block b is a packer that has put the bytes m, with the error c; it lies outside the blocks of S, and so does the row that holds its bytes -/
def PK (S : Nat → Prop) (w : World) (b : Nat) (m : ByteArray) (c : Int) : Prop :=
  (∀ k, S k → k < w.heap.size) ∧ ¬ S b ∧ ∃ v, w.heap[b]? = some (.cells #[v, .int .i64 c] 52 (0, 0)) ∧ w.ownsRow 0 5 1 v m.size (Lib.strCells m) ∧ ∀ k, v.ownBlock = some k → ¬ S k ∧ k ≠ b
theorem PK.keep {S T : Nat → Prop} {w w' : World} {b : Nat} {m : ByteArray} {c : Int} (h : PK S w b m c) (hk : Kept T w w') (ht : ∀ k, ¬ S k → T k) : PK S w' b m c := by
  obtain ⟨h1, h2, v, h3, h4, h5⟩ := h
  exact ⟨fun k hs => Nat.lt_of_lt_of_le (h1 k hs) hk.size, h2, v, hk.heap (ht b h2) h3, hk.owns h4 (fun k hv => ht k (h5 k hv).1), h5⟩
theorem PK.lt {S : Nat → Prop} {w : World} {b : Nat} {m : ByteArray} {c : Int} (h : PK S w b m c) : b < w.heap.size := by
  obtain ⟨_, _, v, h3, _⟩ := h
  exact lt_of_block h3
theorem strCells_nil : Lib.strCells ⟨#[]⟩ = [] := rfl

theorem new_any (S : Nat → Prop) (w : World) (hs : ∀ k, S k → k < w.heap.size) :
    Calls Try.prog 9 #[] w fun e w' => e = .returned (.pointer (some ⟨w.heap.size, 0, none⟩)) ∧ PK S w' w.heap.size ⟨#[]⟩ 0 ∧ Below w.heap.size w w' := by
  go_enter Try.func9, Try.ntmps9
  go_wp2
  go_ret
  refine ⟨rfl, ⟨fun k hk => by have := hs k hk; simp; omega, fun hk => absurd (hs _ hk) (Nat.lt_irrefl _), .slice none 0 0, heap_alloc_new _ _, World.ownsRow_nil _ _ _ _, fun k hk => by cases hk⟩, (Below.refl _ _).alloc (Nat.le_refl _) _⟩

theorem stop_any (S : Nat → Prop) (w : World) (b : Nat) (m : ByteArray) (c e : Int) (h : PK S w b m c) :
    Calls Try.prog 31 #[.pointer (some ⟨b, 0, none⟩), .int .i64 e] w fun r w' => r = .returned (.tuple #[]) ∧ PK S w' b ⟨#[]⟩ e ∧ Kept S w w' := by
  obtain ⟨h1, h2, v, h3, h4, h5⟩ := h
  obtain ⟨c0, c1, f0, f1⟩ := two_cells h3
  go_enter Try.func31, Try.ntmps31
  go_wp2
  go_end0
  refine ⟨rfl, ⟨fun k hk => by have := h1 k hk; simpa [World.setCell] using this, h2, .slice none 0 0, two_set1 (two_set0 h3 _) _, World.ownsRow_nil _ _ _ _, fun k hk => by cases hk⟩, ((Kept.refl _ _).setCell h2 _).setCell h2 _⟩
end Go.Proofs.Ytddhdibcchoakaa
