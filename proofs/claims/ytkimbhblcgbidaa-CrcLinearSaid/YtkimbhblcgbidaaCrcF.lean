/- A text that is put together byte by byte in memory of its own: the world in which so many bytes stand, what making it gives, what string() makes of it. Conditions: the size is at most 1000000. -/
import Derived.Test.YtkimbhblcgbidaaBase
import Derived.Laws.BytesArg
import Derived.Laws.MakeOwn
import Derived.Laws.NewBlocks
import Derived.Below
import Derived.Carry
import Derived.WalkSmall
namespace Go.Proofs.Ytkimbhblcgbidaa
open Go.RowKit

/-- n bytes: below k those of f, above noughts -/
def fillB (f : Nat → Int) (n k : Nat) : Array Value := ((List.range n).map fun i => Value.int .u8 (if i < k then f i else 0)).toArray
theorem fillB_size (f : Nat → Int) (n k : Nat) : (fillB f n k).size = n := by simp [fillB]
theorem fillB_get (f : Nat → Int) (n k i : Nat) (h : i < n) : (fillB f n k)[i]? = some (.int .u8 (if i < k then f i else 0)) := by
  unfold fillB
  simp only [List.getElem?_toArray, List.getElem?_map]
  rw [List.getElem?_range h]
  rfl
theorem fillB_succ (f : Nat → Int) (n k : Nat) (h : k < n) : (fillB f n k).setIfInBounds k (.int .u8 (f k)) = fillB f n (k + 1) := by
  apply Array.ext_getElem?
  intro i
  rw [Array.getElem?_setIfInBounds]
  by_cases hi : i < n
  · rw [fillB_get f n (k + 1) i hi]
    by_cases e : k = i
    · subst e
      simp [fillB_size, h]
    · rw [if_neg e, fillB_get f n k i hi]
      have : (i < k) ↔ (i < k + 1) := by omega
      simp [this]
  · have h1 : (fillB f n k)[i]? = none := by simp [fillB_size]; omega
    have h2 : (fillB f n (k + 1))[i]? = none := by simp [fillB_size]; omega
    rw [h1, h2]
    have : ¬ k = i := by omega
    simp [this]
theorem madeB (f : Nat → Int) (n : Nat) : madeCells (Value.int .u8 0).cells (n * 1) = fillB f n 0 := by
  apply Array.ext_getElem?
  intro i
  by_cases hi : i < n
  · rw [fillB_get f n 0 i hi, if_neg (Nat.not_lt_zero i)]
    unfold madeCells
    rw [Nat.mul_one]
    simp [hi, Value.cells, Nat.mod_one]
  · rw [Array.getElem?_eq_none (by rw [size_madeCells]; omega), Array.getElem?_eq_none (by rw [fillB_size]; omega)]
theorem u8_info : (Try.prog.info? 5).map (fun i => (i.zero, i.size, i.bytes)) = some (some (.int .u8 0), 1, 1) := by kernel_rfl
theorem make_bytes (f : Nat → Int) (n : Nat) (h : n ≤ 1000000) (w : World) :
    (Instr.makeSlice 29 (.int .i64 (n : Int)) (.int .i64 (n : Int))).run Try.prog w = .ok (.slice (some ⟨w.heap.size, 0, none⟩) n n) (w.alloc (.cells (fillB f n 0) 5)) := by
  cases hq : Try.prog.info? 5 with
  | none => have h0 := u8_info; rw [hq] at h0; cases h0
  | some i =>
    have h0 := u8_info
    rw [hq] at h0
    simp only [Option.map_some, Option.some.injEq, Prod.mk.injEq] at h0
    obtain ⟨hz, hs, hb⟩ := h0
    have hr := run_make (P := Try.prog) w 29 5 i (.int .u8 0) Try.underlying29 hq hz .i64 .i64 n n (by omega) (Int.le_refl _) (by rw [hb]; omega) (by omega)
    simp only [Int.toNat_natCast] at hr
    rw [hr, hs, madeB f n]
/-- the world in which the first k of n bytes stand, behind q draws -/
def lnW (w : World) (f : Nat → Int) (n k q : Nat) : World := (w.alloc (.cells (fillB f n k) 5)).drewN q
theorem lnW_zero (w : World) (f : Nat → Int) (n : Nat) : w.alloc (.cells (fillB f n 0) 5) = lnW w f n 0 0 := rfl
theorem lnW_draw (w : World) (f : Nat → Int) (n k q m : Nat) : (lnW w f n k q).drewN m = lnW w f n k (q + m) := by
  unfold lnW
  rw [World.drewN_drewN]
theorem lnW_drew (w : World) (f : Nat → Int) (n k q : Nat) : (lnW w f n k q).drew = lnW w f n k (q + 1) := rfl
theorem lnW_cell (w : World) (f : Nat → Int) (n k q i : Nat) (h : i < n) : (lnW w f n k q).cell? ⟨w.heap.size, i, none⟩ = some (.int .u8 (if i < k then f i else 0)) := by
  unfold lnW
  rw [World.cell?_drewN, World.cell?_alloc_new]
  exact fillB_get f n k i h
theorem lnW_frozen (w : World) (f : Nat → Int) (n k q i : Nat) : (lnW w f n k q).frozen? ⟨w.heap.size, i, none⟩ = false := by
  unfold lnW
  simp
theorem lnW_set (w : World) (f : Nat → Int) (n k q : Nat) (h : k < n) : (lnW w f n k q).setCell ⟨w.heap.size, k, none⟩ (.int .u8 (f k)) = lnW w f n (k + 1) q := by
  have e : (lnW w f n k q).setCell ⟨w.heap.size, k, none⟩ (.int .u8 (f k)) = ((w.alloc (.cells (fillB f n k) 5)).setCell ⟨w.heap.size, k, none⟩ (.int .u8 (f k))).drewN q := rfl
  rw [e, World.setCell_alloc_at _ _ _ _ _ rfl, fillB_succ f n k h]
  rfl
theorem lnW_below (w : World) (f : Nat → Int) (n k q : Nat) : Below w.heap.size w (lnW w f n k q) := by
  unfold lnW
  exact below_drewN ((Below.refl _ _).alloc (Nat.le_refl _) _) q
theorem lnW_string (w : World) (f : Nat → Int) (n q : Nat) :
    (convert 29 9 (.slice (some ⟨w.heap.size, 0, none⟩) n n)).run Try.prog (lnW w f n n q) = .ok (.string (strOfNums ((List.range n).map f))) (lnW w f n n q) := by
  refine run_convert_bytes_arg _ 29 5 Try.underlying29 Try.underlying5 w.heap.size 0 n n ((List.range n).map f) (by simp) ?_ 9 Try.underlying9
  intro i hi
  rw [Nat.zero_add, lnW_cell w f n n q i hi, if_pos hi]
  simp [hi]
end Go.Proofs.Ytkimbhblcgbidaa
