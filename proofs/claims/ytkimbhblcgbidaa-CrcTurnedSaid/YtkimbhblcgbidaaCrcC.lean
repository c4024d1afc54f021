/- What (*zeros).twice returns: an array of what twice as many bits 0 make of each bit. Conditions: the array's cells lie at the pointer, and are numbers of 32 bits. -/
import Derived.Test.YtkimbhblcgbidaaCrcB
import Derived.Deep.WholeRow
import Derived.Laws.CopyOwn
import Derived.Below
import Derived.Carry
namespace Go.Proofs.Ytkimbhblcgbidaa
open Go.RowKit

/-- 32 cells: below k those of f, above noughts -/
def fillA (f : Nat → Nat) (k : Nat) : Array Value := ((List.range 32).map fun i => Value.int .u32 ((if i < k then f i else 0 : Nat) : Int)).toArray
theorem fillA_size (f : Nat → Nat) (k : Nat) : (fillA f k).size = 32 := by simp [fillA]
theorem fillA_get (f : Nat → Nat) (k i : Nat) (h : i < 32) : (fillA f k)[i]? = some (.int .u32 ((if i < k then f i else 0 : Nat) : Int)) := by
  unfold fillA
  simp only [List.getElem?_toArray, List.getElem?_map]
  rw [List.getElem?_range h]
  rfl
theorem fillA_succ (f : Nat → Nat) (k : Nat) (h : k < 32) : (fillA f k).setIfInBounds k (.int .u32 (f k : Nat)) = fillA f (k + 1) := by
  apply Array.ext_getElem?
  intro i
  rw [Array.getElem?_setIfInBounds]
  by_cases hi : i < 32
  · rw [fillA_get f (k + 1) i hi]
    by_cases e : k = i
    · subst e
      simp [fillA_size, h]
    · rw [if_neg e, fillA_get f k i hi]
      have : (i < k) ↔ (i < k + 1) := by omega
      simp [this]
  · have h1 : (fillA f k)[i]? = none := by simp [fillA_size]; omega
    have h2 : (fillA f (k + 1))[i]? = none := by simp [fillA_size]; omega
    rw [h1, h2]
    have : ¬ k = i := by omega
    simp [this]
theorem fillA_zero (f g : Nat → Nat) : fillA f 0 = fillA g 0 := by unfold fillA; simp

theorem alloc_zeros : ∀ w, (Instr.alloc 35 true (.tuple #[])).run Try.prog w = .ok (.pointer (some ⟨w.heap.size, 0, none⟩)) (w.alloc (.cells (fillA (fun _ => 0) 0) 35)) := fun _ => by kernel_rfl

/-- the world of twice behind k rounds and q draws -/
def twW (w : World) (f : Nat → Nat) (k q : Nat) : World := ((w.alloc (.cells (fillA f 0) 35)).alloc (.cells (fillA f k) 35)).drewN q
theorem twW_size (w : World) (f : Nat → Nat) (k q : Nat) : (twW w f k q).heap.size = w.heap.size + 2 := by simp [twW]
theorem twW_cell (w : World) (f : Nat → Nat) (k q b i : Nat) (hb : b < w.heap.size) : (twW w f k q).cell? ⟨b, i, none⟩ = w.cell? ⟨b, i, none⟩ := by
  unfold twW
  rw [World.cell?_drewN, World.cell?_alloc_past _ _ _ (by simp; omega), World.cell?_alloc_past _ _ _ hb]
theorem setCell_drewN (w : World) (q : Nat) (a : Addr) (v : Value) : (w.drewN q).setCell a v = (w.setCell a v).drewN q := rfl
theorem twW_set (w : World) (f : Nat → Nat) (k q : Nat) (h : k < 32) : (twW w f k q).setCell ⟨w.heap.size + 1, k, none⟩ (.int .u32 (f k : Nat)) = twW w f (k + 1) q := by
  unfold twW
  rw [setCell_drewN, World.setCell_alloc_at _ _ _ _ _ (by simp), fillA_succ f k h]
theorem twW_draw (w : World) (f : Nat → Nat) (k q n : Nat) : (twW w f k q).drewN n = twW w f k (q + n) := by
  unfold twW
  rw [World.drewN_drewN]
theorem twW_heap0 (w : World) (f : Nat → Nat) (k q : Nat) : (twW w f k q).heap[w.heap.size]? = some (.cells (fillA f 0) 35 (0, 0)) := heap_alloc2_old w _ _
theorem twW_heap1 (w : World) (f : Nat → Nat) (k q : Nat) : (twW w f k q).heap[w.heap.size + 1]? = some (.cells (fillA f k) 35 (0, 0)) := heap_alloc2_new w _ _
theorem twW_frozen (w : World) (f : Nat → Nat) (k q i : Nat) : (twW w f k q).frozen? ⟨w.heap.size + 1, i, none⟩ = false := by
  unfold twW
  simp
theorem twW_below (w : World) (f : Nat → Nat) (k q : Nat) : Below w.heap.size w (twW w f k q) := by
  unfold twW
  exact below_drewN (((Below.refl _ _).alloc (Nat.le_refl _) _).alloc (by simp) _) q

theorem zeros_info : (Try.prog.info? 35).map (·.size) = some 32 := by kernel_rfl
theorem fillA_info (f : Nat → Nat) (k : Nat) : (Try.prog.info? 35).map (·.size) = some (fillA f k).size := by rw [fillA_size]; exact zeros_info
theorem fillA_one (f : Nat → Nat) (k : Nat) : (fillA f k).all (·.oneCell') = true := by
  unfold fillA
  simp [Value.oneCell']
set_option maxHeartbeats 1000000 in
theorem twice_any (b : Nat) (m : Nat → Nat) (w : World) (hb : b < w.heap.size) (hm : ∀ i, i < 32 → m i < 4294967296)
    (hc : ∀ i, i < 32 → w.cell? ⟨b, i, none⟩ = some (.int .u32 (m i : Nat))) :
    Calls Try.prog 14 #[.pointer (some ⟨b, 0, none⟩)] w fun e w' => e = .returned (.agg (fillA (fun i => ofN m (m i) 32) 32)) ∧ Below w.heap.size w w' := by
  have HC := Lib.hid hc
  have HM := Lib.hid hm
  obtain ⟨F, hF⟩ : ∃ F : Nat → Nat, F = fun i => ofN m (m i) 32 := ⟨_, rfl⟩
  have HF := Lib.hid hF
  have HFi := Lib.hid (show ∀ i, F i = ofN m (m i) 32 by intro i; rw [hF])
  have HFE := Lib.hid (show fillA (fun i => ofN m (m i) 32) 32 = fillA F 32 by rw [hF])
  have HB := Lib.hid hb
  clear hc hm hF hb
  go_enter Try.func14, Try.ntmps14
  go_wp2
  go_loopw [7] (fun i wr => ∃ k q : Nat, k ≤ 32 ∧ i = .int .i64 k ∧ wr = twW w F k q) (fun i _ => 32 - (intOf i).toNat)
  case atStart => exact ⟨0, 0, Nat.zero_le _, rfl, rfl⟩
  case round =>
    obtain ⟨k, q, hk, rfl, rfl⟩ := hrel
    by_cases hlt : k < 32
    · have hcell : (twW w F k q).cell? ⟨b, k, none⟩ = some (.int .u32 (m k : Nat)) := (twW_cell w F k q b k HB.out).trans (HC.out k hlt)
      have hz : ∀ q, (twW w F k q).cell? ⟨w.heap.size + 1, k, none⟩ = some (.int .u32 0) := fun q => by
        rw [cell_of_row _ _ k _ _ _ (twW_heap1 w F k q), fillA_get F k k hlt, if_neg (Nat.lt_irrefl k)]
        rfl
      have hfz := twW_frozen w F k
      have HS := Lib.hid (fun q => twW_set w F k q hlt)
      go_wp2
      go_quiet (fail)
      rw [twW_draw]
      go_wp2_with (go_at_call 13; refine (of_any b m (m k) _ (HM.out k hlt) HM.out (fun i hi => (twW_cell w F k _ b i HB.out).trans (HC.out i hi))).mono ?_; rintro e w' ⟨rfl, q2, rfl⟩; rw [twW_draw])
      rw [← HFi.out k, HS.out]
      go_roundw
      case rel => exact ⟨k + 1, q + nq + q2, by omega, by go_num, rfl⟩
      case measure => simp [intOf]; omega
    · obtain rfl : k = 32 := by omega
      have h1 := Lib.hid (twW_heap1 w F 32 q)
      have h0 := Lib.hid (twW_heap0 w F 32 q)
      go_wp2_with (first | (refine wpList_load_row (o := ⟨some 19, _, _, _, _, _⟩) ?c1 35 (.tmp 3) ?c2 (w.heap.size + 1) ?c3 35 (fillA F 32) (0, 0) _ h1.out Try.underlying35 rfl (fillA_info F 32) ?c4; (case c1 => rfl); (case c2 => rfl); (case c3 => rfl)) | (refine wpList_store_row (o := ⟨none, _, _, _, _, _⟩) ?d1 35 (.tmp 2) (.tmp 19) ?d2 w.heap.size (fillA F 32) ?d3 ?d4 35 (fillA F 0) h0.out (fillA_info F 32) (by rw [fillA_size, fillA_size]) (fillA_one F 32) ?d5; (case d1 => rfl); (case d2 => rfl); (case d3 => rfl); (case d4 => rfl)))
      refine bodyPost_ret_by (results_cell_row (by rfl) _ _ w.heap.size 35 (fillA F 32) (0, 0) _ rfl (setRow_heap _ _ _ _ _ _ h0.out) Try.underlying35 rfl (fillA_info F 32)) rfl ⟨by rw [HFE.out], below_setRow (twW_below w F 32 q) (Nat.le_refl _) _⟩
end Go.Proofs.Ytkimbhblcgbidaa
