/- What frame's two small helpers return: the sum of texts one behind the other, and three texts one behind the other. Conditions: the texts lie in a slice that was made for the call; their sizes are at most 2^40 together. -/
import Derived.Test.YtbfalmbmalmfoaaCrcS
import Derived.Test.YtbfalmbmalmfoaaShelf
namespace Go.Proofs.Ytbfalmbmalmfoaa
open Go.RowKit

theorem list_app (a b : ByteArray) : (a ++ b).data.toList = a.data.toList ++ b.data.toList := by
  rw [ByteArray.data_append]
  exact Array.toList_append
theorem sum_join (a b : ByteArray) : moreR (moreR (sumR ⟨#[]⟩) a) b = sumR (a ++ b) := by
  unfold moreR sumR
  rw [list_app, csum_more, ← csum_more [] a.data.toList]
  rfl
def sumL (xs : List ByteArray) : Nat := xs.foldl moreR (sumR ⟨#[]⟩)
theorem sumL_lt (xs : List ByteArray) : sumL xs < 4294967296 := by
  unfold sumL
  have : ∀ x, x < 4294967296 → xs.foldl moreR x < 4294967296 := by
    induction xs with
    | nil => exact fun _ h => h
    | cons a l ih => exact fun x h => ih _ (moreR_lt h a)
  exact this _ (sumR_lt _)
theorem sumL_snoc (xs : List ByteArray) (k : Nat) (x : ByteArray) (h : xs[k]? = some x) : sumL (xs.take (k + 1)) = moreR (sumL (xs.take k)) x := by
  obtain ⟨hk, rfl⟩ := List.getElem?_eq_some_iff.1 h
  unfold sumL
  rw [List.take_succ_eq_append_getElem hk, List.foldl_append]
  rfl
set_option maxHeartbeats 400000 in
theorem sumOf_any (b c : Nat) (xs : List ByteArray) (w : World) (hc : ∀ (j : Nat) x, xs[j]? = some x → w.cell? ⟨b, j, none⟩ = some (.string x)) (hx : ∀ x ∈ xs, x.size ≤ maxLen) (hl : xs.length ≤ 1000) :
    Calls Try.prog 17 #[.slice (some ⟨b, 0, none⟩) xs.length c] w fun e w' => e = .returned (.int .u32 (sumL xs : Nat)) ∧ w = w' := by
  have HC := Lib.hid hc
  have HX := Lib.hid hx
  clear hx hc
  have l0 : sumR ⟨#[]⟩ < 4294967296 := sumR_lt _
  go_enter Try.func17, Try.ntmps17
  go_wp2_with (go_at_call 25; refine (sum_r _ (by decide) _).mono ?_; rintro e w' ⟨rfl, rfl⟩)
  go_loop [3, 9] (fun r i => ∃ k : Nat, k ≤ xs.length ∧ i = .int .i64 k ∧ r = .int .u32 (sumL (xs.take k) : Nat)) (fun _ i => xs.length - (intOf i).toNat)
  case atStart => exact ⟨0, Nat.zero_le _, rfl, rfl⟩
  case round =>
    obtain ⟨k, hk, rfl, rfl⟩ := hrel
    have hs := sumL_lt (xs.take k)
    by_cases hlt : k < xs.length
    · obtain ⟨x, hx⟩ : ∃ x, xs[k]? = some x := ⟨xs[k], List.getElem?_eq_getElem hlt⟩
      have c0 := HC.out k x hx
      have HS := Lib.hid (sumL_snoc xs k x hx)
      have HM := Lib.hid (HX.out x (List.mem_of_getElem? hx))
      clear hx
      generalize sumL (xs.take k) = s at *
      go_wp2_with (go_at_call 26; refine (more_r _ _ hs HM.out _).mono ?_; rintro e w' ⟨rfl, rfl⟩)
      go_round
      case rel => exact ⟨k + 1, by omega, by go_num, by rw [HS.out]⟩
      case measure => simp [intOf]; omega
    · obtain rfl : k = xs.length := by omega
      rw [List.take_of_length_le (Nat.le_refl _)]
      go_wp2
      go_ret
      exact ⟨rfl, rfl⟩
theorem sumOf_two (b : Nat) (x y : ByteArray) (w : World) (h0 : w.cell? ⟨b, 0, none⟩ = some (.string x)) (h1 : w.cell? ⟨b, 1, none⟩ = some (.string y)) (hx : x.size ≤ maxLen) (hy : y.size ≤ maxLen) :
    Calls Try.prog 17 #[.slice (some ⟨b, 0, none⟩) 2 2] w fun e w' => e = .returned (.int .u32 (sumR (x ++ y) : Nat)) ∧ w = w' := by
  have h := sumOf_any b 2 [x, y] w (fun j z hz => by
    match j, hz with
    | 0, hz => cases hz; exact h0
    | 1, hz => cases hz; exact h1
    | j + 2, hz => simp at hz) (fun z hz => by
      simp only [List.mem_cons, List.not_mem_nil, or_false] at hz
      rcases hz with rfl | rfl <;> assumption) (by simp)
  rw [show sumL [x, y] = sumR (x ++ y) from sum_join x y] at h
  exact h
theorem join3 (x y z : ByteArray) : Lib.join ([x, y, z].map (·.data.toList)) (⟨#[]⟩ : ByteArray).data.toList = (x ++ y ++ z).data.toList := by
  rw [list_app, list_app]
  simp [Lib.join]
theorem together_three (b : Nat) (x y z : ByteArray) (w : World) (h0 : w.cell? ⟨b, 0, none⟩ = some (.string x)) (h1 : w.cell? ⟨b, 1, none⟩ = some (.string y)) (h2 : w.cell? ⟨b, 2, none⟩ = some (.string z)) (hb : b < w.heap.size) (hs : (x ++ y ++ z).size ≤ 140737488355328) :
    Calls Try.prog 18 #[.slice (some ⟨b, 0, none⟩) 3 3] w fun e w' => e = .returned (.string (x ++ y ++ z)) ∧ Below w.heap.size w w' := by
  have h := Try.strings_Join b 0 3 [x, y, z] ⟨#[]⟩ w (fun j u hu => by
    rw [Nat.zero_add]
    match j, hu with
    | 0, hu => cases hu; exact h0
    | 1, hu => cases hu; exact h1
    | 2, hu => cases hu; exact h2
    | j + 3, hu => simp at hu) hb (by simp) (Nat.le_refl _) (by rw [join3, ← Lib.size_eq]; exact hs)
  rw [join3] at h
  have hj : Calls Try.prog 27 #[.slice (some ⟨b, 0, none⟩) 3 3, .string ⟨#[]⟩] w fun e w' => e = .returned (.string (x ++ y ++ z)) ∧ Below w.heap.size w w' := h
  clear h h0 h1 h2
  go_enter Try.func18, Try.ntmps18
  go_wp2_with (go_at_call 27; refine hj.mono ?_; rintro e w1 ⟨rfl, hb1⟩)
  go_ret
  exact ⟨rfl, hb1⟩
theorem sumOf_made (x y : ByteArray) (w : World) (hx : x.size ≤ maxLen) (hy : y.size ≤ maxLen) :
    Calls Try.prog 17 #[.slice (some ⟨w.heap.size, 0, none⟩) 2 2] (w.alloc (.cells #[.string x, .string y] 9)) fun e w' => e = .returned (.int .u32 (sumR (x ++ y) : Nat)) ∧ w.alloc (.cells #[.string x, .string y] 9) = w' :=
  sumOf_two w.heap.size x y _ (by rw [World.cell?_alloc_new]; rfl) (by rw [World.cell?_alloc_new]; rfl) hx hy
theorem together_made (x y z : ByteArray) (w : World) (hs : (x ++ y ++ z).size ≤ 140737488355328) :
    Calls Try.prog 18 #[.slice (some ⟨w.heap.size, 0, none⟩) 3 3] (w.alloc (.cells #[.string x, .string y, .string z] 9)) fun e w' => e = .returned (.string (x ++ y ++ z)) ∧ Below w.heap.size w w' :=
  (together_three w.heap.size x y z _ (by rw [World.cell?_alloc_new]; rfl) (by rw [World.cell?_alloc_new]; rfl) (by rw [World.cell?_alloc_new]; rfl) (by simp) hs).mono fun _ _ ⟨he, hb⟩ => ⟨he, ((Below.refl _ _).alloc (Nat.le_refl _) _).trans (hb.mono (by simp))⟩
end Go.Proofs.Ytbfalmbmalmfoaa
