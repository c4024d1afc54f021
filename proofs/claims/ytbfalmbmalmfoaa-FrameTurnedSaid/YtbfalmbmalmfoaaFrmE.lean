/- Plain facts on frames: what a text's frame is opened as, whatever follows it; frames that are cut off; and that frame is awake. Conditions: the sizes, as each lemma states them. -/
import Derived.Test.YtbfalmbmalmfoaaFrmD
namespace Go.Proofs.Ytbfalmbmalmfoaa
open Go.RowKit

theorem ext_list (s : ByteArray) (a b : Nat) : (s.extract a b).data.toList = (s.data.toList.drop a).take (b - a) := by
  rw [ByteArray.data_extract]
  simp [Array.toList_extract, List.extract]
theorem bytes_ext {s t : ByteArray} (h : s.data.toList = t.data.toList) : s = t := ByteArray.ext (Array.toList_inj.1 h)
theorem size_list (s : ByteArray) : s.size = s.data.toList.length := by simp
/-- what is read of a text that is put together of a length, four bytes, a text of that length, and more -/
theorem frame_parts (n : Nat) (hn : n < 4294967296) (Q t R : List UInt8) (f : ByteArray) (hf : f.data.toList = bl n 4 ++ (Q ++ (t ++ R))) (hQ : Q.length = 4) (ht : t.length = n) :
    lenV f = n ∧ sumV f = getI Q ∧ (headR f).data.toList = bl n 4 ∧ (bodyR f).data.toList = t ∧ f.size = 8 + n + R.length := by
  have b4 := bl_length n 4
  have e0 : cutL f 0 4 = bl n 4 := by
    unfold cutL
    rw [hf, List.drop_zero, List.take_left' b4]
  have e1 : cutL f 4 4 = Q := by
    unfold cutL
    rw [hf, List.drop_left' b4, List.take_left' hQ]
  have e2 : lenV f = n := by
    unfold lenV
    rw [e0, getI_bl, Nat.mod_eq_of_lt (show n < 256 ^ 4 by omega)]
  refine ⟨e2, by unfold sumV; rw [e1], ?_, ?_, ?_⟩
  · unfold headR
    rw [ext_list]
    exact e0
  · unfold bodyR
    rw [ext_list, e2, Int.toNat_natCast, hf, show 8 = 4 + 4 from rfl, ← List.drop_drop, List.drop_left' b4, List.drop_left' hQ, show 4 + 4 + n - (4 + 4) = n by omega, List.take_left' ht]
  · rw [size_list, hf]
    simp only [List.length_append, b4, hQ, ht]
    omega
theorem frame_next (n : Nat) (hn : n ≤ 65536) (Q t R : List UInt8) (f : ByteArray) (hf : f.data.toList = bl n 4 ++ (Q ++ (t ++ R))) (hQ : Q.length = 4) (ht : t.length = n) :
    nextR f = if getI Q = (csum (bl n 4 ++ t) : Nat) then (⟨t.toArray⟩, 8 + (n : Int), 0) else (⟨#[]⟩, 0, 12) := by
  obtain ⟨e0, e1, e2, e3, e4⟩ := frame_parts n (by omega) Q t R f hf hQ ht
  have hs : (sumR (headR f ++ bodyR f) : Nat) = csum (bl n 4 ++ t) := by unfold sumR; rw [list_app, e2, e3]
  have hb : bodyR f = ⟨t.toArray⟩ := bytes_ext (by rw [e3])
  split
  · next h => rw [nextR_is f (by omega) (by omega) (by omega) (by rw [e1, h, hs]), hb, e0]
  · next h => rw [nextR_sum f (by omega) (by omega) (by omega) (by rw [e1, hs]; exact h)]
theorem frR_list (s : ByteArray) : (frR s).data.toList = bl s.size 4 ++ (bl (sumR (lenB s ++ s)) 4 ++ (s.data.toList ++ [])) := by
  unfold frR lenB sumB
  rw [list_app, list_app, putR_eq (by decide) (by decide), putR_eq (by decide) (by decide)]
  rw [show (4 : Int).toNat = 4 from rfl, putS_list, putS_list, List.append_nil, List.append_assoc]
  rfl
theorem lenB_list (s : ByteArray) : (lenB s).data.toList = bl s.size 4 := by
  unfold lenB
  rw [putR_eq (by decide) (by decide), show (4 : Int).toNat = 4 from rfl, putS_list]
theorem next_frR (s R : ByteArray) (hs : s.size ≤ 65536) : nextR (frR s ++ R) = (s, 8 + (s.size : Int), 0) := by
  rw [frame_next s.size hs (bl (sumR (lenB s ++ s)) 4) s.data.toList R.data.toList _ (by rw [list_app, frR_list]; simp) (bl_length _ _) (size_list s).symm, if_pos]
  rw [getI_bl, Nat.mod_eq_of_lt (show sumR (lenB s ++ s) < 256 ^ 4 from sumR_lt _)]
  unfold sumR
  rw [list_app, lenB_list]
theorem app_nil (s : ByteArray) : s ++ ⟨#[]⟩ = s := bytes_ext (by rw [list_app]; simp)
theorem open_frR (s : ByteArray) (hs : s.size ≤ 65536) : openR (frR s) = (s, 0) := by
  have h := next_frR s ⟨#[]⟩ hs
  rw [app_nil] at h
  unfold openR
  rw [h, if_neg (by simp), if_neg]
  rw [frR_size]
  show ¬ (8 + (s.size : Int) < ((8 + s.size : Nat) : Int))
  omega
theorem open_more (s R : ByteArray) (hs : s.size ≤ 65536) (hR : R.size ≠ 0) : openR (frR s ++ R) = (⟨#[]⟩, 11) := by
  unfold openR
  rw [next_frR s R hs, if_neg (by simp), if_pos]
  rw [ByteArray.size_append, frR_size]
  show (8 + (s.size : Int) < ((8 + s.size + R.size : Nat) : Int))
  omega
theorem next_cuts (s : ByteArray) (hs : s.size ≤ 65536) (k : Nat) (hk : k < (frR s).size) : nextR ((frR s).extract 0 k) = (⟨#[]⟩, 0, 10) := by
  rw [frR_size] at hk
  have hz : ((frR s).extract 0 k).size = k := by rw [ByteArray.size_extract, frR_size]; omega
  by_cases h8 : k < 8
  · exact nextR_short _ (by rw [hz]; exact h8)
  · obtain ⟨e0, _⟩ := frame_parts s.size (by omega) (bl (sumR (lenB s ++ s)) 4) s.data.toList [] (frR s) (frR_list s) (bl_length _ _) (size_list s).symm
    have hl : lenV ((frR s).extract 0 k) = s.size := by
      rw [← e0]
      unfold lenV cutL
      rw [ext_list, List.drop_zero, List.drop_zero, List.take_take, Nat.sub_zero, Nat.min_eq_left (by omega)]
    exact nextR_cut _ (by omega) (by omega) (by rw [hl, hz]; omega)

theorem wk_ab (w : World) : Calls Try.prog 9 #[.string ⟨#[97, 98]⟩] w fun e w' => e = .returned (.tuple #[.string (frR ⟨#[97, 98]⟩), .int .i64 0]) ∧ Below w.heap.size w w' := seal_in _ (by decide) w
theorem wk_more (w : World) : Calls Try.prog 13 #[.string (frR ⟨#[97, 98]⟩ ++ ⟨#[109, 111, 114, 101]⟩)] w fun e w' => e = .returned (.tuple #[.string ⟨#[97, 98]⟩, .int .i64 10, .int .i64 0]) ∧ Below w.heap.size w w' := by
  have h := next_any (frR ⟨#[97, 98]⟩ ++ ⟨#[109, 111, 114, 101]⟩) (by rw [ByteArray.size_append, frR_size]; decide) w
  rw [next_frR _ _ (by decide)] at h
  exact h
theorem wk_zero : frR ⟨#[]⟩ = ⟨#[0, 0, 0, 0, 33, 68, 223, 28]⟩ := by decide +kernel
theorem wk_empty (w : World) : Calls Try.prog 9 #[.string ⟨#[]⟩] w fun e w' => e = .returned (.tuple #[.string ⟨#[0, 0, 0, 0, 33, 68, 223, 28]⟩, .int .i64 0]) ∧ Below w.heap.size w w' := by
  have h := seal_in ⟨#[]⟩ (by decide) w
  rw [wk_zero] at h
  exact h
set_option maxHeartbeats 400000 in
theorem wakes_any (w : World) : Calls Try.prog 8 #[] w fun e w' => e = .returned (.bool true) ∧ Below w.heap.size w w' := by
  have h1 := fun w => wk_ab w
  have h2 := fun w => wk_more w
  have hz : (frR ⟨#[97, 98]⟩).size ≤ 10 := by rw [frR_size]; decide
  generalize frR ⟨#[97, 98]⟩ = A at *
  go_enter Try.func8, Try.ntmps8
  go_wp2_with (first | (go_at_call 9; (with_reducible refine (h1 _).mono ?_); rintro e w1 ⟨rfl, hb1⟩) | (go_at_call 13; refine (h2 _).mono ?_; rintro e w2 ⟨rfl, hb2⟩) | (go_at_call 9; refine (wk_empty _).mono ?_; rintro e w3 ⟨rfl, hb3⟩))
  go_ret
  exact ⟨rfl, (hb1.trans (hb2.mono hb1.size)).trans (hb3.mono (hb1.trans (hb2.mono hb1.size)).size)⟩
end Go.Proofs.Ytbfalmbmalmfoaa
