/- What Text of an unpacker does. Conditions: its block is as UK says; its text is no longer than 2^40 bytes. -/
import Derived.Test.YtddhdibcchoakaaPackI
namespace Go.Proofs.Ytddhdibcchoakaa
open Go.RowKit

theorem numV_range (o : Option ByteArray) (n : Int) : 0 ≤ numV o n ∧ numV o n ≤ 9223372036854775807 := by
  unfold numV
  split
  · next h => exact ⟨getI_nonneg _, by have := h.2.2.2; omega⟩
  · omega
theorem numO_size (o : Option ByteArray) (n : Int) : (ukL (numO o n)).size ≤ (ukL o).size := by
  unfold numO
  split
  · show ((ukL o).extract n.toNat (ukL o).size).size ≤ _
    rw [ByteArray.size_extract]
    omega
  · exact Nat.zero_le _
/-- a text of at most so many bytes is there -/
def hasT (o : Option ByteArray) (most : Int) : Prop := (numO o 2).isSome = true ∧ numV o 2 ≤ most ∧ numV o 2 ≤ (ukL (numO o 2)).size
instance (o : Option ByteArray) (most : Int) : Decidable (hasT o most) := by unfold hasT; infer_instance
def textV (o : Option ByteArray) (most : Int) : ByteArray := if hasT o most then (ukL (numO o 2)).extract 0 (numV o 2).toNat else ⟨#[]⟩
def textO (o : Option ByteArray) (most : Int) : Option ByteArray := if hasT o most then some ((ukL (numO o 2)).extract (numV o 2).toNat (ukL (numO o 2)).size) else none

set_option maxHeartbeats 1000000 in
theorem uText_any (w : World) (b : Nat) (o : Option ByteArray) (most : Int) (h : UK w b o) (hl : (ukL o).size ≤ 1099511627776) :
    Calls Try.prog 19 #[.pointer (some ⟨b, 0, none⟩), .int .i64 most] w fun e w' => e = .returned (.string (textV o most)) ∧ UK w' b (textO o most) ∧ Kept (fun k => k ≠ b) w w' := by
  obtain ⟨v0, v1⟩ := numV_range o 2
  have hc := uNum_any w b o 2 h hl (by omega)
  have hsz := numO_size o 2
  by_cases hh : hasT o most
  · have H := Lib.hid (show textV o most = (ukL (numO o 2)).extract 0 (numV o 2).toNat ∧ textO o most = some ((ukL (numO o 2)).extract (numV o 2).toNat (ukL (numO o 2)).size) from ⟨if_pos hh, if_pos hh⟩)
    obtain ⟨hs, hm, hz⟩ := hh
    generalize numV o 2 = v at *
    generalize numO o 2 = o1 at *
    obtain ⟨l, rfl⟩ := Option.isSome_iff_exists.1 hs
    have hz : v ≤ (l.size : Int) := hz
    have hsz : l.size ≤ (ukL o).size := hsz
    obtain ⟨k, rfl⟩ := Int.eq_ofNat_of_zero_le v0
    have hzn : k ≤ l.size := by omega
    have ls : (l.extract 0 k).size ≤ 1099511627776 := by rw [ByteArray.size_extract]; omega
    clear hs v0 v1
    go_enter Try.func19, Try.ntmps19
    go_wp2_with (first | (go_at_call 21; refine hc.mono ?_; rintro e w1 ⟨rfl, hp, hk⟩; have hq := two_cells (show w1.heap[b]? = _ from hp); obtain ⟨c0, c1, f0, f1⟩ := hq) | (go_at_call 34; refine (clone_any (l.extract 0 k) _ ls).mono ?_; rintro e w2 ⟨rfl, hb2⟩; have hp2 : UK w2 b (some l) := below_heap hb2 hp; have hk2 := hk.below hb2; have hq2 := two_cells (show w2.heap[b]? = _ from hp2); obtain ⟨d0, d1, g0, g1⟩ := hq2))
    go_ret
    obtain ⟨u1, u2⟩ := uk_set hp2 (l.extract k l.size)
    rw [H.out.1, H.out.2]
    exact ⟨rfl, u1, hk2.trans u2⟩
  · have H := Lib.hid (show textV o most = ⟨#[]⟩ ∧ textO o most = none from ⟨if_neg hh, if_neg hh⟩)
    unfold hasT at hh
    generalize numV o 2 = v at *
    generalize numO o 2 = o1 at *
    cases o1 with
    | none =>
      clear hh
      go_enter Try.func19, Try.ntmps19
      go_wp2_with (go_at_call 21; refine hc.mono ?_; rintro e w1 ⟨rfl, hp, hk⟩; have hq := two_cells (show w1.heap[b]? = _ from hp); obtain ⟨c0, c1, f0, f1⟩ := hq)
      go_ret
      rw [H.out.1, H.out.2]
      exact ⟨rfl, hp, hk⟩
    | some l =>
      have hsz : l.size ≤ (ukL o).size := hsz
      by_cases hm : v ≤ most
      · have hz : (l.size : Int) < v := by
          rcases Int.lt_or_le (l.size : Int) v with h | h
          · exact h
          · exact absurd ⟨rfl, hm, h⟩ hh
        clear hh
        go_enter Try.func19, Try.ntmps19
        go_wp2_with (first | (go_at_call 21; refine hc.mono ?_; rintro e w1 ⟨rfl, hp, hk⟩; have hq := two_cells (show w1.heap[b]? = _ from hp); obtain ⟨c0, c1, f0, f1⟩ := hq) | (go_at_call 33; refine (spoil_any _ b (some l) hp).mono ?_; rintro e w2 ⟨rfl, hp2, hk2⟩))
        go_ret
        rw [H.out.1, H.out.2]
        exact ⟨rfl, hp2, hk.trans hk2⟩
      · have hz : most < v := by omega
        clear hh hm
        go_enter Try.func19, Try.ntmps19
        go_wp2_with (first | (go_at_call 21; refine hc.mono ?_; rintro e w1 ⟨rfl, hp, hk⟩; have hq := two_cells (show w1.heap[b]? = _ from hp); obtain ⟨c0, c1, f0, f1⟩ := hq) | (go_at_call 33; refine (spoil_any _ b (some l) hp).mono ?_; rintro e w2 ⟨rfl, hp2, hk2⟩))
        go_ret
        rw [H.out.1, H.out.2]
        exact ⟨rfl, hp2, hk.trans hk2⟩
end Go.Proofs.Ytddhdibcchoakaa
