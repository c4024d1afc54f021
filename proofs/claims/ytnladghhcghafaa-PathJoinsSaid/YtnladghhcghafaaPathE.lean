/- What Join returns, of path. Conditions: the names lie where the call was told, none is longer than 2^40 bytes. -/
import Derived.Test.YtnladghhcghafaaPathD
import Derived.Test.YtnladghhcghafaaBuild
namespace Go.Proofs.Ytnladghhcghafaa
open Go.RowKit

theorem joinR_yes {L : List ByteArray} (h : fit L = true) : joinR L = (pathL L, 0) := by simp [joinR, h]
theorem joinR_no {L : List ByteArray} (h : fit L = false) : joinR L = (⟨#[]⟩, 11) := by simp [joinR, h]
theorem fit_long {L : List ByteArray} (h : 8 < L.length) : fit L = false := by simp [fit]; omega
theorem fit_not {L : List ByteArray} {k : Nat} (hk : k < L.length) (h : nameB L[k] = false) : fit L = false := by
  apply Bool.eq_false_iff.2
  intro hf
  have := List.all_eq_true.1 ((fit_iff _).1 hf).2 _ (List.getElem_mem hk)
  rw [h] at this
  cases this
theorem take_names {L : List ByteArray} {k : Nat} (hk : k < L.length) (h : (L.take k).all nameB = true) (hn : nameB L[k] = true) : (L.take (k + 1)).all nameB = true := by
  rw [List.take_succ_eq_append_getElem hk, List.all_append, h]
  simp [hn]
theorem take_join {L : List ByteArray} {k : Nat} (hk : k < L.length) : joinC (L.take (k + 1)) = joinC (L.take k) ++ 47 :: lof L[k] := by
  rw [List.take_succ_eq_append_getElem hk, joinC_app]
  simp [joinC]
theorem joinC_le (l : List ByteArray) (h : l.all nameB = true) : (joinC l).length ≤ 9 * l.length := by
  have := joinL_size_le l h
  rwa [lof_size, joinL_list] at this
/-- the builder's world: it holds the first k names' path -/
def BW (w wr : World) (l : List UInt8) : Prop := Lib.IsBuilder 54 5 w.heap.size w.heap.size (Lib.byteCells l) wr ∧ Below w.heap.size w wr
theorem BW.start (w : World) : BW w (w.alloc (.cells #[.pointer none, .slice none 0 0] 54)) [] :=
  ⟨.inl ⟨Nat.le_refl _, .slice none 0 0, heap_alloc_new _ _, World.ownsRow_nil _ _ _ _, by simp [Value.ownBlock]⟩, (Below.refl _ _).alloc (Nat.le_refl _) _⟩
theorem BW.size {w wr : World} {l : List UInt8} (h : BW w wr l) : w.heap.size ≤ wr.heap.size := h.2.size
theorem cells_byte (l : List UInt8) (c : UInt8) : Lib.byteCells l ++ [Value.int .u8 (c.toNat : Int)] = Lib.byteCells (l ++ [c]) := by simp [Lib.byteCells]
theorem cells_str (l : List UInt8) (s : ByteArray) : Lib.byteCells l ++ Lib.strCells s = Lib.byteCells (l ++ lof s) := by simp [Lib.byteCells, Lib.strCells, lof]
theorem bw_byte {w wr : World} {l : List UInt8} (h : BW w wr l) (hl : l.length ≤ 1000) :
    Calls Try.prog 25 #[.pointer (some ⟨w.heap.size, 0, none⟩), .int .u8 47] wr fun e w' => e = .returned .nilIface ∧ BW w w' (l ++ [47]) := by
  refine (writeByte_any w.heap.size w.heap.size _ 47 wr h.1 (by simp [Lib.byteCells]; omega) h.size).mono ?_
  rintro e w' ⟨rfl, h1, h2⟩
  refine ⟨rfl, .inr ?_, h.2.trans h2⟩
  have := cells_byte l 47
  rw [← this]
  exact h1
theorem bw_str {w wr : World} {l : List UInt8} (s : ByteArray) (h : BW w wr l) (hl : l.length ≤ 1000) (hs : s.size ≤ 1000) :
    Calls Try.prog 26 #[.pointer (some ⟨w.heap.size, 0, none⟩), .string s] wr fun e w' => e = .returned (.tuple #[.int .i64 s.size, .nilIface]) ∧ BW w w' (l ++ lof s) := by
  refine (writeString_any w.heap.size w.heap.size _ s wr h.1 (by simp [Lib.byteCells]; omega) h.size).mono ?_
  rintro e w' ⟨rfl, h1, h2⟩
  refine ⟨rfl, .inr ?_, h.2.trans h2⟩
  rw [← cells_str]
  exact h1
theorem bw_done {w wr : World} {l : List UInt8} (h : BW w wr l) :
    Calls Try.prog 27 #[.pointer (some ⟨w.heap.size, 0, none⟩)] wr fun e w' => e = .returned (.string (bof l)) ∧ Below w.heap.size w w' := by
  refine (Try.Builder_String_any w.heap.size w.heap.size l wr h.1 h.size).mono ?_
  rintro e w' ⟨rfl, h1⟩
  exact ⟨rfl, h.2.trans h1⟩
set_option maxHeartbeats 1000000 in
theorem join_any (L : List ByteArray) (ao : Option Addr) (cap : Nat) (w : World) (h : SL w ao L) (hL : L.length ≤ 1000000) :
    Calls Try.prog 17 #[.slice ao L.length cap] w fun e w' => e = .returned (.tuple #[.string (joinR L).1, .int .i64 (joinR L).2]) ∧ Below w.heap.size w w' := by
  by_cases h8 : 8 < L.length
  · rw [joinR_no (fit_long h8)]
    have h8' : (8 : Int) < (L.length : Int) := by omega
    have hL' : (L.length : Int) ≤ 1000000 := by omega
    clear h8
    go_enter Try.func17, Try.ntmps17
    go_wp2
    go_ret2
    exact ⟨rfl, Below.refl _ _⟩
  · have h8' : (L.length : Int) ≤ 8 := by omega
    have hl8 : L.length ≤ 8 := by omega
    have HB := Lib.hid (BW.start w)
    have HL := Lib.hid h
    have HF := Lib.hid (show L.all nameB = true → fit L = true from fun e => (fit_iff L).2 ⟨hl8, e⟩)
    have HY := Lib.hid (@joinR_yes L)
    have HN := Lib.hid (@joinR_no L)
    generalize joinR L = J at *
    clear h h8 hL
    go_enter Try.func17, Try.ntmps17
    go_wp2_with fail
    go_loopw [12] (fun i wr => ∃ k : Nat, k ≤ L.length ∧ i = .int .i64 k ∧ Hid ((L.take k).all nameB = true) ∧ Hid (BW w wr (joinC (L.take k)))) (fun i _ => L.length - (intOf i).toNat)
    case atStart => exact ⟨0, Nat.zero_le _, rfl, Lib.hid (by simp), HB⟩
    case round =>
      obtain ⟨k, hk, rfl, HA, HW⟩ := hrel
      clear HB
      have hjl := joinC_le _ HA.out
      rw [List.length_take] at hjl
      have HJL := Lib.hid (show (joinC (L.take k)).length ≤ 100 by omega)
      clear hjl
      by_cases hlt : k < L.length
      · obtain ⟨bk, off, hao, hc0⟩ := HL.out k hlt
        have c0 : wr.cell? ⟨bk, off + k, none⟩ = some (.string L[k]) := (HW.out.2.cell (p := ⟨bk, off + k, none⟩) (block_lt_of_cell hc0)).trans hc0
        have c := fun w => name_any L[k] w
        subst hao
        clear hc0
        cases hn : nameB L[k]
        · rw [hn] at c
          have HX := Lib.hid (HN.out (fit_not hlt hn))
          clear hn
          go_wp2_with (go_at_call 12; refine (c _).mono ?_; rintro e w' ⟨rfl, rfl⟩)
          go_ret2
          rw [HX.out]
          exact ⟨rfl, HW.out.2⟩
        · rw [hn] at c
          have HS := Lib.hid (show L[k].size ≤ 1000 by have := ((nameB_iff _).1 hn).2.1; omega)
          have HT := Lib.hid (take_names hlt HA.out hn)
          have HJ := Lib.hid (take_join hlt)
          clear hn
          go_wp2_with (first | (go_at_call 12; refine (c _).mono ?_; rintro e w' ⟨rfl, rfl⟩) | (go_at_call 25; refine (bw_byte HW.out (by have := HJL.out; omega)).mono ?_; rintro e w2 ⟨rfl, hw2⟩; have HW2 := Lib.hid hw2; clear hw2) | (go_at_call 26; refine (bw_str _ HW2.out (by have := HJL.out; simp; omega) HS.out).mono ?_; rintro e w3 ⟨rfl, hw3⟩; have HW3 := Lib.hid hw3; clear hw3))
          go_roundw
          case rel => exact ⟨k + 1, by omega, by go_num, HT, by rw [HJ.out]; have := HW3.out; rwa [List.append_assoc] at this⟩
          case measure => simp [intOf]; omega
      · obtain rfl : k = L.length := by omega
        have HX := Lib.hid (HY.out (HF.out (by have := HA.out; rwa [List.take_of_length_le (Nat.le_refl _)] at this)))
        by_cases h0 : L.length = 0
        · have hL0 : L = [] := List.eq_nil_of_length_eq_zero h0
          subst hL0
          have HS := Lib.hid (show (⟨#[47]⟩ : ByteArray).size ≤ 1000 by decide)
          clear hlt hk h0
          go_wp2_with (first | (go_at_call 26; refine (bw_str _ HW.out (by have := HJL.out; omega) HS.out).mono ?_; rintro e w3 ⟨rfl, hw3⟩; have HW3 := Lib.hid hw3; clear hw3) | (go_at_call 27; refine (bw_done HW3.out).mono ?_; rintro e w4 ⟨rfl, hb4⟩))
          go_ret2
          rw [HX.out]
          exact ⟨rfl, hb4⟩
        · have d0 : ((L.length : Int) == 0) = false := beq_eq_false_iff_ne.2 (by omega)
          have HP := Lib.hid (show pathL L = bof (joinC L) by
            unfold pathL
            rw [if_neg (by intro e; rw [e] at h0; exact h0 rfl)]
            exact lof_inj (by rw [joinL_list]; rfl))
          clear hlt hk h0
          go_wp2_with (go_at_call 27; refine (bw_done HW.out).mono ?_; rintro e w4 ⟨rfl, hb4⟩)
          go_ret2
          rw [HX.out, HP.out]
          exact ⟨rfl, hb4⟩
end Go.Proofs.Ytnladghhcghafaa
