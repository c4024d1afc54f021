/- Rows of questions that were handed over: what stands at each of their places. No conditions but those that the statements name. What the statements' own fair tells of a list of questions. Conditions: the list is one that was handed over. -/
import Derived.Test.YthfbefkddnbbcaaHb
set_option linter.unusedVariables false
namespace Go.Proofs.Ythfbefkddnbbcaa
set_option linter.unusedVariables false
open Go.RowKit
set_option maxRecDepth 20000
theorem ask_at {w : World} {ao : Option Addr} {l : List Ak} (h : Row w ao 9 askC l) {i : Nat} (hi : i < l.length) : ∃ bk off, ao = some ⟨bk, off, none⟩ ∧ w.cell? ⟨bk, off + i * 9, none⟩ = some (.int .i64 l[i].kind) ∧ w.cell? ⟨bk, off + i * 9 + 1, none⟩ = some (.int .i64 l[i].unit) ∧ w.cell? ⟨bk, off + i * 9 + 2, none⟩ = some (.int .i64 l[i].epoch) ∧ w.cell? ⟨bk, off + i * 9 + 3, none⟩ = some (.int .i64 l[i].page) ∧ w.cell? ⟨bk, off + i * 9 + 4, none⟩ = some (.int .i64 l[i].size) ∧
    w.cell? ⟨bk, off + i * 9 + 5, none⟩ = some (.int .i64 l[i].n) ∧ w.cell? ⟨bk, off + i * 9 + 6, none⟩ = some (.string l[i].data) ∧ w.cell? ⟨bk, off + i * 9 + 7, none⟩ = some (.int .i64 l[i].pe) ∧ w.cell? ⟨bk, off + i * 9 + 8, none⟩ = some (.slice l[i].ao l[i].L.length l[i].cap) := by
  obtain ⟨bk, off, h1, h2⟩ := h i hi
  exact ⟨bk, off, h1, h2 0 _ rfl, h2 1 _ rfl, h2 2 _ rfl, h2 3 _ rfl, h2 4 _ rfl, h2 5 _ rfl, h2 6 _ rfl, h2 7 _ rfl, h2 8 _ rfl⟩
theorem ask_here {w W : World} {l : List Ak} {bk off n : Nat} (h : Row w (some ⟨bk, off, none⟩) 9 askC l) (hn : n < l.length) (hb : Below w.heap.size w W) :
    W.cell? ⟨bk, off + n * 9, none⟩ = some (.int .i64 l[n].kind) ∧ W.cell? ⟨bk, off + n * 9 + 1, none⟩ = some (.int .i64 l[n].unit) ∧ W.cell? ⟨bk, off + n * 9 + 2, none⟩ = some (.int .i64 l[n].epoch) ∧ W.cell? ⟨bk, off + n * 9 + 3, none⟩ = some (.int .i64 l[n].page) ∧ W.cell? ⟨bk, off + n * 9 + 4, none⟩ = some (.int .i64 l[n].size) ∧
    W.cell? ⟨bk, off + n * 9 + 5, none⟩ = some (.int .i64 l[n].n) ∧ W.cell? ⟨bk, off + n * 9 + 6, none⟩ = some (.string l[n].data) ∧ W.cell? ⟨bk, off + n * 9 + 7, none⟩ = some (.int .i64 l[n].pe) ∧ W.cell? ⟨bk, off + n * 9 + 8, none⟩ = some (.slice l[n].ao l[n].L.length l[n].cap) := by
  obtain ⟨bk2, off2, e, h1, h2, h3, h4, h5, h6, h7, h8, h9⟩ := ask_at (h.below hb) hn
  cases e
  exact ⟨h1, h2, h3, h4, h5, h6, h7, h8, h9⟩
end Go.Proofs.Ythfbefkddnbbcaa
namespace Go.Proofs.Ythfbefkddnbbcaa
set_option linter.unusedVariables false
open Go.RowKit
set_option maxRecDepth 20000
/-- the list is gone through -/
def fairA (l : List Ak) : Prop := l.length ≤ 100 ∧ ∀ s ∈ l, largeA s = false
def Fair12 (l : List Ak) (e : Ending) : Prop := ∃ c : Bool, e = .returned (.bool c) ∧ (c = true → fairA l)
set_option maxHeartbeats 4000000 in
theorem fair12_any (ao : Option Addr) (cap : Nat) (l : List Ak) (w : World) (hl : l.length ≤ maxLen) (h : Row w ao 9 askC l) (hk : ∀ s ∈ l, AkIn w s) :
    Calls Try.prog 7 #[.slice ao l.length cap] w fun e w' => Fair12 l e ∧ Below w.heap.size w w' := by
  unfold maxLen at hl
  have hl' : (l.length : Int) ≤ 9223372036854775807 := by omega
  have HF := Lib.hid h
  have HK := Lib.hid hk
  clear h hk
  go_enter Try.func7, Try.ntmps7
  go_wp2_with fail
  go_loopw [3] (fun i wr => ∃ k : Nat, i = .int .i64 k ∧ k ≤ l.length ∧ Hid (∀ s ∈ l.take k, largeA s = false) ∧ Hid (Below w.heap.size w wr)) (fun i _ => l.length - (intOf i).toNat)
  case atStart => exact ⟨0, rfl, Nat.zero_le _, Lib.hid (by simp), Lib.hid (Below.refl _ _)⟩
  case round =>
    obtain ⟨k, rfl, hkl, HT, HB⟩ := hrel
    by_cases hlt : k < l.length
    · obtain ⟨bk, off, rfl, d0, d1, d2, d3, d4, d5, d6, d7, d8⟩ := ask_at (HF.out.below HB.out) hlt
      have k0 : (k : Int) < (l.length : Int) := by omega
      have HA := Lib.hid ((HK.out _ (List.getElem_mem hlt)).below HB.out)
      have CL1 := Lib.hid (largeAsk_any _ _ HA.out)
      have HT2 := Lib.hid (fun (e : largeA l[k] = false) => show ∀ s ∈ l.take (k + 1), largeA s = false from by
        rw [List.take_succ_eq_append_getElem hlt]
        intro s hs
        rcases List.mem_append.1 hs with h1 | h1
        · exact HT.out s h1
        · rw [List.mem_singleton.1 h1]; exact e)
      cases hc : largeA l[k]
      · rw [hc] at CL1
        have HT3 := Lib.hid (HT2.out hc)
        go_wp2_with (go_at_call 24; refine CL1.out.mono ?_; rintro e w1 ⟨rfl, hb1⟩; have HB1 := Lib.hid (HB.out.trans (hb1.mono HB.out.size)); clear hb1)
        go_roundw
        case rel => exact ⟨k + 1, by go_num, by omega, HT3, HB1⟩
        case measure => simp [intOf]; omega
      · rw [hc] at CL1
        go_wp2_with (go_at_call 24; refine CL1.out.mono ?_; rintro e w1 ⟨rfl, hb1⟩; have HB1 := Lib.hid (HB.out.trans (hb1.mono HB.out.size)); clear hb1)
        go_ret
        exact ⟨⟨false, rfl, fun e => by cases e⟩, HB1.out⟩
    · obtain rfl : k = l.length := by omega
      have HA := Lib.hid (show ∀ s ∈ l, largeA s = false from by have := HT.out; rwa [List.take_of_length_le (Nat.le_refl _)] at this)
      by_cases h2 : l.length ≤ 100
      · have d : decide ((l.length : Int) ≤ 100) = true := decide_eq_true (by omega)
        go_wp2_with fail
        go_ret
        exact ⟨⟨_, rfl, fun _ => ⟨h2, HA.out⟩⟩, HB.out⟩
      · have d : decide ((l.length : Int) ≤ 100) = false := decide_eq_false (by omega)
        go_wp2_with fail
        go_ret
        exact ⟨⟨false, rfl, fun e => by cases e⟩, HB.out⟩
end Go.Proofs.Ythfbefkddnbbcaa
