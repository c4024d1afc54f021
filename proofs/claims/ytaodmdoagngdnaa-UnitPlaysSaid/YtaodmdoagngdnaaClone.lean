/- strings.Clone hands back the same bytes, in memory of its own. Conditions: the text is no longer than 2^48 bytes. -/
import Derived.Test.YtaodmdoagngdnaaKept
import Derived.Lib.Strings
import Derived.Lib.BufferWrite
import Derived.Lib.UnsafeStr
import Derived.Laws.MakeOwn
import Derived.WalkKit
namespace Go.Proofs.Ytaodmdoagngdnaa
open Go.RowKit
theorem infoU8c : (Try.prog.info? 5).map (fun i => (i.zero, i.size, i.bytes)) = some (some (.int .u8 0), 1, 1) := by kernel_rfl
/-- a row of bytes that was made, filled with a text, and read as a string -/
theorem clone_steps (s : ByteArray) (w : World) (hlim : s.size ≤ 1099511627776) (h0 : s.size ≠ 0) :
    ∃ (M Y : Array Value), (∀ W : World, (Instr.makeSlice 51 (.int .i64 (s.size : Int)) (.int .i64 (s.size : Int))).run Try.prog W = .ok (.slice (some ⟨W.heap.size, 0, none⟩) s.size s.size) (W.alloc (.cells M 5))) ∧
      (Builtin.copy_ #[51, 9] 3 #[.slice (some ⟨w.heap.size, 0, none⟩) s.size s.size, .string s]).run Try.prog (w.alloc (.cells M 5)) = .ok (goInt s.size) ((w.alloc (.cells M 5)).setRow w.heap.size Y) ∧
      (Builtin.unsafeString_ #[92, 3] 9 #[.pointer (some ⟨w.heap.size, 0, none⟩), .int .i64 (s.size : Int)]).run Try.prog ((w.alloc (.cells M 5)).setRow w.heap.size Y) = .ok (.string s) (((w.alloc (.cells M 5)).setRow w.heap.size Y).freeze ⟨w.heap.size, 0, none⟩ s.size) ∧
      Below w.heap.size w (((w.alloc (.cells M 5)).setRow w.heap.size Y).freeze ⟨w.heap.size, 0, none⟩ s.size) := by
  obtain ⟨i0, hi, hz0, hz1, hz2⟩ := info_parts infoU8c
  have hinfo : (Try.prog.info? 5).map (·.size) = some 1 := by rw [hi]; simp [hz1]
  have hM : (madeCells (Value.int .u8 0).cells (s.size * 1)).size = s.size := by rw [size_madeCells]; simp
  have hYl : ((madeCells (Value.int .u8 0).cells (s.size * 1)).toList.take 0 ++ Lib.byteCells s.data.toList ++ (madeCells (Value.int .u8 0).cells (s.size * 1)).toList.drop (0 + s.size)) = Lib.byteCells s.data.toList := by
    rw [List.take_zero, List.nil_append, List.drop_of_length_le (by rw [Array.length_toList, hM]; omega), List.append_nil]
  refine ⟨madeCells (Value.int .u8 0).cells (s.size * 1), (Lib.byteCells s.data.toList).toArray, fun W => ?_, ?_, ?_, ?_⟩
  · have h := run_make (P := Try.prog) W 51 5 i0 (.int .u8 0) Try.underlying51 hi hz0 .i64 .i64 (s.size : Int) (s.size : Int) (by omega) (by omega) (by rw [hz2]; omega) (by omega)
    simpa [hz1] using h
  · have h := Lib.run_copy_row_string (P := Try.prog) (w.alloc (.cells (madeCells (Value.int .u8 0).cells (s.size * 1)) 5)) 51 9 3 5 w.heap.size 0 s.size s.size s _ 5 Try.underlying51 hinfo (heap_alloc_new w _) (Nat.le_refl _) (by rw [hM]; omega)
    rw [hYl] at h
    exact h
  · have hg : ((w.alloc (.cells (madeCells (Value.int .u8 0).cells (s.size * 1)) 5)).setRow w.heap.size (Lib.byteCells s.data.toList).toArray).heap[w.heap.size]? = some (.cells (Lib.byteCells s.data.toList).toArray 5 (0, 0)) := setRow_heap _ _ _ _ 5 (0, 0) (heap_alloc_new w _)
    have hs : (Lib.byteCells s.data.toList).toArray.size = s.size := by rw [List.size_toArray, Lib.byteCells_length, ← Lib.size_eq]
    have h := Lib.run_unsafeString_row (P := Try.prog) _ 92 3 9 5 Try.underlying92 (by kernel_rfl) w.heap.size s.size (by unfold World.shape?; rw [hg]; show some (_, (Lib.byteCells s.data.toList).toArray.size) = _; rw [hs]) s.data.toList (fun e => h0 (by rw [Lib.size_eq, e]; rfl)) (by rw [← Lib.size_eq]; exact Nat.le_refl _) (by rw [← Lib.size_eq]; omega)
      (fun j x hx => Lib.cells_of_row hg s.size j _ (by rw [List.take_of_length_le (by rw [Array.length_toList, hs]; exact Nat.le_refl _)]; simp [Lib.byteCells, hx]))
    rw [← Lib.size_eq] at h
    exact h
  · have hb : Below w.heap.size (w.alloc (.cells (madeCells (Value.int .u8 0).cells (s.size * 1)) 5)) ((w.alloc (.cells (madeCells (Value.int .u8 0).cells (s.size * 1)) 5)).setRow w.heap.size (Lib.byteCells s.data.toList).toArray) := ⟨rfl, rfl, rfl, by simp, fun k hk => setRow_other _ _ _ _ (by omega)⟩
    exact Lib.below_freeze ((((Below.refl _ w).alloc (Nat.le_refl _) _)).trans hb) (p := ⟨w.heap.size, 0, none⟩) (Nat.le_refl _) _
set_option maxHeartbeats 1000000 in
theorem clone_in (s : ByteArray) (w : World) (hlim : s.size ≤ 1099511627776) :
    Calls Try.prog 53 #[.string s] w fun e w' => e = .returned (.string s) ∧ Below w.heap.size w w' := by
  by_cases h0 : s.size = 0
  · obtain rfl : s = ⟨#[]⟩ := ByteArray.ext (Array.eq_empty_of_size_eq_zero h0)
    go_enter Try.func53, Try.ntmps53
    go_wp2
    go_ret
    exact ⟨rfl, Below.refl _ _⟩
  · obtain ⟨M, Y, hmk, hcp, hus, hb⟩ := clone_steps s w hlim h0
    have d0 : ((s.size : Int) == 0) = false := by simpa [beq_eq_false_iff_ne] using h0
    go_enter Try.func53, Try.ntmps53
    go_wp2
    go_ret
    exact ⟨rfl, hb⟩
theorem clone_any (s : ByteArray) (w : World) (hlim : s.size ≤ 1099511627776) :
    Calls Try.prog 52 #[.string s] w fun e w' => e = .returned (.string s) ∧ Below w.heap.size w w' := by
  go_enter Try.func52, Try.ntmps52
  go_wp2_with (go_at_call 53; refine (clone_in s _ hlim).mono ?_; rintro e w1 ⟨rfl, hb1⟩)
  go_ret
  exact ⟨rfl, hb1⟩
end Go.Proofs.Ytaodmdoagngdnaa
