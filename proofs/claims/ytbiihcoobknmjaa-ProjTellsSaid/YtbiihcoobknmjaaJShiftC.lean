/- What shift's Put and Get and the document's own answers to them return, as plain bytes and numbers. Conditions: the arguments are values of their kinds; what is taken from is no longer than a string may be. -/
import Derived.Test.YtbiihcoobknmjaaGb
import Derived.Test.YtbiihcoobknmjaaJNumB
import Derived.Laws.BytesArg
import Derived.LoopN
import Derived.Handy
set_option linter.unusedVariables false
namespace Go.Proofs.Ytbiihcoobknmjaa
open Go.RowKit

/-- the n lowest bytes of a number, the highest of them first -/
def putI (v : Int) : Nat → List Int
  | 0 => []
  | n + 1 => v / 256 ^ n % 256 :: putI v n
def putS (v : Int) (n : Nat) : ByteArray := strOfNums (putI v n)
def putR (v n : Int) : ByteArray := if 0 ≤ n ∧ n ≤ 8 then putS v n.toNat else ⟨#[]⟩

theorem conv_new (w : World) (xs : List Int) (c : Nat) :
    (convert 73 9 (.slice (some ⟨w.heap.size, 0, none⟩) xs.length c)).run Try.prog (w.alloc (.cells (xs.map (Value.int .u8)).toArray 5)) = .ok (.string (strOfNums xs)) (w.alloc (.cells (xs.map (Value.int .u8)).toArray 5)) := by
  refine run_convert_bytes_arg _ 73 5 Try.underlying73 Try.underlying5 w.heap.size 0 xs.length c xs rfl ?_ 9 Try.underlying9
  intro i hi
  rw [World.cell?_alloc_new, Nat.zero_add]
  simp [hi]
theorem putI_0 (v : Int) : putI v 0 = [] := by simp [putI]
theorem putN_0 (v : Int) : putI v 0 = [] := by simp [putI]
theorem putI_1 (v : Int) : putI v 1 = [v % 256] := by simp [putI]
theorem putN_1 (v : Int) : putI v 1 = [v % 256] := by simp [putI]
theorem putI_2 (v : Int) : putI v 2 = [v / 256 % 256, v % 256] := by simp [putI]
theorem putN_2 (v : Int) : putI v 2 = [v / 256 % 256, v % 256] := by simp [putI]
theorem putI_3 (v : Int) : putI v 3 = [v / 65536 % 256, v / 256 % 256, v % 256] := by simp [putI]
theorem putN_3 (v : Int) : putI v 3 = [v / 256 / 256 % 256, v / 256 % 256, v % 256] := by simp [putI, Int.ediv_ediv_of_nonneg]
theorem putI_4 (v : Int) : putI v 4 = [v / 16777216 % 256, v / 65536 % 256, v / 256 % 256, v % 256] := by simp [putI]
theorem putN_4 (v : Int) : putI v 4 = [v / 256 / 256 / 256 % 256, v / 256 / 256 % 256, v / 256 % 256, v % 256] := by simp [putI, Int.ediv_ediv_of_nonneg]
theorem putI_5 (v : Int) : putI v 5 = [v / 4294967296 % 256, v / 16777216 % 256, v / 65536 % 256, v / 256 % 256, v % 256] := by simp [putI]
theorem putN_5 (v : Int) : putI v 5 = [v / 256 / 256 / 256 / 256 % 256, v / 256 / 256 / 256 % 256, v / 256 / 256 % 256, v / 256 % 256, v % 256] := by simp [putI, Int.ediv_ediv_of_nonneg]
theorem putI_6 (v : Int) : putI v 6 = [v / 1099511627776 % 256, v / 4294967296 % 256, v / 16777216 % 256, v / 65536 % 256, v / 256 % 256, v % 256] := by simp [putI]
theorem putN_6 (v : Int) : putI v 6 = [v / 256 / 256 / 256 / 256 / 256 % 256, v / 256 / 256 / 256 / 256 % 256, v / 256 / 256 / 256 % 256, v / 256 / 256 % 256, v / 256 % 256, v % 256] := by simp [putI, Int.ediv_ediv_of_nonneg]
theorem putI_7 (v : Int) : putI v 7 = [v / 281474976710656 % 256, v / 1099511627776 % 256, v / 4294967296 % 256, v / 16777216 % 256, v / 65536 % 256, v / 256 % 256, v % 256] := by simp [putI]
theorem putN_7 (v : Int) : putI v 7 = [v / 256 / 256 / 256 / 256 / 256 / 256 % 256, v / 256 / 256 / 256 / 256 / 256 % 256, v / 256 / 256 / 256 / 256 % 256, v / 256 / 256 / 256 % 256, v / 256 / 256 % 256, v / 256 % 256, v % 256] := by simp [putI, Int.ediv_ediv_of_nonneg]
theorem putI_8 (v : Int) : putI v 8 = [v / 72057594037927936 % 256, v / 281474976710656 % 256, v / 1099511627776 % 256, v / 4294967296 % 256, v / 16777216 % 256, v / 65536 % 256, v / 256 % 256, v % 256] := by simp [putI]
theorem putN_8 (v : Int) : putI v 8 = [v / 256 / 256 / 256 / 256 / 256 / 256 / 256 % 256, v / 256 / 256 / 256 / 256 / 256 / 256 % 256, v / 256 / 256 / 256 / 256 / 256 % 256, v / 256 / 256 / 256 / 256 % 256, v / 256 / 256 / 256 % 256, v / 256 / 256 % 256, v / 256 % 256, v % 256] := by simp [putI, Int.ediv_ediv_of_nonneg]
theorem putB_8 (v : Int) (hv : U64 v) : putI v 8 = [v / 72057594037927936, v / 281474976710656 % 256, v / 1099511627776 % 256, v / 4294967296 % 256, v / 16777216 % 256, v / 65536 % 256, v / 256 % 256, v % 256] := by rw [putI_8, Int.emod_eq_of_lt (Int.ediv_nonneg hv.1 (by decide)) (by have := hv.2; omega)]
set_option maxHeartbeats 1000000 in
theorem put_0 (v : Int) (hv : U64 v) (w : World) :
    Calls Try.prog 77 #[.int .u64 v, .int .i64 0] w fun e w' => e = .returned (.string (putS v 0)) ∧ Below w.heap.size w w' := by
  have h0 := hv.lo
  have hb : v ≤ 18446744073709551615 := by have := hv.2; omega
  have hmk : ∀ w, (Instr.makeSlice 73 (.int .i64 0) (.int .i64 0)).run Try.prog w = .ok (.slice (some ⟨w.heap.size, 0, none⟩) 0 0) (w.alloc (.cells #[] 5)) := fun _ => by kernel_rfl
  have hcv : (convert 73 9 (.slice (some ⟨w.heap.size, 0, none⟩) 0 0)).run Try.prog (w.alloc (.cells #[] 5)) = .ok (.string (strOfNums [])) (w.alloc (.cells #[] 5)) := conv_new w [] 0
  have H := Lib.hid (show putS v 0 = strOfNums [] by unfold putS; rw [putI_0])
  go_enter Try.func77, Try.ntmps77
  go_wp2
  go_rounds 1
  go_ret
  rw [H.out]
  exact ⟨rfl, (Below.refl _ _).alloc (Nat.le_refl _) _⟩
set_option maxHeartbeats 1000000 in
theorem put_1 (v : Int) (hv : U64 v) (w : World) :
    Calls Try.prog 77 #[.int .u64 v, .int .i64 1] w fun e w' => e = .returned (.string (putS v 1)) ∧ Below w.heap.size w w' := by
  have h0 := hv.lo
  have hb : v ≤ 18446744073709551615 := by have := hv.2; omega
  have hmk : ∀ w, (Instr.makeSlice 73 (.int .i64 1) (.int .i64 1)).run Try.prog w = .ok (.slice (some ⟨w.heap.size, 0, none⟩) 1 1) (w.alloc (.cells #[.int .u8 0] 5)) := fun _ => by kernel_rfl
  have hcv : ∀ a : Int, (convert 73 9 (.slice (some ⟨w.heap.size, 0, none⟩) 1 1)).run Try.prog (w.alloc (.cells #[.int .u8 a] 5)) = .ok (.string (strOfNums [a])) (w.alloc (.cells #[.int .u8 a] 5)) := fun a => conv_new w [a] 1
  have H := Lib.hid (show putS v 1 = strOfNums [v % 256] by unfold putS; rw [putI_1])
  go_enter Try.func77, Try.ntmps77
  go_wp2
  go_rounds 2
  go_ret
  rw [H.out]
  exact ⟨rfl, (Below.refl _ _).alloc (Nat.le_refl _) _⟩
set_option maxHeartbeats 1000000 in
theorem put_2 (v : Int) (hv : U64 v) (w : World) :
    Calls Try.prog 77 #[.int .u64 v, .int .i64 2] w fun e w' => e = .returned (.string (putS v 2)) ∧ Below w.heap.size w w' := by
  have h0 := hv.lo
  have hb : v ≤ 18446744073709551615 := by have := hv.2; omega
  have hmk : ∀ w, (Instr.makeSlice 73 (.int .i64 2) (.int .i64 2)).run Try.prog w = .ok (.slice (some ⟨w.heap.size, 0, none⟩) 2 2) (w.alloc (.cells #[.int .u8 0, .int .u8 0] 5)) := fun _ => by kernel_rfl
  have hcv : ∀ a b : Int, (convert 73 9 (.slice (some ⟨w.heap.size, 0, none⟩) 2 2)).run Try.prog (w.alloc (.cells #[.int .u8 a, .int .u8 b] 5)) = .ok (.string (strOfNums [a, b])) (w.alloc (.cells #[.int .u8 a, .int .u8 b] 5)) := fun a b => conv_new w [a, b] 2
  have H := Lib.hid (show putS v 2 = strOfNums [v / 256 % 256, v % 256] by unfold putS; rw [putI_2])
  go_enter Try.func77, Try.ntmps77
  go_wp2
  go_rounds 3
  go_ret
  rw [H.out]
  exact ⟨rfl, (Below.refl _ _).alloc (Nat.le_refl _) _⟩
set_option maxHeartbeats 1000000 in
theorem put_3 (v : Int) (hv : U64 v) (w : World) :
    Calls Try.prog 77 #[.int .u64 v, .int .i64 3] w fun e w' => e = .returned (.string (putS v 3)) ∧ Below w.heap.size w w' := by
  have h0 := hv.lo
  have hb : v ≤ 18446744073709551615 := by have := hv.2; omega
  have hmk : ∀ w, (Instr.makeSlice 73 (.int .i64 3) (.int .i64 3)).run Try.prog w = .ok (.slice (some ⟨w.heap.size, 0, none⟩) 3 3) (w.alloc (.cells #[.int .u8 0, .int .u8 0, .int .u8 0] 5)) := fun _ => by kernel_rfl
  have hcv : ∀ a b c : Int, (convert 73 9 (.slice (some ⟨w.heap.size, 0, none⟩) 3 3)).run Try.prog (w.alloc (.cells #[.int .u8 a, .int .u8 b, .int .u8 c] 5)) = .ok (.string (strOfNums [a, b, c])) (w.alloc (.cells #[.int .u8 a, .int .u8 b, .int .u8 c] 5)) := fun a b c => conv_new w [a, b, c] 3
  have H := Lib.hid (show putS v 3 = strOfNums [v / 65536 % 256, v / 256 % 256, v % 256] by unfold putS; rw [putI_3])
  go_enter Try.func77, Try.ntmps77
  go_wp2
  go_rounds 4
  go_ret
  rw [H.out]
  exact ⟨rfl, (Below.refl _ _).alloc (Nat.le_refl _) _⟩
set_option maxHeartbeats 1000000 in
theorem put_4 (v : Int) (hv : U64 v) (w : World) :
    Calls Try.prog 77 #[.int .u64 v, .int .i64 4] w fun e w' => e = .returned (.string (putS v 4)) ∧ Below w.heap.size w w' := by
  have h0 := hv.lo
  have hb : v ≤ 18446744073709551615 := by have := hv.2; omega
  have hmk : ∀ w, (Instr.makeSlice 73 (.int .i64 4) (.int .i64 4)).run Try.prog w = .ok (.slice (some ⟨w.heap.size, 0, none⟩) 4 4) (w.alloc (.cells #[.int .u8 0, .int .u8 0, .int .u8 0, .int .u8 0] 5)) := fun _ => by kernel_rfl
  have hcv : ∀ a b c d : Int, (convert 73 9 (.slice (some ⟨w.heap.size, 0, none⟩) 4 4)).run Try.prog (w.alloc (.cells #[.int .u8 a, .int .u8 b, .int .u8 c, .int .u8 d] 5)) = .ok (.string (strOfNums [a, b, c, d])) (w.alloc (.cells #[.int .u8 a, .int .u8 b, .int .u8 c, .int .u8 d] 5)) := fun a b c d => conv_new w [a, b, c, d] 4
  have H := Lib.hid (show putS v 4 = strOfNums [v / 16777216 % 256, v / 65536 % 256, v / 256 % 256, v % 256] by unfold putS; rw [putI_4])
  go_enter Try.func77, Try.ntmps77
  go_wp2
  go_rounds 5
  go_ret
  rw [H.out]
  exact ⟨rfl, (Below.refl _ _).alloc (Nat.le_refl _) _⟩
set_option maxHeartbeats 1000000 in
theorem put_5 (v : Int) (hv : U64 v) (w : World) :
    Calls Try.prog 77 #[.int .u64 v, .int .i64 5] w fun e w' => e = .returned (.string (putS v 5)) ∧ Below w.heap.size w w' := by
  have h0 := hv.lo
  have hb : v ≤ 18446744073709551615 := by have := hv.2; omega
  have hmk : ∀ w, (Instr.makeSlice 73 (.int .i64 5) (.int .i64 5)).run Try.prog w = .ok (.slice (some ⟨w.heap.size, 0, none⟩) 5 5) (w.alloc (.cells #[.int .u8 0, .int .u8 0, .int .u8 0, .int .u8 0, .int .u8 0] 5)) := fun _ => by kernel_rfl
  have hcv : ∀ a b c d e : Int, (convert 73 9 (.slice (some ⟨w.heap.size, 0, none⟩) 5 5)).run Try.prog (w.alloc (.cells #[.int .u8 a, .int .u8 b, .int .u8 c, .int .u8 d, .int .u8 e] 5)) = .ok (.string (strOfNums [a, b, c, d, e])) (w.alloc (.cells #[.int .u8 a, .int .u8 b, .int .u8 c, .int .u8 d, .int .u8 e] 5)) := fun a b c d e => conv_new w [a, b, c, d, e] 5
  have H := Lib.hid (show putS v 5 = strOfNums [v / 4294967296 % 256, v / 16777216 % 256, v / 65536 % 256, v / 256 % 256, v % 256] by unfold putS; rw [putI_5])
  go_enter Try.func77, Try.ntmps77
  go_wp2
  go_rounds 6
  go_ret
  rw [H.out]
  exact ⟨rfl, (Below.refl _ _).alloc (Nat.le_refl _) _⟩
set_option maxHeartbeats 1000000 in
theorem put_6 (v : Int) (hv : U64 v) (w : World) :
    Calls Try.prog 77 #[.int .u64 v, .int .i64 6] w fun e w' => e = .returned (.string (putS v 6)) ∧ Below w.heap.size w w' := by
  have h0 := hv.lo
  have hb : v ≤ 18446744073709551615 := by have := hv.2; omega
  have hmk : ∀ w, (Instr.makeSlice 73 (.int .i64 6) (.int .i64 6)).run Try.prog w = .ok (.slice (some ⟨w.heap.size, 0, none⟩) 6 6) (w.alloc (.cells #[.int .u8 0, .int .u8 0, .int .u8 0, .int .u8 0, .int .u8 0, .int .u8 0] 5)) := fun _ => by kernel_rfl
  have hcv : ∀ a b c d e f : Int, (convert 73 9 (.slice (some ⟨w.heap.size, 0, none⟩) 6 6)).run Try.prog (w.alloc (.cells #[.int .u8 a, .int .u8 b, .int .u8 c, .int .u8 d, .int .u8 e, .int .u8 f] 5)) = .ok (.string (strOfNums [a, b, c, d, e, f])) (w.alloc (.cells #[.int .u8 a, .int .u8 b, .int .u8 c, .int .u8 d, .int .u8 e, .int .u8 f] 5)) := fun a b c d e f => conv_new w [a, b, c, d, e, f] 6
  have H := Lib.hid (show putS v 6 = strOfNums [v / 1099511627776 % 256, v / 4294967296 % 256, v / 16777216 % 256, v / 65536 % 256, v / 256 % 256, v % 256] by unfold putS; rw [putI_6])
  go_enter Try.func77, Try.ntmps77
  go_wp2
  go_rounds 7
  go_ret
  rw [H.out]
  exact ⟨rfl, (Below.refl _ _).alloc (Nat.le_refl _) _⟩
set_option maxHeartbeats 1000000 in
theorem put_7 (v : Int) (hv : U64 v) (w : World) :
    Calls Try.prog 77 #[.int .u64 v, .int .i64 7] w fun e w' => e = .returned (.string (putS v 7)) ∧ Below w.heap.size w w' := by
  have h0 := hv.lo
  have hb : v ≤ 18446744073709551615 := by have := hv.2; omega
  have hmk : ∀ w, (Instr.makeSlice 73 (.int .i64 7) (.int .i64 7)).run Try.prog w = .ok (.slice (some ⟨w.heap.size, 0, none⟩) 7 7) (w.alloc (.cells #[.int .u8 0, .int .u8 0, .int .u8 0, .int .u8 0, .int .u8 0, .int .u8 0, .int .u8 0] 5)) := fun _ => by kernel_rfl
  have hcv : ∀ a b c d e f g : Int, (convert 73 9 (.slice (some ⟨w.heap.size, 0, none⟩) 7 7)).run Try.prog (w.alloc (.cells #[.int .u8 a, .int .u8 b, .int .u8 c, .int .u8 d, .int .u8 e, .int .u8 f, .int .u8 g] 5)) = .ok (.string (strOfNums [a, b, c, d, e, f, g])) (w.alloc (.cells #[.int .u8 a, .int .u8 b, .int .u8 c, .int .u8 d, .int .u8 e, .int .u8 f, .int .u8 g] 5)) := fun a b c d e f g => conv_new w [a, b, c, d, e, f, g] 7
  have H := Lib.hid (show putS v 7 = strOfNums [v / 281474976710656 % 256, v / 1099511627776 % 256, v / 4294967296 % 256, v / 16777216 % 256, v / 65536 % 256, v / 256 % 256, v % 256] by unfold putS; rw [putI_7])
  go_enter Try.func77, Try.ntmps77
  go_wp2
  go_rounds 8
  go_ret
  rw [H.out]
  exact ⟨rfl, (Below.refl _ _).alloc (Nat.le_refl _) _⟩
set_option maxHeartbeats 1000000 in
theorem put_8 (v : Int) (hv : U64 v) (w : World) :
    Calls Try.prog 77 #[.int .u64 v, .int .i64 8] w fun e w' => e = .returned (.string (putS v 8)) ∧ Below w.heap.size w w' := by
  have h0 := hv.lo
  have hb : v ≤ 18446744073709551615 := by have := hv.2; omega
  have hmk : ∀ w, (Instr.makeSlice 73 (.int .i64 8) (.int .i64 8)).run Try.prog w = .ok (.slice (some ⟨w.heap.size, 0, none⟩) 8 8) (w.alloc (.cells #[.int .u8 0, .int .u8 0, .int .u8 0, .int .u8 0, .int .u8 0, .int .u8 0, .int .u8 0, .int .u8 0] 5)) := fun _ => by kernel_rfl
  have hcv : ∀ a b c d e f g h : Int, (convert 73 9 (.slice (some ⟨w.heap.size, 0, none⟩) 8 8)).run Try.prog (w.alloc (.cells #[.int .u8 a, .int .u8 b, .int .u8 c, .int .u8 d, .int .u8 e, .int .u8 f, .int .u8 g, .int .u8 h] 5)) = .ok (.string (strOfNums [a, b, c, d, e, f, g, h])) (w.alloc (.cells #[.int .u8 a, .int .u8 b, .int .u8 c, .int .u8 d, .int .u8 e, .int .u8 f, .int .u8 g, .int .u8 h] 5)) := fun a b c d e f g h => conv_new w [a, b, c, d, e, f, g, h] 8
  have H := Lib.hid (show putS v 8 = strOfNums [v / 72057594037927936, v / 281474976710656 % 256, v / 1099511627776 % 256, v / 4294967296 % 256, v / 16777216 % 256, v / 65536 % 256, v / 256 % 256, v % 256] by unfold putS; rw [putB_8 v hv])
  go_enter Try.func77, Try.ntmps77
  go_wp2
  go_rounds 9
  go_ret
  rw [H.out]
  exact ⟨rfl, (Below.refl _ _).alloc (Nat.le_refl _) _⟩
set_option maxHeartbeats 1000000 in
theorem refPut_0 (v : Int) (hv : U64 v) (w : World) :
    Calls Try.prog 50 #[.int .u64 v, .int .i64 0] w fun e w' => e = .returned (.string (putS v 0)) ∧ Below w.heap.size w w' := by
  have h0 := hv.lo
  have hb : v ≤ 18446744073709551615 := by have := hv.2; omega
  have hmk : ∀ w, (Instr.makeSlice 73 (.int .i64 0) (.int .i64 0)).run Try.prog w = .ok (.slice (some ⟨w.heap.size, 0, none⟩) 0 0) (w.alloc (.cells #[] 5)) := fun _ => by kernel_rfl
  have hcv : (convert 73 9 (.slice (some ⟨w.heap.size, 0, none⟩) 0 0)).run Try.prog (w.alloc (.cells #[] 5)) = .ok (.string (strOfNums [])) (w.alloc (.cells #[] 5)) := conv_new w [] 0
  have H := Lib.hid (show putS v 0 = strOfNums [] by unfold putS; rw [putN_0])
  go_enter Try.func50, Try.ntmps50
  go_wp2
  go_rounds 1
  go_ret
  rw [H.out]
  exact ⟨rfl, (Below.refl _ _).alloc (Nat.le_refl _) _⟩
set_option maxHeartbeats 1000000 in
theorem refPut_1 (v : Int) (hv : U64 v) (w : World) :
    Calls Try.prog 50 #[.int .u64 v, .int .i64 1] w fun e w' => e = .returned (.string (putS v 1)) ∧ Below w.heap.size w w' := by
  have h0 := hv.lo
  have hb : v ≤ 18446744073709551615 := by have := hv.2; omega
  have hmk : ∀ w, (Instr.makeSlice 73 (.int .i64 1) (.int .i64 1)).run Try.prog w = .ok (.slice (some ⟨w.heap.size, 0, none⟩) 1 1) (w.alloc (.cells #[.int .u8 0] 5)) := fun _ => by kernel_rfl
  have hcv : ∀ a : Int, (convert 73 9 (.slice (some ⟨w.heap.size, 0, none⟩) 1 1)).run Try.prog (w.alloc (.cells #[.int .u8 a] 5)) = .ok (.string (strOfNums [a])) (w.alloc (.cells #[.int .u8 a] 5)) := fun a => conv_new w [a] 1
  have H := Lib.hid (show putS v 1 = strOfNums [v % 256] by unfold putS; rw [putN_1])
  go_enter Try.func50, Try.ntmps50
  go_wp2
  go_rounds 2
  go_ret
  rw [H.out]
  exact ⟨rfl, (Below.refl _ _).alloc (Nat.le_refl _) _⟩
set_option maxHeartbeats 1000000 in
theorem refPut_2 (v : Int) (hv : U64 v) (w : World) :
    Calls Try.prog 50 #[.int .u64 v, .int .i64 2] w fun e w' => e = .returned (.string (putS v 2)) ∧ Below w.heap.size w w' := by
  have h0 := hv.lo
  have hb : v ≤ 18446744073709551615 := by have := hv.2; omega
  have hmk : ∀ w, (Instr.makeSlice 73 (.int .i64 2) (.int .i64 2)).run Try.prog w = .ok (.slice (some ⟨w.heap.size, 0, none⟩) 2 2) (w.alloc (.cells #[.int .u8 0, .int .u8 0] 5)) := fun _ => by kernel_rfl
  have hcv : ∀ a b : Int, (convert 73 9 (.slice (some ⟨w.heap.size, 0, none⟩) 2 2)).run Try.prog (w.alloc (.cells #[.int .u8 a, .int .u8 b] 5)) = .ok (.string (strOfNums [a, b])) (w.alloc (.cells #[.int .u8 a, .int .u8 b] 5)) := fun a b => conv_new w [a, b] 2
  have H := Lib.hid (show putS v 2 = strOfNums [v / 256 % 256, v % 256] by unfold putS; rw [putN_2])
  go_enter Try.func50, Try.ntmps50
  go_wp2
  go_rounds 3
  go_ret
  rw [H.out]
  exact ⟨rfl, (Below.refl _ _).alloc (Nat.le_refl _) _⟩
set_option maxHeartbeats 1000000 in
theorem refPut_3 (v : Int) (hv : U64 v) (w : World) :
    Calls Try.prog 50 #[.int .u64 v, .int .i64 3] w fun e w' => e = .returned (.string (putS v 3)) ∧ Below w.heap.size w w' := by
  have h0 := hv.lo
  have hb : v ≤ 18446744073709551615 := by have := hv.2; omega
  have hmk : ∀ w, (Instr.makeSlice 73 (.int .i64 3) (.int .i64 3)).run Try.prog w = .ok (.slice (some ⟨w.heap.size, 0, none⟩) 3 3) (w.alloc (.cells #[.int .u8 0, .int .u8 0, .int .u8 0] 5)) := fun _ => by kernel_rfl
  have hcv : ∀ a b c : Int, (convert 73 9 (.slice (some ⟨w.heap.size, 0, none⟩) 3 3)).run Try.prog (w.alloc (.cells #[.int .u8 a, .int .u8 b, .int .u8 c] 5)) = .ok (.string (strOfNums [a, b, c])) (w.alloc (.cells #[.int .u8 a, .int .u8 b, .int .u8 c] 5)) := fun a b c => conv_new w [a, b, c] 3
  have H := Lib.hid (show putS v 3 = strOfNums [v / 256 / 256 % 256, v / 256 % 256, v % 256] by unfold putS; rw [putN_3])
  go_enter Try.func50, Try.ntmps50
  go_wp2
  go_rounds 4
  go_ret
  rw [H.out]
  exact ⟨rfl, (Below.refl _ _).alloc (Nat.le_refl _) _⟩
set_option maxHeartbeats 1000000 in
theorem refPut_4 (v : Int) (hv : U64 v) (w : World) :
    Calls Try.prog 50 #[.int .u64 v, .int .i64 4] w fun e w' => e = .returned (.string (putS v 4)) ∧ Below w.heap.size w w' := by
  have h0 := hv.lo
  have hb : v ≤ 18446744073709551615 := by have := hv.2; omega
  have hmk : ∀ w, (Instr.makeSlice 73 (.int .i64 4) (.int .i64 4)).run Try.prog w = .ok (.slice (some ⟨w.heap.size, 0, none⟩) 4 4) (w.alloc (.cells #[.int .u8 0, .int .u8 0, .int .u8 0, .int .u8 0] 5)) := fun _ => by kernel_rfl
  have hcv : ∀ a b c d : Int, (convert 73 9 (.slice (some ⟨w.heap.size, 0, none⟩) 4 4)).run Try.prog (w.alloc (.cells #[.int .u8 a, .int .u8 b, .int .u8 c, .int .u8 d] 5)) = .ok (.string (strOfNums [a, b, c, d])) (w.alloc (.cells #[.int .u8 a, .int .u8 b, .int .u8 c, .int .u8 d] 5)) := fun a b c d => conv_new w [a, b, c, d] 4
  have H := Lib.hid (show putS v 4 = strOfNums [v / 256 / 256 / 256 % 256, v / 256 / 256 % 256, v / 256 % 256, v % 256] by unfold putS; rw [putN_4])
  go_enter Try.func50, Try.ntmps50
  go_wp2
  go_rounds 5
  go_ret
  rw [H.out]
  exact ⟨rfl, (Below.refl _ _).alloc (Nat.le_refl _) _⟩
set_option maxHeartbeats 1000000 in
theorem refPut_5 (v : Int) (hv : U64 v) (w : World) :
    Calls Try.prog 50 #[.int .u64 v, .int .i64 5] w fun e w' => e = .returned (.string (putS v 5)) ∧ Below w.heap.size w w' := by
  have h0 := hv.lo
  have hb : v ≤ 18446744073709551615 := by have := hv.2; omega
  have hmk : ∀ w, (Instr.makeSlice 73 (.int .i64 5) (.int .i64 5)).run Try.prog w = .ok (.slice (some ⟨w.heap.size, 0, none⟩) 5 5) (w.alloc (.cells #[.int .u8 0, .int .u8 0, .int .u8 0, .int .u8 0, .int .u8 0] 5)) := fun _ => by kernel_rfl
  have hcv : ∀ a b c d e : Int, (convert 73 9 (.slice (some ⟨w.heap.size, 0, none⟩) 5 5)).run Try.prog (w.alloc (.cells #[.int .u8 a, .int .u8 b, .int .u8 c, .int .u8 d, .int .u8 e] 5)) = .ok (.string (strOfNums [a, b, c, d, e])) (w.alloc (.cells #[.int .u8 a, .int .u8 b, .int .u8 c, .int .u8 d, .int .u8 e] 5)) := fun a b c d e => conv_new w [a, b, c, d, e] 5
  have H := Lib.hid (show putS v 5 = strOfNums [v / 256 / 256 / 256 / 256 % 256, v / 256 / 256 / 256 % 256, v / 256 / 256 % 256, v / 256 % 256, v % 256] by unfold putS; rw [putN_5])
  go_enter Try.func50, Try.ntmps50
  go_wp2
  go_rounds 6
  go_ret
  rw [H.out]
  exact ⟨rfl, (Below.refl _ _).alloc (Nat.le_refl _) _⟩
set_option maxHeartbeats 1000000 in
theorem refPut_6 (v : Int) (hv : U64 v) (w : World) :
    Calls Try.prog 50 #[.int .u64 v, .int .i64 6] w fun e w' => e = .returned (.string (putS v 6)) ∧ Below w.heap.size w w' := by
  have h0 := hv.lo
  have hb : v ≤ 18446744073709551615 := by have := hv.2; omega
  have hmk : ∀ w, (Instr.makeSlice 73 (.int .i64 6) (.int .i64 6)).run Try.prog w = .ok (.slice (some ⟨w.heap.size, 0, none⟩) 6 6) (w.alloc (.cells #[.int .u8 0, .int .u8 0, .int .u8 0, .int .u8 0, .int .u8 0, .int .u8 0] 5)) := fun _ => by kernel_rfl
  have hcv : ∀ a b c d e f : Int, (convert 73 9 (.slice (some ⟨w.heap.size, 0, none⟩) 6 6)).run Try.prog (w.alloc (.cells #[.int .u8 a, .int .u8 b, .int .u8 c, .int .u8 d, .int .u8 e, .int .u8 f] 5)) = .ok (.string (strOfNums [a, b, c, d, e, f])) (w.alloc (.cells #[.int .u8 a, .int .u8 b, .int .u8 c, .int .u8 d, .int .u8 e, .int .u8 f] 5)) := fun a b c d e f => conv_new w [a, b, c, d, e, f] 6
  have H := Lib.hid (show putS v 6 = strOfNums [v / 256 / 256 / 256 / 256 / 256 % 256, v / 256 / 256 / 256 / 256 % 256, v / 256 / 256 / 256 % 256, v / 256 / 256 % 256, v / 256 % 256, v % 256] by unfold putS; rw [putN_6])
  go_enter Try.func50, Try.ntmps50
  go_wp2
  go_rounds 7
  go_ret
  rw [H.out]
  exact ⟨rfl, (Below.refl _ _).alloc (Nat.le_refl _) _⟩
set_option maxHeartbeats 1000000 in
theorem refPut_7 (v : Int) (hv : U64 v) (w : World) :
    Calls Try.prog 50 #[.int .u64 v, .int .i64 7] w fun e w' => e = .returned (.string (putS v 7)) ∧ Below w.heap.size w w' := by
  have h0 := hv.lo
  have hb : v ≤ 18446744073709551615 := by have := hv.2; omega
  have hmk : ∀ w, (Instr.makeSlice 73 (.int .i64 7) (.int .i64 7)).run Try.prog w = .ok (.slice (some ⟨w.heap.size, 0, none⟩) 7 7) (w.alloc (.cells #[.int .u8 0, .int .u8 0, .int .u8 0, .int .u8 0, .int .u8 0, .int .u8 0, .int .u8 0] 5)) := fun _ => by kernel_rfl
  have hcv : ∀ a b c d e f g : Int, (convert 73 9 (.slice (some ⟨w.heap.size, 0, none⟩) 7 7)).run Try.prog (w.alloc (.cells #[.int .u8 a, .int .u8 b, .int .u8 c, .int .u8 d, .int .u8 e, .int .u8 f, .int .u8 g] 5)) = .ok (.string (strOfNums [a, b, c, d, e, f, g])) (w.alloc (.cells #[.int .u8 a, .int .u8 b, .int .u8 c, .int .u8 d, .int .u8 e, .int .u8 f, .int .u8 g] 5)) := fun a b c d e f g => conv_new w [a, b, c, d, e, f, g] 7
  have H := Lib.hid (show putS v 7 = strOfNums [v / 256 / 256 / 256 / 256 / 256 / 256 % 256, v / 256 / 256 / 256 / 256 / 256 % 256, v / 256 / 256 / 256 / 256 % 256, v / 256 / 256 / 256 % 256, v / 256 / 256 % 256, v / 256 % 256, v % 256] by unfold putS; rw [putN_7])
  go_enter Try.func50, Try.ntmps50
  go_wp2
  go_rounds 8
  go_ret
  rw [H.out]
  exact ⟨rfl, (Below.refl _ _).alloc (Nat.le_refl _) _⟩
set_option maxHeartbeats 1000000 in
theorem refPut_8 (v : Int) (hv : U64 v) (w : World) :
    Calls Try.prog 50 #[.int .u64 v, .int .i64 8] w fun e w' => e = .returned (.string (putS v 8)) ∧ Below w.heap.size w w' := by
  have h0 := hv.lo
  have hb : v ≤ 18446744073709551615 := by have := hv.2; omega
  have hmk : ∀ w, (Instr.makeSlice 73 (.int .i64 8) (.int .i64 8)).run Try.prog w = .ok (.slice (some ⟨w.heap.size, 0, none⟩) 8 8) (w.alloc (.cells #[.int .u8 0, .int .u8 0, .int .u8 0, .int .u8 0, .int .u8 0, .int .u8 0, .int .u8 0, .int .u8 0] 5)) := fun _ => by kernel_rfl
  have hcv : ∀ a b c d e f g h : Int, (convert 73 9 (.slice (some ⟨w.heap.size, 0, none⟩) 8 8)).run Try.prog (w.alloc (.cells #[.int .u8 a, .int .u8 b, .int .u8 c, .int .u8 d, .int .u8 e, .int .u8 f, .int .u8 g, .int .u8 h] 5)) = .ok (.string (strOfNums [a, b, c, d, e, f, g, h])) (w.alloc (.cells #[.int .u8 a, .int .u8 b, .int .u8 c, .int .u8 d, .int .u8 e, .int .u8 f, .int .u8 g, .int .u8 h] 5)) := fun a b c d e f g h => conv_new w [a, b, c, d, e, f, g, h] 8
  have H := Lib.hid (show putS v 8 = strOfNums [v / 256 / 256 / 256 / 256 / 256 / 256 / 256 % 256, v / 256 / 256 / 256 / 256 / 256 / 256 % 256, v / 256 / 256 / 256 / 256 / 256 % 256, v / 256 / 256 / 256 / 256 % 256, v / 256 / 256 / 256 % 256, v / 256 / 256 % 256, v / 256 % 256, v % 256] by unfold putS; rw [putN_8])
  go_enter Try.func50, Try.ntmps50
  go_wp2
  go_rounds 9
  go_ret
  rw [H.out]
  exact ⟨rfl, (Below.refl _ _).alloc (Nat.le_refl _) _⟩
theorem put_any (v n : Int) (hv : U64 v) (w : World) :
    Calls Try.prog 77 #[.int .u64 v, .int .i64 n] w fun e w' => e = .returned (.string (putR v n)) ∧ Below w.heap.size w w' := by
  by_cases h : 0 ≤ n ∧ n ≤ 8
  · have e : putR v n = putS v n.toNat := if_pos h
    rw [e]
    rcases (show n = 0 ∨ n = 1 ∨ n = 2 ∨ n = 3 ∨ n = 4 ∨ n = 5 ∨ n = 6 ∨ n = 7 ∨ n = 8 by omega) with rfl | rfl | rfl | rfl | rfl | rfl | rfl | rfl | rfl
    · exact put_0 v hv w
    · exact put_1 v hv w
    · exact put_2 v hv w
    · exact put_3 v hv w
    · exact put_4 v hv w
    · exact put_5 v hv w
    · exact put_6 v hv w
    · exact put_7 v hv w
    · exact put_8 v hv w
  · have H := Lib.hid (show putR v n = ⟨#[]⟩ from if_neg h)
    by_cases h1 : 0 ≤ n
    · have h2 : ¬ n ≤ 8 := by omega
      clear h
      go_enter Try.func77, Try.ntmps77
      go_wp2
      go_ret
      exact ⟨by rw [H.out]; rfl, Below.refl _ _⟩
    · clear h
      go_enter Try.func77, Try.ntmps77
      go_wp2
      go_ret
      exact ⟨by rw [H.out]; rfl, Below.refl _ _⟩
theorem refPut_any (v n : Int) (hv : U64 v) (w : World) :
    Calls Try.prog 50 #[.int .u64 v, .int .i64 n] w fun e w' => e = .returned (.string (putR v n)) ∧ Below w.heap.size w w' := by
  by_cases h : 0 ≤ n ∧ n ≤ 8
  · have e : putR v n = putS v n.toNat := if_pos h
    rw [e]
    rcases (show n = 0 ∨ n = 1 ∨ n = 2 ∨ n = 3 ∨ n = 4 ∨ n = 5 ∨ n = 6 ∨ n = 7 ∨ n = 8 by omega) with rfl | rfl | rfl | rfl | rfl | rfl | rfl | rfl | rfl
    · exact refPut_0 v hv w
    · exact refPut_1 v hv w
    · exact refPut_2 v hv w
    · exact refPut_3 v hv w
    · exact refPut_4 v hv w
    · exact refPut_5 v hv w
    · exact refPut_6 v hv w
    · exact refPut_7 v hv w
    · exact refPut_8 v hv w
  · have H := Lib.hid (show putR v n = ⟨#[]⟩ from if_neg h)
    by_cases h1 : 0 ≤ n
    · have h2 : ¬ n ≤ 8 := by omega
      clear h
      go_enter Try.func50, Try.ntmps50
      go_wp2
      go_ret
      exact ⟨by rw [H.out]; rfl, Below.refl _ _⟩
    · clear h
      go_enter Try.func50, Try.ntmps50
      go_wp2
      go_ret
      exact ⟨by rw [H.out]; rfl, Below.refl _ _⟩
end Go.Proofs.Ytbiihcoobknmjaa
