/- What Seal returns, of frame and of the document's own answer. Conditions: the text is no longer than 2^40 bytes. -/
import Derived.Test.YtbfalmbmalmfoaaFrmA
import Derived.Test.YtbfalmbmalmfoaaRefSum
import Derived.Test.YtbfalmbmalmfoaaPutM
namespace Go.Proofs.Ytbfalmbmalmfoaa
open Go.RowKit

/-- the four bytes of a text's length -/
def lenB (s : ByteArray) : ByteArray := putR (s.size : Int) 4
/-- the four bytes of a frame's sum -/
def sumB (s : ByteArray) : ByteArray := putR ((sumR (lenB s ++ s) : Nat) : Int) 4
/-- a text's frame -/
def frR (s : ByteArray) : ByteArray := lenB s ++ sumB s ++ s
theorem lenB_size (s : ByteArray) : (lenB s).size = 4 := putR_len _ 4 (by decide)
theorem sumB_size (s : ByteArray) : (sumB s).size = 4 := putR_len _ 4 (by decide)
theorem frR_size (s : ByteArray) : (frR s).size = 8 + s.size := by
  unfold frR
  rw [ByteArray.size_append, ByteArray.size_append, lenB_size, sumB_size]
theorem put4 (v : Int) (hv : U64 v) (w : World) :
    Calls Try.prog 16 #[.int .u64 v, .int .i64 4] w fun e w' => e = .returned (.string (putR v 4)) ∧ Below w.heap.size w w' := put_any v 4 hv w
theorem refPut4 (v : Int) (hv : U64 v) (w : World) :
    Calls Try.prog 19 #[.int .u64 v, .int .i64 4] w fun e w' => e = .returned (.string (putR v 4)) ∧ Below w.heap.size w w' := refPut_any v 4 hv w

set_option maxHeartbeats 1000000 in
theorem seal_in (s : ByteArray) (hs : s.size ≤ 65536) (w : World) :
    Calls Try.prog 9 #[.string s] w fun e w' => e = .returned (.tuple #[.string (frR s), .int .i64 0]) ∧ Below w.heap.size w w' := by
  have g : ¬ (65536 : Int) < (s.size : Int) := by omega
  have hu : U64 (s.size : Int) := ⟨by omega, by omega⟩
  have hx := sumR_lt (lenB s ++ s)
  have hv : U64 ((sumR (lenB s ++ s) : Nat) : Int) := ⟨by omega, by omega⟩
  have e1 : putR (s.size : Int) 4 = lenB s := rfl
  have e2 : putR ((sumR (lenB s ++ s) : Nat) : Int) 4 = sumB s := rfl
  have L1 := Lib.hid (show (lenB s).size ≤ maxLen by rw [lenB_size]; unfold maxLen; omega)
  have L2 := Lib.hid (show s.size ≤ maxLen by unfold maxLen; omega)
  have L3 := Lib.hid (show (lenB s ++ sumB s ++ s).size ≤ 140737488355328 by rw [ByteArray.size_append, ByteArray.size_append, lenB_size, sumB_size]; omega)
  have c1 := fun w => put4 (s.size : Int) hu w
  have c2 := fun w => put4 ((sumR (lenB s ++ s) : Nat) : Int) hv w
  rw [e1] at c1
  rw [e2] at c2
  clear e1 e2 hu hv hs
  go_enter Try.func9, Try.ntmps9
  go_wp2_with (first | (go_at_call 16; (with_reducible refine (c1 _).mono ?_); rintro e w1 ⟨rfl, hb1⟩) | (go_at_call 17; refine (sumOf_made _ _ _ L1.out L2.out).mono ?_; rintro e w2 ⟨rfl, rfl⟩) | (go_at_call 16; refine (c2 _).mono ?_; rintro e w3 ⟨rfl, hb3⟩) | (go_at_call 18; refine (together_made _ _ _ _ L3.out).mono ?_; rintro e w4 ⟨rfl, hb4⟩))
  go_ret2
  have hb2 := hb1.trans ((((Below.refl _ w1).alloc (Nat.le_refl _) _).trans (hb3.mono (by simp))).mono hb1.size)
  exact ⟨rfl, hb2.trans (hb4.mono hb2.size)⟩
set_option maxHeartbeats 1000000 in
theorem refSeal_in (s : ByteArray) (hs : s.size ≤ 65536) (w : World) :
    Calls Try.prog 10 #[.string s] w fun e w' => e = .returned (.tuple #[.string (frR s), .int .i64 0]) ∧ Below w.heap.size w w' := by
  have g : ¬ (65536 : Int) < (s.size : Int) := by omega
  have hu : U64 (s.size : Int) := ⟨by omega, by omega⟩
  have hx := sumR_lt (lenB s ++ s)
  have hv : U64 ((sumR (lenB s ++ s) : Nat) : Int) := ⟨by omega, by omega⟩
  have e1 : putR (s.size : Int) 4 = lenB s := rfl
  have e2 : putR ((sumR (lenB s ++ s) : Nat) : Int) 4 = sumB s := rfl
  have L1 := Lib.hid (show (lenB s ++ s).size ≤ maxLen by rw [ByteArray.size_append, lenB_size]; unfold maxLen; omega)
  have c1 := fun w => refPut4 (s.size : Int) hu w
  have c2 := fun w => refPut4 ((sumR (lenB s ++ s) : Nat) : Int) hv w
  rw [e1] at c1
  rw [e2] at c2
  have k1 : (lenB s).size ≤ 4 := Nat.le_of_eq (lenB_size s)
  have k2 : (sumB s).size ≤ 4 := Nat.le_of_eq (sumB_size s)
  clear e1 e2 hu hv
  go_enter Try.func10, Try.ntmps10
  go_wp2_with (first | (go_at_call 19; (with_reducible refine (c1 _).mono ?_); rintro e w1 ⟨rfl, hb1⟩) | (go_at_call 20; refine (rsum_any _ L1.out _).mono ?_; rintro e w2 ⟨rfl, rfl⟩) | (go_at_call 19; refine (c2 _).mono ?_; rintro e w3 ⟨rfl, hb3⟩))
  go_ret2
  exact ⟨rfl, hb1.trans (hb3.mono hb1.size)⟩
theorem seal_out (s : ByteArray) (hs : 65536 < s.size) (w : World) :
    Calls Try.prog 9 #[.string s] w fun e w' => e = .returned (.tuple #[.string ⟨#[]⟩, .int .i64 2]) ∧ w = w' := by
  have g : (65536 : Int) < (s.size : Int) := by omega
  clear hs
  go_enter Try.func9, Try.ntmps9
  go_wp2_with fail
  go_ret2
  exact ⟨rfl, rfl⟩
theorem refSeal_out (s : ByteArray) (hs : 65536 < s.size) (w : World) :
    Calls Try.prog 10 #[.string s] w fun e w' => e = .returned (.tuple #[.string ⟨#[]⟩, .int .i64 2]) ∧ w = w' := by
  have g : (65536 : Int) < (s.size : Int) := by omega
  clear hs
  go_enter Try.func10, Try.ntmps10
  go_wp2_with fail
  go_ret2
  exact ⟨rfl, rfl⟩
/-- what Seal tells -/
def sealR (s : ByteArray) : ByteArray × Int := if s.size ≤ 65536 then (frR s, 0) else (⟨#[]⟩, 2)
theorem seal_any (s : ByteArray) (w : World) :
    Calls Try.prog 9 #[.string s] w fun e w' => e = .returned (.tuple #[.string (sealR s).1, .int .i64 (sealR s).2]) ∧ Below w.heap.size w w' := by
  unfold sealR
  split
  · next h => exact seal_in s h w
  · next h => exact (seal_out s (by omega) w).mono fun _ _ ⟨he, hw⟩ => ⟨he, hw ▸ Below.refl _ _⟩
theorem refSeal_any (s : ByteArray) (w : World) :
    Calls Try.prog 10 #[.string s] w fun e w' => e = .returned (.tuple #[.string (sealR s).1, .int .i64 (sealR s).2]) ∧ Below w.heap.size w w' := by
  unfold sealR
  split
  · next h => exact refSeal_in s h w
  · next h => exact (refSeal_out s (by omega) w).mono fun _ _ ⟨he, hw⟩ => ⟨he, hw ▸ Below.refl _ _⟩
end Go.Proofs.Ytbfalmbmalmfoaa
