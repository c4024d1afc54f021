/- crc's sums under plain names. Conditions: a text is no longer than a string may be; sums are numbers of 32 bits. -/
import Derived.Test.YtbfalmbmalmfoaaCrcA
namespace Go.Proofs.Ytbfalmbmalmfoaa
open Go.RowKit
def sumR (s : ByteArray) : Nat := csum s.data.toList
def moreR (x : Nat) (s : ByteArray) : Nat := cmore x s.data.toList
theorem sumR_lt (s : ByteArray) : sumR s < 4294967296 := csum_lt _
theorem moreR_lt {x : Nat} (h : x < 4294967296) (s : ByteArray) : moreR x s < 4294967296 := cflip_lt (cfold_lt (cflip_lt h) _)
theorem sum_r (s : ByteArray) (hs : s.size ≤ maxLen) (w : World) :
    Calls Try.prog 25 #[.string s] w fun e w' => e = .returned (.int .u32 (sumR s : Nat)) ∧ w = w' := sum_any s hs w
theorem more_r (x : Nat) (s : ByteArray) (hx : x < 4294967296) (hs : s.size ≤ maxLen) (w : World) :
    Calls Try.prog 26 #[.int .u32 x, .string s] w fun e w' => e = .returned (.int .u32 (moreR x s : Nat)) ∧ w = w' := more_any x s hx hs w
end Go.Proofs.Ytbfalmbmalmfoaa
