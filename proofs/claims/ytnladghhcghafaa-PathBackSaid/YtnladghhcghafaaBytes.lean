/- Plain facts on bytes as lists: joined, cut, alike. No conditions. -/
import Derived.Test.YtnladghhcghafaaBase
namespace Go.Proofs.Ytnladghhcghafaa
open Go.RowKit

def lof (s : ByteArray) : List UInt8 := s.data.toList
def bof (l : List UInt8) : ByteArray := ⟨⟨l⟩⟩
theorem bof_lof (s : ByteArray) : bof (lof s) = s := rfl
theorem lof_bof (l : List UInt8) : lof (bof l) = l := rfl
theorem lof_inj {s t : ByteArray} (h : lof s = lof t) : s = t := ByteArray.ext (Array.toList_inj.1 h)
theorem lof_app (a b : ByteArray) : lof (a ++ b) = lof a ++ lof b := by
  unfold lof
  rw [ByteArray.data_append]
  exact Array.toList_append
theorem lof_size (s : ByteArray) : s.size = (lof s).length := by simp [lof]
theorem lof_ext (s : ByteArray) (a b : Nat) : lof (s.extract a b) = ((lof s).drop a).take (b - a) := by
  unfold lof
  rw [ByteArray.data_extract]
  simp [Array.toList_extract, List.extract]
theorem lof_rest (s : ByteArray) (a : Nat) : lof (s.extract a s.size) = (lof s).drop a := by
  rw [lof_ext, List.take_of_length_le (by rw [List.length_drop, ← lof_size]; exact Nat.le_refl _)]
theorem lof_head (s : ByteArray) (b : Nat) : lof (s.extract 0 b) = (lof s).take b := by rw [lof_ext, List.drop_zero, Nat.sub_zero]
theorem lof_get (s : ByteArray) (i : Nat) (h : i < s.size) : (lof s)[i]? = some s[i] := by
  rw [List.getElem?_eq_getElem (by rw [← lof_size]; exact h)]
  rfl
theorem lof_at (s : ByteArray) (i : Nat) (h : i < s.size) : (lof s)[i]'(by rw [← lof_size]; exact h) = s[i] := rfl
theorem bof_size (l : List UInt8) : (bof l).size = l.length := lof_size _
theorem lof_nil : lof ⟨#[]⟩ = [] := rfl
end Go.Proofs.Ytnladghhcghafaa
