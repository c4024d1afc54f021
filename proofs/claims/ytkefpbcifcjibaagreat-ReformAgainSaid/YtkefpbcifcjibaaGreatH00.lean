/- A short word for Lib.hid. -/
import Derived.Lib.Hide
namespace Go.Proofs.YtkefpbcifcjibaaGreat
open Go.RowKit
theorem Lh{p:Prop}(h:p):Hid p:=Lib.hid h
end Go.Proofs.YtkefpbcifcjibaaGreat
