/- What the document's own Edge returns. Conditions: the object lies where the call was told. -/
import Derived.Test.YtlphffgdnacnkaaPagB
namespace Go.Proofs.Ytlphffgdnacnkaa
open Go.RowKit
set_option maxRecDepth 20000
theorem redge_any (G : Nat → Prop) (w : World) (b : Nat) (p : Ps) (h : RG G w b p) : Calls Try.prog 26 #[.pointer (some ⟨b, 0, none⟩)] w fun e w' => e = .returned (.int .i64 p.edge) ∧ w = w' := by
  obtain ⟨v, h1, h2, _⟩ := h
  obtain ⟨c0, c1, c2, _, _, _⟩ := three_cells h1
  go_enter Try.func26, Try.ntmps26
  go_wp2_with fail
  go_ret
  exact ⟨rfl, rfl⟩
end Go.Proofs.Ytlphffgdnacnkaa
