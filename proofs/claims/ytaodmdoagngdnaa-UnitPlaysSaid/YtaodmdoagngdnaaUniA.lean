/- The document's own unit in memory, and what its New makes. No conditions but those that the statements name. -/
import Derived.Test.YtaodmdoagngdnaaUniM
import Derived.Test.YtaodmdoagngdnaaAskB
import Derived.Test.YtaodmdoagngdnaaSide
import Derived.Test.YtaodmdoagngdnaaPagE
import Derived.Test.YtaodmdoagngdnaaPagF
namespace Go.Proofs.Ytaodmdoagngdnaa
set_option linter.unusedVariables false
open Go.RowKit
set_option maxRecDepth 20000
def ptrU (b : Nat) : Value := .pointer (some ⟨b, 0, none⟩)
/-- block r is the document's unit, block q its pages -/
def RU (r q : Nat) (G : Nat → Prop) (w : World) (u : Us) : Prop :=
  (u.p.Ok ∧ i64w u.epoch) ∧ w.heap[r]? = some (.cells #[ptrU q, .int .i64 u.epoch, .bool u.down] 45 (0, 0)) ∧ G r ∧ ∃ F : Nat → Prop, RG F w q u.p ∧ (∀ k, F k → G k) ∧ ¬ F r ∧ ∀ k, G k → F k ∨ k = r
theorem rg_lt {G : Nat → Prop} {w : World} {b : Nat} {p : Ps} (h : RG G w b p) : ∀ k, G k → k < w.heap.size := by
  obtain ⟨v, _, _, _, _, h5⟩ := h
  exact h5
theorem ru_thing (r q : Nat) : Thing (RU r q) where
  lt := by
    rintro G w u ⟨_, h1, _, F, h3, _, _, h6⟩ k hk
    rcases h6 k hk with h | h
    · exact rg_lt h3 k h
    · rw [h]; exact lt_of_block h1
  keep := by
    rintro G S w w' u ⟨h0, h1, h2, F, h3, h4, h5, h6⟩ hk hS
    exact ⟨h0, hk.heap (hS r h2) h1, h2, F, h3.keep hk (fun k hf => hS k (h4 k hf)), h4, h5, h6⟩
theorem ru_new_yes (room : Int) (w : World) (h : 1 ≤ room ∧ room ≤ 4096) :
    Calls Try.prog 8 #[.int .i64 room] w fun e w' => ∃ (r q : Nat) (G : Nat → Prop), e = .returned (.tuple #[ptrU r, .int .i64 0]) ∧ RU r q G w' (newU room) ∧ (∀ k, G k → w.heap.size ≤ k) ∧ Below w.heap.size w w' := by
  have CN := Lib.hid (rnew_yes room w h)
  have HN := Lib.hid (newP_ok h)
  go_enter Try.func8, Try.ntmps8
  go_wp2_with (go_at_call 26; refine CN.out.mono ?_; rintro e w1 ⟨rfl, hg1, hb1⟩; have HG := Lib.hid hg1; have HB := Lib.hid hb1; clear hg1 hb1)
  go_ret2
  have hlt := rg_lt HG.out w.heap.size rfl
  have hb2 : Below w1.heap.size w1 (w1.alloc (.cells #[.pointer (some ⟨w.heap.size, 0, none⟩), .int .i64 0, .bool false] 45)) := (Below.refl _ _).alloc (Nat.le_refl _) _
  refine ⟨w1.heap.size, w.heap.size, fun k => k = w.heap.size ∨ k = w1.heap.size, rfl, ⟨⟨HN.out, WalkArith.wf_i64 (n := 0) (by decide)⟩, heap_alloc_new _ _, .inr rfl, fun k => k = w.heap.size, HG.out.below hb2, fun k hk => .inl hk, by omega, fun k hk => hk⟩, fun k hk => by rcases hk with h | h <;> omega, HB.out.alloc HB.out.size _⟩
theorem ru_new_no (room : Int) (w : World) (h : room < 1 ∨ 4096 < room) :
    Calls Try.prog 8 #[.int .i64 room] w fun e w' => e = .returned (.tuple #[.pointer none, .int .i64 1]) ∧ w = w' := by
  have CN := Lib.hid (rnew_no room w h)
  clear h
  go_enter Try.func8, Try.ntmps8
  go_wp2_with (go_at_call 26; refine CN.out.mono ?_; rintro e w1 ⟨rfl, rfl⟩)
  go_ret2
  exact ⟨rfl, rfl⟩
end Go.Proofs.Ytaodmdoagngdnaa
