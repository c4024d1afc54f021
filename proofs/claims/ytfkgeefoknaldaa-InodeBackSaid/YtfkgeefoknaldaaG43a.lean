/- Stage 20: more calls on the two tables, and on one that is loaded. Conditions: numbers of 64 bits. -/
import Derived.Test.YtfkgeefoknaldaaG42a
set_option linter.unusedVariables false
namespace Go.Proofs.Ytfkgeefoknaldaa
open Go.RowKit
set_option linter.unusedVariables false
set_option maxRecDepth 20000
section
variable {b q : Nat} {X : Nat → Prop} {w : World} {t u : Tb}
theorem sd_make (hs : Side (PT b) (RT q) X w t u) (ht : TbI t) (hnx : t.next ≤ 9000000000000000000) (k : Int) : Calls Try.prog 10 #[.pointer (some ⟨b, 0, none⟩), .int .i64 k] w fun e w' => e = .returned (.tuple #[.int .i64 (makeI t k).2.1, .int .i64 (makeI t k).2.2]) ∧ Side (PT b) (RT q) X w' (makeI t k).1 u ∧ Kept X w w' :=
  side_left (R := fun e => e = .returned (.tuple #[.int .i64 (makeI t k).2.1, .int .i64 (makeI t k).2.2])) (pt_thing b) (rt_thing q) hs (fun F hF => pmake_any hF ht hnx)
theorem sr_make (hs : Side (PT b) (RT q) X w t u) (ht : TbI u) (hnx : u.next ≤ 9000000000) (k : Int) : Calls Try.prog 12 #[.pointer (some ⟨q, 0, none⟩), .int .i64 k] w fun e w' => e = .returned (.tuple #[.int .i64 (makeI u k).2.1, .int .i64 (makeI u k).2.2]) ∧ Side (PT b) (RT q) X w' t (makeI u k).1 ∧ Kept X w w' :=
  side_right (R := fun e => e = .returned (.tuple #[.int .i64 (makeI u k).2.1, .int .i64 (makeI u k).2.2])) (pt_thing b) (rt_thing q) hs (fun G hG => rmakeI_any w q u k hG ht hnx)
theorem t_dump (hs : Side (PT b) (RT q) X w t u) (ht : TbI t) (hnx : t.next ≤ 9000000000) : Calls Try.prog 15 #[.pointer (some ⟨b, 0, none⟩)] w fun e w' => ∃ v l', e = .returned v ∧ l'.map (·.x) = t.l ∧ DRow w' w.heap.size v l' ∧ Below w.heap.size w w' := by
  obtain ⟨⟨m, l, h1, h2⟩, _⟩ := side_tabs hs
  obtain ⟨k1, k2, k3, k4⟩ := tab_small (m := m) (next := t.next) h1 ht (Int.le_trans hnx (by decide))
  refine (pdump_any h2 (by omega) k2 k3 (fun y hy => Nat.le_trans (k4 y hy) (by decide))).mono ?_
  rintro e w' ⟨v, l', r1, r2, r3⟩
  exact ⟨v, l', r1, r2.trans h1, r3⟩
theorem t_next (hs : Side (PT b) (RT q) X w t u) : Calls Try.prog 18 #[.pointer (some ⟨b, 0, none⟩)] w fun e w' => e = .returned (.int .i64 t.next) ∧ w = w' := by
  obtain ⟨⟨m, l, h1, h2⟩, _⟩ := side_tabs hs
  exact pnext_any h2
theorem t_parts (hs : Side (PT b) (RT q) X w t u) (ht : TbI t) (hnx : t.next ≤ 9000000000) {n : Int} (hn : (Lit.int .i64 n).wf = true) : Calls Try.prog 21 #[.pointer (some ⟨b, 0, none⟩), .int .i64 n] w fun e w' => ∃ v l, e = .returned v ∧ OPa w' w.heap.size v l ∧ l.length ≤ 64 ∧ Below w.heap.size w w' := by
  obtain ⟨⟨m, l, h1, h2⟩, _⟩ := side_tabs hs
  obtain ⟨k1, k2, k3, k4⟩ := tab_small (m := m) (next := t.next) h1 ht (Int.le_trans hnx (by decide))
  cases hg : getV l n with
  | none =>
    refine (pparts_of (y := noV) (c := 60) (pfind_none h2 hn hg) (Row.nil _ _ _ _) (fun _ => rfl) (Nat.le_refl _) (Nat.zero_le _)).mono ?_
    rintro e w' ⟨v, r1, r2, r3⟩
    exact ⟨v, _, r1, r2, Nat.zero_le _, r3⟩
  | some y =>
    have hm := (getV_is hg).1
    have hI := h2.each y hm
    refine (pparts_of (c := 0) (pfind_some h2 hn hg) hI.1 hI.2.1 hI.2.2.1 (Nat.le_trans (k4 y hm) (by decide))).mono ?_
    rintro e w' ⟨v, r1, r2, r3⟩
    exact ⟨v, _, r1, r2, k4 y hm, r3⟩
theorem ps_load (hs : Solo (PT b) X w t) {lo : Option Addr} {cap : Nat} {l : List Iv} (hl : IvQ w lo l) (hm : l.map (·.x) = u.l) (ht : TbI u) (hf : fedI u) (hn : u.next ≤ 2147483647)
    (h1 : ∀ a, lo = some a → a.block ≠ b ∧ a.block < w.heap.size) (h2 : ∀ y ∈ l, ∀ a, y.ao = some a → a.block ≠ b ∧ a.block < w.heap.size) :
    Calls Try.prog 16 #[.pointer (some ⟨b, 0, none⟩), .slice lo l.length cap, .int .i64 u.next] w fun e w' => e = .returned (.int .i64 0) ∧ Solo (PT b) X w' u ∧ Kept X w w' := by
  obtain ⟨ul, un⟩ := u
  dsimp only at hm
  subst hm
  exact solo_call (R := fun e => e = .returned (.int .i64 0)) (pt_thing b) hs (fun F hF => pload_yes lo cap l un hF hl ht hf hn h1 h2)
end
end Go.Proofs.Ytfkgeefoknaldaa
