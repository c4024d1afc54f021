/- Stage 20: the program's table and the document's side by side; a step, plainly. Conditions: numbers of 64 bits. -/
import Derived.Test.YtfkgeefoknaldaaG35a
import Derived.Test.YtfkgeefoknaldaaG36a
import Derived.Test.YtfkgeefoknaldaaG33a
import Derived.Test.YtfkgeefoknaldaaG28a
import Derived.Test.YtfkgeefoknaldaaG11a
set_option linter.unusedVariables false
namespace Go.Proofs.Ytfkgeefoknaldaa
open Go.RowKit
set_option linter.unusedVariables false
set_option maxRecDepth 20000
/-- what a step makes of a table -/
def stepT (t : Tb) (s : Stp) : Tb :=
  if s.kind = 1 then (linkI t s.ino s.n).1 else if s.kind = 2 then (openI t s.ino s.n).1 else if s.kind = 3 then (writeI t s.ino s.off s.n s.addr).1 else if s.kind = 4 then (truncI t s.ino s.n).1 else if s.kind = 5 then (movI t s.ino s.ms s.addr).1 else t
theorem TbI.step {t : Tb} (h : TbI t) (s : Stp) : TbI (stepT t s) := by
  unfold stepT
  split
  · exact h.link _ _
  · split
    · exact h.opens _ _
    · split
      · exact h.write _ _ _ _
      · split
        · exact h.trunc _ _
        · split
          · exact h.mov _ _ _
          · exact h
section
variable {b q : Nat} {X : Nat → Prop} {w : World} {t u : Tb}
theorem sd_linkI (hs : Side (PT b) (RT q) X w t u) (ht : TbI t) (hnx : t.next ≤ 9000000000000000000) {n : Int} (hn : (Lit.int .i64 n).wf = true) (k : Int) : Calls Try.prog 11 #[.pointer (some ⟨b, 0, none⟩), .int .i64 n, .int .i64 k] w fun e w' => e = .returned (.int .i64 (linkI t n k).2) ∧ Side (PT b) (RT q) X w' (linkI t n k).1 u ∧ Kept X w w' :=
  side_left (R := fun e => e = .returned (.int .i64 (linkI t n k).2)) (pt_thing b) (rt_thing q) hs (fun F hF => plink_any hF ht hnx hn)
theorem sr_linkI (hs : Side (PT b) (RT q) X w t u) (ht : TbI u) (n k : Int) : Calls Try.prog 13 #[.pointer (some ⟨q, 0, none⟩), .int .i64 n, .int .i64 k] w fun e w' => e = .returned (.int .i64 (linkI u n k).2) ∧ Side (PT b) (RT q) X w' t (linkI u n k).1 ∧ Kept X w w' :=
  side_right (R := fun e => e = .returned (.int .i64 (linkI u n k).2)) (pt_thing b) (rt_thing q) hs (fun F hF => rlink_any _ _ _ _ _ hF ht)
theorem sd_openI (hs : Side (PT b) (RT q) X w t u) (ht : TbI t) (hnx : t.next ≤ 9000000000000000000) {n : Int} (hn : (Lit.int .i64 n).wf = true) (k : Int) : Calls Try.prog 24 #[.pointer (some ⟨b, 0, none⟩), .int .i64 n, .int .i64 k] w fun e w' => e = .returned (.int .i64 (openI t n k).2) ∧ Side (PT b) (RT q) X w' (openI t n k).1 u ∧ Kept X w w' :=
  side_left (R := fun e => e = .returned (.int .i64 (openI t n k).2)) (pt_thing b) (rt_thing q) hs (fun F hF => popen_any hF ht hnx hn)
theorem sr_openI (hs : Side (PT b) (RT q) X w t u) (ht : TbI u) (n k : Int) : Calls Try.prog 37 #[.pointer (some ⟨q, 0, none⟩), .int .i64 n, .int .i64 k] w fun e w' => e = .returned (.int .i64 (openI u n k).2) ∧ Side (PT b) (RT q) X w' t (openI u n k).1 ∧ Kept X w w' :=
  side_right (R := fun e => e = .returned (.int .i64 (openI u n k).2)) (pt_thing b) (rt_thing q) hs (fun F hF => ropen_any _ _ _ _ _ hF ht)
theorem sd_writeI (hs : Side (PT b) (RT q) X w t u) (ht : TbI t) {n : Int} (hn : (Lit.int .i64 n).wf = true) {off : Int} (ho : -9223372036854775808 ≤ off ∧ off ≤ 9223372036854775807) (k ad : Int) : Calls Try.prog 25 #[.pointer (some ⟨b, 0, none⟩), .int .i64 n, .int .i64 off, .int .i64 k, .int .i64 ad] w fun e w' => e = .returned (.int .i64 (writeI t n off k ad).2) ∧ Side (PT b) (RT q) X w' (writeI t n off k ad).1 u ∧ Kept X w w' :=
  side_left (R := fun e => e = .returned (.int .i64 (writeI t n off k ad).2)) (pt_thing b) (rt_thing q) hs (fun F hF => pwrite_any hF ht hn ho)
theorem sr_writeI (hs : Side (PT b) (RT q) X w t u) (ht : TbI u) (n : Int) {off k : Int} (ho : -9223372036854775808 ≤ off ∧ off ≤ 9223372036854775807) (hk : -9223372036854775808 ≤ k ∧ k ≤ 9223372036854775807) (ad : Int) : Calls Try.prog 38 #[.pointer (some ⟨q, 0, none⟩), .int .i64 n, .int .i64 off, .int .i64 k, .int .i64 ad] w fun e w' => e = .returned (.int .i64 (writeI u n off k ad).2) ∧ Side (PT b) (RT q) X w' t (writeI u n off k ad).1 ∧ Kept X w w' :=
  side_right (R := fun e => e = .returned (.int .i64 (writeI u n off k ad).2)) (pt_thing b) (rt_thing q) hs (fun F hF => rwrite_any _ _ _ _ _ _ _ hF ht ho hk)
theorem sd_truncI (hs : Side (PT b) (RT q) X w t u) (ht : TbI t) {n : Int} (hn : (Lit.int .i64 n).wf = true) {s : Int} (ho : -9223372036854775808 ≤ s ∧ s ≤ 9223372036854775807) : Calls Try.prog 26 #[.pointer (some ⟨b, 0, none⟩), .int .i64 n, .int .i64 s] w fun e w' => e = .returned (.int .i64 (truncI t n s).2) ∧ Side (PT b) (RT q) X w' (truncI t n s).1 u ∧ Kept X w w' :=
  side_left (R := fun e => e = .returned (.int .i64 (truncI t n s).2)) (pt_thing b) (rt_thing q) hs (fun F hF => ptrunc_any hF ht hn ho)
theorem sr_truncI (hs : Side (PT b) (RT q) X w t u) (ht : TbI u) (n : Int) {s : Int} (ho : -9223372036854775808 ≤ s ∧ s ≤ 9223372036854775807) : Calls Try.prog 39 #[.pointer (some ⟨q, 0, none⟩), .int .i64 n, .int .i64 s] w fun e w' => e = .returned (.int .i64 (truncI u n s).2) ∧ Side (PT b) (RT q) X w' t (truncI u n s).1 ∧ Kept X w w' :=
  side_right (R := fun e => e = .returned (.int .i64 (truncI u n s).2)) (pt_thing b) (rt_thing q) hs (fun F hF => rtrunc_any _ _ _ _ _ hF ht ho)
theorem sd_movI (hs : Side (PT b) (RT q) X w t u) (ht : TbI t) {n : Int} (hn : (Lit.int .i64 n).wf = true) {mo : Option Addr} {mc : Nat} {ms : List Mv} (hmv : MvL w mo ms) (hml : ms.length ≤ 1000) (to : Int) : Calls Try.prog 27 #[.pointer (some ⟨b, 0, none⟩), .int .i64 n, .slice mo ms.length mc, .int .i64 to] w fun e w' => e = .returned (.int .i64 (movI t n ms to).2) ∧ Side (PT b) (RT q) X w' (movI t n ms to).1 u ∧ Kept X w w' :=
  side_left (R := fun e => e = .returned (.int .i64 (movI t n ms to).2)) (pt_thing b) (rt_thing q) hs (fun F hF => pmov_any hF ht hn hmv hml)
theorem sr_movI (hs : Side (PT b) (RT q) X w t u) (ht : TbI u) (n : Int) {mo : Option Addr} {mc : Nat} {ms : List Mv} (hmv : MvL w mo ms) (hml : ms.length ≤ 1000) (to : Int) : Calls Try.prog 40 #[.pointer (some ⟨q, 0, none⟩), .int .i64 n, .slice mo ms.length mc, .int .i64 to] w fun e w' => e = .returned (.int .i64 (movI u n ms to).2) ∧ Side (PT b) (RT q) X w' t (movI u n ms to).1 ∧ Kept X w w' :=
  side_right (R := fun e => e = .returned (.int .i64 (movI u n ms to).2)) (pt_thing b) (rt_thing q) hs (fun F hF => rmov_any _ _ _ _ _ _ _ _ hF ht hmv hml)
end
theorem mv_rows : RowK Try.prog 29 91 4 mvC where
  under := Try.underlying29
  info := by
    have h : (Try.prog.info? 91).map (fun i => (i.zero, i.size, i.bytes)) = some (some (.agg #[.int .i64 0, .int .i64 0, .int .i64 0, .int .i64 0]), 4, 32) := by kernel_rfl
    obtain ⟨i0, hi, hz0, hz1, hz2⟩ := info_parts h
    exact ⟨i0, _, 32, hi, hz0, hz1, hz2, rfl, by decide⟩
  pos := by decide
  len := fun x => rfl
  one := fun x u hu => by
    unfold mvC at hu
    simp at hu
    rcases hu with h | h | h | h <;> (rw [h]; rfl)
end Go.Proofs.Ytfkgeefoknaldaa
