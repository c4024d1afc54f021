/- Stage 20: a step of the statements' of any kind but the first. Conditions: numbers of 64 bits. -/
import Derived.Test.YtfkgeefoknaldaaG40a
import Derived.Test.YtfkgeefoknaldaaG38a
set_option linter.unusedVariables false
namespace Go.Proofs.Ytfkgeefoknaldaa
open Go.RowKit
set_option linter.unusedVariables false
set_option maxRecDepth 20000
section
variable {b q : Nat} {X : Nat → Prop} {w : World} {t : Tb}
set_option maxHeartbeats 1000000 in
theorem step9_any (hs : Side (PT b) (RT q) X w t t) (s : Stp) (h0 : s.kind ≠ 0) (h1 : s.kind ≠ 1) (h2 : s.kind ≠ 2) (h3 : s.kind ≠ 3) (h4 : s.kind ≠ 4) (h5 : s.kind ≠ 5) :
    Calls Try.prog 14 #[.pointer (some ⟨b, 0, none⟩), .pointer (some ⟨q, 0, none⟩), .agg #[.int .i64 s.kind, .int .i64 s.ino, .int .i64 s.n, .int .i64 s.off, .int .i64 s.addr, .slice s.ao s.ms.length s.cap]] w fun e w' => e = .returned (.bool true) ∧ Side (PT b) (RT q) X w' t t ∧ Kept X w w' := by
  have hb := blwA w (.cells #[.int .i64 s.kind, .int .i64 s.ino, .int .i64 s.n, .int .i64 s.off, .int .i64 s.addr, .slice s.ao s.ms.length s.cap] 31 (0, 0))
  have HS := Lib.hid (hs.below (pt_thing b) (rt_thing q) hb)
  have HK := Lib.hid (Kept.ofBelow hb X)
  have hc0 := stpB_cells (heap_alloc_new w (.cells #[.int .i64 s.kind, .int .i64 s.ino, .int .i64 s.n, .int .i64 s.off, .int .i64 s.addr, .slice s.ao s.ms.length s.cap] 31 (0, 0)))
  have e0 : (s.kind == 0) = false := beq_eq_false_iff_ne.2 h0
  have e1 : (s.kind == 1) = false := beq_eq_false_iff_ne.2 h1
  have e2 : (s.kind == 2) = false := beq_eq_false_iff_ne.2 h2
  have e3 : (s.kind == 3) = false := beq_eq_false_iff_ne.2 h3
  have e4 : (s.kind == 4) = false := beq_eq_false_iff_ne.2 h4
  have e5 : (s.kind == 5) = false := beq_eq_false_iff_ne.2 h5
  clear hs hb h0 h1 h2 h3 h4 h5
  go_enter Try.func14, Try.ntmps14
  go_wp2_with fail
  go_ret
  exact ⟨rfl, HS.out, HK.out⟩
theorem step20_any (hs : Side (PT b) (RT q) X w t t) (ht : TbI t) (hnx : t.next ≤ 9000000000) (s : Stp) (hok : StpOk s) (h0 : s.kind ≠ 0) (hmv : ∀ W, Kept X w W → MvL W s.ao s.ms) (hml : s.ms.length ≤ 30) :
    Calls Try.prog 14 #[.pointer (some ⟨b, 0, none⟩), .pointer (some ⟨q, 0, none⟩), .agg #[.int .i64 s.kind, .int .i64 s.ino, .int .i64 s.n, .int .i64 s.off, .int .i64 s.addr, .slice s.ao s.ms.length s.cap]] w fun e w' => e = .returned (.bool true) ∧ Side (PT b) (RT q) X w' (stepT t s) (stepT t s) ∧ Kept X w w' := by
  unfold stepT
  by_cases h1 : s.kind = 1
  · rw [if_pos h1]; exact step1_any hs ht hnx s hok h1
  · rw [if_neg h1]
    by_cases h2 : s.kind = 2
    · rw [if_pos h2]; exact step2_any hs ht hnx s hok h2
    · rw [if_neg h2]
      by_cases h3 : s.kind = 3
      · rw [if_pos h3]; exact step3_any hs ht hnx s hok h3
      · rw [if_neg h3]
        by_cases h4 : s.kind = 4
        · rw [if_pos h4]; exact step4_any hs ht hnx s hok h4
        · rw [if_neg h4]
          by_cases h5 : s.kind = 5
          · rw [if_pos h5]; exact step5_any hs ht hnx s hok h5 hmv hml
          · rw [if_neg h5]; exact step9_any hs s h0 h1 h2 h3 h4 h5
end
end Go.Proofs.Ytfkgeefoknaldaa
