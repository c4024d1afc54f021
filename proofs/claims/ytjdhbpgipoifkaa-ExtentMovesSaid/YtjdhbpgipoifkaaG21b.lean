/- What the document's own May returns. No conditions. -/
import Derived.Test.YtjdhbpgipoifkaaG12a
import Derived.Test.YtjdhbpgipoifkaaG20a
set_option linter.unusedVariables false
namespace Go.Proofs.Ytjdhbpgipoifkaa
open Go.RowKit Go.Sort
set_option linter.unusedVariables false
set_option maxRecDepth 20000
set_option maxHeartbeats 4000000 in
theorem rmay_any (m : Mv) (to : Int) (w : World) :
    Calls Try.prog 39 #[.agg #[.int .i64 m.addr, .int .i64 m.src, .int .i64 m.len, .int .i64 m.at_], .int .i64 to] w fun e w' => e = .returned (.bool (mayB m to)) ∧ Below w.heap.size w w' := by
  have HI := Lib.hid (@mayB_iff m to)
  generalize mayB m to = R at *
  obtain ⟨ad, src, len, at_⟩ := m
  dsimp only at *
  have HB := Lib.hid (blwA w (.cells #[.int .i64 ad, .int .i64 src, .int .i64 len, .int .i64 at_] 41))
  by_cases c0 : ¬ (0 ≤ ad)
  · obtain rfl : R = false := Bool.eq_false_iff.2 (fun e => by have := HI.out.1 e; omega)
    have d0 : decide (0 ≤ ad) = false := decide_eq_false c0
    clear c0 HI
    go_enter Try.func39, Try.ntmps39
    go_wp2_with fail
    go_ret
    exact ⟨rfl, HB.out⟩
  have c0 : 0 ≤ ad := by omega
  by_cases c1 : ¬ (ad < 16384)
  · obtain rfl : R = false := Bool.eq_false_iff.2 (fun e => by have := HI.out.1 e; omega)
    have d1 : decide (ad < 16384) = false := decide_eq_false c1
    clear c1 HI
    go_enter Try.func39, Try.ntmps39
    go_wp2_with fail
    go_ret
    exact ⟨rfl, HB.out⟩
  have c1 : ad < 16384 := by omega
  by_cases c2 : ¬ (0 ≤ src)
  · obtain rfl : R = false := Bool.eq_false_iff.2 (fun e => by have := HI.out.1 e; omega)
    have d2 : decide (0 ≤ src) = false := decide_eq_false c2
    clear c2 HI
    go_enter Try.func39, Try.ntmps39
    go_wp2_with fail
    go_ret
    exact ⟨rfl, HB.out⟩
  have c2 : 0 ≤ src := by omega
  by_cases c3 : ¬ (src ≤ 1024)
  · obtain rfl : R = false := Bool.eq_false_iff.2 (fun e => by have := HI.out.1 e; omega)
    have d3 : decide (src ≤ 1024) = false := decide_eq_false c3
    clear c3 HI
    go_enter Try.func39, Try.ntmps39
    go_wp2_with fail
    go_ret
    exact ⟨rfl, HB.out⟩
  have c3 : src ≤ 1024 := by omega
  by_cases c4 : ¬ (0 ≤ at_)
  · obtain rfl : R = false := Bool.eq_false_iff.2 (fun e => by have := HI.out.1 e; omega)
    have d4 : decide (0 ≤ at_) = false := decide_eq_false c4
    clear c4 HI
    go_enter Try.func39, Try.ntmps39
    go_wp2_with fail
    go_ret
    exact ⟨rfl, HB.out⟩
  have c4 : 0 ≤ at_ := by omega
  by_cases c5 : ¬ (at_ ≤ 1024)
  · obtain rfl : R = false := Bool.eq_false_iff.2 (fun e => by have := HI.out.1 e; omega)
    have d5 : decide (at_ ≤ 1024) = false := decide_eq_false c5
    clear c5 HI
    go_enter Try.func39, Try.ntmps39
    go_wp2_with fail
    go_ret
    exact ⟨rfl, HB.out⟩
  have c5 : at_ ≤ 1024 := by omega
  by_cases c6 : ¬ (1 ≤ len)
  · obtain rfl : R = false := Bool.eq_false_iff.2 (fun e => by have := HI.out.1 e; omega)
    have d6 : decide (1 ≤ len) = false := decide_eq_false c6
    clear c6 HI
    go_enter Try.func39, Try.ntmps39
    go_wp2_with fail
    go_ret
    exact ⟨rfl, HB.out⟩
  have c6 : 1 ≤ len := by omega
  by_cases c7 : ¬ (len ≤ 1024)
  · obtain rfl : R = false := Bool.eq_false_iff.2 (fun e => by have := HI.out.1 e; omega)
    have d7 : decide (len ≤ 1024) = false := decide_eq_false c7
    clear c7 HI
    go_enter Try.func39, Try.ntmps39
    go_wp2_with fail
    go_ret
    exact ⟨rfl, HB.out⟩
  have c7 : len ≤ 1024 := by omega
  by_cases c8 : ¬ (src + len ≤ 1024)
  · obtain rfl : R = false := Bool.eq_false_iff.2 (fun e => by have := HI.out.1 e; omega)
    have d8 : decide (src + len ≤ 1024) = false := decide_eq_false c8
    clear c8 HI
    go_enter Try.func39, Try.ntmps39
    go_wp2_with fail
    go_ret
    exact ⟨rfl, HB.out⟩
  have c8 : src + len ≤ 1024 := by omega
  by_cases c9 : ¬ (at_ + len ≤ 1024)
  · obtain rfl : R = false := Bool.eq_false_iff.2 (fun e => by have := HI.out.1 e; omega)
    have d9 : decide (at_ + len ≤ 1024) = false := decide_eq_false c9
    clear c9 HI
    go_enter Try.func39, Try.ntmps39
    go_wp2_with fail
    go_ret
    exact ⟨rfl, HB.out⟩
  have c9 : at_ + len ≤ 1024 := by omega
  by_cases c10 : ¬ (0 ≤ to)
  · obtain rfl : R = false := Bool.eq_false_iff.2 (fun e => by have := HI.out.1 e; omega)
    have d10 : decide (0 ≤ to) = false := decide_eq_false c10
    clear c10 HI
    go_enter Try.func39, Try.ntmps39
    go_wp2_with fail
    go_ret
    exact ⟨rfl, HB.out⟩
  have c10 : 0 ≤ to := by omega
  by_cases c11 : ¬ (to < 16384)
  · obtain rfl : R = false := Bool.eq_false_iff.2 (fun e => by have := HI.out.1 e; omega)
    have d11 : decide (to < 16384) = false := decide_eq_false c11
    clear c11 HI
    go_enter Try.func39, Try.ntmps39
    go_wp2_with fail
    go_ret
    exact ⟨rfl, HB.out⟩
  have c11 : to < 16384 := by omega
  obtain rfl : R = true := HI.out.2 (by omega)
  clear HI
  go_enter Try.func39, Try.ntmps39
  go_wp2_with fail
  go_ret
  exact ⟨rfl, HB.out⟩
end Go.Proofs.Ytjdhbpgipoifkaa
