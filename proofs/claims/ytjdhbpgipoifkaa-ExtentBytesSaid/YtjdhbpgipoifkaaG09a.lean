/- What the document's own one returns. No conditions. -/
import Derived.Test.YtjdhbpgipoifkaaG08a
import Derived.Test.YtjdhbpgipoifkaaG08b
import Derived.Lib.QuietBelow
set_option linter.unusedVariables false
namespace Go.Proofs.Ytjdhbpgipoifkaa
open Go.RowKit Go.Sort
set_option linter.unusedVariables false
set_option maxRecDepth 20000
set_option maxHeartbeats 4000000 in
theorem rone_any (x : Pt) (w : World) :
    Calls Try.prog 30 #[.agg #[.int .i64 x.off, .int .i64 x.len, .int .i64 x.addr, .int .i64 x.src]] w fun e w' => e = .returned (.bool (oneB x)) ∧ Below w.heap.size w w' := by
  have HI := Lib.hid (@oneB_iff x)
  generalize oneB x = R at *
  obtain ⟨off, len, addr, src⟩ := x
  dsimp only at *
  have HB := Lib.hid (blwA w (.cells #[.int .i64 off, .int .i64 len, .int .i64 addr, .int .i64 src] 31))
  by_cases c0 : ¬ (0 ≤ off)
  · obtain rfl : R = false := Bool.eq_false_iff.2 (fun e => by have := HI.out.1 e; omega)
    have d0 : decide (0 ≤ off) = false := decide_eq_false c0
    clear c0 HI
    go_enter Try.func30, Try.ntmps30
    go_wp2_with fail
    go_ret
    exact ⟨rfl, HB.out⟩
  have c0 : 0 ≤ off := by omega
  by_cases c1 : ¬ (off ≤ 8192)
  · obtain rfl : R = false := Bool.eq_false_iff.2 (fun e => by have := HI.out.1 e; omega)
    have d1 : decide (off ≤ 8192) = false := decide_eq_false c1
    clear c1 HI
    go_enter Try.func30, Try.ntmps30
    go_wp2_with fail
    go_ret
    exact ⟨rfl, HB.out⟩
  have c1 : off ≤ 8192 := by omega
  by_cases c2 : ¬ (1 ≤ len)
  · obtain rfl : R = false := Bool.eq_false_iff.2 (fun e => by have := HI.out.1 e; omega)
    have d2 : decide (1 ≤ len) = false := decide_eq_false c2
    clear c2 HI
    go_enter Try.func30, Try.ntmps30
    go_wp2_with fail
    go_ret
    exact ⟨rfl, HB.out⟩
  have c2 : 1 ≤ len := by omega
  by_cases c3 : ¬ (len ≤ 8192)
  · obtain rfl : R = false := Bool.eq_false_iff.2 (fun e => by have := HI.out.1 e; omega)
    have d3 : decide (len ≤ 8192) = false := decide_eq_false c3
    clear c3 HI
    go_enter Try.func30, Try.ntmps30
    go_wp2_with fail
    go_ret
    exact ⟨rfl, HB.out⟩
  have c3 : len ≤ 8192 := by omega
  by_cases c4 : ¬ (off + len ≤ 8192)
  · obtain rfl : R = false := Bool.eq_false_iff.2 (fun e => by have := HI.out.1 e; omega)
    have d4 : decide (off + len ≤ 8192) = false := decide_eq_false c4
    clear c4 HI
    go_enter Try.func30, Try.ntmps30
    go_wp2_with fail
    go_ret
    exact ⟨rfl, HB.out⟩
  have c4 : off + len ≤ 8192 := by omega
  by_cases c5 : ¬ (0 ≤ addr)
  · obtain rfl : R = false := Bool.eq_false_iff.2 (fun e => by have := HI.out.1 e; omega)
    have d5 : decide (0 ≤ addr) = false := decide_eq_false c5
    clear c5 HI
    go_enter Try.func30, Try.ntmps30
    go_wp2_with fail
    go_ret
    exact ⟨rfl, HB.out⟩
  have c5 : 0 ≤ addr := by omega
  by_cases c6 : ¬ (addr < 16384)
  · obtain rfl : R = false := Bool.eq_false_iff.2 (fun e => by have := HI.out.1 e; omega)
    have d6 : decide (addr < 16384) = false := decide_eq_false c6
    clear c6 HI
    go_enter Try.func30, Try.ntmps30
    go_wp2_with fail
    go_ret
    exact ⟨rfl, HB.out⟩
  have c6 : addr < 16384 := by omega
  by_cases c7 : ¬ (0 ≤ src)
  · obtain rfl : R = false := Bool.eq_false_iff.2 (fun e => by have := HI.out.1 e; omega)
    have d7 : decide (0 ≤ src) = false := decide_eq_false c7
    clear c7 HI
    go_enter Try.func30, Try.ntmps30
    go_wp2_with fail
    go_ret
    exact ⟨rfl, HB.out⟩
  have c7 : 0 ≤ src := by omega
  by_cases c8 : ¬ (src ≤ 1024)
  · obtain rfl : R = false := Bool.eq_false_iff.2 (fun e => by have := HI.out.1 e; omega)
    have d8 : decide (src ≤ 1024) = false := decide_eq_false c8
    clear c8 HI
    go_enter Try.func30, Try.ntmps30
    go_wp2_with fail
    go_ret
    exact ⟨rfl, HB.out⟩
  have c8 : src ≤ 1024 := by omega
  by_cases c9 : ¬ (len ≤ 1024)
  · obtain rfl : R = false := Bool.eq_false_iff.2 (fun e => by have := HI.out.1 e; omega)
    have d9 : decide (len ≤ 1024) = false := decide_eq_false c9
    clear c9 HI
    go_enter Try.func30, Try.ntmps30
    go_wp2_with fail
    go_ret
    exact ⟨rfl, HB.out⟩
  have c9 : len ≤ 1024 := by omega
  by_cases c10 : ¬ (src + len ≤ 1024)
  · obtain rfl : R = false := Bool.eq_false_iff.2 (fun e => by have := HI.out.1 e; omega)
    have d10 : decide (src + len ≤ 1024) = false := decide_eq_false c10
    clear c10 HI
    go_enter Try.func30, Try.ntmps30
    go_wp2_with fail
    go_ret
    exact ⟨rfl, HB.out⟩
  have c10 : src + len ≤ 1024 := by omega
  obtain rfl : R = true := HI.out.2 (by omega)
  clear HI
  go_enter Try.func30, Try.ntmps30
  go_wp2_with fail
  go_ret
  exact ⟨rfl, HB.out⟩
end Go.Proofs.Ytjdhbpgipoifkaa
