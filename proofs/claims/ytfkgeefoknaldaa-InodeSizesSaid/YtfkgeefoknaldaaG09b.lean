/- What the document's own one returns. No conditions. What the program's own within, alone, end, isHole, goesOn return. No conditions but the numbers' bounds where the statement says so. -/
import Derived.Test.YtfkgeefoknaldaaG08a
import Derived.Test.YtfkgeefoknaldaaG08b
import Derived.Lib.QuietBelow
import Derived.Test.YtfkgeefoknaldaaG02a
import Derived.Deep.RegionHeld3
set_option linter.unusedVariables false
namespace Go.Proofs.Ytfkgeefoknaldaa
open Go.RowKit Go.Sort
set_option linter.unusedVariables false
set_option maxRecDepth 20000
set_option maxHeartbeats 4000000 in
theorem rone_any (x : Pt) (w : World) :
    Calls Try.prog 71 #[.agg #[.int .i64 x.off, .int .i64 x.len, .int .i64 x.addr, .int .i64 x.src]] w fun e w' => e = .returned (.bool (oneB x)) ∧ Below w.heap.size w w' := by
  have HI := Lib.hid (@oneB_iff x)
  generalize oneB x = R at *
  obtain ⟨off, len, addr, src⟩ := x
  dsimp only at *
  have HB := Lib.hid (blwA w (.cells #[.int .i64 off, .int .i64 len, .int .i64 addr, .int .i64 src] 52))
  by_cases c0 : ¬ (0 ≤ off)
  · obtain rfl : R = false := Bool.eq_false_iff.2 (fun e => by have := HI.out.1 e; omega)
    have d0 : decide (0 ≤ off) = false := decide_eq_false c0
    clear c0 HI
    go_enter Try.func71, Try.ntmps71
    go_wp2_with fail
    go_ret
    exact ⟨rfl, HB.out⟩
  have c0 : 0 ≤ off := by omega
  by_cases c1 : ¬ (off ≤ 8192)
  · obtain rfl : R = false := Bool.eq_false_iff.2 (fun e => by have := HI.out.1 e; omega)
    have d1 : decide (off ≤ 8192) = false := decide_eq_false c1
    clear c1 HI
    go_enter Try.func71, Try.ntmps71
    go_wp2_with fail
    go_ret
    exact ⟨rfl, HB.out⟩
  have c1 : off ≤ 8192 := by omega
  by_cases c2 : ¬ (1 ≤ len)
  · obtain rfl : R = false := Bool.eq_false_iff.2 (fun e => by have := HI.out.1 e; omega)
    have d2 : decide (1 ≤ len) = false := decide_eq_false c2
    clear c2 HI
    go_enter Try.func71, Try.ntmps71
    go_wp2_with fail
    go_ret
    exact ⟨rfl, HB.out⟩
  have c2 : 1 ≤ len := by omega
  by_cases c3 : ¬ (len ≤ 8192)
  · obtain rfl : R = false := Bool.eq_false_iff.2 (fun e => by have := HI.out.1 e; omega)
    have d3 : decide (len ≤ 8192) = false := decide_eq_false c3
    clear c3 HI
    go_enter Try.func71, Try.ntmps71
    go_wp2_with fail
    go_ret
    exact ⟨rfl, HB.out⟩
  have c3 : len ≤ 8192 := by omega
  by_cases c4 : ¬ (off + len ≤ 8192)
  · obtain rfl : R = false := Bool.eq_false_iff.2 (fun e => by have := HI.out.1 e; omega)
    have d4 : decide (off + len ≤ 8192) = false := decide_eq_false c4
    clear c4 HI
    go_enter Try.func71, Try.ntmps71
    go_wp2_with fail
    go_ret
    exact ⟨rfl, HB.out⟩
  have c4 : off + len ≤ 8192 := by omega
  by_cases c5 : ¬ (0 ≤ addr)
  · obtain rfl : R = false := Bool.eq_false_iff.2 (fun e => by have := HI.out.1 e; omega)
    have d5 : decide (0 ≤ addr) = false := decide_eq_false c5
    clear c5 HI
    go_enter Try.func71, Try.ntmps71
    go_wp2_with fail
    go_ret
    exact ⟨rfl, HB.out⟩
  have c5 : 0 ≤ addr := by omega
  by_cases c6 : ¬ (addr < 16384)
  · obtain rfl : R = false := Bool.eq_false_iff.2 (fun e => by have := HI.out.1 e; omega)
    have d6 : decide (addr < 16384) = false := decide_eq_false c6
    clear c6 HI
    go_enter Try.func71, Try.ntmps71
    go_wp2_with fail
    go_ret
    exact ⟨rfl, HB.out⟩
  have c6 : addr < 16384 := by omega
  by_cases c7 : ¬ (0 ≤ src)
  · obtain rfl : R = false := Bool.eq_false_iff.2 (fun e => by have := HI.out.1 e; omega)
    have d7 : decide (0 ≤ src) = false := decide_eq_false c7
    clear c7 HI
    go_enter Try.func71, Try.ntmps71
    go_wp2_with fail
    go_ret
    exact ⟨rfl, HB.out⟩
  have c7 : 0 ≤ src := by omega
  by_cases c8 : ¬ (src ≤ 1024)
  · obtain rfl : R = false := Bool.eq_false_iff.2 (fun e => by have := HI.out.1 e; omega)
    have d8 : decide (src ≤ 1024) = false := decide_eq_false c8
    clear c8 HI
    go_enter Try.func71, Try.ntmps71
    go_wp2_with fail
    go_ret
    exact ⟨rfl, HB.out⟩
  have c8 : src ≤ 1024 := by omega
  by_cases c9 : ¬ (len ≤ 1024)
  · obtain rfl : R = false := Bool.eq_false_iff.2 (fun e => by have := HI.out.1 e; omega)
    have d9 : decide (len ≤ 1024) = false := decide_eq_false c9
    clear c9 HI
    go_enter Try.func71, Try.ntmps71
    go_wp2_with fail
    go_ret
    exact ⟨rfl, HB.out⟩
  have c9 : len ≤ 1024 := by omega
  by_cases c10 : ¬ (src + len ≤ 1024)
  · obtain rfl : R = false := Bool.eq_false_iff.2 (fun e => by have := HI.out.1 e; omega)
    have d10 : decide (src + len ≤ 1024) = false := decide_eq_false c10
    clear c10 HI
    go_enter Try.func71, Try.ntmps71
    go_wp2_with fail
    go_ret
    exact ⟨rfl, HB.out⟩
  have c10 : src + len ≤ 1024 := by omega
  obtain rfl : R = true := HI.out.2 (by omega)
  clear HI
  go_enter Try.func71, Try.ntmps71
  go_wp2_with fail
  go_ret
  exact ⟨rfl, HB.out⟩
end Go.Proofs.Ytfkgeefoknaldaa
namespace Go.Proofs.Ytfkgeefoknaldaa
open Go.RowKit
set_option linter.unusedVariables false
set_option maxRecDepth 20000
/-- is a number within bounds? -/
def betB (v a b : Int) : Bool := decide (a ≤ v ∧ v ≤ b)
theorem betB_iff {v a b : Int} : betB v a b = true ↔ a ≤ v ∧ v ≤ b := decide_eq_true_iff
theorem ewithin_any (v a b : Int) (w : World) :
    Calls Try.prog 66 #[.int .i64 v, .int .i64 a, .int .i64 b] w fun e w' => e = .returned (.bool (betB v a b)) ∧ w = w' := by
  by_cases h1 : a ≤ v
  · by_cases h2 : v ≤ b
    · rw [show betB v a b = true from decide_eq_true ⟨h1, h2⟩]
      go_enter Try.func66, Try.ntmps66
      go_wp2_with fail
      go_ret
      exact ⟨rfl, rfl⟩
    · rw [show betB v a b = false from decide_eq_false (fun h => h2 h.2)]
      have h3 : decide (v ≤ b) = false := decide_eq_false h2
      clear h2
      go_enter Try.func66, Try.ntmps66
      go_wp2_with fail
      go_ret
      exact ⟨rfl, rfl⟩
  · rw [show betB v a b = false from decide_eq_false (fun h => h1 h.1)]
    have h3 : decide (a ≤ v) = false := decide_eq_false h1
    clear h1
    go_enter Try.func66, Try.ntmps66
    go_wp2_with fail
    go_ret
    exact ⟨rfl, rfl⟩
theorem oneB_parts (x : Pt) : oneB x = (betB x.len 1 1024 && (betB x.off 0 (8192 - x.len) && (betB x.src 0 (1024 - x.len) && betB x.addr 0 16383))) := by
  rw [Bool.eq_iff_iff, Bool.and_eq_true, Bool.and_eq_true, Bool.and_eq_true, oneB_iff, betB_iff, betB_iff, betB_iff, betB_iff]
  omega
set_option maxHeartbeats 4000000 in
theorem ealone_any (x : Pt) (w : World) :
    Calls Try.prog 60 #[.agg #[.int .i64 x.off, .int .i64 x.len, .int .i64 x.addr, .int .i64 x.src]] w fun e w' => e = .returned (.bool (oneB x)) ∧ Below w.heap.size w w' := by
  rw [oneB_parts x]
  obtain ⟨off, len, addr, src⟩ := x
  dsimp only
  have HB := Lib.hid ((Below.refl w.heap.size w).alloc (Nat.le_refl _) (.cells #[.int .i64 off, .int .i64 len, .int .i64 addr, .int .i64 src] 52))
  have C1 := Lib.hid (fun w => ewithin_any len 1 1024 w)
  have C2 := Lib.hid (fun w => ewithin_any off 0 (8192 - len) w)
  have C3 := Lib.hid (fun w => ewithin_any src 0 (1024 - len) w)
  have C4 := Lib.hid (fun w => ewithin_any addr 0 16383 w)
  cases e1 : betB len 1 1024
  · rw [e1] at C1
    clear e1
    go_enter Try.func60, Try.ntmps60
    go_wp2_with (go_at_call 66; (with_reducible refine (C1.out _).mono ?_); rintro e w1 ⟨rfl, rfl⟩)
    go_ret
    exact ⟨rfl, HB.out⟩
  obtain ⟨n1, n2⟩ := betB_iff.1 e1
  rw [e1] at C1
  cases e2 : betB off 0 (8192 - len)
  · rw [e2] at C2
    clear e1 e2
    go_enter Try.func60, Try.ntmps60
    go_wp2_with (go_at_call 66; first | ((with_reducible refine (C1.out _).mono ?_); rintro e w1 ⟨rfl, rfl⟩) | ((with_reducible refine (C2.out _).mono ?_); rintro e w1 ⟨rfl, rfl⟩))
    go_ret
    exact ⟨rfl, HB.out⟩
  rw [e2] at C2
  cases e3 : betB src 0 (1024 - len)
  · rw [e3] at C3
    clear e1 e2 e3
    go_enter Try.func60, Try.ntmps60
    go_wp2_with (go_at_call 66; first | ((with_reducible refine (C1.out _).mono ?_); rintro e w1 ⟨rfl, rfl⟩) | ((with_reducible refine (C2.out _).mono ?_); rintro e w1 ⟨rfl, rfl⟩) | ((with_reducible refine (C3.out _).mono ?_); rintro e w1 ⟨rfl, rfl⟩))
    go_ret
    exact ⟨rfl, HB.out⟩
  rw [e3] at C3
  generalize e4 : betB addr 0 16383 = b4 at *
  clear e1 e2 e3 e4
  go_enter Try.func60, Try.ntmps60
  go_wp2_with (go_at_call 66; first | ((with_reducible refine (C1.out _).mono ?_); rintro e w1 ⟨rfl, rfl⟩) | ((with_reducible refine (C2.out _).mono ?_); rintro e w1 ⟨rfl, rfl⟩) | ((with_reducible refine (C3.out _).mono ?_); rintro e w1 ⟨rfl, rfl⟩) | ((with_reducible refine (C4.out _).mono ?_); rintro e w1 ⟨rfl, rfl⟩))
  go_ret
  cases b4 <;> exact ⟨rfl, HB.out⟩
theorem eend_any (x : Pt) (hx : midP x) (w : World) :
    Calls Try.prog 65 #[.agg #[.int .i64 x.off, .int .i64 x.len, .int .i64 x.addr, .int .i64 x.src]] w fun e w' => e = .returned (.int .i64 x.stop) ∧ Below w.heap.size w w' := by
  obtain ⟨off, len, addr, src⟩ := x
  obtain ⟨⟨h1, h2⟩, ⟨h3, h4⟩, _⟩ := hx
  unfold Pt.stop
  dsimp only at *
  have HB := Lib.hid ((Below.refl w.heap.size w).alloc (Nat.le_refl _) (.cells #[.int .i64 off, .int .i64 len, .int .i64 addr, .int .i64 src] 52))
  go_enter Try.func65, Try.ntmps65
  go_wp2_with fail
  go_ret
  exact ⟨rfl, HB.out⟩
theorem ehole_any (x : Pt) (w : World) :
    Calls Try.prog 80 #[.agg #[.int .i64 x.off, .int .i64 x.len, .int .i64 x.addr, .int .i64 x.src]] w fun e w' => e = .returned (.bool (holeB x)) ∧ Below w.heap.size w w' := by
  obtain ⟨off, len, addr, src⟩ := x
  have hd : (addr == -1) = holeB ⟨off, len, addr, src⟩ := by
    unfold holeB
    rw [Bool.eq_iff_iff, beq_iff_eq, decide_eq_true_iff]
  generalize holeB ⟨off, len, addr, src⟩ = R at *
  dsimp only
  have HB := Lib.hid ((Below.refl w.heap.size w).alloc (Nat.le_refl _) (.cells #[.int .i64 off, .int .i64 len, .int .i64 addr, .int .i64 src] 52))
  have HR := Lib.hid hd
  clear hd
  go_enter Try.func80, Try.ntmps80
  go_wp2_with fail
  go_ret
  rw [HR.out]
  exact ⟨rfl, HB.out⟩
end Go.Proofs.Ytfkgeefoknaldaa
