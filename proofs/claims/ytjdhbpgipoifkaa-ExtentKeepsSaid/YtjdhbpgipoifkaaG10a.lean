/- What the program's own goesOn returns. Conditions: the parts' numbers are within bounds. -/
import Derived.Test.YtjdhbpgipoifkaaG09b
import Derived.Lib.QuietBelow
set_option linter.unusedVariables false
namespace Go.Proofs.Ytjdhbpgipoifkaa
open Go.RowKit Go.Sort
set_option linter.unusedVariables false
set_option maxRecDepth 20000
/-- two parts that were boxed -/
theorem two_boxes (w : World) (x y : Pt) :
    PtB ((w.alloc (.cells #[.int .i64 x.off, .int .i64 x.len, .int .i64 x.addr, .int .i64 x.src] 31)).alloc (.cells #[.int .i64 y.off, .int .i64 y.len, .int .i64 y.addr, .int .i64 y.src] 31)) w.heap.size x ∧
    PtB ((w.alloc (.cells #[.int .i64 x.off, .int .i64 x.len, .int .i64 x.addr, .int .i64 x.src] 31)).alloc (.cells #[.int .i64 y.off, .int .i64 y.len, .int .i64 y.addr, .int .i64 y.src] 31)) (w.heap.size + 1) y := by
  have h1 : PtB (w.alloc (.cells #[.int .i64 x.off, .int .i64 x.len, .int .i64 x.addr, .int .i64 x.src] 31)) w.heap.size x := heap_alloc_new _ _
  refine ⟨h1.below (blwA _ _), ?_⟩
  have h := heap_alloc_new (w.alloc (.cells #[.int .i64 x.off, .int .i64 x.len, .int .i64 x.addr, .int .i64 x.src] 31)) (.cells #[.int .i64 y.off, .int .i64 y.len, .int .i64 y.addr, .int .i64 y.src] 31)
  unfold PtB
  simpa using h
/-- a contract that is told for every world, met in a quiet region -/
theorem quiet_on {P : Program} {f : FuncId} {args : Array Value} {v : Value} (h : ∀ W, Calls P f args W fun e w' => e = .returned v ∧ Below W.heap.size W w') (w : World) (d : Nat) (os : Array Obj) :
    Calls P f args (grow (redrawn w d) os) fun e w'' => e = .returned v ∧ ∃ p : Regrown, w'' = grow (redrawn w p.d) p.os := Calls.regrown_of (h _)
/-- one that only reckons -/
theorem quiet_as {P : Program} {f : FuncId} {args : Array Value} {v : Value} (h : ∀ W, Calls P f args W fun e w' => e = .returned v ∧ W = w') (w : World) (d : Nat) (os : Array Obj) :
    Calls P f args (grow (redrawn w d) os) fun e w'' => e = .returned v ∧ ∃ p : Regrown, w'' = grow (redrawn w p.d) p.os := Calls.regrown_of ((h _).mono fun _ _ ⟨he, hw⟩ => ⟨he, by rw [← hw]; exact Below.refl _ _⟩)
/-- .. that wants a part of the world as it is -/
theorem quiet_at {P : Program} {f : FuncId} {args : Array Value} {v : Value} {w : World} (h : ∀ W, Below w.heap.size w W → Calls P f args W fun e w' => e = .returned v ∧ Below W.heap.size W w') (d : Nat) (os : Array Obj) :
    Calls P f args (grow (redrawn w d) os) fun e w'' => e = .returned v ∧ ∃ p : Regrown, w'' = grow (redrawn w p.d) p.os := Calls.regrown_of (h _ (below_regrown w d os))
theorem PtB.quiet {w : World} {b : Nat} {x : Pt} (h : PtB w b x) : (∀ d os, (grow (redrawn w d) os).cell? ⟨b, 0, none⟩ = some (.int .i64 x.off)) ∧ (∀ d os, (grow (redrawn w d) os).cell? ⟨b, 1, none⟩ = some (.int .i64 x.len)) ∧ (∀ d os, (grow (redrawn w d) os).cell? ⟨b, 2, none⟩ = some (.int .i64 x.addr)) ∧ (∀ d os, (grow (redrawn w d) os).cell? ⟨b, 3, none⟩ = some (.int .i64 x.src)) :=
  ⟨cell_regrown h.cells.1, cell_regrown h.cells.2.1, cell_regrown h.cells.2.2.1, cell_regrown h.cells.2.2.2⟩
theorem goesB_no1 {x y : Pt} (h : ¬ x.stop = y.off) : goesB x y = false := Bool.eq_false_iff.2 (fun e => h (goesB_iff.1 e).1)
theorem goesB_no2 {x y : Pt} (h : ¬ x.addr = y.addr) : goesB x y = false := Bool.eq_false_iff.2 (fun e => h (goesB_iff.1 e).2.1)
theorem goesB_eq {x y : Pt} (h1 : x.stop = y.off) (h2 : x.addr = y.addr) (h3 : holeB x = false) : (x.src + x.len == y.src) = goesB x y := by
  have h3' := of_decide_eq_false h3
  rw [Bool.eq_iff_iff, beq_iff_eq, goesB_iff]
  exact ⟨fun h => ⟨h1, h2, .inr h⟩, fun h => h.2.2.resolve_left h3'⟩
set_option maxHeartbeats 8000000 in
theorem egoes_any (x y : Pt) (hx : midP x) (w : World) :
    Calls Try.prog 29 #[.agg #[.int .i64 x.off, .int .i64 x.len, .int .i64 x.addr, .int .i64 x.src], .agg #[.int .i64 y.off, .int .i64 y.len, .int .i64 y.addr, .int .i64 y.src]] w fun e w' => e = .returned (.bool (goesB x y)) ∧ Below w.heap.size w w' := by
  have CE := Lib.hid (quiet_on (fun W => eend_any x hx W))
  have CH := Lib.hid (quiet_on (fun W => ehole_any x W))
  have HB0 := Lib.hid (blwO (blwA (w.alloc (.cells #[.int .i64 x.off, .int .i64 x.len, .int .i64 x.addr, .int .i64 x.src] 31)) (.cells #[.int .i64 y.off, .int .i64 y.len, .int .i64 y.addr, .int .i64 y.src] 31)) (blwA w _))
  have N1 := Lib.hid (@goesB_no1 x y)
  have N2 := Lib.hid (@goesB_no2 x y)
  have N3 := Lib.hid (@goesB_eq x y)
  have HX := Lib.hid (show holeB x = true → x.stop = y.off → x.addr = y.addr → goesB x y = true from fun h h1 h2 => goesB_iff.2 ⟨h1, h2, .inl (of_decide_eq_true h)⟩)
  obtain ⟨k1, k2⟩ := two_boxes w x y
  obtain ⟨c0, c1, c2, c3⟩ := k1.quiet
  obtain ⟨d0, _, d2, d3⟩ := k2.quiet
  clear k1 k2
  obtain ⟨_, ⟨a3, a4⟩, _, a7, a8⟩ := hx
  generalize goesB x y = R at *
  generalize x.stop = st at *
  generalize holeB x = hb at *
  obtain ⟨xo, xl, xa, xs⟩ := x
  obtain ⟨yo, yl, ya, ys⟩ := y
  dsimp only at *
  by_cases h1 : st = yo
  · have e1 : (st == yo) = true := beq_iff_eq.2 h1
    by_cases h2 : xa = ya
    · have e2 : (xa == ya) = true := beq_iff_eq.2 h2
      cases hb
      · have e3 := Lib.hid (N3.out h1 h2 rfl)
        have e4 : IntKind.i64.wrap (xs + xl) = xs + xl := IntWalk.i64_in _ (by omega)
        clear h1 h2
        go_enter Try.func29, Try.ntmps29
        go_wp2_with fail
        refine wp_region_quiet_below (by kernel_rfl) (by kernel_rfl) ?_
        repeat (go_big_quiet_step (first | exact CE.out _ _ _ | exact CH.out _ _ _))
        refine wpQuiet_nil ?_
        intro _ hw'
        obtain ⟨⟨dq, osq⟩, hw''⟩ := hw'
        subst hw''
        go_wp2_with fail
        go_ret
        rw [e3.out]
        exact ⟨rfl, blwO (below_regrown _ dq osq) HB0.out⟩
      · rw [HX.out rfl h1 h2]
        clear h1 h2
        go_enter Try.func29, Try.ntmps29
        go_wp2_with fail
        refine wp_region_quiet_below (by kernel_rfl) (by kernel_rfl) ?_
        repeat (go_big_quiet_step (first | exact CE.out _ _ _ | exact CH.out _ _ _))
        refine wpQuiet_nil ?_
        intro _ hw'
        obtain ⟨⟨dq, osq⟩, hw''⟩ := hw'
        subst hw''
        go_wp2_with fail
        go_ret
        exact ⟨rfl, blwO (below_regrown _ dq osq) HB0.out⟩
    · have e2 : (xa == ya) = false := beq_eq_false_iff_ne.2 h2
      rw [N2.out h2]
      clear h1 h2
      go_enter Try.func29, Try.ntmps29
      go_wp2_with fail
      refine wp_region_quiet_below (by kernel_rfl) (by kernel_rfl) ?_
      repeat (go_big_quiet_step (first | exact CE.out _ _ _ | exact CH.out _ _ _))
      refine wpQuiet_nil ?_
      intro _ hw'
      obtain ⟨⟨dq, osq⟩, hw''⟩ := hw'
      subst hw''
      go_wp2_with fail
      go_ret
      exact ⟨rfl, blwO (below_regrown _ dq osq) HB0.out⟩
  · have e1 : (st == yo) = false := beq_eq_false_iff_ne.2 h1
    rw [N1.out h1]
    clear h1
    go_enter Try.func29, Try.ntmps29
    go_wp2_with fail
    refine wp_region_quiet_below (by kernel_rfl) (by kernel_rfl) ?_
    repeat (go_big_quiet_step (first | exact CE.out _ _ _ | exact CH.out _ _ _))
    refine wpQuiet_nil ?_
    intro _ hw'
    obtain ⟨⟨dq, osq⟩, hw''⟩ := hw'
    subst hw''
    go_wp2_with fail
    go_ret
    exact ⟨rfl, blwO (below_regrown _ dq osq) HB0.out⟩
end Go.Proofs.Ytjdhbpgipoifkaa
