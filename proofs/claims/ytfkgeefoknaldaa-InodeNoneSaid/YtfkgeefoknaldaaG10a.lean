/- What the program's own goesOn returns. Conditions: the parts' numbers are within bounds. Stage 20: steps (five numbers and a slice of moves), one or many, and pairs of small numbers among a law's arguments: opened. No conditions. -/
import Derived.Test.YtfkgeefoknaldaaG09b
import Derived.Lib.QuietBelow
import Derived.Test.YtfkgeefoknaldaaG09a
import Derived.Test.YtfkgeefoknaldaaG06b
set_option linter.unusedVariables false
namespace Go.Proofs.Ytfkgeefoknaldaa
open Go.RowKit Go.Sort
set_option linter.unusedVariables false
set_option maxRecDepth 20000
/-- two parts that were boxed -/
theorem two_boxes (w : World) (x y : Pt) :
    PtB ((w.alloc (.cells #[.int .i64 x.off, .int .i64 x.len, .int .i64 x.addr, .int .i64 x.src] 52)).alloc (.cells #[.int .i64 y.off, .int .i64 y.len, .int .i64 y.addr, .int .i64 y.src] 52)) w.heap.size x ∧
    PtB ((w.alloc (.cells #[.int .i64 x.off, .int .i64 x.len, .int .i64 x.addr, .int .i64 x.src] 52)).alloc (.cells #[.int .i64 y.off, .int .i64 y.len, .int .i64 y.addr, .int .i64 y.src] 52)) (w.heap.size + 1) y := by
  have h1 : PtB (w.alloc (.cells #[.int .i64 x.off, .int .i64 x.len, .int .i64 x.addr, .int .i64 x.src] 52)) w.heap.size x := heap_alloc_new _ _
  refine ⟨h1.below (blwA _ _), ?_⟩
  have h := heap_alloc_new (w.alloc (.cells #[.int .i64 x.off, .int .i64 x.len, .int .i64 x.addr, .int .i64 x.src] 52)) (.cells #[.int .i64 y.off, .int .i64 y.len, .int .i64 y.addr, .int .i64 y.src] 52)
  unfold PtB
  simpa using h
/-- a contract that is told for every world, met in a quiet region -/
theorem quiet_on {P : Program} {f : FuncId} {args : Array Value} {v : Value} (h : ∀ W, Calls P f args W fun e w' => e = .returned v ∧ Below W.heap.size W w') (w : World) (d : Nat) (os : Array Obj) :
    Calls P f args (grow (redrawn w d) os) fun e w'' => e = .returned v ∧ ∃ p : Regrown, w'' = grow (redrawn w p.d) p.os := Calls.regrown_of (h _)
/-- one that only reckons -/
theorem quiet_as {P : Program} {f : FuncId} {args : Array Value} {v : Value} (h : ∀ W, Calls P f args W fun e w' => e = .returned v ∧ W = w') (w : World) (d : Nat) (os : Array Obj) :
    Calls P f args (grow (redrawn w d) os) fun e w'' => e = .returned v ∧ ∃ p : Regrown, w'' = grow (redrawn w p.d) p.os := Calls.regrown_of ((h _).mono fun _ _ ⟨he, hw⟩ => ⟨he, by rw [← hw]; exact Below.refl _ _⟩)
/-- .. that wants a part of the world as it is -/
theorem quiet_at {P : Program} {f : FuncId} {args : Array Value} {v : Value} {w : World} (h : ∀ W, Below w.heap.size w W → Calls P f args W fun e w' => e = .returned v ∧ Below W.heap.size W w') (d : Nat) (os : Array Obj) :
    Calls P f args (grow (redrawn w d) os) fun e w'' => e = .returned v ∧ ∃ p : Regrown, w'' = grow (redrawn w p.d) p.os := Calls.regrown_of (h _ (below_regrown w d os))
theorem PtB.quiet {w : World} {b : Nat} {x : Pt} (h : PtB w b x) : (∀ d os, (grow (redrawn w d) os).cell? ⟨b, 0, none⟩ = some (.int .i64 x.off)) ∧ (∀ d os, (grow (redrawn w d) os).cell? ⟨b, 1, none⟩ = some (.int .i64 x.len)) ∧ (∀ d os, (grow (redrawn w d) os).cell? ⟨b, 2, none⟩ = some (.int .i64 x.addr)) ∧ (∀ d os, (grow (redrawn w d) os).cell? ⟨b, 3, none⟩ = some (.int .i64 x.src)) :=
  ⟨cell_regrown h.cells.1, cell_regrown h.cells.2.1, cell_regrown h.cells.2.2.1, cell_regrown h.cells.2.2.2⟩
theorem goesB_no1 {x y : Pt} (h : ¬ x.stop = y.off) : goesB x y = false := Bool.eq_false_iff.2 (fun e => h (goesB_iff.1 e).1)
theorem goesB_no2 {x y : Pt} (h : ¬ x.addr = y.addr) : goesB x y = false := Bool.eq_false_iff.2 (fun e => h (goesB_iff.1 e).2.1)
theorem goesB_eq {x y : Pt} (h1 : x.stop = y.off) (h2 : x.addr = y.addr) (h3 : holeB x = false) : (x.src + x.len == y.src) = goesB x y := by
  have h3' := of_decide_eq_false h3
  rw [Bool.eq_iff_iff, beq_iff_eq, goesB_iff]
  exact ⟨fun h => ⟨h1, h2, .inr h⟩, fun h => h.2.2.resolve_left h3'⟩
set_option maxHeartbeats 8000000 in
theorem egoes_any (x y : Pt) (hx : midP x) (w : World) :
    Calls Try.prog 76 #[.agg #[.int .i64 x.off, .int .i64 x.len, .int .i64 x.addr, .int .i64 x.src], .agg #[.int .i64 y.off, .int .i64 y.len, .int .i64 y.addr, .int .i64 y.src]] w fun e w' => e = .returned (.bool (goesB x y)) ∧ Below w.heap.size w w' := by
  have CE := Lib.hid (quiet_on (fun W => eend_any x hx W))
  have CH := Lib.hid (quiet_on (fun W => ehole_any x W))
  have HB0 := Lib.hid (blwO (blwA (w.alloc (.cells #[.int .i64 x.off, .int .i64 x.len, .int .i64 x.addr, .int .i64 x.src] 52)) (.cells #[.int .i64 y.off, .int .i64 y.len, .int .i64 y.addr, .int .i64 y.src] 52)) (blwA w _))
  have N1 := Lib.hid (@goesB_no1 x y)
  have N2 := Lib.hid (@goesB_no2 x y)
  have N3 := Lib.hid (@goesB_eq x y)
  have HX := Lib.hid (show holeB x = true → x.stop = y.off → x.addr = y.addr → goesB x y = true from fun h h1 h2 => goesB_iff.2 ⟨h1, h2, .inl (of_decide_eq_true h)⟩)
  obtain ⟨k1, k2⟩ := two_boxes w x y
  obtain ⟨c0, c1, c2, c3⟩ := k1.quiet
  obtain ⟨d0, _, d2, d3⟩ := k2.quiet
  clear k1 k2
  obtain ⟨_, ⟨a3, a4⟩, _, a7, a8⟩ := hx
  generalize goesB x y = R at *
  generalize x.stop = st at *
  generalize holeB x = hb at *
  obtain ⟨xo, xl, xa, xs⟩ := x
  obtain ⟨yo, yl, ya, ys⟩ := y
  dsimp only at *
  by_cases h1 : st = yo
  · have e1 : (st == yo) = true := beq_iff_eq.2 h1
    by_cases h2 : xa = ya
    · have e2 : (xa == ya) = true := beq_iff_eq.2 h2
      cases hb
      · have e3 := Lib.hid (N3.out h1 h2 rfl)
        have e4 : IntKind.i64.wrap (xs + xl) = xs + xl := IntWalk.i64_in _ (by omega)
        clear h1 h2
        go_enter Try.func76, Try.ntmps76
        go_wp2_with fail
        refine wp_region_quiet_below (by kernel_rfl) (by kernel_rfl) ?_
        repeat (go_big_quiet_step (first | exact CE.out _ _ _ | exact CH.out _ _ _))
        refine wpQuiet_nil ?_
        intro _ hw'
        obtain ⟨⟨dq, osq⟩, hw''⟩ := hw'
        subst hw''
        go_wp2_with fail
        go_ret
        rw [e3.out]
        exact ⟨rfl, blwO (below_regrown _ dq osq) HB0.out⟩
      · rw [HX.out rfl h1 h2]
        clear h1 h2
        go_enter Try.func76, Try.ntmps76
        go_wp2_with fail
        refine wp_region_quiet_below (by kernel_rfl) (by kernel_rfl) ?_
        repeat (go_big_quiet_step (first | exact CE.out _ _ _ | exact CH.out _ _ _))
        refine wpQuiet_nil ?_
        intro _ hw'
        obtain ⟨⟨dq, osq⟩, hw''⟩ := hw'
        subst hw''
        go_wp2_with fail
        go_ret
        exact ⟨rfl, blwO (below_regrown _ dq osq) HB0.out⟩
    · have e2 : (xa == ya) = false := beq_eq_false_iff_ne.2 h2
      rw [N2.out h2]
      clear h1 h2
      go_enter Try.func76, Try.ntmps76
      go_wp2_with fail
      refine wp_region_quiet_below (by kernel_rfl) (by kernel_rfl) ?_
      repeat (go_big_quiet_step (first | exact CE.out _ _ _ | exact CH.out _ _ _))
      refine wpQuiet_nil ?_
      intro _ hw'
      obtain ⟨⟨dq, osq⟩, hw''⟩ := hw'
      subst hw''
      go_wp2_with fail
      go_ret
      exact ⟨rfl, blwO (below_regrown _ dq osq) HB0.out⟩
  · have e1 : (st == yo) = false := beq_eq_false_iff_ne.2 h1
    rw [N1.out h1]
    clear h1
    go_enter Try.func76, Try.ntmps76
    go_wp2_with fail
    refine wp_region_quiet_below (by kernel_rfl) (by kernel_rfl) ?_
    repeat (go_big_quiet_step (first | exact CE.out _ _ _ | exact CH.out _ _ _))
    refine wpQuiet_nil ?_
    intro _ hw'
    obtain ⟨⟨dq, osq⟩, hw''⟩ := hw'
    subst hw''
    go_wp2_with fail
    go_ret
    exact ⟨rfl, blwO (below_regrown _ dq osq) HB0.out⟩
end Go.Proofs.Ytfkgeefoknaldaa
namespace Go.Proofs.Ytfkgeefoknaldaa
set_option linter.unusedVariables false
open Go.ChangeShapes Go.WideShapes Go.ChangeAt Go.RowKit
set_option maxRecDepth 20000
/-- a move's four cells -/
def mvC (m : Mv) : List Value := [.int .i64 m.addr, .int .i64 m.src, .int .i64 m.len, .int .i64 m.at_]
def MvIn (w : World) (m : Mv) : Prop := i64w m.addr ∧ i64w m.src ∧ i64w m.len ∧ i64w m.at_
instance : Inhabited Mv := ⟨⟨0, 0, 0, 0⟩⟩
abbrev MvL (w : World) (ao : Option Addr) (l : List Mv) : Prop := Row w ao 4 mvC l
theorem MvL.below {w w' : World} {ao : Option Addr} {l : List Mv} (h : MvL w ao l) (hb : Below w.heap.size w w') : MvL w' ao l := Row.below h hb
theorem MvL.at {w : World} {ao : Option Addr} {l : List Mv} (h : MvL w ao l) (k : Nat) (hk : k < l.length) : ∃ bk off, ao = some ⟨bk, off, none⟩ ∧ w.cell? ⟨bk, off + k * 4, none⟩ = some (.int .i64 l[k].addr) ∧ w.cell? ⟨bk, off + k * 4 + 1, none⟩ = some (.int .i64 l[k].src) ∧ w.cell? ⟨bk, off + k * 4 + 2, none⟩ = some (.int .i64 l[k].len) ∧ w.cell? ⟨bk, off + k * 4 + 3, none⟩ = some (.int .i64 l[k].at_) := by
  obtain ⟨bk, off, e, h2⟩ := h k hk
  exact ⟨bk, off, e, h2 0 _ rfl, h2 1 _ rfl, h2 2 _ rfl, h2 3 _ rfl⟩
/-- a step; where its moves lie -/
structure Stp where
  kind : Int
  ino : Int
  n : Int
  off : Int
  addr : Int
  ms : List Mv
  ao : Option Addr
  cap : Nat
instance : Inhabited Stp := ⟨⟨0, 0, 0, 0, 0, [], none, 0⟩⟩
def stpC (s : Stp) : List Value := [.int .i64 s.kind, .int .i64 s.ino, .int .i64 s.n, .int .i64 s.off, .int .i64 s.addr, .slice s.ao s.ms.length s.cap]
def stpV (s : Stp) : Value := .agg (stpC s).toArray
structure StpOk (s : Stp) : Prop where
  kind : i64w s.kind
  ino : i64w s.ino
  n : i64w s.n
  off : i64w s.off
  addr : i64w s.addr
  len : s.ms.length ≤ maxLen
  nil : s.ao = none → s.cap = 0
  room : s.ms.length ≤ s.cap
def StpIn (w : World) (s : Stp) : Prop := StpOk s ∧ MvL w s.ao s.ms ∧ ∀ m ∈ s.ms, MvIn w m
theorem StpIn.below {w w' : World} {s : Stp} (h : StpIn w s) (hb : Below w.heap.size w w') : StpIn w' s := ⟨h.1, MvL.below h.2.1 hb, h.2.2⟩
abbrev StpL (w : World) (ao : Option Addr) (l : List Stp) : Prop := Row w ao 6 stpC l
theorem StpL.at {w : World} {ao : Option Addr} {l : List Stp} (h : StpL w ao l) (k : Nat) (hk : k < l.length) : ∃ bk off, ao = some ⟨bk, off, none⟩ ∧ w.cell? ⟨bk, off + k * 6, none⟩ = some (.int .i64 l[k].kind) ∧ w.cell? ⟨bk, off + k * 6 + 1, none⟩ = some (.int .i64 l[k].ino) ∧ w.cell? ⟨bk, off + k * 6 + 2, none⟩ = some (.int .i64 l[k].n) ∧ w.cell? ⟨bk, off + k * 6 + 3, none⟩ = some (.int .i64 l[k].off) ∧ w.cell? ⟨bk, off + k * 6 + 4, none⟩ = some (.int .i64 l[k].addr) ∧ w.cell? ⟨bk, off + k * 6 + 5, none⟩ = some (.slice l[k].ao l[k].ms.length l[k].cap) := by
  obtain ⟨bk, off, e, h2⟩ := h k hk
  exact ⟨bk, off, e, h2 0 _ rfl, h2 1 _ rfl, h2 2 _ rfl, h2 3 _ rfl, h2 4 _ rfl, h2 5 _ rfl⟩
section
variable {H : Type} {enc : TypeId × Value → H} {P : Program} {w : World} {base : Nat} {spare : Nat → Bool} {held : Bool}
theorem mv_cs {n : Nat} {cs : List Value} {y : DataW H × List MemPlace} {e ti : TypeId} {g0 g1 g2 g3 : Field} (he : P.underlying e = some (.struct #[g0, g1, g2, g3])) (h0 : (g0.offset, g0.type) = (0, ti)) (h1 : (g1.offset, g1.type) = (1, ti)) (h2 : (g2.offset, g2.type) = (2, ti)) (h3 : (g3.offset, g3.type) = (3, ti))
    (ui : P.underlying ti = some (.int .i64)) (ci : P.cellsOf ti = 1) (hl : cs.length = 4)
    (hf : DataW.trod enc P w base spare held n e cs = some y) : ∃ x : Mv, cs = mvC x ∧ MvIn w x := by
  obtain ⟨a, b, c, d, e, w0, w1, w2, w3⟩ := four_ints he h0 h1 h2 h3 ui ci hl hf
  exact ⟨⟨a, b, c, d⟩, e, w0, w1, w2, w3⟩
/-- what the types must be -/
structure StpT (P : Program) (t ti tm te : TypeId) : Prop where
  under : ∃ g0 g1 g2 g3 g4 g5 : Field, P.underlying t = some (.struct #[g0, g1, g2, g3, g4, g5]) ∧ (g0.offset, g0.type) = (0, ti) ∧ (g1.offset, g1.type) = (1, ti) ∧ (g2.offset, g2.type) = (2, ti) ∧ (g3.offset, g3.type) = (3, ti) ∧ (g4.offset, g4.type) = (4, ti) ∧ (g5.offset, g5.type) = (5, tm)
  cells : P.cellsOf t = 6
  ui : P.underlying ti = some (.int .i64)
  ci : P.cellsOf ti = 1
  cm : P.cellsOf tm = 1
  um : P.underlying tm = some (.slice te)
  ce : P.cellsOf te = 4
  ue : ∃ g0 g1 g2 g3 : Field, P.underlying te = some (.struct #[g0, g1, g2, g3]) ∧ (g0.offset, g0.type) = (0, ti) ∧ (g1.offset, g1.type) = (1, ti) ∧ (g2.offset, g2.type) = (2, ti) ∧ (g3.offset, g3.type) = (3, ti)
theorem stp_cs {n : Nat} {cs : List Value} {y : DataW H × List MemPlace} {t ti tm te : TypeId} (T : StpT P t ti tm te) (hl : cs.length = 6)
    (hf : DataW.trod enc P w base spare held n t cs = some y) : ∃ s : Stp, cs = stpC s ∧ StpIn w s := by
  obtain ⟨g0, g1, g2, g3, g4, g5, he, h0, h1, h2, h3, h4, h5⟩ := T.under
  obtain ⟨k0, k1, k2, k3, ue, r0, r1, r2, r3⟩ := T.ue
  obtain ⟨xs, m, _, _, _, hxl, hg⟩ := DataW.trod_struct he hf
  have hxl2 : xs.length = 6 := hxl
  simp only [Prod.mk.injEq] at h0 h1 h2 h3 h4 h5
  have a0 := hg 0 g0 rfl
  have a1 := hg 1 g1 rfl
  have a2 := hg 2 g2 rfl
  have a3 := hg 3 g3 rfl
  have a4 := hg 4 g4 rfl
  have a5 := hg 5 g5 rfl
  rw [h0.1, h0.2, T.ci, List.getElem?_eq_getElem (by omega)] at a0
  rw [h1.1, h1.2, T.ci, List.getElem?_eq_getElem (by omega)] at a1
  rw [h2.1, h2.2, T.ci, List.getElem?_eq_getElem (by omega)] at a2
  rw [h3.1, h3.2, T.ci, List.getElem?_eq_getElem (by omega)] at a3
  rw [h4.1, h4.2, T.ci, List.getElem?_eq_getElem (by omega)] at a4
  rw [h5.1, h5.2, T.cm, List.getElem?_eq_getElem (by omega)] at a5
  obtain ⟨x0, e0, _, w0⟩ := DataW.trod_int T.ui a0
  obtain ⟨x1, e1, _, w1⟩ := DataW.trod_int T.ui a1
  obtain ⟨x2, e2, _, w2⟩ := DataW.trod_int T.ui a2
  obtain ⟨x3, e3, _, w3⟩ := DataW.trod_int T.ui a3
  obtain ⟨x4, e4, _, w4⟩ := DataW.trod_int T.ui a4
  obtain ⟨ao, cap, L, e5, hL, hR, hI, hn, hc⟩ := rows_cs (f := mvC) (ok := MvIn) (n := 3) T.um T.ce (fun m cs y hl hf => mv_cs ue r0 r1 r2 r3 T.ui T.ci hl hf) a5
  refine ⟨⟨x0, x1, x2, x3, x4, L, ao, cap⟩, ?_, ⟨w0, w1, w2, w3, w4, hL, hn, hc⟩, hR, hI⟩
  match cs, hl with
  | [c0, c1, c2, c3, c4, c5], _ =>
    simp at e0 e1 e2 e3 e4 e5
    rw [e0, e1, e2, e3, e4, e5]
    rfl
/-- a step that was handed over by value -/
theorem open_stp {r : Reach} {b0 : Nat} {t ti tm te : TypeId} {v : Value} {d : DataW H} {p : List MemPlace} (T : StpT P t ti tm te) (hv : Value.okWide P w r b0 t v) (h : DataW.Trod enc P w base spare held t v d p) : ∃ s : Stp, v = stpV s ∧ StpIn w s := by
  obtain ⟨g0, g1, g2, g3, g4, g5, he, _⟩ := T.under
  obtain ⟨A, rfl, hsz⟩ := okWide_rec he hv
  obtain ⟨fuel, hf⟩ := h
  have hA : A.toList.length = 6 := by rw [Array.length_toList, hsz, T.cells]
  obtain ⟨s, e, hs⟩ := stp_cs T hA hf
  refine ⟨s, ?_, hs⟩
  unfold stpV
  rw [← Array.toArray_toList (xs := A), e]
/-- two small numbers -/
structure Pr where
  a : Int
  b : Int
instance : Inhabited Pr := ⟨⟨0, 0⟩⟩
def prC (x : Pr) : List Value := [.int .u16 x.a, .int .u16 x.b]
def PrIn (w : World) (x : Pr) : Prop := (0 ≤ x.a ∧ x.a < 65536) ∧ 0 ≤ x.b ∧ x.b < 65536
theorem u16_wf {a : Int} (h : (Lit.int .u16 a).wf = true) : 0 ≤ a ∧ a < 65536 := by
  simp [Lit.wf] at h
  have e0 : IntKind.u16.min = 0 := by decide
  have e1 : IntKind.u16.max = 65535 := by decide
  omega
theorem pr_cs {n : Nat} {cs : List Value} {y : DataW H × List MemPlace} {e ti : TypeId} (he : P.underlying e = some (.array 2 ti)) (ui : P.underlying ti = some (.int .u16)) (ci : P.cellsOf ti = 1) (hl : cs.length = 2)
    (hf : DataW.trod enc P w base spare held n e cs = some y) : ∃ x : Pr, cs = prC x ∧ PrIn w x := by
  obtain ⟨xs, m, _, _, hxl, _, hall⟩ := DataW.trod_array he hf
  have a0 := hall 0 (by omega)
  have a1 := hall 1 (by omega)
  rw [ci, List.getElem?_eq_getElem (by omega)] at a0 a1
  obtain ⟨x0, e0, _, w0⟩ := DataW.trod_int ui a0
  obtain ⟨x1, e1, _, w1⟩ := DataW.trod_int ui a1
  refine ⟨⟨x0, x1⟩, ?_, u16_wf w0, u16_wf w1⟩
  match cs, hl with
  | [c0, c1], _ =>
    simp at e0 e1
    rw [e0, e1]
    rfl
end
end Go.Proofs.Ytfkgeefoknaldaa
