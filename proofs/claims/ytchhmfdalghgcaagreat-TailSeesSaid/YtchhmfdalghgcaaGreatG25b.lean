/- Which kinds of questions go to a unit, to the sequencer, to the layout; the nodes themselves; nodes that nobody made. Conditions: as each statement says. How the statements make a hand over new nodes, and the document's beside it. Conditions: the program's functions return what HandSays says. The program's own hand: copies of questions; a hand is made; its nodes; hands that nobody made. Conditions: as each statement says. -/
import Derived.Test.YtchhmfdalghgcaaGreatG24a
import Derived.Test.YtchhmfdalghgcaaGreatG17b
import Derived.Test.YtchhmfdalghgcaaGreatG23a
import Derived.Test.YtchhmfdalghgcaaGreatG23b
import Derived.LaidEqlPtr
import Derived.Test.YtchhmfdalghgcaaGreatG11b
import Derived.Test.YtchhmfdalghgcaaGreatG03a
import Derived.Laws.ResultCell
import Derived.Laws.Rows
set_option linter.unusedVariables false
namespace Go.Proofs.YtchhmfdalghgcaaGreat
set_option linter.unusedVariables false
open Go.RowKit
set_option maxRecDepth 20000
theorem row5 (w : World) : NLI (w.alloc (.cells #[.int .i64 1, .int .i64 2, .int .i64 3, .int .i64 4, .int .i64 5] 3)) (some ⟨w.heap.size, 0, none⟩) 5 [1, 2, 3, 4, 5] := by
  have h := heap_alloc_new w (.cells #[.int .i64 1, .int .i64 2, .int .i64 3, .int .i64 4, .int .i64 5] 3)
  refine ⟨fun j hj => ?_, (fun e => by cases e), Nat.le_refl _⟩
  match j, hj with
  | 0, _ => exact ⟨⟨_, _, rfl, cell_of h 0⟩, i64w_small (x := 1) (by omega)⟩
  | 1, _ => exact ⟨⟨_, _, rfl, cell_of h 1⟩, i64w_small (x := 2) (by omega)⟩
  | 2, _ => exact ⟨⟨_, _, rfl, cell_of h 2⟩, i64w_small (x := 3) (by omega)⟩
  | 3, _ => exact ⟨⟨_, _, rfl, cell_of h 3⟩, i64w_small (x := 4) (by omega)⟩
  | 4, _ => exact ⟨⟨_, _, rfl, cell_of h 4⟩, i64w_small (x := 5) (by omega)⟩
  | n + 5, hj => simp at hj; omega
theorem row3 (a b c : Int) (ha : i64w a) (hb : i64w b) (hc : i64w c) (w : World) : NLI (w.alloc (.cells #[.int .i64 a, .int .i64 b, .int .i64 c] 3)) (some ⟨w.heap.size, 0, none⟩) 3 [a, b, c] := by
  have h := heap_alloc_new w (.cells #[.int .i64 a, .int .i64 b, .int .i64 c] 3)
  refine ⟨fun j hj => ?_, (fun e => by cases e), Nat.le_refl _⟩
  match j, hj with
  | 0, _ => exact ⟨⟨_, _, rfl, cell_of h 0⟩, ha⟩
  | 1, _ => exact ⟨⟨_, _, rfl, cell_of h 1⟩, hb⟩
  | 2, _ => exact ⟨⟨_, _, rfl, cell_of h 2⟩, hc⟩
  | n + 3, hj => simp at hj; omega
theorem is_uu (v : Value) (W : World) : (Instr.typeAssert (.iface 75 v) 105 75 true).run Tryz.prog W = .ok (.tuple #[v, .bool true]) W := by kernel_rfl
theorem is_ou (v : Value) (W : World) : (Instr.typeAssert (.iface 45 v) 105 75 true).run Tryz.prog W = .ok (.tuple #[.pointer none, .bool false]) W := by kernel_rfl
theorem is_oo (v : Value) (W : World) : (Instr.typeAssert (.iface 45 v) 105 45 true).run Tryz.prog W = .ok (.tuple #[v, .bool true]) W := by kernel_rfl
theorem is_lu (v : Value) (W : World) : (Instr.typeAssert (.iface 77 v) 105 75 true).run Tryz.prog W = .ok (.tuple #[.pointer none, .bool false]) W := by kernel_rfl
theorem is_lo (v : Value) (W : World) : (Instr.typeAssert (.iface 77 v) 105 45 true).run Tryz.prog W = .ok (.tuple #[.pointer none, .bool false]) W := by kernel_rfl
theorem is_ll (v : Value) (W : World) : (Instr.typeAssert (.iface 77 v) 105 77 true).run Tryz.prog W = .ok (.tuple #[v, .bool true]) W := by kernel_rfl
/-- the kinds that go to a node -/
def Kinds (l : List Int) (w : World) (e : Ending) (w' : World) : Prop := ∃ ao : Option Addr, e = .returned (.slice ao l.length l.length) ∧ NLI w' ao l.length l ∧ Below w.heap.size w w'
theorem kinds_unit (v : Value) (w : World) : Calls Tryz.prog 48 #[.iface 75 v] w (Kinds [1, 2, 3, 4, 5] w) := by
  have H := Lib.hid (row5 w)
  have F0 := is_uu
  go_enter Tryz.func48, Tryz.ntmps48
  go_wp2_with fail
  go_ret
  exact ⟨_, rfl, H.out, (Below.refl _ _).alloc (Nat.le_refl _) _⟩
theorem kinds_order (v : Value) (w : World) : Calls Tryz.prog 48 #[.iface 45 v] w (Kinds [6, 7, 8] w) := by
  have H := Lib.hid (row3 6 7 8 (i64w_small (by omega)) (i64w_small (by omega)) (i64w_small (by omega)) w)
  have F0 := is_ou
  have F1 := is_oo
  go_enter Tryz.func48, Tryz.ntmps48
  go_wp2_with fail
  go_ret
  exact ⟨_, rfl, H.out, (Below.refl _ _).alloc (Nat.le_refl _) _⟩
theorem kinds_layout (v : Value) (w : World) : Calls Tryz.prog 48 #[.iface 77 v] w (Kinds [9, 10, 11] w) := by
  have H := Lib.hid (row3 9 10 11 (i64w_small (by omega)) (i64w_small (by omega)) (i64w_small (by omega)) w)
  have F0 := is_lu
  have F1 := is_lo
  have F2 := is_ll
  go_enter Tryz.func48, Tryz.ntmps48
  go_wp2_with fail
  go_ret
  exact ⟨_, rfl, H.out, (Below.refl _ _).alloc (Nat.le_refl _) _⟩
theorem rp_unit_nil (i : Int) (w : World) : Calls Tryz.prog 45 #[.pointer none, .int .i64 i] w fun e w' => e = .returned (.pointer none) ∧ w = w' := by
  go_enter Tryz.func45, Tryz.ntmps45
  go_wp2_with fail
  go_ret
  exact ⟨rfl, rfl⟩
theorem rp_order_nil (w : World) : Calls Tryz.prog 13 #[.pointer none] w fun e w' => e = .returned (.pointer none) ∧ w = w' := by
  go_enter Tryz.func13, Tryz.ntmps13
  go_wp2_with fail
  go_ret
  exact ⟨rfl, rfl⟩
theorem rp_layout_nil (w : World) : Calls Tryz.prog 46 #[.pointer none] w fun e w' => e = .returned (.pointer none) ∧ w = w' := by
  go_enter Tryz.func46, Tryz.ntmps46
  go_wp2_with fail
  go_ret
  exact ⟨rfl, rfl⟩
theorem rp_unit_no (b : Nat) (i : Int) (h : i < 0 ∨ 15 < i) (w : World) : Calls Tryz.prog 45 #[.pointer (some ⟨b, 0, none⟩), .int .i64 i] w fun e w' => e = .returned (.pointer none) ∧ w = w' := by
  by_cases h0 : i < 0
  · clear h
    go_enter Tryz.func45, Tryz.ntmps45
    go_wp2_with fail
    go_ret
    exact ⟨rfl, rfl⟩
  · have h1 : 16 ≤ i := by omega
    have h2 : 0 ≤ i := by omega
    clear h h0
    go_enter Tryz.func45, Tryz.ntmps45
    go_wp2_with fail
    go_ret
    exact ⟨rfl, rfl⟩
theorem rp_unit_yes {b i : Nat} (hi : i < 16) {w : World} {p : Nat} (hc : w.cell? ⟨b, i, none⟩ = some (.pointer (some ⟨p, 0, none⟩))) : Calls Tryz.prog 45 #[.pointer (some ⟨b, 0, none⟩), .int .i64 i] w fun e w' => e = .returned (.pointer (some ⟨p, 0, none⟩)) ∧ w = w' := by
  have h0 : 0 ≤ (i : Int) := by omega
  have h1 : (i : Int) < 16 := by omega
  have hb := block_lt_of_cell hc
  go_enter Tryz.func45, Tryz.ntmps45
  go_wp2_with fail
  go_ret
  exact ⟨rfl, rfl⟩
theorem rp_order {b : Nat} {w : World} {p : Nat} (hc : w.cell? ⟨b, 16, none⟩ = some (.pointer (some ⟨p, 0, none⟩))) : Calls Tryz.prog 13 #[.pointer (some ⟨b, 0, none⟩)] w fun e w' => e = .returned (.pointer (some ⟨p, 0, none⟩)) ∧ w = w' := by
  have hb := block_lt_of_cell hc
  go_enter Tryz.func13, Tryz.ntmps13
  go_wp2_with fail
  go_ret
  exact ⟨rfl, rfl⟩
theorem rp_layout {b : Nat} {w : World} {p : Nat} (hc : w.cell? ⟨b, 17, none⟩ = some (.pointer (some ⟨p, 0, none⟩))) : Calls Tryz.prog 46 #[.pointer (some ⟨b, 0, none⟩)] w fun e w' => e = .returned (.pointer (some ⟨p, 0, none⟩)) ∧ w = w' := by
  have hb := block_lt_of_cell hc
  go_enter Tryz.func46, Tryz.ntmps46
  go_wp2_with fail
  go_ret
  exact ⟨rfl, rfl⟩
end Go.Proofs.YtchhmfdalghgcaaGreat
namespace Go.Proofs.YtchhmfdalghgcaaGreat
set_option linter.unusedVariables false
open Go.RowKit
set_option maxRecDepth 20000
section
variable {α β : Type} {T : (Nat → Prop) → World → α → Prop} {U : (Nat → Prop) → World → β → Prop} {X : Nat → Prop} {w : World} {a : α} {b : β}
theorem Side.left (h : Side T U X w a b) : Solo T X w a := by
  obtain ⟨h1, F, G, h2, h3, h4, h5⟩ := h
  exact ⟨h1, F, h2, fun k hk => (h4 k hk).1⟩
end
section
variable {UG : Nat → Nat → (Nat → Prop) → World → Us → Prop} {OG : Nat → (Nat → Prop) → World → Od → Prop} {LG : Nat → (Nat → Prop) → World → Ly → Prop} {NG : Nat → (Nat → Prop) → World → Nd → Prop} {HG : Nat → Nat → (Nat → Prop) → World → Hd → Prop} {X : Nat → Prop} {w w' : World} {b nb r rn : Nat} {n m : Nd} {h : Hd}
/-- the document's hand that was just made over nodes -/
theorem rh_made {T : (Nat → Prop) → World → Hd → Prop} (hT : Thing T) (hs : Side T (RN rn) X w h m) : Side T (RH w.heap.size rn) X (w.alloc (.cells #[.pointer (some ⟨rn, 0, none⟩), .slice none 0 0] 69)) h ⟨m, []⟩ := by
  have hb : Below w.heap.size w (w.alloc (.cells #[.pointer (some ⟨rn, 0, none⟩), .slice none 0 0] 69)) := below_new _ _
  obtain ⟨h1, F, G, h2, h3, h4, h5⟩ := hs
  have kp := Kept.ofBelow hb (fun _ => True)
  refine ⟨fun k hk => Nat.lt_of_lt_of_le (h1 k hk) hb.size, F, fun k => G k ∨ k = w.heap.size, hT.keep h2 kp (fun _ _ => trivial), ⟨Nat.zero_le _, .slice none 0 0, G, heap_alloc_new _ _, OR.nil _ _, (rn_thing rn).keep h3 kp (fun _ _ => trivial), .inr rfl, fun hg => ?_, fun k hk => .inl hk, fun k e => (by cases e), fun k hk => ?_⟩, fun k hk => ⟨(h4 k hk).1, fun hg => ?_⟩, fun k hk hg => ?_⟩
  · exact Nat.lt_irrefl _ ((rn_thing rn).lt h3 _ hg)
  · rcases hk with hk | hk
    · exact Nat.lt_of_lt_of_le ((rn_thing rn).lt h3 k hk) hb.size
    · subst hk; simp
  · rcases hg with hg | hg
    · exact (h4 k hk).2 hg
    · have := h1 k hk; omega
  · rcases hg with hg | hg
    · exact h5 k hk hg
    · have := hT.lt h2 k hk; omega
/-- the program's hand over nodes, beside anything -/
theorem h_new {U : (Nat → Prop) → World → Nd → Prop} (HS : HandSays UG OG LG NG HG) (hU : Thing U) (hs : Side (NG nb) U X w n m) :
    Calls Tryz.prog 27 #[.pointer (some ⟨nb, 0, none⟩)] w fun e w' => ∃ b : Nat, e = .returned (.pointer (some ⟨b, 0, none⟩)) ∧ Side (HG b nb) U X w' ⟨n, []⟩ m ∧ Below w.heap.size w w' := by
  obtain ⟨h1, F, G, h2, h3, h4, h5⟩ := hs
  refine (HS.new nb F w n h2).mono ?_
  rintro e w' ⟨b, he, ⟨F', k1, k2, k3⟩, hb⟩
  refine ⟨b, he, ⟨fun k hk => Nat.lt_of_lt_of_le (h1 k hk) hb.size, F', G, k1, hU.keep h3 (Kept.ofBelow hb (fun _ => True)) (fun _ _ => trivial), fun k hk => ⟨fun hf => ?_, (h4 k hk).2⟩, fun k hk hg => ?_⟩, hb⟩
  · rcases k3 k hf with h | h
    · exact (h4 k hk).1 h
    · have := h1 k hk; omega
  · rcases k3 k hk with h | h
    · exact h5 k h hg
    · have := hU.lt h3 k hg; omega
theorem h_nodes {U : (Nat → Prop) → World → Hd → Prop} {h2 : Hd} (HS : HandSays UG OG LG NG HG) (hU : Thing U) (hs : Side (HG b nb) U X w h h2) :
    Calls Tryz.prog 12 #[.pointer (some ⟨b, 0, none⟩)] w fun e w' => e = .returned (.pointer (some ⟨nb, 0, none⟩)) ∧ Side (HG b nb) U X w' h h2 ∧ Below w.heap.size w w' := by
  obtain ⟨_, F, _, hF, _⟩ := id hs
  exact (HS.nodes b nb F w h hF).mono fun e w' ⟨he, hb⟩ => ⟨he, hs.below (HS.thing b nb) hU hb, hb⟩
end
theorem nodesInfo : (Tryz.prog.info? 79).isSome = true := by kernel_rfl
theorem nodes_eq (b : Nat) (w : World) : (binOp .eql 46 (.pointer (some ⟨b, 0, none⟩)) (.pointer (some ⟨b, 0, none⟩))).run Tryz.prog w = .ok (.bool true) w := by
  obtain ⟨j, hj⟩ := Option.isSome_iff_exists.1 nodesInfo
  exact run_eql_ptr_same w _ Tryz.underlying46 hj
set_option maxHeartbeats 4000000 in
theorem made14_yes {UG : Nat → Nat → (Nat → Prop) → World → Us → Prop} {OG : Nat → (Nat → Prop) → World → Od → Prop} {LG : Nat → (Nat → Prop) → World → Ly → Prop} {NG : Nat → (Nat → Prop) → World → Nd → Prop} {HG : Nat → Nat → (Nat → Prop) → World → Hd → Prop} (HS : HandSays UG OG LG NG HG) (ep : Int) (ao : Option Addr) (cap : Nat) (L : List (List Int)) (room : Int) (w : World) (h : CL w ao L) (hl : fewL L) (hg : goodB ep L = true) (hr : 1 ≤ room ∧ room ≤ 4096) (he : i64w ep) :
    Calls Tryz.prog 6 #[.agg #[.int .i64 ep, .slice ao L.length cap], .int .i64 room] w fun e w' => ∃ b nb r rn : Nat, e = .returned (.tuple #[.pointer (some ⟨b, 0, none⟩), .pointer (some ⟨r, 0, none⟩), .bool true]) ∧ Side (HG b nb) (RH r rn) (fun k => k < w.heap.size) w' ⟨newN ep L room, []⟩ ⟨newN ep L room, []⟩ ∧ Below w.heap.size w w' := by
  have HB0 := Lib.hid (below_new w (.cells #[.int .i64 ep, .slice ao L.length cap] 29))
  have HX0 := Lib.hid (show (w.alloc (.cells #[.int .i64 ep, .slice ao L.length cap] 29)).heap[w.heap.size]? = some (.cells #[.int .i64 ep, .slice ao L.length cap] 29 (0, 0)) from heap_alloc_new _ _)
  have HC := Lib.hid (h.below HB0.out)
  have H1000 := Lib.hid (show L.length ≤ 1000 ∧ ∀ c ∈ L, c.length ≤ 1000 from ⟨Nat.le_trans hl.1 (by decide), fun c hc => Nat.le_trans (hl.2 c hc) (by decide)⟩)
  have TT := Lib.hid (fun b => HS.rpc.thing b)
  obtain ⟨c0, c1, _, _⟩ := two_cells HX0.out
  have CN := Lib.hid (fun (go : Option Addr) (gc : Nat) (w : World) (h : CL w go L) => n_new HS.rpc (cap := gc) h hl hg hr)
  have CM := Lib.hid (fun (w : World) (h : CL w ao L) => rn_new_yes ep ao cap L room w h hl hg hr he)
  have TH := Lib.hid (fun b nb => HS.thing b nb)
  have EQ := fun b w => nodes_eq b w
  unfold ptrN at CN
  generalize newN ep L room = N at *
  clear h hl hg hr he
  go_enter Tryz.func6, Tryz.ntmps6
  go_wp2_with (first
    | (go_at_call 23; refine (keepCopyO_any ep ao cap L _ HC.out H1000.out).mono ?_; rintro e w3 ⟨v, rfl, hO, hb3⟩; obtain ⟨go, gc, hv, hN3, _, _⟩ := hO.form; subst hv; have HN3 := Lib.hid hN3; have B3 := Lib.hid (HB0.out.trans (hb3.mono HB0.out.size)); have HC3 := Lib.hid (HC.out.below hb3); have HX3 := Lib.hid (below_heap hb3 HX0.out); clear hO hN3 hb3 c0 c1)
    | (go_at_call 25; refine (CN.out go gc _ HN3.out).mono ?_; rintro e w4 ⟨b, rfl, hs4, hb4⟩; have S4 := Lib.hid (hs4.less (fun k hk => Nat.lt_of_lt_of_le hk B3.out.size)); have B4 := Lib.hid (B3.out.trans (hb4.mono B3.out.size)); have HC4 := Lib.hid (HC3.out.below hb4); obtain ⟨c0, c1, _, _⟩ := two_cells (below_heap hb4 HX3.out); clear hs4 hb4)
    | (go_at_call 26; refine (CM.out _ HC4.out).mono ?_; rintro e w5 ⟨r, G5, rfl, hr5, hg5, hb5⟩; have D5 := Lib.hid (show Side (NG b) (RN r) (fun k => k < w.heap.size) w5 N N from Side.made (TT.out b) S4.out hb5 hr5 hg5); have B5 := Lib.hid (B4.out.trans (hb5.mono B4.out.size)); clear hr5 hg5 hb5 c0 c1)
    | (go_at_call 27; refine (h_new HS (rn_thing r) D5.out).mono ?_; rintro e w6 ⟨hb, rfl, hs6, hb6⟩; have D6 := Lib.hid (rh_made (TH.out hb b) hs6); have B6 := Lib.hid ((B5.out.trans (hb6.mono B5.out.size)).alloc (B5.out.trans (hb6.mono B5.out.size)).size (.cells #[.pointer (some ⟨r, 0, none⟩), .slice none 0 0] 69)); clear hs6 hb6)
    | (go_at_call 12; refine (h_nodes HS (rh_thing w6.heap.size r) D6.out).mono ?_; rintro e w7 ⟨rfl, hs7, hb7⟩; have D7 := Lib.hid hs7; have B7 := Lib.hid (B6.out.trans (hb7.mono B6.out.size)); clear hs7 hb7))
  go_ret3
  exact ⟨hb, b, w6.heap.size, r, rfl, D7.out, B7.out⟩
end Go.Proofs.YtchhmfdalghgcaaGreat
namespace Go.Proofs.YtchhmfdalghgcaaGreat
set_option linter.unusedVariables false
open Go.RowKit
set_option maxRecDepth 20000
theorem row_tmp_ret {P : Program} {fn : Func} {p u : Tmp} {ty : TypeId} (h : fn.results = #[.cell p ty, .tmp u]) {a : Act} {w : World} {g : Nat} {t : TypeId} {cs : Array Value} {d : TypeDesc} {x : Value} {R : Ending → World → Prop}
    (hg : w.heap[g]? = some (.cells cs t (0, 0))) (hp : a.tmps.getD p undef = .pointer (some ⟨g, 0, none⟩)) (hx : a.tmps.getD u undef = x) (hdf : a.defers = [])
    (hu : P.underlying ty = some d) (hd : (match d with | .struct _ | .array _ _ => true | _ => false) = true) (hi : (P.info? ty).map (·.size) = some cs.size)
    (hR : R (.returned (.tuple #[.agg cs, x])) w) : bodyPost P fn R .ret a w := by
  have e : (results fn a.tmps).run P w = .ok (.tuple #[.agg cs, a.tmps.getD u undef]) w := by
    rw [results_cell_tmp h, hp]
    simp [asAddr, Result.andThen, run_loadVar_row w g t ty cs (0, 0) d hg hu hd hi]
  rw [hx] at e
  exact bodyPost_ret e hdf hR
theorem ask_ret {fn : Func} {p : Tmp} (h : fn.results = #[.cell p 37]) {a : Act} {w : World} {g : Nat} {x : Ak} {R : Ending → World → Prop}
    (hg : w.heap[g]? = some (.cells (askC x).toArray 37 (0, 0))) (hp : a.tmps.getD p undef = .pointer (some ⟨g, 0, none⟩)) (hd : a.defers = [])
    (hR : R (.returned (askV x)) w) : bodyPost Tryz.prog fn R .ret a w :=
  bodyPost_ret (results_cell_row h a.tmps w g 37 (askC x).toArray (0, 0) _ hp hg Tryz.underlying37 rfl (by kernel_rfl)) hd hR
theorem ask_ret2 {fn : Func} {p u : Tmp} (h : fn.results = #[.cell p 37, .tmp u]) {a : Act} {w : World} {g : Nat} {x : Ak} {c : Bool} {R : Ending → World → Prop}
    (hg : w.heap[g]? = some (.cells (askC x).toArray 37 (0, 0))) (hp : a.tmps.getD p undef = .pointer (some ⟨g, 0, none⟩)) (hx : a.tmps.getD u undef = .bool c) (hd : a.defers = [])
    (hR : R (.returned (.tuple #[askV x, .bool c])) w) : bodyPost Tryz.prog fn R .ret a w :=
  row_tmp_ret h hg hp hx hd Tryz.underlying37 rfl (by kernel_rfl) hR
theorem ans_ret2 {fn : Func} {p u : Tmp} (h : fn.results = #[.cell p 33, .tmp u]) {a : Act} {w : World} {g : Nat} {x : An} {ao : Option Addr} {cap : Nat} {c : Bool} {R : Ending → World → Prop}
    (hg : w.heap[g]? = some (.cells (ansC x ao cap).toArray 33 (0, 0))) (hp : a.tmps.getD p undef = .pointer (some ⟨g, 0, none⟩)) (hx : a.tmps.getD u undef = .bool c) (hd : a.defers = [])
    (hR : R (.returned (heardT x c ao cap)) w) : bodyPost Tryz.prog fn R .ret a w :=
  row_tmp_ret h hg hp hx hd Tryz.underlying33 rfl (by kernel_rfl) hR
/-- nine cells in a block of their own -/
theorem nine_of {w : World} {b : Nat} {t : TypeId} {v0 v1 v2 v3 v4 v5 v6 v7 v8 : Value} (h : w.heap[b]? = some (.cells #[v0, v1, v2, v3, v4, v5, v6, v7, v8] t (0, 0))) :
    (w.cell? ⟨b, 0, none⟩ = some v0 ∧ w.cell? ⟨b, 1, none⟩ = some v1 ∧ w.cell? ⟨b, 2, none⟩ = some v2 ∧ w.cell? ⟨b, 3, none⟩ = some v3 ∧ w.cell? ⟨b, 4, none⟩ = some v4 ∧ w.cell? ⟨b, 5, none⟩ = some v5 ∧ w.cell? ⟨b, 6, none⟩ = some v6 ∧ w.cell? ⟨b, 7, none⟩ = some v7 ∧ w.cell? ⟨b, 8, none⟩ = some v8) ∧
    w.frozen? ⟨b, 0, none⟩ = false ∧ w.frozen? ⟨b, 1, none⟩ = false ∧ w.frozen? ⟨b, 2, none⟩ = false ∧ w.frozen? ⟨b, 3, none⟩ = false ∧ w.frozen? ⟨b, 4, none⟩ = false ∧ w.frozen? ⟨b, 5, none⟩ = false ∧ w.frozen? ⟨b, 6, none⟩ = false ∧ w.frozen? ⟨b, 7, none⟩ = false ∧ w.frozen? ⟨b, 8, none⟩ = false :=
  ⟨⟨cell_of h 0, cell_of h 1, cell_of h 2, cell_of h 3, cell_of h 4, cell_of h 5, cell_of h 6, cell_of h 7, cell_of h 8⟩, free_of h 0, free_of h 1, free_of h 2, free_of h 3, free_of h 4, free_of h 5, free_of h 6, free_of h 7, free_of h 8⟩
theorem nset0 {w : World} {b : Nat} {x0 x1 x2 x3 x4 x5 x6 x7 x8 : Value} {t : TypeId} (h : w.heap[b]? = some (.cells #[x0, x1, x2, x3, x4, x5, x6, x7, x8] t (0, 0))) (u : Value) : (w.setCell ⟨b, 0, none⟩ u).heap[b]? = some (.cells #[u, x1, x2, x3, x4, x5, x6, x7, x8] t (0, 0)) :=
  heap_setCell_same w b 0 #[x0, x1, x2, x3, x4, x5, x6, x7, x8] t u h
theorem nset1 {w : World} {b : Nat} {x0 x1 x2 x3 x4 x5 x6 x7 x8 : Value} {t : TypeId} (h : w.heap[b]? = some (.cells #[x0, x1, x2, x3, x4, x5, x6, x7, x8] t (0, 0))) (u : Value) : (w.setCell ⟨b, 1, none⟩ u).heap[b]? = some (.cells #[x0, u, x2, x3, x4, x5, x6, x7, x8] t (0, 0)) :=
  heap_setCell_same w b 1 #[x0, x1, x2, x3, x4, x5, x6, x7, x8] t u h
theorem nset2 {w : World} {b : Nat} {x0 x1 x2 x3 x4 x5 x6 x7 x8 : Value} {t : TypeId} (h : w.heap[b]? = some (.cells #[x0, x1, x2, x3, x4, x5, x6, x7, x8] t (0, 0))) (u : Value) : (w.setCell ⟨b, 2, none⟩ u).heap[b]? = some (.cells #[x0, x1, u, x3, x4, x5, x6, x7, x8] t (0, 0)) :=
  heap_setCell_same w b 2 #[x0, x1, x2, x3, x4, x5, x6, x7, x8] t u h
theorem nset3 {w : World} {b : Nat} {x0 x1 x2 x3 x4 x5 x6 x7 x8 : Value} {t : TypeId} (h : w.heap[b]? = some (.cells #[x0, x1, x2, x3, x4, x5, x6, x7, x8] t (0, 0))) (u : Value) : (w.setCell ⟨b, 3, none⟩ u).heap[b]? = some (.cells #[x0, x1, x2, u, x4, x5, x6, x7, x8] t (0, 0)) :=
  heap_setCell_same w b 3 #[x0, x1, x2, x3, x4, x5, x6, x7, x8] t u h
theorem nset4 {w : World} {b : Nat} {x0 x1 x2 x3 x4 x5 x6 x7 x8 : Value} {t : TypeId} (h : w.heap[b]? = some (.cells #[x0, x1, x2, x3, x4, x5, x6, x7, x8] t (0, 0))) (u : Value) : (w.setCell ⟨b, 4, none⟩ u).heap[b]? = some (.cells #[x0, x1, x2, x3, u, x5, x6, x7, x8] t (0, 0)) :=
  heap_setCell_same w b 4 #[x0, x1, x2, x3, x4, x5, x6, x7, x8] t u h
theorem nset5 {w : World} {b : Nat} {x0 x1 x2 x3 x4 x5 x6 x7 x8 : Value} {t : TypeId} (h : w.heap[b]? = some (.cells #[x0, x1, x2, x3, x4, x5, x6, x7, x8] t (0, 0))) (u : Value) : (w.setCell ⟨b, 5, none⟩ u).heap[b]? = some (.cells #[x0, x1, x2, x3, x4, u, x6, x7, x8] t (0, 0)) :=
  heap_setCell_same w b 5 #[x0, x1, x2, x3, x4, x5, x6, x7, x8] t u h
theorem nset6 {w : World} {b : Nat} {x0 x1 x2 x3 x4 x5 x6 x7 x8 : Value} {t : TypeId} (h : w.heap[b]? = some (.cells #[x0, x1, x2, x3, x4, x5, x6, x7, x8] t (0, 0))) (u : Value) : (w.setCell ⟨b, 6, none⟩ u).heap[b]? = some (.cells #[x0, x1, x2, x3, x4, x5, u, x7, x8] t (0, 0)) :=
  heap_setCell_same w b 6 #[x0, x1, x2, x3, x4, x5, x6, x7, x8] t u h
theorem nset7 {w : World} {b : Nat} {x0 x1 x2 x3 x4 x5 x6 x7 x8 : Value} {t : TypeId} (h : w.heap[b]? = some (.cells #[x0, x1, x2, x3, x4, x5, x6, x7, x8] t (0, 0))) (u : Value) : (w.setCell ⟨b, 7, none⟩ u).heap[b]? = some (.cells #[x0, x1, x2, x3, x4, x5, x6, u, x8] t (0, 0)) :=
  heap_setCell_same w b 7 #[x0, x1, x2, x3, x4, x5, x6, x7, x8] t u h
theorem nset8 {w : World} {b : Nat} {x0 x1 x2 x3 x4 x5 x6 x7 x8 : Value} {t : TypeId} (h : w.heap[b]? = some (.cells #[x0, x1, x2, x3, x4, x5, x6, x7, x8] t (0, 0))) (u : Value) : (w.setCell ⟨b, 8, none⟩ u).heap[b]? = some (.cells #[x0, x1, x2, x3, x4, x5, x6, x7, u] t (0, 0)) :=
  heap_setCell_same w b 8 #[x0, x1, x2, x3, x4, x5, x6, x7, x8] t u h
theorem nine_put {w : World} {b : Nat} {t : TypeId} {x0 x1 x2 x3 x4 x5 x6 x7 x8 : Value} (h : w.heap[b]? = some (.cells #[x0, x1, x2, x3, x4, x5, x6, x7, x8] t (0, 0))) (v0 v1 v2 v3 v4 v5 v6 v7 v8 : Value) :
    (World.setCell (World.setCell (World.setCell (World.setCell (World.setCell (World.setCell (World.setCell (World.setCell (World.setCell w ⟨b, 0, none⟩ v0) ⟨b, 1, none⟩ v1) ⟨b, 2, none⟩ v2) ⟨b, 3, none⟩ v3) ⟨b, 4, none⟩ v4) ⟨b, 5, none⟩ v5) ⟨b, 6, none⟩ v6) ⟨b, 7, none⟩ v7) ⟨b, 8, none⟩ v8).heap[b]? = some (.cells #[v0, v1, v2, v3, v4, v5, v6, v7, v8] t (0, 0)) :=
  nset8 (nset7 (nset6 (nset5 (nset4 (nset3 (nset2 (nset1 (nset0 h v0) v1) v2) v3) v4) v5) v6) v7) v8
theorem nine_set (w : World) (b : Nat) (v0 v1 v2 v3 v4 v5 v6 v7 v8 : Value) : Kept (fun k => k ≠ b) w (World.setCell (World.setCell (World.setCell (World.setCell (World.setCell (World.setCell (World.setCell (World.setCell (World.setCell w ⟨b, 0, none⟩ v0) ⟨b, 1, none⟩ v1) ⟨b, 2, none⟩ v2) ⟨b, 3, none⟩ v3) ⟨b, 4, none⟩ v4) ⟨b, 5, none⟩ v5) ⟨b, 6, none⟩ v6) ⟨b, 7, none⟩ v7) ⟨b, 8, none⟩ v8) :=
  ((((((((((Kept.refl _ w).setCell (p := ⟨b, 0, none⟩) (fun h => h rfl) v0).setCell (p := ⟨b, 1, none⟩) (fun h => h rfl) v1).setCell (p := ⟨b, 2, none⟩) (fun h => h rfl) v2).setCell (p := ⟨b, 3, none⟩) (fun h => h rfl) v3).setCell (p := ⟨b, 4, none⟩) (fun h => h rfl) v4).setCell (p := ⟨b, 5, none⟩) (fun h => h rfl) v5).setCell (p := ⟨b, 6, none⟩) (fun h => h rfl) v6).setCell (p := ⟨b, 7, none⟩) (fun h => h rfl) v7).setCell (p := ⟨b, 8, none⟩) (fun h => h rfl) v8)
/-- the question, its chains at another place -/
def Ak.at (a : Ak) (ao : Option Addr) (cap : Nat) : Ak := ⟨a.kind, a.unit, a.epoch, a.page, a.size, a.n, a.data, a.pe, a.L, ao, cap⟩
/-- chains in new memory: the question that bears them may be held -/
theorem at_held {a : Ak} (h : HeldOk a) {w : World} {B : Nat} {v : Value} (hO : OC w B v a.L) : ∃ (ao : Option Addr) (cap : Nat), v = .slice ao a.L.length cap ∧ HeldOk (a.at ao cap) ∧ CK (fun k => B ≤ k ∧ k < w.heap.size) w (a.at ao cap) := by
  have hg := CG.of hO
  obtain ⟨ao, cap, rfl, h1, h2, h3⟩ := hg.cl
  exact ⟨ao, cap, rfl, ⟨⟨h.ok.kind, h.ok.unit, h.ok.epoch, h.ok.page, h.ok.size, h.ok.n, h.ok.data, h.ok.pe, h.ok.len, h.ok.each, h2, h3⟩, h.few, h.data⟩, fun W hW => (hg.keep hW (fun _ h => h)).here.1⟩
set_option maxHeartbeats 1600000 in
theorem apart_any (a : Ak) (w : World) (ha : HeldOk a) (hC : CL w a.ao a.L) : Calls Tryz.prog 49 #[askV a] w fun e w' => ∃ (ao : Option Addr) (cap : Nat), e = .returned (askV (a.at ao cap)) ∧ HeldOk (a.at ao cap) ∧ CK (fun k => w.heap.size ≤ k ∧ k < w'.heap.size) w' (a.at ao cap) ∧ Below w.heap.size w w' := by
  have HH := Lib.hid (fun (w : World) (B : Nat) (v : Value) (hO : OC w B v a.L) => at_held ha hO)
  have HF := Lib.hid ha.few
  have HS := Lib.hid (show a.data.size ≤ 1099511627776 from by have := ha.data; omega)
  have HC := Lib.hid (fun W (hb : Below w.heap.size w W) => hC.below hb)
  have HB := Lib.hid (((Below.refl w.heap.size w).alloc (Nat.le_refl _) (.cells (askC a).toArray 37)).alloc (by simp) (.cells #[.int .i64 0, .int .i64 0, .int .i64 0, .int .i64 0, .int .i64 0, .int .i64 0, .string ByteArray.empty, .int .i64 0, .slice none 0 0] 37))
  obtain ⟨h1, h2⟩ := two_blocks w (askC a).toArray #[.int .i64 0, .int .i64 0, .int .i64 0, .int .i64 0, .int .i64 0, .int .i64 0, .string ByteArray.empty, .int .i64 0, .slice none 0 0] 37 37
  have H1 := Lib.hid h1
  have H2 := Lib.hid h2
  clear ha hC h1 h2
  obtain ⟨k, un, ep, pg, sz, nn, s, pe, L, ao, cap⟩ := a
  simp only at *
  show Calls _ _ #[.agg #[.int .i64 k, .int .i64 un, .int .i64 ep, .int .i64 pg, .int .i64 sz, .int .i64 nn, .string s, .int .i64 pe, .slice ao L.length cap]] w _
  go_enter Tryz.func49, Tryz.ntmps49
  go_wp2_with (first
    | (go_at_call 60; refine (clone_any s _ HS.out).mono ?_; rintro e w1 ⟨rfl, hb1⟩; have HB1 := Lib.hid (HB.out.trans (hb1.mono HB.out.size)); have P1 := Lib.hid (below_heap hb1 H1.out); have Q1 := Lib.hid (below_heap hb1 H2.out); clear hb1; obtain ⟨x, y⟩ := nine_of P1.out; have xl := lt_of_block P1.out; have HC1 := Lib.hid (HC.out _ (HB1.out.setCell (p := ⟨w.heap.size, 6, none⟩) (Nat.le_refl _) (.string s))))
    | (go_at_call 31; refine (copyO_any pe ao cap L _ HC1.out HF.out).mono ?_; rintro e w2 ⟨v, rfl, hO, hb2⟩; obtain ⟨vo, vc, hv, ho, hck⟩ := HH.out w2 _ v hO; subst hv; have HO := Lib.hid ho; have HK := Lib.hid hck; have P2 := Lib.hid (below_heap hb2 (nset6 P1.out (.string s))); have Q2 := Lib.hid (below_heap hb2 (((Kept.refl (fun k => k ≠ w.heap.size) w1).setCell (p := ⟨w.heap.size, 6, none⟩) (fun h => h rfl) (.string s)).heap (b := w.heap.size + 1) (by omega) Q1.out)); have HB2 := Lib.hid ((HB1.out.setCell (p := ⟨w.heap.size, 6, none⟩) (Nat.le_refl _) (.string s)).trans (hb2.mono (by have := HB1.out.size; simp; omega))); have sB := Lib.hid (show w.heap.size + 1 < (w1.setCell ⟨w.heap.size, 6, none⟩ (.string s)).heap.size from (by have := lt_of_block Q1.out; simpa using this)); clear x y hO hb2 ho hck; obtain ⟨x, y⟩ := nine_of P2.out; obtain ⟨x', y'⟩ := nine_of Q2.out; have xl := lt_of_block P2.out; have xl' := lt_of_block Q2.out))
  clear x y x' y'
  have k1 : Kept (fun k => k ≠ w.heap.size) w2 ((w2.setCell ⟨w.heap.size, 7, none⟩ (.int .i64 pe)).setCell ⟨w.heap.size, 8, none⟩ (.slice vo L.length vc)) := ((Kept.refl _ w2).setCell (p := ⟨w.heap.size, 7, none⟩) (fun h => h rfl) _).setCell (p := ⟨w.heap.size, 8, none⟩) (fun h => h rfl) _
  have k2 := (k1.mono (T := fun k => w.heap.size + 1 < k) (fun k h => by omega)).trans ((nine_set ((w2.setCell ⟨w.heap.size, 7, none⟩ (.int .i64 pe)).setCell ⟨w.heap.size, 8, none⟩ (.slice vo L.length vc)) (w.heap.size + 1) (.int .i64 k) (.int .i64 un) (.int .i64 ep) (.int .i64 pg) (.int .i64 sz) (.int .i64 nn) (.string s) (.int .i64 pe) (.slice vo L.length vc)).mono (fun k h => by omega))
  have k3 := (k1.mono (T := fun k => k < w.heap.size) (fun k h => by omega)).trans ((nine_set ((w2.setCell ⟨w.heap.size, 7, none⟩ (.int .i64 pe)).setCell ⟨w.heap.size, 8, none⟩ (.slice vo L.length vc)) (w.heap.size + 1) (.int .i64 k) (.int .i64 un) (.int .i64 ep) (.int .i64 pg) (.int .i64 sz) (.int .i64 nn) (.string s) (.int .i64 pe) (.slice vo L.length vc)).mono (fun k h => by omega))
  exact ask_ret (x := ⟨k, un, ep, pg, sz, nn, s, pe, L, vo, vc⟩) rfl (nine_put (k1.heap (b := w.heap.size + 1) (by omega) Q2.out) (.int .i64 k) (.int .i64 un) (.int .i64 ep) (.int .i64 pg) (.int .i64 sz) (.int .i64 nn) (.string s) (.int .i64 pe) (.slice vo L.length vc)) rfl rfl ⟨vo, vc, rfl, HO.out, (HK.out.keep k2 (fun k hk => Nat.lt_of_lt_of_le sB.out hk.1)).more (fun k hk => ⟨by have := sB.out; omega, Nat.lt_of_lt_of_le hk.2 k2.size⟩), HB2.out.trans (k3.toBelow (by have := lt_of_block Q2.out; omega) (fun k h => h))⟩
theorem hnew_any (NG : Nat → (Nat → Prop) → World → Nd → Prop) (hN : ∀ b, Thing (NG b)) (nb : Nat) (F : Nat → Prop) (w : World) (n : Nd) (hF : NG nb F w n) : Calls Tryz.prog 27 #[ptrN nb] w fun e w' => ∃ b : Nat, e = .returned (ptrH b) ∧ Leaves (HM NG b nb) F w w' ⟨n, []⟩ ∧ Below w.heap.size w w' := by
  have hb := below_new w (.cells #[.pointer (some ⟨nb, 0, none⟩), .slice none 0 0] 71)
  have hlt := (hN nb).lt hF
  have hF2 := (hN nb).keep hF (Kept.ofBelow hb (fun _ => True)) (fun _ _ => trivial)
  have HP := Lib.hid (show Leaves (HM NG w.heap.size nb) F w (w.alloc (.cells #[.pointer (some ⟨nb, 0, none⟩), .slice none 0 0] 71)) ⟨n, []⟩ from
    ⟨fun k => F k ∨ k = w.heap.size, ⟨Nat.zero_le _, .slice none 0 0, [], F, fun _ => False, heap_alloc_new w _, .inl (OR.nil _ _), rfl, hF2, fun a ha => (ha.elim (fun h => by cases h) (fun h => by cases h)), ⟨.inr rfl, fun h => by have := hlt _ h; omega, id⟩, fun k hk => ⟨.inl hk, id⟩, fun k hk => hk.elim, fun k e => (by cases e), fun k hk => by
      rcases hk with hk | hk
      · exact Nat.lt_of_lt_of_le (hlt k hk) hb.size
      · rw [hk]; simp⟩, Kept.ofBelow hb _, fun k hk => hk.imp id (fun e => by omega)⟩)
  have HB := Lib.hid hb
  clear hb hlt hF hF2
  unfold ptrN
  go_enter Tryz.func27, Tryz.ntmps27
  go_wp2_with fail
  go_ret
  exact ⟨w.heap.size, rfl, HP.out, HB.out⟩
theorem hnodes_any {NG : Nat → (Nat → Prop) → World → Nd → Prop} {Z : List Ak} (b nb : Nat) (G : Nat → Prop) (w : World) (h : Hd) (hh : HMz NG Z b nb G w h) : Calls Tryz.prog 12 #[.pointer (some ⟨b, 0, none⟩)] w fun e w' => e = .returned (.pointer (some ⟨nb, 0, none⟩)) ∧ w = w' := by
  obtain ⟨v, l, hc, _⟩ := hh.cells
  have c0 := cell_of hc 0
  have hb := hh.small
  clear hh hc
  go_enter Tryz.func12, Tryz.ntmps12
  go_wp2_with fail
  go_ret
  exact ⟨rfl, rfl⟩
theorem hnodes_nil (w : World) : Calls Tryz.prog 12 #[.pointer none] w fun e w' => e = .returned (.pointer none) ∧ w = w' := by
  go_enter Tryz.func12, Tryz.ntmps12
  go_wp2_with fail
  go_ret
  exact ⟨rfl, rfl⟩
end Go.Proofs.YtchhmfdalghgcaaGreat
