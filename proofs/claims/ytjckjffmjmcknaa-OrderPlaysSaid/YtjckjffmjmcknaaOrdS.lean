/- What the laws of the sequencer ask of the program's functions: each one's contract, as a statement (proved where the program is spoken of); that order is awake. No conditions but those that the statements name. -/
import Derived.Test.YtjckjffmjmcknaaOrdA
namespace Go.Proofs.Ytjckjffmjmcknaa
set_option linter.unusedVariables false
open Go.RowKit
set_option maxRecDepth 20000
/-- OG b G w o: in world w block b is the program's sequencer o; it and all that it owns lie in G. The program's functions return what is said here -/
structure OrderSays (OG : Nat → (Nat → Prop) → World → Od → Prop) : Prop where
  thing : ∀ b, Thing (OG b)
  ok : ∀ {b : Nat} {G : Nat → Prop} {w : World} {o : Od}, OG b G w o → o.Ok
  new : ∀ (w : World), Calls Try.prog 6 #[] w fun e w' => ∃ (b : Nat) (G : Nat → Prop), e = .returned (ptrO b) ∧ OG b G w' newO ∧ (∀ k, G k → w.heap.size ≤ k) ∧ Below w.heap.size w w'
  ask : ∀ (b : Nat) (G : Nat → Prop) (w : World) (o : Od) (a : Ak), OG b G w o → AkIn w a → Calls Try.prog 12 #[ptrO b, askV a] w fun e w' => e = .returned (anW (o.ans a).code (o.ans a).n (o.ans a).data (o.ans a).epoch) ∧ Leaves (OG b) G w w' (o.done a)
  crash : ∀ (b : Nat) (G : Nat → Prop) (w : World) (o : Od), OG b G w o → Calls Try.prog 10 #[ptrO b] w fun e w' => e = .returned (.tuple #[]) ∧ Leaves (OG b) G w w' ⟨o.epoch, o.tail, false⟩
  epoch : ∀ (b : Nat) (G : Nat → Prop) (w : World) (o : Od), OG b G w o → Calls Try.prog 14 #[ptrO b] w fun e w' => e = .returned (.int .i64 o.epoch) ∧ Below w.heap.size w w'
  knows : ∀ (b : Nat) (G : Nat → Prop) (w : World) (o : Od), OG b G w o → Calls Try.prog 15 #[ptrO b] w fun e w' => e = .returned (.bool o.knows) ∧ Below w.heap.size w w'
section
variable {OG : Nat → (Nat → Prop) → World → Od → Prop} {X : Nat → Prop} {w : World} {b : Nat} {o : Od}
theorem o_new (HS : OrderSays OG) (w : World) : Calls Try.prog 6 #[] w fun e w' => ∃ b, e = .returned (ptrO b) ∧ Solo (OG b) (fun k => k < w.heap.size) w' newO ∧ Below w.heap.size w w' := by
  refine (HS.new w).mono ?_
  rintro e w' ⟨b, G, he, h1, h2, h3⟩
  exact ⟨b, he, ⟨fun k hk => Nat.lt_of_lt_of_le hk h3.size, G, h1, fun k hk hg => by have := h2 k hg; omega⟩, h3⟩
theorem o_ask (HS : OrderSays OG) (h : Solo (OG b) X w o) {a : Ak} (ha : AkIn w a) : Calls Try.prog 12 #[ptrO b, askV a] w fun e w' => e = .returned (anW (o.ans a).code (o.ans a).n (o.ans a).data (o.ans a).epoch) ∧ Solo (OG b) X w' (o.done a) ∧ Kept X w w' :=
  solo_call (R := fun e => e = .returned (anW (o.ans a).code (o.ans a).n (o.ans a).data (o.ans a).epoch)) (HS.thing b) h (fun F hF => HS.ask b F w o a hF ha)
theorem o_crash (HS : OrderSays OG) (h : Solo (OG b) X w o) : Calls Try.prog 10 #[ptrO b] w fun e w' => e = .returned (.tuple #[]) ∧ Solo (OG b) X w' ⟨o.epoch, o.tail, false⟩ ∧ Kept X w w' :=
  solo_call (R := fun e => e = .returned (.tuple #[])) (HS.thing b) h (fun F hF => HS.crash b F w o hF)
theorem o_look {v : Value} {fn : FuncId} {args : Array Value} (HS : OrderSays OG) (h : Solo (OG b) X w o) (hc : ∀ G : Nat → Prop, OG b G w o → Calls Try.prog fn args w fun e w' => e = .returned v ∧ Below w.heap.size w w') : Calls Try.prog fn args w fun e w' => e = .returned v ∧ Solo (OG b) X w' o ∧ Kept X w w' := by
  obtain ⟨F, hF, _⟩ := h.2
  refine (hc F hF).mono ?_
  rintro e w' ⟨he, hb⟩
  exact ⟨he, h.below (HS.thing b) hb, Kept.ofBelow hb X⟩
end
/-- a question without a projection and without data -/
def akO (kind epoch page : Int) : Ak := ⟨kind, 0, epoch, page, 0, 0, ⟨#[]⟩, 0, [], none, 0⟩
theorem akO_in (w : World) {k e p : Int} (hk : i64w k) (he : i64w e) (hp : i64w p) : AkIn w (akO k e p) :=
  ⟨⟨hk, WalkArith.wf_i64 (n := 0) (by decide), he, hp, WalkArith.wf_i64 (n := 0) (by decide), WalkArith.wf_i64 (n := 0) (by decide), Nat.zero_le _, WalkArith.wf_i64 (n := 0) (by decide), Nat.zero_le _, (fun c hc => by cases hc), fun _ => rfl, Nat.le_refl _⟩, CL.nil _ _⟩
theorem i64w_near {x : Int} (h : -1000000000000 ≤ x ∧ x ≤ 1000000000000) : i64w x := WalkArith.wf_i64 (by omega)
theorem o_askO {OG : Nat → (Nat → Prop) → World → Od → Prop} {X : Nat → Prop} {w : World} {b : Nat} {o : Od} (HS : OrderSays OG) (h : Solo (OG b) X w o) {k e p : Int} (hk : i64w k) (he : i64w e) (hp : i64w p) :
    Calls Try.prog 12 #[.pointer (some ⟨b, 0, none⟩), .agg #[.int .i64 k, .int .i64 0, .int .i64 e, .int .i64 p, .int .i64 0, .int .i64 0, .string ⟨#[]⟩, .int .i64 0, .slice none 0 0]] w fun e2 w' =>
      e2 = .returned (.agg #[.int .i64 (o.ans (akO k e p)).code, .int .i64 (o.ans (akO k e p)).n, .string (o.ans (akO k e p)).data, .int .i64 0, .slice none 0 0, .int .i64 0, .int .i64 0, .int .i64 (o.ans (akO k e p)).epoch]) ∧ Solo (OG b) X w' (o.done (akO k e p)) ∧ Kept X w w' :=
  o_ask HS h (a := akO k e p) (akO_in w hk he hp)
/-- the laws' example -/
def exO1 : Od := newO.done (akO 8 0 5)
def exO2 : Od := exO1.done (akO 6 0 0)
def exO3 : Od := exO2.done (akO 7 0 0)
def exO4 : Od := ⟨exO3.epoch, exO3.tail, false⟩
theorem exO_facts : (newO.ans (akO 8 0 5)).code = 0 ∧ (exO1.ans (akO 6 0 0)).n = 5 ∧ (exO2.ans (akO 7 0 0)).n = 6 ∧ (exO4.ans (akO 6 0 0)).code = 47 ∧ (exO4.done (akO 6 0 0)).knows = false := by decide +kernel
set_option maxHeartbeats 8000000 in
theorem wakes11_any {OG : Nat → (Nat → Prop) → World → Od → Prop} (HS : OrderSays OG) (w : World) : Calls Try.prog 9 #[] w fun e w' => e = .returned (.bool true) ∧ Below w.heap.size w w' := by
  have FA := Lib.hid exO_facts
  have ZZ := Lib.hid (fun (x : Int) (h : 0 ≤ x ∧ x ≤ 9) => @i64w_near x (by omega))
  have CN := Lib.hid (o_new HS w)
  have TT := Lib.hid (fun b => HS.thing b)
  unfold ptrO at CN
  go_enter Try.func9, Try.ntmps9
  go_wp2_with (go_at_call 6; refine CN.out.mono ?_; rintro e w1 ⟨b, rfl, hu1, hb1⟩; have U1 := Lib.hid hu1; have B1 := Lib.hid hb1; clear hu1 hb1)
  refine (o_askO HS U1.out (k := 8) (e := 0) (p := 5) (ZZ.out 8 (by omega)) (ZZ.out 0 (by omega)) (ZZ.out 5 (by omega))).mono ?_
  rintro e w2 ⟨rfl, hu2, hk2⟩
  rw [FA.out.1]
  have U2 := Lib.hid (show Solo (OG b) (fun k => k < w.heap.size) w2 exO1 from hu2)
  have B2 := Lib.hid (B1.out.trans (hk2.toBelow B1.out.size (fun k h => h)))
  clear hu2 hk2
  go_wp2_with fail
  refine (o_askO HS (U2.out.beside (TT.out b) _) (k := 6) (e := 0) (p := 0) (ZZ.out 6 (by omega)) (ZZ.out 0 (by omega)) (ZZ.out 0 (by omega))).mono ?_
  rintro e w3 ⟨rfl, hu3, hk3⟩
  rw [show (exO1.ans (akO 6 0 0)).n = 5 from FA.out.2.1]
  have U3 := Lib.hid (show Solo (OG b) (fun k => k < w.heap.size ∨ k = w2.heap.size) w3 exO2 from hu3)
  have B3 := Lib.hid ((B2.out.alloc B2.out.size _).trans (hk3.toBelow (by have := B2.out.size; simp; omega) (fun k h => .inl h)))
  have P3 := Lib.hid (hk3.heap (b := w2.heap.size) (Or.inr rfl) (heap_alloc_new w2 _))
  clear hu3 hk3
  go_wp2_with fail
  refine (o_askO HS (U3.out.beside (TT.out b) _) (k := 7) (e := 0) (p := 0) (ZZ.out 7 (by omega)) (ZZ.out 0 (by omega)) (ZZ.out 0 (by omega))).mono ?_
  rintro e w4 ⟨rfl, hu4, hk4⟩
  rw [show (exO2.ans (akO 7 0 0)).n = 6 from FA.out.2.2.1]
  have U4 := Lib.hid (show Solo (OG b) (fun k => (k < w.heap.size ∨ k = w2.heap.size) ∨ k = w3.heap.size) w4 exO3 from hu4)
  have B4 := Lib.hid ((B3.out.alloc B3.out.size _).trans (hk4.toBelow (by have := B3.out.size; simp; omega) (fun k h => .inl (.inl h))))
  have P4 := Lib.hid (hk4.heap (b := w2.heap.size) (Or.inl (Or.inr rfl)) (below_heap ((Below.refl _ _).alloc (Nat.le_refl _) _) P3.out))
  have Q4 := Lib.hid (hk4.heap (b := w3.heap.size) (Or.inr rfl) (heap_alloc_new w3 _))
  clear hu4 hk4 P3
  go_wp2_with fail
  refine (o_crash HS (U4.out.beside (TT.out b) _)).mono ?_
  rintro e w5 ⟨rfl, hu5, hk5⟩
  have U5 := Lib.hid (show Solo (OG b) (fun k => ((k < w.heap.size ∨ k = w2.heap.size) ∨ k = w3.heap.size) ∨ k = w4.heap.size) w5 exO4 from hu5)
  have B5 := Lib.hid ((B4.out.alloc B4.out.size _).trans (hk5.toBelow (by have := B4.out.size; simp; omega) (fun k h => .inl (.inl (.inl h)))))
  have P5 := Lib.hid (hk5.heap (b := w2.heap.size) (Or.inl (Or.inl (Or.inr rfl))) (below_heap ((Below.refl _ _).alloc (Nat.le_refl _) _) P4.out))
  have Q5 := Lib.hid (hk5.heap (b := w3.heap.size) (Or.inl (Or.inr rfl)) (below_heap ((Below.refl _ _).alloc (Nat.le_refl _) _) Q4.out))
  have R5 := Lib.hid (hk5.heap (b := w4.heap.size) (Or.inr rfl) (heap_alloc_new w4 _))
  clear hu5 hk5 P4 Q4
  go_wp2_with fail
  refine (o_askO HS U5.out (k := 6) (e := 0) (p := 0) (ZZ.out 6 (by omega)) (ZZ.out 0 (by omega)) (ZZ.out 0 (by omega))).mono ?_
  rintro e w6 ⟨rfl, hu6, hk6⟩
  rw [FA.out.2.2.2.1]
  have B6 := Lib.hid (B5.out.trans (hk6.toBelow B5.out.size (fun k h => .inl (.inl (.inl h)))))
  have p6 := hk6.heap (b := w2.heap.size) (Or.inl (Or.inl (Or.inr rfl))) P5.out
  have q6 := hk6.heap (b := w3.heap.size) (Or.inl (Or.inr rfl)) Q5.out
  have r6 := hk6.heap (b := w4.heap.size) (Or.inr rfl) R5.out
  have lp := lt_of_block p6
  have lq := lt_of_block q6
  have lr := lt_of_block r6
  have p0 := cell_of p6 0
  have q1 := cell_of q6 1
  have r1 := cell_of r6 1
  have U6 := Lib.hid (hu6.below (TT.out b) ((Below.refl w6.heap.size w6).alloc (Nat.le_refl _) (.cells #[.int .i64 47, .int .i64 (exO4.ans (akO 6 0 0)).n, .string (exO4.ans (akO 6 0 0)).data, .int .i64 0, .slice none 0 0, .int .i64 0, .int .i64 0, .int .i64 (exO4.ans (akO 6 0 0)).epoch] 40)))
  have B7 := Lib.hid (B6.out.alloc B6.out.size (.cells #[.int .i64 47, .int .i64 (exO4.ans (akO 6 0 0)).n, .string (exO4.ans (akO 6 0 0)).data, .int .i64 0, .slice none 0 0, .int .i64 0, .int .i64 0, .int .i64 (exO4.ans (akO 6 0 0)).epoch] 40))
  clear hu6 hk6 P5 Q5 R5 p6 q6 r6
  go_wp2_with fail
  refine (o_look HS U6.out (fun G hG => HS.knows b G _ _ hG)).mono ?_
  rintro e w7 ⟨rfl, hu7, hk7⟩
  rw [FA.out.2.2.2.2]
  have B8 := Lib.hid (B7.out.trans (hk7.toBelow B7.out.size (fun k h => .inl (.inl (.inl h)))))
  clear hu7 hk7
  go_wp2_with fail
  go_ret
  exact ⟨rfl, B8.out⟩
end Go.Proofs.Ytjckjffmjmcknaa
