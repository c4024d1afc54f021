/- What the laws of pages ask of the program's functions: each one's contract, as a statement (proved where the program is spoken of). No conditions but those that the statements name. What the statements' own small function CopyProjection returns. Conditions: the projection lies where the call was told, and is not too large to be gone through. What the laws of the sequencer ask of the program's functions: each one's contract, as a statement (proved where the program is spoken of); that order is awake. No conditions but those that the statements name. -/
import Derived.Test.YtphigibhgldnpaaG08a
import Derived.Test.YtphigibhgldnpaaG08b
set_option linter.unusedVariables false
namespace Go.Proofs.Ytphigibhgldnpaa
open Go.RowKit
set_option maxRecDepth 20000
def ptrP (b : Nat) : Value := .pointer (some ⟨b, 0, none⟩)
def wide (a : Int) : Prop := -9223372036854775808 ≤ a ∧ a ≤ 9223372036854775807
/-- PG G w b p: in world w block b is the program's object of the pages p; it and all that it owns lie in G. The program's functions return what is said here -/
structure PageSays (PG : (Nat → Prop) → World → Nat → Ps → Prop) : Prop where
  lt : ∀ {G : Nat → Prop} {w : World} {b : Nat} {p : Ps}, PG G w b p → ∀ k, G k → k < w.heap.size
  keep : ∀ {G T : Nat → Prop} {w w' : World} {b : Nat} {p : Ps}, PG G w b p → Kept T w w' → (∀ k, G k → T k) → PG G w' b p
  new_yes : ∀ (room : Int) (w : World), 1 ≤ room ∧ room ≤ 4096 → Calls Try.prog 30 #[.int .i64 room] w fun e w' => ∃ (b : Nat) (G : Nat → Prop), e = .returned (.tuple #[ptrP b, .int .i64 0]) ∧ PG G w' b (newP room) ∧ (∀ k, G k → w.heap.size ≤ k) ∧ Below w.heap.size w w'
  new_no : ∀ (room : Int) (w : World), room < 1 ∨ 4096 < room → wide room → Calls Try.prog 30 #[.int .i64 room] w fun e w' => e = .returned (.tuple #[.pointer none, .int .i64 1]) ∧ Below w.heap.size w w'
  write : ∀ (G : Nat → Prop) (w : World) (b : Nat) (p : Ps) (a : Int) (s : ByteArray), PG G w b p → p.Ok → wide a → s.size ≤ 1000000 → Calls Try.prog 92 #[ptrP b, .int .i64 a, .string s] w fun e w' => e = .returned (.int .i64 (p.writeE a s)) ∧ Left PG G w w' b (p.write a s)
  fill : ∀ (G : Nat → Prop) (w : World) (b : Nat) (p : Ps) (a : Int), PG G w b p → p.Ok → wide a → Calls Try.prog 93 #[ptrP b, .int .i64 a] w fun e w' => e = .returned (.int .i64 (p.fillE a)) ∧ Left PG G w w' b (p.fill a)
  trim : ∀ (G : Nat → Prop) (w : World) (b : Nat) (p : Ps) (a : Int), PG G w b p → p.Ok → wide a → Calls Try.prog 95 #[ptrP b, .int .i64 a] w fun e w' => e = .returned (.int .i64 (Ps.trimE a)) ∧ Left PG G w w' b (p.trim a)
  read : ∀ (G : Nat → Prop) (w : World) (b : Nat) (p : Ps) (a : Int), PG G w b p → p.Ok → wide a → Calls Try.prog 94 #[ptrP b, .int .i64 a] w fun e w' => e = .returned (.tuple #[.string (p.readS a), .int .i64 (p.readE a)]) ∧ Below w.heap.size w w'
  kind : ∀ (G : Nat → Prop) (w : World) (b : Nat) (p : Ps) (a : Int), PG G w b p → p.Ok → wide a → Calls Try.prog 97 #[ptrP b, .int .i64 a] w fun e w' => e = .returned (.int .i64 (p.kind a)) ∧ Below w.heap.size w w'
  tail : ∀ (G : Nat → Prop) (w : World) (b : Nat) (p : Ps), PG G w b p → p.Ok → Calls Try.prog 96 #[ptrP b] w fun e w' => e = .returned (.int .i64 p.tail) ∧ Below w.heap.size w w'
  used : ∀ (G : Nat → Prop) (w : World) (b : Nat) (p : Ps), PG G w b p → p.Ok → Calls Try.prog 12 #[ptrP b] w fun e w' => e = .returned (.int .i64 p.l.length) ∧ Below w.heap.size w w'
  nil_write : ∀ (a : Int) (s : ByteArray) (w : World), s.size ≤ maxLen → Calls Try.prog 92 #[.pointer none, .int .i64 a, .string s] w fun e w' => e = .returned (.int .i64 1) ∧ Below w.heap.size w w'
  nil_fill : ∀ (a : Int) (w : World), Calls Try.prog 93 #[.pointer none, .int .i64 a] w fun e w' => e = .returned (.int .i64 1) ∧ Below w.heap.size w w'
  nil_trim : ∀ (a : Int) (w : World), Calls Try.prog 95 #[.pointer none, .int .i64 a] w fun e w' => e = .returned (.int .i64 1) ∧ Below w.heap.size w w'
  nil_read : ∀ (a : Int) (w : World), Calls Try.prog 94 #[.pointer none, .int .i64 a] w fun e w' => e = .returned (.tuple #[.string ⟨#[]⟩, .int .i64 1]) ∧ Below w.heap.size w w'
  nil_kind : ∀ (a : Int) (w : World), Calls Try.prog 97 #[.pointer none, .int .i64 a] w fun e w' => e = .returned (.int .i64 0) ∧ Below w.heap.size w w'
  nil_tail : ∀ (w : World), Calls Try.prog 96 #[.pointer none] w fun e w' => e = .returned (.int .i64 0) ∧ Below w.heap.size w w'
  nil_used : ∀ (w : World), Calls Try.prog 12 #[.pointer none] w fun e w' => e = .returned (.int .i64 0) ∧ Below w.heap.size w w'
/-- the object, and that it lies above a bound: what a law carries along -/
def Up (PG : (Nat → Prop) → World → Nat → Ps → Prop) (B : Nat) (w0 w : World) (b : Nat) (p : Ps) : Prop := p.Ok ∧ Below B w0 w ∧ B ≤ w.heap.size ∧ ∃ G : Nat → Prop, PG G w b p ∧ ∀ k, G k → B ≤ k
theorem Up.below {PG : (Nat → Prop) → World → Nat → Ps → Prop} (HS : PageSays PG) {B : Nat} {w0 w w' : World} {b : Nat} {p : Ps} (h : Up PG B w0 w b p) (hb : Below w.heap.size w w') : Up PG B w0 w' b p := by
  obtain ⟨h1, h2, h3, G, h4, h5⟩ := h
  exact ⟨h1, h2.trans (hb.mono h3), Nat.le_trans h3 hb.size, G, HS.keep h4 (Kept.ofBelow hb (fun _ => True)) (fun _ _ => trivial), h5⟩
theorem up_left {PG : (Nat → Prop) → World → Nat → Ps → Prop} {B : Nat} {w0 w w' : World} {b : Nat} {p' : Ps} {G : Nat → Prop} (hok : p'.Ok) (h2 : Below B w0 w) (h3 : B ≤ w.heap.size) (h5 : ∀ k, G k → B ≤ k) (hl : Left PG G w w' b p') : Up PG B w0 w' b p' := by
  obtain ⟨G', r1, r2, r3⟩ := hl
  refine ⟨hok, h2.trans (r2.toBelow h3 (fun k hk hg => ?_)), Nat.le_trans h3 r2.size, G', r1, fun k hk => ?_⟩
  · have := h5 k hg
    omega
  · rcases r3 k hk with h | h
    · exact h5 k h
    · omega
section
variable {PG : (Nat → Prop) → World → Nat → Ps → Prop} {B : Nat} {w0 w : World} {b : Nat} {p : Ps}
theorem up_write (HS : PageSays PG) (h : Up PG B w0 w b p) {a : Int} {s : ByteArray} (ha : wide a) (hs : s.size ≤ 1000000) : Calls Try.prog 92 #[ptrP b, .int .i64 a, .string s] w fun e w' => e = .returned (.int .i64 (p.writeE a s)) ∧ Up PG B w0 w' b (p.write a s) := by
  obtain ⟨h1, h2, h3, G, h4, h5⟩ := h
  exact (HS.write G w b p a s h4 h1 ha hs).mono fun e w' ⟨he, hl⟩ => ⟨he, up_left (h1.write a s) h2 h3 h5 hl⟩
theorem up_fill (HS : PageSays PG) (h : Up PG B w0 w b p) {a : Int} (ha : wide a) : Calls Try.prog 93 #[ptrP b, .int .i64 a] w fun e w' => e = .returned (.int .i64 (p.fillE a)) ∧ Up PG B w0 w' b (p.fill a) := by
  obtain ⟨h1, h2, h3, G, h4, h5⟩ := h
  exact (HS.fill G w b p a h4 h1 ha).mono fun e w' ⟨he, hl⟩ => ⟨he, up_left (h1.fill a) h2 h3 h5 hl⟩
theorem up_trim (HS : PageSays PG) (h : Up PG B w0 w b p) {a : Int} (ha : wide a) : Calls Try.prog 95 #[ptrP b, .int .i64 a] w fun e w' => e = .returned (.int .i64 (Ps.trimE a)) ∧ Up PG B w0 w' b (p.trim a) := by
  obtain ⟨h1, h2, h3, G, h4, h5⟩ := h
  exact (HS.trim G w b p a h4 h1 ha).mono fun e w' ⟨he, hl⟩ => ⟨he, up_left (h1.trim a) h2 h3 h5 hl⟩
theorem up_read (HS : PageSays PG) (h : Up PG B w0 w b p) {a : Int} (ha : wide a) : Calls Try.prog 94 #[ptrP b, .int .i64 a] w fun e w' => e = .returned (.tuple #[.string (p.readS a), .int .i64 (p.readE a)]) ∧ Up PG B w0 w' b p := by
  have h' := h
  obtain ⟨h1, h2, h3, G, h4, h5⟩ := h
  exact (HS.read G w b p a h4 h1 ha).mono fun e w' ⟨he, hl⟩ => ⟨he, h'.below HS hl⟩
theorem up_kind (HS : PageSays PG) (h : Up PG B w0 w b p) {a : Int} (ha : wide a) : Calls Try.prog 97 #[ptrP b, .int .i64 a] w fun e w' => e = .returned (.int .i64 (p.kind a)) ∧ Up PG B w0 w' b p := by
  have h' := h
  obtain ⟨h1, h2, h3, G, h4, h5⟩ := h
  exact (HS.kind G w b p a h4 h1 ha).mono fun e w' ⟨he, hl⟩ => ⟨he, h'.below HS hl⟩
theorem up_tail (HS : PageSays PG) (h : Up PG B w0 w b p) : Calls Try.prog 96 #[ptrP b] w fun e w' => e = .returned (.int .i64 p.tail) ∧ Up PG B w0 w' b p := by
  have h' := h
  obtain ⟨h1, h2, h3, G, h4, h5⟩ := h
  exact (HS.tail G w b p h4 h1).mono fun e w' ⟨he, hl⟩ => ⟨he, h'.below HS hl⟩
theorem up_used (HS : PageSays PG) (h : Up PG B w0 w b p) : Calls Try.prog 12 #[ptrP b] w fun e w' => e = .returned (.int .i64 p.l.length) ∧ Up PG B w0 w' b p := by
  have h' := h
  obtain ⟨h1, h2, h3, G, h4, h5⟩ := h
  exact (HS.used G w b p h4 h1).mono fun e w' ⟨he, hl⟩ => ⟨he, h'.below HS hl⟩
theorem up_new (HS : PageSays PG) (w : World) {room : Int} (hr : 1 ≤ room ∧ room ≤ 4096) : Calls Try.prog 30 #[.int .i64 room] w fun e w' => ∃ b, e = .returned (.tuple #[ptrP b, .int .i64 0]) ∧ Up PG w.heap.size w w' b (newP room) := by
  refine (HS.new_yes room w hr).mono ?_
  rintro e w' ⟨b, G, he, h1, h2, h3⟩
  exact ⟨b, he, newP_ok hr, h3, h3.size, G, h1, h2⟩
end
end Go.Proofs.Ytphigibhgldnpaa
namespace Go.Proofs.Ytphigibhgldnpaa
set_option linter.unusedVariables false
open Go.RowKit
set_option maxRecDepth 20000

theorem bcell0 {B : Nat} {W w1 : World} (hb : Below B W w1) {b o : Nat} {v : Value} (h : W.cell? ⟨b, o, none⟩ = some v) (hl : b < B) : w1.cell? ⟨b, o, none⟩ = some v := (hb.cell (p := ⟨b, o, none⟩) hl).trans h
theorem bfree0 {B : Nat} {W w1 : World} (hb : Below B W w1) {b o : Nat} (h : W.frozen? ⟨b, o, none⟩ = false) (hl : b < B) : w1.frozen? ⟨b, o, none⟩ = false := (hb.frozen (p := ⟨b, o, none⟩) hl).trans h
theorem OC.lower {w : World} {B B' : Nat} {v : Value} {L : List (List Int)} (h : OC w B v L) (hb : B' ≤ B) : OC w B' v L := by
  obtain ⟨xs, h1, h2⟩ := h
  refine ⟨xs, ⟨h1.1, ?_⟩, fun i hi => ?_⟩
  · rcases h1.2 with h3 | ⟨g, cap, cur, h3, h4, r⟩
    · exact .inl h3
    · exact .inr ⟨g, cap, cur, h3, Nat.le_trans hb h4, r⟩
  · obtain ⟨ai, ci, h3, h4, h5⟩ := h2 i hi
    exact ⟨ai, ci, h3, h4, fun a e => ⟨Nat.le_trans hb (h5 a e).1, (h5 a e).2⟩⟩
end Go.Proofs.Ytphigibhgldnpaa
namespace Go.Proofs.Ytphigibhgldnpaa
set_option linter.unusedVariables false
open Go.RowKit
set_option maxRecDepth 20000
/-- OG b G w o: in world w block b is the program's sequencer o; it and all that it owns lie in G. The program's functions return what is said here -/
structure OrderSays (OG : Nat → (Nat → Prop) → World → Od → Prop) : Prop where
  thing : ∀ b, Thing (OG b)
  ok : ∀ {b : Nat} {G : Nat → Prop} {w : World} {o : Od}, OG b G w o → o.Ok
  new : ∀ (w : World), Calls Try.prog 20 #[] w fun e w' => ∃ (b : Nat) (G : Nat → Prop), e = .returned (ptrO b) ∧ OG b G w' newO ∧ (∀ k, G k → w.heap.size ≤ k) ∧ Below w.heap.size w w'
  ask : ∀ (b : Nat) (G : Nat → Prop) (w : World) (o : Od) (a : Ak), OG b G w o → AkIn w a → Calls Try.prog 22 #[ptrO b, askV a] w fun e w' => e = .returned (anW (o.ans a).code (o.ans a).n (o.ans a).data (o.ans a).epoch) ∧ Leaves (OG b) G w w' (o.done a)
  epoch : ∀ (b : Nat) (G : Nat → Prop) (w : World) (o : Od), OG b G w o → Calls Try.prog 14 #[ptrO b] w fun e w' => e = .returned (.int .i64 o.epoch) ∧ Below w.heap.size w w'
section
variable {OG : Nat → (Nat → Prop) → World → Od → Prop} {X : Nat → Prop} {w : World} {b : Nat} {o : Od}
theorem o_new (HS : OrderSays OG) (w : World) : Calls Try.prog 20 #[] w fun e w' => ∃ b, e = .returned (ptrO b) ∧ Solo (OG b) (fun k => k < w.heap.size) w' newO ∧ Below w.heap.size w w' := by
  refine (HS.new w).mono ?_
  rintro e w' ⟨b, G, he, h1, h2, h3⟩
  exact ⟨b, he, ⟨fun k hk => Nat.lt_of_lt_of_le hk h3.size, G, h1, fun k hk hg => by have := h2 k hg; omega⟩, h3⟩
theorem o_ask (HS : OrderSays OG) (h : Solo (OG b) X w o) {a : Ak} (ha : AkIn w a) : Calls Try.prog 22 #[ptrO b, askV a] w fun e w' => e = .returned (anW (o.ans a).code (o.ans a).n (o.ans a).data (o.ans a).epoch) ∧ Solo (OG b) X w' (o.done a) ∧ Kept X w w' :=
  solo_call (R := fun e => e = .returned (anW (o.ans a).code (o.ans a).n (o.ans a).data (o.ans a).epoch)) (HS.thing b) h (fun F hF => HS.ask b F w o a hF ha)
theorem o_look {v : Value} {fn : FuncId} {args : Array Value} (HS : OrderSays OG) (h : Solo (OG b) X w o) (hc : ∀ G : Nat → Prop, OG b G w o → Calls Try.prog fn args w fun e w' => e = .returned v ∧ Below w.heap.size w w') : Calls Try.prog fn args w fun e w' => e = .returned v ∧ Solo (OG b) X w' o ∧ Kept X w w' := by
  obtain ⟨F, hF, _⟩ := h.2
  refine (hc F hF).mono ?_
  rintro e w' ⟨he, hb⟩
  exact ⟨he, h.below (HS.thing b) hb, Kept.ofBelow hb X⟩
end
/-- a question without a projection and without data -/
def akO (kind epoch page : Int) : Ak := ⟨kind, 0, epoch, page, 0, 0, ⟨#[]⟩, 0, [], none, 0⟩
theorem akO_in (w : World) {k e p : Int} (hk : i64w k) (he : i64w e) (hp : i64w p) : AkIn w (akO k e p) :=
  ⟨⟨hk, WalkArith.wf_i64 (n := 0) (by decide), he, hp, WalkArith.wf_i64 (n := 0) (by decide), WalkArith.wf_i64 (n := 0) (by decide), Nat.zero_le _, WalkArith.wf_i64 (n := 0) (by decide), Nat.zero_le _, (fun c hc => by cases hc), fun _ => rfl, Nat.le_refl _⟩, CL.nil _ _⟩
theorem i64w_near {x : Int} (h : -1000000000000 ≤ x ∧ x ≤ 1000000000000) : i64w x := WalkArith.wf_i64 (by omega)
theorem o_askO {OG : Nat → (Nat → Prop) → World → Od → Prop} {X : Nat → Prop} {w : World} {b : Nat} {o : Od} (HS : OrderSays OG) (h : Solo (OG b) X w o) {k e p : Int} (hk : i64w k) (he : i64w e) (hp : i64w p) :
    Calls Try.prog 22 #[.pointer (some ⟨b, 0, none⟩), .agg #[.int .i64 k, .int .i64 0, .int .i64 e, .int .i64 p, .int .i64 0, .int .i64 0, .string ⟨#[]⟩, .int .i64 0, .slice none 0 0]] w fun e2 w' =>
      e2 = .returned (.agg #[.int .i64 (o.ans (akO k e p)).code, .int .i64 (o.ans (akO k e p)).n, .string (o.ans (akO k e p)).data, .int .i64 0, .slice none 0 0, .int .i64 0, .int .i64 0, .int .i64 (o.ans (akO k e p)).epoch]) ∧ Solo (OG b) X w' (o.done (akO k e p)) ∧ Kept X w w' :=
  o_ask HS h (a := akO k e p) (akO_in w hk he hp)
/-- the laws' example -/
def exO1 : Od := newO.done (akO 8 0 5)
def exO2 : Od := exO1.done (akO 6 0 0)
def exO3 : Od := exO2.done (akO 7 0 0)
def exO4 : Od := ⟨exO3.epoch, exO3.tail, false⟩
theorem exO_facts : (newO.ans (akO 8 0 5)).code = 0 ∧ (exO1.ans (akO 6 0 0)).n = 5 ∧ (exO2.ans (akO 7 0 0)).n = 6 ∧ (exO4.ans (akO 6 0 0)).code = 47 ∧ (exO4.done (akO 6 0 0)).knows = false := by decide +kernel
end Go.Proofs.Ytphigibhgldnpaa
