/- What the laws of pages ask of the program's functions: each one's contract, as a statement (proved where the program is spoken of). No conditions but those that the statements name. -/
import Derived.Test.YtaodmdoagngdnaaPagE
import Derived.Test.YtaodmdoagngdnaaPagF
namespace Go.Proofs.Ytaodmdoagngdnaa
open Go.RowKit
set_option maxRecDepth 20000
def ptrP (b : Nat) : Value := .pointer (some ⟨b, 0, none⟩)
def wide (a : Int) : Prop := -9223372036854775808 ≤ a ∧ a ≤ 9223372036854775807
/-- PG G w b p: in world w block b is the program's object of the pages p; it and all that it owns lie in G. The program's functions return what is said here -/
structure PageSays (PG : (Nat → Prop) → World → Nat → Ps → Prop) : Prop where
  lt : ∀ {G : Nat → Prop} {w : World} {b : Nat} {p : Ps}, PG G w b p → ∀ k, G k → k < w.heap.size
  keep : ∀ {G T : Nat → Prop} {w w' : World} {b : Nat} {p : Ps}, PG G w b p → Kept T w w' → (∀ k, G k → T k) → PG G w' b p
  new_yes : ∀ (room : Int) (w : World), 1 ≤ room ∧ room ≤ 4096 → Calls Try.prog 25 #[.int .i64 room] w fun e w' => ∃ (b : Nat) (G : Nat → Prop), e = .returned (.tuple #[ptrP b, .int .i64 0]) ∧ PG G w' b (newP room) ∧ (∀ k, G k → w.heap.size ≤ k) ∧ Below w.heap.size w w'
  new_no : ∀ (room : Int) (w : World), room < 1 ∨ 4096 < room → wide room → Calls Try.prog 25 #[.int .i64 room] w fun e w' => e = .returned (.tuple #[.pointer none, .int .i64 1]) ∧ Below w.heap.size w w'
  write : ∀ (G : Nat → Prop) (w : World) (b : Nat) (p : Ps) (a : Int) (s : ByteArray), PG G w b p → p.Ok → wide a → s.size ≤ 1000000 → Calls Try.prog 45 #[ptrP b, .int .i64 a, .string s] w fun e w' => e = .returned (.int .i64 (p.writeE a s)) ∧ Left PG G w w' b (p.write a s)
  fill : ∀ (G : Nat → Prop) (w : World) (b : Nat) (p : Ps) (a : Int), PG G w b p → p.Ok → wide a → Calls Try.prog 46 #[ptrP b, .int .i64 a] w fun e w' => e = .returned (.int .i64 (p.fillE a)) ∧ Left PG G w w' b (p.fill a)
  trim : ∀ (G : Nat → Prop) (w : World) (b : Nat) (p : Ps) (a : Int), PG G w b p → p.Ok → wide a → Calls Try.prog 48 #[ptrP b, .int .i64 a] w fun e w' => e = .returned (.int .i64 (Ps.trimE a)) ∧ Left PG G w w' b (p.trim a)
  read : ∀ (G : Nat → Prop) (w : World) (b : Nat) (p : Ps) (a : Int), PG G w b p → p.Ok → wide a → Calls Try.prog 47 #[ptrP b, .int .i64 a] w fun e w' => e = .returned (.tuple #[.string (p.readS a), .int .i64 (p.readE a)]) ∧ Below w.heap.size w w'
  kind : ∀ (G : Nat → Prop) (w : World) (b : Nat) (p : Ps) (a : Int), PG G w b p → p.Ok → wide a → Calls Try.prog 49 #[ptrP b, .int .i64 a] w fun e w' => e = .returned (.int .i64 (p.kind a)) ∧ Below w.heap.size w w'
  tail : ∀ (G : Nat → Prop) (w : World) (b : Nat) (p : Ps), PG G w b p → p.Ok → Calls Try.prog 21 #[ptrP b] w fun e w' => e = .returned (.int .i64 p.tail) ∧ Below w.heap.size w w'
  used : ∀ (G : Nat → Prop) (w : World) (b : Nat) (p : Ps), PG G w b p → p.Ok → Calls Try.prog 19 #[ptrP b] w fun e w' => e = .returned (.int .i64 p.l.length) ∧ Below w.heap.size w w'
  edge : ∀ (G : Nat → Prop) (w : World) (b : Nat) (p : Ps), PG G w b p → p.Ok → Calls Try.prog 23 #[ptrP b] w fun e w' => e = .returned (.int .i64 p.edge) ∧ Below w.heap.size w w'
  nil_write : ∀ (a : Int) (s : ByteArray) (w : World), s.size ≤ maxLen → Calls Try.prog 45 #[.pointer none, .int .i64 a, .string s] w fun e w' => e = .returned (.int .i64 1) ∧ Below w.heap.size w w'
  nil_fill : ∀ (a : Int) (w : World), Calls Try.prog 46 #[.pointer none, .int .i64 a] w fun e w' => e = .returned (.int .i64 1) ∧ Below w.heap.size w w'
  nil_trim : ∀ (a : Int) (w : World), Calls Try.prog 48 #[.pointer none, .int .i64 a] w fun e w' => e = .returned (.int .i64 1) ∧ Below w.heap.size w w'
  nil_read : ∀ (a : Int) (w : World), Calls Try.prog 47 #[.pointer none, .int .i64 a] w fun e w' => e = .returned (.tuple #[.string ⟨#[]⟩, .int .i64 1]) ∧ Below w.heap.size w w'
  nil_kind : ∀ (a : Int) (w : World), Calls Try.prog 49 #[.pointer none, .int .i64 a] w fun e w' => e = .returned (.int .i64 0) ∧ Below w.heap.size w w'
  nil_tail : ∀ (w : World), Calls Try.prog 21 #[.pointer none] w fun e w' => e = .returned (.int .i64 0) ∧ Below w.heap.size w w'
  nil_used : ∀ (w : World), Calls Try.prog 19 #[.pointer none] w fun e w' => e = .returned (.int .i64 0) ∧ Below w.heap.size w w'
  nil_edge : ∀ (w : World), Calls Try.prog 23 #[.pointer none] w fun e w' => e = .returned (.int .i64 0) ∧ Below w.heap.size w w'
/-- the object, and that it lies above a bound: what a law carries along -/
def Up (PG : (Nat → Prop) → World → Nat → Ps → Prop) (B : Nat) (w0 w : World) (b : Nat) (p : Ps) : Prop := p.Ok ∧ Below B w0 w ∧ B ≤ w.heap.size ∧ ∃ G : Nat → Prop, PG G w b p ∧ ∀ k, G k → B ≤ k
theorem Up.below {PG : (Nat → Prop) → World → Nat → Ps → Prop} (HS : PageSays PG) {B : Nat} {w0 w w' : World} {b : Nat} {p : Ps} (h : Up PG B w0 w b p) (hb : Below w.heap.size w w') : Up PG B w0 w' b p := by
  obtain ⟨h1, h2, h3, G, h4, h5⟩ := h
  exact ⟨h1, h2.trans (hb.mono h3), Nat.le_trans h3 hb.size, G, HS.keep h4 (Kept.ofBelow hb (fun _ => True)) (fun _ _ => trivial), h5⟩
theorem up_left {PG : (Nat → Prop) → World → Nat → Ps → Prop} {B : Nat} {w0 w w' : World} {b : Nat} {p' : Ps} {G : Nat → Prop} (hok : p'.Ok) (h2 : Below B w0 w) (h3 : B ≤ w.heap.size) (h5 : ∀ k, G k → B ≤ k) (hl : Left PG G w w' b p') : Up PG B w0 w' b p' := by
  obtain ⟨G', r1, r2, r3⟩ := hl
  refine ⟨hok, h2.trans (r2.toBelow h3 (fun k hk hg => ?_)), Nat.le_trans h3 r2.size, G', r1, fun k hk => ?_⟩
  · have := h5 k hg
    omega
  · rcases r3 k hk with h | h
    · exact h5 k h
    · omega
section
variable {PG : (Nat → Prop) → World → Nat → Ps → Prop} {B : Nat} {w0 w : World} {b : Nat} {p : Ps}
theorem up_write (HS : PageSays PG) (h : Up PG B w0 w b p) {a : Int} {s : ByteArray} (ha : wide a) (hs : s.size ≤ 1000000) : Calls Try.prog 45 #[ptrP b, .int .i64 a, .string s] w fun e w' => e = .returned (.int .i64 (p.writeE a s)) ∧ Up PG B w0 w' b (p.write a s) := by
  obtain ⟨h1, h2, h3, G, h4, h5⟩ := h
  exact (HS.write G w b p a s h4 h1 ha hs).mono fun e w' ⟨he, hl⟩ => ⟨he, up_left (h1.write a s) h2 h3 h5 hl⟩
theorem up_fill (HS : PageSays PG) (h : Up PG B w0 w b p) {a : Int} (ha : wide a) : Calls Try.prog 46 #[ptrP b, .int .i64 a] w fun e w' => e = .returned (.int .i64 (p.fillE a)) ∧ Up PG B w0 w' b (p.fill a) := by
  obtain ⟨h1, h2, h3, G, h4, h5⟩ := h
  exact (HS.fill G w b p a h4 h1 ha).mono fun e w' ⟨he, hl⟩ => ⟨he, up_left (h1.fill a) h2 h3 h5 hl⟩
theorem up_trim (HS : PageSays PG) (h : Up PG B w0 w b p) {a : Int} (ha : wide a) : Calls Try.prog 48 #[ptrP b, .int .i64 a] w fun e w' => e = .returned (.int .i64 (Ps.trimE a)) ∧ Up PG B w0 w' b (p.trim a) := by
  obtain ⟨h1, h2, h3, G, h4, h5⟩ := h
  exact (HS.trim G w b p a h4 h1 ha).mono fun e w' ⟨he, hl⟩ => ⟨he, up_left (h1.trim a) h2 h3 h5 hl⟩
theorem up_read (HS : PageSays PG) (h : Up PG B w0 w b p) {a : Int} (ha : wide a) : Calls Try.prog 47 #[ptrP b, .int .i64 a] w fun e w' => e = .returned (.tuple #[.string (p.readS a), .int .i64 (p.readE a)]) ∧ Up PG B w0 w' b p := by
  have h' := h
  obtain ⟨h1, h2, h3, G, h4, h5⟩ := h
  exact (HS.read G w b p a h4 h1 ha).mono fun e w' ⟨he, hl⟩ => ⟨he, h'.below HS hl⟩
theorem up_kind (HS : PageSays PG) (h : Up PG B w0 w b p) {a : Int} (ha : wide a) : Calls Try.prog 49 #[ptrP b, .int .i64 a] w fun e w' => e = .returned (.int .i64 (p.kind a)) ∧ Up PG B w0 w' b p := by
  have h' := h
  obtain ⟨h1, h2, h3, G, h4, h5⟩ := h
  exact (HS.kind G w b p a h4 h1 ha).mono fun e w' ⟨he, hl⟩ => ⟨he, h'.below HS hl⟩
theorem up_tail (HS : PageSays PG) (h : Up PG B w0 w b p) : Calls Try.prog 21 #[ptrP b] w fun e w' => e = .returned (.int .i64 p.tail) ∧ Up PG B w0 w' b p := by
  have h' := h
  obtain ⟨h1, h2, h3, G, h4, h5⟩ := h
  exact (HS.tail G w b p h4 h1).mono fun e w' ⟨he, hl⟩ => ⟨he, h'.below HS hl⟩
theorem up_used (HS : PageSays PG) (h : Up PG B w0 w b p) : Calls Try.prog 19 #[ptrP b] w fun e w' => e = .returned (.int .i64 p.l.length) ∧ Up PG B w0 w' b p := by
  have h' := h
  obtain ⟨h1, h2, h3, G, h4, h5⟩ := h
  exact (HS.used G w b p h4 h1).mono fun e w' ⟨he, hl⟩ => ⟨he, h'.below HS hl⟩
theorem up_edge (HS : PageSays PG) (h : Up PG B w0 w b p) : Calls Try.prog 23 #[ptrP b] w fun e w' => e = .returned (.int .i64 p.edge) ∧ Up PG B w0 w' b p := by
  have h' := h
  obtain ⟨h1, h2, h3, G, h4, h5⟩ := h
  exact (HS.edge G w b p h4 h1).mono fun e w' ⟨he, hl⟩ => ⟨he, h'.below HS hl⟩
theorem up_new (HS : PageSays PG) (w : World) {room : Int} (hr : 1 ≤ room ∧ room ≤ 4096) : Calls Try.prog 25 #[.int .i64 room] w fun e w' => ∃ b, e = .returned (.tuple #[ptrP b, .int .i64 0]) ∧ Up PG w.heap.size w w' b (newP room) := by
  refine (HS.new_yes room w hr).mono ?_
  rintro e w' ⟨b, G, he, h1, h2, h3⟩
  exact ⟨b, he, newP_ok hr, h3, h3.size, G, h1, h2⟩
end
end Go.Proofs.Ytaodmdoagngdnaa
