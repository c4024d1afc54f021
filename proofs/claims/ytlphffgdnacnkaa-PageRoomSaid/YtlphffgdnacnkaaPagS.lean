/- What the laws of pages ask of the program's functions: each one's contract, as a statement (proved where the program is spoken of); that page is awake. No conditions but those that the statements name. -/
import Derived.Test.YtlphffgdnacnkaaPagE
import Derived.Test.YtlphffgdnacnkaaPagF
namespace Go.Proofs.Ytlphffgdnacnkaa
open Go.RowKit
set_option maxRecDepth 20000
def ptrP (b : Nat) : Value := .pointer (some ⟨b, 0, none⟩)
def wide (a : Int) : Prop := -9223372036854775808 ≤ a ∧ a ≤ 9223372036854775807
/-- PG G w b p: in world w block b is the program's object of the pages p; it and all that it owns lie in G. The program's functions return what is said here -/
structure PageSays (PG : (Nat → Prop) → World → Nat → Ps → Prop) : Prop where
  lt : ∀ {G : Nat → Prop} {w : World} {b : Nat} {p : Ps}, PG G w b p → ∀ k, G k → k < w.heap.size
  keep : ∀ {G T : Nat → Prop} {w w' : World} {b : Nat} {p : Ps}, PG G w b p → Kept T w w' → (∀ k, G k → T k) → PG G w' b p
  new_yes : ∀ (room : Int) (w : World), 1 ≤ room ∧ room ≤ 4096 → Calls Try.prog 7 #[.int .i64 room] w fun e w' => ∃ (b : Nat) (G : Nat → Prop), e = .returned (.tuple #[ptrP b, .int .i64 0]) ∧ PG G w' b (newP room) ∧ (∀ k, G k → w.heap.size ≤ k) ∧ Below w.heap.size w w'
  new_no : ∀ (room : Int) (w : World), room < 1 ∨ 4096 < room → wide room → Calls Try.prog 7 #[.int .i64 room] w fun e w' => e = .returned (.tuple #[.pointer none, .int .i64 1]) ∧ Below w.heap.size w w'
  write : ∀ (G : Nat → Prop) (w : World) (b : Nat) (p : Ps) (a : Int) (s : ByteArray), PG G w b p → p.Ok → wide a → s.size ≤ 1000000 → Calls Try.prog 11 #[ptrP b, .int .i64 a, .string s] w fun e w' => e = .returned (.int .i64 (p.writeE a s)) ∧ Left PG G w w' b (p.write a s)
  fill : ∀ (G : Nat → Prop) (w : World) (b : Nat) (p : Ps) (a : Int), PG G w b p → p.Ok → wide a → Calls Try.prog 13 #[ptrP b, .int .i64 a] w fun e w' => e = .returned (.int .i64 (p.fillE a)) ∧ Left PG G w w' b (p.fill a)
  trim : ∀ (G : Nat → Prop) (w : World) (b : Nat) (p : Ps) (a : Int), PG G w b p → p.Ok → wide a → Calls Try.prog 15 #[ptrP b, .int .i64 a] w fun e w' => e = .returned (.int .i64 (Ps.trimE a)) ∧ Left PG G w w' b (p.trim a)
  read : ∀ (G : Nat → Prop) (w : World) (b : Nat) (p : Ps) (a : Int), PG G w b p → p.Ok → wide a → Calls Try.prog 17 #[ptrP b, .int .i64 a] w fun e w' => e = .returned (.tuple #[.string (p.readS a), .int .i64 (p.readE a)]) ∧ Below w.heap.size w w'
  kind : ∀ (G : Nat → Prop) (w : World) (b : Nat) (p : Ps) (a : Int), PG G w b p → p.Ok → wide a → Calls Try.prog 19 #[ptrP b, .int .i64 a] w fun e w' => e = .returned (.int .i64 (p.kind a)) ∧ Below w.heap.size w w'
  tail : ∀ (G : Nat → Prop) (w : World) (b : Nat) (p : Ps), PG G w b p → p.Ok → Calls Try.prog 21 #[ptrP b] w fun e w' => e = .returned (.int .i64 p.tail) ∧ Below w.heap.size w w'
  used : ∀ (G : Nat → Prop) (w : World) (b : Nat) (p : Ps), PG G w b p → p.Ok → Calls Try.prog 23 #[ptrP b] w fun e w' => e = .returned (.int .i64 p.l.length) ∧ Below w.heap.size w w'
  edge : ∀ (G : Nat → Prop) (w : World) (b : Nat) (p : Ps), PG G w b p → p.Ok → Calls Try.prog 25 #[ptrP b] w fun e w' => e = .returned (.int .i64 p.edge) ∧ Below w.heap.size w w'
  nil_write : ∀ (a : Int) (s : ByteArray) (w : World), s.size ≤ maxLen → Calls Try.prog 11 #[.pointer none, .int .i64 a, .string s] w fun e w' => e = .returned (.int .i64 1) ∧ Below w.heap.size w w'
  nil_fill : ∀ (a : Int) (w : World), Calls Try.prog 13 #[.pointer none, .int .i64 a] w fun e w' => e = .returned (.int .i64 1) ∧ Below w.heap.size w w'
  nil_trim : ∀ (a : Int) (w : World), Calls Try.prog 15 #[.pointer none, .int .i64 a] w fun e w' => e = .returned (.int .i64 1) ∧ Below w.heap.size w w'
  nil_read : ∀ (a : Int) (w : World), Calls Try.prog 17 #[.pointer none, .int .i64 a] w fun e w' => e = .returned (.tuple #[.string ⟨#[]⟩, .int .i64 1]) ∧ Below w.heap.size w w'
  nil_kind : ∀ (a : Int) (w : World), Calls Try.prog 19 #[.pointer none, .int .i64 a] w fun e w' => e = .returned (.int .i64 0) ∧ Below w.heap.size w w'
  nil_tail : ∀ (w : World), Calls Try.prog 21 #[.pointer none] w fun e w' => e = .returned (.int .i64 0) ∧ Below w.heap.size w w'
  nil_used : ∀ (w : World), Calls Try.prog 23 #[.pointer none] w fun e w' => e = .returned (.int .i64 0) ∧ Below w.heap.size w w'
  nil_edge : ∀ (w : World), Calls Try.prog 25 #[.pointer none] w fun e w' => e = .returned (.int .i64 0) ∧ Below w.heap.size w w'
/-- the object, and that it lies above a bound: what a law carries along -/
def Up (PG : (Nat → Prop) → World → Nat → Ps → Prop) (B : Nat) (w0 w : World) (b : Nat) (p : Ps) : Prop := p.Ok ∧ Below B w0 w ∧ B ≤ w.heap.size ∧ ∃ G : Nat → Prop, PG G w b p ∧ ∀ k, G k → B ≤ k
theorem Up.below {PG : (Nat → Prop) → World → Nat → Ps → Prop} (HS : PageSays PG) {B : Nat} {w0 w w' : World} {b : Nat} {p : Ps} (h : Up PG B w0 w b p) (hb : Below w.heap.size w w') : Up PG B w0 w' b p := by
  obtain ⟨h1, h2, h3, G, h4, h5⟩ := h
  exact ⟨h1, h2.trans (hb.mono h3), Nat.le_trans h3 hb.size, G, HS.keep h4 (Kept.ofBelow hb (fun _ => True)) (fun _ _ => trivial), h5⟩
theorem up_left {PG : (Nat → Prop) → World → Nat → Ps → Prop} {B : Nat} {w0 w w' : World} {b : Nat} {p' : Ps} {G : Nat → Prop} (hok : p'.Ok) (h2 : Below B w0 w) (h3 : B ≤ w.heap.size) (h5 : ∀ k, G k → B ≤ k) (hl : Left PG G w w' b p') : Up PG B w0 w' b p' := by
  obtain ⟨G', r1, r2, r3⟩ := hl
  refine ⟨hok, h2.trans (r2.toBelow h3 (fun k hk hg => ?_)), Nat.le_trans h3 r2.size, G', r1, fun k hk => ?_⟩
  · have := h5 k hg
    omega
  · rcases r3 k hk with h | h
    · exact h5 k h
    · omega
section
variable {PG : (Nat → Prop) → World → Nat → Ps → Prop} {B : Nat} {w0 w : World} {b : Nat} {p : Ps}
theorem up_write (HS : PageSays PG) (h : Up PG B w0 w b p) {a : Int} {s : ByteArray} (ha : wide a) (hs : s.size ≤ 1000000) : Calls Try.prog 11 #[ptrP b, .int .i64 a, .string s] w fun e w' => e = .returned (.int .i64 (p.writeE a s)) ∧ Up PG B w0 w' b (p.write a s) := by
  obtain ⟨h1, h2, h3, G, h4, h5⟩ := h
  exact (HS.write G w b p a s h4 h1 ha hs).mono fun e w' ⟨he, hl⟩ => ⟨he, up_left (h1.write a s) h2 h3 h5 hl⟩
theorem up_fill (HS : PageSays PG) (h : Up PG B w0 w b p) {a : Int} (ha : wide a) : Calls Try.prog 13 #[ptrP b, .int .i64 a] w fun e w' => e = .returned (.int .i64 (p.fillE a)) ∧ Up PG B w0 w' b (p.fill a) := by
  obtain ⟨h1, h2, h3, G, h4, h5⟩ := h
  exact (HS.fill G w b p a h4 h1 ha).mono fun e w' ⟨he, hl⟩ => ⟨he, up_left (h1.fill a) h2 h3 h5 hl⟩
theorem up_trim (HS : PageSays PG) (h : Up PG B w0 w b p) {a : Int} (ha : wide a) : Calls Try.prog 15 #[ptrP b, .int .i64 a] w fun e w' => e = .returned (.int .i64 (Ps.trimE a)) ∧ Up PG B w0 w' b (p.trim a) := by
  obtain ⟨h1, h2, h3, G, h4, h5⟩ := h
  exact (HS.trim G w b p a h4 h1 ha).mono fun e w' ⟨he, hl⟩ => ⟨he, up_left (h1.trim a) h2 h3 h5 hl⟩
theorem up_read (HS : PageSays PG) (h : Up PG B w0 w b p) {a : Int} (ha : wide a) : Calls Try.prog 17 #[ptrP b, .int .i64 a] w fun e w' => e = .returned (.tuple #[.string (p.readS a), .int .i64 (p.readE a)]) ∧ Up PG B w0 w' b p := by
  have h' := h
  obtain ⟨h1, h2, h3, G, h4, h5⟩ := h
  exact (HS.read G w b p a h4 h1 ha).mono fun e w' ⟨he, hl⟩ => ⟨he, h'.below HS hl⟩
theorem up_kind (HS : PageSays PG) (h : Up PG B w0 w b p) {a : Int} (ha : wide a) : Calls Try.prog 19 #[ptrP b, .int .i64 a] w fun e w' => e = .returned (.int .i64 (p.kind a)) ∧ Up PG B w0 w' b p := by
  have h' := h
  obtain ⟨h1, h2, h3, G, h4, h5⟩ := h
  exact (HS.kind G w b p a h4 h1 ha).mono fun e w' ⟨he, hl⟩ => ⟨he, h'.below HS hl⟩
theorem up_tail (HS : PageSays PG) (h : Up PG B w0 w b p) : Calls Try.prog 21 #[ptrP b] w fun e w' => e = .returned (.int .i64 p.tail) ∧ Up PG B w0 w' b p := by
  have h' := h
  obtain ⟨h1, h2, h3, G, h4, h5⟩ := h
  exact (HS.tail G w b p h4 h1).mono fun e w' ⟨he, hl⟩ => ⟨he, h'.below HS hl⟩
theorem up_used (HS : PageSays PG) (h : Up PG B w0 w b p) : Calls Try.prog 23 #[ptrP b] w fun e w' => e = .returned (.int .i64 p.l.length) ∧ Up PG B w0 w' b p := by
  have h' := h
  obtain ⟨h1, h2, h3, G, h4, h5⟩ := h
  exact (HS.used G w b p h4 h1).mono fun e w' ⟨he, hl⟩ => ⟨he, h'.below HS hl⟩
theorem up_edge (HS : PageSays PG) (h : Up PG B w0 w b p) : Calls Try.prog 25 #[ptrP b] w fun e w' => e = .returned (.int .i64 p.edge) ∧ Up PG B w0 w' b p := by
  have h' := h
  obtain ⟨h1, h2, h3, G, h4, h5⟩ := h
  exact (HS.edge G w b p h4 h1).mono fun e w' ⟨he, hl⟩ => ⟨he, h'.below HS hl⟩
theorem up_new (HS : PageSays PG) (w : World) {room : Int} (hr : 1 ≤ room ∧ room ≤ 4096) : Calls Try.prog 7 #[.int .i64 room] w fun e w' => ∃ b, e = .returned (.tuple #[ptrP b, .int .i64 0]) ∧ Up PG w.heap.size w w' b (newP room) := by
  refine (HS.new_yes room w hr).mono ?_
  rintro e w' ⟨b, G, he, h1, h2, h3⟩
  exact ⟨b, he, newP_ok hr, h3, h3.size, G, h1, h2⟩
end
/-- the laws' example -/
def exP1 : Ps := (newP 9).write 0 ⟨#[97]⟩
def exP3 : Ps := ((exP1.write 0 ⟨#[98]⟩).fill 2).trim 1
theorem exP_facts : (newP 9).writeE 0 ⟨#[97]⟩ = 0 ∧ exP1.writeE 0 ⟨#[98]⟩ = 41 ∧ (exP1.write 0 ⟨#[98]⟩).fillE 2 = 0 ∧ Ps.trimE 1 = 0 ∧ exP3.readE 0 = 43 ∧ exP3.readE 1 = 42 ∧ exP3.tail = 3 ∧ (exP3.l.length : Int) = 1 ∧ exP3.kind 2 = 2 := by decide +kernel
set_option maxHeartbeats 4000000 in
theorem wakes9_any {PG : (Nat → Prop) → World → Nat → Ps → Prop} (HS : PageSays PG) (w : World) : Calls Try.prog 10 #[] w fun e w' => e = .returned (.bool true) ∧ Below w.heap.size w w' := by
  have FA := Lib.hid exP_facts
  have ZZ := Lib.hid (show wide 0 ∧ wide 1 ∧ wide 2 from by unfold wide; decide)
  have CN := Lib.hid (up_new HS w (room := 9) (by decide))
  have HP := Lib.hid (show (fun b => Value.pointer (some ⟨b, 0, none⟩)) = ptrP from rfl)
  unfold ptrP at CN
  go_enter Try.func10, Try.ntmps10
  go_wp2_with (first
    | (go_at_call 7; refine CN.out.mono ?_; rintro e w1 ⟨b, rfl, hu1⟩; have U1 := Lib.hid hu1; clear hu1)
    | (go_at_call 11; refine (up_write HS U2.out ZZ.out.1 (by decide)).mono ?_; rintro e w3 ⟨rfl, hu3⟩; rw [show ((newP 9).write 0 ⟨#[97]⟩).writeE 0 ⟨#[98]⟩ = 41 from FA.out.2.1]; have U3 := Lib.hid hu3; clear hu3)
    | (go_at_call 11; refine (up_write HS U1.out ZZ.out.1 (by decide)).mono ?_; rintro e w2 ⟨rfl, hu2⟩; rw [FA.out.1]; have U2 := Lib.hid hu2; clear hu2)
    | (go_at_call 13; refine (up_fill HS U3.out ZZ.out.2.2).mono ?_; rintro e w4 ⟨rfl, hu4⟩; rw [show (((newP 9).write 0 ⟨#[97]⟩).write 0 ⟨#[98]⟩).fillE 2 = 0 from FA.out.2.2.1]; have U4 := Lib.hid hu4; clear hu4)
    | (go_at_call 15; refine (up_trim HS U4.out ZZ.out.2.1).mono ?_; rintro e w5 ⟨rfl, hu5⟩; rw [FA.out.2.2.2.1]; have U5 := Lib.hid (show Up PG w.heap.size w w5 b exP3 from hu5); clear hu5)
    | (go_at_call 17; refine (up_read HS U6.out ZZ.out.2.1).mono ?_; rintro e w7 ⟨rfl, hu7⟩; rw [FA.out.2.2.2.2.2.1]; have U7 := Lib.hid hu7; clear hu7)
    | (go_at_call 17; refine (up_read HS U5.out ZZ.out.1).mono ?_; rintro e w6 ⟨rfl, hu6⟩; rw [FA.out.2.2.2.2.1]; have U6 := Lib.hid hu6; clear hu6)
    | (go_at_call 21; refine (up_tail HS U7.out).mono ?_; rintro e w8 ⟨rfl, hu8⟩; rw [FA.out.2.2.2.2.2.2.1]; have U8 := Lib.hid hu8; clear hu8)
    | (go_at_call 23; refine (up_used HS U8.out).mono ?_; rintro e w9 ⟨rfl, hu9⟩; rw [FA.out.2.2.2.2.2.2.2.1]; have U9 := Lib.hid hu9; clear hu9)
    | (go_at_call 19; refine (up_kind HS U9.out ZZ.out.2.2).mono ?_; rintro e w10 ⟨rfl, hu10⟩; rw [FA.out.2.2.2.2.2.2.2.2]; have U10 := Lib.hid hu10; clear hu10))
  go_ret
  exact ⟨rfl, U10.out.2.1⟩
end Go.Proofs.Ytlphffgdnacnkaa
