/- What the laws of units ask of the program's functions: each one's contract, as a statement (proved where the program is spoken of); that unit is awake. No conditions but those that the statements name. -/
import Derived.Test.YtaodmdoagngdnaaUniM
import Derived.Test.YtaodmdoagngdnaaSide
namespace Go.Proofs.Ytaodmdoagngdnaa
set_option linter.unusedVariables false
open Go.RowKit
set_option maxRecDepth 20000
def ptrV (b : Nat) : Value := .pointer (some ⟨b, 0, none⟩)
/-- an answer that tells no projection, as a value -/
def anV (c n : Int) (s : ByteArray) (e : Int) : Value := .agg #[.int .i64 c, .int .i64 n, .string s, .int .i64 0, .slice none 0 0, .int .i64 0, .int .i64 0, .int .i64 e]
theorem ansV_U (u : Us) (a : Ak) : ansV (u.ans a) none 0 = anV (u.ans a).code (u.ans a).n (u.ans a).data (u.ans a).epoch := by
  unfold Us.ans
  repeat' split
  all_goals rfl
/-- UG b pb G w u: in world w block b is the program's unit u, block pb its pages; it and all that it owns lie in G. The program's functions return what is said here -/
structure UnitSays (UG : Nat → Nat → (Nat → Prop) → World → Us → Prop) : Prop where
  thing : ∀ b pb, Thing (UG b pb)
  ok : ∀ {b pb : Nat} {G : Nat → Prop} {w : World} {u : Us}, UG b pb G w u → u.p.Ok ∧ i64w u.epoch
  new_yes : ∀ (room : Int) (w : World), 1 ≤ room ∧ room ≤ 4096 → Calls Try.prog 7 #[.int .i64 room] w fun e w' => ∃ (b pb : Nat) (G : Nat → Prop), e = .returned (.tuple #[ptrV b, .int .i64 0]) ∧ UG b pb G w' (newU room) ∧ (∀ k, G k → w.heap.size ≤ k) ∧ Below w.heap.size w w'
  new_no : ∀ (room : Int) (w : World), room < 1 ∨ 4096 < room → i64w room → Calls Try.prog 7 #[.int .i64 room] w fun e w' => e = .returned (.tuple #[.pointer none, .int .i64 1]) ∧ Below w.heap.size w w'
  ask : ∀ (b pb : Nat) (G : Nat → Prop) (w : World) (u : Us) (a : Ak), UG b pb G w u → AkIn w a → a.data.size ≤ 1000000 → Calls Try.prog 12 #[ptrV b, askV a] w fun e w' => e = .returned (anV (u.ans a).code (u.ans a).n (u.ans a).data (u.ans a).epoch) ∧ Leaves (UG b pb) G w w' (u.done a)
  crash : ∀ (b pb : Nat) (G : Nat → Prop) (w : World) (u : Us), UG b pb G w u → Calls Try.prog 14 #[ptrV b] w fun e w' => e = .returned (.tuple #[]) ∧ Leaves (UG b pb) G w w' ⟨u.p, u.epoch, true⟩
  start : ∀ (b pb : Nat) (G : Nat → Prop) (w : World) (u : Us), UG b pb G w u → Calls Try.prog 15 #[ptrV b] w fun e w' => e = .returned (.tuple #[]) ∧ Leaves (UG b pb) G w w' ⟨u.p, u.epoch, false⟩
  down : ∀ (b pb : Nat) (G : Nat → Prop) (w : World) (u : Us), UG b pb G w u → Calls Try.prog 16 #[ptrV b] w fun e w' => e = .returned (.bool u.down) ∧ Below w.heap.size w w'
  epoch : ∀ (b pb : Nat) (G : Nat → Prop) (w : World) (u : Us), UG b pb G w u → Calls Try.prog 17 #[ptrV b] w fun e w' => e = .returned (.int .i64 u.epoch) ∧ Below w.heap.size w w'
  pages : ∀ (b pb : Nat) (G : Nat → Prop) (w : World) (u : Us), UG b pb G w u → Calls Try.prog 18 #[ptrV b] w fun e w' => e = .returned (ptrV pb) ∧ Below w.heap.size w w'
  used : ∀ (b pb : Nat) (G : Nat → Prop) (w : World) (u : Us), UG b pb G w u → Calls Try.prog 19 #[ptrV pb] w fun e w' => e = .returned (.int .i64 u.p.l.length) ∧ Below w.heap.size w w'
  tail : ∀ (b pb : Nat) (G : Nat → Prop) (w : World) (u : Us), UG b pb G w u → Calls Try.prog 21 #[ptrV pb] w fun e w' => e = .returned (.int .i64 u.p.tail) ∧ Below w.heap.size w w'
  edge : ∀ (b pb : Nat) (G : Nat → Prop) (w : World) (u : Us), UG b pb G w u → Calls Try.prog 23 #[ptrV pb] w fun e w' => e = .returned (.int .i64 u.p.edge) ∧ Below w.heap.size w w'
  nil_ask : ∀ (a : Ak) (w : World), AkIn w a → a.data.size ≤ 1000000 → Calls Try.prog 12 #[.pointer none, askV a] w fun e w' => e = .returned (anV 1 0 noS 0) ∧ Below w.heap.size w w'
  nil_crash : ∀ (w : World), Calls Try.prog 14 #[.pointer none] w fun e w' => e = .returned (.tuple #[]) ∧ Below w.heap.size w w'
  nil_start : ∀ (w : World), Calls Try.prog 15 #[.pointer none] w fun e w' => e = .returned (.tuple #[]) ∧ Below w.heap.size w w'
  nil_down : ∀ (w : World), Calls Try.prog 16 #[.pointer none] w fun e w' => e = .returned (.bool true) ∧ Below w.heap.size w w'
  nil_epoch : ∀ (w : World), Calls Try.prog 17 #[.pointer none] w fun e w' => e = .returned (.int .i64 0) ∧ Below w.heap.size w w'
  nil_pages : ∀ (w : World), Calls Try.prog 18 #[.pointer none] w fun e w' => e = .returned (.pointer none) ∧ Below w.heap.size w w'
section
variable {UG : Nat → Nat → (Nat → Prop) → World → Us → Prop} {X : Nat → Prop} {w : World} {b pb : Nat} {u : Us}
theorem u_new (HS : UnitSays UG) (w : World) {room : Int} (hr : 1 ≤ room ∧ room ≤ 4096) : Calls Try.prog 7 #[.int .i64 room] w fun e w' => ∃ b pb, e = .returned (.tuple #[ptrV b, .int .i64 0]) ∧ Solo (UG b pb) (fun k => k < w.heap.size) w' (newU room) ∧ Below w.heap.size w w' := by
  refine (HS.new_yes room w hr).mono ?_
  rintro e w' ⟨b, pb, G, he, h1, h2, h3⟩
  exact ⟨b, pb, he, ⟨fun k hk => Nat.lt_of_lt_of_le hk h3.size, G, h1, fun k hk hg => by have := h2 k hg; omega⟩, h3⟩
theorem u_ask (HS : UnitSays UG) (h : Solo (UG b pb) X w u) {a : Ak} (ha : AkIn w a) (hs : a.data.size ≤ 1000000) : Calls Try.prog 12 #[ptrV b, askV a] w fun e w' => e = .returned (anV (u.ans a).code (u.ans a).n (u.ans a).data (u.ans a).epoch) ∧ Solo (UG b pb) X w' (u.done a) ∧ Kept X w w' :=
  solo_call (R := fun e => e = .returned (anV (u.ans a).code (u.ans a).n (u.ans a).data (u.ans a).epoch)) (HS.thing b pb) h (fun F hF => HS.ask b pb F w u a hF ha hs)
theorem u_crash (HS : UnitSays UG) (h : Solo (UG b pb) X w u) : Calls Try.prog 14 #[ptrV b] w fun e w' => e = .returned (.tuple #[]) ∧ Solo (UG b pb) X w' ⟨u.p, u.epoch, true⟩ ∧ Kept X w w' :=
  solo_call (R := fun e => e = .returned (.tuple #[])) (HS.thing b pb) h (fun F hF => HS.crash b pb F w u hF)
theorem u_start (HS : UnitSays UG) (h : Solo (UG b pb) X w u) : Calls Try.prog 15 #[ptrV b] w fun e w' => e = .returned (.tuple #[]) ∧ Solo (UG b pb) X w' ⟨u.p, u.epoch, false⟩ ∧ Kept X w w' :=
  solo_call (R := fun e => e = .returned (.tuple #[])) (HS.thing b pb) h (fun F hF => HS.start b pb F w u hF)
theorem u_look {v : Value} {fn : FuncId} {args : Array Value} (HS : UnitSays UG) (h : Solo (UG b pb) X w u) (hc : ∀ G : Nat → Prop, UG b pb G w u → Calls Try.prog fn args w fun e w' => e = .returned v ∧ Below w.heap.size w w') : Calls Try.prog fn args w fun e w' => e = .returned v ∧ Solo (UG b pb) X w' u ∧ Kept X w w' := by
  obtain ⟨F, hF, _⟩ := h.2
  refine (hc F hF).mono ?_
  rintro e w' ⟨he, hb⟩
  exact ⟨he, h.below (HS.thing b pb) hb, Kept.ofBelow hb X⟩
end
/-- a question without a projection -/
def akP (kind epoch page : Int) (s : ByteArray) : Ak := ⟨kind, 0, epoch, page, 0, 0, s, 0, [], none, 0⟩
theorem akP_in (w : World) {k e p : Int} {s : ByteArray} (hk : i64w k) (he : i64w e) (hp : i64w p) (hs : s.size ≤ maxLen) : AkIn w (akP k e p s) :=
  ⟨⟨hk, WalkArith.wf_i64 (n := 0) (by decide), he, hp, WalkArith.wf_i64 (n := 0) (by decide), WalkArith.wf_i64 (n := 0) (by decide), hs, WalkArith.wf_i64 (n := 0) (by decide), Nat.zero_le _, (fun c hc => by cases hc), fun _ => rfl, Nat.le_refl _⟩, CL.nil _ _⟩
theorem i64w_small {x : Int} (h : -1000000000000 ≤ x ∧ x ≤ 1000000000000) : i64w x := WalkArith.wf_i64 (by omega)
theorem u_askP {UG : Nat → Nat → (Nat → Prop) → World → Us → Prop} {X : Nat → Prop} {w : World} {b pb : Nat} {u : Us} (HS : UnitSays UG) (h : Solo (UG b pb) X w u) {k e p : Int} {s : ByteArray} (hk : i64w k) (he : i64w e) (hp : i64w p) (hs : s.size ≤ 1000000) :
    Calls Try.prog 12 #[.pointer (some ⟨b, 0, none⟩), .agg #[.int .i64 k, .int .i64 0, .int .i64 e, .int .i64 p, .int .i64 0, .int .i64 0, .string s, .int .i64 0, .slice none 0 0]] w fun e2 w' =>
      e2 = .returned (.agg #[.int .i64 (u.ans (akP k e p s)).code, .int .i64 (u.ans (akP k e p s)).n, .string (u.ans (akP k e p s)).data, .int .i64 0, .slice none 0 0, .int .i64 0, .int .i64 0, .int .i64 (u.ans (akP k e p s)).epoch]) ∧ Solo (UG b pb) X w' (u.done (akP k e p s)) ∧ Kept X w w' :=
  u_ask HS h (a := akP k e p s) (akP_in w hk he hp (by unfold maxLen; omega)) hs
/-- the laws' example -/
def exU1 : Us := (newU 9).done (akP 1 0 1 ⟨#[97]⟩)
def exU2 : Us := exU1.done (akP 5 3 0 ⟨#[]⟩)
def exU3 : Us := exU2.done (akP 1 2 2 ⟨#[98]⟩)
theorem exU_facts : ((newU 9).ans (akP 1 0 1 ⟨#[97]⟩)).code = 0 ∧ (exU1.ans (akP 5 3 0 ⟨#[]⟩)).n = 2 ∧ (exU1.ans (akP 5 3 0 ⟨#[]⟩)).epoch = 3 ∧ (exU2.ans (akP 1 2 2 ⟨#[98]⟩)).code = 40 ∧ (exU2.ans (akP 1 2 2 ⟨#[98]⟩)).epoch = 3 ∧ (exU3.ans (akP 3 3 1 ⟨#[]⟩)).data = ⟨#[97]⟩ := by decide +kernel
set_option maxHeartbeats 8000000 in
theorem wakes10_any {UG : Nat → Nat → (Nat → Prop) → World → Us → Prop} (HS : UnitSays UG) (w : World) : Calls Try.prog 10 #[] w fun e w' => e = .returned (.bool true) ∧ Below w.heap.size w w' := by
  have FA := Lib.hid exU_facts
  have ZZ := Lib.hid (fun (x : Int) (h : 0 ≤ x ∧ x ≤ 9) => @i64w_small x (by omega))
  have CN := Lib.hid (u_new HS w (room := 9) (by decide))
  have TT := Lib.hid (fun b pb => HS.thing b pb)
  unfold ptrV at CN
  go_enter Try.func10, Try.ntmps10
  go_wp2_with (go_at_call 7; refine CN.out.mono ?_; rintro e w1 ⟨b, pb, rfl, hu1, hb1⟩; have U1 := Lib.hid hu1; have B1 := Lib.hid hb1; clear hu1 hb1)
  refine (u_askP HS U1.out (k := 1) (e := 0) (p := 1) (s := ⟨#[97]⟩) (ZZ.out 1 (by omega)) (ZZ.out 0 (by omega)) (ZZ.out 1 (by omega)) (by decide)).mono ?_
  rintro e w2 ⟨rfl, hu2, hk2⟩
  rw [FA.out.1]
  have U2 := Lib.hid (show Solo (UG b pb) (fun k => k < w.heap.size) w2 exU1 from hu2)
  have B2 := Lib.hid (B1.out.trans (hk2.toBelow B1.out.size (fun k h => h)))
  clear hu2 hk2
  go_wp2_with fail
  refine (u_askP HS (U2.out.beside (TT.out b pb) _) (k := 5) (e := 3) (p := 0) (s := ⟨#[]⟩) (ZZ.out 5 (by omega)) (ZZ.out 3 (by omega)) (ZZ.out 0 (by omega)) (by decide)).mono ?_
  rintro e w3 ⟨rfl, hu3, hk3⟩
  rw [FA.out.2.1, FA.out.2.2.1]
  have U3 := Lib.hid (show Solo (UG b pb) (fun k => k < w.heap.size ∨ k = w2.heap.size) w3 exU2 from hu3)
  have B3 := Lib.hid ((B2.out.alloc B2.out.size _).trans (hk3.toBelow (by have := B2.out.size; simp; omega) (fun k h => .inl h)))
  have P3 := Lib.hid (hk3.heap (b := w2.heap.size) (Or.inr rfl) (heap_alloc_new w2 _))
  clear hu3 hk3
  go_wp2_with fail
  refine (u_askP HS (U3.out.beside (TT.out b pb) _) (k := 1) (e := 2) (p := 2) (s := ⟨#[98]⟩) (ZZ.out 1 (by omega)) (ZZ.out 2 (by omega)) (ZZ.out 2 (by omega)) (by decide)).mono ?_
  rintro e w4 ⟨rfl, hu4, hk4⟩
  rw [FA.out.2.2.2.1, FA.out.2.2.2.2.1]
  have U4 := Lib.hid (show Solo (UG b pb) (fun k => (k < w.heap.size ∨ k = w2.heap.size) ∨ k = w3.heap.size) w4 exU3 from hu4)
  have B4 := Lib.hid ((B3.out.alloc B3.out.size _).trans (hk4.toBelow (by have := B3.out.size; simp; omega) (fun k h => .inl (.inl h))))
  have P4 := Lib.hid (hk4.heap (b := w2.heap.size) (Or.inl (Or.inr rfl)) (below_heap ((Below.refl _ _).alloc (Nat.le_refl _) _) P3.out))
  have Q4 := Lib.hid (hk4.heap (b := w3.heap.size) (Or.inr rfl) (heap_alloc_new w3 _))
  clear hu4 hk4 P3
  go_wp2_with fail
  refine (u_askP HS (U4.out.beside (TT.out b pb) _) (k := 3) (e := 3) (p := 1) (s := ⟨#[]⟩) (ZZ.out 3 (by omega)) (ZZ.out 3 (by omega)) (ZZ.out 1 (by omega)) (by decide)).mono ?_
  rintro e w5 ⟨rfl, hu5, hk5⟩
  rw [FA.out.2.2.2.2.2]
  have B5 := Lib.hid ((B4.out.alloc B4.out.size _).trans (hk5.toBelow (by have := B4.out.size; simp; omega) (fun k h => .inl (.inl (.inl h)))))
  have p5 := hk5.heap (b := w2.heap.size) (Or.inl (Or.inl (Or.inr rfl))) (below_heap ((Below.refl _ _).alloc (Nat.le_refl _) _) P4.out)
  have q5 := hk5.heap (b := w3.heap.size) (Or.inl (Or.inr rfl)) (below_heap ((Below.refl _ _).alloc (Nat.le_refl _) _) Q4.out)
  have r5 := hk5.heap (b := w4.heap.size) (Or.inr rfl) (heap_alloc_new w4 _)
  have lp := lt_of_block p5
  have lq := lt_of_block q5
  have lr := lt_of_block r5
  have p0 := cell_of p5 0
  have q1 := cell_of q5 1
  have q7 := cell_of q5 7
  have r0 := cell_of r5 0
  have r7 := cell_of r5 7
  clear hu5 hk5 P4 Q4 p5 q5 r5
  go_wp2_with fail
  go_ret
  exact ⟨rfl, B5.out.alloc B5.out.size _⟩
end Go.Proofs.Ytaodmdoagngdnaa
