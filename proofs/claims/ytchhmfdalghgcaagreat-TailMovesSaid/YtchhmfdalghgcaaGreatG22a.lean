/- What the program's layout answers any question. Conditions: it and the question lie where the call was told; no more than 100000 units were noted. What the laws of all nodes ask of the program's functions: each one's contract, as a statement (proved where the program is spoken of). No conditions but those that the statements name. That layout is awake: the laws' own example. Conditions: the program's functions return what LaySays says. -/
import Derived.Test.YtchhmfdalghgcaaGreatG21a
import Derived.Test.YtchhmfdalghgcaaGreatG08b
import Derived.Test.YtchhmfdalghgcaaGreatG16a
import Derived.Test.YtchhmfdalghgcaaGreatG09a
set_option linter.unusedVariables false
namespace Go.Proofs.YtchhmfdalghgcaaGreat
set_option linter.unusedVariables false
open Go.RowKit Go.Maps
set_option maxRecDepth 20000
/-- chains that were made behind one more block, and that block written -/
theorem chained_over {T : (Nat → Prop) → World → Ly → Prop} (hT : Thing T) {H : Nat → Prop} {w w4 W5 : World} {s : Ly} {o : Obj} {v : Value} {L : List (List Int)} (h : T H w s) (hb4 : Below (w.alloc o).heap.size (w.alloc o) w4) (hO : OC w4 (w.alloc o).heap.size v L) (hk : Kept (fun k => k ≠ w.heap.size) w4 W5) (hs : W5.heap.size = w4.heap.size) :
    Leaves (Chained T (fun k => w.heap.size < k ∧ k < w4.heap.size) v L) H w W5 s := by
  have hb0 := below_new w o
  have hz : (w.alloc o).heap.size = w.heap.size + 1 := by simp
  rw [hz] at hO
  have hH := fun k hk => hT.lt h k hk
  refine ⟨fun k => H k ∨ (w.heap.size < k ∧ k < w4.heap.size), ⟨H, ?_, ?_, fun k hk2 => by rw [hs]; exact hk2.2, fun k hk2 hf => by have := hH k hf; omega, fun k => Iff.rfl⟩, ?_, fun k hk2 => hk2.imp id (fun h => by omega)⟩
  · exact hT.keep (hT.keep (hT.keep h (Kept.ofBelow hb0 (fun _ => True)) (fun _ _ => trivial)) (Kept.ofBelow hb4 (fun _ => True)) (fun _ _ => trivial)) hk (fun k hf e => by have := hH k hf; omega)
  · exact ((CG.of hO).mono (S := fun k => w.heap.size < k ∧ k < w4.heap.size) (fun k hk2 => by omega)).keep hk (fun k hk2 => by omega)
  · have h1 := (Kept.ofBelow hb0 (fun k => ¬ H k)).below hb4
    refine ⟨hk.os.trans h1.os, hk.tape.trans h1.tape, hk.output.trans h1.output, Nat.le_trans h1.size hk.size, fun k hg hkl => ?_⟩
    rw [hk.block k (by omega) (Nat.lt_of_lt_of_le hkl h1.size)]
    exact h1.block k hg hkl
theorem two_size (W : World) (b i j : Nat) (v u : Value) : ((W.setCell ⟨b, i, none⟩ v).setCell ⟨b, j, none⟩ u).heap.size = W.heap.size := by simp [World.setCell]
theorem two_stay (W : World) (b i j : Nat) (v u : Value) : Kept (fun k => k ≠ b) W ((W.setCell ⟨b, i, none⟩ v).setCell ⟨b, j, none⟩ u) := ((Kept.refl _ W).setCell (p := ⟨b, i, none⟩) (fun h => h rfl) _).setCell (p := ⟨b, j, none⟩) (fun h => h rfl) _
set_option maxHeartbeats 1000000 in
theorem lp_do_tell (b : Nat) (G : Nat → Prop) (w : World) (y : Ly) (a : Ak) (h : LB b G w y) (hy : y.L.length ≤ 255 ∧ ∀ c ∈ y.L, c.length ≤ 255) (hk : a.kind = 9) :
    Calls Tryz.prog 139 #[ptrL b, askV a] w fun x w' => Tells (LB b) G w y ⟨0, y.n, noL, y.ep, y.L, y.mark, y.size, 0⟩ x w' := by
  obtain ⟨k, un, ep, pg, sz, n, s, pe, L, ao, cap⟩ := a
  simp only at hk
  have d9 : (k == 9) = true := by rw [hk]; rfl
  have HS := Lib.hid (boxv_start (lb_thing b) h 37 33 #[.int .i64 k, .int .i64 un, .int .i64 ep, .int .i64 pg, .int .i64 sz, .int .i64 n, .string s, .int .i64 pe, .slice ao L.length cap] zeroE)
  unfold zeroE at HS
  have C2 := Lib.hid (fun w => ltold_any y.mark y.size y.n w)
  have CN := Lib.hid (fun (W : World) H hH => lp_now b H W y hH hy)
  unfold ptrL at CN
  obtain ⟨H0, hH0, _⟩ := HS.out.use
  obtain ⟨lo, lc, mb, h1, _⟩ := hH0.open
  obtain ⟨⟨c0, c1, c2, c3, c4, c5⟩, _⟩ := six_cells h1
  have hb1 := lt_of_block h1
  have HC := Lib.hid (And.intro c3 (And.intro c4 c5))
  have hbw := h.small
  obtain ⟨_, _, _, g1, _⟩ := h.open
  obtain ⟨⟨e0, e1, e2, e3, e4, e5⟩, _⟩ := six_cells g1
  clear h hy hk hH0 h1 c0 c1 c2 c3 c4 c5 hb1 g1 e0 e1 e2 HC
  show Calls _ _ #[.pointer (some ⟨b, 0, none⟩), .agg #[.int .i64 k, .int .i64 un, .int .i64 ep, .int .i64 pg, .int .i64 sz, .int .i64 n, .string s, .int .i64 pe, .slice ao L.length cap]] w _
  go_enter Tryz.func139, Tryz.ntmps139
  go_wp2_with (first
    | (go_at_call 142; refine (C2.out _).mono ?_; rintro x w2 ⟨rfl, hb2⟩; have HS2 := Lib.hid (HS.out.below (lb_thing b) hb2); clear hb2)
    | (go_at_call 140; obtain ⟨H2, hH2, _, hU2⟩ := HS2.out.use2; refine (CN.out _ H2 (hH2.below (below_new _ _))).mono ?_; rintro x w4 ⟨v, rfl, hO, hb4⟩; obtain ⟨vo, vc, hv, _⟩ := hO.form; subst hv; have HX := Lib.hid (hU2 (Chained (LB b) (fun k => w2.heap.size < k ∧ k < w4.heap.size) (.slice vo y.L.length vc) y.L) _ _ (chained_over (lb_thing b) hH2 hb4 hO (two_stay w4 w2.heap.size 3 4 (.int .i64 y.ep) (.slice vo y.L.length vc)) (two_size _ _ _ _ _ _))); have HQ := Lib.hid (below_heap hb4 (heap_alloc_new w2 _)); have hq := lt_of_block HQ.out; obtain ⟨⟨q0, q1, q2, q3, q4, q5, q6, q7⟩, r0, r1, r2, r3, r4, r5, r6, r7⟩ := eight_cells HQ.out; obtain ⟨m1, m2⟩ := HS2.out.small; have HS4 := Lib.hid ((HS2.out.below (lb_thing b) (below_new w2 (.cells #[.int .i64 0, .int .i64 y.n, .string ⟨#[]⟩, .int .i64 0, .slice none 0 0, .int .i64 y.mark, .int .i64 y.size, .int .i64 0] 33))).below (lb_thing b) hb4); obtain ⟨⟨x0, x1, x2, x3, x4, x5, x6, x7⟩, f0, f1, f2, f3, f4, f5, f6, f7⟩ := eight_cells HS4.out.ans; obtain ⟨m3, m4⟩ := HS4.out.small; clear hO hb4 hH2 hU2))
  exact ans_ret (x := ⟨0, y.n, noL, y.ep, y.L, y.mark, y.size, 0⟩) (ao := vo) (cap := vc) rfl (eight_all HX.out.ans _ _ _ _ _ _ _ _) rfl rfl (chained_tells (x := ⟨0, y.n, noL, y.ep, y.L, y.mark, y.size, 0⟩) (fun k hk => Nat.le_trans HS2.out.kp.size (Nat.le_of_lt hk.1)) (HX.out.fin (chained_thing (lb_thing b) _ _ _) (eight_stay _ _ _ _ _ _ _ _ _ _)))
set_option maxHeartbeats 1000000 in
theorem lp_do_other (b : Nat) (G : Nat → Prop) (w : World) (y : Ly) (a : Ak) (h : LB b G w y) (h9 : a.kind ≠ 9) (h10 : a.kind ≠ 10) (h11 : a.kind ≠ 11) :
    Calls Tryz.prog 139 #[ptrL b, askV a] w fun x w' => Tells (LB b) G w y (anP 1 0 noL 0) x w' := by
  obtain ⟨k, un, ep, pg, sz, n, s, pe, L, ao, cap⟩ := a
  simp only at *
  have d9 : (k == 9) = false := beq_eq_false_iff_ne.2 h9
  have d10 : (k == 10) = false := beq_eq_false_iff_ne.2 h10
  have d11 : (k == 11) = false := beq_eq_false_iff_ne.2 h11
  have HS := Lib.hid (boxv_start (lb_thing b) h 37 33 #[.int .i64 k, .int .i64 un, .int .i64 ep, .int .i64 pg, .int .i64 sz, .int .i64 n, .string s, .int .i64 pe, .slice ao L.length cap] zeroE)
  unfold zeroE at HS
  clear h h9 h10 h11
  show Calls _ _ #[.pointer (some ⟨b, 0, none⟩), .agg #[.int .i64 k, .int .i64 un, .int .i64 ep, .int .i64 pg, .int .i64 sz, .int .i64 n, .string s, .int .i64 pe, .slice ao L.length cap]] w _
  go_enter Tryz.func139, Tryz.ntmps139
  go_wp2_with (go_at_call 141; refine (lcoded_any _ _).mono ?_; rintro x w2 ⟨rfl, hb2⟩; have HX := Lib.hid (HS.out.below (lb_thing b) hb2); obtain ⟨⟨x0, x1, x2, x3, x4, x5, x6, x7⟩, f0, f1, f2, f3, f4, f5, f6, f7⟩ := eight_cells HX.out.ans; obtain ⟨m1, m2⟩ := HX.out.small; clear hb2)
  exact ans_ret (x := anP 1 0 noL 0) (ao := none) (cap := 0) rfl (eight_all HX.out.ans _ _ _ _ _ _ _ _) rfl rfl (Tells.plain (HX.out.fin (lb_thing b) (eight_stay _ _ _ _ _ _ _ _ _ _)) rfl)
set_option maxHeartbeats 1000000 in
/-- an image is told of: whatever 'mark' makes of it, Do makes -/
theorem lp_do_mark (b : Nat) (G : Nat → Prop) (w : World) (y y' : Ly) (a : Ak) (h : LB b G w y) (hk : a.kind = 11) (c mn mp ms : Int)
    (hc : ∀ H W, LB b H W y → Calls Tryz.prog 144 #[ptrL b, .agg #[.int .i64 a.page, .int .i64 a.size, .int .i64 a.n]] W fun x w' => x = .returned (ansV ⟨c, mn, noL, 0, [], mp, ms, 0⟩ none 0) ∧ Leaves (LB b) H W w' y') :
    Calls Tryz.prog 139 #[ptrL b, askV a] w fun x w' => Tells (LB b) G w y' ⟨c, mn, noL, 0, [], mp, ms, 0⟩ x w' := by
  obtain ⟨k, un, ep, pg, sz, n, s, pe, L, ao, cap⟩ := a
  simp only at *
  have d11 : (k == 11) = true := by rw [hk]; rfl
  have d9 : (k == 9) = false := by rw [hk]; rfl
  have d10 : (k == 10) = false := by rw [hk]; rfl
  have HS := Lib.hid (boxv_start (lb_thing b) h 37 33 #[.int .i64 k, .int .i64 un, .int .i64 ep, .int .i64 pg, .int .i64 sz, .int .i64 n, .string s, .int .i64 pe, .slice ao L.length cap] zeroE)
  unfold zeroE at HS
  have CM := Lib.hid (show ∀ H W, LB b H W y → Calls Tryz.prog 144 #[.pointer (some ⟨b, 0, none⟩), .agg #[.int .i64 pg, .int .i64 sz, .int .i64 n]] W fun x w' => x = .returned (.agg #[.int .i64 c, .int .i64 mn, .string ⟨#[]⟩, .int .i64 0, .slice none 0 0, .int .i64 mp, .int .i64 ms, .int .i64 0]) ∧ Leaves (LB b) H W w' y' from hc)
  have hbw := h.small
  clear h hk hc
  show Calls _ _ #[.pointer (some ⟨b, 0, none⟩), .agg #[.int .i64 k, .int .i64 un, .int .i64 ep, .int .i64 pg, .int .i64 sz, .int .i64 n, .string s, .int .i64 pe, .slice ao L.length cap]] w _
  go_enter Tryz.func139, Tryz.ntmps139
  go_wp2_with (go_at_call 144; obtain ⟨H1, hH1, _, hU1⟩ := HS.out.use2; refine (CM.out H1 _ hH1).mono ?_; rintro x w2 ⟨rfl, hl⟩; have HX := Lib.hid (hU1 (LB b) _ _ hl); obtain ⟨⟨x0, x1, x2, x3, x4, x5, x6, x7⟩, f0, f1, f2, f3, f4, f5, f6, f7⟩ := eight_cells HX.out.ans; obtain ⟨m1, m2⟩ := HX.out.small; clear hl hH1 hU1)
  exact ans_ret (x := ⟨c, mn, noL, 0, [], mp, ms, 0⟩) (ao := none) (cap := 0) rfl (eight_all HX.out.ans _ _ _ _ _ _ _ _) rfl rfl (Tells.plain (HX.out.fin (lb_thing b) (eight_stay _ _ _ _ _ _ _ _ _ _)) rfl)
set_option maxHeartbeats 1000000 in
/-- a change is told of: whatever 'change' makes of it, Do makes -/
theorem lp_do_change (b : Nat) (G : Nat → Prop) (w : World) (y y' : Ly) (a : Ak) (h : LB b G w y) (hA : ∀ W, Kept (fun k => ¬ G k) w W → CL W a.ao a.L) (hk : a.kind = 10) (c e : Int) (M : List (List Int))
    (hc : ∀ H W, LB b H W y → (∀ W2, Kept (fun k => ¬ H k) W W2 → CL W2 a.ao a.L) → Calls Tryz.prog 143 #[ptrL b, .agg #[.int .i64 a.pe, .slice a.ao a.L.length a.cap]] W fun x w' => Tells (LB b) H W y' (anL c e M) x w') :
    Calls Tryz.prog 139 #[ptrL b, askV a] w fun x w' => Tells (LB b) G w y' (anL c e M) x w' := by
  obtain ⟨k, un, ep, pg, sz, n, s, pe, L, ao, cap⟩ := a
  simp only at *
  have d10 : (k == 10) = true := by rw [hk]; rfl
  have d9 : (k == 9) = false := by rw [hk]; rfl
  have HS := Lib.hid (boxv_start (lb_thing b) h 37 33 #[.int .i64 k, .int .i64 un, .int .i64 ep, .int .i64 pg, .int .i64 sz, .int .i64 n, .string s, .int .i64 pe, .slice ao L.length cap] zeroE)
  unfold zeroE at HS
  have HA := Lib.hid hA
  have CM := Lib.hid (show ∀ H W, LB b H W y → (∀ W2, Kept (fun k => ¬ H k) W W2 → CL W2 ao L) → Calls Tryz.prog 143 #[.pointer (some ⟨b, 0, none⟩), .agg #[.int .i64 pe, .slice ao L.length cap]] W fun x w' => ∃ (vo : Option Addr) (vc : Nat) (C : Nat → Prop), x = .returned (.agg #[.int .i64 c, .int .i64 0, .string ⟨#[]⟩, .int .i64 e, .slice vo M.length vc, .int .i64 0, .int .i64 0, .int .i64 0]) ∧ (∀ k, C k → W.heap.size ≤ k) ∧ Leaves (Chained (LB b) C (.slice vo M.length vc) M) H W w' y' from fun H W h1 h2 => (hc H W h1 h2).mono (fun x w' ht => tells_chained ht))
  have hbw := h.small
  clear h hk hc hA
  show Calls _ _ #[.pointer (some ⟨b, 0, none⟩), .agg #[.int .i64 k, .int .i64 un, .int .i64 ep, .int .i64 pg, .int .i64 sz, .int .i64 n, .string s, .int .i64 pe, .slice ao L.length cap]] w _
  go_enter Tryz.func139, Tryz.ntmps139
  go_wp2_with (go_at_call 143; obtain ⟨H1, hH1, hk1, hU1⟩ := HS.out.use2; refine (CM.out H1 _ hH1 (fun W hk => HA.out W (hk1 W hk))).mono ?_; rintro x w2 ⟨vo, vc, C, rfl, hC, hl⟩; have HC := Lib.hid hC; have HX := Lib.hid (hU1 _ _ _ hl); obtain ⟨⟨x0, x1, x2, x3, x4, x5, x6, x7⟩, f0, f1, f2, f3, f4, f5, f6, f7⟩ := eight_cells HX.out.ans; obtain ⟨m1, m2⟩ := HX.out.small; clear hl hH1 hU1 hk1 hC)
  exact ans_ret (x := anL c e M) (ao := vo) (cap := vc) rfl (eight_all HX.out.ans _ _ _ _ _ _ _ _) rfl rfl (chained_tells (x := anL c e M) (fun k hk => Nat.le_trans HS.out.kp.size (HC.out k hk)) (HX.out.fin (chained_thing (lb_thing b) _ _ _) (eight_stay _ _ _ _ _ _ _ _ _ _)))
end Go.Proofs.YtchhmfdalghgcaaGreat
namespace Go.Proofs.YtchhmfdalghgcaaGreat
set_option linter.unusedVariables false
open Go.RowKit
set_option maxRecDepth 20000
def ptrN (b : Nat) : Value := .pointer (some ⟨b, 0, none⟩)
/-- NG b G w n: in world w block b is the program's nodes n; all that they own lies in G. The program's functions return what is said here; units, sequencer and layout are told themselves: what a call leaves of one it leaves of all -/
structure RpcSays (UG : Nat → Nat → (Nat → Prop) → World → Us → Prop) (OG : Nat → (Nat → Prop) → World → Od → Prop) (LG : Nat → (Nat → Prop) → World → Ly → Prop) (NG : Nat → (Nat → Prop) → World → Nd → Prop) : Prop where
  units : UnitSays UG
  order_ : OrderSays OG
  layout_ : LaySays LG
  thing : ∀ b, Thing (NG b)
  ok : ∀ {b : Nat} {G : Nat → Prop} {w : World} {n : Nd}, NG b G w n → (∀ i, i < 16 → (n.u i).p.Ok ∧ i64w (n.u i).epoch) ∧ n.o.Ok ∧ goodB n.l.ep n.l.L = true
  new_bad : ∀ (ep : Int) (ao : Option Addr) (cap : Nat) (L : List (List Int)) (room : Int) (w : World), CL w ao L → fewL L → goodB ep L = false → i64w room → Calls Tryz.prog 25 #[.agg #[.int .i64 ep, .slice ao L.length cap], .int .i64 room] w fun e w' => e = .returned (.tuple #[.pointer none, .int .i64 11]) ∧ Below w.heap.size w w'
  new_room : ∀ (ep : Int) (ao : Option Addr) (cap : Nat) (L : List (List Int)) (room : Int) (w : World), CL w ao L → fewL L → goodB ep L = true → room < 1 ∨ 4096 < room → i64w room → Calls Tryz.prog 25 #[.agg #[.int .i64 ep, .slice ao L.length cap], .int .i64 room] w fun e w' => e = .returned (.tuple #[.pointer none, .int .i64 1]) ∧ Below w.heap.size w w'
  new_yes : ∀ (ep : Int) (ao : Option Addr) (cap : Nat) (L : List (List Int)) (room : Int) (w : World), CL w ao L → fewL L → goodB ep L = true → 1 ≤ room ∧ room ≤ 4096 → Calls Tryz.prog 25 #[.agg #[.int .i64 ep, .slice ao L.length cap], .int .i64 room] w fun e w' => ∃ (b : Nat) (G : Nat → Prop), e = .returned (.tuple #[ptrN b, .int .i64 0]) ∧ NG b G w' (newN ep L room) ∧ (∀ k, G k → w.heap.size ≤ k) ∧ Below w.heap.size w w'
  ask : ∀ (b : Nat) (G : Nat → Prop) (w : World) (n : Nd) (a : Ak), NG b G w n → AkOk a → fewL a.L → a.data.size ≤ 1000000 → n.l.used.length ≤ 100000 → (∀ W, Kept (fun k => ¬ G k) w W → CL W a.ao a.L) → Calls Tryz.prog 28 #[ptrN b, askV a] w fun e w' => Tells (NG b) G w (n.done a) (n.ans a) e w'
  unit : ∀ (b : Nat) (G : Nat → Prop) (w : World) (n : Nd) (i : Nat), NG b G w n → i < 16 → Calls Tryz.prog 45 #[ptrN b, .int .i64 i] w fun e w' => ∃ (bu pb : Nat), e = .returned (ptrV bu) ∧ Below w.heap.size w w' ∧ ∃ F : Nat → Prop, UG bu pb F w' (n.u i) ∧ (∀ k, F k → G k) ∧ ∀ W u', Leaves (UG bu pb) F w' W u' → Leaves (NG b) G w' W (n.putU i u')
  unit_no : ∀ (b : Nat) (G : Nat → Prop) (w : World) (n : Nd) (i : Int), NG b G w n → i < 0 ∨ 15 < i → i64w i → Calls Tryz.prog 45 #[ptrN b, .int .i64 i] w fun e w' => e = .returned (.pointer none) ∧ Below w.heap.size w w'
  order : ∀ (b : Nat) (G : Nat → Prop) (w : World) (n : Nd), NG b G w n → Calls Tryz.prog 13 #[ptrN b] w fun e w' => ∃ bo : Nat, e = .returned (ptrO bo) ∧ Below w.heap.size w w' ∧ ∃ F : Nat → Prop, OG bo F w' n.o ∧ (∀ k, F k → G k) ∧ ∀ W o', Leaves (OG bo) F w' W o' → Leaves (NG b) G w' W (n.putO o')
  layout : ∀ (b : Nat) (G : Nat → Prop) (w : World) (n : Nd), NG b G w n → Calls Tryz.prog 46 #[ptrN b] w fun e w' => ∃ bl : Nat, e = .returned (ptrL bl) ∧ Below w.heap.size w w' ∧ ∃ F : Nat → Prop, LG bl F w' n.l ∧ (∀ k, F k → G k) ∧ ∀ W l', Leaves (LG bl) F w' W l' → Leaves (NG b) G w' W (n.putL l')
  nil_ask : ∀ (a : Ak) (w : World), AkIn w a → Calls Tryz.prog 28 #[.pointer none, askV a] w fun e w' => e = .returned (ansV (anP 1 0 noS 0) none 0) ∧ Below w.heap.size w w'
  nil_unit : ∀ (i : Int) (w : World), i64w i → Calls Tryz.prog 45 #[.pointer none, .int .i64 i] w fun e w' => e = .returned (.pointer none) ∧ Below w.heap.size w w'
  nil_order : ∀ (w : World), Calls Tryz.prog 13 #[.pointer none] w fun e w' => e = .returned (.pointer none) ∧ Below w.heap.size w w'
  nil_layout : ∀ (w : World), Calls Tryz.prog 46 #[.pointer none] w fun e w' => e = .returned (.pointer none) ∧ Below w.heap.size w w'
end Go.Proofs.YtchhmfdalghgcaaGreat
namespace Go.Proofs.YtchhmfdalghgcaaGreat
set_option linter.unusedVariables false
open Go.RowKit
set_option maxRecDepth 20000
theorem few_nil : fewL [] := ⟨Nat.zero_le _, fun c hc => (by cases hc)⟩
section
variable {LG : Nat → (Nat → Prop) → World → Ly → Prop} {X : Nat → Prop} {w : World} {b : Nat} {y : Ly}
end
end Go.Proofs.YtchhmfdalghgcaaGreat
