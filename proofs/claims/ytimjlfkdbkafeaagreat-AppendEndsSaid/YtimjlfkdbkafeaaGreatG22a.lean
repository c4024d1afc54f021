/- What the program's layout answers any question. Conditions: it and the question lie where the call was told; no more than 100000 units were noted. The program's own append, in plain words: where it is, what each answer makes of it, how that goes with the document's words. No conditions. What the laws of all nodes ask of the program's functions: each one's contract, as a statement (proved where the program is spoken of). No conditions but those that the statements name. That layout is awake: the laws' own example. Conditions: the program's functions return what LaySays says. -/
import Derived.Test.YtimjlfkdbkafeaaGreatG21a
import Derived.Test.YtimjlfkdbkafeaaGreatG10b
import Derived.Test.YtimjlfkdbkafeaaGreatG13a
import Derived.Test.YtimjlfkdbkafeaaGreatG08b
import Derived.Test.YtimjlfkdbkafeaaGreatG16a
import Derived.Test.YtimjlfkdbkafeaaGreatG09b
set_option linter.unusedVariables false
namespace Go.Proofs.YtimjlfkdbkafeaaGreat
set_option linter.unusedVariables false
open Go.RowKit Go.Maps
set_option maxRecDepth 20000
/-- chains that were made behind one more block, and that block written -/
theorem chained_over {T : (Nat → Prop) → World → Ly → Prop} (hT : Thing T) {H : Nat → Prop} {w w4 W5 : World} {s : Ly} {o : Obj} {v : Value} {L : List (List Int)} (h : T H w s) (hb4 : Below (w.alloc o).heap.size (w.alloc o) w4) (hO : OC w4 (w.alloc o).heap.size v L) (hk : Kept (fun k => k ≠ w.heap.size) w4 W5) (hs : W5.heap.size = w4.heap.size) :
    Leaves (Chained T (fun k => w.heap.size < k ∧ k < w4.heap.size) v L) H w W5 s := by
  have hb0 := below_new w o
  have hz : (w.alloc o).heap.size = w.heap.size + 1 := by simp
  rw [hz] at hO
  have hH := fun k hk => hT.lt h k hk
  refine ⟨fun k => H k ∨ (w.heap.size < k ∧ k < w4.heap.size), ⟨H, ?_, ?_, fun k hk2 => by rw [hs]; exact hk2.2, fun k hk2 hf => by have := hH k hf; omega, fun k => Iff.rfl⟩, ?_, fun k hk2 => hk2.imp id (fun h => by omega)⟩
  · exact hT.keep (hT.keep (hT.keep h (Kept.ofBelow hb0 (fun _ => True)) (fun _ _ => trivial)) (Kept.ofBelow hb4 (fun _ => True)) (fun _ _ => trivial)) hk (fun k hf e => by have := hH k hf; omega)
  · exact ((CG.of hO).mono (S := fun k => w.heap.size < k ∧ k < w4.heap.size) (fun k hk2 => by omega)).keep hk (fun k hk2 => by omega)
  · have h1 := (Kept.ofBelow hb0 (fun k => ¬ H k)).below hb4
    refine ⟨hk.os.trans h1.os, hk.tape.trans h1.tape, hk.output.trans h1.output, Nat.le_trans h1.size hk.size, fun k hg hkl => ?_⟩
    rw [hk.block k (by omega) (Nat.lt_of_lt_of_le hkl h1.size)]
    exact h1.block k hg hkl
theorem two_size (W : World) (b i j : Nat) (v u : Value) : ((W.setCell ⟨b, i, none⟩ v).setCell ⟨b, j, none⟩ u).heap.size = W.heap.size := by simp [World.setCell]
theorem two_stay (W : World) (b i j : Nat) (v u : Value) : Kept (fun k => k ≠ b) W ((W.setCell ⟨b, i, none⟩ v).setCell ⟨b, j, none⟩ u) := ((Kept.refl _ W).setCell (p := ⟨b, i, none⟩) (fun h => h rfl) _).setCell (p := ⟨b, j, none⟩) (fun h => h rfl) _
set_option maxHeartbeats 1000000 in
theorem lp_do_tell (b : Nat) (G : Nat → Prop) (w : World) (y : Ly) (a : Ak) (h : LB b G w y) (hy : y.L.length ≤ 255 ∧ ∀ c ∈ y.L, c.length ≤ 255) (hk : a.kind = 9) :
    Calls Tryz.prog 150 #[ptrL b, askV a] w fun x w' => Tells (LB b) G w y ⟨0, y.n, noL, y.ep, y.L, y.mark, y.size, 0⟩ x w' := by
  obtain ⟨k, un, ep, pg, sz, n, s, pe, L, ao, cap⟩ := a
  simp only at hk
  have d9 : (k == 9) = true := by rw [hk]; rfl
  have HS := Lib.hid (boxv_start (lb_thing b) h 35 40 #[.int .i64 k, .int .i64 un, .int .i64 ep, .int .i64 pg, .int .i64 sz, .int .i64 n, .string s, .int .i64 pe, .slice ao L.length cap] zeroE)
  unfold zeroE at HS
  have C2 := Lib.hid (fun w => ltold_any y.mark y.size y.n w)
  have CN := Lib.hid (fun (W : World) H hH => lp_now b H W y hH hy)
  unfold ptrL at CN
  obtain ⟨H0, hH0, _⟩ := HS.out.use
  obtain ⟨lo, lc, mb, h1, _⟩ := hH0.open
  obtain ⟨⟨c0, c1, c2, c3, c4, c5⟩, _⟩ := six_cells h1
  have hb1 := lt_of_block h1
  have HC := Lib.hid (And.intro c3 (And.intro c4 c5))
  have hbw := h.small
  obtain ⟨_, _, _, g1, _⟩ := h.open
  obtain ⟨⟨e0, e1, e2, e3, e4, e5⟩, _⟩ := six_cells g1
  clear h hy hk hH0 h1 c0 c1 c2 c3 c4 c5 hb1 g1 e0 e1 e2 HC
  show Calls _ _ #[.pointer (some ⟨b, 0, none⟩), .agg #[.int .i64 k, .int .i64 un, .int .i64 ep, .int .i64 pg, .int .i64 sz, .int .i64 n, .string s, .int .i64 pe, .slice ao L.length cap]] w _
  go_enter Tryz.func150, Tryz.ntmps150
  go_wp2_with (first
    | (go_at_call 153; refine (C2.out _).mono ?_; rintro x w2 ⟨rfl, hb2⟩; have HS2 := Lib.hid (HS.out.below (lb_thing b) hb2); clear hb2)
    | (go_at_call 151; obtain ⟨H2, hH2, _, hU2⟩ := HS2.out.use2; refine (CN.out _ H2 (hH2.below (below_new _ _))).mono ?_; rintro x w4 ⟨v, rfl, hO, hb4⟩; obtain ⟨vo, vc, hv, _⟩ := hO.form; subst hv; have HX := Lib.hid (hU2 (Chained (LB b) (fun k => w2.heap.size < k ∧ k < w4.heap.size) (.slice vo y.L.length vc) y.L) _ _ (chained_over (lb_thing b) hH2 hb4 hO (two_stay w4 w2.heap.size 3 4 (.int .i64 y.ep) (.slice vo y.L.length vc)) (two_size _ _ _ _ _ _))); have HQ := Lib.hid (below_heap hb4 (heap_alloc_new w2 _)); have hq := lt_of_block HQ.out; obtain ⟨⟨q0, q1, q2, q3, q4, q5, q6, q7⟩, r0, r1, r2, r3, r4, r5, r6, r7⟩ := eight_cells HQ.out; obtain ⟨m1, m2⟩ := HS2.out.small; have HS4 := Lib.hid ((HS2.out.below (lb_thing b) (below_new w2 (.cells #[.int .i64 0, .int .i64 y.n, .string ⟨#[]⟩, .int .i64 0, .slice none 0 0, .int .i64 y.mark, .int .i64 y.size, .int .i64 0] 40))).below (lb_thing b) hb4); obtain ⟨⟨x0, x1, x2, x3, x4, x5, x6, x7⟩, f0, f1, f2, f3, f4, f5, f6, f7⟩ := eight_cells HS4.out.ans; obtain ⟨m3, m4⟩ := HS4.out.small; clear hO hb4 hH2 hU2))
  exact ans_ret (x := ⟨0, y.n, noL, y.ep, y.L, y.mark, y.size, 0⟩) (ao := vo) (cap := vc) rfl (eight_all HX.out.ans _ _ _ _ _ _ _ _) rfl rfl (chained_tells (x := ⟨0, y.n, noL, y.ep, y.L, y.mark, y.size, 0⟩) (fun k hk => Nat.le_trans HS2.out.kp.size (Nat.le_of_lt hk.1)) (HX.out.fin (chained_thing (lb_thing b) _ _ _) (eight_stay _ _ _ _ _ _ _ _ _ _)))
set_option maxHeartbeats 1000000 in
theorem lp_do_other (b : Nat) (G : Nat → Prop) (w : World) (y : Ly) (a : Ak) (h : LB b G w y) (h9 : a.kind ≠ 9) (h10 : a.kind ≠ 10) (h11 : a.kind ≠ 11) :
    Calls Tryz.prog 150 #[ptrL b, askV a] w fun x w' => Tells (LB b) G w y (anP 1 0 noL 0) x w' := by
  obtain ⟨k, un, ep, pg, sz, n, s, pe, L, ao, cap⟩ := a
  simp only at *
  have d9 : (k == 9) = false := beq_eq_false_iff_ne.2 h9
  have d10 : (k == 10) = false := beq_eq_false_iff_ne.2 h10
  have d11 : (k == 11) = false := beq_eq_false_iff_ne.2 h11
  have HS := Lib.hid (boxv_start (lb_thing b) h 35 40 #[.int .i64 k, .int .i64 un, .int .i64 ep, .int .i64 pg, .int .i64 sz, .int .i64 n, .string s, .int .i64 pe, .slice ao L.length cap] zeroE)
  unfold zeroE at HS
  clear h h9 h10 h11
  show Calls _ _ #[.pointer (some ⟨b, 0, none⟩), .agg #[.int .i64 k, .int .i64 un, .int .i64 ep, .int .i64 pg, .int .i64 sz, .int .i64 n, .string s, .int .i64 pe, .slice ao L.length cap]] w _
  go_enter Tryz.func150, Tryz.ntmps150
  go_wp2_with (go_at_call 152; refine (lcoded_any _ _).mono ?_; rintro x w2 ⟨rfl, hb2⟩; have HX := Lib.hid (HS.out.below (lb_thing b) hb2); obtain ⟨⟨x0, x1, x2, x3, x4, x5, x6, x7⟩, f0, f1, f2, f3, f4, f5, f6, f7⟩ := eight_cells HX.out.ans; obtain ⟨m1, m2⟩ := HX.out.small; clear hb2)
  exact ans_ret (x := anP 1 0 noL 0) (ao := none) (cap := 0) rfl (eight_all HX.out.ans _ _ _ _ _ _ _ _) rfl rfl (Tells.plain (HX.out.fin (lb_thing b) (eight_stay _ _ _ _ _ _ _ _ _ _)) rfl)
set_option maxHeartbeats 1000000 in
/-- an image is told of: whatever 'mark' makes of it, Do makes -/
theorem lp_do_mark (b : Nat) (G : Nat → Prop) (w : World) (y y' : Ly) (a : Ak) (h : LB b G w y) (hk : a.kind = 11) (c mn mp ms : Int)
    (hc : ∀ H W, LB b H W y → Calls Tryz.prog 155 #[ptrL b, .agg #[.int .i64 a.page, .int .i64 a.size, .int .i64 a.n]] W fun x w' => x = .returned (ansV ⟨c, mn, noL, 0, [], mp, ms, 0⟩ none 0) ∧ Leaves (LB b) H W w' y') :
    Calls Tryz.prog 150 #[ptrL b, askV a] w fun x w' => Tells (LB b) G w y' ⟨c, mn, noL, 0, [], mp, ms, 0⟩ x w' := by
  obtain ⟨k, un, ep, pg, sz, n, s, pe, L, ao, cap⟩ := a
  simp only at *
  have d11 : (k == 11) = true := by rw [hk]; rfl
  have d9 : (k == 9) = false := by rw [hk]; rfl
  have d10 : (k == 10) = false := by rw [hk]; rfl
  have HS := Lib.hid (boxv_start (lb_thing b) h 35 40 #[.int .i64 k, .int .i64 un, .int .i64 ep, .int .i64 pg, .int .i64 sz, .int .i64 n, .string s, .int .i64 pe, .slice ao L.length cap] zeroE)
  unfold zeroE at HS
  have CM := Lib.hid (show ∀ H W, LB b H W y → Calls Tryz.prog 155 #[.pointer (some ⟨b, 0, none⟩), .agg #[.int .i64 pg, .int .i64 sz, .int .i64 n]] W fun x w' => x = .returned (.agg #[.int .i64 c, .int .i64 mn, .string ⟨#[]⟩, .int .i64 0, .slice none 0 0, .int .i64 mp, .int .i64 ms, .int .i64 0]) ∧ Leaves (LB b) H W w' y' from hc)
  have hbw := h.small
  clear h hk hc
  show Calls _ _ #[.pointer (some ⟨b, 0, none⟩), .agg #[.int .i64 k, .int .i64 un, .int .i64 ep, .int .i64 pg, .int .i64 sz, .int .i64 n, .string s, .int .i64 pe, .slice ao L.length cap]] w _
  go_enter Tryz.func150, Tryz.ntmps150
  go_wp2_with (go_at_call 155; obtain ⟨H1, hH1, _, hU1⟩ := HS.out.use2; refine (CM.out H1 _ hH1).mono ?_; rintro x w2 ⟨rfl, hl⟩; have HX := Lib.hid (hU1 (LB b) _ _ hl); obtain ⟨⟨x0, x1, x2, x3, x4, x5, x6, x7⟩, f0, f1, f2, f3, f4, f5, f6, f7⟩ := eight_cells HX.out.ans; obtain ⟨m1, m2⟩ := HX.out.small; clear hl hH1 hU1)
  exact ans_ret (x := ⟨c, mn, noL, 0, [], mp, ms, 0⟩) (ao := none) (cap := 0) rfl (eight_all HX.out.ans _ _ _ _ _ _ _ _) rfl rfl (Tells.plain (HX.out.fin (lb_thing b) (eight_stay _ _ _ _ _ _ _ _ _ _)) rfl)
set_option maxHeartbeats 1000000 in
/-- a change is told of: whatever 'change' makes of it, Do makes -/
theorem lp_do_change (b : Nat) (G : Nat → Prop) (w : World) (y y' : Ly) (a : Ak) (h : LB b G w y) (hA : ∀ W, Kept (fun k => ¬ G k) w W → CL W a.ao a.L) (hk : a.kind = 10) (c e : Int) (M : List (List Int))
    (hc : ∀ H W, LB b H W y → (∀ W2, Kept (fun k => ¬ H k) W W2 → CL W2 a.ao a.L) → Calls Tryz.prog 154 #[ptrL b, .agg #[.int .i64 a.pe, .slice a.ao a.L.length a.cap]] W fun x w' => Tells (LB b) H W y' (anL c e M) x w') :
    Calls Tryz.prog 150 #[ptrL b, askV a] w fun x w' => Tells (LB b) G w y' (anL c e M) x w' := by
  obtain ⟨k, un, ep, pg, sz, n, s, pe, L, ao, cap⟩ := a
  simp only at *
  have d10 : (k == 10) = true := by rw [hk]; rfl
  have d9 : (k == 9) = false := by rw [hk]; rfl
  have HS := Lib.hid (boxv_start (lb_thing b) h 35 40 #[.int .i64 k, .int .i64 un, .int .i64 ep, .int .i64 pg, .int .i64 sz, .int .i64 n, .string s, .int .i64 pe, .slice ao L.length cap] zeroE)
  unfold zeroE at HS
  have HA := Lib.hid hA
  have CM := Lib.hid (show ∀ H W, LB b H W y → (∀ W2, Kept (fun k => ¬ H k) W W2 → CL W2 ao L) → Calls Tryz.prog 154 #[.pointer (some ⟨b, 0, none⟩), .agg #[.int .i64 pe, .slice ao L.length cap]] W fun x w' => ∃ (vo : Option Addr) (vc : Nat) (C : Nat → Prop), x = .returned (.agg #[.int .i64 c, .int .i64 0, .string ⟨#[]⟩, .int .i64 e, .slice vo M.length vc, .int .i64 0, .int .i64 0, .int .i64 0]) ∧ (∀ k, C k → W.heap.size ≤ k) ∧ Leaves (Chained (LB b) C (.slice vo M.length vc) M) H W w' y' from fun H W h1 h2 => (hc H W h1 h2).mono (fun x w' ht => tells_chained ht))
  have hbw := h.small
  clear h hk hc hA
  show Calls _ _ #[.pointer (some ⟨b, 0, none⟩), .agg #[.int .i64 k, .int .i64 un, .int .i64 ep, .int .i64 pg, .int .i64 sz, .int .i64 n, .string s, .int .i64 pe, .slice ao L.length cap]] w _
  go_enter Tryz.func150, Tryz.ntmps150
  go_wp2_with (go_at_call 154; obtain ⟨H1, hH1, hk1, hU1⟩ := HS.out.use2; refine (CM.out H1 _ hH1 (fun W hk => HA.out W (hk1 W hk))).mono ?_; rintro x w2 ⟨vo, vc, C, rfl, hC, hl⟩; have HC := Lib.hid hC; have HX := Lib.hid (hU1 _ _ _ hl); obtain ⟨⟨x0, x1, x2, x3, x4, x5, x6, x7⟩, f0, f1, f2, f3, f4, f5, f6, f7⟩ := eight_cells HX.out.ans; obtain ⟨m1, m2⟩ := HX.out.small; clear hl hH1 hU1 hk1 hC)
  exact ans_ret (x := anL c e M) (ao := vo) (cap := vc) rfl (eight_all HX.out.ans _ _ _ _ _ _ _ _) rfl rfl (chained_tells (x := anL c e M) (fun k hk => Nat.le_trans HS.out.kp.size (HC.out k hk)) (HX.out.fin (chained_thing (lb_thing b) _ _ _) (eight_stay _ _ _ _ _ _ _ _ _ _)))
end Go.Proofs.YtimjlfkdbkafeaaGreat
namespace Go.Proofs.YtimjlfkdbkafeaaGreat
set_option linter.unusedVariables false
open Go.RowKit
/-- the program's append: where it is goes by 0 layout, 1 check, 2 token, 3 write, 4 look, 5 over -/
structure Qa where
  ep : Int
  L : List (List Int)
  txt : ByteArray
  at_ : Int
  was : Int
  addr : Int
  unit : Int
  may : Bool
  err : Int
def Qa.ends (q : Qa) (a e : Int) : Qa := ⟨q.ep, q.L, noS, 5, q.was, a, q.unit, q.may, e⟩
def Qa.to (q : Qa) (m : Int) : Qa := ⟨q.ep, q.L, q.txt, m, q.was, q.addr, q.unit, q.may, q.err⟩
def Qa.check (q : Qa) : Qa := ⟨q.ep, q.L, q.txt, 1, q.at_, q.addr, q.unit, q.may, q.err⟩
def Qa.stand (q : Qa) : Qa := ⟨q.ep, q.L, q.txt, q.at_, q.was, q.addr, q.unit, true, q.err⟩
def Qa.told (q : Qa) (n : Int) : Qa := ⟨q.ep, q.L, q.txt, 3, q.was, n, 0, q.may, q.err⟩
def Qa.proj (q : Qa) (e : Int) (L : List (List Int)) : Qa := ⟨e, L, q.txt, 2, q.was, q.addr, q.unit, q.may, q.err⟩
def Qa.more (q : Qa) (m : Int) : Qa := ⟨q.ep, q.L, q.txt, m, q.was, q.addr, q.unit + 1, q.may, q.err⟩
def Qa.next (q : Qa) : Qa := if q.unit + 1 = ((chainR q.ep q.L q.addr).length : Int) then (q.more q.at_).ends q.addr 0 else q.more 3
def Qa.full (q : Qa) : Qa := q.ends 0 (if q.may = true then 69 else 44)
def Qa.token (q : Qa) (x : An) : Qa := if ofB q.ep q.L x.n = true ∧ x.code = 0 then q.told x.n else if x.code = 44 then q.full else q.to 2
def Qa.write (q : Qa) (c : Int) : Qa := if c = 0 then q.next else if c = 41 then q.to 4 else if c = 43 then q.to 2 else if c = 44 then q.full else q.ends 0 c
def Qa.look (q : Qa) (x : An) : Qa := if x.code = 0 ∧ x.data = q.txt then q.next else if x.code = 0 ∨ x.code = 46 ∨ x.code = 43 then q.to 2 else if x.code = 42 then q.to 3 else q.ends 0 x.code
def Qa.step (q : Qa) (x : An) : Qa := if q.at_ = 2 then q.token x else if q.at_ = 3 then q.write x.code else q.look x
def Qa.learn (q : Qa) (x : An) : Qa := if x.code = 0 ∧ goodB x.pe x.L = true ∧ (q.at_ = 0 ∨ x.pe ≠ q.ep) then q.proj x.pe x.L else if q.at_ = 1 then q.to q.was else q
/-- the same is asked again -/
def Qa.waits (q : Qa) (c : Int) : Bool := decide (c = 47) || (decide (c = 45) && (decide (q.at_ ≠ 3) && decide (q.at_ ≠ 4)))
def Qa.heard (q : Qa) (c : Int) (b : Bool) : Qa := if q.at_ = 3 ∧ (b = false ∨ c = 0) then q.stand else q
def Qa.hear (q : Qa) (x : An) (b : Bool) : Qa :=
  if q.at_ = 5 then q
  else if b = false ∨ q.waits x.code = true then q.heard x.code b
  else if x.code = 40 then (q.heard x.code b).to 0
  else if x.code = 45 then (q.heard x.code b).check
  else if q.at_ = 0 ∨ q.at_ = 1 then (q.heard x.code b).learn x
  else (q.heard x.code b).step x
def newQ (ep : Int) (L : List (List Int)) (rec : ByteArray) : Qa :=
  if goodB ep L = false then ⟨ep, L, noS, 5, 0, 0, 0, false, 1⟩ else if 4096 < rec.size then ⟨ep, L, noS, 5, 0, 0, 0, false, 2⟩ else ⟨ep, L, rec, 2, 0, 0, 0, false, 0⟩
def codeA (x : Int) : Int := if x = 1 then 0 else if x = 5 then 1 else if x = 6 then 5 else x
/-- the program's append is the one of the document's words -/
structure SimA (q : Qa) (a : Ap) : Prop where
  ep : q.ep = a.ep
  chains : q.L = a.L
  few : fewL a.L
  wide : i64w a.ep
  range : 1 ≤ a.at_ ∧ a.at_ ≤ 6
  place : q.at_ = codeA a.at_
  here : a.at_ ≠ 6 → goodB a.ep a.L = true ∧ a.txt.size ≤ 1000000 ∧ q.txt = a.txt ∧ q.may = a.maybe
  back : a.at_ = 5 → q.was = a.was ∧ (a.was = 3 ∨ a.was = 4)
  unit : a.at_ = 3 ∨ a.at_ = 4 ∨ a.at_ = 5 → q.addr = a.addr ∧ q.unit = (a.i : Int) ∧ ofB a.ep a.L a.addr = true ∧ a.i < (chainR a.ep a.L a.addr).length
  over : a.at_ = 6 → q.addr = a.overA ∧ q.err = a.e
theorem chain_some {ep : Int} {L : List (List Int)} {x : Int} (h : ofB ep L x = true) : 1 ≤ (chainR ep L x).length ∧ (chainR ep L x).length ≤ 4 := by
  obtain ⟨hg, hx⟩ := ofB_iff.1 h
  obtain ⟨n1, n4⟩ := good_len hg
  have h0 : 0 ≤ x % (L.length : Int) := Int.emod_nonneg _ (by omega)
  have h1 : x % (L.length : Int) < L.length := Int.emod_lt_of_pos _ (by omega)
  obtain ⟨k, hk⟩ := Int.eq_ofNat_of_zero_le h0
  have hkl : k < L.length := by omega
  rw [chainR_yes h hkl hk]
  have hc := (goodB_iff.1 hg).2.2.1 _ (List.getElem_mem hkl)
  simp only [chainB, Bool.and_eq_true, decide_eq_true_eq] at hc
  omega
theorem sim_new (ep : Int) (L : List (List Int)) (rec : ByteArray) (h : fewL L) (he : i64w ep) : SimA (newQ ep L rec) (newAp ep L rec) := by
  unfold newQ newAp
  by_cases hg : goodB ep L = false
  · rw [if_pos hg, if_pos hg]
    exact ⟨rfl, rfl, h, he, ⟨of_decide_eq_true rfl, of_decide_eq_true rfl⟩, rfl, fun e => absurd rfl e, fun e => absurd e (of_decide_eq_true rfl), fun e => absurd e (of_decide_eq_true rfl), fun _ => ⟨rfl, rfl⟩⟩
  · rw [if_neg hg, if_neg hg]
    by_cases hr : 4096 < rec.size
    · rw [if_pos hr, if_pos hr]
      exact ⟨rfl, rfl, h, he, ⟨of_decide_eq_true rfl, of_decide_eq_true rfl⟩, rfl, fun e => absurd rfl e, fun e => absurd e (of_decide_eq_true rfl), fun e => absurd e (of_decide_eq_true rfl), fun _ => ⟨rfl, rfl⟩⟩
    · rw [if_neg hr, if_neg hr]
      exact ⟨rfl, rfl, h, he, ⟨of_decide_eq_true rfl, of_decide_eq_true rfl⟩, rfl, fun _ => ⟨Bool.not_eq_false _ ▸ hg, by show rec.size ≤ _; omega, rfl, rfl⟩, fun e => absurd e (of_decide_eq_true rfl), fun e => absurd e (of_decide_eq_true rfl), fun e => absurd e (of_decide_eq_true rfl)⟩
theorem Qa.ext' {q p : Qa} (h1 : q.ep = p.ep) (h2 : q.L = p.L) (h3 : q.txt = p.txt) (h4 : q.at_ = p.at_) (h5 : q.was = p.was) (h6 : q.addr = p.addr) (h7 : q.unit = p.unit) (h8 : q.may = p.may) (h9 : q.err = p.err) : q = p := by
  cases q; cases p; simp_all
section
variable {q : Qa} {a : Ap}
theorem SimA.at_iff (h : SimA q a) : (q.at_ = 5 ↔ a.at_ = 6) ∧ (q.at_ = 0 ↔ a.at_ = 1) ∧ (q.at_ = 1 ↔ a.at_ = 5) ∧ (q.at_ = 2 ↔ a.at_ = 2) ∧ (q.at_ = 3 ↔ a.at_ = 3) ∧ (q.at_ = 4 ↔ a.at_ = 4) := by
  obtain ⟨h1, h2⟩ := h.range
  have e := h.place
  unfold codeA at e
  repeat' split at e
  all_goals omega
theorem SimA.go (h : SimA q a) (hn : a.at_ ≠ 6) : goodB a.ep a.L = true ∧ a.txt.size ≤ 1000000 ∧ q.txt = a.txt ∧ q.may = a.maybe := h.here hn
theorem sim_lay (h : SimA q a) (hn : a.at_ ≠ 6) : SimA (q.to 0) { a with at_ := 1 } :=
  ⟨h.ep, h.chains, h.few, h.wide, ⟨of_decide_eq_true rfl, of_decide_eq_true rfl⟩, rfl, fun _ => h.here hn, fun e => absurd e (of_decide_eq_true rfl), fun e => absurd e (of_decide_eq_true rfl), fun e => absurd e (of_decide_eq_true rfl)⟩
theorem sim_tok (h : SimA q a) (hn : a.at_ ≠ 6) : SimA (q.to 2) { a with at_ := 2 } :=
  ⟨h.ep, h.chains, h.few, h.wide, ⟨of_decide_eq_true rfl, of_decide_eq_true rfl⟩, rfl, fun _ => h.here hn, fun e => absurd e (of_decide_eq_true rfl), fun e => absurd e (of_decide_eq_true rfl), fun e => absurd e (of_decide_eq_true rfl)⟩
theorem sim_write (h : SimA q a) (hn : a.at_ = 3 ∨ a.at_ = 4) : SimA (q.to 3) { a with at_ := 3 } :=
  ⟨h.ep, h.chains, h.few, h.wide, ⟨of_decide_eq_true rfl, of_decide_eq_true rfl⟩, rfl, fun _ => h.here (by omega), fun e => absurd e (of_decide_eq_true rfl), fun _ => h.unit (by omega), fun e => absurd e (of_decide_eq_true rfl)⟩
theorem sim_look (h : SimA q a) (hn : a.at_ = 3 ∨ a.at_ = 4) : SimA (q.to 4) { a with at_ := 4 } :=
  ⟨h.ep, h.chains, h.few, h.wide, ⟨of_decide_eq_true rfl, of_decide_eq_true rfl⟩, rfl, fun _ => h.here (by omega), fun e => absurd e (of_decide_eq_true rfl), fun _ => h.unit (by omega), fun e => absurd e (of_decide_eq_true rfl)⟩
theorem sim_check (h : SimA q a) (hn : a.at_ = 3 ∨ a.at_ = 4) : SimA q.check { a with at_ := 5, was := a.at_ } :=
  ⟨h.ep, h.chains, h.few, h.wide, ⟨of_decide_eq_true rfl, of_decide_eq_true rfl⟩, rfl, fun _ => h.here (by omega), fun _ => ⟨(by obtain ⟨_, _, _, _, h3, h4⟩ := h.at_iff; show q.at_ = a.at_; omega), hn⟩, fun _ => h.unit (by omega), fun e => absurd e (of_decide_eq_true rfl)⟩
theorem sim_back (h : SimA q a) (hn : a.at_ = 5) : SimA (q.to q.was) { a with at_ := a.was } := by
  obtain ⟨h1, h2⟩ := h.back hn
  refine ⟨h.ep, h.chains, h.few, h.wide, ⟨by show 1 ≤ a.was; omega, by show a.was ≤ 6; omega⟩, ?_, fun _ => h.here (by omega), fun e => ?_, fun _ => h.unit (by omega), fun e => ?_⟩
  · show q.was = codeA a.was
    rw [h1]
    rcases h2 with h2 | h2 <;> rw [h2] <;> rfl
  · have e : a.was = 5 := e
    omega
  · have e : a.was = 6 := e
    omega
theorem sim_proj (h : SimA q a) (hn : a.at_ ≠ 6) {e : Int} {L : List (List Int)} (hg : goodB e L = true) (hL : fewL L) (he : i64w e) : SimA (q.proj e L) { a with ep := e, L := L, at_ := 2 } :=
  ⟨rfl, rfl, hL, he, ⟨of_decide_eq_true rfl, of_decide_eq_true rfl⟩, rfl, fun _ => ⟨hg, (h.here hn).2⟩, fun e => absurd e (of_decide_eq_true rfl), fun e => absurd e (of_decide_eq_true rfl), fun e => absurd e (of_decide_eq_true rfl)⟩
theorem sim_told (h : SimA q a) (hn : a.at_ ≠ 6) {n : Int} (ho : ofB a.ep a.L n = true) : SimA (q.told n) { a with addr := n, i := 0, at_ := 3 } :=
  ⟨h.ep, h.chains, h.few, h.wide, ⟨of_decide_eq_true rfl, of_decide_eq_true rfl⟩, rfl, fun _ => h.here hn, fun e => absurd e (of_decide_eq_true rfl), fun _ => ⟨rfl, rfl, ho, (chain_some ho).1⟩, fun e => absurd e (of_decide_eq_true rfl)⟩
theorem sim_ends (h : SimA q a) {c : Int} (hc : c ≠ 0) : SimA (q.ends 0 c) (a.ends c) := by
  refine ⟨h.ep, h.chains, h.few, h.wide, ⟨of_decide_eq_true rfl, of_decide_eq_true rfl⟩, rfl, fun e => absurd rfl e, fun e => absurd e (of_decide_eq_true rfl), fun e => absurd e (of_decide_eq_true rfl), fun _ => ⟨?_, rfl⟩⟩
  show (0 : Int) = if (6 : Int) = 6 ∧ c = 0 then a.addr else 0
  rw [if_neg (fun e => hc e.2)]
theorem sim_full (h : SimA q a) (hn : a.at_ ≠ 6) : SimA q.full a.full := by
  unfold Qa.full Ap.full
  rw [(h.here hn).2.2.2]
  refine sim_ends h ?_
  split <;> decide
theorem sim_next (h : SimA q a) (hn : a.at_ = 3 ∨ a.at_ = 4) : SimA q.next a.wrote := by
  obtain ⟨u1, u2, u3, u4⟩ := h.unit (by omega)
  unfold Qa.next Ap.wrote
  rw [h.ep, h.chains, u1, u2]
  by_cases hl : a.i + 1 = (chainR a.ep a.L a.addr).length
  · rw [if_pos hl, if_pos (by omega)]
    exact ⟨h.ep, h.chains, h.few, h.wide, ⟨of_decide_eq_true rfl, of_decide_eq_true rfl⟩, rfl, fun e => absurd rfl e, fun e => absurd e (of_decide_eq_true rfl), fun e => absurd e (of_decide_eq_true rfl), fun _ => ⟨rfl, rfl⟩⟩
  · rw [if_neg hl, if_neg (by omega)]
    refine ⟨h.ep, h.chains, h.few, h.wide, ⟨of_decide_eq_true rfl, of_decide_eq_true rfl⟩, rfl, fun _ => h.here (by omega), fun e => absurd e (of_decide_eq_true rfl), fun _ => ⟨u1, ?_, u3, ?_⟩, fun e => absurd e (of_decide_eq_true rfl)⟩
    · show q.unit + 1 = ((a.i + 1 : Nat) : Int)
      omega
    · show a.i + 1 < (chainR a.ep a.L a.addr).length
      omega
theorem sim_heard (h : SimA q a) (hn : a.at_ ≠ 6) (c : Int) (b : Bool) : SimA (q.heard c b) { a with maybe := a.maybe || (decide (a.at_ = 3) && (!b || decide (c = 0))) } := by
  obtain ⟨_, _, _, _, h3, _⟩ := h.at_iff
  obtain ⟨g1, g2, g3, g4⟩ := h.here hn
  unfold Qa.heard
  by_cases hw : q.at_ = 3 ∧ (b = false ∨ c = 0)
  · rw [if_pos hw]
    have e : (a.maybe || (decide (a.at_ = 3) && (!b || decide (c = 0)))) = true := by
      rw [decide_eq_true (h3.1 hw.1)]
      rcases hw.2 with e | e
      · rw [e]; simp
      · rw [decide_eq_true e]; simp
    rw [e]
    exact ⟨h.ep, h.chains, h.few, h.wide, h.range, h.place, fun _ => ⟨g1, g2, g3, rfl⟩, h.back, h.unit, fun e => absurd e hn⟩
  · rw [if_neg hw]
    have e : (a.maybe || (decide (a.at_ = 3) && (!b || decide (c = 0)))) = a.maybe := by
      by_cases e3 : a.at_ = 3
      · have hb : b = true := by
          cases b with
          | true => rfl
          | false => exact absurd ⟨h3.2 e3, .inl rfl⟩ hw
        have hc : ¬ c = 0 := fun e => hw ⟨h3.2 e3, .inr e⟩
        rw [hb, decide_eq_false hc]
        simp
      · rw [decide_eq_false e3]
        simp
    rw [e]
    exact ⟨h.ep, h.chains, h.few, h.wide, h.range, h.place, fun _ => ⟨g1, g2, g3, g4⟩, h.back, h.unit, fun e => absurd e hn⟩
theorem heard_same (q : Qa) (c : Int) (b : Bool) : (q.heard c b).ep = q.ep ∧ (q.heard c b).L = q.L ∧ (q.heard c b).txt = q.txt ∧ (q.heard c b).at_ = q.at_ ∧ (q.heard c b).was = q.was ∧ (q.heard c b).addr = q.addr ∧ (q.heard c b).unit = q.unit := by
  unfold Qa.heard
  split <;> exact ⟨rfl, rfl, rfl, rfl, rfl, rfl, rfl⟩
theorem sim_hear (h : SimA q a) (x : An) (c : Bool) (hL : fewL x.L) (he : i64w x.pe) : SimA (q.hear x c) (a.hear x c) := by
  obtain ⟨i6, i1, i5, i2, i3, i4⟩ := h.at_iff
  have hr := h.range
  unfold Qa.hear Ap.hear
  by_cases h6 : a.at_ = 6
  · rw [if_pos h6, if_pos (i6.2 h6)]
    exact h
  · rw [if_neg h6, if_neg (fun e => h6 (i6.1 e))]
    have hb := sim_heard h h6 x.code c
    obtain ⟨_, _, _, s4, s5, _, _⟩ := heard_same q x.code c
    revert hb s4 s5
    generalize q.heard x.code c = p
    generalize hB : ({ a with maybe := a.maybe || (decide (a.at_ = 3) && (!c || decide (x.code = 0))) } : Ap) = b
    intro hb s4 s5
    have b1 : b.at_ = a.at_ := by rw [← hB]
    have b2 : b.was = a.was := by rw [← hB]
    have b3 : b.ep = a.ep := by rw [← hB]
    have b4 : b.L = a.L := by rw [← hB]
    have b5 : b.txt = a.txt := by rw [← hB]
    have bn : b.at_ ≠ 6 := by rw [b1]; exact h6
    show SimA _ (if c = false ∨ x.code = 47 then b else _)
    by_cases hw : c = false ∨ x.code = 47
    · rw [if_pos hw, if_pos (hw.imp id (fun e => by unfold Qa.waits; rw [decide_eq_true e]; rfl))]
      exact hb
    · rw [if_neg hw]
      have hw1 : ¬ c = false := fun e => hw (.inl e)
      have hw2 : ¬ x.code = 47 := fun e => hw (.inr e)
      by_cases h45 : x.code = 45
      · by_cases ha : a.at_ = 3 ∨ a.at_ = 4
        · have hq : q.waits x.code = false := by
            unfold Qa.waits
            rw [decide_eq_false hw2]
            rcases ha with ha | ha
            · rw [decide_eq_false (p := q.at_ ≠ 3) (fun e => e (i3.2 ha))]; simp
            · rw [decide_eq_false (p := q.at_ ≠ 4) (fun e => e (i4.2 ha))]; simp
          rw [if_neg (by rw [hq]; simp [hw1]), if_neg (show ¬ x.code = 40 by omega), if_pos h45, if_pos h45, if_pos ha, ← b1]
          exact sim_check hb (by omega)
        · have hq : q.waits x.code = true := by
            unfold Qa.waits
            rw [decide_eq_true h45, decide_eq_true (p := q.at_ ≠ 3) (by omega), decide_eq_true (p := q.at_ ≠ 4) (by omega)]; simp
          rw [if_pos (.inr hq), if_pos h45, if_neg ha]
          exact hb
      · have hq : q.waits x.code = false := by
          unfold Qa.waits
          rw [decide_eq_false hw2, decide_eq_false h45]; rfl
        rw [if_neg (by rw [hq]; simp [hw1])]
        by_cases h40 : x.code = 40
        · rw [if_pos h40, if_neg h45, if_pos h40]
          exact sim_lay hb bn
        · rw [if_neg h40, if_neg h45, if_neg h45, if_neg h40]
          by_cases a1 : a.at_ = 1
          · rw [if_pos a1, if_pos (.inl (i1.2 a1))]
            unfold Qa.learn
            by_cases hg : x.code = 0 ∧ goodB x.pe x.L = true
            · rw [if_pos hg, if_pos ⟨hg.1, hg.2, .inl (by omega)⟩]
              exact sim_proj hb bn hg.2 hL he
            · rw [if_neg hg, if_neg (fun e => hg ⟨e.1, e.2.1⟩), if_neg (by omega)]
              exact hb
          · rw [if_neg a1]
            by_cases a5 : a.at_ = 5
            · rw [if_pos a5, if_pos (.inr (i5.2 a5))]
              unfold Qa.learn
              have pe : p.ep = a.ep := by rw [hb.ep, b3]
              by_cases hg : x.code = 0 ∧ goodB x.pe x.L = true ∧ x.pe ≠ a.ep
              · rw [if_pos hg, if_pos ⟨hg.1, hg.2.1, .inr (by rw [pe]; exact hg.2.2)⟩]
                exact sim_proj hb bn hg.2.1 hL he
              · rw [if_neg hg, if_neg (fun e => hg ⟨e.1, e.2.1, e.2.2.elim (fun e => by omega) (fun e => by rw [← pe]; exact e)⟩), if_pos (by omega), ← b2]
                exact sim_back hb (by omega)
            · rw [if_neg a5, if_neg (by omega)]
              unfold Qa.step
              by_cases a2 : a.at_ = 2
              · rw [if_pos a2, if_pos (by omega)]
                unfold Qa.token
                have hof : ofB p.ep p.L x.n = true ↔ 0 ≤ x.n ∧ x.n < 16384 := by
                  rw [hb.ep, hb.chains, ofB_iff]
                  exact ⟨fun h => h.2, fun h => ⟨(hb.here bn).1, h⟩⟩
                by_cases hg : x.code = 0 ∧ 0 ≤ x.n ∧ x.n < 16384
                · rw [if_pos hg, if_pos ⟨hof.2 hg.2, hg.1⟩]
                  exact sim_told hb bn (by rw [← hb.ep, ← hb.chains]; exact hof.2 hg.2)
                · rw [if_neg hg, if_neg (fun e => hg ⟨e.2, hof.1 e.1⟩)]
                  by_cases h44 : x.code = 44
                  · rw [if_pos h44, if_pos h44]
                    exact sim_full hb bn
                  · rw [if_neg h44, if_neg h44]
                    have e := sim_tok hb bn
                    have e2 : ({ b with at_ := 2 } : Ap) = b := by
                      have : b.at_ = 2 := by omega
                      cases b
                      simp only at this
                      rw [this]
                    rwa [e2] at e
              · rw [if_neg a2, if_neg (by omega)]
                by_cases a3 : a.at_ = 3
                · rw [if_pos a3, if_pos (by omega)]
                  unfold Qa.write
                  by_cases c0 : x.code = 0
                  · rw [if_pos c0, if_pos c0]
                    exact sim_next hb (by omega)
                  · rw [if_neg c0, if_neg c0]
                    by_cases c1 : x.code = 41
                    · rw [if_pos c1, if_pos c1]
                      exact sim_look hb (by omega)
                    · rw [if_neg c1, if_neg c1]
                      by_cases c2 : x.code = 43
                      · rw [if_pos c2, if_pos c2]
                        exact sim_tok hb bn
                      · rw [if_neg c2, if_neg c2]
                        by_cases c3 : x.code = 44
                        · rw [if_pos c3, if_pos c3]
                          exact sim_full hb bn
                        · rw [if_neg c3, if_neg c3]
                          exact sim_ends hb c0
                · rw [if_neg a3, if_neg (by omega)]
                  unfold Qa.look
                  have tx : p.txt = a.txt := by rw [(hb.here bn).2.2.1, b5]
                  rw [tx]
                  by_cases c0 : x.code = 0 ∧ x.data = a.txt
                  · rw [if_pos c0, if_pos c0]
                    exact sim_next hb (by omega)
                  · rw [if_neg c0, if_neg c0]
                    by_cases c1 : x.code = 0 ∨ x.code = 46 ∨ x.code = 43
                    · rw [if_pos c1, if_pos c1]
                      exact sim_tok hb bn
                    · rw [if_neg c1, if_neg c1]
                      by_cases c2 : x.code = 42
                      · rw [if_pos c2, if_pos c2]
                        exact sim_write hb (by omega)
                      · rw [if_neg c2, if_neg c2]
                        exact sim_ends hb (fun e => c1 (.inl e))
end
end Go.Proofs.YtimjlfkdbkafeaaGreat
namespace Go.Proofs.YtimjlfkdbkafeaaGreat
set_option linter.unusedVariables false
open Go.RowKit
set_option maxRecDepth 20000
def ptrN (b : Nat) : Value := .pointer (some ⟨b, 0, none⟩)
/-- NG b G w n: in world w block b is the program's nodes n; all that they own lies in G. The program's functions return what is said here; units, sequencer and layout are told themselves: what a call leaves of one it leaves of all -/
structure RpcSays (UG : Nat → Nat → (Nat → Prop) → World → Us → Prop) (OG : Nat → (Nat → Prop) → World → Od → Prop) (LG : Nat → (Nat → Prop) → World → Ly → Prop) (NG : Nat → (Nat → Prop) → World → Nd → Prop) : Prop where
  units : UnitSays UG
  order_ : OrderSays OG
  layout_ : LaySays LG
  thing : ∀ b, Thing (NG b)
  ok : ∀ {b : Nat} {G : Nat → Prop} {w : World} {n : Nd}, NG b G w n → (∀ i, i < 16 → (n.u i).p.Ok ∧ i64w (n.u i).epoch) ∧ n.o.Ok ∧ goodB n.l.ep n.l.L = true
  new_bad : ∀ (ep : Int) (ao : Option Addr) (cap : Nat) (L : List (List Int)) (room : Int) (w : World), CL w ao L → fewL L → goodB ep L = false → i64w room → Calls Tryz.prog 29 #[.agg #[.int .i64 ep, .slice ao L.length cap], .int .i64 room] w fun e w' => e = .returned (.tuple #[.pointer none, .int .i64 11]) ∧ Below w.heap.size w w'
  new_room : ∀ (ep : Int) (ao : Option Addr) (cap : Nat) (L : List (List Int)) (room : Int) (w : World), CL w ao L → fewL L → goodB ep L = true → room < 1 ∨ 4096 < room → i64w room → Calls Tryz.prog 29 #[.agg #[.int .i64 ep, .slice ao L.length cap], .int .i64 room] w fun e w' => e = .returned (.tuple #[.pointer none, .int .i64 1]) ∧ Below w.heap.size w w'
  new_yes : ∀ (ep : Int) (ao : Option Addr) (cap : Nat) (L : List (List Int)) (room : Int) (w : World), CL w ao L → fewL L → goodB ep L = true → 1 ≤ room ∧ room ≤ 4096 → Calls Tryz.prog 29 #[.agg #[.int .i64 ep, .slice ao L.length cap], .int .i64 room] w fun e w' => ∃ (b : Nat) (G : Nat → Prop), e = .returned (.tuple #[ptrN b, .int .i64 0]) ∧ NG b G w' (newN ep L room) ∧ (∀ k, G k → w.heap.size ≤ k) ∧ Below w.heap.size w w'
  ask : ∀ (b : Nat) (G : Nat → Prop) (w : World) (n : Nd) (a : Ak), NG b G w n → AkOk a → fewL a.L → a.data.size ≤ 1000000 → n.l.used.length ≤ 100000 → (∀ W, Kept (fun k => ¬ G k) w W → CL W a.ao a.L) → Calls Tryz.prog 41 #[ptrN b, askV a] w fun e w' => Tells (NG b) G w (n.done a) (n.ans a) e w'
  unit : ∀ (b : Nat) (G : Nat → Prop) (w : World) (n : Nd) (i : Nat), NG b G w n → i < 16 → Calls Tryz.prog 18 #[ptrN b, .int .i64 i] w fun e w' => ∃ (bu pb : Nat), e = .returned (ptrV bu) ∧ Below w.heap.size w w' ∧ ∃ F : Nat → Prop, UG bu pb F w' (n.u i) ∧ (∀ k, F k → G k) ∧ ∀ W u', Leaves (UG bu pb) F w' W u' → Leaves (NG b) G w' W (n.putU i u')
  unit_no : ∀ (b : Nat) (G : Nat → Prop) (w : World) (n : Nd) (i : Int), NG b G w n → i < 0 ∨ 15 < i → i64w i → Calls Tryz.prog 18 #[ptrN b, .int .i64 i] w fun e w' => e = .returned (.pointer none) ∧ Below w.heap.size w w'
  order : ∀ (b : Nat) (G : Nat → Prop) (w : World) (n : Nd), NG b G w n → Calls Tryz.prog 62 #[ptrN b] w fun e w' => ∃ bo : Nat, e = .returned (ptrO bo) ∧ Below w.heap.size w w' ∧ ∃ F : Nat → Prop, OG bo F w' n.o ∧ (∀ k, F k → G k) ∧ ∀ W o', Leaves (OG bo) F w' W o' → Leaves (NG b) G w' W (n.putO o')
  layout : ∀ (b : Nat) (G : Nat → Prop) (w : World) (n : Nd), NG b G w n → Calls Tryz.prog 63 #[ptrN b] w fun e w' => ∃ bl : Nat, e = .returned (ptrL bl) ∧ Below w.heap.size w w' ∧ ∃ F : Nat → Prop, LG bl F w' n.l ∧ (∀ k, F k → G k) ∧ ∀ W l', Leaves (LG bl) F w' W l' → Leaves (NG b) G w' W (n.putL l')
  nil_ask : ∀ (a : Ak) (w : World), AkIn w a → Calls Tryz.prog 41 #[.pointer none, askV a] w fun e w' => e = .returned (ansV (anP 1 0 noS 0) none 0) ∧ Below w.heap.size w w'
  nil_unit : ∀ (i : Int) (w : World), i64w i → Calls Tryz.prog 18 #[.pointer none, .int .i64 i] w fun e w' => e = .returned (.pointer none) ∧ Below w.heap.size w w'
  nil_order : ∀ (w : World), Calls Tryz.prog 62 #[.pointer none] w fun e w' => e = .returned (.pointer none) ∧ Below w.heap.size w w'
  nil_layout : ∀ (w : World), Calls Tryz.prog 63 #[.pointer none] w fun e w' => e = .returned (.pointer none) ∧ Below w.heap.size w w'
end Go.Proofs.YtimjlfkdbkafeaaGreat
namespace Go.Proofs.YtimjlfkdbkafeaaGreat
set_option linter.unusedVariables false
open Go.RowKit
set_option maxRecDepth 20000
/-- one chain of two units, as the law lays it out -/
def litW (w : World) (u v : Int) : World := (w.alloc (.cells #[.int .i64 u, .int .i64 v] 3)).alloc (.cells #[.slice (some ⟨w.heap.size, 0, none⟩) 2 2] 24)
theorem lit_size (w : World) (u v : Int) : (litW w u v).heap.size = w.heap.size + 2 := by simp [litW]
theorem lit_below (w : World) (u v : Int) : Below w.heap.size w (litW w u v) := (below_new _ _).alloc (by simp) _
theorem lit_chain (w : World) {u v : Int} (hu : i64w u) (hv : i64w v) : CG (fun k => w.heap.size ≤ k ∧ k < (litW w u v).heap.size) (litW w u v) (.slice (some ⟨w.heap.size + 1, 0, none⟩) 1 1) [[u, v]] := by
  obtain ⟨h1, h2⟩ := two_blocks w #[.int .i64 u, .int .i64 v] #[.slice (some ⟨w.heap.size, 0, none⟩) 2 2] 3 24
  have hs := lit_size w u v
  refine ⟨some ⟨w.heap.size + 1, 0, none⟩, 1, rfl, fun e => (by cases e), Nat.le_refl _, fun a e => ?_, fun i hi => ?_⟩
  · cases e
    exact ⟨⟨Nat.le_succ _, by show w.heap.size + 1 < _; omega⟩, by show w.heap.size + 1 < _; omega⟩
  · match i, hi with
    | 0, _ =>
      refine ⟨w.heap.size + 1, 0, some ⟨w.heap.size, 0, none⟩, 2, rfl, cell_of h2 0, ⟨fun j hj => ?_, fun e => (by cases e), Nat.le_refl _⟩, fun a e => ?_⟩
      · match j, hj with
        | 0, _ => exact ⟨⟨w.heap.size, 0, rfl, cell_of h1 0⟩, hu⟩
        | 1, _ => exact ⟨⟨w.heap.size, 0, rfl, cell_of h1 1⟩, hv⟩
      · cases e
        exact ⟨⟨Nat.le_refl _, by show w.heap.size < _; omega⟩, by show w.heap.size < _; omega⟩
def exL0 : Ly := newL 0 [[0, 1]]
def exA1 : Ak := akL 10 0 0 0 1 [[0, 2]] none 0
def exL1 : Ly := exL0.done exA1
def exA2 : Ak := akL 10 0 0 0 2 [[0, 1]] none 0
def exL2 : Ly := exL1.done exA2
def exA3 : Ak := akL 11 3 9 2 0 [] none 0
def exL3 : Ly := exL2.done exA3
def exA4 : Ak := akL 11 7 9 2 0 [] none 0
def exL4 : Ly := exL3.done exA4
theorem exY_facts : goodB 0 [[0, 1]] = true ∧ (exL0.ans exA1).code = 0 ∧ (exL1.ans exA2).code = 48 ∧ (exL1.ans exA2).pe = 1 ∧ (exL2.ans exA3).mark = 3 ∧ (exL3.ans exA4).mark = 3 ∧ (unitsR [exL4.used]).length = 3 := by decide +kernel
theorem exL_few : exL0.used.length ≤ 100 ∧ exL1.used.length ≤ 100 ∧ exL2.used.length ≤ 100 ∧ exL3.used.length ≤ 100 ∧ exL4.used.length ≤ 100 := by decide +kernel
theorem few_two (u v : Int) : fewL [[u, v]] := ⟨by simp, fun c hc => by rw [List.mem_singleton.1 hc]; simp⟩
theorem few_nil : fewL [] := ⟨Nat.zero_le _, fun c hc => (by cases hc)⟩
section
variable {LG : Nat → (Nat → Prop) → World → Ly → Prop} {X : Nat → Prop} {w : World} {b : Nat} {y : Ly}
/-- a change to one chain of two units, that the law lays out -/
theorem l_change (HS : LaySays LG) (h : Solo (LG b) X w y) (hu : y.used.length ≤ 100) {u v pe : Int} (h0 : i64w u) (h1 : i64w v) (h2 : i64w pe) {n : Nat} (hn : w.heap.size = n) :
    Calls Tryz.prog 150 #[.pointer (some ⟨b, 0, none⟩), .agg #[.int .i64 10, .int .i64 0, .int .i64 0, .int .i64 0, .int .i64 0, .int .i64 0, .string ⟨#[]⟩, .int .i64 pe, .slice (some ⟨n + 1, 0, none⟩) 1 1]] ((w.alloc (.cells #[.int .i64 u, .int .i64 v] 3)).alloc (.cells #[.slice (some ⟨n, 0, none⟩) 2 2] 24)) fun e w' => ∃ (s : ByteArray) (q0 q1 q2 q3 : Int) (vo : Option Addr) (vn vc : Nat),
      e = .returned (.agg #[.int .i64 (y.ans (akL 10 0 0 0 pe [[u, v]] none 0)).code, .int .i64 q0, .string s, .int .i64 (y.ans (akL 10 0 0 0 pe [[u, v]] none 0)).pe, .slice vo vn vc, .int .i64 q1, .int .i64 q2, .int .i64 q3]) ∧ Solo (LG b) X w' (y.done (akL 10 0 0 0 pe [[u, v]] none 0)) ∧ Kept X w w' := by
  subst hn
  have hs := h.wider (HS.thing b) (lit_below w u v)
  have hl := lit_chain w h0 h1
  refine (l_ask HS hs (a := akL 10 0 0 0 pe [[u, v]] (some ⟨w.heap.size + 1, 0, none⟩) 1) (akL_ok (WalkArith.wf_i64 (n := 10) (by decide)) (WalkArith.wf_i64 (n := 0) (by decide)) (WalkArith.wf_i64 (n := 0) (by decide)) (WalkArith.wf_i64 (n := 0) (by decide)) h2 (few_two u v) (fun e => by cases e) (Nat.le_refl _)) (few_two u v) (by omega) (fun W hk => (hl.keep hk (fun k hk => .inr hk)).here.1)).mono ?_
  rintro e w' ⟨ao, cap, F, rfl, _, h3, h4⟩
  exact ⟨_, _, _, _, _, _, _, _, rfl, h3.less (fun k hk => .inl (.inl hk)), (Kept.ofBelow (lit_below w u v) X).trans (h4.mono (fun k hk => .inl hk))⟩
/-- an image is marked -/
theorem l_mark (HS : LaySays LG) (h : Solo (LG b) X w y) (hu : y.used.length ≤ 100) {p z n : Int} (h0 : i64w p) (h1 : i64w z) (h2 : i64w n) :
    Calls Tryz.prog 150 #[.pointer (some ⟨b, 0, none⟩), .agg #[.int .i64 11, .int .i64 0, .int .i64 0, .int .i64 p, .int .i64 z, .int .i64 n, .string ⟨#[]⟩, .int .i64 0, .slice none 0 0]] w fun e w' => ∃ (s : ByteArray) (q0 q1 q2 q3 q4 : Int) (vo : Option Addr) (vn vc : Nat),
      e = .returned (.agg #[.int .i64 q4, .int .i64 q0, .string s, .int .i64 q1, .slice vo vn vc, .int .i64 (y.ans (akL 11 p z n 0 [] none 0)).mark, .int .i64 q2, .int .i64 q3]) ∧ Solo (LG b) X w' (y.done (akL 11 p z n 0 [] none 0)) ∧ Kept X w w' := by
  refine (l_ask HS h (a := akL 11 p z n 0 [] none 0) (akL_ok (WalkArith.wf_i64 (n := 11) (by decide)) h0 h1 h2 (WalkArith.wf_i64 (n := 0) (by decide)) few_nil (fun _ => rfl) (Nat.le_refl _)) few_nil (by omega) (fun W hk => CL.nil _ _)).mono ?_
  rintro e w' ⟨ao, cap, F, rfl, _, h3, h4⟩
  exact ⟨_, _, _, _, _, _, _, _, _, rfl, h3.less (fun k hk => .inl hk), h4⟩
end
end Go.Proofs.YtimjlfkdbkafeaaGreat
