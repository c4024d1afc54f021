/- What the program's layout answers any question. Conditions: it and the question lie where the call was told; no more than 100000 units were noted. The program's own fetch, in plain words: where it is, what each answer makes of it, how that goes with the document's words. No conditions. What the laws of all nodes ask of the program's functions: each one's contract, as a statement (proved where the program is spoken of). No conditions but those that the statements name. That layout is awake: the laws' own example. Conditions: the program's functions return what LaySays says. -/
import Derived.Test.YthffjanidjjkdaaGreatG21a
import Derived.Test.YthffjanidjjkdaaGreatG11a
import Derived.Test.YthffjanidjjkdaaGreatG13b
import Derived.Test.YthffjanidjjkdaaGreatG08b
import Derived.Test.YthffjanidjjkdaaGreatG16a
import Derived.Test.YthffjanidjjkdaaGreatG09b
set_option linter.unusedVariables false
namespace Go.Proofs.YthffjanidjjkdaaGreat
set_option linter.unusedVariables false
open Go.RowKit Go.Maps
set_option maxRecDepth 20000
/-- chains that were made behind one more block, and that block written -/
theorem chained_over {T : (Nat → Prop) → World → Ly → Prop} (hT : Thing T) {H : Nat → Prop} {w w4 W5 : World} {s : Ly} {o : Obj} {v : Value} {L : List (List Int)} (h : T H w s) (hb4 : Below (w.alloc o).heap.size (w.alloc o) w4) (hO : OC w4 (w.alloc o).heap.size v L) (hk : Kept (fun k => k ≠ w.heap.size) w4 W5) (hs : W5.heap.size = w4.heap.size) :
    Leaves (Chained T (fun k => w.heap.size < k ∧ k < w4.heap.size) v L) H w W5 s := by
  have hb0 := below_new w o
  have hz : (w.alloc o).heap.size = w.heap.size + 1 := by simp
  rw [hz] at hO
  have hH := fun k hk => hT.lt h k hk
  refine ⟨fun k => H k ∨ (w.heap.size < k ∧ k < w4.heap.size), ⟨H, ?_, ?_, fun k hk2 => by rw [hs]; exact hk2.2, fun k hk2 hf => by have := hH k hf; omega, fun k => Iff.rfl⟩, ?_, fun k hk2 => hk2.imp id (fun h => by omega)⟩
  · exact hT.keep (hT.keep (hT.keep h (Kept.ofBelow hb0 (fun _ => True)) (fun _ _ => trivial)) (Kept.ofBelow hb4 (fun _ => True)) (fun _ _ => trivial)) hk (fun k hf e => by have := hH k hf; omega)
  · exact ((CG.of hO).mono (S := fun k => w.heap.size < k ∧ k < w4.heap.size) (fun k hk2 => by omega)).keep hk (fun k hk2 => by omega)
  · have h1 := (Kept.ofBelow hb0 (fun k => ¬ H k)).below hb4
    refine ⟨hk.os.trans h1.os, hk.tape.trans h1.tape, hk.output.trans h1.output, Nat.le_trans h1.size hk.size, fun k hg hkl => ?_⟩
    rw [hk.block k (by omega) (Nat.lt_of_lt_of_le hkl h1.size)]
    exact h1.block k hg hkl
theorem two_size (W : World) (b i j : Nat) (v u : Value) : ((W.setCell ⟨b, i, none⟩ v).setCell ⟨b, j, none⟩ u).heap.size = W.heap.size := by simp [World.setCell]
theorem two_stay (W : World) (b i j : Nat) (v u : Value) : Kept (fun k => k ≠ b) W ((W.setCell ⟨b, i, none⟩ v).setCell ⟨b, j, none⟩ u) := ((Kept.refl _ W).setCell (p := ⟨b, i, none⟩) (fun h => h rfl) _).setCell (p := ⟨b, j, none⟩) (fun h => h rfl) _
set_option maxHeartbeats 1000000 in
theorem lp_do_tell (b : Nat) (G : Nat → Prop) (w : World) (y : Ly) (a : Ak) (h : LB b G w y) (hy : y.L.length ≤ 255 ∧ ∀ c ∈ y.L, c.length ≤ 255) (hk : a.kind = 9) :
    Calls Tryz.prog 156 #[ptrL b, askV a] w fun x w' => Tells (LB b) G w y ⟨0, y.n, noL, y.ep, y.L, y.mark, y.size, 0⟩ x w' := by
  obtain ⟨k, un, ep, pg, sz, n, s, pe, L, ao, cap⟩ := a
  simp only at hk
  have d9 : (k == 9) = true := by rw [hk]; rfl
  have HS := Lib.hid (boxv_start (lb_thing b) h 62 58 #[.int .i64 k, .int .i64 un, .int .i64 ep, .int .i64 pg, .int .i64 sz, .int .i64 n, .string s, .int .i64 pe, .slice ao L.length cap] zeroE)
  unfold zeroE at HS
  have C2 := Lib.hid (fun w => ltold_any y.mark y.size y.n w)
  have CN := Lib.hid (fun (W : World) H hH => lp_now b H W y hH hy)
  unfold ptrL at CN
  obtain ⟨H0, hH0, _⟩ := HS.out.use
  obtain ⟨lo, lc, mb, h1, _⟩ := hH0.open
  obtain ⟨⟨c0, c1, c2, c3, c4, c5⟩, _⟩ := six_cells h1
  have hb1 := lt_of_block h1
  have HC := Lib.hid (And.intro c3 (And.intro c4 c5))
  have hbw := h.small
  obtain ⟨_, _, _, g1, _⟩ := h.open
  obtain ⟨⟨e0, e1, e2, e3, e4, e5⟩, _⟩ := six_cells g1
  clear h hy hk hH0 h1 c0 c1 c2 c3 c4 c5 hb1 g1 e0 e1 e2 HC
  show Calls _ _ #[.pointer (some ⟨b, 0, none⟩), .agg #[.int .i64 k, .int .i64 un, .int .i64 ep, .int .i64 pg, .int .i64 sz, .int .i64 n, .string s, .int .i64 pe, .slice ao L.length cap]] w _
  go_enter Tryz.func156, Tryz.ntmps156
  go_wp2_with (first
    | (go_at_call 159; refine (C2.out _).mono ?_; rintro x w2 ⟨rfl, hb2⟩; have HS2 := Lib.hid (HS.out.below (lb_thing b) hb2); clear hb2)
    | (go_at_call 157; obtain ⟨H2, hH2, _, hU2⟩ := HS2.out.use2; refine (CN.out _ H2 (hH2.below (below_new _ _))).mono ?_; rintro x w4 ⟨v, rfl, hO, hb4⟩; obtain ⟨vo, vc, hv, _⟩ := hO.form; subst hv; have HX := Lib.hid (hU2 (Chained (LB b) (fun k => w2.heap.size < k ∧ k < w4.heap.size) (.slice vo y.L.length vc) y.L) _ _ (chained_over (lb_thing b) hH2 hb4 hO (two_stay w4 w2.heap.size 3 4 (.int .i64 y.ep) (.slice vo y.L.length vc)) (two_size _ _ _ _ _ _))); have HQ := Lib.hid (below_heap hb4 (heap_alloc_new w2 _)); have hq := lt_of_block HQ.out; obtain ⟨⟨q0, q1, q2, q3, q4, q5, q6, q7⟩, r0, r1, r2, r3, r4, r5, r6, r7⟩ := eight_cells HQ.out; obtain ⟨m1, m2⟩ := HS2.out.small; have HS4 := Lib.hid ((HS2.out.below (lb_thing b) (below_new w2 (.cells #[.int .i64 0, .int .i64 y.n, .string ⟨#[]⟩, .int .i64 0, .slice none 0 0, .int .i64 y.mark, .int .i64 y.size, .int .i64 0] 58))).below (lb_thing b) hb4); obtain ⟨⟨x0, x1, x2, x3, x4, x5, x6, x7⟩, f0, f1, f2, f3, f4, f5, f6, f7⟩ := eight_cells HS4.out.ans; obtain ⟨m3, m4⟩ := HS4.out.small; clear hO hb4 hH2 hU2))
  exact ans_ret (x := ⟨0, y.n, noL, y.ep, y.L, y.mark, y.size, 0⟩) (ao := vo) (cap := vc) rfl (eight_all HX.out.ans _ _ _ _ _ _ _ _) rfl rfl (chained_tells (x := ⟨0, y.n, noL, y.ep, y.L, y.mark, y.size, 0⟩) (fun k hk => Nat.le_trans HS2.out.kp.size (Nat.le_of_lt hk.1)) (HX.out.fin (chained_thing (lb_thing b) _ _ _) (eight_stay _ _ _ _ _ _ _ _ _ _)))
set_option maxHeartbeats 1000000 in
theorem lp_do_other (b : Nat) (G : Nat → Prop) (w : World) (y : Ly) (a : Ak) (h : LB b G w y) (h9 : a.kind ≠ 9) (h10 : a.kind ≠ 10) (h11 : a.kind ≠ 11) :
    Calls Tryz.prog 156 #[ptrL b, askV a] w fun x w' => Tells (LB b) G w y (anP 1 0 noL 0) x w' := by
  obtain ⟨k, un, ep, pg, sz, n, s, pe, L, ao, cap⟩ := a
  simp only at *
  have d9 : (k == 9) = false := beq_eq_false_iff_ne.2 h9
  have d10 : (k == 10) = false := beq_eq_false_iff_ne.2 h10
  have d11 : (k == 11) = false := beq_eq_false_iff_ne.2 h11
  have HS := Lib.hid (boxv_start (lb_thing b) h 62 58 #[.int .i64 k, .int .i64 un, .int .i64 ep, .int .i64 pg, .int .i64 sz, .int .i64 n, .string s, .int .i64 pe, .slice ao L.length cap] zeroE)
  unfold zeroE at HS
  clear h h9 h10 h11
  show Calls _ _ #[.pointer (some ⟨b, 0, none⟩), .agg #[.int .i64 k, .int .i64 un, .int .i64 ep, .int .i64 pg, .int .i64 sz, .int .i64 n, .string s, .int .i64 pe, .slice ao L.length cap]] w _
  go_enter Tryz.func156, Tryz.ntmps156
  go_wp2_with (go_at_call 158; refine (lcoded_any _ _).mono ?_; rintro x w2 ⟨rfl, hb2⟩; have HX := Lib.hid (HS.out.below (lb_thing b) hb2); obtain ⟨⟨x0, x1, x2, x3, x4, x5, x6, x7⟩, f0, f1, f2, f3, f4, f5, f6, f7⟩ := eight_cells HX.out.ans; obtain ⟨m1, m2⟩ := HX.out.small; clear hb2)
  exact ans_ret (x := anP 1 0 noL 0) (ao := none) (cap := 0) rfl (eight_all HX.out.ans _ _ _ _ _ _ _ _) rfl rfl (Tells.plain (HX.out.fin (lb_thing b) (eight_stay _ _ _ _ _ _ _ _ _ _)) rfl)
set_option maxHeartbeats 1000000 in
/-- an image is told of: whatever 'mark' makes of it, Do makes -/
theorem lp_do_mark (b : Nat) (G : Nat → Prop) (w : World) (y y' : Ly) (a : Ak) (h : LB b G w y) (hk : a.kind = 11) (c mn mp ms : Int)
    (hc : ∀ H W, LB b H W y → Calls Tryz.prog 161 #[ptrL b, .agg #[.int .i64 a.page, .int .i64 a.size, .int .i64 a.n]] W fun x w' => x = .returned (ansV ⟨c, mn, noL, 0, [], mp, ms, 0⟩ none 0) ∧ Leaves (LB b) H W w' y') :
    Calls Tryz.prog 156 #[ptrL b, askV a] w fun x w' => Tells (LB b) G w y' ⟨c, mn, noL, 0, [], mp, ms, 0⟩ x w' := by
  obtain ⟨k, un, ep, pg, sz, n, s, pe, L, ao, cap⟩ := a
  simp only at *
  have d11 : (k == 11) = true := by rw [hk]; rfl
  have d9 : (k == 9) = false := by rw [hk]; rfl
  have d10 : (k == 10) = false := by rw [hk]; rfl
  have HS := Lib.hid (boxv_start (lb_thing b) h 62 58 #[.int .i64 k, .int .i64 un, .int .i64 ep, .int .i64 pg, .int .i64 sz, .int .i64 n, .string s, .int .i64 pe, .slice ao L.length cap] zeroE)
  unfold zeroE at HS
  have CM := Lib.hid (show ∀ H W, LB b H W y → Calls Tryz.prog 161 #[.pointer (some ⟨b, 0, none⟩), .agg #[.int .i64 pg, .int .i64 sz, .int .i64 n]] W fun x w' => x = .returned (.agg #[.int .i64 c, .int .i64 mn, .string ⟨#[]⟩, .int .i64 0, .slice none 0 0, .int .i64 mp, .int .i64 ms, .int .i64 0]) ∧ Leaves (LB b) H W w' y' from hc)
  have hbw := h.small
  clear h hk hc
  show Calls _ _ #[.pointer (some ⟨b, 0, none⟩), .agg #[.int .i64 k, .int .i64 un, .int .i64 ep, .int .i64 pg, .int .i64 sz, .int .i64 n, .string s, .int .i64 pe, .slice ao L.length cap]] w _
  go_enter Tryz.func156, Tryz.ntmps156
  go_wp2_with (go_at_call 161; obtain ⟨H1, hH1, _, hU1⟩ := HS.out.use2; refine (CM.out H1 _ hH1).mono ?_; rintro x w2 ⟨rfl, hl⟩; have HX := Lib.hid (hU1 (LB b) _ _ hl); obtain ⟨⟨x0, x1, x2, x3, x4, x5, x6, x7⟩, f0, f1, f2, f3, f4, f5, f6, f7⟩ := eight_cells HX.out.ans; obtain ⟨m1, m2⟩ := HX.out.small; clear hl hH1 hU1)
  exact ans_ret (x := ⟨c, mn, noL, 0, [], mp, ms, 0⟩) (ao := none) (cap := 0) rfl (eight_all HX.out.ans _ _ _ _ _ _ _ _) rfl rfl (Tells.plain (HX.out.fin (lb_thing b) (eight_stay _ _ _ _ _ _ _ _ _ _)) rfl)
set_option maxHeartbeats 1000000 in
/-- a change is told of: whatever 'change' makes of it, Do makes -/
theorem lp_do_change (b : Nat) (G : Nat → Prop) (w : World) (y y' : Ly) (a : Ak) (h : LB b G w y) (hA : ∀ W, Kept (fun k => ¬ G k) w W → CL W a.ao a.L) (hk : a.kind = 10) (c e : Int) (M : List (List Int))
    (hc : ∀ H W, LB b H W y → (∀ W2, Kept (fun k => ¬ H k) W W2 → CL W2 a.ao a.L) → Calls Tryz.prog 160 #[ptrL b, .agg #[.int .i64 a.pe, .slice a.ao a.L.length a.cap]] W fun x w' => Tells (LB b) H W y' (anL c e M) x w') :
    Calls Tryz.prog 156 #[ptrL b, askV a] w fun x w' => Tells (LB b) G w y' (anL c e M) x w' := by
  obtain ⟨k, un, ep, pg, sz, n, s, pe, L, ao, cap⟩ := a
  simp only at *
  have d10 : (k == 10) = true := by rw [hk]; rfl
  have d9 : (k == 9) = false := by rw [hk]; rfl
  have HS := Lib.hid (boxv_start (lb_thing b) h 62 58 #[.int .i64 k, .int .i64 un, .int .i64 ep, .int .i64 pg, .int .i64 sz, .int .i64 n, .string s, .int .i64 pe, .slice ao L.length cap] zeroE)
  unfold zeroE at HS
  have HA := Lib.hid hA
  have CM := Lib.hid (show ∀ H W, LB b H W y → (∀ W2, Kept (fun k => ¬ H k) W W2 → CL W2 ao L) → Calls Tryz.prog 160 #[.pointer (some ⟨b, 0, none⟩), .agg #[.int .i64 pe, .slice ao L.length cap]] W fun x w' => ∃ (vo : Option Addr) (vc : Nat) (C : Nat → Prop), x = .returned (.agg #[.int .i64 c, .int .i64 0, .string ⟨#[]⟩, .int .i64 e, .slice vo M.length vc, .int .i64 0, .int .i64 0, .int .i64 0]) ∧ (∀ k, C k → W.heap.size ≤ k) ∧ Leaves (Chained (LB b) C (.slice vo M.length vc) M) H W w' y' from fun H W h1 h2 => (hc H W h1 h2).mono (fun x w' ht => tells_chained ht))
  have hbw := h.small
  clear h hk hc hA
  show Calls _ _ #[.pointer (some ⟨b, 0, none⟩), .agg #[.int .i64 k, .int .i64 un, .int .i64 ep, .int .i64 pg, .int .i64 sz, .int .i64 n, .string s, .int .i64 pe, .slice ao L.length cap]] w _
  go_enter Tryz.func156, Tryz.ntmps156
  go_wp2_with (go_at_call 160; obtain ⟨H1, hH1, hk1, hU1⟩ := HS.out.use2; refine (CM.out H1 _ hH1 (fun W hk => HA.out W (hk1 W hk))).mono ?_; rintro x w2 ⟨vo, vc, C, rfl, hC, hl⟩; have HC := Lib.hid hC; have HX := Lib.hid (hU1 _ _ _ hl); obtain ⟨⟨x0, x1, x2, x3, x4, x5, x6, x7⟩, f0, f1, f2, f3, f4, f5, f6, f7⟩ := eight_cells HX.out.ans; obtain ⟨m1, m2⟩ := HX.out.small; clear hl hH1 hU1 hk1 hC)
  exact ans_ret (x := anL c e M) (ao := vo) (cap := vc) rfl (eight_all HX.out.ans _ _ _ _ _ _ _ _) rfl rfl (chained_tells (x := anL c e M) (fun k hk => Nat.le_trans HS.out.kp.size (HC.out k hk)) (HX.out.fin (chained_thing (lb_thing b) _ _ _) (eight_stay _ _ _ _ _ _ _ _ _ _)))
end Go.Proofs.YthffjanidjjkdaaGreat
namespace Go.Proofs.YthffjanidjjkdaaGreat
set_option linter.unusedVariables false
open Go.RowKit
/-- the program's fetch: where it is goes by 0 layout, 1 check, 2 last, 3 first, 4 junk, 5 mend, 6 over -/
structure Qf where
  ep : Int
  L : List (List Int)
  addr : Int
  fill : Bool
  at_ : Int
  was : Int
  unit : Int
  kind : Int
  txt : ByteArray
  err : Int
def Qf.len (q : Qf) : Nat := (chainR q.ep q.L q.addr).length
def Qf.ends (q : Qf) (k : Int) (s : ByteArray) (e : Int) : Qf := ⟨q.ep, q.L, q.addr, q.fill, 6, q.was, q.unit, k, s, e⟩
def Qf.to (q : Qf) (m : Int) : Qf := ⟨q.ep, q.L, q.addr, q.fill, m, q.was, q.unit, q.kind, q.txt, q.err⟩
def Qf.check (q : Qf) : Qf := ⟨q.ep, q.L, q.addr, q.fill, 1, q.at_, q.unit, q.kind, q.txt, q.err⟩
def Qf.lay (q : Qf) : Qf := ⟨q.ep, q.L, q.addr, q.fill, 0, q.was, q.unit, 0, noS, q.err⟩
def Qf.proj (q : Qf) (e : Int) (L : List (List Int)) : Qf := ⟨e, L, q.addr, q.fill, 2, q.was, (chainR e L q.addr).length - 1, 0, noS, q.err⟩
def Qf.got (q : Qf) (k : Int) (s : ByteArray) : Qf := ⟨q.ep, q.L, q.addr, q.fill, q.at_, q.was, q.unit, k, s, q.err⟩
def Qf.more (q : Qf) : Qf := ⟨q.ep, q.L, q.addr, q.fill, 5, q.was, q.unit + 1, q.kind, q.txt, q.err⟩
def Qf.mend (q : Qf) : Qf := if q.unit + 1 = (q.len : Int) then q.more.ends q.kind q.txt 0 else q.more
def Qf.first (q : Qf) : Qf := ⟨q.ep, q.L, q.addr, q.fill, 3, q.was, 0, q.kind, q.txt, q.err⟩
def Qf.unwr (q : Qf) : Qf := if q.fill = true then q.to 4 else q.ends 0 noS 0
def Qf.step (q : Qf) (x : An) : Qf :=
  if x.code = 43 then q.ends 3 noS 0
  else if q.at_ = 2 ∨ q.at_ = 3 then (if x.code = 0 then (q.got 1 x.data).mend else if x.code = 46 then (q.got 2 noS).mend else if x.code = 42 then (if 0 < q.unit then q.first else q.unwr) else q.ends 0 noS x.code)
  else if q.at_ = 4 then (if x.code = 0 then (q.got 2 noS).mend else if x.code = 41 then q.first else q.ends 0 noS x.code)
  else (if x.code = 0 ∨ x.code = 41 then q.mend else q.ends 0 noS x.code)
def Qf.learn (q : Qf) (x : An) : Qf := if x.code = 0 ∧ goodB x.pe x.L = true ∧ (q.at_ = 0 ∨ x.pe ≠ q.ep) then q.proj x.pe x.L else if q.at_ = 1 then q.to q.was else q
def Qf.hear (q : Qf) (x : An) (b : Bool) : Qf :=
  if b = false ∨ q.at_ = 6 then q
  else if x.code = 45 then (if q.at_ = 0 ∨ q.at_ = 1 then q else q.check)
  else if x.code = 40 then q.lay
  else if q.at_ = 0 ∨ q.at_ = 1 then q.learn x
  else q.step x
def newQf (ep : Int) (L : List (List Int)) (addr : Int) (fill : Bool) : Qf := if ofB ep L addr = true then ⟨ep, L, addr, fill, 2, 0, (chainR ep L addr).length - 1, 0, noS, 0⟩ else ⟨ep, L, addr, fill, 6, 0, 0, 0, noS, 1⟩
def codeF (x : Int) : Int := if x = 1 then 0 else if x = 6 then 1 else if x = 7 then 6 else x
/-- which unit is asked, what is put there -/
structure HeldF (q : Qf) (f : Fe) (m : Int) : Prop where
  last : m = 2 → q.unit = (f.chain.length : Int) - 1
  first : m = 3 ∨ m = 4 → q.unit = 0
  mend : m = 5 → q.unit = (f.i : Int) ∧ f.i < f.chain.length ∧ q.kind = f.kind ∧ q.txt = f.s ∧ f.s.size ≤ 1000000
/-- the program's fetch is the one of the document's words -/
structure SimF (q : Qf) (f : Fe) : Prop where
  ep : q.ep = f.ep
  chains : q.L = f.L
  addr : q.addr = f.addr
  fill : q.fill = f.fill
  few : fewL f.L
  wide : i64w f.ep
  range : 1 ≤ f.at_ ∧ f.at_ ≤ 7
  place : q.at_ = codeF f.at_
  here : f.at_ ≠ 7 → ofB f.ep f.L f.addr = true
  held : 2 ≤ f.at_ ∧ f.at_ ≤ 5 → HeldF q f f.at_
  back : f.at_ = 6 → q.was = f.was ∧ 2 ≤ f.was ∧ f.was ≤ 5 ∧ HeldF q f f.was
  over : f.at_ = 7 → q.kind = f.kind ∧ q.txt = f.s ∧ q.err = f.e ∧ f.s.size ≤ 1000000
theorem chainF_some {ep : Int} {L : List (List Int)} {x : Int} (h : ofB ep L x = true) : 1 ≤ (chainR ep L x).length ∧ (chainR ep L x).length ≤ 4 := by
  obtain ⟨hg, hx⟩ := ofB_iff.1 h
  obtain ⟨n1, n4⟩ := good_len hg
  have h0 : 0 ≤ x % (L.length : Int) := Int.emod_nonneg _ (by omega)
  have h1 : x % (L.length : Int) < L.length := Int.emod_lt_of_pos _ (by omega)
  obtain ⟨k, hk⟩ := Int.eq_ofNat_of_zero_le h0
  have hkl : k < L.length := by omega
  rw [chainR_yes h hkl hk]
  have hc := (goodB_iff.1 hg).2.2.1 _ (List.getElem_mem hkl)
  simp only [chainB, Bool.and_eq_true, decide_eq_true_eq] at hc
  omega
theorem noS_short : noS.size ≤ 1000000 := by decide
section
variable {q : Qf} {f : Fe}
theorem SimF.len (h : SimF q f) : q.len = f.chain.length := by unfold Qf.len Fe.chain; rw [h.ep, h.chains, h.addr]
theorem SimF.some (h : SimF q f) (hn : f.at_ ≠ 7) : 1 ≤ f.chain.length ∧ f.chain.length ≤ 4 := chainF_some (h.here hn)
theorem SimF.at_iff (h : SimF q f) : (q.at_ = 6 ↔ f.at_ = 7) ∧ (q.at_ = 0 ↔ f.at_ = 1) ∧ (q.at_ = 1 ↔ f.at_ = 6) ∧ (q.at_ = 2 ↔ f.at_ = 2) ∧ (q.at_ = 3 ↔ f.at_ = 3) ∧ (q.at_ = 4 ↔ f.at_ = 4) ∧ (q.at_ = 5 ↔ f.at_ = 5) := by
  obtain ⟨h1, h2⟩ := h.range
  have e := h.place
  unfold codeF at e
  repeat' split at e
  all_goals omega
theorem simf_new (ep : Int) (L : List (List Int)) (addr : Int) (fill : Bool) (h : fewL L) (he : i64w ep) : SimF (newQf ep L addr fill) (newFe ep L addr fill) := by
  unfold newQf newFe
  cases ho : ofB ep L addr with
  | true =>
    rw [if_pos rfl, if_pos rfl]
    exact ⟨rfl, rfl, rfl, rfl, h, he, ⟨of_decide_eq_true rfl, of_decide_eq_true rfl⟩, rfl, fun _ => ho, fun _ => ⟨fun _ => rfl, fun e => absurd e (of_decide_eq_true rfl), fun e => absurd e (of_decide_eq_true rfl)⟩, fun e => absurd e (of_decide_eq_true rfl), fun e => absurd e (of_decide_eq_true rfl)⟩
  | false =>
    rw [if_neg Bool.noConfusion, if_neg Bool.noConfusion]
    exact ⟨rfl, rfl, rfl, rfl, h, he, ⟨of_decide_eq_true rfl, of_decide_eq_true rfl⟩, rfl, fun e => absurd rfl e, fun e => absurd e.2 (of_decide_eq_true rfl), fun e => absurd e (of_decide_eq_true rfl), fun _ => ⟨rfl, rfl, rfl, noS_short⟩⟩
theorem simf_ends (h : SimF q f) (k : Int) {s : ByteArray} (hs : s.size ≤ 1000000) (e : Int) : SimF (q.ends k s e) (f.ends k s e) :=
  ⟨h.ep, h.chains, h.addr, h.fill, h.few, h.wide, ⟨of_decide_eq_true rfl, of_decide_eq_true rfl⟩, rfl, fun e => absurd rfl e, fun e => absurd e.2 (of_decide_eq_true rfl), fun e => absurd e (of_decide_eq_true rfl), fun _ => ⟨rfl, rfl, rfl, hs⟩⟩
theorem simf_lay (h : SimF q f) (hn : f.at_ ≠ 7) : SimF q.lay (f.to 1) :=
  ⟨h.ep, h.chains, h.addr, h.fill, h.few, h.wide, ⟨of_decide_eq_true rfl, of_decide_eq_true rfl⟩, rfl, fun _ => h.here hn, fun e => absurd e.1 (of_decide_eq_true rfl), fun e => absurd e (of_decide_eq_true rfl), fun e => absurd e (of_decide_eq_true rfl)⟩
theorem simf_check (h : SimF q f) (hn : 2 ≤ f.at_ ∧ f.at_ ≤ 5) : SimF q.check { f with at_ := 6, was := f.at_ } :=
  ⟨h.ep, h.chains, h.addr, h.fill, h.few, h.wide, ⟨of_decide_eq_true rfl, of_decide_eq_true rfl⟩, rfl, fun _ => h.here (by omega), fun e => absurd e.2 (of_decide_eq_true rfl), fun _ => ⟨(by obtain ⟨_, _, _, a2, a3, a4, a5⟩ := h.at_iff; show q.at_ = f.at_; omega), hn.1, hn.2, have g := h.held hn; ⟨g.1, g.2, g.3⟩⟩, fun e => absurd e (of_decide_eq_true rfl)⟩
theorem simf_back (h : SimF q f) (hn : f.at_ = 6) : SimF (q.to q.was) (f.to f.was) := by
  obtain ⟨b1, b2, b3, b4⟩ := h.back hn
  refine ⟨h.ep, h.chains, h.addr, h.fill, h.few, h.wide, ⟨by show 1 ≤ f.was; omega, by show f.was ≤ 7; omega⟩, ?_, fun _ => h.here (by omega), fun _ => ⟨b4.1, b4.2, b4.3⟩, fun e => ?_, fun e => ?_⟩
  · show q.was = codeF f.was
    unfold codeF
    rw [b1, if_neg (by omega), if_neg (by omega), if_neg (by omega)]
  · have e : f.was = 6 := e
    omega
  · have e : f.was = 7 := e
    omega
theorem simf_proj (h : SimF q f) (hn : f.at_ ≠ 7) {x : An} (hg : goodB x.pe x.L = true) (hL : fewL x.L) (he : i64w x.pe) : SimF (q.proj x.pe x.L) (f.learns x) :=
  ⟨rfl, rfl, h.addr, h.fill, hL, he, ⟨of_decide_eq_true rfl, of_decide_eq_true rfl⟩, rfl, fun _ => ofB_iff.2 ⟨hg, (ofB_iff.1 (h.here hn)).2⟩, fun _ => ⟨fun _ => by show ((chainR x.pe x.L q.addr).length : Int) - 1 = ((chainR x.pe x.L f.addr).length : Int) - 1; rw [h.addr], fun e => absurd e (of_decide_eq_true rfl), fun e => absurd e (of_decide_eq_true rfl)⟩, fun e => absurd e (of_decide_eq_true rfl), fun e => absurd e (of_decide_eq_true rfl)⟩
theorem simf_first (h : SimF q f) (hn : f.at_ ≠ 7) : SimF q.first (f.to 3) :=
  ⟨h.ep, h.chains, h.addr, h.fill, h.few, h.wide, ⟨of_decide_eq_true rfl, of_decide_eq_true rfl⟩, rfl, fun _ => h.here hn, fun _ => ⟨fun e => absurd e (of_decide_eq_true rfl), fun _ => rfl, fun e => absurd e (of_decide_eq_true rfl)⟩, fun e => absurd e (of_decide_eq_true rfl), fun e => absurd e (of_decide_eq_true rfl)⟩
theorem simf_unwr (h : SimF q f) (hn : f.at_ ≠ 7) (hu : q.unit = 0) : SimF q.unwr (if f.fill = true then f.to 4 else f.ends 0 noS 0) := by
  unfold Qf.unwr
  rw [h.fill]
  cases hf : f.fill with
  | true =>
    rw [if_pos rfl, if_pos rfl]
    exact ⟨h.ep, h.chains, h.addr, h.fill, h.few, h.wide, ⟨of_decide_eq_true rfl, of_decide_eq_true rfl⟩, rfl, fun _ => h.here hn, fun _ => ⟨fun e => absurd e (of_decide_eq_true rfl), fun _ => hu, fun e => absurd e (of_decide_eq_true rfl)⟩, fun e => absurd e (of_decide_eq_true rfl), fun e => absurd e (of_decide_eq_true rfl)⟩
  | false =>
    rw [if_neg Bool.noConfusion, if_neg Bool.noConfusion]
    exact simf_ends h 0 noS_short 0
/-- the next unit is mended, or it is over -/
theorem simf_mend (h : SimF q f) (hn : f.at_ ≠ 7) (k : Int) {s : ByteArray} (hs : s.size ≤ 1000000) {i : Nat} (hu : q.unit + 1 = (i : Int)) (hi : i ≤ f.chain.length) : SimF (q.got k s).mend ((f.found k s).mend i) := by
  unfold Qf.mend Fe.mend
  show SimF (if q.unit + 1 = (q.len : Int) then _ else _) (if i = f.chain.length then _ else _)
  rw [h.len, hu]
  by_cases hl : i = f.chain.length
  · rw [if_pos hl, if_pos (by omega)]
    exact ⟨h.ep, h.chains, h.addr, h.fill, h.few, h.wide, ⟨of_decide_eq_true rfl, of_decide_eq_true rfl⟩, rfl, fun e => absurd rfl e, fun e => absurd e.2 (of_decide_eq_true rfl), fun e => absurd e (of_decide_eq_true rfl), fun _ => ⟨rfl, rfl, rfl, hs⟩⟩
  · rw [if_neg hl, if_neg (by omega)]
    exact ⟨h.ep, h.chains, h.addr, h.fill, h.few, h.wide, ⟨of_decide_eq_true rfl, of_decide_eq_true rfl⟩, rfl, fun _ => h.here hn, fun _ => ⟨fun e => absurd e (of_decide_eq_true rfl), fun e => absurd e (of_decide_eq_true rfl), fun _ => ⟨hu, by show i < f.chain.length; omega, rfl, rfl, hs⟩⟩, fun e => absurd e (of_decide_eq_true rfl), fun e => absurd e (of_decide_eq_true rfl)⟩
theorem simf_next (h : SimF q f) (hn : f.at_ = 5) : SimF q.mend (f.mend (f.i + 1)) := by
  obtain ⟨u1, u2, u3, u4, u5⟩ := (h.held (by omega)).mend hn
  have g := simf_mend h (by omega) f.kind (s := f.s) u5 (i := f.i + 1) (by omega) (by omega)
  have e : q.got f.kind f.s = q := by
    cases q
    simp only at u3 u4
    rw [u3, u4]; rfl
  rwa [e] at g
/-- a last unit's answer ends it -/
theorem simf_last (h : SimF q f) (hn : f.at_ = 2) (k : Int) {s : ByteArray} (hs : s.size ≤ 1000000) : SimF (q.got k s).mend (f.ends k s 0) := by
  have hl := h.some (by omega)
  have hu := (h.held (by omega)).last hn
  unfold Qf.mend
  rw [if_pos (show (q.got k s).unit + 1 = ((q.got k s).len : Int) from by show q.unit + 1 = (q.len : Int); rw [h.len, hu]; omega)]
  exact ⟨h.ep, h.chains, h.addr, h.fill, h.few, h.wide, ⟨of_decide_eq_true rfl, of_decide_eq_true rfl⟩, rfl, fun e => absurd rfl e, fun e => absurd e.2 (of_decide_eq_true rfl), fun e => absurd e (of_decide_eq_true rfl), fun _ => ⟨rfl, rfl, rfl, hs⟩⟩
theorem simf_hear (h : SimF q f) (x : An) (c : Bool) (hL : fewL x.L) (he : i64w x.pe) (hd : x.data.size ≤ 1000000) : SimF (q.hear x c) (f.hear x c) := by
  obtain ⟨i7, i1, i6, i2, i3, i4, i5⟩ := h.at_iff
  have hr := h.range
  unfold Qf.hear Fe.hear
  by_cases h7 : f.at_ = 7 ∨ c = false
  · rw [if_pos h7, if_pos (h7.elim (fun e => .inr (i7.2 e)) .inl)]
    exact h
  · have n7 : f.at_ ≠ 7 := fun e => h7 (.inl e)
    rw [if_neg h7, if_neg (fun e => h7 (e.elim .inr (fun e => .inl (i7.1 e))))]
    by_cases h45 : x.code = 45
    · rw [if_pos h45, if_pos h45]
      by_cases ha : f.at_ ≠ 1 ∧ f.at_ ≠ 6
      · rw [if_pos ha, if_neg (by omega)]
        exact simf_check h (by omega)
      · rw [if_neg ha, if_pos (by omega)]
        exact h
    · rw [if_neg h45, if_neg h45]
      by_cases h40 : x.code = 40
      · rw [if_pos h40, if_pos h40]
        exact simf_lay h n7
      · rw [if_neg h40, if_neg h40]
        by_cases a1 : f.at_ = 1
        · rw [if_pos a1, if_pos (.inl (i1.2 a1))]
          unfold Qf.learn
          by_cases hg : x.code = 0 ∧ goodB x.pe x.L = true
          · rw [if_pos hg, if_pos ⟨hg.1, hg.2, .inl (i1.2 a1)⟩]
            exact simf_proj h n7 hg.2 hL he
          · rw [if_neg hg, if_neg (fun e => hg ⟨e.1, e.2.1⟩), if_neg (by omega)]
            exact h
        · rw [if_neg a1]
          by_cases a6 : f.at_ = 6
          · rw [if_pos a6, if_pos (.inr (i6.2 a6))]
            unfold Qf.learn
            by_cases hg : x.code = 0 ∧ goodB x.pe x.L = true ∧ x.pe ≠ f.ep
            · rw [if_pos hg, if_pos ⟨hg.1, hg.2.1, .inr (by rw [h.ep]; exact hg.2.2)⟩]
              exact simf_proj h n7 hg.2.1 hL he
            · rw [if_neg hg, if_neg (fun e => hg ⟨e.1, e.2.1, e.2.2.elim (fun e => by omega) (fun e => by rw [← h.ep]; exact e)⟩), if_pos (i6.2 a6)]
              exact simf_back h a6
          · rw [if_neg a6, if_neg (by omega)]
            unfold Qf.step
            have hl := h.some n7
            have hh := h.held (by omega)
            by_cases c43 : x.code = 43
            · rw [if_pos c43]
              have e := simf_ends h 3 noS_short 0
              unfold Fe.first
              repeat' split
              all_goals first
                | exact e
                | omega
            · rw [if_neg c43]
              by_cases a2 : f.at_ = 2
              · rw [if_pos a2, if_pos (.inl (i2.2 a2))]
                have hu := hh.last a2
                by_cases c0 : x.code = 0
                · rw [if_pos c0, if_pos c0]
                  exact simf_last h a2 1 hd
                · rw [if_neg c0, if_neg c0]
                  by_cases c46 : x.code = 46
                  · rw [if_pos c46, if_pos c46]
                    exact simf_last h a2 2 noS_short
                  · rw [if_neg c46, if_neg c46, if_neg c43]
                    by_cases c42 : x.code = 42
                    · rw [if_pos c42, if_pos c42]
                      by_cases l1 : f.chain.length = 1
                      · rw [if_pos l1, if_neg (by omega)]
                        unfold Fe.first
                        rw [if_neg c0, if_neg c46, if_neg c43, if_pos c42]
                        exact simf_unwr h n7 (by omega)
                      · rw [if_neg l1, if_pos (by omega)]
                        exact simf_first h n7
                    · rw [if_neg c42, if_neg c42]
                      exact simf_ends h 0 noS_short _
              · rw [if_neg a2]
                by_cases a3 : f.at_ = 3
                · rw [if_pos a3, if_pos (.inr (i3.2 a3))]
                  have hu := hh.first (.inl a3)
                  unfold Fe.first
                  by_cases c0 : x.code = 0
                  · rw [if_pos c0, if_pos c0]
                    exact simf_mend h n7 1 hd (by omega) (by omega)
                  · rw [if_neg c0, if_neg c0]
                    by_cases c46 : x.code = 46
                    · rw [if_pos c46, if_pos c46]
                      exact simf_mend h n7 2 noS_short (by omega) (by omega)
                    · rw [if_neg c46, if_neg c46, if_neg c43]
                      by_cases c42 : x.code = 42
                      · rw [if_pos c42, if_pos c42, if_neg (by omega)]
                        exact simf_unwr h n7 hu
                      · rw [if_neg c42, if_neg c42]
                        exact simf_ends h 0 noS_short _
                · rw [if_neg a3, if_neg (by omega)]
                  by_cases a4 : f.at_ = 4
                  · rw [if_pos a4, if_pos (i4.2 a4)]
                    have hu := hh.first (.inr a4)
                    by_cases c0 : x.code = 0
                    · rw [if_pos c0, if_pos c0]
                      exact simf_mend h n7 2 noS_short (by omega) (by omega)
                    · rw [if_neg c0, if_neg c0]
                      by_cases c41 : x.code = 41
                      · rw [if_pos c41, if_pos c41]
                        exact simf_first h n7
                      · rw [if_neg c41, if_neg c41, if_neg c43]
                        exact simf_ends h 0 noS_short _
                  · rw [if_neg a4, if_neg (by omega)]
                    by_cases c0 : x.code = 0 ∨ x.code = 41
                    · rw [if_pos c0, if_pos c0]
                      exact simf_next h (by omega)
                    · rw [if_neg c0, if_neg c0, if_neg c43]
                      exact simf_ends h 0 noS_short _
end
end Go.Proofs.YthffjanidjjkdaaGreat
namespace Go.Proofs.YthffjanidjjkdaaGreat
set_option linter.unusedVariables false
open Go.RowKit
set_option maxRecDepth 20000
def ptrN (b : Nat) : Value := .pointer (some ⟨b, 0, none⟩)
/-- NG b G w n: in world w block b is the program's nodes n; all that they own lies in G. The program's functions return what is said here; units, sequencer and layout are told themselves: what a call leaves of one it leaves of all -/
structure RpcSays (UG : Nat → Nat → (Nat → Prop) → World → Us → Prop) (OG : Nat → (Nat → Prop) → World → Od → Prop) (LG : Nat → (Nat → Prop) → World → Ly → Prop) (NG : Nat → (Nat → Prop) → World → Nd → Prop) : Prop where
  units : UnitSays UG
  order_ : OrderSays OG
  layout_ : LaySays LG
  thing : ∀ b, Thing (NG b)
  ok : ∀ {b : Nat} {G : Nat → Prop} {w : World} {n : Nd}, NG b G w n → (∀ i, i < 16 → (n.u i).p.Ok ∧ i64w (n.u i).epoch) ∧ n.o.Ok ∧ goodB n.l.ep n.l.L = true
  new_bad : ∀ (ep : Int) (ao : Option Addr) (cap : Nat) (L : List (List Int)) (room : Int) (w : World), CL w ao L → fewL L → goodB ep L = false → i64w room → Calls Tryz.prog 31 #[.agg #[.int .i64 ep, .slice ao L.length cap], .int .i64 room] w fun e w' => e = .returned (.tuple #[.pointer none, .int .i64 11]) ∧ Below w.heap.size w w'
  new_room : ∀ (ep : Int) (ao : Option Addr) (cap : Nat) (L : List (List Int)) (room : Int) (w : World), CL w ao L → fewL L → goodB ep L = true → room < 1 ∨ 4096 < room → i64w room → Calls Tryz.prog 31 #[.agg #[.int .i64 ep, .slice ao L.length cap], .int .i64 room] w fun e w' => e = .returned (.tuple #[.pointer none, .int .i64 1]) ∧ Below w.heap.size w w'
  new_yes : ∀ (ep : Int) (ao : Option Addr) (cap : Nat) (L : List (List Int)) (room : Int) (w : World), CL w ao L → fewL L → goodB ep L = true → 1 ≤ room ∧ room ≤ 4096 → Calls Tryz.prog 31 #[.agg #[.int .i64 ep, .slice ao L.length cap], .int .i64 room] w fun e w' => ∃ (b : Nat) (G : Nat → Prop), e = .returned (.tuple #[ptrN b, .int .i64 0]) ∧ NG b G w' (newN ep L room) ∧ (∀ k, G k → w.heap.size ≤ k) ∧ Below w.heap.size w w'
  ask : ∀ (b : Nat) (G : Nat → Prop) (w : World) (n : Nd) (a : Ak), NG b G w n → AkOk a → fewL a.L → a.data.size ≤ 1000000 → n.l.used.length ≤ 100000 → (∀ W, Kept (fun k => ¬ G k) w W → CL W a.ao a.L) → Calls Tryz.prog 38 #[ptrN b, askV a] w fun e w' => Tells (NG b) G w (n.done a) (n.ans a) e w'
  unit : ∀ (b : Nat) (G : Nat → Prop) (w : World) (n : Nd) (i : Nat), NG b G w n → i < 16 → Calls Tryz.prog 16 #[ptrN b, .int .i64 i] w fun e w' => ∃ (bu pb : Nat), e = .returned (ptrV bu) ∧ Below w.heap.size w w' ∧ ∃ F : Nat → Prop, UG bu pb F w' (n.u i) ∧ (∀ k, F k → G k) ∧ ∀ W u', Leaves (UG bu pb) F w' W u' → Leaves (NG b) G w' W (n.putU i u')
  unit_no : ∀ (b : Nat) (G : Nat → Prop) (w : World) (n : Nd) (i : Int), NG b G w n → i < 0 ∨ 15 < i → i64w i → Calls Tryz.prog 16 #[ptrN b, .int .i64 i] w fun e w' => e = .returned (.pointer none) ∧ Below w.heap.size w w'
  order : ∀ (b : Nat) (G : Nat → Prop) (w : World) (n : Nd), NG b G w n → Calls Tryz.prog 59 #[ptrN b] w fun e w' => ∃ bo : Nat, e = .returned (ptrO bo) ∧ Below w.heap.size w w' ∧ ∃ F : Nat → Prop, OG bo F w' n.o ∧ (∀ k, F k → G k) ∧ ∀ W o', Leaves (OG bo) F w' W o' → Leaves (NG b) G w' W (n.putO o')
  layout : ∀ (b : Nat) (G : Nat → Prop) (w : World) (n : Nd), NG b G w n → Calls Tryz.prog 60 #[ptrN b] w fun e w' => ∃ bl : Nat, e = .returned (ptrL bl) ∧ Below w.heap.size w w' ∧ ∃ F : Nat → Prop, LG bl F w' n.l ∧ (∀ k, F k → G k) ∧ ∀ W l', Leaves (LG bl) F w' W l' → Leaves (NG b) G w' W (n.putL l')
  nil_ask : ∀ (a : Ak) (w : World), AkIn w a → Calls Tryz.prog 38 #[.pointer none, askV a] w fun e w' => e = .returned (ansV (anP 1 0 noS 0) none 0) ∧ Below w.heap.size w w'
  nil_unit : ∀ (i : Int) (w : World), i64w i → Calls Tryz.prog 16 #[.pointer none, .int .i64 i] w fun e w' => e = .returned (.pointer none) ∧ Below w.heap.size w w'
  nil_order : ∀ (w : World), Calls Tryz.prog 59 #[.pointer none] w fun e w' => e = .returned (.pointer none) ∧ Below w.heap.size w w'
  nil_layout : ∀ (w : World), Calls Tryz.prog 60 #[.pointer none] w fun e w' => e = .returned (.pointer none) ∧ Below w.heap.size w w'
end Go.Proofs.YthffjanidjjkdaaGreat
namespace Go.Proofs.YthffjanidjjkdaaGreat
set_option linter.unusedVariables false
open Go.RowKit
set_option maxRecDepth 20000
theorem few_nil : fewL [] := ⟨Nat.zero_le _, fun c hc => (by cases hc)⟩
section
variable {LG : Nat → (Nat → Prop) → World → Ly → Prop} {X : Nat → Prop} {w : World} {b : Nat} {y : Ly}
end
end Go.Proofs.YthffjanidjjkdaaGreat
