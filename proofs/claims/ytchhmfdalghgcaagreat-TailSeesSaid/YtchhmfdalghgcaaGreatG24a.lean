/- Steps of a hand that were handed over; two questions that are alike but for where their chains lie; what a call leaves of a hand beside another. Conditions: as each statement says. What the program's layout's New makes; all that the laws of the layout ask of the program. Conditions: the projection lies where the call was told, and is not too large. The program's own hand in memory: its nodes, the row of the copies that it holds, some questions more whose chains it still has. Conditions: as each statement says. The program's nodes while they are made, unit by unit. Conditions: as each statement says. What the laws of a tail ask of the program's functions: each one's contract, as a statement (proved where the program is spoken of). No conditions but those that the statements name. -/
import Derived.Test.YtchhmfdalghgcaaGreatG23b
import Derived.Test.YtchhmfdalghgcaaGreatG18a
import Derived.Test.YtchhmfdalghgcaaGreatG10b
import Derived.Test.YtchhmfdalghgcaaGreatG21a
import Derived.Test.YtchhmfdalghgcaaGreatG07b
import Derived.ArgAppend
import Derived.Deep.RegionLawGrows
import Derived.Test.YtchhmfdalghgcaaGreatG11b
import Derived.Test.YtchhmfdalghgcaaGreatG09c
set_option linter.unusedVariables false
namespace Go.Proofs.YtchhmfdalghgcaaGreat
set_option linter.unusedVariables false
open Go.ChangeShapes Go.WideShapes Go.ChangeAt Go.RowKit
set_option maxRecDepth 20000
/-- a step: what to do, a number, a question -/
structure Hk where
  k : Int
  n : Int
  a : Ak
instance : Inhabited Hk := ⟨⟨0, 0, default⟩⟩
section
variable {H : Type} {enc : TypeId × Value → H} {P : Program} {w : World} {base : Nat} {spare : Nat → Bool} {held : Bool}
end
end Go.Proofs.YtchhmfdalghgcaaGreat
namespace Go.Proofs.YtchhmfdalghgcaaGreat
set_option linter.unusedVariables false
open Go.RowKit Go.Maps
set_option maxRecDepth 20000
theorem lp_new_no (ep : Int) (ao : Option Addr) (cap : Nat) (L : List (List Int)) (w : World) (h : CL w ao L) (hl : L.length ≤ 255 ∧ ∀ c ∈ L, c.length ≤ 255) (hg : goodB ep L = false) :
    Calls Tryz.prog 37 #[.agg #[.int .i64 ep, .slice ao L.length cap]] w fun e w' => e = .returned (.tuple #[.pointer none, .int .i64 11]) ∧ Below w.heap.size w w' := by
  have HB0 := Lib.hid (below_new w (.cells #[.int .i64 ep, .slice ao L.length cap] 29))
  have CGD := Lib.hid (pgood_any ep ao cap L _ (h.below HB0.out) hl)
  rw [hg] at CGD
  clear h hl hg
  go_enter Tryz.func37, Tryz.ntmps37
  go_wp2_with (go_at_call 32; refine CGD.out.mono ?_; rintro e w1 ⟨rfl, hb1⟩; have HB1 := Lib.hid (HB0.out.trans (hb1.mono HB0.out.size)); clear hb1)
  go_ret2
  exact ⟨rfl, HB1.out⟩
theorem lb_new (w : World) : LB (w.heap.size + 1) (fun k => w.heap.size ≤ k ∧ k < w.heap.size + 2) ((w.alloc (.map #[] 0)).alloc (.cells #[.int .i64 0, .slice none 0 0, .map (some w.heap.size), .int .i64 (-1), .int .i64 0, .int .i64 (-1)] 118)) ⟨0, [], [], -1, 0, -1⟩ := by
  have h1 := heap_alloc_new (w.alloc (.map #[] 0)) (.cells #[.int .i64 0, .slice none 0 0, .map (some w.heap.size), .int .i64 (-1), .int .i64 0, .int .i64 (-1)] 118)
  rw [show (w.alloc (.map #[] 0)).heap.size = w.heap.size + 1 from by simp] at h1
  exact ⟨.slice none 0 0, w.heap.size, fun _ => False, h1, CG.no _ _, (Usd.made w).below (below_new _ _), by omega, ⟨by omega, by omega⟩, ⟨by omega, by omega⟩, fun k hk => hk.elim, fun k hk => by simp; omega⟩
set_option maxHeartbeats 1000000 in
theorem lp_new_yes (ep : Int) (ao : Option Addr) (cap : Nat) (L : List (List Int)) (w : World) (h : CL w ao L) (hl : L.length ≤ 255 ∧ ∀ c ∈ L, c.length ≤ 255) (hg : goodB ep L = true) :
    Calls Tryz.prog 37 #[.agg #[.int .i64 ep, .slice ao L.length cap]] w fun e w' => ∃ (b : Nat) (G : Nat → Prop), e = .returned (.tuple #[ptrL b, .int .i64 0]) ∧ LM b G w' (newL ep L) ∧ (∀ k, G k → w.heap.size ≤ k) ∧ Below w.heap.size w w' := by
  have HB0 := Lib.hid (below_new w (.cells #[.int .i64 ep, .slice ao L.length cap] 29))
  have HP := Lib.hid (show PB (w.alloc (.cells #[.int .i64 ep, .slice ao L.length cap] 29)) w.heap.size ep ao L.length cap from heap_alloc_new _ _)
  have CGD := Lib.hid (pgood_any ep ao cap L _ (h.below HB0.out) hl)
  have HGD := Lib.hid hg
  have HC := Lib.hid h
  have HL := Lib.hid hl
  rw [hg] at CGD
  have hmm := @run_makeMap Tryz.prog
  clear h hl hg
  go_enter Tryz.func37, Tryz.ntmps37
  go_wp2_with (first
    | (go_at_call 32; refine CGD.out.mono ?_; rintro e w1 ⟨rfl, hb1⟩; have HB1 := Lib.hid (HB0.out.trans (hb1.mono HB0.out.size)); obtain ⟨p0, p1⟩ := (HP.out.below hb1).cells; have hpz := block_lt_of_cell p0; clear hb1)
    | (go_at_call 54; have HBN := Lib.hid (show Below w.heap.size w ((w1.alloc (.map #[] 0)).alloc (.cells #[.int .i64 0, .slice none 0 0, .map (some w1.heap.size), .int .i64 (-1), .int .i64 0, .int .i64 (-1)] 118)) from (HB1.out.alloc HB1.out.size _).alloc (by have := HB1.out.size; simp; omega) _); have CQ := lp_count (w1.heap.size + 1) _ _ _ (lb_new w1) ep ao cap L (fun W hk => HC.out.below (HBN.out.trans (hk.toBelow HBN.out.size (fun k h1 h2 => by have := HB1.out.size; omega)))) HL.out (Nat.zero_le _); unfold ptrL at CQ; refine CQ.mono ?_; rintro e w2 ⟨rfl, hl⟩; have HLV := Lib.hid hl; clear hl CQ))
  go_ret2
  obtain ⟨G', r1, r2, r3⟩ := HLV.out
  have hz := HB1.out.size
  have hy := HBN.out.size
  exact ⟨w1.heap.size + 1, G', rfl, ⟨HGD.out, r1⟩, fun k hk => (r3 k hk).elim (fun h => by omega) (fun h => by omega), HBN.out.trans (r2.toBelow hy (fun k h1 h2 => by omega))⟩
theorem lp_ask (b : Nat) (G : Nat → Prop) (w : World) (y : Ly) (a : Ak) (h : LM b G w y) (hL : a.L.length ≤ 255 ∧ ∀ c ∈ a.L, c.length ≤ 255) (hu : y.used.length ≤ 100000) (hA : ∀ W, Kept (fun k => ¬ G k) w W → CL W a.ao a.L) :
    Calls Tryz.prog 139 #[ptrL b, askV a] w fun e w' => Tells (LM b) G w (y.done a) (y.ans a) e w' := by
  obtain ⟨hg, h⟩ := h
  have hy := good_small hg
  suffices hs : Calls Tryz.prog 139 #[ptrL b, askV a] w fun e w' => Tells (LB b) G w (y.done a) (y.ans a) e w' from hs.mono (fun e w' ht => ht.to (fun H W hb => ⟨done_good hg a, hb⟩))
  by_cases h9 : a.kind = 9
  · have ha : y.ans a = ⟨0, y.n, noL, y.ep, y.L, y.mark, y.size, 0⟩ := if_pos h9
    have hd : y.done a = y := by
      unfold Ly.done
      rw [if_neg (by omega), if_neg (fun h => by have := h.1; omega)]
    rw [ha, hd]
    exact lp_do_tell b G w y a h hy h9
  by_cases h10 : a.kind = 10
  · cases hm : y.may a.pe a.L
    · have ha : y.ans a = anL 48 y.ep y.L := by
        unfold Ly.ans
        rw [if_neg h9, if_pos h10, if_neg (by rw [hm]; decide)]
      have hd : y.done a = y := by
        unfold Ly.done
        rw [if_pos h10, if_neg (by rw [hm]; decide)]
      rw [ha, hd]
      exact lp_do_change b G w y y a h hA h10 48 y.ep y.L (fun H W h1 h2 => lp_stay b H W y h1 hy a.pe a.ao a.cap a.L h2 hL hm)
    · have ha : y.ans a = anL 0 a.pe a.L := by
        unfold Ly.ans
        rw [if_neg h9, if_pos h10, if_pos hm]
      have hd : y.done a = ⟨a.pe, a.L, y.used ++ unitsR a.L, y.mark, y.size, y.n⟩ := by
        unfold Ly.done
        rw [if_pos h10, if_pos hm]
      rw [ha, hd]
      exact lp_do_change b G w y _ a h hA h10 0 a.pe a.L (fun H W h1 h2 => lp_turn b H W y h1 hy a.pe a.ao a.cap a.L h2 hL hu hm)
  by_cases h11 : a.kind = 11
  · by_cases hb : badM a
    · have ha : y.ans a = anP 1 0 noL 0 := by
        unfold Ly.ans
        rw [if_neg h9, if_neg h10, if_pos h11, if_pos hb]
      have hd : y.done a = y := by
        unfold Ly.done
        rw [if_neg h10, if_neg (fun h => h.2.1 hb)]
      rw [ha, hd]
      exact lp_do_mark b G w y y a h h11 1 0 0 0 (fun H W h1 => lp_mark_no b H W y h1 a.page a.size a.n (goodI_no hb))
    by_cases hn : y.n < a.n
    · have ha : y.ans a = anM a.n a.page a.size := by
        unfold Ly.ans
        rw [if_neg h9, if_neg h10, if_pos h11, if_neg hb, if_pos hn]
      have hd : y.done a = ⟨y.ep, y.L, y.used, a.page, a.size, a.n⟩ := by
        unfold Ly.done
        rw [if_neg h10, if_pos ⟨h11, hb, hn⟩]
      rw [ha, hd]
      exact lp_do_mark b G w y _ a h h11 0 a.n a.page a.size (fun H W h1 => lp_mark_new b H W y h1 a.page a.size a.n (goodI_yes hb) hn)
    · have ha : y.ans a = anM y.n y.mark y.size := by
        unfold Ly.ans
        rw [if_neg h9, if_neg h10, if_pos h11, if_neg hb, if_neg hn]
      have hd : y.done a = y := by
        unfold Ly.done
        rw [if_neg h10, if_neg (fun h => hn h.2.2)]
      rw [ha, hd]
      exact lp_do_mark b G w y y a h h11 0 y.n y.mark y.size (fun H W h1 => lp_mark_old b H W y h1 a.page a.size a.n (goodI_yes hb) hn)
  · have ha : y.ans a = anP 1 0 noL 0 := by
      unfold Ly.ans
      rw [if_neg h9, if_neg h10, if_neg h11]
    have hd : y.done a = y := by
      unfold Ly.done
      rw [if_neg h10, if_neg (fun h => h11 h.1)]
    rw [ha, hd]
    exact lp_do_other b G w y a h h9 h10 h11
theorem laySays : LaySays LM where
  thing := lm_thing
  good := fun h => h.1
  new_no := fun ep ao cap L w h hl hg => lp_new_no ep ao cap L w h hl hg
  new_yes := fun ep ao cap L w h hl hg => lp_new_yes ep ao cap L w h hl hg
  ask := fun b G w y a h _ hL hu hA => lp_ask b G w y a h hL hu hA
  now := fun b G w y h => lp_now b G w y h.2 (good_small h.1)
  nil_ask := fun w a _ => lp_nil_ask w a
  nil_now := lp_nil_now
end Go.Proofs.YtchhmfdalghgcaaGreat
namespace Go.Proofs.YtchhmfdalghgcaaGreat
set_option linter.unusedVariables false
open Go.RowKit
set_option maxRecDepth 20000
/-- a question that may be held -/
structure HeldOk (a : Ak) : Prop where
  ok : AkOk a
  few : fewL a.L
  data : a.data.size ≤ 1000000
/-- the question's chains lie there as long as the blocks of C stay -/
def CK (C : Nat → Prop) (w : World) (a : Ak) : Prop := ∀ W, Kept C w W → CL W a.ao a.L
theorem CK.keep {C S : Nat → Prop} {w w' : World} {a : Ak} (h : CK C w a) (hk : Kept S w w') (hS : ∀ k, C k → S k) : CK C w' a := fun W hW => h W ((hk.mono hS).trans hW)
theorem CK.more {C D : Nat → Prop} {w : World} {a : Ak} (h : CK C w a) (hC : ∀ k, C k → D k) : CK D w a := fun W hW => h W (hW.mono hC)
theorem CK.here {C : Nat → Prop} {w : World} {a : Ak} (h : CK C w a) : CL w a.ao a.L := h w (Kept.refl _ _)
/-- v is the row of what is held: all of it in a block of its own, or the head of one, without spare room -/
def HR (w : World) (v : Value) (l : List Ak) : Prop :=
  OR 37 9 askC w 0 v l ∨ ∃ g cur, v = .slice (some ⟨g, 0, none⟩) l.length l.length ∧ w.heap[g]? = some (.cells cur 37 (0, 0)) ∧ l.length * 9 ≤ cur.size ∧ cur.toList.take (l.length * 9) = l.flatMap askC
section
variable {w w' : World} {v : Value} {l : List Ak}
theorem HR.keep {S : Nat → Prop} (h : HR w v l) (hk : Kept S w w') (hS : ∀ k, v.ownBlock = some k → S k) : HR w' v l := by
  rcases h with h | ⟨g, cur, rfl, h1, h2, h3⟩
  · exact .inl (h.keep hk hS)
  · exact .inr ⟨g, cur, rfl, hk.heap (hS g rfl) h1, h2, h3⟩
theorem head_row {g : Nat} {cur : Array Value} {t : TypeId} (h : w.heap[g]? = some (.cells cur t (0, 0))) (h3 : cur.toList.take (l.length * 9) = l.flatMap askC) : Row w (some ⟨g, 0, none⟩) 9 askC l := by
  refine fun i hi => ⟨g, 0, rfl, fun j x hv => ?_⟩
  have hj : j < 9 := by
    obtain ⟨h1, _⟩ := List.getElem?_eq_some_iff.1 hv
    exact h1
  have h1 := ask_rows.flat_at l i hi j hj
  rw [← h3, hv, List.getElem?_take, if_pos (by omega)] at h1
  rw [Nat.zero_add, ← (by simpa using h1 : cur[i * 9 + j]? = some x)]
  simp [World.cell?, h]
/-- the row, cell by cell, in a block that is no memory that was handed out -/
theorem HR.form (h : HR w v l) : ∃ (ao : Option Addr) (cap : Nat), v = .slice ao l.length cap ∧ Row w ao 9 askC l ∧ l.length ≤ cap ∧ (ao = none → cap = 0) ∧ v.ownBlock = ao.map (·.block) ∧
    ∀ a, ao = some a → a = ⟨a.block, 0, none⟩ ∧ ∃ cur, w.heap[a.block]? = some (.cells cur 37 (0, 0)) ∧ l.length * 9 ≤ cur.size ∧ cur.toList.take (l.length * 9) = l.flatMap askC := by
  rcases h with h | ⟨g, cur, rfl, h1, h2, h3⟩
  · rcases h.2 with ⟨rfl, h0⟩ | ⟨g, cap, cur, rfl, _, hh, hnc, _, hcs, ht⟩
    · have : l = [] := List.eq_nil_of_length_eq_zero h0
      subst this
      exact ⟨none, 0, rfl, Row.nil w none 9 askC, Nat.le_refl _, fun _ => rfl, rfl, fun a e => by cases e⟩
    · exact ⟨some ⟨g, 0, none⟩, cap, rfl, head_row hh ht, hnc, (fun e => by cases e), rfl, fun a e => by cases e; exact ⟨rfl, cur, hh, by rw [hcs]; exact Nat.mul_le_mul_right 9 hnc, ht⟩⟩
  · exact ⟨some ⟨g, 0, none⟩, l.length, rfl, head_row h1 h3, Nat.le_refl _, (fun e => by cases e), rfl, fun a e => by cases e; exact ⟨rfl, cur, h1, h2, h3⟩⟩
theorem HR.lt (h : HR w v l) : ∀ k, v.ownBlock = some k → k < w.heap.size := by
  intro k e
  obtain ⟨ao, cap, rfl, _, _, _, h4, h5⟩ := h.form
  cases ao with
  | none => rw [h4] at e; cases e
  | some a =>
    rw [h4] at e
    cases e
    obtain ⟨_, cur, h6, _⟩ := h5 a rfl
    exact lt_of_block h6
/-- one and more are appended to what is held -/
theorem run_app_held (h : HR w v l) (ty : TypeId) {ad : Addr} {cap : Nat} {N : List Ak} (hN : Row w (some ad) 9 askC N) (hp : 0 < N.length) (hc : N.length ≤ cap) (hz : l.length + N.length ≤ 1000000) :
    ∃ v' w', (Builtin.append_ #[67, 67] ty #[v, .slice (some ad) N.length cap]).run Tryz.prog w = .ok v' w' ∧ OR 37 9 askC w' 0 v' (l ++ N) ∧ w.grownBy w' v.ownBlock ∧ ∀ k, v'.ownBlock = some k → v.ownBlock = some k ∨ w.heap.size ≤ k := by
  rcases h with h | ⟨g, cur, rfl, h1, h2, h3⟩
  · obtain ⟨v', w', hr, r1, r2, r3⟩ := run_app_rows ask_rows w ty h hN (fun e => by cases e) hc hz (Nat.zero_le _)
    refine ⟨v', w', hr, r1, r2, fun k e => ?_⟩
    rcases r3 with r3 | r3
    · exact .inl (by rw [← r3]; exact e)
    · rw [r3] at e; cases e; exact .inr (Nat.le_refl _)
  · obtain ⟨i0, z, bytes, hi, hz0, hz1, hz2, hz3, hz4⟩ := ask_rows.info
    have hbig : (l.length + N.length) * bytes ≤ 140737488355328 := Nat.le_trans (Nat.mul_le_mul hz hz4) (by decide)
    obtain ⟨v', w', hr, r1, r2⟩ := run_append_arg_grows (P := Tryz.prog) w 67 ty 37 i0 z 9 bytes ask_rows.under hi hz0 hz1 hz2 hz3 (by decide) ⟨g, 0, none⟩ l.length l.length (l.flatMap askC) (ask_rows.flat_len l) ((head_row h1 h3).news ask_rows) ad N.length cap (N.flatMap askC) (ask_rows.flat_len N) (hN.news ask_rows) (by omega) (by unfold maxLen; omega) hbig
    have r3 : OR 37 9 askC w' w.heap.size v' (l ++ N) := by
      unfold OR
      rw [List.length_append, List.flatMap_append]
      exact r1
    obtain ⟨r4, r5, r6, r7, r8⟩ := r2
    refine ⟨v', w', hr, r3.lower (Nat.zero_le _), ⟨r4, r5, r6, r7, fun k hk _ => r8 k hk (by simp)⟩, fun k e => .inr (r3.lt k e).1⟩
theorem step_app_held {ops : Array Oper} {o : Oper} {a : Act} {K' : Act → World → Prop} {Q : Exit → Act → World → Prop} {E : Prop} (hgd : o.guard = none) (s x : Operand)
    (ho : o.op = Op.call { callee := Callee.builtin Builtin.append, args := #[s, x], argTypes := #[67, 67] }) (hs : a.eval s = v) (h : HR w v l)
    {ad : Addr} {cap : Nat} {N : List Ak} {m : Nat} (hm : N.length = m) (hx : a.eval x = .slice (some ad) m cap) (hN : Row w (some ad) 9 askC N) (hp : 0 < m) (hc : m ≤ cap) (hz : l.length + m ≤ 1000000)
    (hQ : ∀ v' w', OR 37 9 askC w' 0 v' (l ++ N) → w.grownBy w' v.ownBlock → (∀ k, v'.ownBlock = some k → v.ownBlock = some k ∨ w.heap.size ≤ k) → K' (a.put o.dst v') w') :
    if Region.wanted o (yielded ops a.tmps) = true then Oper.wp Tryz.prog o a w K' Q else E := by
  have hw : Region.wanted o (yielded ops a.tmps) = true := by simp [Region.wanted, hgd]
  rw [if_pos hw]
  subst hm
  obtain ⟨v', w', hr, h2, h3, h4⟩ := run_app_held h o.type hN hp hc hz
  unfold Oper.wp
  simp [execOp, ho, resolve, invoke, builtin, hs, hx, hr, Result.andThen]
  exact hQ v' w' h2 h3 h4
end
section
variable {NG : Nat → (Nat → Prop) → World → Nd → Prop} {Z : List Ak} {b nb : Nat} {G : Nat → Prop} {w : World} {h : Hd}
/-- block b is the program's hand, block nb its nodes; F: the nodes' blocks, C: those of the chains that are held, or were, or are Z's -/
def HMz (NG : Nat → (Nat → Prop) → World → Nd → Prop) (Z : List Ak) (b nb : Nat) (G : Nat → Prop) (w : World) (h : Hd) : Prop :=
  h.held.length ≤ 64 ∧ ∃ (v : Value) (l : List Ak) (F C : Nat → Prop), w.heap[b]? = some (.cells #[.pointer (some ⟨nb, 0, none⟩), v] 71 (0, 0)) ∧ HR w v l ∧ l.map Ak.plain = h.held ∧ NG nb F w h.n ∧
    (∀ a, a ∈ l ∨ a ∈ Z → HeldOk a ∧ CK C w a) ∧ (G b ∧ ¬ F b ∧ ¬ C b) ∧ (∀ k, F k → G k ∧ ¬ C k) ∧ (∀ k, C k → G k) ∧ (∀ k, v.ownBlock = some k → G k ∧ ¬ F k ∧ ¬ C k ∧ k ≠ b) ∧ ∀ k, G k → k < w.heap.size
def HM (NG : Nat → (Nat → Prop) → World → Nd → Prop) : Nat → Nat → (Nat → Prop) → World → Hd → Prop := HMz NG []
theorem hmz_thing (hN : ∀ b, Thing (NG b)) (Z : List Ak) (b nb : Nat) : Thing (HMz NG Z b nb) where
  lt := by
    rintro G w h ⟨_, v, l, F, C, _, _, _, _, _, _, _, _, _, h1⟩
    exact h1
  keep := by
    rintro G S w w' h ⟨h0, v, l, F, C, h1, h2, h3, h4, h5, h6, h7, h8, h9, h10⟩ hk hS
    exact ⟨h0, v, l, F, C, hk.heap (hS b h6.1) h1, h2.keep hk (fun k e => hS k (h9 k e).1), h3, (hN nb).keep h4 hk (fun k hf => hS k (h7 k hf).1), fun a ha => ⟨(h5 a ha).1, (h5 a ha).2.keep hk (fun k hc => hS k (h8 k hc))⟩, h6, h7, h8, h9, fun k hg => Nat.lt_of_lt_of_le (h10 k hg) hk.size⟩
theorem HMz.less {Y : List Ak} (hh : HMz NG Z b nb G w h) (hY : ∀ a ∈ Y, a ∈ Z) : HMz NG Y b nb G w h := by
  obtain ⟨h0, v, l, F, C, h1, h2, h3, h4, h5, h6⟩ := hh
  exact ⟨h0, v, l, F, C, h1, h2, h3, h4, fun a ha => h5 a (ha.imp id (hY a)), h6⟩
theorem HMz.cells (hh : HMz NG Z b nb G w h) : ∃ (v : Value) (l : List Ak), w.heap[b]? = some (.cells #[.pointer (some ⟨nb, 0, none⟩), v] 71 (0, 0)) ∧ HR w v l ∧ l.map Ak.plain = h.held ∧ ∀ a ∈ l, HeldOk a ∧ CL w a.ao a.L := by
  obtain ⟨h0, v, l, F, C, h1, h2, h3, h4, h5, h6⟩ := hh
  exact ⟨v, l, h1, h2, h3, fun a ha => ⟨(h5 a (.inl ha)).1, (h5 a (.inl ha)).2.here⟩⟩
theorem HMz.small (hh : HMz NG Z b nb G w h) : b < w.heap.size := by
  obtain ⟨v, l, h1, _⟩ := hh.cells
  exact lt_of_block h1
/-- a call on the nodes: what it leaves of the hand; D: memory that it handed out -/
theorem HMz.turn (hN : ∀ b, Thing (NG b)) (hh : HMz NG Z b nb G w h) : ∃ F : Nat → Prop, NG nb F w h.n ∧ (∀ k, F k → G k) ∧ (∀ a ∈ Z, HeldOk a ∧ ∀ W, Kept (fun k => ¬ F k) w W → CL W a.ao a.L) ∧
    ∀ (D : Nat → Prop) (x : Value) (L : List (List Int)) W n', (∀ k, D k → w.heap.size ≤ k) → Leaves (Chained (NG nb) D x L) F w W n' → Leaves (Chained (HMz NG Z b nb) D x L) G w W ⟨n', h.held⟩ := by
  obtain ⟨h0, v, l, F, C, h1, h2, h3, h4, h5, h6, h7, h8, h9, h10⟩ := hh
  refine ⟨F, h4, fun k hk => (h7 k hk).1, fun a ha => ⟨(h5 a (.inr ha)).1, fun W hW => (h5 a (.inr ha)).2 W (hW.mono (fun k hc hf => (h7 k hf).2 hc))⟩, fun D x L W n' hD hl => ?_⟩
  obtain ⟨H, ⟨H1, k1, k2, k3, k4, k5⟩, r2, r3⟩ := hl
  have hn : ∀ k, H1 k → F k ∨ w.heap.size ≤ k := fun k hk => r3 k ((k5 k).2 (.inl hk))
  have hsz := r2.size
  have hout : ∀ k, G k → ¬ F k → ¬ H1 k := fun k hg hf hk => by
    rcases hn k hk with h | h
    · exact hf h
    · have := h10 k hg; omega
  refine ⟨fun k => ((G k ∧ ¬ F k) ∨ H1 k) ∨ D k, ⟨fun k => (G k ∧ ¬ F k) ∨ H1 k, ⟨h0, v, l, H1, C, r2.heap h6.2.1 h1, h2.keep r2 (fun k e => (h9 k e).2.1), h3, k1, fun a ha => ⟨(h5 a ha).1, (h5 a ha).2.keep r2 (fun k hc hf => (h7 k hf).2 hc)⟩, ⟨.inl ⟨h6.1, h6.2.1⟩, hout b h6.1 h6.2.1, h6.2.2⟩, fun k hk => ⟨.inr hk, fun hc => hout k (h8 k hc) (fun hf => (h7 k hf).2 hc) hk⟩, fun k hc => .inl ⟨h8 k hc, fun hf => (h7 k hf).2 hc⟩, fun k e => ⟨.inl ⟨(h9 k e).1, (h9 k e).2.1⟩, hout k (h9 k e).1 (h9 k e).2.1, (h9 k e).2.2.1, (h9 k e).2.2.2⟩, fun k hk => ?_⟩, k2, k3, fun k hk hg => ?_, fun k => Iff.rfl⟩, r2.mono (fun k hg hf => hg (h7 k hf).1), fun k hk => ?_⟩
  · rcases hk with hk | hk
    · exact Nat.lt_of_lt_of_le (h10 k hk.1) hsz
    · exact (hN nb).lt k1 k hk
  · rcases hg with hg | hg
    · have := h10 k hg.1; have := hD k hk; omega
    · exact k4 k hk hg
  · rcases hk with (hk | hk) | hk
    · exact .inl hk.1
    · exact (hn k hk).imp (fun h => (h7 k h).1) id
    · exact .inr (hD k hk)
/-- a call on the nodes that tells no chains -/
theorem HMz.within (hN : ∀ b, Thing (NG b)) (hh : HMz NG Z b nb G w h) : ∃ F : Nat → Prop, NG nb F w h.n ∧ (∀ k, F k → G k) ∧ ∀ W n', Leaves (NG nb) F w W n' → Leaves (HMz NG Z b nb) G w W ⟨n', h.held⟩ := by
  obtain ⟨F, h1, h2, _, h3⟩ := hh.turn hN
  refine ⟨F, h1, h2, fun W n' hl => ?_⟩
  obtain ⟨G', ⟨H, k1, _, _, _, k5⟩, r2, r3⟩ := h3 (fun _ => False) _ _ W n' (fun k hk => hk.elim) (chained_plain (x := zeroX) hl rfl)
  exact ⟨H, k1, r2, fun k hk => r3 k ((k5 k).2 (.inl hk))⟩
/-- the hand is opened: a row may be laid into it; what stands in that was held, or came with chains in memory made since; w2: the world ahead of the store -/
theorem HMz.opened (hN : ∀ b, Thing (NG b)) (hh : HMz NG Z b nb G w h) : ∃ (v : Value) (l : List Ak), w.heap[b]? = some (.cells #[.pointer (some ⟨nb, 0, none⟩), v] 71 (0, 0)) ∧ HR w v l ∧ l.map Ak.plain = h.held ∧ (∀ a, a ∈ l ∨ a ∈ Z → HeldOk a ∧ CL w a.ao a.L) ∧ (∀ k, v.ownBlock = some k → G k ∧ k ≠ b) ∧
    ∀ W, Below w.heap.size w W → ∀ (w2 : World) (v2 : Value) (l2 Z2 : List Ak) (D : Nat → Prop), Kept (fun k => v.ownBlock ≠ some k) W w2 → HR w2 v2 l2 → (∀ k, v2.ownBlock = some k → v.ownBlock = some k ∨ W.heap.size ≤ k) → (∀ k, D k → W.heap.size ≤ k ∧ k < w2.heap.size ∧ v2.ownBlock ≠ some k) → l2.length ≤ 64 →
      (∀ a, a ∈ l2 ∨ a ∈ Z2 → a ∈ l ∨ a ∈ Z ∨ (HeldOk a ∧ CK D w2 a)) → Leaves (HMz NG Z2 b nb) G W (w2.setCell ⟨b, 1, none⟩ v2) ⟨h.n, l2.map Ak.plain⟩ := by
  obtain ⟨h0, v, l, F, C, h1, h2, h3, h4, h5, h6, h7, h8, h9, h10⟩ := hh
  refine ⟨v, l, h1, h2, h3, fun a ha => ⟨(h5 a ha).1, (h5 a ha).2.here⟩, fun k e => ⟨(h9 k e).1, (h9 k e).2.2.2⟩, fun W hW w2 v2 l2 Z2 D hk hR hv hD hl hm => ?_⟩
  have hKW : Kept (fun _ => True) w W := Kept.ofBelow hW _
  replace h1 := below_heap hW h1
  replace h2 := h2.keep hKW (fun _ _ => trivial)
  replace h4 := (hN nb).keep h4 hKW (fun _ _ => trivial)
  replace h5 := fun a ha => (⟨(h5 a ha).1, (h5 a ha).2.keep hKW (fun _ _ => trivial)⟩ : HeldOk a ∧ CK C W a)
  replace h10 := fun k hg => Nat.lt_of_lt_of_le (h10 k hg) hW.size
  have hc := h1
  have hb := h10 b h6.1
  have hz := hk.size
  have hs : (w2.setCell ⟨b, 1, none⟩ v2).heap.size = w2.heap.size := by simp [World.setCell]
  have hk1 : Kept (fun k => k ≠ b) w2 (w2.setCell ⟨b, 1, none⟩ v2) := (Kept.refl _ w2).setCell (p := ⟨b, 1, none⟩) (fun h => h rfl) _
  have hkF : Kept (fun k => v.ownBlock ≠ some k ∧ k ≠ b) W (w2.setCell ⟨b, 1, none⟩ v2) := (hk.mono (fun k h => h.1)).trans (hk1.mono (fun k h => h.2))
  have hvb : v.ownBlock ≠ some b := fun e => (h9 b e).2.2.2 rfl
  have hob := hR.lt
  refine ⟨fun k => G k ∨ (W.heap.size ≤ k ∧ k < w2.heap.size), ⟨?_, v2, l2, F, fun k => C k ∨ D k, two_set1 (hk.heap hvb hc) v2, hR.keep hk1 (fun k e => ?_), rfl, (hN nb).keep h4 hkF (fun k hf => ⟨fun e => (h9 k e).2.1 hf, fun e => h6.2.1 (e ▸ hf)⟩), fun a ha => ?_, ⟨.inl h6.1, h6.2.1, fun hcd => ?_⟩, fun k hf => ⟨.inl (h7 k hf).1, fun hcd => ?_⟩, fun k hcd => ?_, fun k e => ?_, fun k hk => ?_⟩, ?_, fun k hk => ?_⟩
  · show (l2.map Ak.plain).length ≤ 64
    rw [List.length_map]; exact hl
  · rcases hv k e with h | h
    · exact (h9 k h).2.2.2
    · omega
  · rcases hm a ha with h | h | h
    · exact ⟨(h5 a (.inl h)).1, ((h5 a (.inl h)).2.keep hkF (fun k hc => ⟨fun e => (h9 k e).2.2.1 hc, fun e => h6.2.2 (e ▸ hc)⟩)).more (fun k hc => .inl hc)⟩
    · exact ⟨(h5 a (.inr h)).1, ((h5 a (.inr h)).2.keep hkF (fun k hc => ⟨fun e => (h9 k e).2.2.1 hc, fun e => h6.2.2 (e ▸ hc)⟩)).more (fun k hc => .inl hc)⟩
    · exact ⟨h.1, (h.2.keep hk1 (fun k hd e => by have := hD k hd; omega)).more (fun k hc => .inr hc)⟩
  · rcases hcd with h | h
    · exact h6.2.2 h
    · have := hD b h; omega
  · rcases hcd with h | h
    · exact (h7 k hf).2 h
    · have := hD k h; have := h10 k (h7 k hf).1; omega
  · rcases hcd with h | h
    · exact .inl (h8 k h)
    · exact .inr ⟨(hD k h).1, (hD k h).2.1⟩
  · have hlt := hob k e
    rcases hv k e with h | h
    · refine ⟨.inl (h9 k h).1, (h9 k h).2.1, fun hcd => ?_, (h9 k h).2.2.2⟩
      rcases hcd with h' | h'
      · exact (h9 k h).2.2.1 h'
      · exact (hD k h').2.2 e
    · refine ⟨.inr ⟨h, hlt⟩, fun hf => ?_, fun hcd => ?_, by omega⟩
      · have := h10 k (h7 k hf).1; omega
      · rcases hcd with h' | h'
        · have := h10 k (h8 k h'); omega
        · exact (hD k h').2.2 e
  · rw [hs]
    rcases hk with hk | hk
    · exact Nat.lt_of_lt_of_le (h10 k hk) hz
    · exact hk.2
  · exact hkF.mono (fun k hg => ⟨fun e => hg (h9 k e).1, fun e => hg (e ▸ h6.1)⟩)
  · exact hk.imp id (fun h => h.1)
end
end Go.Proofs.YtchhmfdalghgcaaGreat
namespace Go.Proofs.YtchhmfdalghgcaaGreat
set_option linter.unusedVariables false
open Go.RowKit
set_option maxRecDepth 20000
/-- the first i units are there -/
def MkP (UG : Nat → Nat → (Nat → Prop) → World → Us → Prop) (OG : Nat → (Nat → Prop) → World → Od → Prop) (LG : Nat → (Nat → Prop) → World → Ly → Prop) (w0 : World) (r : Nat) (N : Nd) (i : Nat) (W : World) : Prop :=
  ∃ (A : Array Value) (ro rl : Nat) (B : Nat → Nat × Nat) (G : Nat → Prop), TabP A i B ro rl ∧ BundG (i + 3) (nodeP UG OG LG r A ro rl B N) G W ∧ (∀ k, G k → w0.heap.size ≤ k) ∧ Below w0.heap.size w0 W
theorem mkp_start {UG : Nat → Nat → (Nat → Prop) → World → Us → Prop} {OG : Nat → (Nat → Prop) → World → Od → Prop} {LG : Nat → (Nat → Prop) → World → Ly → Prop} (HT : Three UG OG LG) {w0 w1 w2 : World} {rl ro : Nat} {G1 G2 : Nat → Prop} {N : Nd} {A : Array Value} {B : Nat → Nat × Nat} (h1 : LG rl G1 w1 N.l) (g1 : ∀ k, G1 k → w0.heap.size ≤ k) (b1 : Below w0.heap.size w0 w1) (h2 : OG ro G2 w2 N.o) (g2 : ∀ k, G2 k → w1.heap.size ≤ k) (b2 : Below w1.heap.size w1 w2) (hT : TabP A 0 B ro rl) :
    MkP UG OG LG w0 w2.heap.size N 0 (w2.alloc (.cells A 79)) := by
  have hp := fun i (_ : i < 0) => nodeP_part HT w2.heap.size A ro rl B N i
  have q0 : BundG 0 (nodeP UG OG LG w2.heap.size A ro rl B N) (fun _ => False) w0 := ⟨fun _ _ => False, fun i hi => absurd hi (Nat.not_lt_zero i), fun i j hi => absurd hi (Nat.not_lt_zero i), fun k => ⟨fun h => h.elim, fun ⟨i, hi, _⟩ => absurd hi (Nat.not_lt_zero i)⟩⟩
  have q1 := (q0.more (fun i _ => nodeP_part HT w2.heap.size A ro rl B N i) b1 (U := fun F W => LG rl F W N.l) h1 g1).same (T2 := nodeP UG OG LG w2.heap.size A ro rl B N) (fun i hi F W hF => by
    match i, hi, hF with
    | 0, _, hF => exact hF
    | j + 1, hi, _ => omega)
  have q2 := (q1.more (fun i _ => nodeP_part HT w2.heap.size A ro rl B N i) b2 (U := fun F W => OG ro F W N.o) h2 g2).same (T2 := nodeP UG OG LG w2.heap.size A ro rl B N) (fun i hi F W hF => by
    match i, hi, hF with
    | 0, _, hF => exact hF
    | 1, _, hF => exact hF
    | j + 2, hi, _ => omega)
  have b3 : Below w2.heap.size w2 (w2.alloc (.cells A 79)) := (Below.refl _ _).alloc (Nat.le_refl _) _
  have q3 := (q2.more (fun i _ => nodeP_part HT w2.heap.size A ro rl B N i) b3 (U := fun F W => W.heap[w2.heap.size]? = some (.cells A 79 (0, 0)) ∧ ∀ k, F k ↔ k = w2.heap.size) (H := fun k => k = w2.heap.size) ⟨heap_alloc_new _ _, fun k => Iff.rfl⟩ (fun k hk => by omega)).same (T2 := nodeP UG OG LG w2.heap.size A ro rl B N) (fun i hi F W hF => by
    match i, hi, hF with
    | 0, _, hF => exact hF
    | 1, _, hF => exact hF
    | 2, _, hF => exact hF
    | j + 3, hi, _ => omega)
  have z1 := b1.size
  have z2 := b2.size
  refine ⟨A, ro, rl, B, _, hT, q3, fun k hk => ?_, (b1.trans (b2.mono z1)).alloc (by omega) _⟩
  rcases hk with ((hk | hk) | hk) | hk
  · exact hk.elim
  · exact g1 k hk
  · have := g2 k hk; omega
  · omega
theorem MkP.step {UG : Nat → Nat → (Nat → Prop) → World → Us → Prop} {OG : Nat → (Nat → Prop) → World → Od → Prop} {LG : Nat → (Nat → Prop) → World → Ly → Prop} (HT : Three UG OG LG) {w0 W w2 : World} {r i r2 q2 : Nat} {N : Nd} {G2 : Nat → Prop} (h : MkP UG OG LG w0 r N i W) (hi : i < 16) (hb : Below W.heap.size W w2) (hu : UG r2 q2 G2 w2 (N.u i)) (hg : ∀ k, G2 k → W.heap.size ≤ k) : MkP UG OG LG w0 r N (i + 1) (w2.setCell ⟨r, i, none⟩ (ptrV r2)) := by
  obtain ⟨A, ro, rl, B, G, hT, hB, hG, hb0⟩ := h
  have q1 := (hB.more (fun i _ => nodeP_part HT r A ro rl B N i) hb (U := fun F W => UG r2 q2 F W (N.u i)) hu hg).same (T2 := nodeP UG OG LG r A ro rl (fun j => if j = i then (r2, q2) else B j) N) (fun k hk F W hF => by
    unfold swapP at hF
    match k, hk, hF with
    | 0, _, hF => rw [if_neg (by omega)] at hF; exact hF
    | 1, _, hF => rw [if_neg (by omega)] at hF; exact hF
    | 2, _, hF => rw [if_neg (by omega)] at hF; exact hF
    | j + 3, _, hF =>
      by_cases e : j = i
      · subst e
        rw [if_pos rfl] at hF
        show UG (if j = j then (r2, q2) else B j).1 (if j = j then (r2, q2) else B j).2 F W (N.u j)
        rw [if_pos rfl]
        exact hF
      · rw [if_neg (by omega)] at hF
        show UG (if j = i then (r2, q2) else B j).1 (if j = i then (r2, q2) else B j).2 F W (N.u j)
        rw [if_neg e]
        exact hF)
  obtain ⟨F, h2f, hFG, huse⟩ := q1.use (fun i _ => nodeP_part HT r A ro rl _ N i) (i := 2) (by omega)
  have hA : w2.heap[r]? = some (.cells A 79 (0, 0)) := h2f.1
  have hF2 : ∀ k, F k ↔ k = r := h2f.2
  have hrG := hFG r ((hF2 r).2 rfl)
  have hk : Kept (fun k => k ≠ r) w2 (w2.setCell ⟨r, i, none⟩ (ptrV r2)) := (Kept.refl _ w2).setCell (p := ⟨r, i, none⟩) (fun h => h rfl) _
  have hl : Leaves (fun (F : Nat → Prop) (W : World) (_ : Unit) => W.heap[r]? = some (.cells (A.setIfInBounds i (ptrV r2)) 79 (0, 0)) ∧ ∀ k, F k ↔ k = r) F w2 (w2.setCell ⟨r, i, none⟩ (ptrV r2)) () :=
    ⟨F, ⟨heap_setCell_same w2 r i A _ _ hA, hF2⟩, hk.mono (fun k hn e => hn ((hF2 k).2 e)), fun k hk => .inl hk⟩
  obtain ⟨G', s1, s2, s3⟩ := huse _ (fun (G' : Nat → Prop) (W : World) (_ : Unit) => BundG (i + 1 + 3) (nodeP UG OG LG r (A.setIfInBounds i (ptrV r2)) ro rl (fun j => if j = i then (r2, q2) else B j) N) G' W) _ () () (fun G' W h => BundG.same (n := i + 1 + 3) (show BundG (i + 1 + 3) _ G' W from (by rw [show i + 1 + 3 = i + 3 + 1 by omega]; exact h)) (fun k _ F W hF => by
    match k, hF with
    | 0, hF => exact hF
    | 1, hF => exact hF
    | 2, hF => exact hF
    | j + 3, hF => exact hF)) hl
  have z0 := hb0.size
  have z1 := hb.size
  refine ⟨_, ro, rl, _, G', hT.put hi (r2, q2), s1, fun k hk => ?_, ?_⟩
  · rcases s3 k hk with (h | h) | h
    · exact hG k h
    · have := hg k h; omega
    · omega
  · refine (hb0.trans (hb.mono z0)).trans (hk.toBelow (by omega) (fun k hk e => ?_))
    rcases hrG with h | h
    · have := hG r h; omega
    · have := hg r h; omega
end Go.Proofs.YtchhmfdalghgcaaGreat
namespace Go.Proofs.YtchhmfdalghgcaaGreat
set_option linter.unusedVariables false
open Go.RowKit
set_option maxRecDepth 20000
/-- TG b G w t: in world w block b is the program's tail t; all that it owns lies in G. The program's functions return what is said here -/
structure TailSays (TG : Nat → (Nat → Prop) → World → Tl → Prop) : Prop where
  thing : ∀ b, Thing (TG b)
  new : ∀ (ep : Int) (ao : Option Addr) (cap : Nat) (L : List (List Int)) (w : World), CL w ao L → fewL L → (ao = none → cap = 0) → L.length ≤ cap → i64w ep → Calls Tryz.prog 15 #[.agg #[.int .i64 ep, .slice ao L.length cap]] w fun e w' => ∃ (b : Nat) (G : Nat → Prop), e = .returned (ptrP b) ∧ TG b G w' (newTl ep L) ∧ (∀ k, G k → w.heap.size ≤ k) ∧ Below w.heap.size w w'
  ask : ∀ (b : Nat) (G : Nat → Prop) (w : World) (t : Tl), TG b G w t → Calls Tryz.prog 16 #[ptrP b] w fun e w' => e = .returned (.tuple #[askV t.ask, .bool t.asks]) ∧ Leaves (TG b) G w w' t
  hear : ∀ (b : Nat) (G : Nat → Prop) (w : World) (t : Tl) (x : An) (ao : Option Addr) (cap : Nat) (c : Bool), TG b G w t → fewL x.L → i64w x.pe → (∀ W, Kept (fun k => ¬ G k) w W → CL W ao x.L) → Calls Tryz.prog 17 #[ptrP b, ansV x ao cap, .bool c] w fun e w' => e = .returned (.tuple #[]) ∧ Leaves (TG b) G w w' (t.hear x c)
  over : ∀ (b : Nat) (G : Nat → Prop) (w : World) (t : Tl), TG b G w t → Calls Tryz.prog 18 #[ptrP b] w fun e w' => e = .returned (.tuple #[.int .i64 t.overN, .int .i64 t.overE, .bool t.overB]) ∧ Below w.heap.size w w'
  p_ : ∀ (b : Nat) (G : Nat → Prop) (w : World) (t : Tl), TG b G w t → Calls Tryz.prog 20 #[ptrP b] w fun e w' => ∃ (ao : Option Addr) (cap : Nat), e = .returned (.agg #[.int .i64 t.ep, .slice ao t.L.length cap]) ∧ CL w' ao t.L ∧ Below w.heap.size w w'
  nil_ask : ∀ (w : World), Calls Tryz.prog 16 #[.pointer none] w fun e w' => e = .returned (.tuple #[askV zeroK, .bool false]) ∧ Below w.heap.size w w'
  nil_hear : ∀ (x : An) (ao : Option Addr) (cap : Nat) (c : Bool) (w : World), Calls Tryz.prog 17 #[.pointer none, ansV x ao cap, .bool c] w fun e w' => e = .returned (.tuple #[]) ∧ Below w.heap.size w w'
  nil_over : ∀ (w : World), Calls Tryz.prog 18 #[.pointer none] w fun e w' => e = .returned (.tuple #[.int .i64 0, .int .i64 1, .bool true]) ∧ Below w.heap.size w w'
  nil_P : ∀ (w : World), Calls Tryz.prog 20 #[.pointer none] w fun e w' => ∃ (ep : Int) (ao : Option Addr) (cap : Nat), e = .returned (.agg #[.int .i64 ep, .slice ao 0 cap]) ∧ Below w.heap.size w w'
end Go.Proofs.YtchhmfdalghgcaaGreat
