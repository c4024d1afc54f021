/- What the program's nodes' Do answers, told by what Unit, Order, Layout and the node's own Do return (of nil, too). Conditions: as each statement says. (Written by gen/genrppd.py.) The program's own hand holds a question: a copy of it behind all others. Conditions: as each statement says. Questions that the statements ask a hand themselves; that hand is awake. Conditions: the program's functions return what HandSays says. -/
import Derived.Test.YtkicjgaejieinaaGreatG25b
import Derived.Test.YtkicjgaejieinaaGreatG14b
import Derived.Test.YtkicjgaejieinaaGreatG08b
import Derived.Deep.RegionHeld3
import Derived.Deep.RegionHeldLaw
set_option linter.unusedVariables false
namespace Go.Proofs.YtkicjgaejieinaaGreat
set_option linter.unusedVariables false
open Go.RowKit
set_option maxRecDepth 20000
theorem eight_put {w : World} {b : Nat} {x0 x1 x2 x3 x4 x5 x6 x7 : Value} {t : TypeId} (h : w.heap[b]? = some (.cells #[x0, x1, x2, x3, x4, x5, x6, x7] t (0, 0))) (v0 v1 v2 v3 v4 v5 v6 v7 : Value) :
    ((((((((w.setCell ⟨b, 0, none⟩ v0).setCell ⟨b, 1, none⟩ v1).setCell ⟨b, 2, none⟩ v2).setCell ⟨b, 3, none⟩ v3).setCell ⟨b, 4, none⟩ v4).setCell ⟨b, 5, none⟩ v5).setCell ⟨b, 6, none⟩ v6).setCell ⟨b, 7, none⟩ v7).heap[b]? = some (.cells #[v0, v1, v2, v3, v4, v5, v6, v7] t (0, 0)) :=
  eight_set7 (eight_set6 (eight_set5 (eight_set4 (eight_set3 (eight_set2 (eight_set1 (eight_set0 h v0) v1) v2) v3) v4) v5) v6) v7
theorem eight_left (W : World) (b : Nat) (v0 v1 v2 v3 v4 v5 v6 v7 : Value) : Kept (fun k => k ≠ b) W ((((((((W.setCell ⟨b, 0, none⟩ v0).setCell ⟨b, 1, none⟩ v1).setCell ⟨b, 2, none⟩ v2).setCell ⟨b, 3, none⟩ v3).setCell ⟨b, 4, none⟩ v4).setCell ⟨b, 5, none⟩ v5).setCell ⟨b, 6, none⟩ v6).setCell ⟨b, 7, none⟩ v7) :=
  ((((((((Kept.refl _ W).setCell (p := ⟨b, 0, none⟩) (fun h => h rfl) _).setCell (p := ⟨b, 1, none⟩) (fun h => h rfl) _).setCell (p := ⟨b, 2, none⟩) (fun h => h rfl) _).setCell (p := ⟨b, 3, none⟩) (fun h => h rfl) _).setCell (p := ⟨b, 4, none⟩) (fun h => h rfl) _).setCell (p := ⟨b, 5, none⟩) (fun h => h rfl) _).setCell (p := ⟨b, 6, none⟩) (fun h => h rfl) _).setCell (p := ⟨b, 7, none⟩) (fun h => h rfl) _
/-- a call on a thing answers x; where the answer's chains lie is as Q says -/
def TellsQ {α : Type} (T : (Nat → Prop) → World → α → Prop) (G : Nat → Prop) (w : World) (a' : α) (x : An) (Q : Option Addr → Nat → Prop) (e : Ending) (w' : World) : Prop :=
  ∃ (ao : Option Addr) (cap : Nat) (C : Nat → Prop), Q ao cap ∧ e = .returned (ansV x ao cap) ∧ (∀ k, C k → w.heap.size ≤ k) ∧ Leaves (Chained T C (.slice ao x.L.length cap) x.L) G w w' a'
theorem TellsQ.of {α : Type} {T : (Nat → Prop) → World → α → Prop} {G : Nat → Prop} {w w' : World} {a' : α} {x : An} {e : Ending} (h : Tells T G w a' x e w') : TellsQ T G w a' x (fun _ _ => True) e w' := by
  obtain ⟨ao, cap, C, h1, h2, h3⟩ := tells_chained h
  exact ⟨ao, cap, C, trivial, h1, h2, h3⟩
theorem TellsQ.tells {α : Type} {T : (Nat → Prop) → World → α → Prop} {G : Nat → Prop} {w w' : World} {a' : α} {x : An} {Q : Option Addr → Nat → Prop} {e : Ending} (h : TellsQ T G w a' x Q e w') : Tells T G w a' x e w' := by
  obtain ⟨ao, cap, C, _, h1, h2, h3⟩ := h
  subst h1
  exact chained_tells h2 h3
/-- an answer without chains -/
theorem TellsQ.none {α : Type} {T : (Nat → Prop) → World → α → Prop} {G : Nat → Prop} {w w' : World} {a' : α} {x : An} (h : Leaves T G w w' a') (hL : x.L = []) : TellsQ T G w a' x (fun ao cap => ao = Option.none ∧ cap = 0) (.returned (ansV x Option.none 0)) w' := by
  obtain ⟨G', h1, h2, h3⟩ := h
  exact ⟨Option.none, 0, fun _ => False, ⟨rfl, rfl⟩, rfl, fun k hk => hk.elim, G', ⟨G', h1, (by rw [hL]; exact CG.no _ _), fun k hk => hk.elim, fun k hk => hk.elim, fun k => ⟨fun h => .inl h, fun h => h.elim id (fun h => h.elim)⟩⟩, h2, h3⟩
theorem at3_0 (v0 v1 v2 : Value) (W : World) : (Instr.index 114 (.agg #[v0, v1, v2]) (.int .i64 0)).run Tryz.prog W = .ok v0 W := by kernel_rfl
theorem at3_1 (v0 v1 v2 : Value) (W : World) : (Instr.index 114 (.agg #[v0, v1, v2]) (.int .i64 1)).run Tryz.prog W = .ok v1 W := by kernel_rfl
theorem at3_2 (v0 v1 v2 : Value) (W : World) : (Instr.index 114 (.agg #[v0, v1, v2]) (.int .i64 2)).run Tryz.prog W = .ok v2 W := by kernel_rfl
theorem meth_unit (m : Nat) (p : Option Addr) (W : World) : (method (m + 1) 77 (.pointer p) "Do").run Tryz.prog W = .ok (131, .pointer p) W := by kernel_rfl
theorem meth_order (m : Nat) (p : Option Addr) (W : World) : (method (m + 1) 91 (.pointer p) "Do").run Tryz.prog W = .ok (51, .pointer p) W := by kernel_rfl
theorem meth_layout (m : Nat) (p : Option Addr) (W : World) : (method (m + 1) 95 (.pointer p) "Do").run Tryz.prog W = .ok (149, .pointer p) W := by kernel_rfl
theorem in_unit (k : Int) (b : Bool) (h : decide (1 ≤ k ∧ k ≤ 5) = b) (ao : Option Addr) (W : World) (hn : NLI W ao 5 [1, 2, 3, 4, 5]) : Calls Tryz.prog 56 #[.slice ao 5 5, .int .i64 k] W fun e w' => e = .returned (.bool b) ∧ W = w' := by
  have hb : hasB [1, 2, 3, 4, 5] k = b := by
    rw [← h]
    unfold hasB
    rw [decide_eq_decide]
    simp only [List.mem_cons, List.mem_nil_iff, or_false]
    omega
  have h1 := lcontains_any [1, 2, 3, 4, 5] k ao 5 W hn (by decide)
  rw [hb] at h1
  exact h1
theorem in_order (k : Int) (b : Bool) (h : decide (6 ≤ k ∧ k ≤ 8) = b) (ao : Option Addr) (W : World) (hn : NLI W ao 3 [6, 7, 8]) : Calls Tryz.prog 56 #[.slice ao 3 3, .int .i64 k] W fun e w' => e = .returned (.bool b) ∧ W = w' := by
  have hb : hasB [6, 7, 8] k = b := by
    rw [← h]
    unfold hasB
    rw [decide_eq_decide]
    simp only [List.mem_cons, List.mem_nil_iff, or_false]
    omega
  have h1 := lcontains_any [6, 7, 8] k ao 3 W hn (by decide)
  rw [hb] at h1
  exact h1
theorem in_layout (k : Int) (b : Bool) (h : decide (9 ≤ k ∧ k ≤ 11) = b) (ao : Option Addr) (W : World) (hn : NLI W ao 3 [9, 10, 11]) : Calls Tryz.prog 56 #[.slice ao 3 3, .int .i64 k] W fun e w' => e = .returned (.bool b) ∧ W = w' := by
  have hb : hasB [9, 10, 11] k = b := by
    rw [← h]
    unfold hasB
    rw [decide_eq_decide]
    simp only [List.mem_cons, List.mem_nil_iff, or_false]
    omega
  have h1 := lcontains_any [9, 10, 11] k ao 3 W hn (by decide)
  rw [hb] at h1
  exact h1
set_option maxHeartbeats 4000000 in
theorem rp_do_unit {α : Type} {T : (Nat → Prop) → World → α → Prop} (hT : Thing T) (G : Nat → Prop) (w : World) (n n' : α) (h : T G w n) (po x0 x1 x2 : Option Addr) (a : Ak) (x : An) (Q : Option Addr → Nat → Prop) (hk : 1 ≤ a.kind ∧ a.kind ≤ 5)
    (HU : ∀ H W, T H W n → Calls Tryz.prog 33 #[.pointer po, .int .i64 a.unit] W fun e w' => e = .returned (.pointer x0) ∧ W = w')
    (HO : ∀ H W, T H W n → Calls Tryz.prog 43 #[.pointer po] W fun e w' => e = .returned (.pointer x1) ∧ W = w')
    (HL : ∀ H W, T H W n → Calls Tryz.prog 46 #[.pointer po] W fun e w' => e = .returned (.pointer x2) ∧ W = w')
    (HP : ∀ H W, T H W n → (∀ W2, Kept (fun k => ¬ H k) W W2 → Kept (fun k => ¬ G k) w W2) → Calls Tryz.prog 131 #[.pointer x0, askV a] W (TellsQ T H W n' x Q)) :
    Calls Tryz.prog 27 #[.pointer po, askV a] w (TellsQ T G w n' x Q) := by
  obtain ⟨k, un, ep, pg, sz, nn, s, pe, L, ao, cap⟩ := a
  obtain ⟨xc, xn, xd, xp, xL, xm, xz, xe⟩ := x
  simp only at hk
  have HS := Lib.hid (boxv_start hT h 34 38 #[.int .i64 k, .int .i64 un, .int .i64 ep, .int .i64 pg, .int .i64 sz, .int .i64 nn, .string s, .int .i64 pe, .slice ao L.length cap] zeroAn)
  unfold zeroAn at HS
  have e0 := Lib.hid (show decide (1 ≤ k ∧ k ≤ 5) = true from decide_eq_true (by omega))
  have CI0 := Lib.hid (fun ao W hn => in_unit k true e0.out ao W hn)
  have CK0 := Lib.hid (kinds_unit (.pointer x0))
  have e1 := Lib.hid (show decide (6 ≤ k ∧ k ≤ 8) = false from decide_eq_false (by omega))
  have CI1 := Lib.hid (fun ao W hn => in_order k false e1.out ao W hn)
  have CK1 := Lib.hid (kinds_order (.pointer x1))
  have e2 := Lib.hid (show decide (9 ≤ k ∧ k ≤ 11) = false from decide_eq_false (by omega))
  have CI2 := Lib.hid (fun ao W hn => in_layout k false e2.out ao W hn)
  have CK2 := Lib.hid (kinds_layout (.pointer x2))
  have CU := Lib.hid HU
  have CO := Lib.hid HO
  have CL0 := Lib.hid HL
  have CP := Lib.hid (show ∀ H W, T H W n → (∀ W2, Kept (fun k => ¬ H k) W W2 → Kept (fun k => ¬ G k) w W2) → Calls Tryz.prog 131 #[.pointer x0, .agg #[.int .i64 k, .int .i64 un, .int .i64 ep, .int .i64 pg, .int .i64 sz, .int .i64 nn, .string s, .int .i64 pe, .slice ao L.length cap]] W (TellsQ T H W n' ⟨xc, xn, xd, xp, xL, xm, xz, xe⟩ Q) from HP)
  obtain ⟨H0, hH0, _⟩ := HS.out.use2
  have HH := Lib.hid hH0
  clear h hk HU HO HL e0 e1 e2 hH0 HP
  show Calls _ _ #[.pointer po, .agg #[.int .i64 k, .int .i64 un, .int .i64 ep, .int .i64 pg, .int .i64 sz, .int .i64 nn, .string s, .int .i64 pe, .slice ao L.length cap]] w _
  go_enter Tryz.func27, Tryz.ntmps27
  obtain ⟨g1, g2⟩ := HS.out.small
  go_wp2_with (first
    | (go_at_call 33; refine (CU.out _ _ HH.out).mono ?_; rintro e w1 ⟨rfl, rfl⟩)
    | (go_at_call 43; refine (CO.out _ _ HH.out).mono ?_; rintro e w1 ⟨rfl, rfl⟩)
    | (go_at_call 46; refine (CL0.out _ _ HH.out).mono ?_; rintro e w1 ⟨rfl, rfl⟩))
  go_loopw [19] (fun v wr => (v = .int .i64 0) ∧ Hid (BoxV 34 38 #[.int .i64 k, .int .i64 un, .int .i64 ep, .int .i64 pg, .int .i64 sz, .int .i64 nn, .string s, .int .i64 pe, .slice ao L.length cap] #[.int .i64 0, .int .i64 0, .string ⟨#[]⟩, .int .i64 0, .slice none 0 0, .int .i64 0, .int .i64 0, .int .i64 0] T w wr G n)) (fun v _ => 3 - (intOf v).toNat)
  case atStart => exact ⟨rfl, HS⟩
  case round =>
    clear HS HH
    obtain ⟨hv, HB⟩ := hrel
    have HD := Lib.hid (HB.out.below hT (Below.refl _ _).drew)
    obtain ⟨m1, m2⟩ := HB.out.small
    have q0 : wr.drew.cell? ⟨w.heap.size, 0, none⟩ = some (.int .i64 k) := cell_of HD.out.ask 0
    subst hv
    have A0 := at3_0
    go_wp2_with fail
    go_region_held3 (fun W => W.cell? ⟨w.heap.size, 0, none⟩ = some (.int .i64 k))
      (first | exact q0 | assumption | exact cell_of HB2.out.ask 0)
      (first
        | (go_at_call 56; refine (CI0.out _ _ HN.out).mono ?_; rintro e w3 ⟨rfl, rfl⟩)
        | (go_at_call 57; refine (CK0.out _).mono ?_; rintro e w2 ⟨ao1, rfl, hn, hb2⟩; have HN := Lib.hid hn; have HB2 := Lib.hid (HD.out.below hT hb2); obtain ⟨s1, s2⟩ := HB2.out.small; clear hn hb2))
    have M0 := meth_unit
    have c0 := cell_of HB2.out.ask 0
    have c1 := cell_of HB2.out.ask 1
    have c2 := cell_of HB2.out.ask 2
    have c3 := cell_of HB2.out.ask 3
    have c4 := cell_of HB2.out.ask 4
    have c5 := cell_of HB2.out.ask 5
    have c6 := cell_of HB2.out.ask 6
    have c7 := cell_of HB2.out.ask 7
    have c8 := cell_of HB2.out.ask 8
    go_wp2_with (go_at_call 131; obtain ⟨H1, hH1, hk1, hU1⟩ := HB2.out.use2; refine (CP.out H1 _ hH1 hk1).mono ?_; rintro e w4 ⟨ao4, cap4, C, hQ, rfl, hC, hl⟩; unfold ansV ansC; have HQ := Lib.hid hQ; have HC := Lib.hid hC; have HX := Lib.hid (hU1 _ _ _ hl); obtain ⟨⟨y0, y1, y2, y3, y4, y5, y6, y7⟩, f0, f1, f2, f3, f4, f5, f6, f7⟩ := eight_cells HX.out.ans; obtain ⟨l1, l2⟩ := HX.out.small; clear hQ hC hl hH1 hU1 hk1)
    exact ans_ret (x := ⟨xc, xn, xd, xp, xL, xm, xz, xe⟩) (ao := ao4) (cap := cap4) rfl (eight_put HX.out.ans _ _ _ _ _ _ _ _) rfl rfl ⟨ao4, cap4, C, HQ.out, rfl, fun k hk => Nat.le_trans (Nat.le_of_lt s1) (HC.out k hk), HX.out.fin (chained_thing hT _ _ _) (eight_left _ _ _ _ _ _ _ _ _ _)⟩
set_option maxHeartbeats 4000000 in
theorem rp_do_order {α : Type} {T : (Nat → Prop) → World → α → Prop} (hT : Thing T) (G : Nat → Prop) (w : World) (n n' : α) (h : T G w n) (po x0 x1 x2 : Option Addr) (a : Ak) (x : An) (Q : Option Addr → Nat → Prop) (hk : 6 ≤ a.kind ∧ a.kind ≤ 8)
    (HU : ∀ H W, T H W n → Calls Tryz.prog 33 #[.pointer po, .int .i64 a.unit] W fun e w' => e = .returned (.pointer x0) ∧ W = w')
    (HO : ∀ H W, T H W n → Calls Tryz.prog 43 #[.pointer po] W fun e w' => e = .returned (.pointer x1) ∧ W = w')
    (HL : ∀ H W, T H W n → Calls Tryz.prog 46 #[.pointer po] W fun e w' => e = .returned (.pointer x2) ∧ W = w')
    (HP : ∀ H W, T H W n → (∀ W2, Kept (fun k => ¬ H k) W W2 → Kept (fun k => ¬ G k) w W2) → Calls Tryz.prog 51 #[.pointer x1, askV a] W (TellsQ T H W n' x Q)) :
    Calls Tryz.prog 27 #[.pointer po, askV a] w (TellsQ T G w n' x Q) := by
  obtain ⟨k, un, ep, pg, sz, nn, s, pe, L, ao, cap⟩ := a
  obtain ⟨xc, xn, xd, xp, xL, xm, xz, xe⟩ := x
  simp only at hk
  have HS := Lib.hid (boxv_start hT h 34 38 #[.int .i64 k, .int .i64 un, .int .i64 ep, .int .i64 pg, .int .i64 sz, .int .i64 nn, .string s, .int .i64 pe, .slice ao L.length cap] zeroAn)
  unfold zeroAn at HS
  have e0 := Lib.hid (show decide (1 ≤ k ∧ k ≤ 5) = false from decide_eq_false (by omega))
  have CI0 := Lib.hid (fun ao W hn => in_unit k false e0.out ao W hn)
  have CK0 := Lib.hid (kinds_unit (.pointer x0))
  have e1 := Lib.hid (show decide (6 ≤ k ∧ k ≤ 8) = true from decide_eq_true (by omega))
  have CI1 := Lib.hid (fun ao W hn => in_order k true e1.out ao W hn)
  have CK1 := Lib.hid (kinds_order (.pointer x1))
  have e2 := Lib.hid (show decide (9 ≤ k ∧ k ≤ 11) = false from decide_eq_false (by omega))
  have CI2 := Lib.hid (fun ao W hn => in_layout k false e2.out ao W hn)
  have CK2 := Lib.hid (kinds_layout (.pointer x2))
  have CU := Lib.hid HU
  have CO := Lib.hid HO
  have CL0 := Lib.hid HL
  have CP := Lib.hid (show ∀ H W, T H W n → (∀ W2, Kept (fun k => ¬ H k) W W2 → Kept (fun k => ¬ G k) w W2) → Calls Tryz.prog 51 #[.pointer x1, .agg #[.int .i64 k, .int .i64 un, .int .i64 ep, .int .i64 pg, .int .i64 sz, .int .i64 nn, .string s, .int .i64 pe, .slice ao L.length cap]] W (TellsQ T H W n' ⟨xc, xn, xd, xp, xL, xm, xz, xe⟩ Q) from HP)
  obtain ⟨H0, hH0, _⟩ := HS.out.use2
  have HH := Lib.hid hH0
  clear h hk HU HO HL e0 e1 e2 hH0 HP
  show Calls _ _ #[.pointer po, .agg #[.int .i64 k, .int .i64 un, .int .i64 ep, .int .i64 pg, .int .i64 sz, .int .i64 nn, .string s, .int .i64 pe, .slice ao L.length cap]] w _
  go_enter Tryz.func27, Tryz.ntmps27
  obtain ⟨g1, g2⟩ := HS.out.small
  go_wp2_with (first
    | (go_at_call 33; refine (CU.out _ _ HH.out).mono ?_; rintro e w1 ⟨rfl, rfl⟩)
    | (go_at_call 43; refine (CO.out _ _ HH.out).mono ?_; rintro e w1 ⟨rfl, rfl⟩)
    | (go_at_call 46; refine (CL0.out _ _ HH.out).mono ?_; rintro e w1 ⟨rfl, rfl⟩))
  go_loopw [19] (fun v wr => (v = .int .i64 0 ∨ v = .int .i64 1) ∧ Hid (BoxV 34 38 #[.int .i64 k, .int .i64 un, .int .i64 ep, .int .i64 pg, .int .i64 sz, .int .i64 nn, .string s, .int .i64 pe, .slice ao L.length cap] #[.int .i64 0, .int .i64 0, .string ⟨#[]⟩, .int .i64 0, .slice none 0 0, .int .i64 0, .int .i64 0, .int .i64 0] T w wr G n)) (fun v _ => 3 - (intOf v).toNat)
  case atStart => exact ⟨.inl rfl, HS⟩
  case round =>
    clear HS HH
    obtain ⟨hv, HB⟩ := hrel
    have HD := Lib.hid (HB.out.below hT (Below.refl _ _).drew)
    obtain ⟨m1, m2⟩ := HB.out.small
    have q0 : wr.drew.cell? ⟨w.heap.size, 0, none⟩ = some (.int .i64 k) := cell_of HD.out.ask 0
    rcases hv with rfl | rfl
    · have A0 := at3_0
      go_wp2_with fail
      go_region_held3 (fun W => W.cell? ⟨w.heap.size, 0, none⟩ = some (.int .i64 k))
        (first | exact q0 | assumption | exact cell_of HB2.out.ask 0)
        (first
          | (go_at_call 56; refine (CI0.out _ _ HN.out).mono ?_; rintro e w3 ⟨rfl, rfl⟩)
          | (go_at_call 57; refine (CK0.out _).mono ?_; rintro e w2 ⟨ao1, rfl, hn, hb2⟩; have HN := Lib.hid hn; have HB2 := Lib.hid (HD.out.below hT hb2); obtain ⟨s1, s2⟩ := HB2.out.small; clear hn hb2))
      go_wp2_with fail
      go_roundw
      case rel => exact ⟨.inr rfl, HB2⟩
      case measure => simp [intOf]
    · have A1 := at3_1
      go_wp2_with fail
      go_region_held3 (fun W => W.cell? ⟨w.heap.size, 0, none⟩ = some (.int .i64 k))
        (first | exact q0 | assumption | exact cell_of HB2.out.ask 0)
        (first
          | (go_at_call 56; refine (CI1.out _ _ HN.out).mono ?_; rintro e w3 ⟨rfl, rfl⟩)
          | (go_at_call 57; refine (CK1.out _).mono ?_; rintro e w2 ⟨ao1, rfl, hn, hb2⟩; have HN := Lib.hid hn; have HB2 := Lib.hid (HD.out.below hT hb2); obtain ⟨s1, s2⟩ := HB2.out.small; clear hn hb2))
      have M0 := meth_order
      have c0 := cell_of HB2.out.ask 0
      have c1 := cell_of HB2.out.ask 1
      have c2 := cell_of HB2.out.ask 2
      have c3 := cell_of HB2.out.ask 3
      have c4 := cell_of HB2.out.ask 4
      have c5 := cell_of HB2.out.ask 5
      have c6 := cell_of HB2.out.ask 6
      have c7 := cell_of HB2.out.ask 7
      have c8 := cell_of HB2.out.ask 8
      go_wp2_with (go_at_call 51; obtain ⟨H1, hH1, hk1, hU1⟩ := HB2.out.use2; refine (CP.out H1 _ hH1 hk1).mono ?_; rintro e w4 ⟨ao4, cap4, C, hQ, rfl, hC, hl⟩; unfold ansV ansC; have HQ := Lib.hid hQ; have HC := Lib.hid hC; have HX := Lib.hid (hU1 _ _ _ hl); obtain ⟨⟨y0, y1, y2, y3, y4, y5, y6, y7⟩, f0, f1, f2, f3, f4, f5, f6, f7⟩ := eight_cells HX.out.ans; obtain ⟨l1, l2⟩ := HX.out.small; clear hQ hC hl hH1 hU1 hk1)
      exact ans_ret (x := ⟨xc, xn, xd, xp, xL, xm, xz, xe⟩) (ao := ao4) (cap := cap4) rfl (eight_put HX.out.ans _ _ _ _ _ _ _ _) rfl rfl ⟨ao4, cap4, C, HQ.out, rfl, fun k hk => Nat.le_trans (Nat.le_of_lt s1) (HC.out k hk), HX.out.fin (chained_thing hT _ _ _) (eight_left _ _ _ _ _ _ _ _ _ _)⟩
set_option maxHeartbeats 4000000 in
theorem rp_do_layout {α : Type} {T : (Nat → Prop) → World → α → Prop} (hT : Thing T) (G : Nat → Prop) (w : World) (n n' : α) (h : T G w n) (po x0 x1 x2 : Option Addr) (a : Ak) (x : An) (Q : Option Addr → Nat → Prop) (hk : 9 ≤ a.kind ∧ a.kind ≤ 11)
    (HU : ∀ H W, T H W n → Calls Tryz.prog 33 #[.pointer po, .int .i64 a.unit] W fun e w' => e = .returned (.pointer x0) ∧ W = w')
    (HO : ∀ H W, T H W n → Calls Tryz.prog 43 #[.pointer po] W fun e w' => e = .returned (.pointer x1) ∧ W = w')
    (HL : ∀ H W, T H W n → Calls Tryz.prog 46 #[.pointer po] W fun e w' => e = .returned (.pointer x2) ∧ W = w')
    (HP : ∀ H W, T H W n → (∀ W2, Kept (fun k => ¬ H k) W W2 → Kept (fun k => ¬ G k) w W2) → Calls Tryz.prog 149 #[.pointer x2, askV a] W (TellsQ T H W n' x Q)) :
    Calls Tryz.prog 27 #[.pointer po, askV a] w (TellsQ T G w n' x Q) := by
  obtain ⟨k, un, ep, pg, sz, nn, s, pe, L, ao, cap⟩ := a
  obtain ⟨xc, xn, xd, xp, xL, xm, xz, xe⟩ := x
  simp only at hk
  have HS := Lib.hid (boxv_start hT h 34 38 #[.int .i64 k, .int .i64 un, .int .i64 ep, .int .i64 pg, .int .i64 sz, .int .i64 nn, .string s, .int .i64 pe, .slice ao L.length cap] zeroAn)
  unfold zeroAn at HS
  have e0 := Lib.hid (show decide (1 ≤ k ∧ k ≤ 5) = false from decide_eq_false (by omega))
  have CI0 := Lib.hid (fun ao W hn => in_unit k false e0.out ao W hn)
  have CK0 := Lib.hid (kinds_unit (.pointer x0))
  have e1 := Lib.hid (show decide (6 ≤ k ∧ k ≤ 8) = false from decide_eq_false (by omega))
  have CI1 := Lib.hid (fun ao W hn => in_order k false e1.out ao W hn)
  have CK1 := Lib.hid (kinds_order (.pointer x1))
  have e2 := Lib.hid (show decide (9 ≤ k ∧ k ≤ 11) = true from decide_eq_true (by omega))
  have CI2 := Lib.hid (fun ao W hn => in_layout k true e2.out ao W hn)
  have CK2 := Lib.hid (kinds_layout (.pointer x2))
  have CU := Lib.hid HU
  have CO := Lib.hid HO
  have CL0 := Lib.hid HL
  have CP := Lib.hid (show ∀ H W, T H W n → (∀ W2, Kept (fun k => ¬ H k) W W2 → Kept (fun k => ¬ G k) w W2) → Calls Tryz.prog 149 #[.pointer x2, .agg #[.int .i64 k, .int .i64 un, .int .i64 ep, .int .i64 pg, .int .i64 sz, .int .i64 nn, .string s, .int .i64 pe, .slice ao L.length cap]] W (TellsQ T H W n' ⟨xc, xn, xd, xp, xL, xm, xz, xe⟩ Q) from HP)
  obtain ⟨H0, hH0, _⟩ := HS.out.use2
  have HH := Lib.hid hH0
  clear h hk HU HO HL e0 e1 e2 hH0 HP
  show Calls _ _ #[.pointer po, .agg #[.int .i64 k, .int .i64 un, .int .i64 ep, .int .i64 pg, .int .i64 sz, .int .i64 nn, .string s, .int .i64 pe, .slice ao L.length cap]] w _
  go_enter Tryz.func27, Tryz.ntmps27
  obtain ⟨g1, g2⟩ := HS.out.small
  go_wp2_with (first
    | (go_at_call 33; refine (CU.out _ _ HH.out).mono ?_; rintro e w1 ⟨rfl, rfl⟩)
    | (go_at_call 43; refine (CO.out _ _ HH.out).mono ?_; rintro e w1 ⟨rfl, rfl⟩)
    | (go_at_call 46; refine (CL0.out _ _ HH.out).mono ?_; rintro e w1 ⟨rfl, rfl⟩))
  go_loopw [19] (fun v wr => (v = .int .i64 0 ∨ v = .int .i64 1 ∨ v = .int .i64 2) ∧ Hid (BoxV 34 38 #[.int .i64 k, .int .i64 un, .int .i64 ep, .int .i64 pg, .int .i64 sz, .int .i64 nn, .string s, .int .i64 pe, .slice ao L.length cap] #[.int .i64 0, .int .i64 0, .string ⟨#[]⟩, .int .i64 0, .slice none 0 0, .int .i64 0, .int .i64 0, .int .i64 0] T w wr G n)) (fun v _ => 3 - (intOf v).toNat)
  case atStart => exact ⟨.inl rfl, HS⟩
  case round =>
    clear HS HH
    obtain ⟨hv, HB⟩ := hrel
    have HD := Lib.hid (HB.out.below hT (Below.refl _ _).drew)
    obtain ⟨m1, m2⟩ := HB.out.small
    have q0 : wr.drew.cell? ⟨w.heap.size, 0, none⟩ = some (.int .i64 k) := cell_of HD.out.ask 0
    rcases hv with rfl | rfl | rfl
    · have A0 := at3_0
      go_wp2_with fail
      go_region_held3 (fun W => W.cell? ⟨w.heap.size, 0, none⟩ = some (.int .i64 k))
        (first | exact q0 | assumption | exact cell_of HB2.out.ask 0)
        (first
          | (go_at_call 56; refine (CI0.out _ _ HN.out).mono ?_; rintro e w3 ⟨rfl, rfl⟩)
          | (go_at_call 57; refine (CK0.out _).mono ?_; rintro e w2 ⟨ao1, rfl, hn, hb2⟩; have HN := Lib.hid hn; have HB2 := Lib.hid (HD.out.below hT hb2); obtain ⟨s1, s2⟩ := HB2.out.small; clear hn hb2))
      go_wp2_with fail
      go_roundw
      case rel => exact ⟨.inr (.inl rfl), HB2⟩
      case measure => simp [intOf]
    · have A1 := at3_1
      go_wp2_with fail
      go_region_held3 (fun W => W.cell? ⟨w.heap.size, 0, none⟩ = some (.int .i64 k))
        (first | exact q0 | assumption | exact cell_of HB2.out.ask 0)
        (first
          | (go_at_call 56; refine (CI1.out _ _ HN.out).mono ?_; rintro e w3 ⟨rfl, rfl⟩)
          | (go_at_call 57; refine (CK1.out _).mono ?_; rintro e w2 ⟨ao1, rfl, hn, hb2⟩; have HN := Lib.hid hn; have HB2 := Lib.hid (HD.out.below hT hb2); obtain ⟨s1, s2⟩ := HB2.out.small; clear hn hb2))
      go_wp2_with fail
      go_roundw
      case rel => exact ⟨.inr (.inr rfl), HB2⟩
      case measure => simp [intOf]
    · have A2 := at3_2
      go_wp2_with fail
      go_region_held3 (fun W => W.cell? ⟨w.heap.size, 0, none⟩ = some (.int .i64 k))
        (first | exact q0 | assumption | exact cell_of HB2.out.ask 0)
        (first
          | (go_at_call 56; refine (CI2.out _ _ HN.out).mono ?_; rintro e w3 ⟨rfl, rfl⟩)
          | (go_at_call 57; refine (CK2.out _).mono ?_; rintro e w2 ⟨ao1, rfl, hn, hb2⟩; have HN := Lib.hid hn; have HB2 := Lib.hid (HD.out.below hT hb2); obtain ⟨s1, s2⟩ := HB2.out.small; clear hn hb2))
      have M0 := meth_layout
      have c0 := cell_of HB2.out.ask 0
      have c1 := cell_of HB2.out.ask 1
      have c2 := cell_of HB2.out.ask 2
      have c3 := cell_of HB2.out.ask 3
      have c4 := cell_of HB2.out.ask 4
      have c5 := cell_of HB2.out.ask 5
      have c6 := cell_of HB2.out.ask 6
      have c7 := cell_of HB2.out.ask 7
      have c8 := cell_of HB2.out.ask 8
      go_wp2_with (go_at_call 149; obtain ⟨H1, hH1, hk1, hU1⟩ := HB2.out.use2; refine (CP.out H1 _ hH1 hk1).mono ?_; rintro e w4 ⟨ao4, cap4, C, hQ, rfl, hC, hl⟩; unfold ansV ansC; have HQ := Lib.hid hQ; have HC := Lib.hid hC; have HX := Lib.hid (hU1 _ _ _ hl); obtain ⟨⟨y0, y1, y2, y3, y4, y5, y6, y7⟩, f0, f1, f2, f3, f4, f5, f6, f7⟩ := eight_cells HX.out.ans; obtain ⟨l1, l2⟩ := HX.out.small; clear hQ hC hl hH1 hU1 hk1)
      exact ans_ret (x := ⟨xc, xn, xd, xp, xL, xm, xz, xe⟩) (ao := ao4) (cap := cap4) rfl (eight_put HX.out.ans _ _ _ _ _ _ _ _) rfl rfl ⟨ao4, cap4, C, HQ.out, rfl, fun k hk => Nat.le_trans (Nat.le_of_lt s1) (HC.out k hk), HX.out.fin (chained_thing hT _ _ _) (eight_left _ _ _ _ _ _ _ _ _ _)⟩
set_option maxHeartbeats 4000000 in
theorem rp_do_none {α : Type} {T : (Nat → Prop) → World → α → Prop} (hT : Thing T) (G : Nat → Prop) (w : World) (n n' : α) (h : T G w n) (po x0 x1 x2 : Option Addr) (a : Ak) (x : An) (Q : Option Addr → Nat → Prop) (hk : a.kind < 1 ∨ 11 < a.kind)
    (HU : ∀ H W, T H W n → Calls Tryz.prog 33 #[.pointer po, .int .i64 a.unit] W fun e w' => e = .returned (.pointer x0) ∧ W = w')
    (HO : ∀ H W, T H W n → Calls Tryz.prog 43 #[.pointer po] W fun e w' => e = .returned (.pointer x1) ∧ W = w')
    (HL : ∀ H W, T H W n → Calls Tryz.prog 46 #[.pointer po] W fun e w' => e = .returned (.pointer x2) ∧ W = w')
    : Calls Tryz.prog 27 #[.pointer po, askV a] w fun e w' => e = .returned (ansV (anP 1 0 noS 0) none 0) ∧ Leaves T G w w' n := by
  obtain ⟨k, un, ep, pg, sz, nn, s, pe, L, ao, cap⟩ := a
  simp only at hk
  have HS := Lib.hid (boxv_start hT h 34 38 #[.int .i64 k, .int .i64 un, .int .i64 ep, .int .i64 pg, .int .i64 sz, .int .i64 nn, .string s, .int .i64 pe, .slice ao L.length cap] zeroAn)
  unfold zeroAn at HS
  have e0 := Lib.hid (show decide (1 ≤ k ∧ k ≤ 5) = false from decide_eq_false (by omega))
  have CI0 := Lib.hid (fun ao W hn => in_unit k false e0.out ao W hn)
  have CK0 := Lib.hid (kinds_unit (.pointer x0))
  have e1 := Lib.hid (show decide (6 ≤ k ∧ k ≤ 8) = false from decide_eq_false (by omega))
  have CI1 := Lib.hid (fun ao W hn => in_order k false e1.out ao W hn)
  have CK1 := Lib.hid (kinds_order (.pointer x1))
  have e2 := Lib.hid (show decide (9 ≤ k ∧ k ≤ 11) = false from decide_eq_false (by omega))
  have CI2 := Lib.hid (fun ao W hn => in_layout k false e2.out ao W hn)
  have CK2 := Lib.hid (kinds_layout (.pointer x2))
  have CU := Lib.hid HU
  have CO := Lib.hid HO
  have CL0 := Lib.hid HL
  obtain ⟨H0, hH0, _⟩ := HS.out.use2
  have HH := Lib.hid hH0
  clear h hk HU HO HL e0 e1 e2 hH0
  show Calls _ _ #[.pointer po, .agg #[.int .i64 k, .int .i64 un, .int .i64 ep, .int .i64 pg, .int .i64 sz, .int .i64 nn, .string s, .int .i64 pe, .slice ao L.length cap]] w _
  go_enter Tryz.func27, Tryz.ntmps27
  obtain ⟨g1, g2⟩ := HS.out.small
  go_wp2_with (first
    | (go_at_call 33; refine (CU.out _ _ HH.out).mono ?_; rintro e w1 ⟨rfl, rfl⟩)
    | (go_at_call 43; refine (CO.out _ _ HH.out).mono ?_; rintro e w1 ⟨rfl, rfl⟩)
    | (go_at_call 46; refine (CL0.out _ _ HH.out).mono ?_; rintro e w1 ⟨rfl, rfl⟩))
  go_loopw [19] (fun v wr => (v = .int .i64 0 ∨ v = .int .i64 1 ∨ v = .int .i64 2 ∨ v = .int .i64 3) ∧ Hid (BoxV 34 38 #[.int .i64 k, .int .i64 un, .int .i64 ep, .int .i64 pg, .int .i64 sz, .int .i64 nn, .string s, .int .i64 pe, .slice ao L.length cap] #[.int .i64 0, .int .i64 0, .string ⟨#[]⟩, .int .i64 0, .slice none 0 0, .int .i64 0, .int .i64 0, .int .i64 0] T w wr G n)) (fun v _ => 3 - (intOf v).toNat)
  case atStart => exact ⟨.inl rfl, HS⟩
  case round =>
    clear HS HH
    obtain ⟨hv, HB⟩ := hrel
    have HD := Lib.hid (HB.out.below hT (Below.refl _ _).drew)
    obtain ⟨m1, m2⟩ := HB.out.small
    have q0 : wr.drew.cell? ⟨w.heap.size, 0, none⟩ = some (.int .i64 k) := cell_of HD.out.ask 0
    rcases hv with rfl | rfl | rfl | rfl
    · have A0 := at3_0
      go_wp2_with fail
      go_region_held3 (fun W => W.cell? ⟨w.heap.size, 0, none⟩ = some (.int .i64 k))
        (first | exact q0 | assumption | exact cell_of HB2.out.ask 0)
        (first
          | (go_at_call 56; refine (CI0.out _ _ HN.out).mono ?_; rintro e w3 ⟨rfl, rfl⟩)
          | (go_at_call 57; refine (CK0.out _).mono ?_; rintro e w2 ⟨ao1, rfl, hn, hb2⟩; have HN := Lib.hid hn; have HB2 := Lib.hid (HD.out.below hT hb2); obtain ⟨s1, s2⟩ := HB2.out.small; clear hn hb2))
      go_wp2_with fail
      go_roundw
      case rel => exact ⟨.inr (.inl rfl), HB2⟩
      case measure => simp [intOf]
    · have A1 := at3_1
      go_wp2_with fail
      go_region_held3 (fun W => W.cell? ⟨w.heap.size, 0, none⟩ = some (.int .i64 k))
        (first | exact q0 | assumption | exact cell_of HB2.out.ask 0)
        (first
          | (go_at_call 56; refine (CI1.out _ _ HN.out).mono ?_; rintro e w3 ⟨rfl, rfl⟩)
          | (go_at_call 57; refine (CK1.out _).mono ?_; rintro e w2 ⟨ao1, rfl, hn, hb2⟩; have HN := Lib.hid hn; have HB2 := Lib.hid (HD.out.below hT hb2); obtain ⟨s1, s2⟩ := HB2.out.small; clear hn hb2))
      go_wp2_with fail
      go_roundw
      case rel => exact ⟨.inr (.inr (.inl rfl)), HB2⟩
      case measure => simp [intOf]
    · have A2 := at3_2
      go_wp2_with fail
      go_region_held3 (fun W => W.cell? ⟨w.heap.size, 0, none⟩ = some (.int .i64 k))
        (first | exact q0 | assumption | exact cell_of HB2.out.ask 0)
        (first
          | (go_at_call 56; refine (CI2.out _ _ HN.out).mono ?_; rintro e w3 ⟨rfl, rfl⟩)
          | (go_at_call 57; refine (CK2.out _).mono ?_; rintro e w2 ⟨ao1, rfl, hn, hb2⟩; have HN := Lib.hid hn; have HB2 := Lib.hid (HD.out.below hT hb2); obtain ⟨s1, s2⟩ := HB2.out.small; clear hn hb2))
      go_wp2_with fail
      go_roundw
      case rel => exact ⟨.inr (.inr (.inr rfl)), HB2⟩
      case measure => simp [intOf]
    · obtain ⟨⟨y0, y1, y2, y3, y4, y5, y6, y7⟩, f0, f1, f2, f3, f4, f5, f6, f7⟩ := eight_cells HB.out.ans
      go_wp2_with fail
      exact ans_ret (x := anP 1 0 noS 0) (ao := none) (cap := 0) rfl (eight_put HB.out.ans _ _ _ _ _ _ _ _) rfl rfl ⟨rfl, HB.out.fin hT (eight_left _ _ _ _ _ _ _ _ _ _)⟩
end Go.Proofs.YtkicjgaejieinaaGreat
namespace Go.Proofs.YtkicjgaejieinaaGreat
set_option linter.unusedVariables false
open Go.RowKit
set_option maxRecDepth 20000
section
variable {NG : Nat → (Nat → Prop) → World → Nd → Prop} {Z : List Ak} {b nb : Nat} {G : Nat → Prop} {w : World} {h : Hd}
theorem hold_no (b nb : Nat) (G : Nat → Prop) (w : World) (h : Hd) (a : Ak) (hh : HMz NG Z b nb G w h) (hl : ¬ h.held.length < 64) :
    Calls Tryz.prog 28 #[.pointer (some ⟨b, 0, none⟩), askV a] w fun e w' => e = .returned (.tuple #[]) ∧ Below w.heap.size w w' := by
  obtain ⟨v, l, hc, hR, hm, _⟩ := hh.cells
  obtain ⟨vo, vc, rfl, _, _, _, _, _⟩ := hR.form
  obtain ⟨c0, c1, _, _⟩ := two_cells hc
  have hb := hh.small
  have k0 : (64 : Int) ≤ (l.length : Int) := by rw [← hm, List.length_map] at hl; omega
  clear hh hc hR hm hl
  obtain ⟨k, un, ep, pg, sz, nn, s, pe, L, ao, cap⟩ := a
  show Calls _ _ #[.pointer (some ⟨b, 0, none⟩), .agg #[.int .i64 k, .int .i64 un, .int .i64 ep, .int .i64 pg, .int .i64 sz, .int .i64 nn, .string s, .int .i64 pe, .slice ao L.length cap]] w _
  go_enter Tryz.func28, Tryz.ntmps28
  go_wp2_with fail
  go_end0
  exact ⟨rfl, (Below.refl _ _).alloc (Nat.le_refl _) _⟩
set_option maxHeartbeats 3200000 in
theorem hold_yes (hN : ∀ b, Thing (NG b)) (b nb : Nat) (G : Nat → Prop) (w : World) (h : Hd) (a : Ak) (hh : HMz NG [] b nb G w h) (ha : HeldOk a) (hC : ∀ W, Kept (fun k => ¬ G k) w W → CL W a.ao a.L) (hl : h.held.length < 64) :
    Calls Tryz.prog 28 #[.pointer (some ⟨b, 0, none⟩), askV a] w fun e w' => e = .returned (.tuple #[]) ∧ Leaves (HMz NG [] b nb) G w w' ⟨h.n, h.held ++ [a.plain]⟩ := by
  have hb0 := below_new w (.cells (askC a).toArray 34)
  have hh0 := (hmz_thing hN [] b nb).keep hh (Kept.ofBelow hb0 (fun _ => True)) (fun _ _ => trivial)
  have hq := heap_alloc_new w (.cells (askC a).toArray 34)
  have hlt := (hmz_thing hN [] b nb).lt hh
  generalize hW0 : w.alloc (.cells (askC a).toArray 34) = W0 at *
  obtain ⟨v, l, hc, hR, hm, hok, hGv, hlay⟩ := hh0.opened hN
  have hml : l.length = h.held.length := by rw [← hm, List.length_map]
  have hb := hh0.small
  have hbv : v.ownBlock ≠ some b := fun e => (hGv b e).2 rfl
  have hqv : v.ownBlock ≠ some w.heap.size := fun e => by have := hlt _ (hGv _ e).1; omega
  have hql := lt_of_block hq
  have HL := Lib.hid (fun (w2 : World) (a2 : Ak) (v2 : Value) (D : Nat → Prop) (e2 : a2.plain = a.plain) (hk : Kept (fun k => v.ownBlock ≠ some k) W0 w2) (hO : OR 34 9 askC w2 0 v2 (l ++ [a2])) (hv : ∀ k, v2.ownBlock = some k → v.ownBlock = some k ∨ W0.heap.size ≤ k) (hD : ∀ k, D k → W0.heap.size ≤ k ∧ k < w2.heap.size ∧ v2.ownBlock ≠ some k) (ho : HeldOk a2 ∧ CK D w2 a2) => show Leaves (HMz NG [] b nb) G w (w2.setCell ⟨b, 1, none⟩ v2) ⟨h.n, h.held ++ [a.plain]⟩ from by
    have r := hlay W0 (Below.refl _ _) w2 v2 (l ++ [a2]) [] D hk (.inl hO) hv hD (by rw [List.length_append, hml]; simp; omega) (fun x hx => by
      rcases hx with hx | hx
      · rcases List.mem_append.1 hx with hx | hx
        · exact .inl hx
        · obtain rfl := List.mem_singleton.1 hx
          exact .inr (.inr ho)
      · cases hx)
    rw [List.map_append, hm, List.map_singleton, e2] at r
    exact r.ahead hlt hb0)
  have HC := Lib.hid (fun W (hk : Kept (fun k => v.ownBlock ≠ some k) W0 W) => hC W (((Kept.ofBelow hb0 _).trans (hk.mono (fun k hg e => hg (hGv k e).1)))))
  have HA := Lib.hid ha
  have HR := Lib.hid hR
  have HB := Lib.hid hc
  obtain ⟨vo, vc, hv, _, _, _, _, _⟩ := hR.form
  have c1 := cell_of hc 1
  obtain ⟨c2, _⟩ := two_cells hc
  have k0 : (l.length : Int) < 64 := by omega
  have hl64 := Lib.hid (show l.length + 1 ≤ 1000000 from by omega)
  clear hh hh0 hc hR hm hok hlay hC ha hlt hb0 hl hml
  obtain ⟨k, un, ep, pg, sz, nn, s, pe, L, ao, cap⟩ := a
  obtain ⟨⟨q0, q1, q2, q3, q4, q5, q6, q7, q8⟩, _⟩ := nine_of hq
  subst hv
  have eW : w.alloc (.cells #[.int .i64 k, .int .i64 un, .int .i64 ep, .int .i64 pg, .int .i64 sz, .int .i64 nn, .string s, .int .i64 pe, .slice ao L.length cap] 34) = W0 := hW0
  have cw : (w.alloc (.cells #[.int .i64 k, .int .i64 un, .int .i64 ep, .int .i64 pg, .int .i64 sz, .int .i64 nn, .string s, .int .i64 pe, .slice ao L.length cap] 34)).cell? ⟨b, 1, none⟩ = some (.slice vo l.length vc) := by rw [eW]; exact c1
  have EW := Lib.hid eW
  clear hq hW0 eW
  show Calls _ _ #[.pointer (some ⟨b, 0, none⟩), .agg #[.int .i64 k, .int .i64 un, .int .i64 ep, .int .i64 pg, .int .i64 sz, .int .i64 nn, .string s, .int .i64 pe, .slice ao L.length cap]] w _
  go_enter Tryz.func28, Tryz.ntmps28
  go_wp2_with fail
  rw [EW.out]
  clear cw EW
  go_region_law (first
    | (refine step_app_held rfl (.tmp 14) (.tmp 17) rfl rfl (HR.out.keep (Kept.ofBelow (HB1.out.trans ((below_new w1 _).mono HB1.out.size)) (fun _ => True)) (fun _ _ => trivial)) (N := [(⟨k, un, ep, pg, sz, nn, s, pe, L, a1, n1⟩ : Ak)]) (m := 1) (ad := ⟨w1.heap.size, 0, none⟩) (cap := 1) rfl rfl hone (by decide) (Nat.le_refl _) hl64.out ?_; intro v2 w2 hI hg2 hv2; obtain ⟨a2, k2, hw2, _, _, _, _, _, _⟩ := hI.form ask_rows; rw [List.length_append, List.length_singleton] at hw2; subst hw2; have HI2 := Lib.hid hI; have HV2 := Lib.hid hv2; have HK2 := Lib.hid (show Kept (fun k => (Value.slice vo l.length vc).ownBlock ≠ some k) w1 w2 from ((Kept.refl _ w1).alloc _).grown hg2 (fun k e h => h e)); have qf := free_of (HK2.out.heap hbv (below_heap HB1.out HB.out)) 1; have qc := (two_cells (HK2.out.heap hbv (below_heap HB1.out HB.out))).2.1; have qr := Nat.lt_of_lt_of_le db HK2.out.size; clear hI hv2)
    | (go_simp; go_at_call 32; refine (apart_any ⟨k, un, ep, pg, sz, nn, s, pe, L, ao, cap⟩ _ HA.out (HC.out _ (Kept.refl _ W0).drew)).mono ?_; rintro e w1 ⟨a1, n1, he, ho1, hk1, hb1⟩; obtain rfl : e = .returned (.agg #[.int .i64 k, .int .i64 un, .int .i64 ep, .int .i64 pg, .int .i64 sz, .int .i64 nn, .string s, .int .i64 pe, .slice a1 L.length n1]) := he; have HB1 := Lib.hid (show Below W0.heap.size W0 w1 from (Below.refl W0.heap.size W0).drew.trans hb1); have HC1 := Lib.hid (show CK (fun k => W0.heap.size ≤ k ∧ k < w1.heap.size) w1 (⟨k, un, ep, pg, sz, nn, s, pe, L, a1, n1⟩ : Ak) from hk1); have HO1 := Lib.hid ho1; have hone := Row.one (f := askC) (n := 9) (x := (⟨k, un, ep, pg, sz, nn, s, pe, L, a1, n1⟩ : Ak)) (heap_alloc_new w1 (.cells #[.int .i64 k, .int .i64 un, .int .i64 ep, .int .i64 pg, .int .i64 sz, .int .i64 nn, .string s, .int .i64 pe, .slice a1 L.length n1] 34)); have d1 := cellB HB1.out hb (show W0.cell? ⟨b, 1, none⟩ = some (.slice vo l.length vc) from c1); have db := Nat.lt_of_lt_of_le hb HB1.out.size; clear ho1 hk1))
  all_goals
    go_wp2_with fail
    go_end0
    refine ⟨rfl, HL.out w2 ⟨k, un, ep, pg, sz, nn, s, pe, L, a1, n1⟩ _ (fun k => W0.heap.size ≤ k ∧ k < w1.heap.size) rfl ((Kept.ofBelow HB1.out _).trans HK2.out) HI2.out (fun j e => ?_) (fun j hj => ⟨hj.1, Nat.lt_of_lt_of_le hj.2 HK2.out.size, fun e => ?_⟩) ⟨HO1.out, HC1.out.keep HK2.out (fun j hj e => ?_)⟩⟩
    · rcases HV2.out j e with h | h
      · exact .inl h
      · have := HB1.out.size; simp at h; exact .inr (by omega)
    · rcases HV2.out j e with h | h
      · have := HR.out.lt j h; omega
      · have := hj.2; simp at h; omega
    · have := HR.out.lt j e; have := hj.1; omega
end
end Go.Proofs.YtkicjgaejieinaaGreat
namespace Go.Proofs.YtkicjgaejieinaaGreat
set_option linter.unusedVariables false
open Go.RowKit
set_option maxRecDepth 20000
section
variable {UG : Nat → Nat → (Nat → Prop) → World → Us → Prop} {OG : Nat → (Nat → Prop) → World → Od → Prop} {LG : Nat → (Nat → Prop) → World → Ly → Prop} {NG : Nat → (Nat → Prop) → World → Nd → Prop} {HG : Nat → Nat → (Nat → Prop) → World → Hd → Prop} {X : Nat → Prop} {w w' : World} {b nb : Nat} {h : Hd}
theorem h_ask (HS : HandSays UG OG LG NG HG) (hs : Solo (HG b nb) X w h) {a : Ak} {fate : Int} (ho : AkOk a) (hL : fewL a.L) (hd : a.data.size ≤ 1000000) (hu : h.n.l.used.length ≤ 100000) (hf : i64w fate) (hA : ∀ W, Kept X w W → CL W a.ao a.L) :
    Calls Tryz.prog 11 #[ptrH b, askV a, .int .i64 fate] w fun e w' => ∃ (ao : Option Addr) (cap : Nat) (C : Nat → Prop), e = .returned (heardT (h.heard a fate) (decide (fate = 0)) ao cap) ∧ CG C w' (.slice ao (h.heard a fate).L.length cap) (h.heard a fate).L ∧ Solo (HG b nb) (fun k => X k ∨ C k) w' (h.asked a.plain fate) ∧ Kept X w w' :=
  solo_told (HS.thing b nb) hs (fun F hF hX => HS.ask b nb F w h a fate hF ho hL hd hu hf (fun W hk => hA W (hk.mono hX)))
/-- a question without a projection -/
theorem h_askN (HS : HandSays UG OG LG NG HG) (hs : Solo (HG b nb) X w h) {k u e p fate : Int} {s : ByteArray} (hk : i64w k) (hu : i64w u) (he : i64w e) (hp : i64w p) (hd : s.size ≤ 1000000) (hl : h.n.l.used.length ≤ 100000) (hf : i64w fate) :
    Calls Tryz.prog 11 #[.pointer (some ⟨b, 0, none⟩), .agg #[.int .i64 k, .int .i64 u, .int .i64 e, .int .i64 p, .int .i64 0, .int .i64 0, .string s, .int .i64 0, .slice none 0 0], .int .i64 fate] w fun e2 w' => ∃ (xc xn : Int) (xd : ByteArray) (xp xm xz xe : Int) (vo : Option Addr) (vn vc : Nat) (c : Bool),
      e2 = .returned (.tuple #[.agg #[.int .i64 xc, .int .i64 xn, .string xd, .int .i64 xp, .slice vo vn vc, .int .i64 xm, .int .i64 xz, .int .i64 xe], .bool c]) ∧ c = decide (fate = 0) ∧ (xc = (h.heard (akN k u e p s) fate).code ∧ xn = (h.heard (akN k u e p s) fate).n) ∧ Solo (HG b nb) X w' (h.asked (akN k u e p s) fate) ∧ Kept X w w' := by
  refine (h_ask HS hs (a := akN k u e p s) (akN_ok hk hu he hp hd) few_nil hd hl hf (fun W _ => CL.nil _ _)).mono ?_
  rintro e2 w' ⟨ao, cap, C, rfl, _, h3, h4⟩
  exact ⟨_, _, _, _, _, _, _, _, _, _, _, rfl, rfl, ⟨rfl, rfl⟩, h3.less (fun k hk => .inl hk), h4⟩
theorem h_does (HS : HandSays UG OG LG NG HG) (hs : Solo (HG b nb) X w h) (hl : h.n.l.used.length ≤ 100000) {k : Int} (hk : i64w k) :
    Calls Tryz.prog 14 #[.pointer (some ⟨b, 0, none⟩), .int .i64 k] w fun e w' => e = .returned (.bool (h.has k)) ∧ Solo (HG b nb) X w' (h.does k) ∧ Kept X w w' :=
  solo_call (R := fun e => e = .returned (.bool (h.has k))) (HS.thing b nb) hs (fun F hF => HS.does b nb F w h k hF hl hk)
theorem h_held (HS : HandSays UG OG LG NG HG) (hs : Solo (HG b nb) X w h) :
    Calls Tryz.prog 18 #[.pointer (some ⟨b, 0, none⟩)] w fun e w' => ∃ (ao : Option Addr) (cap : Nat), e = .returned (.slice ao h.held.length cap) ∧ Solo (HG b nb) X w' h ∧ Below w.heap.size w w' := by
  obtain ⟨_, F, hF, _⟩ := id hs
  refine (HS.held b nb F w h hF).mono ?_
  rintro e w' ⟨ao, cap, l, he, _, _, _, hb⟩
  exact ⟨ao, cap, he, hs.below (HS.thing b nb) hb, hb⟩
end
def akH : Ak := akN 6 0 0 0 ⟨#[]⟩
def exH0 : Hd := ⟨newN 0 [[0, 1]] 9, []⟩
def exH1 : Hd := exH0.asked akH 2
def exH2 : Hd := exH1.asked akH 3
def exH3 : Hd := exH2.asked akH 0
def exH4 : Hd := exH3.does 0
def exH5 : Hd := exH4.asked akH 0
theorem exH_facts : goodB 0 [[0, 1]] = true ∧ (exH2.heard akH 0).n = 1 ∧ exH3.has 0 = true ∧ (exH4.heard akH 0).n = 3 := by decide +kernel
theorem exH_few : exH0.n.l.used.length ≤ 100000 ∧ exH1.n.l.used.length ≤ 100000 ∧ exH2.n.l.used.length ≤ 100000 ∧ exH3.n.l.used.length ≤ 100000 ∧ exH4.n.l.used.length ≤ 100000 := by decide +kernel
set_option maxHeartbeats 8000000 in
theorem wakes14_any {UG : Nat → Nat → (Nat → Prop) → World → Us → Prop} {OG : Nat → (Nat → Prop) → World → Od → Prop} {LG : Nat → (Nat → Prop) → World → Ly → Prop} {NG : Nat → (Nat → Prop) → World → Nd → Prop} {HG : Nat → Nat → (Nat → Prop) → World → Hd → Prop} (HS : HandSays UG OG LG NG HG) (w : World) :
    Calls Tryz.prog 9 #[] w fun e w' => e = .returned (.bool true) ∧ Below w.heap.size w w' := by
  have FA := Lib.hid exH_facts
  have FF := Lib.hid exH_few
  have ZZ := Lib.hid (fun (x : Int) (h : 0 ≤ x ∧ x ≤ 20) => show i64w x from WalkArith.wf_i64 (by omega))
  have TT := Lib.hid (fun b nb => HS.thing b nb)
  have CN := Lib.hid (made14_yes HS 0 (some ⟨w.heap.size + 1, 0, none⟩) 1 [[0, 1]] 9 (litW w 0 1) (lit_chain w (u := 0) (v := 1) (ZZ.out 0 (by omega)) (ZZ.out 1 (by omega))).here.1 (few_two 0 1) FA.out.1 (by decide) (ZZ.out 0 (by omega)))
  go_enter Tryz.func9, Tryz.ntmps9
  go_wp2_with (go_at_call 10; refine CN.out.mono ?_; rintro e w1 ⟨b, nb, r, rn, rfl, hs1, hb1⟩; have B1 := Lib.hid ((lit_below w 0 1).trans (hb1.mono (lit_below w 0 1).size)); have U1 := Lib.hid (show Solo (HG b nb) (fun k => k < w.heap.size) w1 exH0 from hs1.left.less (fun k hk => Nat.lt_of_lt_of_le hk (lit_below w 0 1).size)); clear hs1 hb1)
  refine (h_askN HS U1.out (k := 6) (u := 0) (e := 0) (p := 0) (fate := 2) (s := ⟨#[]⟩) (ZZ.out 6 (by omega)) (ZZ.out 0 (by omega)) (ZZ.out 0 (by omega)) (ZZ.out 0 (by omega)) (Nat.zero_le _) FF.out.1 (ZZ.out 2 (by omega))).mono ?_
  rintro e w2 ⟨ac, an, ad, ap, am, az, ae, ao, aon, aoc, c, rfl, hc, hq, hu2, hk2⟩
  clear hq
  rw [show decide ((2 : Int) = 0) = false from rfl] at hc
  subst hc
  have U2 := Lib.hid (show Solo (HG b nb) (fun k => k < w.heap.size) (w2.alloc (.cells #[.int .i64 ac, .int .i64 an, .string ad, .int .i64 ap, .slice ao aon aoc, .int .i64 am, .int .i64 az, .int .i64 ae] 38)) exH1 from Solo.below (TT.out b nb) hu2 (below_new _ _))
  have B2 := Lib.hid ((B1.out.trans (hk2.toBelow B1.out.size (fun k h => h))).alloc (B1.out.trans (hk2.toBelow B1.out.size (fun k h => h))).size (.cells #[.int .i64 ac, .int .i64 an, .string ad, .int .i64 ap, .slice ao aon aoc, .int .i64 am, .int .i64 az, .int .i64 ae] 38))
  clear hu2 hk2 U1
  go_wp2_with fail
  refine (h_askN HS U2.out (k := 6) (u := 0) (e := 0) (p := 0) (fate := 3) (s := ⟨#[]⟩) (ZZ.out 6 (by omega)) (ZZ.out 0 (by omega)) (ZZ.out 0 (by omega)) (ZZ.out 0 (by omega)) (Nat.zero_le _) FF.out.2.1 (ZZ.out 3 (by omega))).mono ?_
  rintro e w3 ⟨bc, bn, bd, bp, bm, bz, be, bo, bon, boc, c, rfl, hc, hq, hu3, hk3⟩
  clear hq
  rw [show decide ((3 : Int) = 0) = false from rfl] at hc
  subst hc
  have U3 := Lib.hid (show Solo (HG b nb) (fun k => k < w.heap.size) (w3.alloc (.cells #[.int .i64 bc, .int .i64 bn, .string bd, .int .i64 bp, .slice bo bon boc, .int .i64 bm, .int .i64 bz, .int .i64 be] 38)) exH2 from Solo.below (TT.out b nb) hu3 (below_new _ _))
  have B3 := Lib.hid ((B2.out.trans (hk3.toBelow B2.out.size (fun k h => h))).alloc (B2.out.trans (hk3.toBelow B2.out.size (fun k h => h))).size (.cells #[.int .i64 bc, .int .i64 bn, .string bd, .int .i64 bp, .slice bo bon boc, .int .i64 bm, .int .i64 bz, .int .i64 be] 38))
  clear hu3 hk3 U2
  go_wp2_with fail
  refine (h_askN HS U3.out (k := 6) (u := 0) (e := 0) (p := 0) (fate := 0) (s := ⟨#[]⟩) (ZZ.out 6 (by omega)) (ZZ.out 0 (by omega)) (ZZ.out 0 (by omega)) (ZZ.out 0 (by omega)) (Nat.zero_le _) FF.out.2.2.1 (ZZ.out 0 (by omega))).mono ?_
  rintro e w4 ⟨xc, xn, xd, xp, xm, xz, xe, xo, xon, xoc, c, rfl, hc, ⟨hq, hxn⟩, hu4, hk4⟩
  clear hq
  rw [show decide ((0 : Int) = 0) = true from rfl] at hc
  subst hc
  rw [show (exH2.heard (akN 6 0 0 0 ⟨#[]⟩) 0).n = 1 from FA.out.2.1] at hxn
  subst hxn
  have U4 := Lib.hid (show Solo (HG b nb) (fun k => k < w.heap.size ∨ k = w4.heap.size) (w4.alloc (.cells #[.int .i64 xc, .int .i64 1, .string xd, .int .i64 xp, .slice xo xon xoc, .int .i64 xm, .int .i64 xz, .int .i64 xe] 38)) exH3 from Solo.beside (TT.out b nb) hu4 _)
  have B4 := Lib.hid ((B3.out.trans (hk4.toBelow B3.out.size (fun k h => h))).alloc (B3.out.trans (hk4.toBelow B3.out.size (fun k h => h))).size (.cells #[.int .i64 xc, .int .i64 1, .string xd, .int .i64 xp, .slice xo xon xoc, .int .i64 xm, .int .i64 xz, .int .i64 xe] 38))
  have P4 := Lib.hid (heap_alloc_new w4 (.cells #[.int .i64 xc, .int .i64 1, .string xd, .int .i64 xp, .slice xo xon xoc, .int .i64 xm, .int .i64 xz, .int .i64 xe] 38))
  clear hu4 hk4 U3
  go_wp2_with (go_at_call 14; refine (h_does HS U4.out FF.out.2.2.2.1 (ZZ.out 0 (by omega))).mono ?_; rw [FA.out.2.2.1]; rintro e w5 ⟨rfl, hs5, hk5⟩; have U5 := Lib.hid (show Solo (HG b nb) (fun k => k < w.heap.size ∨ k = w4.heap.size) w5 exH4 from hs5); have B5 := Lib.hid (B4.out.trans (hk5.toBelow B4.out.size (fun k h => .inl h))); have P5 := Lib.hid (hk5.heap (b := w4.heap.size) (Or.inr rfl) P4.out); clear hs5 hk5)
  refine (h_askN HS U5.out (k := 6) (u := 0) (e := 0) (p := 0) (fate := 0) (s := ⟨#[]⟩) (ZZ.out 6 (by omega)) (ZZ.out 0 (by omega)) (ZZ.out 0 (by omega)) (ZZ.out 0 (by omega)) (Nat.zero_le _) FF.out.2.2.2.2 (ZZ.out 0 (by omega))).mono ?_
  rintro e w6 ⟨yc, yn, yd, yp, ym, yz, ye, yo, yon, yoc, c, rfl, hc, ⟨hq, hyn⟩, hu6, hk6⟩
  clear hq
  rw [show decide ((0 : Int) = 0) = true from rfl] at hc
  subst hc
  rw [show (exH4.heard (akN 6 0 0 0 ⟨#[]⟩) 0).n = 3 from FA.out.2.2.2] at hyn
  subst hyn
  have B6 := Lib.hid ((B5.out.trans (hk6.toBelow B5.out.size (fun k h => .inl h))).alloc (B5.out.trans (hk6.toBelow B5.out.size (fun k h => .inl h))).size (.cells #[.int .i64 yc, .int .i64 3, .string yd, .int .i64 yp, .slice yo yon yoc, .int .i64 ym, .int .i64 yz, .int .i64 ye] 38))
  have P6 := Lib.hid (below_heap (below_new w6 (.cells #[.int .i64 yc, .int .i64 3, .string yd, .int .i64 yp, .slice yo yon yoc, .int .i64 ym, .int .i64 yz, .int .i64 ye] 38)) (hk6.heap (b := w4.heap.size) (Or.inr rfl) P5.out))
  have Q6 := Lib.hid (heap_alloc_new w6 (.cells #[.int .i64 yc, .int .i64 3, .string yd, .int .i64 yp, .slice yo yon yoc, .int .i64 ym, .int .i64 yz, .int .i64 ye] 38))
  have p1 := cell_of P6.out 1
  have q1 := cell_of Q6.out 1
  have lp := lt_of_block (hk6.heap (b := w4.heap.size) (Or.inr rfl) P5.out)
  clear hu6 hk6 U5
  go_wp2_with fail
  go_ret
  exact ⟨rfl, B6.out⟩
end Go.Proofs.YtkicjgaejieinaaGreat
