/- What the program's unit answers any question, and all that the laws of units ask of the program. Conditions: it and the question lie where the call was told; the question's data are not too long. What the document's own layout answers, asked for a change that may not come next. Conditions: it and the question lie where the call was told; no more than 1000000 units were noted. The document's own nodes while they are made, unit by unit. Conditions: as each statement says. -/
import Derived.Test.YtkicjgaejieinaaGreatG17b
import Derived.Test.YtkicjgaejieinaaGreatG17a
import Derived.Laws.EntriesVeiled
set_option linter.unusedVariables false
namespace Go.Proofs.YtkicjgaejieinaaGreat
set_option linter.unusedVariables false
open Go.RowKit
set_option maxRecDepth 20000
def fnV (f : FuncId) : Value := .func (.func f) #[] #[]
theorem deed_none (k : Int) (w : World) (hk : k < 1 ∨ 5 < k) : Calls Tryz.prog 134 #[.int .i64 k] w fun e w' => e = .returned .nilFunc ∧ Below w.heap.size w w' := by
  by_cases h0 : k = 0
  · subst h0
    clear hk
    go_enter Tryz.func134, Tryz.ntmps134
    go_wp2
    go_ret
    exact ⟨rfl, (Below.refl _ _).alloc (Nat.le_refl _) _⟩
  by_cases h1 : k < 0
  · clear hk h0
    go_enter Tryz.func134, Tryz.ntmps134
    go_wp2
    go_ret
    exact ⟨rfl, (Below.refl _ _).alloc (Nat.le_refl _) _⟩
  have h2 : 6 ≤ k := by omega
  have h3 : 0 ≤ k := by omega
  clear hk h0 h1
  go_enter Tryz.func134, Tryz.ntmps134
  go_wp2
  go_ret
  exact ⟨rfl, (Below.refl _ _).alloc (Nat.le_refl _) _⟩
theorem deed_1 (w : World) : Calls Tryz.prog 134 #[.int .i64 1] w fun e w' => e = .returned (fnV 135) ∧ Below w.heap.size w w' := by
  go_enter Tryz.func134, Tryz.ntmps134
  go_wp2
  go_ret
  exact ⟨rfl, (Below.refl _ _).alloc (Nat.le_refl _) _⟩
theorem deed_2 (w : World) : Calls Tryz.prog 134 #[.int .i64 2] w fun e w' => e = .returned (fnV 136) ∧ Below w.heap.size w w' := by
  go_enter Tryz.func134, Tryz.ntmps134
  go_wp2
  go_ret
  exact ⟨rfl, (Below.refl _ _).alloc (Nat.le_refl _) _⟩
theorem deed_3 (w : World) : Calls Tryz.prog 134 #[.int .i64 3] w fun e w' => e = .returned (fnV 137) ∧ Below w.heap.size w w' := by
  go_enter Tryz.func134, Tryz.ntmps134
  go_wp2
  go_ret
  exact ⟨rfl, (Below.refl _ _).alloc (Nat.le_refl _) _⟩
theorem deed_4 (w : World) : Calls Tryz.prog 134 #[.int .i64 4] w fun e w' => e = .returned (fnV 138) ∧ Below w.heap.size w w' := by
  go_enter Tryz.func134, Tryz.ntmps134
  go_wp2
  go_ret
  exact ⟨rfl, (Below.refl _ _).alloc (Nat.le_refl _) _⟩
theorem deed_5 (w : World) : Calls Tryz.prog 134 #[.int .i64 5] w fun e w' => e = .returned (fnV 139) ∧ Below w.heap.size w w' := by
  go_enter Tryz.func134, Tryz.ntmps134
  go_wp2
  go_ret
  exact ⟨rfl, (Below.refl _ _).alloc (Nat.le_refl _) _⟩
theorem nil_nil (w : World) : (binOp .eql 205 .nilFunc .nilFunc).run Tryz.prog w = .ok (.bool true) w := rfl
set_option maxHeartbeats 800000 in
theorem answer_none (b q : Nat) (G : Nat → Prop) (w : World) (u : Us) (a : Ak) (h : UM b q G w u) (hk : a.kind < 1 ∨ 5 < a.kind) :
    Calls Tryz.prog 133 #[ptrV b, askV a] w fun e w' => e = .returned (anV 1 0 noS 0) ∧ Leaves (UM b q) G w w' u := by
  obtain ⟨k, un, ep, pg, sz, n, s, pe, L, ao, cap⟩ := a
  obtain ⟨p, ue, dn⟩ := u
  simp only at *
  have CC := Lib.hid coded_ag
  have HS := Lib.hid (boxed_start (um_thing b q) h #[.int .i64 k, .int .i64 un, .int .i64 ep, .int .i64 pg, .int .i64 sz, .int .i64 n, .string s, .int .i64 pe, .slice ao L.length cap])
  unfold zeroAn at HS
  have hbw := h.small
  clear h
  show Calls _ _ #[.pointer (some ⟨b, 0, none⟩), .agg #[.int .i64 k, .int .i64 un, .int .i64 ep, .int .i64 pg, .int .i64 sz, .int .i64 n, .string s, .int .i64 pe, .slice ao L.length cap]] w _
  have HD := Lib.hid (fun w => deed_none k w hk)
  have hn := nil_nil
  clear hk
  go_enter Tryz.func133, Tryz.ntmps133
  go_wp2_with (first | (go_at_call 134; refine (HD.out _).mono ?_; rintro e w1 ⟨rfl, hb1⟩; have HT2 := Lib.hid (HS.out.below (um_thing b q) hb1); clear hb1) | (go_at_call 132; refine (CC.out _ _).mono ?_; rintro e w3 ⟨rfl, hb3⟩; have HT3 := Lib.hid (HT2.out.below (um_thing b q) hb3); clear hb3; obtain ⟨nl1, nl2⟩ := HT3.out.small; obtain ⟨⟨ny0, ny1, ny2, ny3, ny4, ny5, ny6, ny7⟩, nfy0, nfy1, nfy2, nfy3, nfy4, nfy5, nfy6, nfy7⟩ := eight_cells HT3.out.ans))
  exact ans_ret (x := anP (1) (0) noS 0) (ao := none) (cap := 0) rfl (HT3.out.fin (um_thing b q)).1 rfl rfl ⟨rfl, (HT3.out.fin (um_thing b q)).2⟩
set_option maxHeartbeats 800000 in
theorem answer_sealed (b q : Nat) (G : Nat → Prop) (w : World) (u : Us) (a : Ak) (f : FuncId) (h : UM b q G w u) (hd : ∀ w, Calls Tryz.prog 134 #[.int .i64 a.kind] w fun e w' => e = .returned (fnV f) ∧ Below w.heap.size w w') (he : a.epoch < u.epoch) :
    Calls Tryz.prog 133 #[ptrV b, askV a] w fun e w' => e = .returned (anV 40 0 noS 0) ∧ Leaves (UM b q) G w w' u := by
  obtain ⟨k, un, ep, pg, sz, n, s, pe, L, ao, cap⟩ := a
  obtain ⟨p, ue, dn⟩ := u
  simp only at *
  have CC := Lib.hid coded_ag
  have HS := Lib.hid (boxed_start (um_thing b q) h #[.int .i64 k, .int .i64 un, .int .i64 ep, .int .i64 pg, .int .i64 sz, .int .i64 n, .string s, .int .i64 pe, .slice ao L.length cap])
  unfold zeroAn at HS
  have hbw := h.small
  clear h
  show Calls _ _ #[.pointer (some ⟨b, 0, none⟩), .agg #[.int .i64 k, .int .i64 un, .int .i64 ep, .int .i64 pg, .int .i64 sz, .int .i64 n, .string s, .int .i64 pe, .slice ao L.length cap]] w _
  have HD := Lib.hid hd
  unfold fnV at HD
  clear hd
  have hn : ∀ w : World, (binOp .eql 205 (.func (.func f) #[] #[]) .nilFunc).run Tryz.prog w = .ok (.bool false) w := fun _ => rfl
  go_enter Tryz.func133, Tryz.ntmps133
  go_wp2_with (go_at_call 134; refine (HD.out _).mono ?_; rintro e w1 ⟨rfl, hb1⟩; have HT1 := Lib.hid (HS.out.below (um_thing b q) hb1); clear hb1)
  obtain ⟨l1, l2⟩ := HT1.out.small
  obtain ⟨H, hH, _⟩ := HT1.out.use
  have x2 : w1.cell? ⟨w.heap.size, 2, none⟩ = some (.int .i64 ep) := cell_of HT1.out.ask 2
  obtain ⟨c0, c1, c2, _⟩ := three_cells hH.cells
  have hb := hH.small
  clear hH
  go_quiet (fail)
  have HT2 := Lib.hid (HT1.out.drewN (um_thing b q) nq)
  generalize hW2 : World.drewN w1 nq = w2 at *
  clear hW2 x2 c0 c1 c2 hb l1 l2
  obtain ⟨l1, l2⟩ := HT2.out.small
  go_wp2_with (go_at_call 132; refine (CC.out _ _).mono ?_; rintro e w3 ⟨rfl, hb3⟩; have HT3 := Lib.hid (HT2.out.below (um_thing b q) hb3); clear hb3; obtain ⟨nl1, nl2⟩ := HT3.out.small; obtain ⟨⟨ny0, ny1, ny2, ny3, ny4, ny5, ny6, ny7⟩, nfy0, nfy1, nfy2, nfy3, nfy4, nfy5, nfy6, nfy7⟩ := eight_cells HT3.out.ans)
  exact ans_ret (x := anP (40) (0) noS 0) (ao := none) (cap := 0) rfl (HT3.out.fin (um_thing b q)).1 rfl rfl ⟨rfl, (HT3.out.fin (um_thing b q)).2⟩
end Go.Proofs.YtkicjgaejieinaaGreat
namespace Go.Proofs.YtkicjgaejieinaaGreat
set_option linter.unusedVariables false
open Go.RowKit
set_option maxRecDepth 20000
theorem ld_any8 {w W : World} {r : Nat} {G H : Nat → Prop} {y : Ly} {a : Ak} {u0 u1 u2 u3 u4 u5 u6 u7 : Value} {X : Option (Array Value)} (h : LdW w W r G H y a #[u0, u1, u2, u3, u4, u5, u6, u7] X) : LdE w W r G H y a X := ⟨_, _, _, _, _, _, _, _, h⟩
theorem three_blocks (w : World) (x y z : Obj) : ((w.alloc x).alloc y).heap.size = w.heap.size + 1 + 1 := by simp
set_option maxHeartbeats 8000000 in
theorem ldo_stay (r : Nat) (G : Nat → Prop) (w : World) (y : Ly) (a : Ak) (h : RL r G w y) (hu : y.used.length ≤ 1000000) (hk : a.kind = 10) (hC : CL w a.ao a.L) (hL : a.L.length ≤ 255 ∧ ∀ c ∈ a.L, c.length ≤ 255) (hm : y.may a.pe a.L = false) :
    Calls Tryz.prog 59 #[ptrL r, askV a] w fun e w' => Tells (RL r) G w (y.done a) (y.ans a) e w' := by
  have ha : y.ans a = anL 48 y.ep y.L := by
    unfold Ly.ans
    rw [if_neg (by omega), if_pos hk, if_neg (by rw [hm]; decide)]
  have hd : y.done a = y := by
    unfold Ly.done
    rw [if_pos hk, if_neg (by rw [hm]; decide)]
  rw [ha, hd]
  clear ha hd
  obtain ⟨k, un, ep, pg, sz, n, s, pe, L, ao, cap⟩ := a
  simp only at *
  have HS := Lib.hid (show LdW w (((w.alloc (.cells #[.int .i64 k, .int .i64 un, .int .i64 ep, .int .i64 pg, .int .i64 sz, .int .i64 n, .string s, .int .i64 pe, .slice ao L.length cap] 34)).alloc (.cells #[.int .i64 0, .int .i64 0, .string ⟨#[]⟩, .int .i64 0, .slice none 0 0, .int .i64 0, .int .i64 0, .int .i64 0] 38)).alloc (.cells #[.int .i64 0, .int .i64 0, .string ⟨#[]⟩, .int .i64 0, .slice none 0 0, .int .i64 0, .int .i64 0, .int .i64 0] 38)) r G G y ⟨k, un, ep, pg, sz, n, s, pe, L, ao, cap⟩ zeroA (some zeroA) from (ld_start h ⟨k, un, ep, pg, sz, n, s, pe, L, ao, cap⟩).more (three_blocks w _ _ (.cells #[] 0)) zeroA)
  have d10 : (k == 10) = true := by rw [hk]; rfl
  have d9 : (k == 9) = false := by rw [hk]; rfl
  have CM := Lib.hid (rl_may r G (((w.alloc (.cells #[.int .i64 k, .int .i64 un, .int .i64 ep, .int .i64 pg, .int .i64 sz, .int .i64 n, .string s, .int .i64 pe, .slice ao L.length cap] 34)).alloc (.cells #[.int .i64 0, .int .i64 0, .string ⟨#[]⟩, .int .i64 0, .slice none 0 0, .int .i64 0, .int .i64 0, .int .i64 0] 38)).alloc (.cells #[.int .i64 0, .int .i64 0, .string ⟨#[]⟩, .int .i64 0, .slice none 0 0, .int .i64 0, .int .i64 0, .int .i64 0] 38)) y HS.out.rl hu pe ao cap L (hC.below (((below_new _ _).alloc (by simp) _).alloc (by simp; omega) _)) hL)
  rw [hm] at CM
  clear hk h hC hL hm hu
  show Calls _ _ #[.pointer (some ⟨r, 0, none⟩), .agg #[.int .i64 k, .int .i64 un, .int .i64 ep, .int .i64 pg, .int .i64 sz, .int .i64 n, .string s, .int .i64 pe, .slice ao L.length cap]] w _
  go_enter Tryz.func59, Tryz.ntmps59
  unfold ptrL at CM
  go_wp2_with (first
    | (go_at_call 76; refine CM.out.mono ?_; rintro e w1 ⟨rfl, hb1⟩; have HS1 := Lib.hid (HS.out.below hb1); obtain ⟨l1, l2, l3⟩ := HS1.out.small; obtain ⟨lo, lc, bo, cb, g1, g2, g3, g4⟩ := HS1.out.rl.open; obtain ⟨⟨c0, c1, c2, c3, c4, c5⟩, _⟩ := six_cells g1; obtain ⟨⟨x0, x1, x2, x3, x4, x5, x6, x7⟩, fx0, fx1, fx2, fx3, fx4, fx5, fx6, fx7⟩ := eight_cells (HS1.out.xs _ rfl); have lx := lt_of_block (HS1.out.xs _ rfl); have HS2 := Lib.hid (HS1.out.putx0 (.int .i64 48)); have hne : r ≠ w.heap.size + 1 + 1 := (by omega); have HCL := Lib.hid (HS2.out.rl.cl (cellK ((Kept.refl (fun k => k ≠ w.heap.size + 1 + 1) w1).setCell (p := ⟨w.heap.size + 1 + 1, 0, none⟩) (fun h => h rfl) (.int .i64 48)) hne c1)); have HM := Lib.hid (show y.L.length ≤ 1000 ∧ ∀ c ∈ y.L, c.length ≤ 1000 from ⟨by have := (good_small g4).1; omega, fun c hc => by have := (good_small g4).2 c hc; omega⟩); clear g1 g2 g3 g4 hb1 c2 c3 c4 c5)
    | (go_at_call 25; refine (keepCopyO_any y.ep lo lc y.L _ HCL.out HM.out).mono ?_; rintro e w2 ⟨v, rfl, hO, hb2⟩; have HO := Lib.hid hO; obtain ⟨go, gc, hv, _⟩ := hO.form; subst hv; have HS3 := Lib.hid (HS2.out.below hb2); have HLT := Lib.hid (fun k hk => (rl_thing r).lt HS2.out.rl k hk); obtain ⟨l1', l2', _⟩ := HS2.out.small; have HB := Lib.hid (show w.heap.size + 1 + 1 < (w1.setCell ⟨w.heap.size + 1 + 1, 0, none⟩ (.int .i64 48)).heap.size from lt_of_block HS2.out.xcells); obtain ⟨nl1, nl2, _⟩ := HS3.out.small; have lx := lt_of_block HS3.out.xcells; clear x0 x1 x2 x3 x4 x5 x6 x7 fx0 fx1 fx2 fx3 fx4 fx5 fx6 fx7; obtain ⟨⟨x0, x1, x2, x3, x4, x5, x6, x7⟩, fx0, fx1, fx2, fx3, fx4, fx5, fx6, fx7⟩ := eight_cells HS3.out.xcells; obtain ⟨⟨z0, z1, z2, z3, z4, z5, z6, z7⟩, fz0, fz1, fz2, fz3, fz4, fz5, fz6, fz7⟩ := eight_cells HS3.out.zero; clear hO hb2 l1' l2'))
  have H4 := Lib.hid ((ld_any8 (HS3.out.putx34 (.int .i64 y.ep) (.slice go y.L.length gc))).eight (.int .i64 48) (.int .i64 0) (.string ⟨#[]⟩) (.int .i64 y.ep) (.slice go y.L.length gc) (.int .i64 0) (.int .i64 0) (.int .i64 0))
  exact ans_ret (x := anL 48 y.ep y.L) (ao := go) (cap := gc) rfl H4.out.zero rfl rfl (H4.out.tells (x := anL 48 y.ep y.L) (by have := HB.out; omega) HLT.out (CG.behind HO.out (((xkept _ _ _ _ _ _).mono (S := fun k => k ≠ w.heap.size + 1 + 1) (fun k hk => hk.1)).trans ((eight_kept _ _ _ _ _ _ _ _ _ _).mono (T := fun k => k ≠ w.heap.size + 1 + 1 ∧ k ≠ w.heap.size + 1) (fun k hk => hk.2))) (fun k hk => by have := HB.out; omega) ((eight_size _ _ _ _ _ _ _ _ _ _).trans (by simp [World.setCell]))))
end Go.Proofs.YtkicjgaejieinaaGreat
namespace Go.Proofs.YtkicjgaejieinaaGreat
set_option linter.unusedVariables false
open Go.RowKit
set_option maxRecDepth 20000
/-- the first i units are there -/
def MkN (w0 : World) (r : Nat) (N : Nd) (i : Nat) (W : World) : Prop :=
  ∃ (A : Array Value) (ro rl : Nat) (B : Nat → Nat × Nat) (G : Nat → Prop), Tab A i B ro rl ∧ BundG (i + 3) (nodeT r A ro rl B N) G W ∧ (∀ k, G k → w0.heap.size ≤ k) ∧ Below w0.heap.size w0 W
theorem mkn_start {w0 w1 w2 : World} {rl ro : Nat} {G1 G2 : Nat → Prop} {N : Nd} {A : Array Value} {B : Nat → Nat × Nat} (h1 : RL rl G1 w1 N.l) (g1 : ∀ k, G1 k → w0.heap.size ≤ k) (b1 : Below w0.heap.size w0 w1) (h2 : RO ro G2 w2 N.o) (g2 : ∀ k, G2 k → w1.heap.size ≤ k) (b2 : Below w1.heap.size w1 w2) (hT : Tab A 0 B ro rl) :
    MkN w0 w2.heap.size N 0 (w2.alloc (.cells A 88)) := by
  have hp := fun i (_ : i < 0) => nodeT_part w2.heap.size A ro rl B N i
  have q0 : BundG 0 (nodeT w2.heap.size A ro rl B N) (fun _ => False) w0 := ⟨fun _ _ => False, fun i hi => absurd hi (Nat.not_lt_zero i), fun i j hi => absurd hi (Nat.not_lt_zero i), fun k => ⟨fun h => h.elim, fun ⟨i, hi, _⟩ => absurd hi (Nat.not_lt_zero i)⟩⟩
  have q1 := (q0.more (fun i _ => nodeT_part w2.heap.size A ro rl B N i) b1 (U := fun F W => RL rl F W N.l) h1 g1).same (T2 := nodeT w2.heap.size A ro rl B N) (fun i hi F W hF => by
    match i, hi, hF with
    | 0, _, hF => exact hF
    | j + 1, hi, _ => omega)
  have q2 := (q1.more (fun i _ => nodeT_part w2.heap.size A ro rl B N i) b2 (U := fun F W => RO ro F W N.o) h2 g2).same (T2 := nodeT w2.heap.size A ro rl B N) (fun i hi F W hF => by
    match i, hi, hF with
    | 0, _, hF => exact hF
    | 1, _, hF => exact hF
    | j + 2, hi, _ => omega)
  have b3 : Below w2.heap.size w2 (w2.alloc (.cells A 88)) := (Below.refl _ _).alloc (Nat.le_refl _) _
  have q3 := (q2.more (fun i _ => nodeT_part w2.heap.size A ro rl B N i) b3 (U := fun F W => W.heap[w2.heap.size]? = some (.cells A 88 (0, 0)) ∧ ∀ k, F k ↔ k = w2.heap.size) (H := fun k => k = w2.heap.size) ⟨heap_alloc_new _ _, fun k => Iff.rfl⟩ (fun k hk => by omega)).same (T2 := nodeT w2.heap.size A ro rl B N) (fun i hi F W hF => by
    match i, hi, hF with
    | 0, _, hF => exact hF
    | 1, _, hF => exact hF
    | 2, _, hF => exact hF
    | j + 3, hi, _ => omega)
  have z1 := b1.size
  have z2 := b2.size
  refine ⟨A, ro, rl, B, _, hT, q3, fun k hk => ?_, (b1.trans (b2.mono z1)).alloc (by omega) _⟩
  rcases hk with ((hk | hk) | hk) | hk
  · exact hk.elim
  · exact g1 k hk
  · have := g2 k hk; omega
  · omega
theorem MkN.step {w0 W w2 : World} {r i r2 q2 : Nat} {N : Nd} {G2 : Nat → Prop} (h : MkN w0 r N i W) (hi : i < 16) (hb : Below W.heap.size W w2) (hu : RU r2 q2 G2 w2 (N.u i)) (hg : ∀ k, G2 k → W.heap.size ≤ k) : MkN w0 r N (i + 1) (w2.setCell ⟨r, i, none⟩ (ptrU r2)) := by
  obtain ⟨A, ro, rl, B, G, hT, hB, hG, hb0⟩ := h
  have q1 := (hB.more (fun i _ => nodeT_part r A ro rl B N i) hb (U := fun F W => RU r2 q2 F W (N.u i)) hu hg).same (T2 := nodeT r A ro rl (fun j => if j = i then (r2, q2) else B j) N) (fun k hk F W hF => by
    unfold swapP at hF
    match k, hk, hF with
    | 0, _, hF => rw [if_neg (by omega)] at hF; exact hF
    | 1, _, hF => rw [if_neg (by omega)] at hF; exact hF
    | 2, _, hF => rw [if_neg (by omega)] at hF; exact hF
    | j + 3, _, hF =>
      by_cases e : j = i
      · subst e
        rw [if_pos rfl] at hF
        show RU (if j = j then (r2, q2) else B j).1 (if j = j then (r2, q2) else B j).2 F W (N.u j)
        rw [if_pos rfl]
        exact hF
      · rw [if_neg (by omega)] at hF
        show RU (if j = i then (r2, q2) else B j).1 (if j = i then (r2, q2) else B j).2 F W (N.u j)
        rw [if_neg e]
        exact hF)
  obtain ⟨F, h2f, hFG, huse⟩ := q1.use (fun i _ => nodeT_part r A ro rl _ N i) (i := 2) (by omega)
  have hA : w2.heap[r]? = some (.cells A 88 (0, 0)) := h2f.1
  have hF2 : ∀ k, F k ↔ k = r := h2f.2
  have hrG := hFG r ((hF2 r).2 rfl)
  have hk : Kept (fun k => k ≠ r) w2 (w2.setCell ⟨r, i, none⟩ (ptrU r2)) := (Kept.refl _ w2).setCell (p := ⟨r, i, none⟩) (fun h => h rfl) _
  have hl : Leaves (fun (F : Nat → Prop) (W : World) (_ : Unit) => W.heap[r]? = some (.cells (A.setIfInBounds i (ptrU r2)) 88 (0, 0)) ∧ ∀ k, F k ↔ k = r) F w2 (w2.setCell ⟨r, i, none⟩ (ptrU r2)) () :=
    ⟨F, ⟨heap_setCell_same w2 r i A _ _ hA, hF2⟩, hk.mono (fun k hn e => hn ((hF2 k).2 e)), fun k hk => .inl hk⟩
  obtain ⟨G', s1, s2, s3⟩ := huse _ (fun (G' : Nat → Prop) (W : World) (_ : Unit) => BundG (i + 1 + 3) (nodeT r (A.setIfInBounds i (ptrU r2)) ro rl (fun j => if j = i then (r2, q2) else B j) N) G' W) _ () () (fun G' W h => BundG.same (n := i + 1 + 3) (show BundG (i + 1 + 3) _ G' W from (by rw [show i + 1 + 3 = i + 3 + 1 by omega]; exact h)) (fun k _ F W hF => by
    match k, hF with
    | 0, hF => exact hF
    | 1, hF => exact hF
    | 2, hF => exact hF
    | j + 3, hF => exact hF)) hl
  have z0 := hb0.size
  have z1 := hb.size
  refine ⟨_, ro, rl, _, G', hT.put hi (r2, q2), s1, fun k hk => ?_, ?_⟩
  · rcases s3 k hk with (h | h) | h
    · exact hG k h
    · have := hg k h; omega
    · omega
  · refine (hb0.trans (hb.mono z0)).trans (hk.toBelow (by omega) (fun k hk e => ?_))
    rcases hrG with h | h
    · have := hG r h; omega
    · have := hg r h; omega
end Go.Proofs.YtkicjgaejieinaaGreat
