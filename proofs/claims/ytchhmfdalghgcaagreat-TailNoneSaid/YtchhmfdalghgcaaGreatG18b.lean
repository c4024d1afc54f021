/- What the program's unit answers any question, and all that the laws of units ask of the program. Conditions: it and the question lie where the call was told; the question's data are not too long. What the document's own layout answers, asked for a change that may not come next. Conditions: it and the question lie where the call was told; no more than 1000000 units were noted. The document's own nodes while they are made, unit by unit. Conditions: as each statement says. -/
import Derived.Test.YtchhmfdalghgcaaGreatG17b
import Derived.Test.YtchhmfdalghgcaaGreatG17a
import Derived.Laws.EntriesVeiled
set_option linter.unusedVariables false
namespace Go.Proofs.YtchhmfdalghgcaaGreat
set_option linter.unusedVariables false
open Go.RowKit
set_option maxRecDepth 20000
def fnV (f : FuncId) : Value := .func (.func f) #[] #[]
theorem deed_none (k : Int) (w : World) (hk : k < 1 ∨ 5 < k) : Calls Tryz.prog 125 #[.int .i64 k] w fun e w' => e = .returned .nilFunc ∧ Below w.heap.size w w' := by
  by_cases h0 : k = 0
  · subst h0
    clear hk
    go_enter Tryz.func125, Tryz.ntmps125
    go_wp2
    go_ret
    exact ⟨rfl, (Below.refl _ _).alloc (Nat.le_refl _) _⟩
  by_cases h1 : k < 0
  · clear hk h0
    go_enter Tryz.func125, Tryz.ntmps125
    go_wp2
    go_ret
    exact ⟨rfl, (Below.refl _ _).alloc (Nat.le_refl _) _⟩
  have h2 : 6 ≤ k := by omega
  have h3 : 0 ≤ k := by omega
  clear hk h0 h1
  go_enter Tryz.func125, Tryz.ntmps125
  go_wp2
  go_ret
  exact ⟨rfl, (Below.refl _ _).alloc (Nat.le_refl _) _⟩
theorem deed_1 (w : World) : Calls Tryz.prog 125 #[.int .i64 1] w fun e w' => e = .returned (fnV 126) ∧ Below w.heap.size w w' := by
  go_enter Tryz.func125, Tryz.ntmps125
  go_wp2
  go_ret
  exact ⟨rfl, (Below.refl _ _).alloc (Nat.le_refl _) _⟩
theorem deed_2 (w : World) : Calls Tryz.prog 125 #[.int .i64 2] w fun e w' => e = .returned (fnV 127) ∧ Below w.heap.size w w' := by
  go_enter Tryz.func125, Tryz.ntmps125
  go_wp2
  go_ret
  exact ⟨rfl, (Below.refl _ _).alloc (Nat.le_refl _) _⟩
theorem deed_3 (w : World) : Calls Tryz.prog 125 #[.int .i64 3] w fun e w' => e = .returned (fnV 128) ∧ Below w.heap.size w w' := by
  go_enter Tryz.func125, Tryz.ntmps125
  go_wp2
  go_ret
  exact ⟨rfl, (Below.refl _ _).alloc (Nat.le_refl _) _⟩
theorem deed_4 (w : World) : Calls Tryz.prog 125 #[.int .i64 4] w fun e w' => e = .returned (fnV 129) ∧ Below w.heap.size w w' := by
  go_enter Tryz.func125, Tryz.ntmps125
  go_wp2
  go_ret
  exact ⟨rfl, (Below.refl _ _).alloc (Nat.le_refl _) _⟩
theorem deed_5 (w : World) : Calls Tryz.prog 125 #[.int .i64 5] w fun e w' => e = .returned (fnV 130) ∧ Below w.heap.size w w' := by
  go_enter Tryz.func125, Tryz.ntmps125
  go_wp2
  go_ret
  exact ⟨rfl, (Below.refl _ _).alloc (Nat.le_refl _) _⟩
theorem nil_nil (w : World) : (binOp .eql 201 .nilFunc .nilFunc).run Tryz.prog w = .ok (.bool true) w := rfl
set_option maxHeartbeats 800000 in
theorem answer_none (b q : Nat) (G : Nat → Prop) (w : World) (u : Us) (a : Ak) (h : UM b q G w u) (hk : a.kind < 1 ∨ 5 < a.kind) :
    Calls Tryz.prog 124 #[ptrV b, askV a] w fun e w' => e = .returned (anV 1 0 noS 0) ∧ Leaves (UM b q) G w w' u := by
  obtain ⟨k, un, ep, pg, sz, n, s, pe, L, ao, cap⟩ := a
  obtain ⟨p, ue, dn⟩ := u
  simp only at *
  have CC := Lib.hid coded_ag
  have HS := Lib.hid (boxed_start (um_thing b q) h #[.int .i64 k, .int .i64 un, .int .i64 ep, .int .i64 pg, .int .i64 sz, .int .i64 n, .string s, .int .i64 pe, .slice ao L.length cap])
  unfold zeroAn at HS
  have hbw := h.small
  clear h
  show Calls _ _ #[.pointer (some ⟨b, 0, none⟩), .agg #[.int .i64 k, .int .i64 un, .int .i64 ep, .int .i64 pg, .int .i64 sz, .int .i64 n, .string s, .int .i64 pe, .slice ao L.length cap]] w _
  have HD := Lib.hid (fun w => deed_none k w hk)
  have hn := nil_nil
  clear hk
  go_enter Tryz.func124, Tryz.ntmps124
  go_wp2_with (first | (go_at_call 125; refine (HD.out _).mono ?_; rintro e w1 ⟨rfl, hb1⟩; have HT2 := Lib.hid (HS.out.below (um_thing b q) hb1); clear hb1) | (go_at_call 123; refine (CC.out _ _).mono ?_; rintro e w3 ⟨rfl, hb3⟩; have HT3 := Lib.hid (HT2.out.below (um_thing b q) hb3); clear hb3; obtain ⟨nl1, nl2⟩ := HT3.out.small; obtain ⟨⟨ny0, ny1, ny2, ny3, ny4, ny5, ny6, ny7⟩, nfy0, nfy1, nfy2, nfy3, nfy4, nfy5, nfy6, nfy7⟩ := eight_cells HT3.out.ans))
  exact ans_ret (x := anP (1) (0) noS 0) (ao := none) (cap := 0) rfl (HT3.out.fin (um_thing b q)).1 rfl rfl ⟨rfl, (HT3.out.fin (um_thing b q)).2⟩
set_option maxHeartbeats 800000 in
theorem answer_sealed (b q : Nat) (G : Nat → Prop) (w : World) (u : Us) (a : Ak) (f : FuncId) (h : UM b q G w u) (hd : ∀ w, Calls Tryz.prog 125 #[.int .i64 a.kind] w fun e w' => e = .returned (fnV f) ∧ Below w.heap.size w w') (he : a.epoch < u.epoch) :
    Calls Tryz.prog 124 #[ptrV b, askV a] w fun e w' => e = .returned (anV 40 0 noS 0) ∧ Leaves (UM b q) G w w' u := by
  obtain ⟨k, un, ep, pg, sz, n, s, pe, L, ao, cap⟩ := a
  obtain ⟨p, ue, dn⟩ := u
  simp only at *
  have CC := Lib.hid coded_ag
  have HS := Lib.hid (boxed_start (um_thing b q) h #[.int .i64 k, .int .i64 un, .int .i64 ep, .int .i64 pg, .int .i64 sz, .int .i64 n, .string s, .int .i64 pe, .slice ao L.length cap])
  unfold zeroAn at HS
  have hbw := h.small
  clear h
  show Calls _ _ #[.pointer (some ⟨b, 0, none⟩), .agg #[.int .i64 k, .int .i64 un, .int .i64 ep, .int .i64 pg, .int .i64 sz, .int .i64 n, .string s, .int .i64 pe, .slice ao L.length cap]] w _
  have HD := Lib.hid hd
  unfold fnV at HD
  clear hd
  have hn : ∀ w : World, (binOp .eql 201 (.func (.func f) #[] #[]) .nilFunc).run Tryz.prog w = .ok (.bool false) w := fun _ => rfl
  go_enter Tryz.func124, Tryz.ntmps124
  go_wp2_with (go_at_call 125; refine (HD.out _).mono ?_; rintro e w1 ⟨rfl, hb1⟩; have HT1 := Lib.hid (HS.out.below (um_thing b q) hb1); clear hb1)
  obtain ⟨l1, l2⟩ := HT1.out.small
  obtain ⟨H, hH, _⟩ := HT1.out.use
  have x2 : w1.cell? ⟨w.heap.size, 2, none⟩ = some (.int .i64 ep) := cell_of HT1.out.ask 2
  obtain ⟨c0, c1, c2, _⟩ := three_cells hH.cells
  have hb := hH.small
  clear hH
  go_quiet (fail)
  have HT2 := Lib.hid (HT1.out.drewN (um_thing b q) nq)
  generalize hW2 : World.drewN w1 nq = w2 at *
  clear hW2 x2 c0 c1 c2 hb l1 l2
  obtain ⟨l1, l2⟩ := HT2.out.small
  go_wp2_with (go_at_call 123; refine (CC.out _ _).mono ?_; rintro e w3 ⟨rfl, hb3⟩; have HT3 := Lib.hid (HT2.out.below (um_thing b q) hb3); clear hb3; obtain ⟨nl1, nl2⟩ := HT3.out.small; obtain ⟨⟨ny0, ny1, ny2, ny3, ny4, ny5, ny6, ny7⟩, nfy0, nfy1, nfy2, nfy3, nfy4, nfy5, nfy6, nfy7⟩ := eight_cells HT3.out.ans)
  exact ans_ret (x := anP (40) (0) noS 0) (ao := none) (cap := 0) rfl (HT3.out.fin (um_thing b q)).1 rfl rfl ⟨rfl, (HT3.out.fin (um_thing b q)).2⟩
end Go.Proofs.YtchhmfdalghgcaaGreat
namespace Go.Proofs.YtchhmfdalghgcaaGreat
set_option linter.unusedVariables false
open Go.RowKit
set_option maxRecDepth 20000
end Go.Proofs.YtchhmfdalghgcaaGreat
namespace Go.Proofs.YtchhmfdalghgcaaGreat
set_option linter.unusedVariables false
open Go.RowKit
set_option maxRecDepth 20000
/-- the first i units are there -/
def MkN (w0 : World) (r : Nat) (N : Nd) (i : Nat) (W : World) : Prop :=
  ∃ (A : Array Value) (ro rl : Nat) (B : Nat → Nat × Nat) (G : Nat → Prop), Tab A i B ro rl ∧ BundG (i + 3) (nodeT r A ro rl B N) G W ∧ (∀ k, G k → w0.heap.size ≤ k) ∧ Below w0.heap.size w0 W
theorem mkn_start {w0 w1 w2 : World} {rl ro : Nat} {G1 G2 : Nat → Prop} {N : Nd} {A : Array Value} {B : Nat → Nat × Nat} (h1 : RL rl G1 w1 N.l) (g1 : ∀ k, G1 k → w0.heap.size ≤ k) (b1 : Below w0.heap.size w0 w1) (h2 : RO ro G2 w2 N.o) (g2 : ∀ k, G2 k → w1.heap.size ≤ k) (b2 : Below w1.heap.size w1 w2) (hT : Tab A 0 B ro rl) :
    MkN w0 w2.heap.size N 0 (w2.alloc (.cells A 99)) := by
  have hp := fun i (_ : i < 0) => nodeT_part w2.heap.size A ro rl B N i
  have q0 : BundG 0 (nodeT w2.heap.size A ro rl B N) (fun _ => False) w0 := ⟨fun _ _ => False, fun i hi => absurd hi (Nat.not_lt_zero i), fun i j hi => absurd hi (Nat.not_lt_zero i), fun k => ⟨fun h => h.elim, fun ⟨i, hi, _⟩ => absurd hi (Nat.not_lt_zero i)⟩⟩
  have q1 := (q0.more (fun i _ => nodeT_part w2.heap.size A ro rl B N i) b1 (U := fun F W => RL rl F W N.l) h1 g1).same (T2 := nodeT w2.heap.size A ro rl B N) (fun i hi F W hF => by
    match i, hi, hF with
    | 0, _, hF => exact hF
    | j + 1, hi, _ => omega)
  have q2 := (q1.more (fun i _ => nodeT_part w2.heap.size A ro rl B N i) b2 (U := fun F W => RO ro F W N.o) h2 g2).same (T2 := nodeT w2.heap.size A ro rl B N) (fun i hi F W hF => by
    match i, hi, hF with
    | 0, _, hF => exact hF
    | 1, _, hF => exact hF
    | j + 2, hi, _ => omega)
  have b3 : Below w2.heap.size w2 (w2.alloc (.cells A 99)) := (Below.refl _ _).alloc (Nat.le_refl _) _
  have q3 := (q2.more (fun i _ => nodeT_part w2.heap.size A ro rl B N i) b3 (U := fun F W => W.heap[w2.heap.size]? = some (.cells A 99 (0, 0)) ∧ ∀ k, F k ↔ k = w2.heap.size) (H := fun k => k = w2.heap.size) ⟨heap_alloc_new _ _, fun k => Iff.rfl⟩ (fun k hk => by omega)).same (T2 := nodeT w2.heap.size A ro rl B N) (fun i hi F W hF => by
    match i, hi, hF with
    | 0, _, hF => exact hF
    | 1, _, hF => exact hF
    | 2, _, hF => exact hF
    | j + 3, hi, _ => omega)
  have z1 := b1.size
  have z2 := b2.size
  refine ⟨A, ro, rl, B, _, hT, q3, fun k hk => ?_, (b1.trans (b2.mono z1)).alloc (by omega) _⟩
  rcases hk with ((hk | hk) | hk) | hk
  · exact hk.elim
  · exact g1 k hk
  · have := g2 k hk; omega
  · omega
theorem MkN.step {w0 W w2 : World} {r i r2 q2 : Nat} {N : Nd} {G2 : Nat → Prop} (h : MkN w0 r N i W) (hi : i < 16) (hb : Below W.heap.size W w2) (hu : RU r2 q2 G2 w2 (N.u i)) (hg : ∀ k, G2 k → W.heap.size ≤ k) : MkN w0 r N (i + 1) (w2.setCell ⟨r, i, none⟩ (ptrU r2)) := by
  obtain ⟨A, ro, rl, B, G, hT, hB, hG, hb0⟩ := h
  have q1 := (hB.more (fun i _ => nodeT_part r A ro rl B N i) hb (U := fun F W => RU r2 q2 F W (N.u i)) hu hg).same (T2 := nodeT r A ro rl (fun j => if j = i then (r2, q2) else B j) N) (fun k hk F W hF => by
    unfold swapP at hF
    match k, hk, hF with
    | 0, _, hF => rw [if_neg (by omega)] at hF; exact hF
    | 1, _, hF => rw [if_neg (by omega)] at hF; exact hF
    | 2, _, hF => rw [if_neg (by omega)] at hF; exact hF
    | j + 3, _, hF =>
      by_cases e : j = i
      · subst e
        rw [if_pos rfl] at hF
        show RU (if j = j then (r2, q2) else B j).1 (if j = j then (r2, q2) else B j).2 F W (N.u j)
        rw [if_pos rfl]
        exact hF
      · rw [if_neg (by omega)] at hF
        show RU (if j = i then (r2, q2) else B j).1 (if j = i then (r2, q2) else B j).2 F W (N.u j)
        rw [if_neg e]
        exact hF)
  obtain ⟨F, h2f, hFG, huse⟩ := q1.use (fun i _ => nodeT_part r A ro rl _ N i) (i := 2) (by omega)
  have hA : w2.heap[r]? = some (.cells A 99 (0, 0)) := h2f.1
  have hF2 : ∀ k, F k ↔ k = r := h2f.2
  have hrG := hFG r ((hF2 r).2 rfl)
  have hk : Kept (fun k => k ≠ r) w2 (w2.setCell ⟨r, i, none⟩ (ptrU r2)) := (Kept.refl _ w2).setCell (p := ⟨r, i, none⟩) (fun h => h rfl) _
  have hl : Leaves (fun (F : Nat → Prop) (W : World) (_ : Unit) => W.heap[r]? = some (.cells (A.setIfInBounds i (ptrU r2)) 99 (0, 0)) ∧ ∀ k, F k ↔ k = r) F w2 (w2.setCell ⟨r, i, none⟩ (ptrU r2)) () :=
    ⟨F, ⟨heap_setCell_same w2 r i A _ _ hA, hF2⟩, hk.mono (fun k hn e => hn ((hF2 k).2 e)), fun k hk => .inl hk⟩
  obtain ⟨G', s1, s2, s3⟩ := huse _ (fun (G' : Nat → Prop) (W : World) (_ : Unit) => BundG (i + 1 + 3) (nodeT r (A.setIfInBounds i (ptrU r2)) ro rl (fun j => if j = i then (r2, q2) else B j) N) G' W) _ () () (fun G' W h => BundG.same (n := i + 1 + 3) (show BundG (i + 1 + 3) _ G' W from (by rw [show i + 1 + 3 = i + 3 + 1 by omega]; exact h)) (fun k _ F W hF => by
    match k, hF with
    | 0, hF => exact hF
    | 1, hF => exact hF
    | 2, hF => exact hF
    | j + 3, hF => exact hF)) hl
  have z0 := hb0.size
  have z1 := hb.size
  refine ⟨_, ro, rl, _, G', hT.put hi (r2, q2), s1, fun k hk => ?_, ?_⟩
  · rcases s3 k hk with (h | h) | h
    · exact hG k h
    · have := hg k h; omega
    · omega
  · refine (hb0.trans (hb.mono z0)).trans (hk.toBelow (by omega) (fun k hk e => ?_))
    rcases hrG with h | h
    · have := hG r h; omega
    · have := hg r h; omega
end Go.Proofs.YtchhmfdalghgcaaGreat
