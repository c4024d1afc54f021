/- What the program's layout's New makes; all that the laws of the layout ask of the program. Conditions: the projection lies where the call was told, and is not too large. The program's nodes while they are made, unit by unit. Conditions: as each statement says. -/
import Derived.Test.YtphigibhgldnpaaG23b
import Derived.Test.YtphigibhgldnpaaG21a
set_option linter.unusedVariables false
namespace Go.Proofs.Ytphigibhgldnpaa
set_option linter.unusedVariables false
open Go.RowKit Go.Maps
set_option maxRecDepth 20000
theorem lp_new_no (ep : Int) (ao : Option Addr) (cap : Nat) (L : List (List Int)) (w : World) (h : CL w ao L) (hl : L.length ≤ 255 ∧ ∀ c ∈ L, c.length ≤ 255) (hg : goodB ep L = false) :
    Calls Try.prog 19 #[.agg #[.int .i64 ep, .slice ao L.length cap]] w fun e w' => e = .returned (.tuple #[.pointer none, .int .i64 11]) ∧ Below w.heap.size w w' := by
  have HB0 := Lib.hid (below_new w (.cells #[.int .i64 ep, .slice ao L.length cap] 30))
  have CGD := Lib.hid (pgood_any ep ao cap L _ (h.below HB0.out) hl)
  rw [hg] at CGD
  clear h hl hg
  go_enter Try.func19, Try.ntmps19
  go_wp2_with (go_at_call 28; refine CGD.out.mono ?_; rintro e w1 ⟨rfl, hb1⟩; have HB1 := Lib.hid (HB0.out.trans (hb1.mono HB0.out.size)); clear hb1)
  go_ret2
  exact ⟨rfl, HB1.out⟩
theorem lb_new (w : World) : LB (w.heap.size + 1) (fun k => w.heap.size ≤ k ∧ k < w.heap.size + 2) ((w.alloc (.map #[] 0)).alloc (.cells #[.int .i64 0, .slice none 0 0, .map (some w.heap.size), .int .i64 (-1), .int .i64 0, .int .i64 (-1)] 75)) ⟨0, [], [], -1, 0, -1⟩ := by
  have h1 := heap_alloc_new (w.alloc (.map #[] 0)) (.cells #[.int .i64 0, .slice none 0 0, .map (some w.heap.size), .int .i64 (-1), .int .i64 0, .int .i64 (-1)] 75)
  rw [show (w.alloc (.map #[] 0)).heap.size = w.heap.size + 1 from by simp] at h1
  exact ⟨.slice none 0 0, w.heap.size, fun _ => False, h1, CG.no _ _, (Usd.made w).below (below_new _ _), by omega, ⟨by omega, by omega⟩, ⟨by omega, by omega⟩, fun k hk => hk.elim, fun k hk => by simp; omega⟩
set_option maxHeartbeats 1000000 in
theorem lp_new_yes (ep : Int) (ao : Option Addr) (cap : Nat) (L : List (List Int)) (w : World) (h : CL w ao L) (hl : L.length ≤ 255 ∧ ∀ c ∈ L, c.length ≤ 255) (hg : goodB ep L = true) :
    Calls Try.prog 19 #[.agg #[.int .i64 ep, .slice ao L.length cap]] w fun e w' => ∃ (b : Nat) (G : Nat → Prop), e = .returned (.tuple #[ptrL b, .int .i64 0]) ∧ LM b G w' (newL ep L) ∧ (∀ k, G k → w.heap.size ≤ k) ∧ Below w.heap.size w w' := by
  have HB0 := Lib.hid (below_new w (.cells #[.int .i64 ep, .slice ao L.length cap] 30))
  have HP := Lib.hid (show PB (w.alloc (.cells #[.int .i64 ep, .slice ao L.length cap] 30)) w.heap.size ep ao L.length cap from heap_alloc_new _ _)
  have CGD := Lib.hid (pgood_any ep ao cap L _ (h.below HB0.out) hl)
  have HGD := Lib.hid hg
  have HC := Lib.hid h
  have HL := Lib.hid hl
  rw [hg] at CGD
  have hmm := @run_makeMap Try.prog
  clear h hl hg
  go_enter Try.func19, Try.ntmps19
  go_wp2_with (first
    | (go_at_call 28; refine CGD.out.mono ?_; rintro e w1 ⟨rfl, hb1⟩; have HB1 := Lib.hid (HB0.out.trans (hb1.mono HB0.out.size)); obtain ⟨p0, p1⟩ := (HP.out.below hb1).cells; have hpz := block_lt_of_cell p0; clear hb1)
    | (go_at_call 29; have HBN := Lib.hid (show Below w.heap.size w ((w1.alloc (.map #[] 0)).alloc (.cells #[.int .i64 0, .slice none 0 0, .map (some w1.heap.size), .int .i64 (-1), .int .i64 0, .int .i64 (-1)] 75)) from (HB1.out.alloc HB1.out.size _).alloc (by have := HB1.out.size; simp; omega) _); have CQ := lp_count (w1.heap.size + 1) _ _ _ (lb_new w1) ep ao cap L (fun W hk => HC.out.below (HBN.out.trans (hk.toBelow HBN.out.size (fun k h1 h2 => by have := HB1.out.size; omega)))) HL.out (Nat.zero_le _); unfold ptrL at CQ; refine CQ.mono ?_; rintro e w2 ⟨rfl, hl⟩; have HLV := Lib.hid hl; clear hl CQ))
  go_ret2
  obtain ⟨G', r1, r2, r3⟩ := HLV.out
  have hz := HB1.out.size
  have hy := HBN.out.size
  exact ⟨w1.heap.size + 1, G', rfl, ⟨HGD.out, r1⟩, fun k hk => (r3 k hk).elim (fun h => by omega) (fun h => by omega), HBN.out.trans (r2.toBelow hy (fun k h1 h2 => by omega))⟩
theorem lp_ask (b : Nat) (G : Nat → Prop) (w : World) (y : Ly) (a : Ak) (h : LM b G w y) (hL : a.L.length ≤ 255 ∧ ∀ c ∈ a.L, c.length ≤ 255) (hu : y.used.length ≤ 100000) (hA : ∀ W, Kept (fun k => ¬ G k) w W → CL W a.ao a.L) :
    Calls Try.prog 104 #[ptrL b, askV a] w fun e w' => Tells (LM b) G w (y.done a) (y.ans a) e w' := by
  obtain ⟨hg, h⟩ := h
  have hy := good_small hg
  suffices hs : Calls Try.prog 104 #[ptrL b, askV a] w fun e w' => Tells (LB b) G w (y.done a) (y.ans a) e w' from hs.mono (fun e w' ht => ht.to (fun H W hb => ⟨done_good hg a, hb⟩))
  by_cases h9 : a.kind = 9
  · have ha : y.ans a = ⟨0, y.n, noL, y.ep, y.L, y.mark, y.size, 0⟩ := if_pos h9
    have hd : y.done a = y := by
      unfold Ly.done
      rw [if_neg (by omega), if_neg (fun h => by have := h.1; omega)]
    rw [ha, hd]
    exact lp_do_tell b G w y a h hy h9
  by_cases h10 : a.kind = 10
  · cases hm : y.may a.pe a.L
    · have ha : y.ans a = anL 48 y.ep y.L := by
        unfold Ly.ans
        rw [if_neg h9, if_pos h10, if_neg (by rw [hm]; decide)]
      have hd : y.done a = y := by
        unfold Ly.done
        rw [if_pos h10, if_neg (by rw [hm]; decide)]
      rw [ha, hd]
      exact lp_do_change b G w y y a h hA h10 48 y.ep y.L (fun H W h1 h2 => lp_stay b H W y h1 hy a.pe a.ao a.cap a.L h2 hL hm)
    · have ha : y.ans a = anL 0 a.pe a.L := by
        unfold Ly.ans
        rw [if_neg h9, if_pos h10, if_pos hm]
      have hd : y.done a = ⟨a.pe, a.L, y.used ++ unitsR a.L, y.mark, y.size, y.n⟩ := by
        unfold Ly.done
        rw [if_pos h10, if_pos hm]
      rw [ha, hd]
      exact lp_do_change b G w y _ a h hA h10 0 a.pe a.L (fun H W h1 h2 => lp_turn b H W y h1 hy a.pe a.ao a.cap a.L h2 hL hu hm)
  by_cases h11 : a.kind = 11
  · by_cases hb : badM a
    · have ha : y.ans a = anP 1 0 noL 0 := by
        unfold Ly.ans
        rw [if_neg h9, if_neg h10, if_pos h11, if_pos hb]
      have hd : y.done a = y := by
        unfold Ly.done
        rw [if_neg h10, if_neg (fun h => h.2.1 hb)]
      rw [ha, hd]
      exact lp_do_mark b G w y y a h h11 1 0 0 0 (fun H W h1 => lp_mark_no b H W y h1 a.page a.size a.n (goodI_no hb))
    by_cases hn : y.n < a.n
    · have ha : y.ans a = anM a.n a.page a.size := by
        unfold Ly.ans
        rw [if_neg h9, if_neg h10, if_pos h11, if_neg hb, if_pos hn]
      have hd : y.done a = ⟨y.ep, y.L, y.used, a.page, a.size, a.n⟩ := by
        unfold Ly.done
        rw [if_neg h10, if_pos ⟨h11, hb, hn⟩]
      rw [ha, hd]
      exact lp_do_mark b G w y _ a h h11 0 a.n a.page a.size (fun H W h1 => lp_mark_new b H W y h1 a.page a.size a.n (goodI_yes hb) hn)
    · have ha : y.ans a = anM y.n y.mark y.size := by
        unfold Ly.ans
        rw [if_neg h9, if_neg h10, if_pos h11, if_neg hb, if_neg hn]
      have hd : y.done a = y := by
        unfold Ly.done
        rw [if_neg h10, if_neg (fun h => hn h.2.2)]
      rw [ha, hd]
      exact lp_do_mark b G w y y a h h11 0 y.n y.mark y.size (fun H W h1 => lp_mark_old b H W y h1 a.page a.size a.n (goodI_yes hb) hn)
  · have ha : y.ans a = anP 1 0 noL 0 := by
      unfold Ly.ans
      rw [if_neg h9, if_neg h10, if_neg h11]
    have hd : y.done a = y := by
      unfold Ly.done
      rw [if_neg h10, if_neg (fun h => h11 h.1)]
    rw [ha, hd]
    exact lp_do_other b G w y a h h9 h10 h11
theorem laySays : LaySays LM where
  thing := lm_thing
  good := fun h => h.1
  new_no := fun ep ao cap L w h hl hg => lp_new_no ep ao cap L w h hl hg
  new_yes := fun ep ao cap L w h hl hg => lp_new_yes ep ao cap L w h hl hg
  ask := fun b G w y a h _ hL hu hA => lp_ask b G w y a h hL hu hA
  now := fun b G w y h => lp_now b G w y h.2 (good_small h.1)
  nil_ask := fun w a _ => lp_nil_ask w a
  nil_now := lp_nil_now
end Go.Proofs.Ytphigibhgldnpaa
namespace Go.Proofs.Ytphigibhgldnpaa
set_option linter.unusedVariables false
open Go.RowKit
set_option maxRecDepth 20000
/-- the first i units are there -/
def MkP (UG : Nat → Nat → (Nat → Prop) → World → Us → Prop) (OG : Nat → (Nat → Prop) → World → Od → Prop) (LG : Nat → (Nat → Prop) → World → Ly → Prop) (w0 : World) (r : Nat) (N : Nd) (i : Nat) (W : World) : Prop :=
  ∃ (A : Array Value) (ro rl : Nat) (B : Nat → Nat × Nat) (G : Nat → Prop), TabP A i B ro rl ∧ BundG (i + 3) (nodeP UG OG LG r A ro rl B N) G W ∧ (∀ k, G k → w0.heap.size ≤ k) ∧ Below w0.heap.size w0 W
theorem mkp_start {UG : Nat → Nat → (Nat → Prop) → World → Us → Prop} {OG : Nat → (Nat → Prop) → World → Od → Prop} {LG : Nat → (Nat → Prop) → World → Ly → Prop} (HT : Three UG OG LG) {w0 w1 w2 : World} {rl ro : Nat} {G1 G2 : Nat → Prop} {N : Nd} {A : Array Value} {B : Nat → Nat × Nat} (h1 : LG rl G1 w1 N.l) (g1 : ∀ k, G1 k → w0.heap.size ≤ k) (b1 : Below w0.heap.size w0 w1) (h2 : OG ro G2 w2 N.o) (g2 : ∀ k, G2 k → w1.heap.size ≤ k) (b2 : Below w1.heap.size w1 w2) (hT : TabP A 0 B ro rl) :
    MkP UG OG LG w0 w2.heap.size N 0 (w2.alloc (.cells A 55)) := by
  have hp := fun i (_ : i < 0) => nodeP_part HT w2.heap.size A ro rl B N i
  have q0 : BundG 0 (nodeP UG OG LG w2.heap.size A ro rl B N) (fun _ => False) w0 := ⟨fun _ _ => False, fun i hi => absurd hi (Nat.not_lt_zero i), fun i j hi => absurd hi (Nat.not_lt_zero i), fun k => ⟨fun h => h.elim, fun ⟨i, hi, _⟩ => absurd hi (Nat.not_lt_zero i)⟩⟩
  have q1 := (q0.more (fun i _ => nodeP_part HT w2.heap.size A ro rl B N i) b1 (U := fun F W => LG rl F W N.l) h1 g1).same (T2 := nodeP UG OG LG w2.heap.size A ro rl B N) (fun i hi F W hF => by
    match i, hi, hF with
    | 0, _, hF => exact hF
    | j + 1, hi, _ => omega)
  have q2 := (q1.more (fun i _ => nodeP_part HT w2.heap.size A ro rl B N i) b2 (U := fun F W => OG ro F W N.o) h2 g2).same (T2 := nodeP UG OG LG w2.heap.size A ro rl B N) (fun i hi F W hF => by
    match i, hi, hF with
    | 0, _, hF => exact hF
    | 1, _, hF => exact hF
    | j + 2, hi, _ => omega)
  have b3 : Below w2.heap.size w2 (w2.alloc (.cells A 55)) := (Below.refl _ _).alloc (Nat.le_refl _) _
  have q3 := (q2.more (fun i _ => nodeP_part HT w2.heap.size A ro rl B N i) b3 (U := fun F W => W.heap[w2.heap.size]? = some (.cells A 55 (0, 0)) ∧ ∀ k, F k ↔ k = w2.heap.size) (H := fun k => k = w2.heap.size) ⟨heap_alloc_new _ _, fun k => Iff.rfl⟩ (fun k hk => by omega)).same (T2 := nodeP UG OG LG w2.heap.size A ro rl B N) (fun i hi F W hF => by
    match i, hi, hF with
    | 0, _, hF => exact hF
    | 1, _, hF => exact hF
    | 2, _, hF => exact hF
    | j + 3, hi, _ => omega)
  have z1 := b1.size
  have z2 := b2.size
  refine ⟨A, ro, rl, B, _, hT, q3, fun k hk => ?_, (b1.trans (b2.mono z1)).alloc (by omega) _⟩
  rcases hk with ((hk | hk) | hk) | hk
  · exact hk.elim
  · exact g1 k hk
  · have := g2 k hk; omega
  · omega
theorem MkP.step {UG : Nat → Nat → (Nat → Prop) → World → Us → Prop} {OG : Nat → (Nat → Prop) → World → Od → Prop} {LG : Nat → (Nat → Prop) → World → Ly → Prop} (HT : Three UG OG LG) {w0 W w2 : World} {r i r2 q2 : Nat} {N : Nd} {G2 : Nat → Prop} (h : MkP UG OG LG w0 r N i W) (hi : i < 16) (hb : Below W.heap.size W w2) (hu : UG r2 q2 G2 w2 (N.u i)) (hg : ∀ k, G2 k → W.heap.size ≤ k) : MkP UG OG LG w0 r N (i + 1) (w2.setCell ⟨r, i, none⟩ (ptrV r2)) := by
  obtain ⟨A, ro, rl, B, G, hT, hB, hG, hb0⟩ := h
  have q1 := (hB.more (fun i _ => nodeP_part HT r A ro rl B N i) hb (U := fun F W => UG r2 q2 F W (N.u i)) hu hg).same (T2 := nodeP UG OG LG r A ro rl (fun j => if j = i then (r2, q2) else B j) N) (fun k hk F W hF => by
    unfold swapP at hF
    match k, hk, hF with
    | 0, _, hF => rw [if_neg (by omega)] at hF; exact hF
    | 1, _, hF => rw [if_neg (by omega)] at hF; exact hF
    | 2, _, hF => rw [if_neg (by omega)] at hF; exact hF
    | j + 3, _, hF =>
      by_cases e : j = i
      · subst e
        rw [if_pos rfl] at hF
        show UG (if j = j then (r2, q2) else B j).1 (if j = j then (r2, q2) else B j).2 F W (N.u j)
        rw [if_pos rfl]
        exact hF
      · rw [if_neg (by omega)] at hF
        show UG (if j = i then (r2, q2) else B j).1 (if j = i then (r2, q2) else B j).2 F W (N.u j)
        rw [if_neg e]
        exact hF)
  obtain ⟨F, h2f, hFG, huse⟩ := q1.use (fun i _ => nodeP_part HT r A ro rl _ N i) (i := 2) (by omega)
  have hA : w2.heap[r]? = some (.cells A 55 (0, 0)) := h2f.1
  have hF2 : ∀ k, F k ↔ k = r := h2f.2
  have hrG := hFG r ((hF2 r).2 rfl)
  have hk : Kept (fun k => k ≠ r) w2 (w2.setCell ⟨r, i, none⟩ (ptrV r2)) := (Kept.refl _ w2).setCell (p := ⟨r, i, none⟩) (fun h => h rfl) _
  have hl : Leaves (fun (F : Nat → Prop) (W : World) (_ : Unit) => W.heap[r]? = some (.cells (A.setIfInBounds i (ptrV r2)) 55 (0, 0)) ∧ ∀ k, F k ↔ k = r) F w2 (w2.setCell ⟨r, i, none⟩ (ptrV r2)) () :=
    ⟨F, ⟨heap_setCell_same w2 r i A _ _ hA, hF2⟩, hk.mono (fun k hn e => hn ((hF2 k).2 e)), fun k hk => .inl hk⟩
  obtain ⟨G', s1, s2, s3⟩ := huse _ (fun (G' : Nat → Prop) (W : World) (_ : Unit) => BundG (i + 1 + 3) (nodeP UG OG LG r (A.setIfInBounds i (ptrV r2)) ro rl (fun j => if j = i then (r2, q2) else B j) N) G' W) _ () () (fun G' W h => BundG.same (n := i + 1 + 3) (show BundG (i + 1 + 3) _ G' W from (by rw [show i + 1 + 3 = i + 3 + 1 by omega]; exact h)) (fun k _ F W hF => by
    match k, hF with
    | 0, hF => exact hF
    | 1, hF => exact hF
    | 2, hF => exact hF
    | j + 3, hF => exact hF)) hl
  have z0 := hb0.size
  have z1 := hb.size
  refine ⟨_, ro, rl, _, G', hT.put hi (r2, q2), s1, fun k hk => ?_, ?_⟩
  · rcases s3 k hk with (h | h) | h
    · exact hG k h
    · have := hg k h; omega
    · omega
  · refine (hb0.trans (hb.mono z0)).trans (hk.toBelow (by omega) (fun k hk e => ?_))
    rcases hrG with h | h
    · have := hG r h; omega
    · have := hg r h; omega
end Go.Proofs.Ytphigibhgldnpaa
