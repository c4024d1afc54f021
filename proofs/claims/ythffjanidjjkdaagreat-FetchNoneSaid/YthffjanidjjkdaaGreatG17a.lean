/- What the document's own layout answers, asked for the projection that counts. Conditions: it and the question lie where the call was told. What the program's unit answers a question to its pages. Conditions: it and the question lie where the call was told; the question's data are not too long. (Written by gen/genunpb.py.) Calls that tell chains in a result of any make: what they leave of the thing that was asked, and of what lies beside it. Conditions: as each statement says. The world in which a call has boxed its question and laid out its result (of any make), beside a thing that lies in blocks of its own. No conditions. -/
import Derived.Test.YthffjanidjjkdaaGreatG16a
import Derived.Deep.RegionHeld3
set_option linter.unusedVariables false
namespace Go.Proofs.YthffjanidjjkdaaGreat
set_option linter.unusedVariables false
open Go.RowKit
set_option maxRecDepth 20000
section
variable {w W W2 : World} {r : Nat} {G H : Nat → Prop} {y : Ly} {a : Ak} {X : Option (Array Value)} {v0 v1 v3 v4 v5 : Value}
end
end Go.Proofs.YthffjanidjjkdaaGreat
namespace Go.Proofs.YthffjanidjjkdaaGreat
set_option linter.unusedVariables false
open Go.RowKit
set_option maxRecDepth 20000
set_option maxHeartbeats 8000000 in
theorem un_seal (b q : Nat) (G : Nat → Prop) (w : World) (u : Us) (a : Ak) (h : UM b q G w u) (hw : i64w a.epoch) :
    Calls Tryz.prog 149 #[ptrV b, askV a] w fun e w' => e = .returned (anV 0 u.p.tail noS 0) ∧ Leaves (UM b q) G w w' ⟨u.p, a.epoch, u.down⟩ := by
  obtain ⟨k, un, ep, pg, sz, n, s, pe, L, ao, cap⟩ := a
  obtain ⟨p, ue, dn⟩ := u
  simp only at *
  have HS := Lib.hid (boxed_start (um_thing b q) h #[.int .i64 k, .int .i64 un, .int .i64 ep, .int .i64 pg, .int .i64 sz, .int .i64 n, .string s, .int .i64 pe, .slice ao L.length cap])
  unfold zeroAn at HS
  have hbw := h.small
  obtain ⟨c0, c1, c2, f0, f1, f2⟩ := three_cells h.cells
  obtain ⟨H, hH, hU⟩ := HS.out.use
  have HE := hU _ _ (hH.seal hw)
  rw [World.setCell_alloc_past (hn := by simp; omega), World.setCell_alloc_past (hn := hbw)] at HE
  replace HE := Lib.hid HE
  obtain ⟨H2, hH2, _⟩ := HE.out.use
  obtain ⟨F, hF, hok, _⟩ := hH2.ready
  clear h hU hH hH2
  show Calls _ _ #[.pointer (some ⟨b, 0, none⟩), .agg #[.int .i64 k, .int .i64 un, .int .i64 ep, .int .i64 pg, .int .i64 sz, .int .i64 n, .string s, .int .i64 pe, .slice ao L.length cap]] w _
  go_enter Tryz.func149, Tryz.ntmps149
  go_wp2_with (first | (go_at_call 153; refine (ptail_any F _ q p hF hok).mono ?_; rintro e w2 ⟨rfl, hb2⟩; have HT3 := Lib.hid (HE.out.below (um_thing b q) hb2); clear hb2; obtain ⟨nl1, nl2⟩ := HT3.out.small; obtain ⟨⟨ny0, ny1, ny2, ny3, ny4, ny5, ny6, ny7⟩, nfy0, nfy1, nfy2, nfy3, nfy4, nfy5, nfy6, nfy7⟩ := eight_cells HT3.out.ans))
  exact ans_ret (x := anP 0 p.tail noS 0) (ao := none) (cap := 0) rfl (HT3.out.fin (um_thing b q)).1 rfl rfl ⟨rfl, (HT3.out.fin (um_thing b q)).2⟩
end Go.Proofs.YthffjanidjjkdaaGreat
namespace Go.Proofs.YthffjanidjjkdaaGreat
set_option linter.unusedVariables false
open Go.RowKit
set_option maxRecDepth 20000
/-- the call ends with the result mk, whose chains x.L are new memory, and none of the thing's; the thing is s' behind it -/
def ToldBy {α : Type} (mk : Option Addr → Nat → Value) (T : (Nat → Prop) → World → α → Prop) (G : Nat → Prop) (w : World) (s' : α) (x : An) (e : Ending) (w' : World) : Prop :=
  ∃ (ao : Option Addr) (cap : Nat) (C : Nat → Prop), e = .returned (mk ao cap) ∧ (∀ k, C k → w.heap.size ≤ k) ∧ Leaves (Chained T C (.slice ao x.L.length cap) x.L) G w w' s'
section
variable {α β : Type} {mk : Option Addr → Nat → Value} {T : (Nat → Prop) → World → α → Prop} {U : (Nat → Prop) → World → β → Prop} {X G : Nat → Prop} {w w' : World} {a a' : α} {b : β} {x : An} {e : Ending} {P : Program} {fn : FuncId} {args : Array Value}
theorem chained_plain (h : Leaves T G w w' a') (hL : x.L = []) : Leaves (Chained T (fun _ => False) (.slice none x.L.length 0) x.L) G w w' a' := by
  obtain ⟨H, h1, h2, h3⟩ := h
  refine ⟨H, ⟨H, h1, by rw [hL]; exact CG.no _ _, fun k hk => hk.elim, fun k hk => hk.elim, fun k => ⟨.inl, fun h => h.elim id False.elim⟩⟩, h2, h3⟩
theorem told_plain (h : Leaves T G w w' a') (hL : x.L = []) (he : e = .returned (mk none 0)) : ToldBy mk T G w a' x e w' := ⟨none, 0, fun _ => False, he, fun k hk => hk.elim, chained_plain h hL⟩
theorem side_told (hT : Thing T) (hU : Thing U) (h : Side T U X w a b) (hc : ∀ F : Nat → Prop, T F w a → (∀ k, X k → ¬ F k) → Calls P fn args w fun e w' => ToldBy mk T F w a' x e w') :
    Calls P fn args w fun e w' => ∃ (ao : Option Addr) (cap : Nat) (C : Nat → Prop), e = .returned (mk ao cap) ∧ CG C w' (.slice ao x.L.length cap) x.L ∧ Side T U (fun k => X k ∨ C k) w' a' b ∧ Kept X w w' := by
  obtain ⟨h1, F, G, h2, h3, h4, h5⟩ := h
  refine (hc F h2 (fun k hk => (h4 k hk).1)).mono ?_
  rintro e w' ⟨ao, cap, C, rfl, hC, H, ⟨F', r1, r2, rl, r3, r4⟩, r5, r6⟩
  have r7 : ∀ k, F' k → F k ∨ w.heap.size ≤ k := fun k hk => r6 k ((r4 k).2 (.inl hk))
  refine ⟨ao, cap, C, rfl, r2, ⟨fun k hk => ?_, F', G, r1, hU.keep h3 r5 (fun k hg hf => h5 k hf hg), fun k hk => ?_, fun k hk hg => ?_⟩, r5.mono (fun k hk => (h4 k hk).1)⟩
  · rcases hk with hk | hk
    · exact Nat.lt_of_lt_of_le (h1 k hk) r5.size
    · exact rl k hk
  · rcases hk with hk | hk
    · refine ⟨fun hf => ?_, (h4 k hk).2⟩
      rcases r7 k hf with h | h
      · exact (h4 k hk).1 h
      · have := h1 k hk; omega
    · exact ⟨r3 k hk, fun hg => by have := hU.lt h3 k hg; have := hC k hk; omega⟩
  · rcases r7 k hk with h | h
    · exact h5 k h hg
    · have := hU.lt h3 k hg; omega
theorem solo_told (hT : Thing T) (h : Solo T X w a) (hc : ∀ F : Nat → Prop, T F w a → (∀ k, X k → ¬ F k) → Calls P fn args w fun e w' => ToldBy mk T F w a' x e w') :
    Calls P fn args w fun e w' => ∃ (ao : Option Addr) (cap : Nat) (C : Nat → Prop), e = .returned (mk ao cap) ∧ CG C w' (.slice ao x.L.length cap) x.L ∧ Solo T (fun k => X k ∨ C k) w' a' ∧ Kept X w w' := by
  obtain ⟨h1, F, h2, h3⟩ := h
  refine (hc F h2 h3).mono ?_
  rintro e w' ⟨ao, cap, C, rfl, hC, H, ⟨F', r1, r2, rl, r3, r4⟩, r5, r6⟩
  refine ⟨ao, cap, C, rfl, r2, ⟨fun k hk => ?_, F', r1, fun k hk hf => ?_⟩, r5.mono h3⟩
  · rcases hk with hk | hk
    · exact Nat.lt_of_lt_of_le (h1 k hk) r5.size
    · exact rl k hk
  · rcases hk with hk | hk
    · rcases r6 k ((r4 k).2 (.inl hf)) with h | h
      · exact h3 k hk h
      · have := h1 k hk; omega
    · exact r3 k hk hf
end
end Go.Proofs.YthffjanidjjkdaaGreat
namespace Go.Proofs.YthffjanidjjkdaaGreat
set_option linter.unusedVariables false
open Go.RowKit
set_option maxRecDepth 20000
/-- the call began in w; it is in W now -/
structure BoxZ {α : Type} (tz : TypeId) (Z : Array Value) (T : (Nat → Prop) → World → α → Prop) (w W : World) (G : Nat → Prop) (s : α) (A : Array Value) : Prop where
  ask : W.heap[w.heap.size]? = some (.cells A 62 (0, 0))
  ans : W.heap[w.heap.size + 1]? = some (.cells Z tz (0, 0))
  th : ∃ H : Nat → Prop, T H W s ∧ ∀ k, H k → G k ∨ w.heap.size + 1 < k
  kp : Kept (fun k => ¬ G k) w W
  lt : ∀ k, G k → k < w.heap.size
section
variable {α : Type} {tz : TypeId} {Z : Array Value} {T : (Nat → Prop) → World → α → Prop} {w W : World} {G : Nat → Prop} {s s' : α} {A : Array Value}
theorem boxz_start (hT : Thing T) (h : T G w s) (A : Array Value) : BoxZ tz Z T w ((w.alloc (.cells A 62)).alloc (.cells Z tz)) G s A := by
  have hb : Below w.heap.size w ((w.alloc (.cells A 62)).alloc (.cells Z tz)) := ((Below.refl _ _).alloc (Nat.le_refl _) _).alloc (by simp) _
  obtain ⟨h1, h2⟩ := two_blocks w A Z 62 tz
  exact ⟨h1, h2, ⟨G, hT.keep h (Kept.ofBelow hb (fun _ => True)) (fun _ _ => trivial), fun k hk => .inl hk⟩, Kept.ofBelow hb _, fun k hk => hT.lt h k hk⟩
theorem BoxZ.below (hT : Thing T) (h : BoxZ tz Z T w W G s A) {W2 : World} (hb : Below W.heap.size W W2) : BoxZ tz Z T w W2 G s A := by
  obtain ⟨H, h1, h2⟩ := h.th
  exact ⟨below_heap hb h.ask, below_heap hb h.ans, ⟨H, hT.keep h1 (Kept.ofBelow hb (fun _ => True)) (fun _ _ => trivial), h2⟩, h.kp.below hb, h.lt⟩
theorem BoxZ.drewN (hT : Thing T) (h : BoxZ tz Z T w W G s A) (n : Nat) : BoxZ tz Z T w (W.drewN n) G s A := h.below hT (below_drewN (Below.refl _ _) n)
theorem BoxZ.small (h : BoxZ tz Z T w W G s A) : w.heap.size < W.heap.size ∧ w.heap.size + 1 < W.heap.size := ⟨lt_of_block h.ask, lt_of_block h.ans⟩
theorem BoxZ.leaves (h : BoxZ tz Z T w W G s A) : Leaves T G w W s := by
  obtain ⟨H, h1, h2⟩ := h.th
  exact ⟨H, h1, h.kp, fun k hk => (h2 k hk).imp id (fun h => by omega)⟩
/-- a call, or a store, on the thing; what it leaves may be told as another thing -/
theorem BoxZ.use2 (h : BoxZ tz Z T w W G s A) : ∃ H : Nat → Prop, T H W s ∧ (∀ W2, Kept (fun k => ¬ H k) W W2 → Kept (fun k => ¬ G k) w W2) ∧ ∀ {β : Type} (U : (Nat → Prop) → World → β → Prop) W2 (s' : β), Leaves U H W W2 s' → BoxZ tz Z U w W2 G s' A := by
  obtain ⟨H, h1, h2⟩ := h.th
  obtain ⟨s1, s2⟩ := h.small
  have off : ∀ k, k < W.heap.size → ¬ G k → k ≤ w.heap.size + 1 → ¬ H k := fun k _ hg hk hf => by
    rcases h2 k hf with h3 | h3
    · exact hg h3
    · omega
  have ng : ∀ k, w.heap.size ≤ k → ¬ G k := fun k hk hg => by have := h.lt k hg; omega
  have kk : ∀ W2, Kept (fun k => ¬ H k) W W2 → Kept (fun k => ¬ G k) w W2 := fun W2 r2 => by
    have hk := h.kp
    refine ⟨r2.os.trans hk.os, r2.tape.trans hk.tape, r2.output.trans hk.output, Nat.le_trans hk.size r2.size, fun k hg hkl => ?_⟩
    rw [r2.block k (off k (Nat.lt_of_lt_of_le hkl hk.size) hg (by omega)) (Nat.lt_of_lt_of_le hkl hk.size)]
    exact hk.block k hg hkl
  refine ⟨H, h1, kk, fun U W2 s' hl => ?_⟩
  obtain ⟨H', r1, r2, r3⟩ := hl
  refine ⟨r2.heap (off _ s1 (ng _ (by omega)) (by omega)) h.ask, r2.heap (off _ s2 (ng _ (by omega)) (by omega)) h.ans, ⟨H', r1, fun k hk => ?_⟩, kk W2 r2, h.lt⟩
  rcases r3 k hk with h3 | h3
  · exact h2 k h3
  · exact .inr (by omega)
/-- a call, or a store, on the thing -/
theorem BoxZ.use (h : BoxZ tz Z T w W G s A) : ∃ H : Nat → Prop, T H W s ∧ ∀ W2 s', Leaves T H W W2 s' → BoxZ tz Z T w W2 G s' A := by
  obtain ⟨H, h1, _, h3⟩ := h.use2
  exact ⟨H, h1, fun W2 s' hl => h3 T W2 s' hl⟩
/-- the result is another then -/
theorem BoxZ.fin (hT : Thing T) (h : BoxZ tz Z T w W G s A) {W2 : World} (hk : Kept (fun k => k ≠ w.heap.size + 1) W W2) : Leaves T G w W2 s := by
  obtain ⟨H, h1, h2⟩ := h.th
  have hw := h.small
  refine ⟨H, hT.keep h1 hk (fun k hk e => ?_), ?_, fun k hk => (h2 k hk).imp id (fun h => by omega)⟩
  · rcases h2 k hk with h3 | h3
    · have := h.lt k h3; omega
    · omega
  · have hp := h.kp
    refine ⟨hk.os.trans hp.os, hk.tape.trans hp.tape, hk.output.trans hp.output, Nat.le_trans hp.size hk.size, fun k hg hkl => ?_⟩
    have := hp.size
    rw [hk.block k (by omega) (by omega)]
    exact hp.block k hg hkl
end
end Go.Proofs.YthffjanidjjkdaaGreat
