/- What the document's own layout answers, asked for the projection that counts. Conditions: it and the question lie where the call was told. What the program's unit answers a question to its pages. Conditions: it and the question lie where the call was told; the question's data are not too long. (Written by gen/genunpb.py.) Calls that tell chains in a result of any make: what they leave of the thing that was asked, and of what lies beside it. Conditions: as each statement says. The document's own nodes in memory: the layout, the sequencer, the block of pointers, the units, each in blocks of its own. No conditions. -/
import Derived.Test.YtchhmfdalghgcaaGreatG16a
import Derived.Deep.RegionHeld3
import Derived.Test.YtchhmfdalghgcaaGreatG08b
import Derived.Test.YtchhmfdalghgcaaGreatG09a
import Derived.Test.YtchhmfdalghgcaaGreatG12b
set_option linter.unusedVariables false
namespace Go.Proofs.YtchhmfdalghgcaaGreat
set_option linter.unusedVariables false
open Go.RowKit
set_option maxRecDepth 20000
section
variable {w W W2 : World} {r : Nat} {G H : Nat → Prop} {y : Ly} {a : Ak} {X : Option (Array Value)} {v0 v1 v3 v4 v5 : Value}
end
end Go.Proofs.YtchhmfdalghgcaaGreat
namespace Go.Proofs.YtchhmfdalghgcaaGreat
set_option linter.unusedVariables false
open Go.RowKit
set_option maxRecDepth 20000
set_option maxHeartbeats 8000000 in
theorem un_seal (b q : Nat) (G : Nat → Prop) (w : World) (u : Us) (a : Ak) (h : UM b q G w u) (hw : i64w a.epoch) :
    Calls Tryz.prog 130 #[ptrV b, askV a] w fun e w' => e = .returned (anV 0 u.p.tail noS 0) ∧ Leaves (UM b q) G w w' ⟨u.p, a.epoch, u.down⟩ := by
  obtain ⟨k, un, ep, pg, sz, n, s, pe, L, ao, cap⟩ := a
  obtain ⟨p, ue, dn⟩ := u
  simp only at *
  have HS := Lib.hid (boxed_start (um_thing b q) h #[.int .i64 k, .int .i64 un, .int .i64 ep, .int .i64 pg, .int .i64 sz, .int .i64 n, .string s, .int .i64 pe, .slice ao L.length cap])
  unfold zeroAn at HS
  have hbw := h.small
  obtain ⟨c0, c1, c2, f0, f1, f2⟩ := three_cells h.cells
  obtain ⟨H, hH, hU⟩ := HS.out.use
  have HE := hU _ _ (hH.seal hw)
  rw [World.setCell_alloc_past (hn := by simp; omega), World.setCell_alloc_past (hn := hbw)] at HE
  replace HE := Lib.hid HE
  obtain ⟨H2, hH2, _⟩ := HE.out.use
  obtain ⟨F, hF, hok, _⟩ := hH2.ready
  clear h hU hH hH2
  show Calls _ _ #[.pointer (some ⟨b, 0, none⟩), .agg #[.int .i64 k, .int .i64 un, .int .i64 ep, .int .i64 pg, .int .i64 sz, .int .i64 n, .string s, .int .i64 pe, .slice ao L.length cap]] w _
  go_enter Tryz.func130, Tryz.ntmps130
  go_wp2_with (first | (go_at_call 135; refine (ptail_any F _ q p hF hok).mono ?_; rintro e w2 ⟨rfl, hb2⟩; have HT3 := Lib.hid (HE.out.below (um_thing b q) hb2); clear hb2; obtain ⟨nl1, nl2⟩ := HT3.out.small; obtain ⟨⟨ny0, ny1, ny2, ny3, ny4, ny5, ny6, ny7⟩, nfy0, nfy1, nfy2, nfy3, nfy4, nfy5, nfy6, nfy7⟩ := eight_cells HT3.out.ans))
  exact ans_ret (x := anP 0 p.tail noS 0) (ao := none) (cap := 0) rfl (HT3.out.fin (um_thing b q)).1 rfl rfl ⟨rfl, (HT3.out.fin (um_thing b q)).2⟩
end Go.Proofs.YtchhmfdalghgcaaGreat
namespace Go.Proofs.YtchhmfdalghgcaaGreat
set_option linter.unusedVariables false
open Go.RowKit
set_option maxRecDepth 20000
/-- the call ends with the result mk, whose chains x.L are new memory, and none of the thing's; the thing is s' behind it -/
def ToldBy {α : Type} (mk : Option Addr → Nat → Value) (T : (Nat → Prop) → World → α → Prop) (G : Nat → Prop) (w : World) (s' : α) (x : An) (e : Ending) (w' : World) : Prop :=
  ∃ (ao : Option Addr) (cap : Nat) (C : Nat → Prop), e = .returned (mk ao cap) ∧ (∀ k, C k → w.heap.size ≤ k) ∧ Leaves (Chained T C (.slice ao x.L.length cap) x.L) G w w' s'
section
variable {α β : Type} {mk : Option Addr → Nat → Value} {T : (Nat → Prop) → World → α → Prop} {U : (Nat → Prop) → World → β → Prop} {X G : Nat → Prop} {w w' : World} {a a' : α} {b : β} {x : An} {e : Ending} {P : Program} {fn : FuncId} {args : Array Value}
theorem chained_plain (h : Leaves T G w w' a') (hL : x.L = []) : Leaves (Chained T (fun _ => False) (.slice none x.L.length 0) x.L) G w w' a' := by
  obtain ⟨H, h1, h2, h3⟩ := h
  refine ⟨H, ⟨H, h1, by rw [hL]; exact CG.no _ _, fun k hk => hk.elim, fun k hk => hk.elim, fun k => ⟨.inl, fun h => h.elim id False.elim⟩⟩, h2, h3⟩
theorem told_plain (h : Leaves T G w w' a') (hL : x.L = []) (he : e = .returned (mk none 0)) : ToldBy mk T G w a' x e w' := ⟨none, 0, fun _ => False, he, fun k hk => hk.elim, chained_plain h hL⟩
theorem side_told (hT : Thing T) (hU : Thing U) (h : Side T U X w a b) (hc : ∀ F : Nat → Prop, T F w a → (∀ k, X k → ¬ F k) → Calls P fn args w fun e w' => ToldBy mk T F w a' x e w') :
    Calls P fn args w fun e w' => ∃ (ao : Option Addr) (cap : Nat) (C : Nat → Prop), e = .returned (mk ao cap) ∧ CG C w' (.slice ao x.L.length cap) x.L ∧ Side T U (fun k => X k ∨ C k) w' a' b ∧ Kept X w w' := by
  obtain ⟨h1, F, G, h2, h3, h4, h5⟩ := h
  refine (hc F h2 (fun k hk => (h4 k hk).1)).mono ?_
  rintro e w' ⟨ao, cap, C, rfl, hC, H, ⟨F', r1, r2, rl, r3, r4⟩, r5, r6⟩
  have r7 : ∀ k, F' k → F k ∨ w.heap.size ≤ k := fun k hk => r6 k ((r4 k).2 (.inl hk))
  refine ⟨ao, cap, C, rfl, r2, ⟨fun k hk => ?_, F', G, r1, hU.keep h3 r5 (fun k hg hf => h5 k hf hg), fun k hk => ?_, fun k hk hg => ?_⟩, r5.mono (fun k hk => (h4 k hk).1)⟩
  · rcases hk with hk | hk
    · exact Nat.lt_of_lt_of_le (h1 k hk) r5.size
    · exact rl k hk
  · rcases hk with hk | hk
    · refine ⟨fun hf => ?_, (h4 k hk).2⟩
      rcases r7 k hf with h | h
      · exact (h4 k hk).1 h
      · have := h1 k hk; omega
    · exact ⟨r3 k hk, fun hg => by have := hU.lt h3 k hg; have := hC k hk; omega⟩
  · rcases r7 k hk with h | h
    · exact h5 k h hg
    · have := hU.lt h3 k hg; omega
theorem solo_told (hT : Thing T) (h : Solo T X w a) (hc : ∀ F : Nat → Prop, T F w a → (∀ k, X k → ¬ F k) → Calls P fn args w fun e w' => ToldBy mk T F w a' x e w') :
    Calls P fn args w fun e w' => ∃ (ao : Option Addr) (cap : Nat) (C : Nat → Prop), e = .returned (mk ao cap) ∧ CG C w' (.slice ao x.L.length cap) x.L ∧ Solo T (fun k => X k ∨ C k) w' a' ∧ Kept X w w' := by
  obtain ⟨h1, F, h2, h3⟩ := h
  refine (hc F h2 h3).mono ?_
  rintro e w' ⟨ao, cap, C, rfl, hC, H, ⟨F', r1, r2, rl, r3, r4⟩, r5, r6⟩
  refine ⟨ao, cap, C, rfl, r2, ⟨fun k hk => ?_, F', r1, fun k hk hf => ?_⟩, r5.mono h3⟩
  · rcases hk with hk | hk
    · exact Nat.lt_of_lt_of_le (h1 k hk) r5.size
    · exact rl k hk
  · rcases hk with hk | hk
    · rcases r6 k ((r4 k).2 (.inl hf)) with h | h
      · exact h3 k hk h
      · have := h1 k hk; omega
    · exact r3 k hk hf
end
end Go.Proofs.YtchhmfdalghgcaaGreat
namespace Go.Proofs.YtchhmfdalghgcaaGreat
set_option linter.unusedVariables false
open Go.RowKit
set_option maxRecDepth 20000
/-- the block of 18 pointers, of which the first m units' are there -/
structure Tab (A : Array Value) (m : Nat) (B : Nat → Nat × Nat) (ro rl : Nat) : Prop where
  size : A.size = 18
  at_ : ∀ i, i < m → A[i]? = some (ptrU (B i).1)
  o : A[16]? = some (ptrO ro)
  l : A[17]? = some (ptrL rl)
theorem Tab.put {A : Array Value} {m : Nat} {B : Nat → Nat × Nat} {ro rl : Nat} (h : Tab A m B ro rl) (hm : m < 16) (x : Nat × Nat) : Tab (A.setIfInBounds m (ptrU x.1)) (m + 1) (fun j => if j = m then x else B j) ro rl := by
  have hs := h.size
  refine ⟨by simp [hs], fun i hi => ?_, ?_, ?_⟩
  · by_cases e : i = m
    · subst e
      simp [hs, show i < 18 by omega]
    · rw [Array.getElem?_setIfInBounds_ne (fun h => e h.symm), if_neg e]
      exact h.at_ i (by omega)
  · rw [Array.getElem?_setIfInBounds_ne (by omega)]
    exact h.o
  · rw [Array.getElem?_setIfInBounds_ne (by omega)]
    exact h.l
/-- its parts, one after another -/
def nodeT (r : Nat) (A : Array Value) (ro rl : Nat) (B : Nat → Nat × Nat) (n : Nd) : Nat → (Nat → Prop) → World → Prop
  | 0 => fun F w => RL rl F w n.l
  | 1 => fun F w => RO ro F w n.o
  | 2 => fun F w => w.heap[r]? = some (.cells A 99 (0, 0)) ∧ ∀ k, F k ↔ k = r
  | i + 3 => fun F w => RU (B i).1 (B i).2 F w (n.u i)
theorem nodeT_part (r : Nat) (A : Array Value) (ro rl : Nat) (B : Nat → Nat × Nat) (n : Nd) : ∀ i, Part (nodeT r A ro rl B n i)
  | 0 => (rl_thing rl).part n.l
  | 1 => (ro_thing ro).part n.o
  | 2 => ⟨fun h k hk => by rw [(h.2 k).1 hk]; exact lt_of_block h.1, fun h hk hS => ⟨hk.heap (hS r ((h.2 r).2 rfl)) h.1, h.2⟩⟩
  | i + 3 => (ru_thing (B i).1 (B i).2).part (n.u i)
/-- block r is the document's nodes -/
def RN (r : Nat) (G : Nat → Prop) (w : World) (n : Nd) : Prop := ∃ (A : Array Value) (ro rl : Nat) (B : Nat → Nat × Nat), Tab A 16 B ro rl ∧ BundG 19 (nodeT r A ro rl B n) G w
theorem rn_thing (r : Nat) : Thing (RN r) where
  lt := by
    rintro G w n ⟨A, ro, rl, B, h1, h2⟩
    exact h2.lt (fun i _ => nodeT_part r A ro rl B n i)
  keep := by
    rintro G S w w' n ⟨A, ro, rl, B, h1, h2⟩ hk hS
    exact ⟨A, ro, rl, B, h1, h2.keep (fun i _ => nodeT_part r A ro rl B n i) hk hS⟩
section
variable {r : Nat} {A : Array Value} {ro rl : Nat} {B : Nat → Nat × Nat} {n : Nd} {G : Nat → Prop} {w : World}
theorem rn_putO (h1 : Tab A 16 B ro rl) {o : Od} {G' : Nat → Prop} {W : World} (h : BundG 19 (swapP (nodeT r A ro rl B n) 1 (fun F W => RO ro F W o)) G' W) : RN r G' W (n.putO o) :=
  ⟨A, ro, rl, B, h1, h.same (fun i _ F W hF => by match i, hF with | 0, hF => exact hF | 1, hF => exact hF | 2, hF => exact hF | j + 3, hF => exact hF)⟩
end
end Go.Proofs.YtchhmfdalghgcaaGreat
