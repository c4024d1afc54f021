/- A thing and chains that a call handed out, as one thing. Conditions: as each statement says. The world in which a call has boxed what it was handed and laid out its result (both of any make), beside a thing that lies in blocks of its own. No conditions. Rows of slices that a call makes for itself, each in a place of its own. No conditions but those that the statements name. The program's layout in memory: the projection that counts, the set of units that were used, the image. No conditions but those that the statements name. What the small functions of the program's layout return, and what the library's Contains does on numbers. Conditions: as each statement says. The program's own Copy makes a copy in new memory, each of its rows in a place of its own. Conditions: the projection lies where the call was told, and is not too large. What the program's layout tells of the projection that counts, what its calls of nil return, and what it makes of an image. Conditions: it lies where the call was told. -/
import Derived.Test.YthfbefkddnbbcaaTell
import Derived.Test.YthfbefkddnbbcaaAskB
import Derived.Test.YthfbefkddnbbcaaSide
import Derived.Test.YthfbefkddnbbcaaPrjF
import Derived.Deep.RegionLaw
import Derived.Test.YthfbefkddnbbcaaLayC
import Derived.Test.YthfbefkddnbbcaaPjA
import Derived.Test.YthfbefkddnbbcaaKeyIn
import Derived.Test.YthfbefkddnbbcaaPjB
set_option linter.unusedVariables false
namespace Go.Proofs.Ythfbefkddnbbcaa
set_option linter.unusedVariables false
open Go.RowKit
set_option maxRecDepth 20000
/-- the thing, beside it the chains L at v, in blocks C -/
def Chained {α : Type} (T : (Nat → Prop) → World → α → Prop) (C : Nat → Prop) (v : Value) (L : List (List Int)) (H : Nat → Prop) (w : World) (s : α) : Prop :=
  ∃ H1 : Nat → Prop, T H1 w s ∧ CG C w v L ∧ (∀ k, C k → k < w.heap.size) ∧ (∀ k, C k → ¬ H1 k) ∧ ∀ k, H k ↔ H1 k ∨ C k
section
variable {α β : Type} {T : (Nat → Prop) → World → α → Prop} {U : (Nat → Prop) → World → β → Prop} {C G : Nat → Prop} {v : Value} {L : List (List Int)} {w w' : World} {s s' : α} {x : An} {e : Ending}
theorem chained_thing (hT : Thing T) (C : Nat → Prop) (v : Value) (L : List (List Int)) : Thing (Chained T C v L) where
  lt := by
    rintro H w s ⟨H1, h1, h2, h3, h4, h5⟩ k hk
    rcases (h5 k).1 hk with h | h
    · exact hT.lt h1 k h
    · exact h3 k h
  keep := by
    rintro H S w w' s ⟨H1, h1, h2, h3, h4, h5⟩ hk hS
    exact ⟨H1, hT.keep h1 hk (fun k hf => hS k ((h5 k).2 (.inl hf))), h2.keep hk (fun k hc => hS k ((h5 k).2 (.inr hc))), fun k hc => Nat.lt_of_lt_of_le (h3 k hc) hk.size, h4, h5⟩
theorem tells_chained (h : Tells T G w s' x e w') : ∃ (ao : Option Addr) (cap : Nat) (C : Nat → Prop), e = .returned (ansV x ao cap) ∧ (∀ k, C k → w.heap.size ≤ k) ∧ Leaves (Chained T C (.slice ao x.L.length cap) x.L) G w w' s' := by
  obtain ⟨ao, cap, C, he, hC, hF, G', r1, r2, r3, r4⟩ := h
  refine ⟨ao, cap, C, he, fun k hk => (hF k hk).1, fun k => G' k ∨ C k, ⟨G', r1, hC, fun k hk => (hF k hk).2, r2, fun k => Iff.rfl⟩, r3, fun k hk => ?_⟩
  rcases hk with h | h
  · exact r4 k h
  · exact .inr (hF k h).1
theorem chained_tells {ao : Option Addr} {cap : Nat} (hC : ∀ k, C k → w.heap.size ≤ k) (h : Leaves (Chained T C (.slice ao x.L.length cap) x.L) G w w' s') : Tells T G w s' x (.returned (ansV x ao cap)) w' := by
  obtain ⟨H, ⟨H1, h1, h2, h3, h4, h5⟩, r2, r3⟩ := h
  exact ⟨ao, cap, C, rfl, h2, fun k hk => ⟨hC k hk, h3 k hk⟩, H1, h1, h4, r2, fun k hk => r3 k ((h5 k).2 (.inl hk))⟩
theorem tells_plain (h : Leaves T G w w' s') (hL : x.L = []) (he : e = .returned (ansV x none 0)) : Tells T G w s' x e w' := by
  rw [he]
  exact Tells.plain h hL
/-- chains that were made behind the thing -/
theorem chained_new (hT : Thing T) (h : T G w s) (hb : Below w.heap.size w w') (hO : OC w' w.heap.size v L) : Leaves (Chained T (fun k => w.heap.size ≤ k ∧ k < w'.heap.size) v L) G w w' s := by
  refine ⟨fun k => G k ∨ (w.heap.size ≤ k ∧ k < w'.heap.size), ⟨G, hT.keep h (Kept.ofBelow hb (fun _ => True)) (fun _ _ => trivial), CG.of hO, fun k hk => hk.2, fun k hk hg => ?_, fun k => Iff.rfl⟩, Kept.ofBelow hb _, fun k hk => hk.imp id (fun h => h.1)⟩
  have := hT.lt h k hg
  omega
/-- the thing is told otherwise -/
theorem Tells.to {γ : Type} {V : (Nat → Prop) → World → γ → Prop} {z : γ} (h : Tells T G w s' x e w') (hs : ∀ H W, T H W s' → V H W z) : Tells V G w z x e w' := by
  obtain ⟨ao, cap, F, h1, h2, h3, G', h4, h5⟩ := h
  exact ⟨ao, cap, F, h1, h2, h3, G', hs _ _ h4, h5⟩
end
end Go.Proofs.Ythfbefkddnbbcaa
namespace Go.Proofs.Ythfbefkddnbbcaa
set_option linter.unusedVariables false
open Go.RowKit
set_option maxRecDepth 20000
/-- the call began in w; it is in W now -/
structure BoxV {α : Type} (ta tz : TypeId) (A Z : Array Value) (T : (Nat → Prop) → World → α → Prop) (w W : World) (G : Nat → Prop) (s : α) : Prop where
  ask : W.heap[w.heap.size]? = some (.cells A ta (0, 0))
  ans : W.heap[w.heap.size + 1]? = some (.cells Z tz (0, 0))
  th : ∃ H : Nat → Prop, T H W s ∧ ∀ k, H k → G k ∨ w.heap.size + 1 < k
  kp : Kept (fun k => ¬ G k) w W
  lt : ∀ k, G k → k < w.heap.size
section
variable {α : Type} {ta tz : TypeId} {A Z : Array Value} {T : (Nat → Prop) → World → α → Prop} {w W : World} {G : Nat → Prop} {s s' : α}
theorem boxv_start (hT : Thing T) (h : T G w s) (ta tz : TypeId) (A Z : Array Value) : BoxV ta tz A Z T w ((w.alloc (.cells A ta)).alloc (.cells Z tz)) G s := by
  have hb : Below w.heap.size w ((w.alloc (.cells A ta)).alloc (.cells Z tz)) := ((Below.refl _ _).alloc (Nat.le_refl _) _).alloc (by simp) _
  obtain ⟨h1, h2⟩ := two_blocks w A Z ta tz
  exact ⟨h1, h2, ⟨G, hT.keep h (Kept.ofBelow hb (fun _ => True)) (fun _ _ => trivial), fun k hk => .inl hk⟩, Kept.ofBelow hb _, fun k hk => hT.lt h k hk⟩
theorem BoxV.below (hT : Thing T) (h : BoxV ta tz A Z T w W G s) {W2 : World} (hb : Below W.heap.size W W2) : BoxV ta tz A Z T w W2 G s := by
  obtain ⟨H, h1, h2⟩ := h.th
  exact ⟨below_heap hb h.ask, below_heap hb h.ans, ⟨H, hT.keep h1 (Kept.ofBelow hb (fun _ => True)) (fun _ _ => trivial), h2⟩, h.kp.below hb, h.lt⟩
theorem BoxV.drewN (hT : Thing T) (h : BoxV ta tz A Z T w W G s) (n : Nat) : BoxV ta tz A Z T w (W.drewN n) G s := h.below hT (below_drewN (Below.refl _ _) n)
theorem BoxV.small (h : BoxV ta tz A Z T w W G s) : w.heap.size < W.heap.size ∧ w.heap.size + 1 < W.heap.size := ⟨lt_of_block h.ask, lt_of_block h.ans⟩
theorem BoxV.leaves (h : BoxV ta tz A Z T w W G s) : Leaves T G w W s := by
  obtain ⟨H, h1, h2⟩ := h.th
  exact ⟨H, h1, h.kp, fun k hk => (h2 k hk).imp id (fun h => by omega)⟩
/-- a call, or a store, on the thing; what it leaves may be told as another thing -/
theorem BoxV.use2 (h : BoxV ta tz A Z T w W G s) : ∃ H : Nat → Prop, T H W s ∧ (∀ W2, Kept (fun k => ¬ H k) W W2 → Kept (fun k => ¬ G k) w W2) ∧ ∀ {β : Type} (U : (Nat → Prop) → World → β → Prop) W2 (s' : β), Leaves U H W W2 s' → BoxV ta tz A Z U w W2 G s' := by
  obtain ⟨H, h1, h2⟩ := h.th
  obtain ⟨s1, s2⟩ := h.small
  have off : ∀ k, k < W.heap.size → ¬ G k → k ≤ w.heap.size + 1 → ¬ H k := fun k _ hg hk hf => by
    rcases h2 k hf with h3 | h3
    · exact hg h3
    · omega
  have ng : ∀ k, w.heap.size ≤ k → ¬ G k := fun k hk hg => by have := h.lt k hg; omega
  have kk : ∀ W2, Kept (fun k => ¬ H k) W W2 → Kept (fun k => ¬ G k) w W2 := fun W2 r2 => by
    have hk := h.kp
    refine ⟨r2.os.trans hk.os, r2.tape.trans hk.tape, r2.output.trans hk.output, Nat.le_trans hk.size r2.size, fun k hg hkl => ?_⟩
    rw [r2.block k (off k (Nat.lt_of_lt_of_le hkl hk.size) hg (by omega)) (Nat.lt_of_lt_of_le hkl hk.size)]
    exact hk.block k hg hkl
  refine ⟨H, h1, kk, fun U W2 s' hl => ?_⟩
  obtain ⟨H', r1, r2, r3⟩ := hl
  refine ⟨r2.heap (off _ s1 (ng _ (by omega)) (by omega)) h.ask, r2.heap (off _ s2 (ng _ (by omega)) (by omega)) h.ans, ⟨H', r1, fun k hk => ?_⟩, kk W2 r2, h.lt⟩
  rcases r3 k hk with h3 | h3
  · exact h2 k h3
  · exact .inr (by omega)
/-- a call, or a store, on the thing -/
theorem BoxV.use (h : BoxV ta tz A Z T w W G s) : ∃ H : Nat → Prop, T H W s ∧ ∀ W2 s', Leaves T H W W2 s' → BoxV ta tz A Z T w W2 G s' := by
  obtain ⟨H, h1, _, h3⟩ := h.use2
  exact ⟨H, h1, fun W2 s' hl => h3 T W2 s' hl⟩
/-- the result is another then -/
theorem BoxV.fin (hT : Thing T) (h : BoxV ta tz A Z T w W G s) {W2 : World} (hk : Kept (fun k => k ≠ w.heap.size + 1) W W2) : Leaves T G w W2 s := by
  obtain ⟨H, h1, h2⟩ := h.th
  have hw := h.small
  refine ⟨H, hT.keep h1 hk (fun k hk e => ?_), ?_, fun k hk => (h2 k hk).imp id (fun h => by omega)⟩
  · rcases h2 k hk with h3 | h3
    · have := h.lt k h3; omega
    · omega
  · have hp := h.kp
    refine ⟨hk.os.trans hp.os, hk.tape.trans hp.tape, hk.output.trans hp.output, Nat.le_trans hp.size hk.size, fun k hg hkl => ?_⟩
    have := hp.size
    rw [hk.block k (by omega) (by omega)]
    exact hp.block k hg hkl
end
end Go.Proofs.Ythfbefkddnbbcaa
namespace Go.Proofs.Ythfbefkddnbbcaa
set_option linter.unusedVariables false
open Go.RowKit
set_option maxRecDepth 20000
theorem below_kept {B : Nat} {w w' : World} (h : Below B w w') (hB : B ≤ w.heap.size) : Kept (fun k => k < B) w w' :=
  ⟨h.os, h.tape, h.output, h.size, fun k hk _ => h.block k hk⟩
/-- v is a row of the call's own that holds the slices vs, of its own too, whose rows hold the lists of L; no two of all these rows in one block -/
def CP (w : World) (B : Nat) (v : Value) (vs : List Value) (L : List (List Int)) : Prop :=
  w.ownsRow B 45 1 v L.length vs ∧ vs.length = L.length ∧ (∀ i (h : i < L.length) x, vs[i]? = some x → OI w B x L[i] ∧ ∀ k, x.ownBlock = some k → v.ownBlock ≠ some k) ∧
  ∀ (i j : Nat) (x y : Value) (k : Nat), i < j → vs[i]? = some x → vs[j]? = some y → x.ownBlock = some k → y.ownBlock ≠ some k
theorem CP.nil (w : World) (B : Nat) : CP w B (.slice none 0 0) [] [] := ⟨World.ownsRow_nil _ _ _ _, rfl, fun i h => absurd h (Nat.not_lt_zero i), fun i j x y k _ hx => by cases i <;> cases hx⟩
theorem CP.keep {S : Nat → Prop} {w w' : World} {B : Nat} {v : Value} {vs : List Value} {L : List (List Int)} (h : CP w B v vs L) (hk : Kept S w w') (hS : ∀ k, B ≤ k → k < w.heap.size → S k) : CP w' B v vs L := by
  obtain ⟨h1, h2, h3, h4⟩ := h
  exact ⟨hk.owns h1 (fun k e => hS k (h1.lt k e).1 (h1.lt k e).2), h2, fun i hi x hx => ⟨(h3 i hi x hx).1.keep hk hS, (h3 i hi x hx).2⟩, h4⟩
theorem CP.below {w w' : World} {B : Nat} {v : Value} {vs : List Value} {L : List (List Int)} (h : CP w B v vs L) (hb : Below w.heap.size w w') : CP w' B v vs L := h.keep (Kept.ofBelow hb (fun _ => True)) (fun _ _ _ => trivial)
theorem CP.form {w : World} {B : Nat} {v : Value} {vs : List Value} {L : List (List Int)} (h : CP w B v vs L) : ∃ bo cb, v = .slice bo L.length cb := by
  rcases h.1.2 with ⟨rfl, h0⟩ | ⟨g, cap, cur, rfl, _⟩
  · exact ⟨none, 0, by rw [h0]⟩
  · exact ⟨_, _, rfl⟩
theorem run_app_copy (w : World) (ty : TypeId) {B : Nat} {v : Value} {vs : List Value} {L : List (List Int)} (h : CP w B v vs L) {x : Value} {l : List Int} (hO : OI w B x l) (hf : ∀ k, x.ownBlock = some k → v.ownBlock ≠ some k ∧ ∀ (i : Nat) (y : Value), vs[i]? = some y → y.ownBlock ≠ some k) (hz : L.length + 1 ≤ 1000000) (hB : B ≤ w.heap.size) :
    ∃ v' w', (Builtin.append_ #[22, 22] ty #[v, .slice (some ⟨w.heap.size, 0, none⟩) 1 1]).run Try.prog (w.alloc (.cells #[x] 45)) = .ok v' w' ∧ CP w' B v' (vs ++ [x]) (L ++ [l]) ∧ Below B w w' := by
  obtain ⟨i0, hi, hz0, hz1, hz2⟩ := info_parts ints_info
  have hb1 : Below w.heap.size w (w.alloc (.cells #[x] 45)) := (Below.refl _ _).alloc (Nat.le_refl _) _
  obtain ⟨h1, h2, h3, h4⟩ := h.below hb1
  obtain ⟨ax, cx, hx, _, _, _⟩ := hO.form
  obtain ⟨v', w', hr, h5, hg, _, hat⟩ := run_append_own_at (P := Try.prog) (w.alloc (.cells #[x] 45)) B 22 ty 45 i0 (.slice none 0 0) 1 24 Try.underlying22 hi hz0 hz1 hz2 rfl (by decide) v L.length vs h1 ⟨w.heap.size, 0, none⟩ 1 1 [x] rfl (made_slice w _ _) (fun u hu => by rw [List.mem_singleton.1 hu, hx]; rfl) (by unfold maxLen; omega) (by omega) (Nat.le_trans hB hb1.size)
  have far : ∀ k, k < w.heap.size → v.ownBlock ≠ some k → v'.ownBlock ≠ some k := by
    intro k hl hne
    rcases hat with e | e
    · rw [e]; exact hne
    · rw [e]
      intro e2
      have e3 := Option.some.inj e2
      have := hb1.size
      omega
  refine ⟨v', w', hr, ⟨by rw [List.length_append]; exact h5, by rw [List.length_append, List.length_append, h2]; rfl, fun i hi y hy => ?_, fun i j y z k hij hy hz hk => ?_⟩, (hb1.mono hB).grown hg (Nat.le_trans hB hb1.size) (fun k hk => (h.1.lt k hk).1)⟩
  · by_cases hil : i < L.length
    · rw [List.getElem?_append_left (by omega)] at hy
      have e : (L ++ [l])[i] = L[i] := List.getElem_append_left hil
      rw [e]
      obtain ⟨h6, h7⟩ := h3 i hil y hy
      refine ⟨h6.kept hg ?_, fun k hk => far k ((h.2.2.1 i hil y hy).1.1.lt k hk).2 (h7 k hk)⟩
      cases e : y.ownBlock with
      | none => exact .inl rfl
      | some k => exact .inr (fun e2 => h7 k e e2.symm)
    · obtain rfl : i = L.length := by rw [List.length_append] at hi; simp at hi; omega
      rw [List.getElem?_append_right (by omega), h2, Nat.sub_self] at hy
      obtain rfl : x = y := by simpa using hy
      have e : (L ++ [l])[L.length] = l := by simp
      rw [e]
      refine ⟨(hO.alloc _).kept hg ?_, fun k hk => far k (hO.1.lt k hk).2 (hf k hk).1⟩
      cases e : x.ownBlock with
      | none => exact .inl rfl
      | some k => exact .inr (fun e2 => (hf k e).1 e2.symm)
  · by_cases hjl : j < L.length
    · rw [List.getElem?_append_left (by omega)] at hy hz
      exact h4 i j y z k hij hy hz hk
    · have hjx : j = L.length := by
        have := List.getElem?_eq_some_iff.1 hz
        obtain ⟨hj, _⟩ := this
        rw [List.length_append, h2] at hj
        simp at hj
        omega
      subst hjx
      rw [List.getElem?_append_left (by omega)] at hy
      rw [List.getElem?_append_right (by omega), h2, Nat.sub_self] at hz
      obtain rfl : x = z := by simpa using hz
      intro e
      exact (hf k e).2 i y hy hk
theorem step_app_copy {ops : Array Oper} {o : Oper} {a : Act} {w : World} {K : Act → World → Prop} {Q : Exit → Act → World → Prop} {E : Prop} (hgd : o.guard = none) (s x : Operand)
    (ho : o.op = Op.call { callee := Callee.builtin Builtin.append, args := #[s, x], argTypes := #[22, 22] }) {B : Nat} {v : Value} {vs : List Value} {L : List (List Int)} (hs : a.eval s = v) (h : CP w B v vs L)
    {y : Value} {l : List Int} (hx : a.eval x = .slice (some ⟨w.heap.size, 0, none⟩) 1 1) (hO : OI w B y l) (hf : ∀ k, y.ownBlock = some k → v.ownBlock ≠ some k ∧ ∀ (i : Nat) (z : Value), vs[i]? = some z → z.ownBlock ≠ some k) (hz : L.length + 1 ≤ 1000000) (hB : B ≤ w.heap.size)
    (hK : ∀ v' w', CP w' B v' (vs ++ [y]) (L ++ [l]) → Below B w w' → K (a.put o.dst v') w') :
    if Region.wanted o (yielded ops a.tmps) = true then Oper.wp Try.prog o a (w.alloc (.cells #[y] 45)) K Q else E := by
  have hw : Region.wanted o (yielded ops a.tmps) = true := by simp [Region.wanted, hgd]
  rw [if_pos hw]
  obtain ⟨v', w', hr, h2, h3⟩ := run_app_copy w o.type h hO hf hz hB
  unfold Oper.wp
  simp [execOp, ho, resolve, invoke, builtin, hs, hx, hr, Result.andThen]
  exact hK v' w' h2 h3
theorem CP.fresh {w w1 : World} {B : Nat} {v y : Value} {vs : List Value} {L : List (List Int)} {l : List Int} (h : CP w B v vs L) (hO : OI w1 w.heap.size y l) : ∀ k, y.ownBlock = some k → v.ownBlock ≠ some k ∧ ∀ (i : Nat) (z : Value), vs[i]? = some z → z.ownBlock ≠ some k := by
  intro k hk
  have h1 := (hO.1.lt k hk).1
  refine ⟨fun e => by have := (h.1.lt k e).2; omega, fun i z hz e => ?_⟩
  have hi : i < L.length := by
    obtain ⟨hi, _⟩ := List.getElem?_eq_some_iff.1 hz
    rw [h.2.1] at hi
    exact hi
  have := ((h.2.2.1 i hi z hz).1.1.lt k e).2
  omega
theorem CP.take {w : World} {B : Nat} {v : Value} {vs : List Value} {L : List (List Int)} {n : Nat} (hn : n < L.length) (h : CP w B v vs (L.take n ++ [L[n]])) : CP w B v vs (L.take (n + 1)) := by
  rw [List.take_succ_eq_append_getElem hn]
  exact h
end Go.Proofs.Ythfbefkddnbbcaa
namespace Go.Proofs.Ythfbefkddnbbcaa
set_option linter.unusedVariables false
open Go.RowKit Go.Maps
set_option maxRecDepth 20000
theorem lunit_row : (65 : TypeId) < Try.prog.types.size := of_decide_eq_true (by kernel_rfl)
theorem lunit_law : Keyed Try.prog 65 := Keyed.of_law (deep_law_laid laidOut (m := 2) (by omega) lunit_row (by kernel_rfl) (by rw [Try.underlying65]))
theorem lunit_key (u : Int) (hu : (Lit.int .i64 u).wf = true) : keyOf Try.prog 65 (.agg #[.int .i64 u]) = some (klU u) := by
  obtain ⟨n, hn⟩ := types_succ
  exact key_one Try.underlying65 (by kernel_rfl) (by rfl) rfl (by kernel_rfl) Try.underlying3 (by kernel_rfl) hn hu
theorem lunit_inv {v : Value} {kl : Lit} (h : keyOf Try.prog 65 v = some kl) : ∃ u, v = .agg #[.int .i64 u] ∧ (Lit.int .i64 u).wf = true := by
  obtain ⟨n, hn⟩ := types_succ
  exact key_one_inv Try.underlying65 (by kernel_rfl) (by rfl) rfl (by kernel_rfl) Try.underlying3 (by kernel_rfl) hn h
theorem zero_none (w : World) : (zeroValue 72).run Try.prog w = .ok (.agg #[]) w := by kernel_rfl
/-- the map at block b is the set of the units S -/
def Usd (w : World) (b : Nat) (S : List Int) : Prop := w.ownsMap Try.prog 65 (unitElem (H := Unit)) b S.length (setD klU S) ∧ wfL S
theorem Usd.made (w : World) : Usd (w.alloc (.map #[] 0)) w.heap.size [] := ⟨World.ownsMap_made _ _ _ _, wfL.nil⟩
theorem Usd.keep {w w' : World} {b : Nat} {S : List Int} (h : Usd w b S) (e : w'.heap[b]? = w.heap[b]?) : Usd w' b S := by
  obtain ⟨⟨es, clock, h1, h2⟩, h3⟩ := h
  exact ⟨⟨es, clock, e.trans h1, h2⟩, h3⟩
theorem Usd.lt {w : World} {b : Nat} {S : List Int} (h : Usd w b S) : b < w.heap.size := h.1.lt
theorem Usd.below {w w' : World} {b : Nat} {S : List Int} (h : Usd w b S) (hb : Below w.heap.size w w') : Usd w' b S := h.keep (hb.block b h.lt)
theorem Usd.has {w : World} {b : Nat} {S : List Int} (h : Usd w b S) {u : Int} (hu : (Lit.int .i64 u).wf = true) : Maps.has (setD klU S) (klU u) = decide (u ∈ S) := setD_has lunit_law lunit_key unit_inj h.2 hu
/-- block b is the program's layout, whatever it tells -/
def LB (b : Nat) (G : Nat → Prop) (w : World) (y : Ly) : Prop :=
  ∃ (v : Value) (mb : Nat) (F : Nat → Prop), w.heap[b]? = some (.cells #[.int .i64 y.ep, v, .map (some mb), .int .i64 y.mark, .int .i64 y.size, .int .i64 y.n] 58 (0, 0)) ∧ CG F w v y.L ∧ Usd w mb y.used ∧ b ≠ mb ∧ G b ∧ G mb ∧ (∀ k, F k → G k ∧ k ≠ b ∧ k ≠ mb) ∧ ∀ k, G k → k < w.heap.size
/-- block b is the program's layout -/
def LM (b : Nat) (G : Nat → Prop) (w : World) (y : Ly) : Prop := goodB y.ep y.L = true ∧ LB b G w y
theorem lb_thing (b : Nat) : Thing (LB b) where
  lt := by
    rintro G w y ⟨v, mb, F, _, _, _, _, _, _, _, h⟩ k hk
    exact h k hk
  keep := by
    rintro G S w w' y ⟨v, mb, F, h1, h2, h3, h4, h5, h6, h7, h8⟩ hk hS
    exact ⟨v, mb, F, hk.heap (hS b h5) h1, h2.keep hk (fun k hf => hS k (h7 k hf).1), h3.keep (hk.block mb (hS mb h6) (h8 mb h6)), h4, h5, h6, h7, fun k hg => Nat.lt_of_lt_of_le (h8 k hg) hk.size⟩
theorem lm_thing (b : Nat) : Thing (LM b) where
  lt := by
    rintro G w y ⟨_, h⟩ k hk
    exact (lb_thing b).lt h k hk
  keep := by
    rintro G S w w' y ⟨h0, h⟩ hk hS
    exact ⟨h0, (lb_thing b).keep h hk hS⟩
section
variable {w W W2 : World} {b : Nat} {G H : Nat → Prop} {y : Ly}
/-- what the layout's cells hold -/
theorem LB.open (h : LB b G w y) : ∃ ao cap mb, w.heap[b]? = some (.cells #[.int .i64 y.ep, .slice ao y.L.length cap, .map (some mb), .int .i64 y.mark, .int .i64 y.size, .int .i64 y.n] 58 (0, 0)) ∧ CL w ao y.L ∧ Usd w mb y.used ∧ b ≠ mb ∧ G b ∧ G mb := by
  obtain ⟨v, mb, F, h1, h2, h3, h4, h5, h6, h7, h8⟩ := h
  obtain ⟨ao, cap, rfl, h9, _⟩ := h2.cl
  exact ⟨ao, cap, mb, h1, h9, h3, h4, h5, h6⟩
theorem LB.small (h : LB b G w y) : b < w.heap.size := by
  obtain ⟨_, _, _, h1, _⟩ := h.open
  exact lt_of_block h1
theorem LB.below (h : LB b G w y) {w' : World} (hb : Below w.heap.size w w') : LB b G w' y := (lb_thing b).keep h (Kept.ofBelow hb (fun _ => True)) (fun _ _ => trivial)
theorem LB.cl {ao : Option Addr} {n cap : Nat} (h : LB b G w y) (hc : w.cell? ⟨b, 1, none⟩ = some (.slice ao n cap)) : CL w ao y.L := by
  obtain ⟨lo, lc, mb, h1, h2, _⟩ := h.open
  have e : w.cell? ⟨b, 1, none⟩ = some (.slice lo y.L.length lc) := cell_of h1 1
  rw [hc] at e
  have e2 := Value.slice.inj (Option.some.inj e)
  rw [e2.1]
  exact h2
/-- a copy of a projection is laid into the layout -/
theorem LB.chains (h : LB b H W y) (hb : Below W.heap.size W W2) {e : Int} {v : Value} {L : List (List Int)} (hO : OC W2 W.heap.size v L) :
    Leaves (LB b) H W ((W2.setCell ⟨b, 0, none⟩ (.int .i64 e)).setCell ⟨b, 1, none⟩ v) ⟨e, L, y.used, y.mark, y.size, y.n⟩ := by
  obtain ⟨v0, mb, F, h1, h2, h3, h4, h5, h6, h7, h8⟩ := h
  have hr := lt_of_block h1
  have hm := h3.lt
  have hk : Kept (fun k => k ≠ b) W2 ((W2.setCell ⟨b, 0, none⟩ (.int .i64 e)).setCell ⟨b, 1, none⟩ v) := ((Kept.refl _ W2).setCell (p := ⟨b, 0, none⟩) (fun h => h rfl) _).setCell (p := ⟨b, 1, none⟩) (fun h => h rfl) _
  have e1 := below_heap hb h1
  have e2 := heap_setCell_same W2 b 0 _ _ (.int .i64 e) e1
  have e3 := heap_setCell_same _ b 1 _ _ v e2
  have hs : ((W2.setCell ⟨b, 0, none⟩ (.int .i64 e)).setCell ⟨b, 1, none⟩ v).heap.size = W2.heap.size := by simp [World.setCell]
  refine ⟨fun k => H k ∨ (W.heap.size ≤ k ∧ k < W2.heap.size), ⟨v, mb, fun k => W.heap.size ≤ k ∧ k < W2.heap.size, e3, ?_, (h3.below hb).keep (hk.block mb (fun e => h4 e.symm) (Nat.lt_of_lt_of_le hm hb.size)), h4, .inl h5, .inl h6, fun k hk2 => ⟨.inr hk2, by omega, by omega⟩, fun k hk2 => ?_⟩, (Kept.ofBelow hb _).trans (hk.mono (fun k hn e => hn (e ▸ h5))), fun k hk2 => hk2.imp id (fun h => h.1)⟩
  · exact (CG.of hO).keep hk (fun k hk => by omega)
  · rw [hs]
    rcases hk2 with hk2 | hk2
    · exact Nat.lt_of_lt_of_le (h8 k hk2) hb.size
    · exact hk2.2
/-- a unit is noted -/
theorem LB.put (h : LB b H W y) {mb : Nat} {u : Int} {n : Nat} (hc : W.cell? ⟨b, 2, none⟩ = some (.map (some mb))) (hu : (Lit.int .i64 u).wf = true) (hn : n = y.used.length + 1) (ho : W2.ownsMap Try.prog 65 (unitElem (H := Unit)) mb n ((setD klU y.used).put (klU u) (.agg []))) (hg : W.grownBy W2 (some mb)) :
    LB b H W2 ⟨y.ep, y.L, y.used ++ [u], y.mark, y.size, y.n⟩ := by
  obtain ⟨v0, mb', F, h1, h2, h3, h4, h5, h6, h7, h8⟩ := h
  have e : mb' = mb := by
    have h9 : W.cell? ⟨b, 2, none⟩ = some (.map (some mb')) := cell_of h1 2
    rw [hc] at h9
    injection h9 with h9
    injection h9 with h9
    exact (Option.some.inj h9).symm
  subst e
  have hk : Kept (fun k => k ≠ mb') W W2 := (Kept.refl _ W).grown hg (fun k e hk => hk (Option.some.inj e).symm)
  refine ⟨v0, mb', F, hk.heap h4 h1, h2.keep hk (fun k hf => (h7 k hf).2.2), ⟨?_, h3.2.append (wfL.one hu)⟩, h4, h5, h6, h7, fun k hk2 => Nat.lt_of_lt_of_le (h8 k hk2) hk.size⟩
  show W2.ownsMap _ _ _ mb' (y.used ++ [u]).length (setD klU (y.used ++ [u]))
  rw [setD_snoc, show (y.used ++ [u]).length = n from by rw [hn, List.length_append]; rfl]
  exact ho
/-- an image is marked -/
theorem LB.mark (h : LB b H W y) (m z n : Int) : Leaves (LB b) H W (((W.setCell ⟨b, 3, none⟩ (.int .i64 m)).setCell ⟨b, 4, none⟩ (.int .i64 z)).setCell ⟨b, 5, none⟩ (.int .i64 n)) ⟨y.ep, y.L, y.used, m, z, n⟩ := by
  obtain ⟨v0, mb, F, h1, h2, h3, h4, h5, h6, h7, h8⟩ := h
  have hk : Kept (fun k => k ≠ b) W (((W.setCell ⟨b, 3, none⟩ (.int .i64 m)).setCell ⟨b, 4, none⟩ (.int .i64 z)).setCell ⟨b, 5, none⟩ (.int .i64 n)) := (((Kept.refl _ W).setCell (p := ⟨b, 3, none⟩) (fun h => h rfl) _).setCell (p := ⟨b, 4, none⟩) (fun h => h rfl) _).setCell (p := ⟨b, 5, none⟩) (fun h => h rfl) _
  have e1 := heap_setCell_same _ b 5 _ _ (.int .i64 n) (heap_setCell_same _ b 4 _ _ (.int .i64 z) (heap_setCell_same W b 3 _ _ (.int .i64 m) h1))
  exact ⟨H, ⟨v0, mb, F, e1, h2.keep hk (fun k hf => (h7 k hf).2.1), h3.keep (hk.block mb (fun e => h4 e.symm) h3.lt), h4, h5, h6, h7, fun k hk2 => by simpa [World.setCell] using h8 k hk2⟩, hk.mono (fun k hn e => hn (e ▸ h5)), fun k hk2 => .inl hk2⟩
end
section
variable {α : Type} {T : (Nat → Prop) → World → α → Prop} {G : Nat → Prop} {w W W2 : World} {a a' : α}
/-- one step behind another -/
theorem Leaves.then (hG : ∀ k, G k → k < w.heap.size) (h : Leaves T G w W a) (hs : ∀ H, T H W a → Leaves T H W W2 a') : Leaves T G w W2 a' := by
  obtain ⟨H, h1, h2, h3⟩ := h
  obtain ⟨H', r1, r2, r3⟩ := hs H h1
  refine ⟨H', r1, ?_, fun k hk => ?_⟩
  · refine ⟨r2.os.trans h2.os, r2.tape.trans h2.tape, r2.output.trans h2.output, Nat.le_trans h2.size r2.size, fun k hg hkl => ?_⟩
    have hn : ¬ H k := fun hf => by
      rcases h3 k hf with h | h
      · exact hg h
      · omega
    rw [r2.block k hn (Nat.lt_of_lt_of_le hkl h2.size)]
    exact h2.block k hg hkl
  · rcases r3 k hk with h | h
    · exact h3 k h
    · exact .inr (Nat.le_trans h2.size h)
theorem Leaves.to {β : Type} {U : (Nat → Prop) → World → β → Prop} {b : β} (h : Leaves T G w W a) (hs : ∀ H, T H W a → U H W b) : Leaves U G w W b := by
  obtain ⟨H, h1, h2, h3⟩ := h
  exact ⟨H, hs H h1, h2, h3⟩
end
end Go.Proofs.Ythfbefkddnbbcaa
namespace Go.Proofs.Ythfbefkddnbbcaa
set_option linter.unusedVariables false
open Go.RowKit Go.Maps
set_option maxRecDepth 20000
theorem lwithin_any (v a b : Int) (w : World) :
    Calls Try.prog 46 #[.int .i64 v, .int .i64 a, .int .i64 b] w fun e w' => e = .returned (.bool (inB v a b)) ∧ w = w' := by
  by_cases h1 : a ≤ v
  · by_cases h2 : v ≤ b
    · rw [show inB v a b = true from decide_eq_true ⟨h1, h2⟩]
      go_enter Try.func46, Try.ntmps46
      go_wp2_with fail
      go_ret
      exact ⟨rfl, rfl⟩
    · rw [show inB v a b = false from decide_eq_false (fun h => h2 h.2)]
      have h3 : decide (v ≤ b) = false := decide_eq_false h2
      clear h2
      go_enter Try.func46, Try.ntmps46
      go_wp2_with fail
      go_ret
      exact ⟨rfl, rfl⟩
  · rw [show inB v a b = false from decide_eq_false (fun h => h1 h.1)]
    have h3 : decide (a ≤ v) = false := decide_eq_false h1
    clear h1
    go_enter Try.func46, Try.ntmps46
    go_wp2_with fail
    go_ret
    exact ⟨rfl, rfl⟩
/-- is an image within its bounds? -/
def goodI (p s n : Int) : Bool := inB p 0 16383 && inB s 1 65536 && inB n 0 16384
theorem goodI_no {a : Ak} (h : badM a) : goodI a.page a.size a.n = false := by
  unfold badM at h
  unfold goodI inB
  by_cases h1 : 0 ≤ a.page ∧ a.page ≤ 16383
  · by_cases h2 : 1 ≤ a.size ∧ a.size ≤ 65536
    · have h3 : ¬ (0 ≤ a.n ∧ a.n ≤ 16384) := by omega
      rw [decide_eq_false h3, Bool.and_false]
    · rw [decide_eq_false h2, Bool.and_false, Bool.false_and]
  · rw [decide_eq_false h1, Bool.false_and, Bool.false_and]
theorem goodI_yes {a : Ak} (h : ¬ badM a) : goodI a.page a.size a.n = true := by
  unfold badM at h
  unfold goodI inB
  rw [decide_eq_true (by omega : 0 ≤ a.page ∧ a.page ≤ 16383), decide_eq_true (by omega : 1 ≤ a.size ∧ a.size ≤ 65536), decide_eq_true (by omega : 0 ≤ a.n ∧ a.n ≤ 16384)]
  rfl
theorem lgood_any (p s n : Int) (w : World) :
    Calls Try.prog 40 #[.agg #[.int .i64 p, .int .i64 s, .int .i64 n]] w fun e w' => e = .returned (.bool (goodI p s n)) ∧ Below w.heap.size w w' := by
  have C0 := Lib.hid (fun w => lwithin_any p 0 16383 w)
  have C1 := Lib.hid (fun w => lwithin_any s 1 65536 w)
  have C2 := Lib.hid (fun w => lwithin_any n 0 16384 w)
  have HB := Lib.hid (below_new w (.cells #[.int .i64 p, .int .i64 s, .int .i64 n] 56))
  unfold goodI
  generalize inB p 0 16383 = g0 at *
  generalize inB s 1 65536 = g1 at *
  generalize inB n 0 16384 = g2 at *
  cases g0 <;> cases g1 <;> cases g2
  all_goals
    go_enter Try.func40, Try.ntmps40
    go_wp2_with (go_at_call 46; first | (with_reducible refine (C0.out _).mono ?_; rintro e w1 ⟨rfl, rfl⟩) | (with_reducible refine (C1.out _).mono ?_; rintro e w1 ⟨rfl, rfl⟩) | (with_reducible refine (C2.out _).mono ?_; rintro e w1 ⟨rfl, rfl⟩))
    go_ret
    exact ⟨rfl, HB.out⟩
theorem ltold_any (p s n : Int) (w : World) :
    Calls Try.prog 28 #[.agg #[.int .i64 p, .int .i64 s, .int .i64 n]] w fun e w' => e = .returned (.agg #[.int .i64 0, .int .i64 n, .string ⟨#[]⟩, .int .i64 0, .slice none 0 0, .int .i64 p, .int .i64 s, .int .i64 0]) ∧ Below w.heap.size w w' := by
  have H := two_blocks w #[.int .i64 p, .int .i64 s, .int .i64 n] #[.int .i64 0, .int .i64 n, .string ⟨#[]⟩, .int .i64 0, .slice none 0 0, .int .i64 p, .int .i64 s, .int .i64 0] 56 41
  go_enter Try.func28, Try.ntmps28
  go_wp2_with fail
  exact ans_ret (x := anM n p s) (ao := none) (cap := 0) rfl H.2 rfl rfl ⟨rfl, (below_new _ _).alloc (by simp) _⟩
theorem lcoded_any (c : Int) (w : World) : Calls Try.prog 27 #[.int .i64 c] w fun e w' => e = .returned (.agg #[.int .i64 c, .int .i64 0, .string ⟨#[]⟩, .int .i64 0, .slice none 0 0, .int .i64 0, .int .i64 0, .int .i64 0]) ∧ Below w.heap.size w w' := by
  go_enter Try.func27, Try.ntmps27
  go_wp2
  exact ans_ret (x := anP c 0 noL 0) (ao := none) (cap := 0) rfl (heap_alloc_new _ _) rfl rfl ⟨rfl, (Below.refl _ _).alloc (Nat.le_refl _) _⟩
theorem lindex_any (l : List Int) (u : Int) (ao : Option Addr) (cap : Nat) (w : World) (h : NLI w ao cap l) (hl : l.length ≤ 1000000) :
    Calls Try.prog 59 #[.slice ao l.length cap, .int .i64 u] w fun e w' => ∃ r : Int, e = .returned (.int .i64 r) ∧ w = w' ∧ ((0 ≤ r ∧ hasB l u = true) ∨ (r < 0 ∧ hasB l u = false)) := by
  have HY := Lib.hid (fun k (hk : k < l.length) => show u = l[k] → hasB l u = true from fun e => decide_eq_true (by rw [e]; exact List.getElem_mem hk))
  have HN := Lib.hid (show u ∉ l.take l.length → hasB l u = false from fun e => by rw [List.take_of_length_le (Nat.le_refl _)] at e; exact decide_eq_false e)
  generalize hasB l u = R at *
  have HA := Lib.hid h
  have hl' : (l.length : Int) ≤ 1000000 := by omega
  clear h
  go_enter Try.func59, Try.ntmps59
  go_wp2_with fail
  go_loop [8] (fun i => ∃ k : Nat, i = .int .i64 k ∧ k ≤ l.length ∧ Hid (u ∉ l.take k)) (fun i => l.length - (intOf i).toNat)
  case atStart => exact ⟨0, rfl, Nat.zero_le _, Lib.hid (by simp)⟩
  case round =>
    obtain ⟨k, rfl, hk, HT⟩ := hrel
    by_cases hlt : k < l.length
    · obtain ⟨bk, off, rfl, c0⟩ := HA.out.at k hlt
      have k0 : (k : Int) < (l.length : Int) := by omega
      by_cases he : u = l[k]
      · have HX := Lib.hid (HY.out k hlt he)
        have d0 : (u == l[k]) = true := beq_iff_eq.2 he
        clear he
        generalize l[k] = z at *
        go_wp2_with fail
        go_ret
        exact ⟨_, rfl, rfl, .inl ⟨by omega, HX.out⟩⟩
      · have HT2 := Lib.hid (show u ∉ l.take (k + 1) from by
          rw [List.take_succ_eq_append_getElem hlt, List.mem_append, List.mem_singleton]
          exact fun h => h.elim HT.out he)
        have d0 : (u == l[k]) = false := beq_eq_false_iff_ne.2 he
        clear he
        generalize l[k] = z at *
        go_wp2_with fail
        go_round
        case rel => exact ⟨k + 1, by go_num, by omega, HT2⟩
        case measure => simp [intOf]; omega
    · obtain rfl : k = l.length := by omega
      have HX := Lib.hid (HN.out HT.out)
      go_wp2_with fail
      go_ret
      exact ⟨_, rfl, rfl, .inr ⟨by decide, HX.out⟩⟩
theorem lcontains_any (l : List Int) (u : Int) (ao : Option Addr) (cap : Nat) (w : World) (h : NLI w ao cap l) (hl : l.length ≤ 1000000) :
    Calls Try.prog 45 #[.slice ao l.length cap, .int .i64 u] w fun e w' => e = .returned (.bool (hasB l u)) ∧ w = w' := by
  have CI := Lib.hid (lindex_any l u ao cap w h hl)
  clear h hl
  cases hb : hasB l u
  · rw [hb] at CI
    clear hb
    go_enter Try.func45, Try.ntmps45
    go_wp2_with (go_at_call 59; refine CI.out.mono ?_; rintro e w1 ⟨r, rfl, rfl, hr⟩; have hr0 : decide (0 ≤ r) = false := decide_eq_false (Int.not_le.2 (hr.elim (fun h => by cases h.2) (fun h => h.1))); clear hr)
    go_ret
    exact ⟨rfl, rfl⟩
  · rw [hb] at CI
    clear hb
    go_enter Try.func45, Try.ntmps45
    go_wp2_with (go_at_call 59; refine CI.out.mono ?_; rintro e w1 ⟨r, rfl, rfl, hr⟩; have hr0 : decide (0 ≤ r) = true := decide_eq_true (hr.elim (fun h => h.1) (fun h => by cases h.2)); clear hr)
    go_ret
    exact ⟨rfl, rfl⟩
end Go.Proofs.Ythfbefkddnbbcaa
namespace Go.Proofs.Ythfbefkddnbbcaa
open Go.RowKit
set_option linter.unusedVariables false
set_option maxRecDepth 20000
theorem OC.ofCP {w : World} {B : Nat} {v : Value} {vs : List Value} {L : List (List Int)} (h : CP w B v vs L) : OC w B v L := by
  refine ⟨vs, h.1, fun i hi => ?_⟩
  have hv : i < vs.length := by rw [h.2.1]; exact hi
  obtain ⟨h1, h2⟩ := h.2.2.1 i hi vs[i] (List.getElem?_eq_getElem hv)
  obtain ⟨ao, cap, e, hN, hA, ho⟩ := h1.form
  exact ⟨ao, cap, by rw [List.getElem?_eq_getElem hv, e], hN, fun a ea => ⟨(hA a ea).1, (hA a ea).2, h2 a.block (by rw [ho, ea]; rfl)⟩⟩
set_option maxHeartbeats 8000000 in
theorem copyO_any (ep : Int) (ao : Option Addr) (cap : Nat) (L : List (List Int)) (w : World) (hT : CL w ao L) (hS : L.length ≤ 255 ∧ ∀ c ∈ L, c.length ≤ 255) :
    Calls Try.prog 32 #[.agg #[.int .i64 ep, .slice ao L.length cap]] w fun e w' => ∃ v, e = .returned (.agg #[.int .i64 ep, v]) ∧ OC w' w.heap.size v L ∧ Below w.heap.size w w' := by
  have HB0 := Lib.hid ((((Below.refl w.heap.size w).alloc (Nat.le_refl _) (.cells #[.int .i64 ep, .slice ao L.length cap] 24)).alloc (by simp) (.cells #[.int .i64 0, .slice none 0 0] 24)).alloc (by simp; omega) (.cells #[.int .i64 ep, .slice none 0 0] 24))
  have hl' : (L.length : Int) ≤ 255 := by have := hS.1; omega
  have HT := Lib.hid hT
  have HM := Lib.hid hS
  have HRES := Lib.hid (show ((((w.alloc (.cells #[.int .i64 ep, .slice ao L.length cap] 24)).alloc (.cells #[.int .i64 0, .slice none 0 0] 24)).alloc (.cells #[.int .i64 ep, .slice none 0 0] 24))).heap[w.heap.size + 1]? = some (.cells #[.int .i64 0, .slice none 0 0] 24 (0, 0)) from by
    have h := heap_alloc_new (w.alloc (.cells #[.int .i64 ep, .slice ao L.length cap] 24)) (.cells #[.int .i64 0, .slice none 0 0] 24)
    have h2 := below_heap ((Below.refl _ _).alloc (Nat.le_refl _) (.cells #[.int .i64 ep, .slice none 0 0] 24)) h
    simpa using h2)
  have HQ0 := Lib.hid (show ((((w.alloc (.cells #[.int .i64 ep, .slice ao L.length cap] 24)).alloc (.cells #[.int .i64 0, .slice none 0 0] 24)).alloc (.cells #[.int .i64 ep, .slice none 0 0] 24))).heap[w.heap.size + 2]? = some (.cells #[.int .i64 ep, .slice none 0 0] 24 (0, 0)) from by
    have h := heap_alloc_new ((w.alloc (.cells #[.int .i64 ep, .slice ao L.length cap] 24)).alloc (.cells #[.int .i64 0, .slice none 0 0] 24)) (.cells #[.int .i64 ep, .slice none 0 0] 24)
    simpa using h)
  have HSZ := Lib.hid (show ((((w.alloc (.cells #[.int .i64 ep, .slice ao L.length cap] 24)).alloc (.cells #[.int .i64 0, .slice none 0 0] 24)).alloc (.cells #[.int .i64 ep, .slice none 0 0] 24))).heap.size = w.heap.size + 3 from by simp)
  clear hT hS
  go_enter Try.func32, Try.ntmps32
  go_wp2_with fail
  generalize hW0 : World.alloc (World.alloc _ _) _ = W0 at *
  go_loopw [12] (fun i wr => ∃ (n : Nat) (v : Value) (vs : List Value), i = .int .i64 n ∧ n ≤ L.length ∧ Hid (wr.heap[w.heap.size + 2]? = some (.cells #[.int .i64 ep, v] 24 (0, 0))) ∧ Hid (CP wr (w.heap.size + 3) v vs (L.take n)) ∧ Hid (Kept (fun k => k < w.heap.size + 3 ∧ k ≠ w.heap.size + 2) W0 wr)) (fun i _ => L.length - (intOf i).toNat)
  case atStart => exact ⟨0, _, [], rfl, Nat.zero_le _, HQ0, Lib.hid (by rw [List.take_zero]; exact CP.nil _ _), Lib.hid (Kept.refl _ _)⟩
  case round =>
    obtain ⟨n, v, vs, rfl, hn, HP, HC, HK⟩ := hrel
    have HWB := Lib.hid (HB0.out.trans (HK.out.toBelow (by rw [HSZ.out]; omega) (fun k h => ⟨by omega, by omega⟩)))
    have hszr : w.heap.size + 3 ≤ wr.heap.size := by have := HK.out.size; have := HSZ.out; omega
    by_cases hlt : n < L.length
    · obtain ⟨bk, off, ai, ci, hao, c0w, hN⟩ := HT.out n hlt
      subst hao
      have cA : wr.cell? ⟨bk, off + n, none⟩ = some (.slice ai L[n].length ci) := cellB HWB.out (block_lt_of_cell c0w) c0w
      have HNN := Lib.hid (show NLI wr.drew ai ci L[n] from (hN.below HWB.out).drew)
      have k0 : (n : Int) < (L.length : Int) := by omega
      have m0 := HM.out.2 _ (List.getElem_mem hlt)
      have m0' : (L[n].length : Int) ≤ 255 := by omega
      have hLn := HM.out.1
      have HLT := Lib.hid (show (L.take n).length + 1 ≤ 1000000 from by rw [List.length_take]; omega)
      obtain ⟨c0, c1, f0, f1⟩ := two_cells HP.out
      have HTK := Lib.hid (fun (w' : World) (v' : Value) (vs' : List Value) h => @CP.take w' (w.heap.size + 3) v' vs' L n hlt h)
      have hqr : w.heap.size + 2 < wr.heap.size := by omega
      clear c0w hN
      go_wp2_with fail
      clear cA
      go_region_law (first
        | (refine step_app_ints rfl (.const (.slice none 0 0)) (.tmp 18) rfl (B := wr.heap.size) (v := .slice none 0 0) (D := []) rfl (OI.nil _ _) (ao := ai) (cap := ci) (l := L[n]) rfl rfl HNN.out (by simp; omega) (Nat.le_refl _) ?_; intro v1 w1 hI hg _; rw [List.nil_append] at hI; have hb1 : Below wr.heap.size wr w1 := (Below.refl wr.heap.size wr).drew.grown hg (Nat.le_refl _) (fun k e => by cases e); obtain ⟨a1, cc1, hv1, _, _, _⟩ := hI.form; subst hv1; have HC1 := Lib.hid (HC.out.below hb1); have HF1 := Lib.hid (HC.out.fresh hI); have HI1 := Lib.hid (hI.lower hszr); have HB1 := Lib.hid hb1; have hsz1 : w.heap.size + 3 ≤ w1.heap.size := Nat.le_trans hszr hb1.size; have hq1 : w.heap.size + 2 < w1.heap.size := hsz1; have HP1 := Lib.hid (below_heap hb1 HP.out); obtain ⟨d0, d1, g0, g1⟩ := two_cells HP1.out; clear hI hg hb1)
        | (refine step_app_copy rfl (.tmp 17) (.tmp 20) rfl (w := w1) (B := w.heap.size + 3) (v := v) (vs := vs) (L := L.take n) rfl HC1.out (y := .slice a1 L[n].length cc1) (l := L[n]) rfl HI1.out HF1.out HLT.out hsz1 ?_; intro v2 w2 hC2 hb2; obtain ⟨b8, n8, c8, hv8⟩ : ∃ b8 n8 c8, v2 = .slice b8 n8 c8 := (by obtain ⟨x, y, e⟩ := hC2.form; exact ⟨x, _, y, e⟩); subst hv8; have HC2 := Lib.hid (HTK.out _ _ _ hC2); have HP2 := Lib.hid ((below_kept hb2 hsz1).heap (b := w.heap.size + 2) (by omega) HP1.out); obtain ⟨x0, x1, y0, y1⟩ := two_cells HP2.out; have HK2 := Lib.hid ((HK.out.below HB1.out).trans ((below_kept hb2 hsz1).mono (fun k h => h.1))); clear hC2 hb2))
      all_goals
        go_wp2_with fail
        go_roundw
        case rel =>
          refine ⟨n + 1, .slice b8 n8 c8, vs ++ [.slice a1 L[n].length cc1], by go_num, by omega, Lib.hid (two_set1 HP2.out (.slice b8 n8 c8)), Lib.hid ?_, Lib.hid ?_⟩
          · exact HC2.out.keep ((Kept.refl (fun k => w.heap.size + 3 ≤ k) w2).setCell (p := ⟨w.heap.size + 2, 1, none⟩) (by simp) (.slice b8 n8 c8)) (fun k h _ => h)
          · exact HK2.out.setCell (p := ⟨w.heap.size + 2, 1, none⟩) (by simp) (.slice b8 n8 c8)
        case measure => simp [intOf]; omega
    · obtain rfl : n = L.length := by omega
      rw [List.take_of_length_le (Nat.le_refl _)] at HC
      obtain ⟨bo1, cb1, hv1⟩ := HC.out.form
      subst hv1
      have HR := Lib.hid (HK.out.heap (b := w.heap.size + 1) ⟨by omega, by omega⟩ HRES.out)
      obtain ⟨c0, c1, f0, f1⟩ := two_cells HP.out
      obtain ⟨t0, t1, g0, g1⟩ := two_cells HR.out
      have hszp : w.heap.size + 2 < wr.heap.size := by omega
      go_wp2_with fail
      have hK := ((Kept.refl (fun k => w.heap.size + 3 ≤ k) wr).setCell (p := ⟨w.heap.size + 1, 0, none⟩) (by simp) (.int .i64 ep)).setCell (p := ⟨w.heap.size + 1, 1, none⟩) (by simp) (.slice bo1 L.length cb1)
      exact proj_ret rfl (two_set1 (two_set0 HR.out (.int .i64 ep)) (.slice bo1 L.length cb1)) rfl rfl ⟨.slice bo1 L.length cb1, rfl, (OC.ofCP (HC.out.keep hK (fun _ h _ => h))).lower (by omega), (HWB.out.setCell (by simp) _).setCell (by simp) _⟩
end Go.Proofs.Ythfbefkddnbbcaa
namespace Go.Proofs.Ythfbefkddnbbcaa
set_option linter.unusedVariables false
open Go.RowKit Go.Maps
set_option maxRecDepth 20000
theorem lp_now (b : Nat) (G : Nat → Prop) (w : World) (y : Ly) (h : LB b G w y) (hl : y.L.length ≤ 255 ∧ ∀ c ∈ y.L, c.length ≤ 255) :
    Calls Try.prog 16 #[ptrL b] w fun e w' => ∃ v, e = .returned (.agg #[.int .i64 y.ep, v]) ∧ OC w' w.heap.size v y.L ∧ Below w.heap.size w w' := by
  obtain ⟨ao, cap, mb, h1, h2, h3, h4, _⟩ := h.open
  obtain ⟨⟨c0, c1, c2, c3, c4, c5⟩, _⟩ := six_cells h1
  have hb := lt_of_block h1
  have HB := Lib.hid (below_new w (.cells #[.int .i64 0, .slice none 0 0] 24))
  have CC := Lib.hid (copyO_any y.ep ao cap y.L _ (h2.below HB.out) hl)
  clear h h1 h2 h3 hl c2 c3 c4 c5
  unfold ptrL
  go_enter Try.func16, Try.ntmps16
  go_wp2_with (go_at_call 32; refine CC.out.mono ?_; rintro e w1 ⟨v, rfl, hO, hb1⟩; obtain ⟨vo, vc, hv, _⟩ := hO.form; subst hv; have HO := Lib.hid hO; have HR := Lib.hid (below_heap hb1 (heap_alloc_new w (.cells #[.int .i64 0, .slice none 0 0] 24))); obtain ⟨t0, t1, g0, g1⟩ := two_cells HR.out; have HB1 := Lib.hid (HB.out.trans (hb1.mono HB.out.size)); have hsz : w.heap.size < w1.heap.size := lt_of_block HR.out; clear hO hb1)
  have hK := ((Kept.refl (fun k => w.heap.size + 1 ≤ k) w1).setCell (p := ⟨w.heap.size, 0, none⟩) (by simp) (.int .i64 y.ep)).setCell (p := ⟨w.heap.size, 1, none⟩) (by simp) (.slice vo y.L.length vc)
  exact proj_ret rfl (two_set1 (two_set0 HR.out (.int .i64 y.ep)) (.slice vo y.L.length vc)) rfl rfl ⟨_, rfl, (HO.out.keep hK (fun k h _ => by simpa using h)).lower (by simp), (HB1.out.setCell (by simp) _).setCell (by simp) _⟩
theorem lp_nil_now (w : World) : Calls Try.prog 16 #[.pointer none] w fun e w' => ∃ ep v, e = .returned (.agg #[.int .i64 ep, v]) ∧ OC w' w.heap.size v [] ∧ Below w.heap.size w w' := by
  have HR := heap_alloc_new w (.cells #[.int .i64 0, .slice none 0 0] 24)
  go_enter Try.func16, Try.ntmps16
  go_wp2_with fail
  exact proj_ret rfl (heap_alloc_new w (.cells #[.int .i64 0, .slice none 0 0] 24)) rfl rfl ⟨_, _, rfl, OC.nil _ _, below_new _ _⟩
theorem lp_nil_used (w : World) : Calls Try.prog 18 #[.pointer none] w fun e w' => ∃ v, e = .returned v ∧ OI w' w.heap.size v [] ∧ Below w.heap.size w w' := by
  go_enter Try.func18, Try.ntmps18
  go_wp2_with fail
  go_ret
  exact ⟨_, rfl, OI.nil _ _, Below.refl _ _⟩
/-- the answer with which a call says no -/
def refused : Value := .agg #[.int .i64 1, .int .i64 0, .string ⟨#[]⟩, .int .i64 0, .slice none 0 0, .int .i64 0, .int .i64 0, .int .i64 0]
theorem lp_nil_ask (w : World) (a : Ak) : Calls Try.prog 13 #[.pointer none, askV a] w fun e w' => e = .returned (ansV (anP 1 0 noL 0) none 0) ∧ Below w.heap.size w w' := by
  obtain ⟨k, un, ep, pg, sz, n, s, pe, L, ao, cap⟩ := a
  have HW := Lib.hid (two_blocks w #[.int .i64 k, .int .i64 un, .int .i64 ep, .int .i64 pg, .int .i64 sz, .int .i64 n, .string s, .int .i64 pe, .slice ao L.length cap] #[.int .i64 0, .int .i64 0, .string ⟨#[]⟩, .int .i64 0, .slice none 0 0, .int .i64 0, .int .i64 0, .int .i64 0] 38 41)
  have HB := Lib.hid (show Below w.heap.size w ((w.alloc (.cells #[.int .i64 k, .int .i64 un, .int .i64 ep, .int .i64 pg, .int .i64 sz, .int .i64 n, .string s, .int .i64 pe, .slice ao L.length cap] 38)).alloc (.cells #[.int .i64 0, .int .i64 0, .string ⟨#[]⟩, .int .i64 0, .slice none 0 0, .int .i64 0, .int .i64 0, .int .i64 0] 41)) from (below_new _ _).alloc (by simp) _)
  show Calls _ _ #[.pointer none, .agg #[.int .i64 k, .int .i64 un, .int .i64 ep, .int .i64 pg, .int .i64 sz, .int .i64 n, .string s, .int .i64 pe, .slice ao L.length cap]] w _
  go_enter Try.func13, Try.ntmps13
  go_wp2_with (go_at_call 27; refine (lcoded_any _ _).mono ?_; rintro e w2 ⟨rfl, hb2⟩; have HX := Lib.hid (below_heap hb2 HW.out.2); obtain ⟨⟨x0, x1, x2, x3, x4, x5, x6, x7⟩, f0, f1, f2, f3, f4, f5, f6, f7⟩ := eight_cells HX.out; have hx := lt_of_block HX.out; have HB2 := Lib.hid (HB.out.trans (hb2.mono HB.out.size)); clear hb2)
  exact ans_ret (x := anP 1 0 noL 0) (ao := none) (cap := 0) rfl (eight_set7 (eight_set6 (eight_set5 (eight_set4 (eight_set3 (eight_set2 (eight_set1 (eight_set0 HX.out _) _) _) _) _) _) _) _) rfl rfl ⟨rfl, ((((((((HB2.out.setCell (by simp) _).setCell (by simp) _).setCell (by simp) _).setCell (by simp) _).setCell (by simp) _).setCell (by simp) _).setCell (by simp) _).setCell (by simp) _)⟩
theorem three_cells_at {w : World} {b : Nat} {v0 v1 v2 : Value} {t : TypeId} (h : w.heap[b]? = some (.cells #[v0, v1, v2] t (0, 0))) : w.cell? ⟨b, 0, none⟩ = some v0 ∧ w.cell? ⟨b, 1, none⟩ = some v1 ∧ w.cell? ⟨b, 2, none⟩ = some v2 := ⟨cell_of h 0, cell_of h 1, cell_of h 2⟩
/-- what an answer's block is behind its eight stores -/
theorem eight_all {w : World} {b : Nat} {x0 x1 x2 x3 x4 x5 x6 x7 : Value} {t : TypeId} (h : w.heap[b]? = some (.cells #[x0, x1, x2, x3, x4, x5, x6, x7] t (0, 0))) (v0 v1 v2 v3 v4 v5 v6 v7 : Value) :
    ((((((((w.setCell ⟨b, 0, none⟩ v0).setCell ⟨b, 1, none⟩ v1).setCell ⟨b, 2, none⟩ v2).setCell ⟨b, 3, none⟩ v3).setCell ⟨b, 4, none⟩ v4).setCell ⟨b, 5, none⟩ v5).setCell ⟨b, 6, none⟩ v6).setCell ⟨b, 7, none⟩ v7).heap[b]? = some (.cells #[v0, v1, v2, v3, v4, v5, v6, v7] t (0, 0)) :=
  eight_set7 (eight_set6 (eight_set5 (eight_set4 (eight_set3 (eight_set2 (eight_set1 (eight_set0 h v0) v1) v2) v3) v4) v5) v6) v7
theorem eight_stay (W : World) (b : Nat) (v0 v1 v2 v3 v4 v5 v6 v7 : Value) : Kept (fun k => k ≠ b) W ((((((((W.setCell ⟨b, 0, none⟩ v0).setCell ⟨b, 1, none⟩ v1).setCell ⟨b, 2, none⟩ v2).setCell ⟨b, 3, none⟩ v3).setCell ⟨b, 4, none⟩ v4).setCell ⟨b, 5, none⟩ v5).setCell ⟨b, 6, none⟩ v6).setCell ⟨b, 7, none⟩ v7) :=
  ((((((((Kept.refl _ W).setCell (p := ⟨b, 0, none⟩) (fun h => h rfl) _).setCell (p := ⟨b, 1, none⟩) (fun h => h rfl) _).setCell (p := ⟨b, 2, none⟩) (fun h => h rfl) _).setCell (p := ⟨b, 3, none⟩) (fun h => h rfl) _).setCell (p := ⟨b, 4, none⟩) (fun h => h rfl) _).setCell (p := ⟨b, 5, none⟩) (fun h => h rfl) _).setCell (p := ⟨b, 6, none⟩) (fun h => h rfl) _).setCell (p := ⟨b, 7, none⟩) (fun h => h rfl) _
def zeroE : Array Value := #[.int .i64 0, .int .i64 0, .string ⟨#[]⟩, .int .i64 0, .slice none 0 0, .int .i64 0, .int .i64 0, .int .i64 0]
theorem lp_mark_no (b : Nat) (G : Nat → Prop) (w : World) (y : Ly) (h : LB b G w y) (p s n : Int) (hg : goodI p s n = false) :
    Calls Try.prog 30 #[ptrL b, .agg #[.int .i64 p, .int .i64 s, .int .i64 n]] w fun e w' => e = .returned (ansV (anP 1 0 noL 0) none 0) ∧ Leaves (LB b) G w w' y := by
  have HS := Lib.hid (boxv_start (lb_thing b) h 56 41 #[.int .i64 p, .int .i64 s, .int .i64 n] zeroE)
  unfold zeroE at HS
  have C1 := Lib.hid (fun w => lgood_any p s n w)
  rw [hg] at C1
  have hbw := h.small
  clear h hg
  unfold ptrL
  go_enter Try.func30, Try.ntmps30
  go_wp2_with (first
    | (go_at_call 40; refine (C1.out _).mono ?_; rintro e w1 ⟨rfl, hb1⟩; have HS1 := Lib.hid (HS.out.below (lb_thing b) hb1); clear hb1)
    | (go_at_call 27; refine (lcoded_any _ _).mono ?_; rintro e w2 ⟨rfl, hb2⟩; have HS2 := Lib.hid (HS1.out.below (lb_thing b) hb2); obtain ⟨⟨x0, x1, x2, x3, x4, x5, x6, x7⟩, f0, f1, f2, f3, f4, f5, f6, f7⟩ := eight_cells HS2.out.ans; obtain ⟨l1, l2⟩ := HS2.out.small; clear hb2))
  exact ans_ret (x := anP 1 0 noL 0) (ao := none) (cap := 0) rfl (eight_all HS2.out.ans _ _ _ _ _ _ _ _) rfl rfl ⟨rfl, HS2.out.fin (lb_thing b) (eight_stay _ _ _ _ _ _ _ _ _ _)⟩
theorem lp_mark_old (b : Nat) (G : Nat → Prop) (w : World) (y : Ly) (h : LB b G w y) (p s n : Int) (hg : goodI p s n = true) (hn : ¬ y.n < n) :
    Calls Try.prog 30 #[ptrL b, .agg #[.int .i64 p, .int .i64 s, .int .i64 n]] w fun e w' => e = .returned (ansV (anM y.n y.mark y.size) none 0) ∧ Leaves (LB b) G w w' y := by
  have HS := Lib.hid (boxv_start (lb_thing b) h 56 41 #[.int .i64 p, .int .i64 s, .int .i64 n] zeroE)
  unfold zeroE at HS
  have C1 := Lib.hid (fun w => lgood_any p s n w)
  rw [hg] at C1
  have C2 := Lib.hid (fun w => ltold_any y.mark y.size y.n w)
  have hbw := h.small
  have hd : decide (y.n < n) = false := decide_eq_false hn
  clear h hg hn
  unfold ptrL
  go_enter Try.func30, Try.ntmps30
  go_wp2_with (go_at_call 40; refine (C1.out _).mono ?_; rintro e w1 ⟨rfl, hb1⟩; have HS1 := Lib.hid (HS.out.below (lb_thing b) hb1); obtain ⟨H, hH, _⟩ := HS1.out.use; obtain ⟨ao, cap, mb, h1, _⟩ := hH.open; obtain ⟨⟨c0, c1, c2, c3, c4, c5⟩, _⟩ := six_cells h1; obtain ⟨i0, i1, i2⟩ := three_cells_at HS1.out.ask; have hb1' := lt_of_block h1; obtain ⟨l1, l2⟩ := HS1.out.small; clear hb1 hH h1)
  go_quiet (fail)
  go_wp2_with (go_at_call 28; refine (C2.out _).mono ?_; rintro e w2 ⟨rfl, hb2⟩; have HS2 := Lib.hid ((HS1.out.drewN (lb_thing b) _).below (lb_thing b) hb2); obtain ⟨⟨x0, x1, x2, x3, x4, x5, x6, x7⟩, f0, f1, f2, f3, f4, f5, f6, f7⟩ := eight_cells HS2.out.ans; obtain ⟨m1, m2⟩ := HS2.out.small; clear hb2)
  exact ans_ret (x := anM y.n y.mark y.size) (ao := none) (cap := 0) rfl (eight_all HS2.out.ans _ _ _ _ _ _ _ _) rfl rfl ⟨rfl, HS2.out.fin (lb_thing b) (eight_stay _ _ _ _ _ _ _ _ _ _)⟩
theorem lp_mark_new (b : Nat) (G : Nat → Prop) (w : World) (y : Ly) (h : LB b G w y) (p s n : Int) (hg : goodI p s n = true) (hn : y.n < n) :
    Calls Try.prog 30 #[ptrL b, .agg #[.int .i64 p, .int .i64 s, .int .i64 n]] w fun e w' => e = .returned (ansV (anM n p s) none 0) ∧ Leaves (LB b) G w w' ⟨y.ep, y.L, y.used, p, s, n⟩ := by
  have HS := Lib.hid (boxv_start (lb_thing b) h 56 41 #[.int .i64 p, .int .i64 s, .int .i64 n] zeroE)
  unfold zeroE at HS
  have C1 := Lib.hid (fun w => lgood_any p s n w)
  rw [hg] at C1
  have C2 := Lib.hid (fun w => ltold_any p s n w)
  have hbw := h.small
  have hd : decide (y.n < n) = true := decide_eq_true hn
  clear h hg hn
  unfold ptrL
  go_enter Try.func30, Try.ntmps30
  go_wp2_with (go_at_call 40; refine (C1.out _).mono ?_; rintro e w1 ⟨rfl, hb1⟩; have HS1 := Lib.hid (HS.out.below (lb_thing b) hb1); obtain ⟨H, hH, _⟩ := HS1.out.use; obtain ⟨ao, cap, mb, h1, _⟩ := hH.open; obtain ⟨⟨c0, c1, c2, c3, c4, c5⟩, g0, g1, g2, g3, g4, g5⟩ := six_cells h1; obtain ⟨i0, i1, i2⟩ := three_cells_at HS1.out.ask; have hb1' := lt_of_block h1; obtain ⟨l1, l2⟩ := HS1.out.small; clear hb1 hH h1)
  go_quiet (fail)
  go_wp2_with (go_at_call 28; refine (C2.out _).mono ?_; rintro e w2 ⟨rfl, hb2⟩; have HSQ := HS1.out.drewN (lb_thing b) nq; obtain ⟨H2, hH2, _, hU⟩ := HSQ.use2; have HS2 := Lib.hid ((hU (LB b) _ _ (hH2.mark p s n)).below (lb_thing b) hb2); obtain ⟨⟨x0, x1, x2, x3, x4, x5, x6, x7⟩, f0, f1, f2, f3, f4, f5, f6, f7⟩ := eight_cells HS2.out.ans; obtain ⟨m1, m2⟩ := HS2.out.small; clear hb2 hH2 hU HSQ)
  exact ans_ret (x := anM n p s) (ao := none) (cap := 0) rfl (eight_all HS2.out.ans _ _ _ _ _ _ _ _) rfl rfl ⟨rfl, HS2.out.fin (lb_thing b) (eight_stay _ _ _ _ _ _ _ _ _ _)⟩
end Go.Proofs.Ythfbefkddnbbcaa
