/- What the program's layout tells of the units that were used, and what its New makes. Conditions: it and the projection lie where the call was told. The program's nodes in memory: the layout, the sequencer, the block of pointers, the units, each in blocks of its own. Conditions: units, sequencer and layout are as the statements of their own stages say. -/
import Derived.Test.YtphigibhgldnpaaG22a
import Derived.Test.YtphigibhgldnpaaG15b
set_option linter.unusedVariables false
namespace Go.Proofs.Ytphigibhgldnpaa
set_option linter.unusedVariables false
open Go.RowKit Go.Maps
set_option maxRecDepth 20000
theorem ownsMap_size {w : World} {b n : Nat} {D : DataW Unit} {k : TypeId} {R : Value → Option (DataW Unit × List MemPlace)} (h : w.ownsMap Try.prog k R b n D) : Maps.size D ≤ n := by
  obtain ⟨es, clock, h1, h2, h3, rfl⟩ := h
  rw [size_eq, length_sorted]
  simpa using h3
theorem coll_start {D : DataW Unit} {S : List Int} (hs : ∀ u, (Lit.int .i64 u).wf = true → Maps.has D (klU u) = decide (u ∈ S)) : Coll S (Maps.has D) [] := by
  refine ⟨List.Pairwise.nil, fun u hu => ?_⟩
  rw [hs u hu]
  simp
theorem coll_step {D : DataW Unit} {S l : List Int} {left : Lit → Bool} (hs : ∀ u, (Lit.int .i64 u).wf = true → Maps.has D (klU u) = decide (u ∈ S)) (h : Coll S left l) {u : Int} {y : DataW Unit} (hu : (Lit.int .i64 u).wf = true) (hl : left (klU u) = true) (hat : ∀ z, D.atKey (klU u) z = y) :
    Coll S (fun z => left z && !z.sameKey (klU u)) (l ++ [u]) := by
  have hS : u ∈ S := by
    have h1 := has_true_of_atKey hat
    rw [hs u hu] at h1
    exact of_decide_eq_true h1
  have hn : u ∉ l := by
    intro hm
    have := ((h.2 u hu).1 hm).2
    rw [hl] at this
    cases this
  refine ⟨nodup_snoc h.1 hn, fun v hv => ?_⟩
  rw [List.mem_append, List.mem_singleton]
  by_cases e : v = u
  · subst e
    simp [hS, WideAt.sameKey_self (klU_key hu)]
  · show v ∈ l ∨ v = u ↔ v ∈ S ∧ (left (klU v) && !(klU v).sameKey (klU u)) = false
    rw [h.2 v hv, sameKey_ne (fun e2 => e (klU_inj hv hu e2))]
    simp [e]
end Go.Proofs.Ytphigibhgldnpaa
namespace Go.Proofs.Ytphigibhgldnpaa
set_option linter.unusedVariables false
open Go.RowKit
set_option maxRecDepth 20000
/-- what units, sequencer and layout are -/
structure Three (UG : Nat → Nat → (Nat → Prop) → World → Us → Prop) (OG : Nat → (Nat → Prop) → World → Od → Prop) (LG : Nat → (Nat → Prop) → World → Ly → Prop) : Prop where
  u : UnitSays UG
  o : OrderSays OG
  l : LaySays LG
/-- the block of 18 pointers, of which the first m units' are there -/
structure TabP (A : Array Value) (m : Nat) (B : Nat → Nat × Nat) (ro rl : Nat) : Prop where
  size : A.size = 18
  at_ : ∀ i, i < m → A[i]? = some (ptrV (B i).1)
  o : A[16]? = some (ptrO ro)
  l : A[17]? = some (ptrL rl)
theorem TabP.put {A : Array Value} {m : Nat} {B : Nat → Nat × Nat} {ro rl : Nat} (h : TabP A m B ro rl) (hm : m < 16) (x : Nat × Nat) : TabP (A.setIfInBounds m (ptrV x.1)) (m + 1) (fun j => if j = m then x else B j) ro rl := by
  have hs := h.size
  refine ⟨by simp [hs], fun i hi => ?_, ?_, ?_⟩
  · by_cases e : i = m
    · subst e
      simp [hs, show i < 18 by omega]
    · rw [Array.getElem?_setIfInBounds_ne (fun h => e h.symm), if_neg e]
      exact h.at_ i (by omega)
  · rw [Array.getElem?_setIfInBounds_ne (by omega)]
    exact h.o
  · rw [Array.getElem?_setIfInBounds_ne (by omega)]
    exact h.l
/-- its parts, one after another -/
def nodeP (UG : Nat → Nat → (Nat → Prop) → World → Us → Prop) (OG : Nat → (Nat → Prop) → World → Od → Prop) (LG : Nat → (Nat → Prop) → World → Ly → Prop) (r : Nat) (A : Array Value) (ro rl : Nat) (B : Nat → Nat × Nat) (n : Nd) : Nat → (Nat → Prop) → World → Prop
  | 0 => fun F w => LG rl F w n.l
  | 1 => fun F w => OG ro F w n.o
  | 2 => fun F w => w.heap[r]? = some (.cells A 55 (0, 0)) ∧ ∀ k, F k ↔ k = r
  | i + 3 => fun F w => UG (B i).1 (B i).2 F w (n.u i)
theorem nodeP_part {UG : Nat → Nat → (Nat → Prop) → World → Us → Prop} {OG : Nat → (Nat → Prop) → World → Od → Prop} {LG : Nat → (Nat → Prop) → World → Ly → Prop} (HT : Three UG OG LG) (r : Nat) (A : Array Value) (ro rl : Nat) (B : Nat → Nat × Nat) (n : Nd) : ∀ i, Part (nodeP UG OG LG r A ro rl B n i)
  | 0 => (HT.l.thing rl).part n.l
  | 1 => (HT.o.thing ro).part n.o
  | 2 => ⟨fun h k hk => by rw [(h.2 k).1 hk]; exact lt_of_block h.1, fun h hk hS => ⟨hk.heap (hS r ((h.2 r).2 rfl)) h.1, h.2⟩⟩
  | i + 3 => (HT.u.thing (B i).1 (B i).2).part (n.u i)
/-- block r is the document's nodes -/
def RM (UG : Nat → Nat → (Nat → Prop) → World → Us → Prop) (OG : Nat → (Nat → Prop) → World → Od → Prop) (LG : Nat → (Nat → Prop) → World → Ly → Prop) (r : Nat) (G : Nat → Prop) (w : World) (n : Nd) : Prop := ∃ (A : Array Value) (ro rl : Nat) (B : Nat → Nat × Nat), TabP A 16 B ro rl ∧ BundG 19 (nodeP UG OG LG r A ro rl B n) G w
theorem rm_thing {UG : Nat → Nat → (Nat → Prop) → World → Us → Prop} {OG : Nat → (Nat → Prop) → World → Od → Prop} {LG : Nat → (Nat → Prop) → World → Ly → Prop} (HT : Three UG OG LG) (r : Nat) : Thing (RM UG OG LG r) where
  lt := by
    rintro G w n ⟨A, ro, rl, B, h1, h2⟩
    exact h2.lt (fun i _ => nodeP_part HT r A ro rl B n i)
  keep := by
    rintro G S w w' n ⟨A, ro, rl, B, h1, h2⟩ hk hS
    exact ⟨A, ro, rl, B, h1, h2.keep (fun i _ => nodeP_part HT r A ro rl B n i) hk hS⟩
section
variable {UG : Nat → Nat → (Nat → Prop) → World → Us → Prop} {OG : Nat → (Nat → Prop) → World → Od → Prop} {LG : Nat → (Nat → Prop) → World → Ly → Prop} {r : Nat} {A : Array Value} {ro rl : Nat} {B : Nat → Nat × Nat} {n : Nd} {G : Nat → Prop} {w : World}
theorem rm_putL (h1 : TabP A 16 B ro rl) {y : Ly} {G' : Nat → Prop} {W : World} (h : BundG 19 (swapP (nodeP UG OG LG r A ro rl B n) 0 (fun F W => LG rl F W y)) G' W) : RM UG OG LG r G' W (n.putL y) :=
  ⟨A, ro, rl, B, h1, h.same (fun i _ F W hF => by match i, hF with | 0, hF => exact hF | 1, hF => exact hF | 2, hF => exact hF | j + 3, hF => exact hF)⟩
theorem rm_putO (h1 : TabP A 16 B ro rl) {o : Od} {G' : Nat → Prop} {W : World} (h : BundG 19 (swapP (nodeP UG OG LG r A ro rl B n) 1 (fun F W => OG ro F W o)) G' W) : RM UG OG LG r G' W (n.putO o) :=
  ⟨A, ro, rl, B, h1, h.same (fun i _ F W hF => by match i, hF with | 0, hF => exact hF | 1, hF => exact hF | 2, hF => exact hF | j + 3, hF => exact hF)⟩
theorem rm_putU (h1 : TabP A 16 B ro rl) {k : Nat} {u : Us} {G' : Nat → Prop} {W : World} (h : BundG 19 (swapP (nodeP UG OG LG r A ro rl B n) (k + 3) (fun F W => UG (B k).1 (B k).2 F W u)) G' W) : RM UG OG LG r G' W (n.putU k u) := by
  refine ⟨A, ro, rl, B, h1, h.same (fun i _ F W hF => ?_)⟩
  match i, hF with
  | 0, hF => exact hF
  | 1, hF => exact hF
  | 2, hF => exact hF
  | j + 3, hF =>
    unfold swapP at hF
    by_cases e : j = k
    · subst e
      rw [if_pos rfl] at hF
      show UG _ _ F W ((n.putU j u).u j)
      rw [putU_at]
      exact hF
    · rw [if_neg (by omega)] at hF
      show UG _ _ F W ((n.putU k u).u j)
      rw [putU_off n u e]
      exact hF
/-- the block of pointers -/
theorem RM.tab (h : RM UG OG LG r G w n) : ∃ (A : Array Value) (ro rl : Nat) (B : Nat → Nat × Nat), TabP A 16 B ro rl ∧ w.heap[r]? = some (.cells A 55 (0, 0)) ∧ G r ∧ BundG 19 (nodeP UG OG LG r A ro rl B n) G w := by
  obtain ⟨A, ro, rl, B, h1, h2⟩ := h
  obtain ⟨F, h3, h4⟩ := h2.look (i := 2) (by omega)
  exact ⟨A, ro, rl, B, h1, h3.1, h4 r ((h3.2 r).2 rfl), h2⟩
end
end Go.Proofs.Ytphigibhgldnpaa
