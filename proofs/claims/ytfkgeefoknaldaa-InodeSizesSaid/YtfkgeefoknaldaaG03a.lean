/- A slice that was handed over, whose elements are structs of two whole numbers and a text: what its cells hold. No conditions. Keys of maps that are structs of whole numbers: what they read as; that two of them are one just if their numbers are. Conditions: the numbers are of 64 bits. Things in memory, each of them in blocks of its own: two side by side; what a call of the one leaves of the other. Conditions: as each statement says. -/
import Derived.Test.YtfkgeefoknaldaaG02a
import Derived.Deep.Slices
import Derived.DeepKeys4
import Derived.Maps.Own
import Derived.Maps.OwnOps
import Derived.Maps.OwnSet
import Derived.Maps.Views
set_option linter.unusedVariables false
namespace Go.Proofs.Ytfkgeefoknaldaa
open Go.ChangeShapes Go.WideShapes Go.ChangeAt Go.RowKit

/-- an element: two numbers and a text -/
structure Fld where
  n : Int
  v : Int
  s : ByteArray
instance : Inhabited Fld := ⟨⟨0, 0, ⟨#[]⟩⟩⟩
theorem addr_plus (b o n : Nat) : (⟨b, o, none⟩ : Addr).add n = ⟨b, o + n, none⟩ := by
  unfold Addr.add
  split
  · next h => rw [h]; rfl
  · rfl
/-- element i of the row at ao in the world w -/
def fldAt (w : World) (ao : Option Addr) (i : Nat) (f : Fld) : Prop :=
  ∃ bk off, ao = some ⟨bk, off, none⟩ ∧ w.cell? ⟨bk, off + i * 3, none⟩ = some (.int .i64 f.n) ∧ w.cell? ⟨bk, off + i * 3 + 1, none⟩ = some (.int .i64 f.v) ∧ w.cell? ⟨bk, off + i * 3 + 2, none⟩ = some (.string f.s)
def fldOk (f : Fld) : Prop := (Lit.int .i64 f.n).wf = true ∧ (Lit.int .i64 f.v).wf = true ∧ f.s.size ≤ maxLen
/-- the row holds the list L -/
def FL (w : World) (ao : Option Addr) (L : List Fld) : Prop := ∀ i (h : i < L.length), fldAt w ao i L[i] ∧ fldOk L[i]
theorem FL.below {w w' : World} {ao : Option Addr} {L : List Fld} (h : FL w ao L) (hb : Below w.heap.size w w') : FL w' ao L := by
  intro i hi
  obtain ⟨⟨bk, off, h1, h2, h3, h4⟩, h5⟩ := h i hi
  exact ⟨⟨bk, off, h1, (hb.cell (p := ⟨bk, _, none⟩) (block_lt_of_cell h2)).trans h2, (hb.cell (p := ⟨bk, _, none⟩) (block_lt_of_cell h3)).trans h3, (hb.cell (p := ⟨bk, _, none⟩) (block_lt_of_cell h4)).trans h4⟩, h5⟩
theorem cell_spot {w : World} {a : Addr} {v : Value} (h : w.cell? a = some v) : a.spot = none := by
  unfold World.cell? at h
  split at h
  · split at h
    · cases h
    · next hs => simpa using hs
  · cases h
section
variable {H : Type} {enc : TypeId × Value → H} {P : Program} {w : World} {base : Nat} {spare : Nat → Bool} {held : Bool}
theorem open_flds {r : Reach} {b0 : Nat} {t e t0 t1 t2 : TypeId} {f0 f1 f2 : Field} {v : Value} {d : DataW H} {p : List MemPlace} (ht : P.underlying t = some (.slice e)) (he : P.underlying e = some (.struct #[f0, f1, f2])) (hc : P.cellsOf e = 3)
    (h0 : (f0.offset, f0.type) = (0, t0)) (h1 : (f1.offset, f1.type) = (1, t1)) (h2 : (f2.offset, f2.type) = (2, t2)) (c0 : P.cellsOf t0 = 1) (c1 : P.cellsOf t1 = 1) (c2 : P.cellsOf t2 = 1)
    (u0 : P.underlying t0 = some (.int .i64)) (u1 : P.underlying t1 = some (.int .i64)) (u2 : P.underlying t2 = some .string)
    (hv : Value.okWide P w r b0 t v) (h : DataW.Trod enc P w base spare held t v d p) :
    ∃ ao cap L, v = .slice ao L.length cap ∧ L.length ≤ maxLen ∧ FL w ao L := by
  obtain ⟨a0, n0, k0, rfl⟩ := okWide_slice ht hv
  obtain ⟨fuel, hf⟩ := h
  simp only [Value.cells] at hf
  rcases Deep.open_slice ht hf with ⟨h0, _⟩ | ⟨a, len, cap, m, n, D, Pl, hcs, _, hl, hm, hmm, _, hi⟩
  · simp at h0
    obtain ⟨rfl, rfl, rfl⟩ := h0
    exact ⟨none, 0, [], rfl, Nat.zero_le _, fun i hi => absurd hi (Nat.not_lt_zero i)⟩
  simp at hcs
  obtain ⟨rfl, rfl, rfl⟩ := hcs
  have hlm : n0 ≤ m := by rw [hmm]; split <;> omega
  rw [hc] at hi
  have each : ∀ i, i < n0 → ∃ f : Fld, (w.cell? (a.add (i * 3)) = some (.int .i64 f.n) ∧ w.cell? (a.add (i * 3 + 1)) = some (.int .i64 f.v) ∧ w.cell? (a.add (i * 3 + 2)) = some (.string f.s)) ∧ fldOk f := by
    intro i hin
    obtain ⟨cs, hcl, htr⟩ := hi i (by omega)
    obtain ⟨_, hlen, hat⟩ := World.cells?_some hcl
    obtain ⟨xs, n', _, _, _, hxl, hg⟩ := DataW.trod_struct he htr
    match cs, hlen with
    | [x0, x1, x2], _ =>
      match xs, hxl with
      | [y0, y1, y2], _ =>
        simp only [Prod.mk.injEq] at h0 h1 h2
        have g0 := hg 0 f0 rfl
        have g1 := hg 1 f1 rfl
        have g2 := hg 2 f2 rfl
        rw [h0.1, h0.2, c0] at g0
        rw [h1.1, h1.2, c1] at g1
        rw [h2.1, h2.2, c2] at g2
        obtain ⟨q0, e0, _, wf0⟩ := DataW.trod_int u0 g0
        obtain ⟨q1, e1, _, wf1⟩ := DataW.trod_int u1 g1
        obtain ⟨q2, e2, _, wf2⟩ := DataW.trod_string u2 g2
        simp at e0 e1 e2
        subst e0 e1 e2
        have a0 := hat 0 (by omega)
        have a1 := hat 1 (by omega)
        have a2 := hat 2 (by omega)
        rw [Deep.add_add] at a0 a1 a2
        exact ⟨⟨q0, q1, q2⟩, ⟨a0, a1, a2⟩, wf0, wf1, wf2⟩
  obtain ⟨F, hF⟩ := Deep.choose_lt each
  refine ⟨some a, k0, (List.range n0).map F, by simp, by simp; omega, fun i hi => ?_⟩
  have hin : i < n0 := by simpa using hi
  rw [List.getElem_map, List.getElem_range]
  obtain ⟨⟨b0, b1, b2⟩, ok⟩ := hF i hin
  obtain ⟨⟨z0, _, _⟩, _⟩ := hF 0 (by omega)
  have hs := cell_spot z0
  obtain ⟨bk, off, sp⟩ := a
  rw [show ((⟨bk, off, sp⟩ : Addr).add (0 * 3)) = ⟨bk, off, sp⟩ from rfl] at hs
  simp only at hs
  subst hs
  rw [addr_plus] at b0 b1 b2
  rw [← Nat.add_assoc] at b1 b2
  exact ⟨⟨bk, off, rfl, b0, b1, b2⟩, ok⟩
end
end Go.Proofs.Ytfkgeefoknaldaa
namespace Go.Proofs.Ytfkgeefoknaldaa
open Go.RowKit Go.Maps

section
variable {P : Program}
theorem lits_int {d : Nat} {t : TypeId} (ht : P.underlying t = some (.int .i64)) {u : Int} (hu : (Lit.int .i64 u).wf = true) : P.keyLits (d + 1) t [.int .i64 u] = some [.int .i64 u] := by
  simp [Program.keyLits, ht, hu]
/-- a struct of one number as a key -/
theorem key_one {k ti : TypeId} {f0 : Field} (hk : P.underlying k = some (.struct #[f0])) (hc : P.cellsOf k = 1) (hn : (f0.name != "_") = true) (h0 : (f0.offset, f0.type) = (0, ti)) (ci : P.cellsOf ti = 1) (ui : P.underlying ti = some (.int .i64))
    (hkt : P.keyType k = true) {n : Nat} (hs : P.types.size = n + 1) {u : Int} (hu : (Lit.int .i64 u).wf = true) : keyOf P k (.agg #[.int .i64 u]) = some (.string (keyBytes [.int .i64 u])) := by
  have e0 : f0.offset = 0 := congrArg Prod.fst h0
  have e1 : f0.type = ti := congrArg Prod.snd h0
  unfold keyOf
  rw [hk]
  simp only [hkt, Value.formed, hk, hc, Bool.true_and]
  rw [if_pos (by rfl), hs]
  have : P.keyLits (n + 1 + 1) k [.int .i64 u] = some [.int .i64 u] := by
    unfold Program.keyLits
    rw [hk]
    simp [hc, hn, e0, e1, ci, lits_int ui hu]
  simp only [Value.cells]
  rw [this]
  rfl
/-- a struct of two numbers as a key -/
theorem key_two {k ti : TypeId} {f0 f1 : Field} (hk : P.underlying k = some (.struct #[f0, f1])) (hc : P.cellsOf k = 2) (hn0 : (f0.name != "_") = true) (hn1 : (f1.name != "_") = true) (h0 : (f0.offset, f0.type) = (0, ti)) (h1 : (f1.offset, f1.type) = (1, ti)) (ci : P.cellsOf ti = 1) (ui : P.underlying ti = some (.int .i64))
    (hkt : P.keyType k = true) {n : Nat} (hs : P.types.size = n + 1) {u v : Int} (hu : (Lit.int .i64 u).wf = true) (hv : (Lit.int .i64 v).wf = true) : keyOf P k (.agg #[.int .i64 u, .int .i64 v]) = some (.string (keyBytes [.int .i64 u, .int .i64 v])) := by
  have e0 : f0.offset = 0 := congrArg Prod.fst h0
  have e1 : f0.type = ti := congrArg Prod.snd h0
  have e2 : f1.offset = 1 := congrArg Prod.fst h1
  have e3 : f1.type = ti := congrArg Prod.snd h1
  unfold keyOf
  rw [hk]
  simp only [hkt, Value.formed, hk, hc, Bool.true_and]
  rw [if_pos (by rfl), hs]
  have : P.keyLits (n + 1 + 1) k [.int .i64 u, .int .i64 v] = some [.int .i64 u, .int .i64 v] := by
    unfold Program.keyLits
    rw [hk]
    simp [hc, hn0, hn1, e0, e1, e2, e3, ci, lits_int ui hu, lits_int ui hv]
  simp only [Value.cells]
  rw [this]
  rfl
/-- two keys of one number that read alike are one -/
theorem key_inj {k : TypeId} (K : Keyed P k) {a b : Value} {l : Lit} (ha : keyOf P k a = some l) (hb : keyOf P k b = some l) : a = b := K.inj ha hb
/-- a set of numbers, each under the key that it reads as -/
def setD (kl : Int → Lit) (S : List Int) : DataW Unit := setOf (.agg []) (S.map kl)
theorem setD_snoc (kl : Int → Lit) (S : List Int) (u : Int) : setD kl (S ++ [u]) = (setD kl S).put (kl u) (.agg []) := by
  unfold setD
  rw [List.map_append]
  exact setOf_snoc _ _ _
theorem setD_has {k : TypeId} (K : Keyed P k) {val : Int → Value} {kl : Int → Lit} (hkey : ∀ u, (Lit.int .i64 u).wf = true → keyOf P k (val u) = some (kl u)) (hinj : ∀ u v, val u = val v → u = v)
    {S : List Int} (hS : ∀ u ∈ S, (Lit.int .i64 u).wf = true) {u : Int} (hu : (Lit.int .i64 u).wf = true) : Maps.has (setD kl S) (kl u) = decide (u ∈ S) := by
  unfold setD
  rw [has_setOf]
  · rw [Bool.eq_iff_iff, List.any_eq_true, decide_eq_true_eq]
    constructor
    · rintro ⟨l, hl, hs⟩
      obtain ⟨v, hv, rfl⟩ := List.mem_map.1 hl
      have hl2 : kl v = kl u := WideAt.sameKey_eq hs
      have := K.inj (hkey v (hS v hv)) (hl2 ▸ hkey u hu)
      rw [← hinj v u this]
      exact hv
    · intro h
      exact ⟨kl u, List.mem_map.2 ⟨u, h, rfl⟩, WideAt.sameKey_self (K.key (hkey u hu))⟩
  · intro x hx
    obtain ⟨v, hv, rfl⟩ := List.mem_map.1 hx
    exact K.key (hkey v (hS v hv))
end
end Go.Proofs.Ytfkgeefoknaldaa
namespace Go.Proofs.Ytfkgeefoknaldaa
set_option linter.unusedVariables false
open Go.RowKit
/-- T G w a: in world w a thing of the state a lies in the blocks of G -/
structure Thing {α : Type} (T : (Nat → Prop) → World → α → Prop) : Prop where
  lt : ∀ {G : Nat → Prop} {w : World} {a : α}, T G w a → ∀ k, G k → k < w.heap.size
  keep : ∀ {G S : Nat → Prop} {w w' : World} {a : α}, T G w a → Kept S w w' → (∀ k, G k → S k) → T G w' a
/-- what a call leaves of a thing whose blocks lie in G: it, in blocks of G or new ones; all else as it was -/
def Leaves {α : Type} (T : (Nat → Prop) → World → α → Prop) (G : Nat → Prop) (w w' : World) (a : α) : Prop := ∃ G' : Nat → Prop, T G' w' a ∧ Kept (fun k => ¬ G k) w w' ∧ ∀ k, G' k → G k ∨ w.heap.size ≤ k
section
variable {α β : Type} {T : (Nat → Prop) → World → α → Prop} {U : (Nat → Prop) → World → β → Prop} {X Y G : Nat → Prop} {w w' : World} {a a' : α} {b b' : β}
theorem Leaves.same (hT : Thing T) (h : T G w a) (hb : Below w.heap.size w w') : Leaves T G w w' a :=
  ⟨G, hT.keep h (Kept.ofBelow hb (fun _ => True)) (fun _ _ => trivial), Kept.ofBelow hb _, fun _ hk => .inl hk⟩
theorem Leaves.below (hT : Thing T) {w2 : World} (h : Leaves T G w w' a) (hb : Below w'.heap.size w' w2) : Leaves T G w w2 a := by
  obtain ⟨G', h1, h2, h3⟩ := h
  exact ⟨G', hT.keep h1 (Kept.ofBelow hb (fun _ => True)) (fun _ _ => trivial), h2.below hb, h3⟩
/-- the call made memory ahead of it -/
theorem Leaves.ahead {w0 : World} (hG : ∀ k, G k → k < w0.heap.size) (hb : Below w0.heap.size w0 w) (h : Leaves T G w w' a) : Leaves T G w0 w' a := by
  obtain ⟨G', h1, h2, h3⟩ := h
  exact ⟨G', h1, (Kept.ofBelow hb _).trans h2, fun k hk => (h3 k hk).imp id (fun h => Nat.le_trans hb.size h)⟩
/-- a thing in no block of X -/
def Solo (T : (Nat → Prop) → World → α → Prop) (X : Nat → Prop) (w : World) (a : α) : Prop := (∀ k, X k → k < w.heap.size) ∧ ∃ F : Nat → Prop, T F w a ∧ ∀ k, X k → ¬ F k
/-- two things in no block of X, and in none of each other's -/
def Side (T : (Nat → Prop) → World → α → Prop) (U : (Nat → Prop) → World → β → Prop) (X : Nat → Prop) (w : World) (a : α) (b : β) : Prop :=
  (∀ k, X k → k < w.heap.size) ∧ ∃ F G : Nat → Prop, T F w a ∧ U G w b ∧ (∀ k, X k → ¬ F k ∧ ¬ G k) ∧ ∀ k, F k → ¬ G k
theorem Solo.below (hT : Thing T) (h : Solo T X w a) (hb : Below w.heap.size w w') : Solo T X w' a := by
  obtain ⟨h1, F, h2, h3⟩ := h
  exact ⟨fun k hk => Nat.lt_of_lt_of_le (h1 k hk) hb.size, F, hT.keep h2 (Kept.ofBelow hb (fun _ => True)) (fun _ _ => trivial), h3⟩
theorem Solo.beside (hT : Thing T) (h : Solo T X w a) (x : Obj) : Solo T (fun k => X k ∨ k = w.heap.size) (w.alloc x) a := by
  have hb : Below w.heap.size w (w.alloc x) := (Below.refl _ _).alloc (Nat.le_refl _) x
  obtain ⟨h1, F, h2, h3⟩ := h
  refine ⟨fun k hk => ?_, F, hT.keep h2 (Kept.ofBelow hb (fun _ => True)) (fun _ _ => trivial), fun k hk hf => ?_⟩
  · rcases hk with hk | hk
    · exact Nat.lt_of_lt_of_le (h1 k hk) hb.size
    · rw [hk]; simp
  · rcases hk with hk | hk
    · exact h3 k hk hf
    · rw [hk] at hf; exact Nat.lt_irrefl _ (hT.lt h2 _ hf)
theorem Solo.less (h : Solo T X w a) (hy : ∀ k, Y k → X k) : Solo T Y w a := by
  obtain ⟨h1, F, h2, h3⟩ := h
  exact ⟨fun k hk => h1 k (hy k hk), F, h2, fun k hk => h3 k (hy k hk)⟩
theorem Solo.of (h : T G w a) (hG : ∀ k, X k → ¬ G k) (hX : ∀ k, X k → k < w.heap.size) : Solo T X w a := ⟨hX, G, h, hG⟩
theorem Side.below (hT : Thing T) (hU : Thing U) (h : Side T U X w a b) (hb : Below w.heap.size w w') : Side T U X w' a b := by
  obtain ⟨h1, F, G, h2, h3, h4, h5⟩ := h
  exact ⟨fun k hk => Nat.lt_of_lt_of_le (h1 k hk) hb.size, F, G, hT.keep h2 (Kept.ofBelow hb (fun _ => True)) (fun _ _ => trivial), hU.keep h3 (Kept.ofBelow hb (fun _ => True)) (fun _ _ => trivial), h4, h5⟩
theorem Side.less (h : Side T U X w a b) (hy : ∀ k, Y k → X k) : Side T U Y w a b := by
  obtain ⟨h1, F, G, h2, h3, h4, h5⟩ := h
  exact ⟨fun k hk => h1 k (hy k hk), F, G, h2, h3, fun k hk => h4 k (hy k hk), h5⟩
theorem Side.beside (hT : Thing T) (hU : Thing U) (h : Side T U X w a b) (x : Obj) : Side T U (fun k => X k ∨ k = w.heap.size) (w.alloc x) a b := by
  have hb : Below w.heap.size w (w.alloc x) := (Below.refl _ _).alloc (Nat.le_refl _) x
  obtain ⟨h1, F, G, h2, h3, h4, h5⟩ := h
  refine ⟨fun k hk => ?_, F, G, hT.keep h2 (Kept.ofBelow hb (fun _ => True)) (fun _ _ => trivial), hU.keep h3 (Kept.ofBelow hb (fun _ => True)) (fun _ _ => trivial), fun k hk => ?_, h5⟩
  · rcases hk with hk | hk
    · exact Nat.lt_of_lt_of_le (h1 k hk) hb.size
    · rw [hk]; simp
  · rcases hk with hk | hk
    · exact h4 k hk
    · rw [hk]
      exact ⟨fun hf => Nat.lt_irrefl _ (hT.lt h2 _ hf), fun hg => Nat.lt_irrefl _ (hU.lt h3 _ hg)⟩
/-- a second thing beside one: the call that made it left the first -/
theorem Side.made (hT : Thing T) (h : Solo T X w a) (hb : Below w.heap.size w w') (hu : U G w' b) (hG : ∀ k, G k → w.heap.size ≤ k) : Side T U X w' a b := by
  obtain ⟨h1, F, h2, h3⟩ := h
  refine ⟨fun k hk => Nat.lt_of_lt_of_le (h1 k hk) hb.size, F, G, hT.keep h2 (Kept.ofBelow hb (fun _ => True)) (fun _ _ => trivial), hu, fun k hk => ⟨h3 k hk, fun hg => ?_⟩, fun k hf hg => ?_⟩
  · have := h1 k hk; have := hG k hg; omega
  · have := hT.lt h2 k hf; have := hG k hg; omega
section
variable {P : Program} {fn : FuncId} {args : Array Value} {R : Ending → Prop}
theorem solo_call (hT : Thing T) (h : Solo T X w a) (hc : ∀ F : Nat → Prop, T F w a → Calls P fn args w fun e w' => R e ∧ Leaves T F w w' a') : Calls P fn args w fun e w' => R e ∧ Solo T X w' a' ∧ Kept X w w' := by
  obtain ⟨h1, F, h2, h3⟩ := h
  refine (hc F h2).mono ?_
  rintro e w' ⟨he, F', r1, r2, r3⟩
  refine ⟨he, ⟨fun k hk => Nat.lt_of_lt_of_le (h1 k hk) r2.size, F', r1, fun k hk hf => ?_⟩, r2.mono h3⟩
  rcases r3 k hf with h | h
  · exact h3 k hk h
  · have := h1 k hk; omega
theorem side_left (hT : Thing T) (hU : Thing U) (h : Side T U X w a b) (hc : ∀ F : Nat → Prop, T F w a → Calls P fn args w fun e w' => R e ∧ Leaves T F w w' a') : Calls P fn args w fun e w' => R e ∧ Side T U X w' a' b ∧ Kept X w w' := by
  obtain ⟨h1, F, G, h2, h3, h4, h5⟩ := h
  refine (hc F h2).mono ?_
  rintro e w' ⟨he, F', r1, r2, r3⟩
  refine ⟨he, ⟨fun k hk => Nat.lt_of_lt_of_le (h1 k hk) r2.size, F', G, r1, hU.keep h3 r2 (fun k hg hf => h5 k hf hg), fun k hk => ⟨fun hf => ?_, (h4 k hk).2⟩, fun k hk hg => ?_⟩, r2.mono (fun k hk => (h4 k hk).1)⟩
  · rcases r3 k hf with h | h
    · exact (h4 k hk).1 h
    · have := h1 k hk; omega
  · rcases r3 k hk with h | h
    · exact h5 k h hg
    · have := hU.lt h3 k hg; omega
theorem Side.swap (h : Side T U X w a b) : Side U T X w b a := by
  obtain ⟨h1, F, G, h2, h3, h4, h5⟩ := h
  exact ⟨h1, G, F, h3, h2, fun k hk => ⟨(h4 k hk).2, (h4 k hk).1⟩, fun k hg hf => h5 k hf hg⟩
theorem side_right (hT : Thing T) (hU : Thing U) (h : Side T U X w a b) (hc : ∀ G : Nat → Prop, U G w b → Calls P fn args w fun e w' => R e ∧ Leaves U G w w' b') : Calls P fn args w fun e w' => R e ∧ Side T U X w' a b' ∧ Kept X w w' :=
  (side_left hU hT h.swap hc).mono fun e w' ⟨he, h1, h2⟩ => ⟨he, h1.swap, h2⟩
end
/-- the law itself stores into the second thing -/
theorem Side.right_step (hT : Thing T) (hU : Thing U) (h : Side T U X w a b) (hc : ∀ G : Nat → Prop, U G w b → Leaves U G w w' b') : Side T U X w' a b' ∧ Kept X w w' := by
  obtain ⟨h1, F, G, h2, h3, h4, h5⟩ := h
  obtain ⟨G', r1, r2, r3⟩ := hc G h3
  refine ⟨⟨fun k hk => Nat.lt_of_lt_of_le (h1 k hk) r2.size, F, G', hT.keep h2 r2 (fun k hf hg => h5 k hf hg), r1, fun k hk => ⟨(h4 k hk).1, fun hg => ?_⟩, fun k hf hg => ?_⟩, r2.mono (fun k hk => (h4 k hk).2)⟩
  · rcases r3 k hg with h | h
    · exact (h4 k hk).2 h
    · have := h1 k hk; omega
  · rcases r3 k hg with h | h
    · exact h5 k hf h
    · have := hT.lt h2 k hf; omega
end
end Go.Proofs.Ytfkgeefoknaldaa
