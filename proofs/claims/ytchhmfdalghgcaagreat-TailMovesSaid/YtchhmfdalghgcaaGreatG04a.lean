/- Pages of the document's own in memory: a row of what is not empty, behind an object. Conditions: as each statement says. A struct that was handed over by value: a field that is a number, a field that is a text. No conditions. A slice of whole numbers that was handed over: what its cells hold. No conditions. A slice that was handed over, of elements of any make: what its cells hold. No conditions. What reads as a key that is a struct of one whole number is one. Conditions: as each statement says. Steps of a walk that append and fetch have in common: one jump, two jumps to a label; what was laid in new memory; worlds one behind the other. Conditions: as each statement says. -/
import Derived.Test.YtchhmfdalghgcaaGreatG02b
import Derived.Test.YtchhmfdalghgcaaGreatG03a
import Derived.Test.YtchhmfdalghgcaaGreatG02a
import Derived.Maps.AppendAt
import Derived.Laws.OwnMore
import Derived.OwnWalk
import Derived.Laws.ResultCell
import Derived.WalkMore
import Derived.ScopeJumps
set_option linter.unusedVariables false
namespace Go.Proofs.YtchhmfdalghgcaaGreat
open Go.RowKit
set_option maxRecDepth 20000
/-- the row at ao holds the pages l, three cells each -/
def PgL (w : World) (ao : Option Addr) (l : List Pg) : Prop :=
  ∀ i (h : i < l.length), ∃ bk off, ao = some ⟨bk, off, none⟩ ∧ w.cell? ⟨bk, off + i * 3, none⟩ = some (.int .i64 l[i].at_) ∧ w.cell? ⟨bk, off + i * 3 + 1, none⟩ = some (.int .i64 l[i].kind) ∧ w.cell? ⟨bk, off + i * 3 + 2, none⟩ = some (.string l[i].s)
theorem PgL.nil (w : World) (ao : Option Addr) : PgL w ao [] := fun i h => absurd h (Nat.not_lt_zero i)
theorem PgL.below {w w' : World} {ao : Option Addr} {l : List Pg} (h : PgL w ao l) (hb : Below w.heap.size w w') : PgL w' ao l := by
  intro i hi
  obtain ⟨bk, off, h1, h2, h3, h4⟩ := h i hi
  exact ⟨bk, off, h1, cellB hb (block_lt_of_cell h2) h2, cellB hb (block_lt_of_cell h3) h3, cellB hb (block_lt_of_cell h4) h4⟩
def pgCells (l : List Pg) : List Value := l.flatMap (fun x => [.int .i64 x.at_, .int .i64 x.kind, .string x.s])
theorem pgCells_length (l : List Pg) : (pgCells l).length = l.length * 3 := by
  induction l with
  | nil => rfl
  | cons e l ih =>
    show (_ :: _ :: _ :: pgCells l).length = _
    simp [ih]
    omega
theorem pgCells_at (l : List Pg) (i : Nat) (h : i < l.length) : (pgCells l)[i * 3]? = some (.int .i64 l[i].at_) ∧ (pgCells l)[i * 3 + 1]? = some (.int .i64 l[i].kind) ∧ (pgCells l)[i * 3 + 2]? = some (.string l[i].s) := by
  induction l generalizing i with
  | nil => cases h
  | cons e l ih =>
    have hc : pgCells (e :: l) = .int .i64 e.at_ :: .int .i64 e.kind :: .string e.s :: pgCells l := rfl
    rw [hc]
    cases i with
    | zero => exact ⟨rfl, rfl, rfl⟩
    | succ i =>
      have := ih i (by simpa using h)
      rw [show (i + 1) * 3 = i * 3 + 1 + 1 + 1 by omega]
      simpa using this
/-- v is a row of the call's own that holds the pages l -/
def OG (w : World) (B : Nat) (v : Value) (l : List Pg) : Prop := w.ownsRow B 199 3 v l.length (pgCells l)
theorem OG.nil (w : World) (B : Nat) : OG w B (.slice none 0 0) [] := World.ownsRow_nil _ _ _ _
theorem OG.keep {S : Nat → Prop} {w w' : World} {B : Nat} {v : Value} {l : List Pg} (h : OG w B v l) (hk : Kept S w w') (hS : ∀ k, v.ownBlock = some k → S k) : OG w' B v l := hk.owns h hS
theorem OG.below {w w' : World} {B : Nat} {v : Value} {l : List Pg} (h : OG w B v l) (hb : Below w.heap.size w w') : OG w' B v l := (Kept.ofBelow hb (fun _ => True)).owns h (fun _ _ => trivial)
theorem OG.lower {w : World} {B B' : Nat} {v : Value} {l : List Pg} (h : OG w B v l) (hb : B' ≤ B) : OG w B' v l := by
  refine ⟨h.1, ?_⟩
  rcases h.2 with h2 | ⟨g, cap, cur, h3, h4, r⟩
  · exact .inl h2
  · exact .inr ⟨g, cap, cur, h3, Nat.le_trans hb h4, r⟩
theorem OG.form {w : World} {B : Nat} {v : Value} {l : List Pg} (h : OG w B v l) : ∃ ao cap, v = .slice ao l.length cap ∧ PgL w ao l ∧ l.length ≤ cap ∧ (ao = none → cap = 0) := by
  rcases h.2 with ⟨rfl, h0⟩ | ⟨g, cap, cur, rfl, hbg, hh, hnc, _, hcs, ht⟩
  · have : l = [] := List.eq_nil_of_length_eq_zero h0
    subst this
    exact ⟨none, 0, rfl, PgL.nil w none, Nat.le_refl _, fun _ => rfl⟩
  · refine ⟨some ⟨g, 0, none⟩, cap, rfl, fun i hi => ?_, hnc, (fun e => by cases e)⟩
    obtain ⟨h1, h2, h3⟩ := pgCells_at l i hi
    rw [← ht, List.getElem?_take, if_pos (by omega)] at h1 h2 h3
    have h1' : cur[i * 3]? = some (.int .i64 l[i].at_) := by simpa using h1
    have h2' : cur[i * 3 + 1]? = some (.int .i64 l[i].kind) := by simpa using h2
    have h3' : cur[i * 3 + 2]? = some (.string l[i].s) := by simpa using h3
    refine ⟨g, 0, rfl, ?_, ?_, ?_⟩
    · rw [Nat.zero_add, ← h1']
      simp [World.cell?, hh]
    · rw [Nat.zero_add, ← h2']
      simp [World.cell?, hh]
    · rw [Nat.zero_add, ← h3']
      simp [World.cell?, hh]
theorem PgL.news {w : World} {bk off : Nat} {l : List Pg} (h : PgL w (some ⟨bk, off, none⟩) l) : ∀ (j : Nat) (u : Value), (pgCells l)[j]? = some u → w.cell? ((⟨bk, off, none⟩ : Addr).add j) = some u := by
  intro j u hj
  have hlen := pgCells_length l
  have hjl : j < l.length * 3 := by
    obtain ⟨h1, _⟩ := List.getElem?_eq_some_iff.1 hj
    omega
  have hi : j / 3 < l.length := by omega
  obtain ⟨b2, o2, e, h1, h2, h3⟩ := h (j / 3) hi
  cases e
  obtain ⟨p1, p2, p3⟩ := pgCells_at l (j / 3) hi
  rw [addr_plus]
  have hm : j % 3 = 0 ∨ j % 3 = 1 ∨ j % 3 = 2 := by omega
  rcases hm with hm | hm | hm
  · have ej : j = j / 3 * 3 := by omega
    rw [ej] at hj ⊢
    rw [p1] at hj
    cases hj
    exact h1
  · have ej : j = j / 3 * 3 + 1 := by omega
    rw [ej] at hj ⊢
    rw [p2] at hj
    cases hj
    exact h2
  · have ej : j = j / 3 * 3 + 2 := by omega
    rw [ej] at hj ⊢
    rw [p3] at hj
    cases hj
    exact h3
theorem OG.made (w : World) {B n : Nat} (hn : w.heap.size = n) (hB : B ≤ n) : OG (w.alloc (.cells #[] 199)) B (.slice (some ⟨n, 0, none⟩) 0 0) [] := by
  subst hn
  exact World.ownsRow_made w #[] 0 hB (Nat.zero_le _) rfl
/-- a block of one page, as a slice -/
theorem PgL.made (w : World) {n : Nat} (hn : w.heap.size = n) (x : Pg) : PgL (w.alloc (.cells #[.int .i64 x.at_, .int .i64 x.kind, .string x.s] 199)) (some ⟨n, 0, none⟩) [x] := by
  subst hn
  intro i hi
  obtain rfl : i = 0 := by simpa using hi
  have h := heap_alloc_new w (.cells #[.int .i64 x.at_, .int .i64 x.kind, .string x.s] 199)
  exact ⟨w.heap.size, 0, rfl, cell_of h 0, cell_of h 1, cell_of h 2⟩
/-- block b is the document's object of the pages p; it and its row lie in G -/
def RG (G : Nat → Prop) (w : World) (b : Nat) (p : Ps) : Prop :=
  ∃ v, w.heap[b]? = some (.cells #[v, .int .i64 p.room, .int .i64 p.edge] 152 (0, 0)) ∧ OG w 0 v p.l ∧ (∀ k, v.ownBlock = some k → G k ∧ k ≠ b) ∧ G b ∧ ∀ k, G k → k < w.heap.size
theorem RG.keep {G T : Nat → Prop} {w w' : World} {b : Nat} {p : Ps} (h : RG G w b p) (hk : Kept T w w') (hT : ∀ k, G k → T k) : RG G w' b p := by
  obtain ⟨v, h1, h2, h3, h4, h5⟩ := h
  exact ⟨v, hk.heap (hT b h4) h1, h2.keep hk (fun k e => hT k (h3 k e).1), h3, h4, fun k hg => Nat.lt_of_lt_of_le (h5 k hg) hk.size⟩
theorem RG.below {G : Nat → Prop} {w w' : World} {b : Nat} {p : Ps} (h : RG G w b p) (hb : Below w.heap.size w w') : RG G w' b p := h.keep (T := fun _ => True) (Kept.ofBelow hb _) (fun _ _ => trivial)
end Go.Proofs.YtchhmfdalghgcaaGreat
namespace Go.Proofs.YtchhmfdalghgcaaGreat
set_option linter.unusedVariables false
open Go.ChangeShapes Go.WideShapes Go.ChangeAt Go.RowKit
set_option maxRecDepth 20000
def i64w (x : Int) : Prop := (Lit.int .i64 x).wf = true
theorem i64w.of {x : Int} (h : i64w x) : -9223372036854775808 ≤ x ∧ x ≤ 9223372036854775807 := i64_of_wf h
section
variable {H : Type} {enc : TypeId × Value → H} {P : Program} {w : World} {base : Nat} {spare : Nat → Bool} {held : Bool}
theorem okWide_rec {r : Reach} {b0 : Nat} {t : TypeId} {fs : Array Field} {v : Value} (ht : P.underlying t = some (.struct fs)) (h : Value.okWide P w r b0 t v) : ∃ cs, v = .agg cs ∧ cs.size = P.cellsOf t := by
  simp only [Value.okWide, ht] at h
  obtain ⟨cs, h1, h2, _⟩ := h
  exact ⟨cs, h1, h2⟩
theorem one_at {cs : List Value} {i : Nat} {x : Value} (e : (cs.drop i).take 1 = [x]) : cs[i]? = some x := by
  have h2 : ((cs.drop i).take 1)[0]? = some x := by rw [e]; rfl
  simpa [List.getElem?_take, List.getElem?_drop] using h2
theorem fld_int {n i : Nat} {fs : Array Field} {cs : List Value} {xs : List (DataW H × List MemPlace)} {t0 : TypeId} (hg : ∀ (i : Nat) (f : Field), fs[i]? = some f → DataW.trod enc P w base spare held n f.type ((cs.drop f.offset).take (P.cellsOf f.type)) = xs[i]?)
    (hf : fs[i]?.map (fun f => (f.offset, f.type)) = some (i, t0)) (hx : i < xs.length) (hc : P.cellsOf t0 = 1) (hu : P.underlying t0 = some (.int .i64)) : ∃ y, cs[i]? = some (.int .i64 y) ∧ i64w y := by
  obtain ⟨f, h1, h2⟩ := Option.map_eq_some_iff.1 hf
  obtain ⟨h3, h4⟩ := Prod.mk.inj h2
  have g := hg i f h1
  rw [h3, h4, hc, List.getElem?_eq_getElem hx] at g
  obtain ⟨y, e, _, wf⟩ := DataW.trod_int hu g
  exact ⟨y, one_at e, wf⟩
theorem fld_text {n i : Nat} {fs : Array Field} {cs : List Value} {xs : List (DataW H × List MemPlace)} {t0 : TypeId} (hg : ∀ (i : Nat) (f : Field), fs[i]? = some f → DataW.trod enc P w base spare held n f.type ((cs.drop f.offset).take (P.cellsOf f.type)) = xs[i]?)
    (hf : fs[i]?.map (fun f => (f.offset, f.type)) = some (i, t0)) (hx : i < xs.length) (hc : P.cellsOf t0 = 1) (hu : P.underlying t0 = some .string) : ∃ y : ByteArray, cs[i]? = some (.string y) ∧ y.size ≤ maxLen := by
  obtain ⟨f, h1, h2⟩ := Option.map_eq_some_iff.1 hf
  obtain ⟨h3, h4⟩ := Prod.mk.inj h2
  have g := hg i f h1
  rw [h3, h4, hc, List.getElem?_eq_getElem hx] at g
  obtain ⟨y, e, _, wf⟩ := DataW.trod_string hu g
  exact ⟨y, one_at e, wf⟩
end
end Go.Proofs.YtchhmfdalghgcaaGreat
namespace Go.Proofs.YtchhmfdalghgcaaGreat
open Go.ChangeShapes Go.WideShapes Go.ChangeAt Go.RowKit

/-- the row at ao holds the numbers L -/
def NL (w : World) (ao : Option Addr) (L : List Int) : Prop := ∀ i (h : i < L.length), (∃ bk off, ao = some ⟨bk, off, none⟩ ∧ w.cell? ⟨bk, off + i, none⟩ = some (.int .i64 L[i])) ∧ (Lit.int .i64 L[i]).wf = true
theorem NL.below {w w' : World} {ao : Option Addr} {L : List Int} (h : NL w ao L) (hb : Below w.heap.size w w') : NL w' ao L := by
  intro i hi
  obtain ⟨⟨bk, off, h1, h2⟩, h5⟩ := h i hi
  exact ⟨⟨bk, off, h1, cellB hb (block_lt_of_cell h2) h2⟩, h5⟩
section
variable {H : Type} {enc : TypeId × Value → H} {P : Program} {w : World} {base : Nat} {spare : Nat → Bool} {held : Bool}
end
end Go.Proofs.YtchhmfdalghgcaaGreat
namespace Go.Proofs.YtchhmfdalghgcaaGreat
set_option linter.unusedVariables false
open Go.ChangeShapes Go.WideShapes Go.ChangeAt Go.RowKit
set_option maxRecDepth 20000
/-- the row at ao holds the elements L, n cells each, as f tells -/
def Row {α : Type} (w : World) (ao : Option Addr) (n : Nat) (f : α → List Value) (L : List α) : Prop :=
  ∀ i (h : i < L.length), ∃ bk off, ao = some ⟨bk, off, none⟩ ∧ ∀ j v, (f L[i])[j]? = some v → w.cell? ⟨bk, off + i * n + j, none⟩ = some v
theorem Row.nil {α : Type} (w : World) (ao : Option Addr) (n : Nat) (f : α → List Value) : Row w ao n f [] := fun i h => absurd h (Nat.not_lt_zero i)
theorem Row.below {α : Type} {w w' : World} {ao : Option Addr} {n : Nat} {f : α → List Value} {L : List α} (h : Row w ao n f L) (hb : Below w.heap.size w w') : Row w' ao n f L := by
  intro i hi
  obtain ⟨bk, off, h1, h2⟩ := h i hi
  exact ⟨bk, off, h1, fun j v hv => cellB hb (block_lt_of_cell (h2 j v hv)) (h2 j v hv)⟩
section
variable {H : Type} {enc : TypeId × Value → H} {P : Program} {w : World} {base : Nat} {spare : Nat → Bool} {held : Bool}
theorem rows_cs {α : Type} [Inhabited α] {f : α → List Value} {ok : World → α → Prop} {m n : Nat} {cs : List Value} {y : DataW H × List MemPlace} {t e : TypeId} (ht : P.underlying t = some (.slice e)) (hc : P.cellsOf e = n + 1)
    (one : ∀ (m : Nat) (cs : List Value) (y : DataW H × List MemPlace), cs.length = n + 1 → DataW.trod enc P w base spare held m e cs = some y → ∃ x, cs = f x ∧ ok w x) (hf : DataW.trod enc P w base spare held m t cs = some y) :
    ∃ ao cap L, cs = [.slice ao L.length cap] ∧ L.length ≤ maxLen ∧ Row w ao (n + 1) f L ∧ (∀ x ∈ L, ok w x) ∧ (ao = none → cap = 0) ∧ L.length ≤ cap := by
  rcases Deep.open_slice ht hf with ⟨h0, _⟩ | ⟨a, len, cap, m, n2, D, Pl, hcs, _, hl, hm, hmm, _, hi⟩
  · exact ⟨none, 0, [], h0, Nat.zero_le _, Row.nil _ _ _ _, (fun x hx => by cases hx), fun _ => rfl, Nat.le_refl _⟩
  subst hcs
  have hlm : len ≤ m := by rw [hmm]; split <;> omega
  rw [hc] at hi
  have each : ∀ i, i < len → ∃ x : α, (∀ j v, (f x)[j]? = some v → w.cell? (a.add (i * (n + 1) + j)) = some v) ∧ ok w x ∧ (f x).length = n + 1 := by
    intro i hin
    obtain ⟨cs, hcl, htr⟩ := hi i (by omega)
    obtain ⟨_, hlen, hat⟩ := World.cells?_some hcl
    obtain ⟨x, rfl, hok⟩ := one _ _ _ hlen htr
    refine ⟨x, fun j v hj => ?_, hok, hlen⟩
    have hjl : j < (f x).length := by
      obtain ⟨h1, _⟩ := List.getElem?_eq_some_iff.1 hj
      exact h1
    have a0 := hat j (by omega)
    rw [Deep.add_add] at a0
    rw [a0]
    exact hj
  obtain ⟨F, hF⟩ := Deep.choose_lt each
  refine ⟨some a, cap, (List.range len).map F, by simp, by simp; omega, fun i hi => ?_, fun x hx => ?_, (fun e => by cases e), by simpa using hl⟩
  · have hin : i < len := by simpa using hi
    rw [List.getElem_map, List.getElem_range]
    obtain ⟨b0, _, _⟩ := hF i hin
    obtain ⟨z0, _, zl⟩ := hF 0 (by omega)
    have hz : ∃ v, (f (F 0))[0]? = some v := ⟨(f (F 0))[0]'(by omega), List.getElem?_eq_getElem (by omega)⟩
    obtain ⟨v0, hv0⟩ := hz
    have hs := cell_spot (z0 0 v0 hv0)
    obtain ⟨bk, off, sp⟩ := a
    rw [show ((⟨bk, off, sp⟩ : Addr).add (0 * (n + 1) + 0)) = ⟨bk, off, sp⟩ from by simp [Addr.add]] at hs
    simp only at hs
    subst hs
    refine ⟨bk, off, rfl, fun j v hj => ?_⟩
    have h5 := b0 j v hj
    rw [addr_plus, ← Nat.add_assoc] at h5
    exact h5
  · obtain ⟨i, hi, rfl⟩ := List.mem_map.1 hx
    exact (hF i (List.mem_range.1 hi)).2.1
theorem open_rows {α : Type} [Inhabited α] {f : α → List Value} {ok : World → α → Prop} {n : Nat} {r : Reach} {b0 : Nat} {t e : TypeId} {v : Value} {d : DataW H} {pl : List MemPlace} (ht : P.underlying t = some (.slice e)) (hc : P.cellsOf e = n + 1)
    (one : ∀ (m : Nat) (cs : List Value) (y : DataW H × List MemPlace), cs.length = n + 1 → DataW.trod enc P w base spare held m e cs = some y → ∃ x, cs = f x ∧ ok w x)
    (hv : Value.okWide P w r b0 t v) (h : DataW.Trod enc P w base spare held t v d pl) :
    ∃ ao cap L, v = .slice ao L.length cap ∧ L.length ≤ maxLen ∧ Row w ao (n + 1) f L ∧ (∀ x ∈ L, ok w x) ∧ (ao = none → cap = 0) ∧ L.length ≤ cap := by
  obtain ⟨a0, n0, k0, rfl⟩ := okWide_slice ht hv
  obtain ⟨fuel, hf⟩ := h
  simp only [Value.cells] at hf
  obtain ⟨ao, cap, L, h1, h2⟩ := rows_cs ht hc one hf
  exact ⟨ao, cap, L, by simpa using h1, h2⟩
end
end Go.Proofs.YtchhmfdalghgcaaGreat
namespace Go.Proofs.YtchhmfdalghgcaaGreat
open Go.RowKit Go.Maps
set_option linter.unusedVariables false
theorem one_cells {P : Program} {k : TypeId} {f0 : Field} (hk : P.underlying k = some (.struct #[f0])) (hc : P.cellsOf k = 1) {v : Value} (h : v.formed P k = true) : ∃ x, v = .agg #[x] := by
  cases v with
  | agg cs =>
    simp only [Value.formed, hk, hc, beq_iff_eq] at h
    obtain ⟨l⟩ := cs
    match l, h with
    | [x], _ => exact ⟨x, rfl⟩
  | _ => simp [Value.formed, hk] at h
theorem key_one_inv {P : Program} {k ti : TypeId} {f0 : Field} (hk : P.underlying k = some (.struct #[f0])) (hc : P.cellsOf k = 1) (hn : (f0.name != "_") = true) (h0 : (f0.offset, f0.type) = (0, ti)) (ci : P.cellsOf ti = 1) (ui : P.underlying ti = some (.int .i64))
    (hkt : P.keyType k = true) {n : Nat} (hs : P.types.size = n + 1) {v : Value} {kl : Lit} (h : keyOf P k v = some kl) : ∃ u, v = .agg #[.int .i64 u] ∧ (Lit.int .i64 u).wf = true := by
  have e0 : f0.offset = 0 := congrArg Prod.fst h0
  have e1 : f0.type = ti := congrArg Prod.snd h0
  unfold keyOf at h
  rw [hk] at h
  simp only [hkt, Bool.true_and] at h
  split at h
  · next hf =>
    obtain ⟨x, rfl⟩ := one_cells hk hc hf
    rw [hs] at h
    simp only [Value.cells] at h
    unfold Program.keyLits at h
    rw [hk] at h
    simp [hc, hn, e0, e1, ci] at h
    unfold Program.keyLits at h
    rw [ui] at h
    cases x with
    | int q a =>
      by_cases hq : q = IntKind.i64 ∧ (Lit.int .i64 a).wf = true
      · obtain ⟨rfl, h1⟩ := hq
        exact ⟨a, rfl, h1⟩
      · simp [hq] at h
    | _ => simp at h
  · cases h
end Go.Proofs.YtchhmfdalghgcaaGreat
namespace Go.Proofs.YtchhmfdalghgcaaGreat
set_option linter.unusedVariables false
open Go.RowKit
/-- a body with labels, of which one jump is taken -/
theorem wp_scope_one {P : Program} {c rest : Code} {a : Act} {w : World} {Q : Exit → Act → World → Prop} (l : Nat) (hf : findLabel c l = some rest)
    (h : c.wp P (Exit.jump l (fun a' w' => rest.wp P (Exit.noGoto Q) a' w') Q) a w) : (Code.scope c).wp P Q a w :=
  wp_scope_jumps l (fun a' w' => rest.wp P (Exit.noGoto Q) a' w') (fun _ _ => 0) hf h (fun a w hj => Code.wp_mono (fun e a w hq => by
    cases e with
    | goto l => exact hq.elim
    | _ => exact hq) hj)
theorem noGoto_normal {a : Act} {w : World} {Q : Exit → Act → World → Prop} : Exit.noGoto Q .normal a w = Q .normal a w := rfl
theorem jump_one {P : Program} {rest : Code} {a : Act} {w : World} {Q : Exit → Act → World → Prop} {l : Nat} (h : rest.wp P (Exit.noGoto Q) a w) : Exit.jump l (fun a' w' => rest.wp P (Exit.noGoto Q) a' w') Q (.goto l) a w := ⟨rfl, h⟩
theorem kept_low {S : Nat → Prop} {B : Nat} {w w' : World} (hk : Kept S w w') (hS : ∀ k, k < B → S k) (hB : B ≤ w.heap.size) : Below B w w' :=
  ⟨hk.os, hk.tape, hk.output, hk.size, fun k hkB => hk.block k (hS k hkB) (Nat.lt_of_lt_of_le hkB hB)⟩
end Go.Proofs.YtchhmfdalghgcaaGreat
