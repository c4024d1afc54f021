/- Pages of the document's own in memory: a row of what is not empty, behind an object. Conditions: as each statement says. -/
import Derived.Test.YtaodmdoagngdnaaPagM
import Derived.Test.YtaodmdoagngdnaaFields
import Derived.Test.YtaodmdoagngdnaaFrame
import Derived.Maps.AppendAt
import Derived.Laws.OwnMore
import Derived.OwnWalk
import Derived.Laws.ResultCell
namespace Go.Proofs.Ytaodmdoagngdnaa
open Go.RowKit
set_option maxRecDepth 20000
/-- the row at ao holds the pages l, three cells each -/
def PgL (w : World) (ao : Option Addr) (l : List Pg) : Prop :=
  ∀ i (h : i < l.length), ∃ bk off, ao = some ⟨bk, off, none⟩ ∧ w.cell? ⟨bk, off + i * 3, none⟩ = some (.int .i64 l[i].at_) ∧ w.cell? ⟨bk, off + i * 3 + 1, none⟩ = some (.int .i64 l[i].kind) ∧ w.cell? ⟨bk, off + i * 3 + 2, none⟩ = some (.string l[i].s)
theorem PgL.nil (w : World) (ao : Option Addr) : PgL w ao [] := fun i h => absurd h (Nat.not_lt_zero i)
theorem PgL.below {w w' : World} {ao : Option Addr} {l : List Pg} (h : PgL w ao l) (hb : Below w.heap.size w w') : PgL w' ao l := by
  intro i hi
  obtain ⟨bk, off, h1, h2, h3, h4⟩ := h i hi
  exact ⟨bk, off, h1, cellB hb (block_lt_of_cell h2) h2, cellB hb (block_lt_of_cell h3) h3, cellB hb (block_lt_of_cell h4) h4⟩
def pgCells (l : List Pg) : List Value := l.flatMap (fun x => [.int .i64 x.at_, .int .i64 x.kind, .string x.s])
theorem pgCells_append (l m : List Pg) : pgCells (l ++ m) = pgCells l ++ pgCells m := by simp [pgCells]
theorem pgCells_length (l : List Pg) : (pgCells l).length = l.length * 3 := by
  induction l with
  | nil => rfl
  | cons e l ih =>
    show (_ :: _ :: _ :: pgCells l).length = _
    simp [ih]
    omega
theorem pgCells_at (l : List Pg) (i : Nat) (h : i < l.length) : (pgCells l)[i * 3]? = some (.int .i64 l[i].at_) ∧ (pgCells l)[i * 3 + 1]? = some (.int .i64 l[i].kind) ∧ (pgCells l)[i * 3 + 2]? = some (.string l[i].s) := by
  induction l generalizing i with
  | nil => cases h
  | cons e l ih =>
    have hc : pgCells (e :: l) = .int .i64 e.at_ :: .int .i64 e.kind :: .string e.s :: pgCells l := rfl
    rw [hc]
    cases i with
    | zero => exact ⟨rfl, rfl, rfl⟩
    | succ i =>
      have := ih i (by simpa using h)
      rw [show (i + 1) * 3 = i * 3 + 1 + 1 + 1 by omega]
      simpa using this
theorem pgCells_one (l : List Pg) : ∀ u ∈ pgCells l, u.oneCell' = true := by
  intro u hu
  obtain ⟨x, _, hx⟩ := List.mem_flatMap.1 hu
  simp at hx
  rcases hx with rfl | rfl | rfl <;> rfl
/-- v is a row of the call's own that holds the pages l -/
def OG (w : World) (B : Nat) (v : Value) (l : List Pg) : Prop := w.ownsRow B 75 3 v l.length (pgCells l)
theorem OG.nil (w : World) (B : Nat) : OG w B (.slice none 0 0) [] := World.ownsRow_nil _ _ _ _
theorem OG.keep {S : Nat → Prop} {w w' : World} {B : Nat} {v : Value} {l : List Pg} (h : OG w B v l) (hk : Kept S w w') (hS : ∀ k, v.ownBlock = some k → S k) : OG w' B v l := hk.owns h hS
theorem OG.below {w w' : World} {B : Nat} {v : Value} {l : List Pg} (h : OG w B v l) (hb : Below w.heap.size w w') : OG w' B v l := (Kept.ofBelow hb (fun _ => True)).owns h (fun _ _ => trivial)
theorem OG.lower {w : World} {B B' : Nat} {v : Value} {l : List Pg} (h : OG w B v l) (hb : B' ≤ B) : OG w B' v l := by
  refine ⟨h.1, ?_⟩
  rcases h.2 with h2 | ⟨g, cap, cur, h3, h4, r⟩
  · exact .inl h2
  · exact .inr ⟨g, cap, cur, h3, Nat.le_trans hb h4, r⟩
theorem OG.form {w : World} {B : Nat} {v : Value} {l : List Pg} (h : OG w B v l) : ∃ ao cap, v = .slice ao l.length cap ∧ PgL w ao l ∧ l.length ≤ cap ∧ (ao = none → cap = 0) := by
  rcases h.2 with ⟨rfl, h0⟩ | ⟨g, cap, cur, rfl, hbg, hh, hnc, _, hcs, ht⟩
  · have : l = [] := List.eq_nil_of_length_eq_zero h0
    subst this
    exact ⟨none, 0, rfl, PgL.nil w none, Nat.le_refl _, fun _ => rfl⟩
  · refine ⟨some ⟨g, 0, none⟩, cap, rfl, fun i hi => ?_, hnc, (fun e => by cases e)⟩
    obtain ⟨h1, h2, h3⟩ := pgCells_at l i hi
    rw [← ht, List.getElem?_take, if_pos (by omega)] at h1 h2 h3
    have h1' : cur[i * 3]? = some (.int .i64 l[i].at_) := by simpa using h1
    have h2' : cur[i * 3 + 1]? = some (.int .i64 l[i].kind) := by simpa using h2
    have h3' : cur[i * 3 + 2]? = some (.string l[i].s) := by simpa using h3
    refine ⟨g, 0, rfl, ?_, ?_, ?_⟩
    · rw [Nat.zero_add, ← h1']
      simp [World.cell?, hh]
    · rw [Nat.zero_add, ← h2']
      simp [World.cell?, hh]
    · rw [Nat.zero_add, ← h3']
      simp [World.cell?, hh]
theorem one_info : (Try.prog.info? 75).map (fun i => (i.zero, i.size, i.bytes)) = some (some (.agg #[.int .i64 0, .int .i64 0, .string ByteArray.empty]), 3, 32) := by kernel_rfl
theorem PgL.news {w : World} {bk off : Nat} {l : List Pg} (h : PgL w (some ⟨bk, off, none⟩) l) : ∀ (j : Nat) (u : Value), (pgCells l)[j]? = some u → w.cell? ((⟨bk, off, none⟩ : Addr).add j) = some u := by
  intro j u hj
  have hlen := pgCells_length l
  have hjl : j < l.length * 3 := by
    obtain ⟨h1, _⟩ := List.getElem?_eq_some_iff.1 hj
    omega
  have hi : j / 3 < l.length := by omega
  obtain ⟨b2, o2, e, h1, h2, h3⟩ := h (j / 3) hi
  cases e
  obtain ⟨p1, p2, p3⟩ := pgCells_at l (j / 3) hi
  rw [addr_plus]
  have hm : j % 3 = 0 ∨ j % 3 = 1 ∨ j % 3 = 2 := by omega
  rcases hm with hm | hm | hm
  · have ej : j = j / 3 * 3 := by omega
    rw [ej] at hj ⊢
    rw [p1] at hj
    cases hj
    exact h1
  · have ej : j = j / 3 * 3 + 1 := by omega
    rw [ej] at hj ⊢
    rw [p2] at hj
    cases hj
    exact h2
  · have ej : j = j / 3 * 3 + 2 := by omega
    rw [ej] at hj ⊢
    rw [p3] at hj
    cases hj
    exact h3
/-- pages are appended to a row of the call's own -/
theorem run_app_pages (w : World) (ty : TypeId) {B : Nat} {v : Value} {D : List Pg} (h : OG w B v D) {ao : Option Addr} {cap : Nat} {l : List Pg} (hN : PgL w ao l) (hn : ao = none → cap = 0) (hc : l.length ≤ cap) (hz : D.length + l.length ≤ 1000000) (hB : B ≤ w.heap.size) :
    ∃ v' w', (Builtin.append_ #[69, 69] ty #[v, .slice ao l.length cap]).run Try.prog w = .ok v' w' ∧ OG w' B v' (D ++ l) ∧ w.grownBy w' v.ownBlock ∧ (v'.ownBlock = v.ownBlock ∨ v'.ownBlock = some w.heap.size) := by
  obtain ⟨i0, hi, hz0, hz1, hz2⟩ := info_parts one_info
  cases ao with
  | none =>
    obtain rfl : cap = 0 := hn rfl
    have hl0 : l = [] := List.eq_nil_of_length_eq_zero (by omega)
    subst hl0
    refine ⟨v, w, run_append_owned_none (P := Try.prog) (w := w) B 69 ty 75 i0 3 Try.underlying69 hi v _ _ h, by rw [List.append_nil]; exact h, ⟨rfl, rfl, rfl, Nat.le_refl _, fun _ _ _ => rfl⟩, .inl rfl⟩
  | some ad =>
    by_cases hl : l.length = 0
    · have hl0 : l = [] := List.eq_nil_of_length_eq_zero hl
      subst hl0
      obtain ⟨v', w', hr, h1, h2, _, h4⟩ := run_append_own_at (P := Try.prog) w B 69 ty 75 i0 (.agg #[.int .i64 0, .int .i64 0, .string ByteArray.empty]) 3 32 Try.underlying69 hi hz0 hz1 hz2 rfl (by decide) v D.length (pgCells D) h ad 0 cap [] rfl (fun j u hj => by cases j <;> cases hj) (fun u hu => by cases hu) (by unfold maxLen; simp at hz; omega) (by simp at hz; omega) hB
      exact ⟨v', w', hr, by rw [List.append_nil]; simpa [OG] using h1, h2, h4⟩
    · obtain ⟨bk, off, e, _⟩ := hN 0 (by omega)
      cases e
      obtain ⟨v', w', hr, h1, h2, _, h4⟩ := run_append_own_at (P := Try.prog) w B 69 ty 75 i0 (.agg #[.int .i64 0, .int .i64 0, .string ByteArray.empty]) 3 32 Try.underlying69 hi hz0 hz1 hz2 rfl (by decide) v D.length (pgCells D) h ⟨bk, off, none⟩ l.length cap (pgCells l) (pgCells_length l) hN.news (pgCells_one l) (by unfold maxLen; omega) (by omega) hB
      exact ⟨v', w', hr, by unfold OG; rw [List.length_append, pgCells_append]; exact h1, h2, h4⟩
theorem wpList_app_pages {ops : Array Oper} {rest : List Oper} {o : Oper} {a : Act} {w : World} {Q : Exit → Act → World → Prop} (hgd : o.guard = none) (s x : Operand)
    (ho : o.op = .call { callee := .builtin .append, args := #[s, x], argTypes := #[69, 69] }) {B : Nat} {v : Value} {D : List Pg} (hs : a.eval s = v) (hown : OG w B v D)
    {ao : Option Addr} {cap : Nat} {l : List Pg} {m : Nat} (hm : l.length = m) (hx : a.eval x = .slice ao m cap) (hN : PgL w ao l) (hn : ao = none → cap = 0) (hc : l.length ≤ cap) (hz : D.length + l.length ≤ 1000000) (hB : B ≤ w.heap.size)
    (h : ∀ v' w', OG w' B v' (D ++ l) → w.grownBy w' v.ownBlock → (v'.ownBlock = v.ownBlock ∨ v'.ownBlock = some w.heap.size) → wpList Try.prog ops Q rest (a.put o.dst v') w') : wpList Try.prog ops Q (o :: rest) a w := by
  refine wpList_plain hgd fun K hK => ?_
  subst hm
  obtain ⟨v', w', hr, h2, h3, h4⟩ := run_app_pages w o.type hown hN hn hc hz hB
  unfold Oper.wp execOp
  simp only [ho, resolve, invoke, builtin, Sem.run_bind, Sem.run_pure, Result.andThen_ok, List.map_toArray, List.map_cons, List.map_nil, hs, hx, hr]
  exact hK _ _ (h v' w' h2 h3 h4)
theorem OG.made (w : World) {B n : Nat} (hn : w.heap.size = n) (hB : B ≤ n) : OG (w.alloc (.cells #[] 75)) B (.slice (some ⟨n, 0, none⟩) 0 0) [] := by
  subst hn
  exact World.ownsRow_made w #[] 0 hB (Nat.zero_le _) rfl
/-- a block of one page, as a slice -/
theorem PgL.made (w : World) {n : Nat} (hn : w.heap.size = n) (x : Pg) : PgL (w.alloc (.cells #[.int .i64 x.at_, .int .i64 x.kind, .string x.s] 75)) (some ⟨n, 0, none⟩) [x] := by
  subst hn
  intro i hi
  obtain rfl : i = 0 := by simpa using hi
  have h := heap_alloc_new w (.cells #[.int .i64 x.at_, .int .i64 x.kind, .string x.s] 75)
  exact ⟨w.heap.size, 0, rfl, cell_of h 0, cell_of h 1, cell_of h 2⟩
/-- block b is the document's object of the pages p; it and its row lie in G -/
def RG (G : Nat → Prop) (w : World) (b : Nat) (p : Ps) : Prop :=
  ∃ v, w.heap[b]? = some (.cells #[v, .int .i64 p.room, .int .i64 p.edge] 71 (0, 0)) ∧ OG w 0 v p.l ∧ (∀ k, v.ownBlock = some k → G k ∧ k ≠ b) ∧ G b ∧ ∀ k, G k → k < w.heap.size
theorem RG.keep {G T : Nat → Prop} {w w' : World} {b : Nat} {p : Ps} (h : RG G w b p) (hk : Kept T w w') (hT : ∀ k, G k → T k) : RG G w' b p := by
  obtain ⟨v, h1, h2, h3, h4, h5⟩ := h
  exact ⟨v, hk.heap (hT b h4) h1, h2.keep hk (fun k e => hT k (h3 k e).1), h3, h4, fun k hg => Nat.lt_of_lt_of_le (h5 k hg) hk.size⟩
theorem RG.below {G : Nat → Prop} {w w' : World} {b : Nat} {p : Ps} (h : RG G w b p) (hb : Below w.heap.size w w') : RG G w' b p := h.keep (T := fun _ => True) (Kept.ofBelow hb _) (fun _ _ => trivial)
end Go.Proofs.Ytaodmdoagngdnaa
