/- Rows of a call's own, of elements of any make: made, appended to, cut. Conditions: as each statement says. -/
import Derived.Test.YtfkgeefoknaldaaG04a
import Derived.Test.YtfkgeefoknaldaaG02a
import Derived.Test.YtfkgeefoknaldaaG06a
import Derived.Maps.AppendAt
import Derived.Laws.OwnMore
import Derived.OwnWalk
set_option linter.unusedVariables false
namespace Go.Proofs.Ytfkgeefoknaldaa
set_option linter.unusedVariables false
open Go.RowKit
set_option maxRecDepth 20000
/-- elements of the type T (a slice of them: TS), n cells each, as f tells -/
structure RowK {α : Type} (P : Program) (TS T : TypeId) (n : Nat) (f : α → List Value) : Prop where
  under : P.underlying TS = some (.slice T)
  info : ∃ (i : TypeInfo) (z : Value) (bytes : Nat), P.info? T = some i ∧ i.zero = some z ∧ i.size = n ∧ i.bytes = bytes ∧ z.cells.size = n ∧ bytes ≤ 1000
  pos : 0 < n
  len : ∀ x, (f x).length = n
  one : ∀ x, ∀ u ∈ f x, u.oneCell' = true
section
variable {α : Type} {P : Program} {TS T : TypeId} {n : Nat} {f : α → List Value}
theorem RowK.flat_len (h : RowK P TS T n f) (l : List α) : (l.flatMap f).length = l.length * n := by
  induction l with
  | nil => simp
  | cons x l ih => rw [List.flatMap_cons, List.length_append, h.len, ih, List.length_cons, Nat.succ_mul, Nat.add_comm]
theorem RowK.flat_at (h : RowK P TS T n f) (l : List α) (i : Nat) (hi : i < l.length) (j : Nat) (hj : j < n) : (l.flatMap f)[i * n + j]? = (f l[i])[j]? := by
  induction l generalizing i with
  | nil => cases hi
  | cons x l ih =>
    rw [List.flatMap_cons]
    cases i with
    | zero => rw [Nat.zero_mul, Nat.zero_add, List.getElem?_append_left (by rw [h.len]; exact hj)]; rfl
    | succ i =>
      rw [List.getElem?_append_right (by rw [h.len, Nat.succ_mul]; omega), h.len, show (i + 1) * n + j - n = i * n + j by rw [Nat.succ_mul]; omega]
      exact ih i (by simpa using hi)
theorem RowK.flat_one (h : RowK P TS T n f) (l : List α) : ∀ u ∈ l.flatMap f, u.oneCell' = true := by
  intro u hu
  obtain ⟨x, _, hx⟩ := List.mem_flatMap.1 hu
  exact h.one x u hx
/-- v is a row of the call's own that holds l -/
def OR {α : Type} (T : TypeId) (n : Nat) (f : α → List Value) (w : World) (B : Nat) (v : Value) (l : List α) : Prop := w.ownsRow B T n v l.length (l.flatMap f)
theorem OR.nil (w : World) (B : Nat) : OR T n f w B (.slice none 0 0) [] := World.ownsRow_nil _ _ _ _
theorem OR.keep {S : Nat → Prop} {w w' : World} {B : Nat} {v : Value} {l : List α} (h : OR T n f w B v l) (hk : Kept S w w') (hS : ∀ k, v.ownBlock = some k → S k) : OR T n f w' B v l := hk.owns h hS
theorem OR.below {w w' : World} {B : Nat} {v : Value} {l : List α} (h : OR T n f w B v l) (hb : Below w.heap.size w w') : OR T n f w' B v l := (Kept.ofBelow hb (fun _ => True)).owns h (fun _ _ => trivial)
theorem OR.lower {w : World} {B B' : Nat} {v : Value} {l : List α} (h : OR T n f w B v l) (hb : B' ≤ B) : OR T n f w B' v l := by
  refine ⟨h.1, ?_⟩
  rcases h.2 with h2 | ⟨g, cap, cur, h3, h4, r⟩
  · exact .inl h2
  · exact .inr ⟨g, cap, cur, h3, Nat.le_trans hb h4, r⟩
theorem OR.form (K : RowK P TS T n f) {w : World} {B : Nat} {v : Value} {l : List α} (h : OR T n f w B v l) : ∃ ao cap, v = .slice ao l.length cap ∧ Row w ao n f l ∧ l.length ≤ cap ∧ (ao = none → cap = 0) ∧ (∀ a, ao = some a → B ≤ a.block ∧ a.block < w.heap.size) ∧ v.ownBlock = ao.map (·.block) ∧ ∀ a, ao = some a → a = ⟨a.block, 0, none⟩ := by
  rcases h.2 with ⟨rfl, h0⟩ | ⟨g, cap, cur, rfl, hbg, hh, hnc, _, hcs, ht⟩
  · have : l = [] := List.eq_nil_of_length_eq_zero h0
    subst this
    exact ⟨none, 0, rfl, Row.nil w none n f, Nat.le_refl _, fun _ => rfl, (fun a e => by cases e), rfl, (fun a e => by cases e)⟩
  · refine ⟨some ⟨g, 0, none⟩, cap, rfl, fun i hi => ⟨g, 0, rfl, fun j v hv => ?_⟩, hnc, (fun e => by cases e), (fun a e => by cases e; exact ⟨hbg, lt_of_block hh⟩), rfl, (fun a e => by cases e; rfl)⟩
    have hj : j < n := by
      obtain ⟨h1, _⟩ := List.getElem?_eq_some_iff.1 hv
      rw [K.len] at h1
      exact h1
    have h1 := K.flat_at l i hi j hj
    rw [← ht, hv, List.getElem?_take] at h1
    have hin : i * n + j < l.length * n := by
      have := Nat.mul_le_mul_right n (show i + 1 ≤ l.length by omega)
      rw [Nat.succ_mul] at this
      omega
    rw [if_pos hin] at h1
    rw [Nat.zero_add, ← (by simpa using h1 : cur[i * n + j]? = some v)]
    simp [World.cell?, hh]
theorem Row.news (K : RowK P TS T n f) {w : World} {ad : Addr} {l : List α} (h : Row w (some ad) n f l) : ∀ (j : Nat) (u : Value), (l.flatMap f)[j]? = some u → w.cell? (ad.add j) = some u := by
  intro j u hj
  have hlen := K.flat_len l
  have hpos := K.pos
  have hjl : j < l.length * n := by
    obtain ⟨h1, _⟩ := List.getElem?_eq_some_iff.1 hj
    omega
  have hi : j / n < l.length := Nat.div_lt_of_lt_mul (by rw [Nat.mul_comm]; exact hjl)
  have hm : j % n < n := Nat.mod_lt _ hpos
  have ej : j = j / n * n + j % n := by rw [Nat.mul_comm]; exact (Nat.div_add_mod j n).symm
  obtain ⟨b2, o2, e, h1⟩ := h (j / n) hi
  cases e
  rw [addr_plus]
  rw [ej, K.flat_at l _ hi _ hm] at hj
  have := h1 _ _ hj
  rw [Nat.add_assoc, ← ej] at this
  exact this
/-- elements are appended to a row of the call's own -/
theorem run_app_rows (K : RowK P TS T n f) (w : World) (ty : TypeId) {B : Nat} {v : Value} {D : List α} (h : OR T n f w B v D) {ao : Option Addr} {cap : Nat} {l : List α} (hN : Row w ao n f l) (hn : ao = none → cap = 0) (hc : l.length ≤ cap) (hz : D.length + l.length ≤ 1000000) (hB : B ≤ w.heap.size) :
    ∃ v' w', (Builtin.append_ #[TS, TS] ty #[v, .slice ao l.length cap]).run P w = .ok v' w' ∧ OR T n f w' B v' (D ++ l) ∧ w.grownBy w' v.ownBlock ∧ (v'.ownBlock = v.ownBlock ∨ v'.ownBlock = some w.heap.size) := by
  obtain ⟨i0, z, bytes, hi, hz0, hz1, hz2, hz3, hz4⟩ := K.info
  cases ao with
  | none =>
    obtain rfl : cap = 0 := hn rfl
    have hl0 : l = [] := List.eq_nil_of_length_eq_zero (by omega)
    subst hl0
    refine ⟨v, w, run_append_owned_none (P := P) (w := w) B TS ty T i0 n K.under hi v _ _ h, by rw [List.append_nil]; exact h, ⟨rfl, rfl, rfl, Nat.le_refl _, fun _ _ _ => rfl⟩, .inl rfl⟩
  | some ad =>
    have hbig : (D.length + l.length) * bytes ≤ 140737488355328 := Nat.le_trans (Nat.mul_le_mul hz hz4) (by decide)
    obtain ⟨v', w', hr, h1, h2, _, h4⟩ := run_append_own_at (P := P) w B TS ty T i0 z n bytes K.under hi hz0 hz1 hz2 hz3 K.pos v D.length (D.flatMap f) h ad l.length cap (l.flatMap f) (K.flat_len l) (hN.news K) (K.flat_one l) (by unfold maxLen; omega) hbig hB
    exact ⟨v', w', hr, by unfold OR; rw [List.length_append, List.flatMap_append]; exact h1, h2, h4⟩
theorem wpList_app_rows (K : RowK P TS T n f) {ops : Array Oper} {rest : List Oper} {o : Oper} {a : Act} {w : World} {Q : Exit → Act → World → Prop} (hgd : o.guard = none) (s x : Operand)
    (ho : o.op = .call { callee := .builtin .append, args := #[s, x], argTypes := #[TS, TS] }) {B : Nat} {v : Value} {D : List α} (hs : a.eval s = v) (hown : OR T n f w B v D)
    {ao : Option Addr} {cap : Nat} {l : List α} {m : Nat} (hm : l.length = m) (hx : a.eval x = .slice ao m cap) (hN : Row w ao n f l) (hn : ao = none → cap = 0) (hc : l.length ≤ cap) (hz : D.length + l.length ≤ 1000000) (hB : B ≤ w.heap.size)
    (h : ∀ v' w', OR T n f w' B v' (D ++ l) → w.grownBy w' v.ownBlock → (v'.ownBlock = v.ownBlock ∨ v'.ownBlock = some w.heap.size) → wpList P ops Q rest (a.put o.dst v') w') : wpList P ops Q (o :: rest) a w := by
  refine wpList_plain hgd fun K' hK => ?_
  subst hm
  obtain ⟨v', w', hr, h2, h3, h4⟩ := run_app_rows K w o.type hown hN hn hc hz hB
  unfold Oper.wp execOp
  simp only [ho, resolve, invoke, builtin, Sem.run_bind, Sem.run_pure, Result.andThen_ok, List.map_toArray, List.map_cons, List.map_nil, hs, hx, hr]
  exact hK _ _ (h v' w' h2 h3 h4)
theorem step_app_rows (K : RowK P TS T n f) {ops : Array Oper} {o : Oper} {a : Act} {w : World} {K' : Act → World → Prop} {Q : Exit → Act → World → Prop} {E : Prop} (hgd : o.guard = none) (s x : Operand)
    (ho : o.op = Op.call { callee := Callee.builtin Builtin.append, args := #[s, x], argTypes := #[TS, TS] }) {B : Nat} {v : Value} {D : List α} (hs : a.eval s = v) (hown : OR T n f w B v D)
    {ao : Option Addr} {cap : Nat} {l : List α} {m : Nat} (hm : l.length = m) (hx : a.eval x = .slice ao m cap) (hN : Row w ao n f l) (hn : ao = none → cap = 0) (hc : l.length ≤ cap) (hz : D.length + l.length ≤ 1000000) (hB : B ≤ w.heap.size)
    (h : ∀ v' w', OR T n f w' B v' (D ++ l) → w.grownBy w' v.ownBlock → (v'.ownBlock = v.ownBlock ∨ v'.ownBlock = some w.heap.size) → K' (a.put o.dst v') w') :
    if Region.wanted o (yielded ops a.tmps) = true then Oper.wp P o a w K' Q else E := by
  have hw : Region.wanted o (yielded ops a.tmps) = true := by simp [Region.wanted, hgd]
  rw [if_pos hw]
  subst hm
  obtain ⟨v', w', hr, h2, h3, h4⟩ := run_app_rows K w o.type hown hN hn hc hz hB
  unfold Oper.wp
  simp [execOp, ho, resolve, invoke, builtin, hs, hx, hr, Result.andThen]
  exact h v' w' h2 h3 h4
theorem OR.made (w : World) {B m : Nat} (hn : w.heap.size = m) (hB : B ≤ m) : OR T n f (w.alloc (.cells #[] T)) B (.slice (some ⟨m, 0, none⟩) 0 0) [] := by
  subst hn
  exact World.ownsRow_made w #[] 0 hB (Nat.zero_le _) (by simp)
/-- a block of one element, as a slice -/
theorem Row.one {W : World} {b : Nat} {t : TypeId} {x : α} (h : W.heap[b]? = some (.cells (f x).toArray t (0, 0))) : Row W (some ⟨b, 0, none⟩) n f [x] := by
  intro i hi
  obtain rfl : i = 0 := by simpa using hi
  refine ⟨b, 0, rfl, fun j v hv => ?_⟩
  rw [Nat.zero_mul, Nat.add_zero, Nat.zero_add, cell_of h j]
  simpa using hv
theorem Row.take {w : World} {ao : Option Addr} {l : List α} (h : Row w ao n f l) (k : Nat) : Row w ao n f (l.take k) := by
  intro i hi
  rw [List.length_take] at hi
  obtain ⟨bk, off, e, h1⟩ := h i (by omega)
  refine ⟨bk, off, e, fun j v hv => h1 j v ?_⟩
  rw [List.getElem_take] at hv
  exact hv
theorem Row.drop {w : World} {b o : Nat} {l : List α} (h : Row w (some ⟨b, o, none⟩) n f l) (k : Nat) : Row w (some ⟨b, o + k * n, none⟩) n f (l.drop k) := by
  intro i hi
  rw [List.length_drop] at hi
  obtain ⟨bk, off, e, h1⟩ := h (k + i) (by omega)
  cases e
  refine ⟨b, o + k * n, rfl, fun j v hv => ?_⟩
  rw [List.getElem_drop] at hv
  have := h1 j v hv
  rw [Nat.add_mul] at this
  rw [show o + k * n + i * n + j = o + (k * n + i * n) + j by omega]
  exact this
theorem Row.keep {S : Nat → Prop} {w w' : World} {ao : Option Addr} {l : List α} (h : Row w ao n f l) (hk : Kept S w w') (hS : ∀ a, ao = some a → S a.block) : Row w' ao n f l := by
  intro i hi
  obtain ⟨bk, off, e, h1⟩ := h i hi
  exact ⟨bk, off, e, fun j v hv => (World.cell?_of_block (a := ⟨bk, off + i * n + j, none⟩) (hk.block bk (hS _ e) (block_lt_of_cell (h1 j v hv)))).trans (h1 j v hv)⟩
end
end Go.Proofs.Ytfkgeefoknaldaa
