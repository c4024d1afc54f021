/- What the walks of the document's Decode lean on: what is unpacked of a text; the blocks of its world. No conditions. What the document's Decode returns, at texts of the kind 13. Conditions: the text is no longer than 1000000 bytes. -/
import Derived.Test.YthileemkiplodaaGm
import Derived.Test.YthileemkiplodaaGu
import Derived.Laws.ResultCell
set_option linter.unusedVariables false
namespace Go.Proofs.Ythileemkiplodaa
open Go.RowKit
set_option maxRecDepth 20000

/-- the head of a record: its kind, client and number, and what is left -/
def decHead (s : ByteArray) : Rec × Option ByteArray :=
  ({ rec0 with kind := numV (some s) 1, client := numV (numO (some s) 1) 1, seq := numV (numO (numO (some s) 1) 1) 4 }, numO (numO (numO (some s) 1) 1) 4)
/-- so many moves, one behind the other -/
def decMoves : Nat → List Mv → Option ByteArray → List Mv × Option ByteArray
  | 0, l, u => (l, u)
  | n + 1, l, u => decMoves n (l ++ [⟨numV u 2, numV (numO u 2) 2, numV (numO (numO u 2) 2) 2, numV (numO (numO (numO u 2) 2) 2) 2⟩]) (numO (numO (numO (numO u 2) 2) 2) 2)
/-- the fields of a record's kind, and what is left -/
def decBody (o : Rec) (u : Option ByteArray) : Rec × Option ByteArray :=
  if o.kind = 1 ∨ o.kind = 2 ∨ o.kind = 3 ∨ o.kind = 5 ∨ o.kind = 8 then ({ o with path := textV u 65535 }, textO u 65535)
  else if o.kind = 4 ∨ o.kind = 6 then ({ o with path := textV u 65535, dest := textV (textO u 65535) 65535 }, textO (textO u 65535) 65535)
  else if o.kind = 7 then ({ o with path := textV u 65535, size := numV (textO u 65535) 4 }, numO (textO u 65535) 4)
  else if o.kind = 9 then ({ o with handle := numV u 4 }, numO u 4)
  else if o.kind = 10 then ({ o with handle := numV u 4, off := numV (numO u 4) 4, data := textV (numO (numO u 4) 4) 65535 }, textO (numO (numO u 4) 4) 65535)
  else if o.kind = 11 ∨ o.kind = 12 then ({ o with tick := numV u 8 }, numO u 8)
  else if o.kind = 13 then ({ o with ino := numV u 4, moves := (decMoves (numV (numO u 4) 1).toNat [] (numO (numO u 4) 1)).1, data := textV (decMoves (numV (numO u 4) 1).toNat [] (numO (numO u 4) 1)).2 65535 }, textO (decMoves (numV (numO u 4) 1).toNat [] (numO (numO u 4) 1)).2 65535)
  else if o.kind = 14 then ({ o with data := textV u 65535, size := numV (textO u 65535) 4, off := numV (numO (textO u 65535) 4) 4 }, numO (numO (textO u 65535) 4) 4)
  else (o, u)
/-- what Decode tells: a record and an error -/
def endR (x : Rec × Option ByteArray) : Rec × Int := if ukE x.2 = 0 ∧ goodO x.1 = true then (x.1, 0) else (rec0, 11)
def decR (s : ByteArray) : Rec × Int := endR (decBody (decHead s).1 (decHead s).2)
theorem endR_yes {x : Rec × Option ByteArray} (h1 : ukE x.2 = 0) (h2 : goodO x.1 = true) : endR x = (x.1, 0) := if_pos ⟨h1, h2⟩
theorem endR_no {x : Rec × Option ByteArray} (h : ukE x.2 ≠ 0 ∨ goodO x.1 = false) : endR x = (rec0, 11) := by
  unfold endR
  rw [if_neg]
  rintro ⟨h1, h2⟩
  rcases h with h | h
  · exact h h1
  · rw [h] at h2; cases h2
/-- what is handed back: a record, its moves in a row, and a number -/
def TellsE (w : World) (x : Rec × Int) (e : Ending) (w' : World) : Prop := ∃ ao cap, e = .returned (.tuple #[.agg (recA x.1 (.slice ao x.1.moves.length cap)), .int .i64 x.2]) ∧ VLI w' ao cap x.1.moves ∧ Below w.heap.size w w'
theorem dec_ret {fn : Func} {p u : Tmp} (h : fn.results = #[.cell p 24, .tmp u]) {a : Act} {w w' : World} {g : Nat} {x : Rec × Int} {ao : Option Addr} {cap : Nat}
    (hg : w'.heap[g]? = some (.cells (recA x.1 (.slice ao x.1.moves.length cap)) 24 (0, 0))) (hp : a.tmps.getD p undef = .pointer (some ⟨g, 0, none⟩)) (hx : a.tmps.getD u undef = .int .i64 x.2) (hd : a.defers = [])
    (hv : VLI w' ao cap x.1.moves) (hb : Below w.heap.size w w') : bodyPost Try.prog fn (TellsE w x) .ret a w' := by
  have e : (results fn a.tmps).run Try.prog w' = .ok (.tuple #[.agg (recA x.1 (.slice ao x.1.moves.length cap)), .int .i64 x.2]) w' := by
    rw [results_cell_tmp h, hp, hx]
    simp [asAddr, Result.andThen, run_loadVar_row w' g 24 24 (recA x.1 (.slice ao x.1.moves.length cap)) (0, 0) _ hg Try.underlying24 rfl (rec_info _ _)]
  exact bodyPost_ret e hd ⟨ao, cap, rfl, hv, hb⟩
/-- the world of Decode: the result's block, the unpacker's, the record's -/
structure DS (w wr : World) (v : Nat) (s : ByteArray) (o : Rec) (mv : Value) (u : Option ByteArray) : Prop where
  lt : w.heap.size + 1 < v
  res : wr.heap[w.heap.size]? = some (.cells (recA rec0 (.slice none 0 0)) 24 (0, 0))
  un : RKo wr (w.heap.size + 1) s u
  rc : wr.heap[v]? = some (.cells (recA o mv) 24 (0, 0))
  below : Below w.heap.size w wr
theorem DS.call {w wr w5 : World} {v : Nat} {s : ByteArray} {o : Rec} {mv : Value} {u u' : Option ByteArray} (h : DS w wr v s o mv u) (hu : RKo w5 (w.heap.size + 1) s u') (hk : Kept (fun k => k ≠ w.heap.size + 1) wr w5) : DS w w5 v s o mv u' :=
  ⟨h.lt, hk.heap (by simp) h.res, hu, hk.heap (Nat.ne_of_gt h.lt) h.rc, h.below.trans (hk.toBelow h.below.size (fun k hk => by omega))⟩
theorem DS.set {w wr : World} {v : Nat} {s : ByteArray} {o o' : Rec} {mv mv' : Value} {u : Option ByteArray} (h : DS w wr v s o mv u) (i : Nat) (x : Value) (he : (recA o mv).setIfInBounds i x = recA o' mv') : DS w (wr.setCell ⟨v, i, none⟩ x) v s o' mv' u := by
  have hl := h.lt
  have hk : Kept (fun k => k ≠ v) wr (wr.setCell ⟨v, i, none⟩ x) := (Kept.refl _ _).setCell (by simp) _
  refine ⟨hl, hk.heap (by omega) h.res, h.un.keep hk (by omega), ?_, h.below.setCell (p := ⟨v, i, none⟩) (by simp; omega) _⟩
  rw [← he]
  exact heap_setCell_same wr v i (recA o mv) 24 x h.rc
theorem DS.drewN {w wr : World} {v : Nat} {s : ByteArray} {o : Rec} {mv : Value} {u : Option ByteArray} (h : DS w wr v s o mv u) (n : Nat) : DS w (wr.drewN n) v s o mv u :=
  ⟨h.lt, h.res, h.un.keep (T := fun _ => True) (Kept.ofBelow (below_drewN (Below.refl _ _) n) _) trivial, h.rc, below_drewN h.below n⟩
theorem DS.grow {w wr w5 : World} {v : Nat} {s : ByteArray} {o : Rec} {mv : Value} {u : Option ByteArray} (h : DS w wr v s o mv u) (hb : Below wr.heap.size wr w5) : DS w w5 v s o mv u :=
  ⟨h.lt, below_heap hb h.res, h.un.keep (T := fun _ => True) (Kept.ofBelow hb _) trivial, below_heap hb h.rc, h.below.trans (hb.mono h.below.size)⟩
theorem ds_start (w w1 : World) (s : ByteArray) (h : RK w1 (w.alloc (.cells (recA rec0 (.slice none 0 0)) 24)).heap.size s 0 false) (hb : Below (w.alloc (.cells (recA rec0 (.slice none 0 0)) 24)).heap.size (w.alloc (.cells (recA rec0 (.slice none 0 0)) 24)) w1) :
    DS w (w1.alloc (.cells (recA rec0 (.slice none 0 0)) 24)) w1.heap.size s rec0 (.slice none 0 0) (some s) := by
  have e : (w.alloc (.cells (recA rec0 (.slice none 0 0)) 24)).heap.size = w.heap.size + 1 := by simp
  rw [e] at h
  have ho : RKo w1 (w.heap.size + 1) s (some s) := ⟨0, false, h, by show some (s.extract 0 s.size) = some s; rw [ext_all]⟩
  have hb1 : Below w1.heap.size w1 (w1.alloc (.cells (recA rec0 (.slice none 0 0)) 24)) := (Below.refl _ _).alloc (Nat.le_refl _) _
  exact ⟨lt_of_block h.1, below_heap hb1 (below_heap hb (heap_alloc_new w _)), ho.keep (T := fun _ => True) (Kept.ofBelow hb1 _) trivial, heap_alloc_new w1 _, (((Below.refl _ w).alloc (Nat.le_refl _) _).trans (hb.mono (by simp))).trans (hb1.mono (Nat.le_of_lt (Nat.lt_of_le_of_lt (Nat.le_succ _) (lt_of_block h.1))))⟩
theorem textV_size (o : Option ByteArray) (m : Int) : (textV o m).size ≤ (ukL o).size := by
  have h := numO_size o 2
  unfold textV
  split
  · rw [ByteArray.size_extract]; omega
  · exact Nat.zero_le _
theorem textO_le (o : Option ByteArray) (m : Int) : (ukL (textO o m)).size ≤ (ukL o).size := by
  have h := numO_size o 2
  unfold textO
  split
  · show ((ukL (numO o 2)).extract _ _).size ≤ _
    rw [ByteArray.size_extract]; omega
  · exact Nat.zero_le _
end Go.Proofs.Ythileemkiplodaa
namespace Go.Proofs.Ythileemkiplodaa
open Go.RowKit
set_option maxRecDepth 20000

theorem mvCells_snoc (l : List Mv) (m : Mv) : mvCells (l ++ [m]) = mvCells l ++ mvCells [m] := by
  induction l with
  | nil => rfl
  | cons a l ih => simp [mvCells, ih]
theorem DS.side {w wr : World} {v : Nat} {s : ByteArray} {o : Rec} {mv : Value} {u : Option ByteArray} (h : DS w wr v s o mv u) {M : Nat} (hm : v < M) (i : Nat) (x : Value) : DS w (wr.setCell ⟨M, i, none⟩ x) v s o mv u := by
  have hl := h.lt
  have hk : Kept (fun k => k ≠ M) wr (wr.setCell ⟨M, i, none⟩ x) := (Kept.refl _ _).setCell (by simp) _
  exact ⟨hl, hk.heap (by omega) h.res, h.un.keep hk (by omega), hk.heap (by omega) h.rc, h.below.setCell (p := ⟨M, i, none⟩) (by simp; omega) _⟩
/-- the world inside a round: a move's block M beside the rest, and the row of moves so far -/
structure MS (w wr : World) (v : Nat) (s : ByteArray) (o : Rec) (vm : Value) (l : List Mv) (M : Nat) (a b c d : Int) (u : Option ByteArray) : Prop where
  ds : DS w wr v s o vm u
  own : wr.ownsRow (v + 1) 54 4 vm l.length (mvCells l)
  ob : ∀ k, vm.ownBlock = some k → k ≠ M
  gt : v < M
  mc : wr.heap[M]? = some (.cells #[.int .i64 a, .int .i64 b, .int .i64 c, .int .i64 d] 54 (0, 0))
theorem MS.start {w wr : World} {v : Nat} {s : ByteArray} {o : Rec} {vm : Value} {l : List Mv} {u : Option ByteArray} (h : DS w wr v s o vm u) (ho : wr.ownsRow (v + 1) 54 4 vm l.length (mvCells l)) :
    MS w (wr.alloc (.cells #[.int .i64 0, .int .i64 0, .int .i64 0, .int .i64 0] 54)) v s o vm l wr.heap.size 0 0 0 0 u :=
  ⟨h.grow ((Below.refl _ _).alloc (Nat.le_refl _) _), ho.alloc _, fun k hk => Nat.ne_of_lt (ho.lt k hk).2, lt_of_block h.rc, heap_alloc_new _ _⟩
theorem MS.call {w wr w5 : World} {v M : Nat} {s : ByteArray} {o : Rec} {vm : Value} {l : List Mv} {a b c d : Int} {u u' : Option ByteArray} (h : MS w wr v s o vm l M a b c d u) (hu : RKo w5 (w.heap.size + 1) s u') (hk : Kept (fun k => k ≠ w.heap.size + 1) wr w5) : MS w w5 v s o vm l M a b c d u' := by
  have h1 := h.ds.lt
  have h2 := h.gt
  exact ⟨h.ds.call hu hk, hk.owns h.own (fun k hk' => by have := (h.own.lt k hk').1; omega), h.ob, h.gt, hk.heap (by omega) h.mc⟩
theorem MS.set {w wr : World} {v M : Nat} {s : ByteArray} {o : Rec} {vm : Value} {l : List Mv} {a b c d : Int} {u : Option ByteArray} (h : MS w wr v s o vm l M a b c d u) (i : Nat) (x : Value) {a' b' c' d' : Int} (he : (#[Value.int .i64 a, .int .i64 b, .int .i64 c, .int .i64 d] : Array Value).setIfInBounds i x = #[.int .i64 a', .int .i64 b', .int .i64 c', .int .i64 d']) : MS w (wr.setCell ⟨M, i, none⟩ x) v s o vm l M a' b' c' d' u := by
  have hk : Kept (fun k => k ≠ M) wr (wr.setCell ⟨M, i, none⟩ x) := (Kept.refl _ _).setCell (by simp) _
  refine ⟨h.ds.side h.gt i x, hk.owns h.own (fun k hk' => h.ob k hk'), h.ob, h.gt, ?_⟩
  rw [← he]
  exact heap_setCell_same wr M i _ 54 x h.mc
theorem four_cells {w : World} {b : Nat} {x y z t : Value} {ty : TypeId} (h : w.heap[b]? = some (.cells #[x, y, z, t] ty (0, 0))) : w.cell? ⟨b, 0, none⟩ = some x ∧ w.cell? ⟨b, 1, none⟩ = some y ∧ w.cell? ⟨b, 2, none⟩ = some z ∧ w.cell? ⟨b, 3, none⟩ = some t := ⟨cell_of h 0, cell_of h 1, cell_of h 2, cell_of h 3⟩
theorem mvOne (a b c d : Int) (wr : World) : ∀ (j : Nat) (u : Value), (mvCells [Mv.mk a b c d])[j]? = some u → (wr.alloc (.cells #[.int .i64 a, .int .i64 b, .int .i64 c, .int .i64 d] 54)).cell? ((⟨wr.heap.size, 0, none⟩ : Addr).add j) = some u := by
  intro j u hj
  rw [addr_plus, Nat.zero_add, cell_of (heap_alloc_new _ _)]
  simpa [mvCells] using hj
theorem mvTwo (a b c d : Int) {wr : World} {g : Nat} (hg : g = wr.heap.size) : ∀ (j : Nat) (u : Value), (mvCells [Mv.mk a b c d])[j]? = some u → (wr.alloc (.cells #[.int .i64 a, .int .i64 b, .int .i64 c, .int .i64 d] 54)).cell? ((⟨g, 0, none⟩ : Addr).add j) = some u := by
  subst hg
  exact mvOne a b c d wr
/-- behind the append and the store of the row -/
theorem MS.put {w wr w5 : World} {v M : Nat} {s : ByteArray} {o : Rec} {vm v' : Value} {l : List Mv} {a b c d : Int} {u : Option ByteArray} (h : MS w wr v s o vm l M a b c d u)
    (hown : w5.ownsRow (v + 1) 54 4 v' (l.length + 1) (mvCells l ++ mvCells [Mv.mk a b c d])) (hg : (wr.alloc (.cells #[.int .i64 a, .int .i64 b, .int .i64 c, .int .i64 d] 54)).grownBy w5 vm.ownBlock) :
    w5.heap[v]? = some (.cells (recA o vm) 24 (0, 0)) ∧ DS w (w5.setCell ⟨v, 11, none⟩ v') v s o v' u ∧ (w5.setCell ⟨v, 11, none⟩ v').ownsRow (v + 1) 54 4 v' (l ++ [Mv.mk a b c d]).length (mvCells (l ++ [Mv.mk a b c d])) := by
  have hk : Kept (fun k => k ≤ v) wr w5 := (Kept.ofBelow ((Below.refl _ _).alloc (Nat.le_refl _) _) _).grown hg (fun k hk => by have := (h.own.lt k hk).1; omega)
  have h1 := h.ds.lt
  have d5 : DS w w5 v s o vm u := ⟨h1, hk.heap (by omega) h.ds.res, h.ds.un.keep hk (by omega), hk.heap (Nat.le_refl _) h.ds.rc, h.ds.below.trans (hk.toBelow h.ds.below.size (fun k hk' => by omega))⟩
  have d6 : DS w (w5.setCell ⟨v, 11, none⟩ v') v s o v' u := d5.set 11 v' rfl
  refine ⟨d5.rc, d6, ?_⟩
  rw [mvCells_snoc, List.length_append]
  exact ((Kept.refl (fun k => k ≠ v) w5).setCell (p := ⟨v, 11, none⟩) (by simp) v').owns hown (fun k hk' => by have := (hown.lt k hk').1; omega)
theorem decMoves_next (n : Nat) (l : List Mv) (u : Option ByteArray) : decMoves (n + 1) l u = decMoves n (l ++ [⟨numV u 2, numV (numO u 2) 2, numV (numO (numO u 2) 2) 2, numV (numO (numO (numO u 2) 2) 2) 2⟩]) (numO (numO (numO (numO u 2) 2) 2) 2) := rfl
theorem one_num (u : Option ByteArray) : 0 ≤ numV u 1 ∧ numV u 1 < 256 := by
  unfold numV
  split
  · next h =>
    have h1 := getI_bound (cutL (ukL u) 0 (1 : Int).toNat)
    have h2 : (0 : Nat) + 1 ≤ (ukL u).size := h.2.2.1
    have hl := cutL_length (ukL u) 0 1 h2
    rw [show (1 : Int).toNat = 1 from rfl] at h1 ⊢
    rw [hl] at h1
    exact ⟨h1.1, by simpa using h1.2⟩
  · exact ⟨by decide, by decide⟩
end Go.Proofs.Ythileemkiplodaa
