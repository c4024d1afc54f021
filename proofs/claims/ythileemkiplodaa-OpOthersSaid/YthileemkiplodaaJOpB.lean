/- What the statements' own small function CopyOp returns: the record, its moves in memory of its own. Conditions: at most 1000000 moves. -/
import Derived.Test.YthileemkiplodaaGf
import Derived.Test.YthileemkiplodaaJFields
import Derived.Test.YthileemkiplodaaJKept
import Derived.Laws.AppendOwn
import Derived.Laws.AppendOwnNone
import Derived.Laws.Rows
import Derived.Laws.Tables
import Derived.Laws.CopyOwn
set_option linter.unusedVariables false
namespace Go.Proofs.Ythileemkiplodaa
open Go.RowKit
set_option maxRecDepth 20000

def mvCells : List Mv → List Value
  | [] => []
  | m :: l => .int .i64 m.addr :: .int .i64 m.src :: .int .i64 m.len :: .int .i64 m.dst :: mvCells l
theorem mvCells_length (L : List Mv) : (mvCells L).length = L.length * 4 := by
  induction L with
  | nil => rfl
  | cons m l ih => simp only [mvCells, List.length_cons, ih]; omega
theorem mvCells_get (L : List Mv) (i : Nat) (h : i < L.length) : (mvCells L)[i * 4]? = some (.int .i64 L[i].addr) ∧ (mvCells L)[i * 4 + 1]? = some (.int .i64 L[i].src) ∧ (mvCells L)[i * 4 + 2]? = some (.int .i64 L[i].len) ∧ (mvCells L)[i * 4 + 3]? = some (.int .i64 L[i].dst) := by
  induction L generalizing i with
  | nil => exact absurd h (Nat.not_lt_zero i)
  | cons m l ih =>
    cases i with
    | zero => exact ⟨rfl, rfl, rfl, rfl⟩
    | succ i =>
      have := ih i (by simpa using h)
      simp only [mvCells, List.getElem_cons_succ]
      rw [show (i + 1) * 4 = i * 4 + 1 + 1 + 1 + 1 by omega, show i * 4 + 1 + 1 + 1 + 1 + 1 = i * 4 + 1 + 1 + 1 + 1 + 1 from rfl]
      simp only [List.getElem?_cons_succ]
      exact this
theorem mvCells_one (L : List Mv) : ∀ u ∈ mvCells L, u.oneCell' = true := by
  induction L with
  | nil => intro u hu; cases hu
  | cons m l ih =>
    intro u hu
    simp only [mvCells, List.mem_cons] at hu
    rcases hu with rfl | rfl | rfl | rfl | hu
    · rfl
    · rfl
    · rfl
    · rfl
    · exact ih u hu
/-- the row at ao holds the moves, and a slice that is nil has no room -/
def VLI (w : World) (ao : Option Addr) (cap : Nat) (L : List Mv) : Prop := VL w ao L ∧ (ao = none → cap = 0)
theorem VL.news {w : World} {ad : Addr} {L : List Mv} (h : VL w (some ad) L) : ∀ (j : Nat) (u : Value), (mvCells L)[j]? = some u → w.cell? (ad.add j) = some u := by
  intro j u hj
  have hl : j < L.length * 4 := by
    rw [← mvCells_length]
    rcases Nat.lt_or_ge j (mvCells L).length with h' | h'
    · exact h'
    · rw [List.getElem?_eq_none h'] at hj; cases hj
  obtain ⟨q, r, hr, rfl⟩ : ∃ q r, r < 4 ∧ j = q * 4 + r := ⟨j / 4, j % 4, Nat.mod_lt _ (by decide), by omega⟩
  obtain ⟨bk, off, e, h0, h1, h2, h3⟩ := h q (by omega)
  obtain ⟨g0, g1, g2, g3⟩ := mvCells_get L q (by omega)
  cases e
  rw [addr_plus]
  rcases (by omega : r = 0 ∨ r = 1 ∨ r = 2 ∨ r = 3) with rfl | rfl | rfl | rfl
  · rw [Nat.add_zero] at hj ⊢; rw [g0] at hj; cases hj; exact h0
  · rw [g1] at hj; cases hj; rw [← Nat.add_assoc]; exact h1
  · rw [g2] at hj; cases hj; rw [← Nat.add_assoc]; exact h2
  · rw [g3] at hj; cases hj; rw [← Nat.add_assoc]; exact h3
theorem VL.ofOwn {w : World} {base n : Nat} {e : TypeId} {v : Value} {L : List Mv} (h : w.ownsRow base e 4 v n (mvCells L)) (hn : n = L.length) : ∃ ao cap, v = .slice ao L.length cap ∧ VLI w ao cap L ∧ L.length ≤ cap ∧ ∀ a, ao = some a → base ≤ a.block := by
  subst hn
  rcases h.2 with ⟨rfl, h0⟩ | ⟨g, cap, cur, rfl, hbg, hh, hnc, _, hcs, ht⟩
  · have : L = [] := List.eq_nil_of_length_eq_zero (by simpa using h0)
    subst this
    exact ⟨none, 0, rfl, ⟨VL.nil _ _, fun _ => rfl⟩, Nat.le_refl _, fun _ e => by cases e⟩
  · refine ⟨some ⟨g, 0, none⟩, cap, rfl, ⟨fun i hi => ⟨g, 0, rfl, ?_⟩, fun e => by cases e⟩, hnc, fun _ e => by cases e; exact hbg⟩
    obtain ⟨g0, g1, g2, g3⟩ := mvCells_get L i hi
    have at' : ∀ j v, j < L.length * 4 → (mvCells L)[j]? = some v → w.cell? ⟨g, 0 + j, none⟩ = some v := by
      intro j v hj hv
      rw [← ht, List.getElem?_take, if_pos hj] at hv
      rw [Nat.zero_add, cell_of hh]
      simpa using hv
    rw [Nat.add_assoc, Nat.add_assoc, Nat.add_assoc]
    exact ⟨at' _ _ (by omega) g0, at' _ _ (by omega) g1, at' _ _ (by omega) g2, at' _ _ (by omega) g3⟩
theorem VL.keep {S : Nat → Prop} {w w' : World} {ao : Option Addr} {L : List Mv} (h : VL w ao L) (hk : Kept S w w') (hs : ∀ a, ao = some a → S a.block) : VL w' ao L := by
  intro i hi
  obtain ⟨bk, off, rfl, h2, h3, h4, h5⟩ := h i hi
  have hb := hk.block bk (hs _ rfl) (block_lt_of_cell h2)
  have at' : ∀ j v, w.cell? ⟨bk, j, none⟩ = some v → w'.cell? ⟨bk, j, none⟩ = some v := fun j v hv => (World.cell?_of_block hb).trans hv
  exact ⟨bk, off, rfl, at' _ _ h2, at' _ _ h3, at' _ _ h4, at' _ _ h5⟩
theorem mv_info : (Try.prog.info? 54).map (fun i => (i.zero, i.size, i.bytes)) = some (some (.agg #[.int .i64 0, .int .i64 0, .int .i64 0, .int .i64 0]), 4, 32) := by kernel_rfl
/-- append([]api.Move{}, l...): the copy of a list that a call makes for itself -/
theorem wpList_copy_moves {ops : Array Oper} {rest : List Oper} {o : Oper} {a : Act} {w : World} {Q : Exit → Act → World → Prop} (hgd : o.guard = none) (s x : Operand)
    (ho : o.op = .call { callee := .builtin .append, args := #[s, x], argTypes := #[22, 22] }) (g : Nat) (hs : a.eval s = .slice (some ⟨g, 0, none⟩) 0 0) (hg : w.heap[g]? = some (.cells #[] 54 (0, 0)))
    (ao : Option Addr) (cap : Nat) (L : List Mv) (hx : a.eval x = .slice ao L.length cap) (hL : VLI w ao cap L) (hl : L.length ≤ 1000000) (B : Nat) (w0 : World) (hB : B ≤ g) (hb : Below B w0 w)
    (h : ∀ ao' cap' w', VLI w' ao' cap' L → Below B w0 w' → Kept (fun k => k ≠ g) w w' → (∀ a, ao' = some a → B ≤ a.block) → wpList Try.prog ops Q rest (a.put o.dst (.slice ao' L.length cap')) w') : wpList Try.prog ops Q (o :: rest) a w := by
  obtain ⟨i0, hi, hz0, hz1, hz2⟩ : ∃ i, Try.prog.info? 54 = some i ∧ i.zero = some (.agg #[.int .i64 0, .int .i64 0, .int .i64 0, .int .i64 0]) ∧ i.size = 4 ∧ i.bytes = 32 := by
    obtain ⟨i, h1, h2⟩ := Option.map_eq_some_iff.1 mv_info
    simp only [Prod.mk.injEq] at h2
    exact ⟨i, h1, h2.1, h2.2.1, h2.2.2⟩
  have hlt := lt_of_block hg
  have hown : w.ownsRow B 54 4 (.slice (some ⟨g, 0, none⟩) 0 0) 0 [] := ⟨by simp, .inr ⟨g, 0, #[], rfl, hB, hg, Nat.le_refl _, Nat.zero_le _, by simp, by simp⟩⟩
  cases ao with
  | none =>
    have hc := hL.2 rfl
    have hn : L = [] := by
      cases L with
      | nil => rfl
      | cons y l => obtain ⟨_, _, h1, _⟩ := hL.1 0 (by simp); cases h1
    subst hc hn
    exact wpList_append_own_none hgd s x 22 ho B 54 i0 4 Try.underlying22 hi _ 0 [] hs hown hx (h _ _ _ ⟨VL.nil _ _, fun e => by cases e⟩ hb (Kept.refl _ _) (fun _ e => by cases e; exact hB))
  | some ad =>
    refine wpList_append_own w hgd s x 22 ho B 54 i0 _ 4 32 Try.underlying22 hi hz0 hz1 hz2 rfl (by decide) _ 0 [] hs hown ad L.length cap (mvCells L) hx (mvCells_length L) hL.1.news (mvCells_one L) (by unfold maxLen; omega) (by omega) (Nat.le_trans hB (Nat.le_of_lt hlt)) ?_
    intro v' w' hown' hgrow _
    rw [List.nil_append] at hown'
    obtain ⟨ao', cap', rfl, hsl, _, hbs⟩ := VL.ofOwn hown' (by omega)
    exact h ao' cap' w' hsl (hb.grown hgrow (Nat.le_trans hB (Nat.le_of_lt hlt)) (fun k hk => by cases hk; exact hB)) ((Kept.refl _ _).grown hgrow (fun k hk => by cases hk; simp)) hbs
theorem recA_size (o : Rec) (mv : Value) : (recA o mv).size = 12 := rfl
theorem rec_info (o : Rec) (mv : Value) : (Try.prog.info? 24).map (·.size) = some (recA o mv).size := by rw [recA_size]; kernel_rfl
theorem rec_one (o : Rec) (ao : Option Addr) (n cap : Nat) : (recA o (.slice ao n cap)).all (·.oneCell') = true := by
  rw [Array.all_eq_true']
  intro v hv
  simp only [recA, List.mem_toArray, List.mem_cons, List.not_mem_nil, or_false] at hv
  rcases hv with rfl | rfl | rfl | rfl | rfl | rfl | rfl | rfl | rfl | rfl | rfl | rfl <;> rfl
/-- a record is what a cell of a result holds -/
theorem rec_ret {fn : Func} {p : Tmp} (h : fn.results = #[.cell p 24]) {a : Act} {w : World} {g : Nat} {o : Rec} {mv : Value} {R : Ending → World → Prop}
    (hg : w.heap[g]? = some (.cells (recA o mv) 24 (0, 0))) (hp : a.tmps.getD p undef = .pointer (some ⟨g, 0, none⟩)) (hd : a.defers = [])
    (hR : R (.returned (.agg (recA o mv))) w) : bodyPost Try.prog fn R .ret a w :=
  bodyPost_ret (results_cell_row h a.tmps w g 24 (recA o mv) (0, 0) _ hp hg Try.underlying24 rfl (rec_info o mv)) hd hR
/-- what is handed back is the record o, its moves in a row, in memory beside what was there -/
def Tells (w : World) (o : Rec) (e : Ending) (w' : World) : Prop := ∃ ao cap, e = .returned (.agg (recA o (.slice ao o.moves.length cap))) ∧ VLI w' ao cap o.moves ∧ Below w.heap.size w w'
theorem VLI.below {w w' : World} {ao : Option Addr} {cap : Nat} {L : List Mv} (h : VLI w ao cap L) (hb : Below w.heap.size w w') : VLI w' ao cap L := ⟨h.1.below hb, h.2⟩
theorem heap_other (w : World) (b c i : Nat) (v : Value) (h : b ≠ c) : (w.setCell ⟨b, i, none⟩ v).heap[c]? = w.heap[c]? := Below.heap_setCell _ _ _ _ (fun e => h e.symm)
theorem rec_set {w : World} {b n : Nat} {o : Rec} {mv : Value} (h : w.heap[b]? = some (.cells (recA o mv) 24 (0, 0))) (ao : Option Addr) (cap : Nat) : (w.setCell ⟨b, 11, none⟩ (.slice ao n cap)).heap[b]? = some (.cells (recA o (.slice ao n cap)) 24 (0, 0)) :=
  heap_setCell_same w b 11 (recA o mv) 24 (.slice ao n cap) h
theorem third_heap (w : World) (x y z : Obj) : (((w.alloc x).alloc y).alloc z).heap[w.heap.size + 2]? = some z := by
  have := heap_alloc_new ((w.alloc x).alloc y) z
  rwa [show ((w.alloc x).alloc y).heap.size = w.heap.size + 2 by simp] at this
theorem second_heap (w : World) (x y z : Obj) : (((w.alloc x).alloc y).alloc z).heap[w.heap.size + 1]? = some y := by
  have h := heap_alloc_new (w.alloc x) y
  rw [show (w.alloc x).heap.size = w.heap.size + 1 by simp] at h
  exact below_heap ((Below.refl _ _).alloc (Nat.le_refl _) _) h
theorem first_heap (w : World) (x y z : Obj) : (((w.alloc x).alloc y).alloc z).heap[w.heap.size]? = some x :=
  below_heap ((Below.refl _ _).alloc (Nat.le_refl _) _) (below_heap ((Below.refl _ _).alloc (Nat.le_refl _) _) (heap_alloc_new w x))
set_option maxHeartbeats 1000000 in
theorem copy_any (o : Rec) (ao : Option Addr) (cap : Nat) (w : World) (h : VLI w ao cap o.moves) (hl : o.moves.length ≤ 1000000) :
    Calls Try.prog 10 #[.agg (recA o (.slice ao o.moves.length cap))] w (Tells w o) := by
  have HV := Lib.hid (fun (x y z : Obj) => show VLI (((w.alloc x).alloc y).alloc z) ao cap o.moves from h.below ((((Below.refl _ _).alloc (Nat.le_refl _) _).alloc (by simp) _).alloc (by simp; omega) _))
  have HB := Lib.hid (fun (x y z : Obj) => show Below w.heap.size w (((w.alloc x).alloc y).alloc z) from (((Below.refl _ _).alloc (Nat.le_refl _) _).alloc (by simp) _).alloc (by simp; omega) _)
  have HB2 := Lib.hid (fun (x y z : Obj) => show Below (w.heap.size + 2) ((w.alloc x).alloc y) (((w.alloc x).alloc y).alloc z) from (Below.refl _ _).alloc (by simp) _)
  have HB3 := Lib.hid (fun (x y : Obj) (w1 : World) (hb : Below (w.heap.size + 2) ((w.alloc x).alloc y) w1) => show Below w.heap.size w w1 from (((Below.refl _ _).alloc (Nat.le_refl _) _).alloc (by simp) _).trans (hb.mono (by omega)))
  have HL := Lib.hid hl
  clear hl h
  go_enter Try.func10, Try.ntmps10
  unfold recA
  go_wp2_with (first | (refine wpList_copy_moves (o := ⟨some 6, _, _, _, _, _⟩) ?c1 (.tmp 3) (.tmp 5) ?c2 (w.heap.size + 2) ?c3 (third_heap w _ _ _) ao cap o.moves ?c4 (HV.out _ _ _) HL.out (w.heap.size + 2) ((w.alloc _).alloc _) (Nat.le_refl _) (HB2.out _ _ _) ?c5; (case c1 => rfl); (case c2 => rfl); (case c3 => rfl); (case c4 => rfl); intro ao1 cap1 w1 hv1 hb1 hk1 hbs; have hf := hk1.heap (by simp) (first_heap w _ _ _); have hg := hk1.heap (by simp) (second_heap w _ _ _); have c11 := cell_of hf 11; have f11 := free_of hf 11; have HF := Lib.hid (rec_set (o := o) (n := o.moves.length) hf ao1 cap1); have HG := Lib.hid ((heap_other w1 w.heap.size (w.heap.size + 1) 11 (.slice ao1 o.moves.length cap1) (by omega)).trans hg); clear hf hg hk1) | (refine wpList_load_row (o := ⟨some 8, _, _, _, _, _⟩) ?d1 24 (.tmp 1) ?d2 w.heap.size ?d3 24 (recA o (.slice ao1 o.moves.length cap1)) (0, 0) _ HF.out Try.underlying24 rfl (rec_info _ _) ?d4; (case d1 => rfl); (case d2 => rfl); (case d3 => rfl)) | (refine wpList_store_row (o := ⟨none, _, _, _, _, _⟩) ?e1 24 (.tmp 2) (.tmp 8) ?e2 (w.heap.size + 1) (recA o (.slice ao1 o.moves.length cap1)) ?e3 ?e4 24 (recA rec0 (.slice none 0 0)) HG.out (rec_info _ _) rfl (rec_one _ _ _ _) ?e5; (case e1 => rfl); (case e2 => rfl); (case e3 => rfl); (case e4 => rfl)))
  have hb2 := HB3.out _ _ _ hb1
  refine rec_ret rfl (setRow_heap _ _ _ _ _ _ HG.out) rfl rfl ⟨ao1, cap1, rfl, ⟨hv1.1.keep ((((Kept.refl (fun k => w.heap.size + 2 ≤ k) w1).setCell (p := ⟨w.heap.size, 11, none⟩) (by simp) _)).trans ⟨rfl, rfl, rfl, by simp, fun k hk _ => setRow_other _ _ _ _ (by omega)⟩) hbs, hv1.2⟩, below_setRow (hb2.setCell (p := ⟨w.heap.size, 11, none⟩) (Nat.le_refl _) _) (by omega) _⟩
end Go.Proofs.Ythileemkiplodaa
