/- What the closure tells that makes the fields of kind 10. Conditions: what they captured lies where they were told. What the closure tells that makes the fields of kind 13. Conditions: what they captured lies where they were told. What the closure tells that makes the fields of kind 14. Conditions: what they captured lies where they were told. What the table of kinds is. No conditions. What a record's fields are, as descriptions: where each stands, within which bounds; what makes them, laid for the walks. No conditions. -/
import Derived.Test.YthileemkiplodaaGn
import Derived.Deep.RegionHeld3
import Derived.Laws.EntriesVeiled
import Derived.Test.YthileemkiplodaaGf
set_option linter.unusedVariables false
namespace Go.Proofs.Ythileemkiplodaa
open Go.RowKit
set_option maxRecDepth 20000

theorem data_at (q b : Nat) (least : Int) (w : World) (h : w.cell? ⟨q, 0, none⟩ = some (ptr b)) :
    Calls Try.prog 53 #[.int .i64 least, ptr q] w fun e w' => ∃ l, e = .returned (dataF b 8 l) ∧ w.heap.size ≤ l ∧ w'.cell? ⟨l, 0, none⟩ = some (.int .i64 least) ∧ Below w.heap.size w w' := by
  refine (data_any q b least w h).mono ?_
  rintro e w1 ⟨rfl, rfl⟩
  exact ⟨_, rfl, Nat.le_refl _, by simp, (Below.refl _ _).alloc (Nat.le_refl _) _⟩
theorem caps_start {w : World} {q h d : Nat} {x y z : Value} (h1 : w.cell? ⟨q, 0, none⟩ = some x) (h2 : w.cell? ⟨h, 0, none⟩ = some y) (h3 : w.cell? ⟨d, 0, none⟩ = some z) :
    w.drew.cell? ⟨q, 0, none⟩ = some x ∧ w.drew.cell? ⟨h, 0, none⟩ = some y ∧ w.drew.cell? ⟨d, 0, none⟩ = some z ∧ Below w.heap.size w w.drew := ⟨h1, h2, h3, (Below.refl _ _).drew⟩
theorem caps_keep {w w1 w2 : World} {q h d : Nat} {x y z : Value} (hb : Below w1.heap.size w1 w2) (H : w1.cell? ⟨q, 0, none⟩ = some x ∧ w1.cell? ⟨h, 0, none⟩ = some y ∧ w1.cell? ⟨d, 0, none⟩ = some z ∧ Below w.heap.size w w1) :
    w2.cell? ⟨q, 0, none⟩ = some x ∧ w2.cell? ⟨h, 0, none⟩ = some y ∧ w2.cell? ⟨d, 0, none⟩ = some z ∧ Below w.heap.size w w2 :=
  ⟨cellB hb (block_lt_of_cell H.1) H.1, cellB hb (block_lt_of_cell H.2.1) H.2.1, cellB hb (block_lt_of_cell H.2.2.1) H.2.2.1, H.2.2.2.trans (hb.mono H.2.2.2.size)⟩
set_option maxHeartbeats 4000000 in
theorem write_any (q b h d : Nat) (w : World) (hh : w.cell? ⟨h, 0, none⟩ = some (.func (.func 52) #[] #[ptr q])) (hd : w.cell? ⟨d, 0, none⟩ = some (.func (.func 53) #[] #[ptr q])) (hq : w.cell? ⟨q, 0, none⟩ = some (ptr b)) :
    Calls Try.prog 62 #[ptr h, ptr q, ptr d] w fun e w' => ∃ l v, e = .returned v ∧ OL w' w.heap.size v [numF b 6 4 0 16383, numF b 7 4 0 8192, dataF b 8 l] ∧ w'.cell? ⟨l, 0, none⟩ = some (.int .i64 1) ∧ w.heap.size ≤ l ∧ Below w.heap.size w w' := by
  have ch := fun w hq => handle_any q b w hq
  have cd := fun w hq => data_at q b 1 w hq
  have c2 := within_any b 7 4 0 8192
  unfold dataF numF at *
  go_enter Try.func62, Try.ntmps62
  go_wp2
  go_region_held3 (fun w' => w'.cell? ⟨q, 0, none⟩ = some (ptr b) ∧ w'.cell? ⟨h, 0, none⟩ = some (.func (.func 52) #[] #[ptr q]) ∧ w'.cell? ⟨d, 0, none⟩ = some (.func (.func 53) #[] #[ptr q]) ∧ Below w.heap.size w w') (first | exact caps_start hq hh hd | exact caps_keep hb1 (by assumption) | exact caps_keep ((Below.refl _ _).alloc (Nat.le_refl _) _) (by assumption))
    (first | (go_at_call 52; refine (ch _ (by exact hq)).mono ?_; rintro e w1 ⟨rfl, rfl⟩) | (go_at_call 53; refine (cd _ (by exact hq)).mono ?_; rintro e w1 ⟨l, rfl, hle, hcl, hb1⟩) | (go_at_call 41; refine (c2 _).mono ?_; rintro e w1 ⟨rfl, rfl⟩))
  go_wp2_with fail
  go_ret
  rename_i hS
  exact ⟨l, _, rfl, OL.new (M := #[_, _, _]) (heap_alloc_new _ _) (hb1.size) (Nat.le_of_ble_eq_true rfl), cell_new hcl _, hle, hS.2.2.2⟩
end Go.Proofs.Ythileemkiplodaa
namespace Go.Proofs.Ythileemkiplodaa
open Go.RowKit
set_option maxRecDepth 20000

theorem caps2_start {w : World} {q d b j : Nat} {x z v : Value} (h1 : w.cell? ⟨q, 0, none⟩ = some x) (h3 : w.cell? ⟨d, 0, none⟩ = some z) (h4 : w.cell? ⟨b, j, none⟩ = some v) :
    w.drew.cell? ⟨q, 0, none⟩ = some x ∧ w.drew.cell? ⟨d, 0, none⟩ = some z ∧ w.drew.cell? ⟨b, j, none⟩ = some v ∧ Below w.heap.size w w.drew := ⟨h1, h3, h4, (Below.refl _ _).drew⟩
theorem caps2_keep {w w1 w2 : World} {q d b j : Nat} {x z v : Value} (hb : Below w1.heap.size w1 w2) (H : w1.cell? ⟨q, 0, none⟩ = some x ∧ w1.cell? ⟨d, 0, none⟩ = some z ∧ w1.cell? ⟨b, j, none⟩ = some v ∧ Below w.heap.size w w1) :
    w2.cell? ⟨q, 0, none⟩ = some x ∧ w2.cell? ⟨d, 0, none⟩ = some z ∧ w2.cell? ⟨b, j, none⟩ = some v ∧ Below w.heap.size w w2 :=
  ⟨cellB hb (block_lt_of_cell H.1) H.1, cellB hb (block_lt_of_cell H.2.1) H.2.1, cellB hb (block_lt_of_cell H.2.2.1) H.2.2.1, H.2.2.2.trans (hb.mono H.2.2.2.size)⟩
set_option maxHeartbeats 4000000 in
theorem move_any (q b d : Nat) (x : ByteArray) (w : World) (hd : w.cell? ⟨d, 0, none⟩ = some (.func (.func 53) #[] #[ptr q])) (hq : w.cell? ⟨q, 0, none⟩ = some (ptr b)) (hx : w.cell? ⟨b, 8, none⟩ = some (.string x)) :
    Calls Try.prog 63 #[ptr q, ptr d] w fun e w' => ∃ l v, e = .returned v ∧ OL w' w.heap.size v [numF b 10 4 1 2147483647, mvsF b 11 x.size, dataF b 8 l] ∧ w'.cell? ⟨l, 0, none⟩ = some (.int .i64 0) ∧ w.heap.size ≤ l ∧ Below w.heap.size w w' := by
  have cd := fun w hq => data_at q b 0 w hq
  have c2 := within_any b 10 4 1 2147483647
  unfold dataF numF mvsF at *
  go_enter Try.func63, Try.ntmps63
  go_wp2
  go_region_held3 (fun w' => w'.cell? ⟨q, 0, none⟩ = some (ptr b) ∧ w'.cell? ⟨d, 0, none⟩ = some (.func (.func 53) #[] #[ptr q]) ∧ w'.cell? ⟨b, 8, none⟩ = some (.string x) ∧ Below w.heap.size w w') (first | exact caps2_start hq hd hx | exact caps2_keep hb1 (by assumption) | exact caps2_keep ((Below.refl _ _).alloc (Nat.le_refl _) _) (by assumption))
    (first | (go_at_call 53; refine (cd _ (by exact hq)).mono ?_; rintro e w1 ⟨l, rfl, hle, hcl, hb1⟩) | (go_at_call 41; refine (c2 _).mono ?_; rintro e w1 ⟨rfl, rfl⟩))
  go_wp2_with fail
  go_ret
  rename_i hS
  exact ⟨l, _, rfl, OL.new (M := #[_, _, _]) (heap_alloc_new _ _) (hb1.size) (Nat.le_of_ble_eq_true rfl), cell_new hcl _, hle, hS.2.2.2⟩
end Go.Proofs.Ythileemkiplodaa
namespace Go.Proofs.Ythileemkiplodaa
open Go.RowKit
set_option maxRecDepth 20000

set_option maxHeartbeats 4000000 in
theorem image_any (q b d : Nat) (x : ByteArray) (sz : Int) (w : World) (hd : w.cell? ⟨d, 0, none⟩ = some (.func (.func 53) #[] #[ptr q])) (hq : w.cell? ⟨q, 0, none⟩ = some (ptr b)) (hx : w.cell? ⟨b, 8, none⟩ = some (.string x)) (hz : w.cell? ⟨b, 5, none⟩ = some (.int .i64 sz)) :
    Calls Try.prog 64 #[ptr q, ptr d] w fun e w' => ∃ l v, e = .returned v ∧ OL w' w.heap.size v [dataF b 8 l, numF b 5 4 1 65536, numF b 7 4 0 (wrap64 (sz - x.size))] ∧ w'.cell? ⟨l, 0, none⟩ = some (.int .i64 1) ∧ w.heap.size ≤ l ∧ Below w.heap.size w w' := by
  have cd := fun w hq => data_at q b 1 w hq
  have c2 := within_any b 5 4 1 65536
  have c3 := within_any b 7 4 0 (wrap64 (sz - x.size))
  unfold dataF numF at *
  go_enter Try.func64, Try.ntmps64
  go_wp2
  go_quiet (fail)
  go_wp2_with fail
  generalize hw2 : w.drewN _ = w2
  have hq2 : w2.cell? ⟨q, 0, none⟩ = some (ptr b) := by rw [← hw2]; exact hq
  have hd2 : w2.cell? ⟨d, 0, none⟩ = some (.func (.func 53) #[] #[ptr q]) := by rw [← hw2]; exact hd
  have hx2 : w2.cell? ⟨b, 8, none⟩ = some (.string x) := by rw [← hw2]; exact hx
  have HB2 : Below w.heap.size w w2 := by rw [← hw2]; exact below_drewN (Below.refl _ _) _
  clear hw2 hq hd hx hz
  go_region_held3 (fun w' => w'.cell? ⟨q, 0, none⟩ = some (ptr b) ∧ w'.cell? ⟨d, 0, none⟩ = some (.func (.func 53) #[] #[ptr q]) ∧ w'.cell? ⟨b, 8, none⟩ = some (.string x) ∧ Below w.heap.size w w') (first | exact ⟨hq2, hd2, hx2, HB2.drew⟩ | assumption | exact caps2_keep hb1 (by assumption) | exact caps2_keep ((Below.refl _ _).alloc (Nat.le_refl _) _) (by assumption))
    (first | (go_at_call 53; refine (cd _ (by exact hq2)).mono ?_; rintro e w1 ⟨l, rfl, hle, hcl, hb1⟩) | (go_at_call 41; (with_reducible refine (c2 _).mono ?_); rintro e w1 ⟨rfl, rfl⟩) | (go_at_call 41; refine (c3 _).mono ?_; rintro e w1 ⟨rfl, rfl⟩))
  go_wp2_with fail
  go_ret
  rename_i hS
  exact ⟨l, _, rfl, OL.new (M := #[_, _, _]) (heap_alloc_new _ _) (Nat.le_trans HB2.size hb1.size) (Nat.le_of_ble_eq_true rfl), cell_new hcl _, Nat.le_trans HB2.size hle, hS.2.2.2⟩
end Go.Proofs.Ythileemkiplodaa
namespace Go.Proofs.Ythileemkiplodaa
open Go.RowKit
set_option maxRecDepth 20000

def oneFn (q : Nat) : Value := .func (.func 55) #[] #[ptr q]
def handleFn (q : Nat) : Value := .func (.func 52) #[] #[ptr q]
def dataFn (q : Nat) : Value := .func (.func 53) #[] #[ptr q]
/-- the table of kinds, over the block of the pointer to the record and those of three closures -/
def kindsA (q h d r : Nat) : Array Value := #[.nilFunc, oneFn q, oneFn q, oneFn q, .func (.func 57) #[] #[ptr r, ptr q], oneFn q, .func (.func 57) #[] #[ptr r, ptr q], .func (.func 60) #[] #[ptr r, ptr q], oneFn q,
  .func (.func 61) #[] #[ptr h], .func (.func 62) #[] #[ptr h, ptr q, ptr d], .func (.func 58) #[] #[ptr q], .func (.func 58) #[] #[ptr q], .func (.func 63) #[] #[ptr q, ptr d], .func (.func 64) #[] #[ptr q, ptr d]]
theorem sz_alloc (w : World) (x : Obj) : (w.alloc x).heap.size = w.heap.size + 1 := by simp
theorem sz_set (w : World) (p : Addr) (v : Value) : (w.setCell p v).heap.size = w.heap.size := by simp
theorem third_new {w : World} {n k : Nat} (hn : w.heap.size = n) (x : Obj) (h : n = k) : (w.alloc x).heap[k]? = some x := by
  subst h
  rw [← hn]
  exact heap_alloc_new w x
theorem five_heap (w : World) (x0 x1 x2 x3 x4 : Obj) : let W := ((((w.alloc x0).alloc x1).alloc x2).alloc x3).alloc x4
    W.heap[w.heap.size]? = some x0 ∧ W.heap[w.heap.size + 1]? = some x1 ∧ W.heap[w.heap.size + 1 + 1]? = some x2 ∧ W.heap[w.heap.size + 1 + 1 + 1]? = some x3 ∧ W.heap[w.heap.size + 1 + 1 + 1 + 1]? = some x4 ∧ Below w.heap.size w W := by
  intro W
  refine ⟨?_, ?_, ?_, ?_, ?_, ?_⟩
  · exact heap_past (heap_past (heap_past (heap_past (heap_alloc_new w x0) x1) x2) x3) x4
  · exact heap_past (heap_past (heap_past (third_new (n := w.heap.size + 1) (sz_alloc _ _) x1 rfl) x2) x3) x4
  · exact heap_past (heap_past (third_new (n := w.heap.size + 1 + 1) (by rw [sz_alloc, sz_alloc]) x2 rfl) x3) x4
  · exact heap_past (third_new (n := w.heap.size + 1 + 1 + 1) (by rw [sz_alloc, sz_alloc, sz_alloc]) x3 rfl) x4
  · exact third_new (n := w.heap.size + 1 + 1 + 1 + 1) (by rw [sz_alloc, sz_alloc, sz_alloc, sz_alloc]) x4 rfl
  · exact (((((Below.refl _ w).alloc (Nat.le_refl _) _).alloc (by simp) _).alloc (by simp; omega) _).alloc (by simp; omega) _).alloc (by simp; omega) _
set_option maxHeartbeats 4000000 in
theorem kinds_any (b : Nat) (w : World) :
    Calls Try.prog 40 #[ptr b] w fun e w' => ∃ q h d r, e = .returned (.agg (kindsA q h d r)) ∧ w'.cell? ⟨q, 0, none⟩ = some (ptr b) ∧ w'.cell? ⟨h, 0, none⟩ = some (handleFn q) ∧ w'.cell? ⟨d, 0, none⟩ = some (dataFn q) ∧ w'.cell? ⟨r, 0, none⟩ = some (oneFn q) ∧ Below w.heap.size w w' := by
  obtain ⟨n, hn⟩ : ∃ n, n = w.heap.size := ⟨_, rfl⟩
  have H3 : ∀ x y, (((w.alloc x).alloc y).alloc (.cells #[.nilFunc] 97)).heap[n + 1 + 1]? = some (.cells #[.nilFunc] 97 (0, 0)) := fun x y => hn ▸ third_heap w x y _
  have c3 : ∀ x y, (((w.alloc x).alloc y).alloc (.cells #[.nilFunc] 97)).cell? ⟨n + 1 + 1, 0, none⟩ = some .nilFunc := fun x y => cell_of (H3 x y) 0
  have f3 : ∀ x y, (((w.alloc x).alloc y).alloc (.cells #[.nilFunc] 97)).frozen? ⟨n + 1 + 1, 0, none⟩ = false := fun x y => free_of (H3 x y) 0
  have H4 : ∀ x y v, ((((((w.alloc x).alloc y).alloc (.cells #[.nilFunc] 97)).setCell ⟨n + 1 + 1, 0, none⟩ v).alloc (.cells #[.nilFunc] 101))).heap[n + 1 + 1 + 1]? = some (.cells #[.nilFunc] 101 (0, 0)) := fun x y v => third_new (n := n + 1 + 1 + 1) (by rw [sz_set, sz_alloc, sz_alloc, sz_alloc, hn]) _ rfl
  have c4 : ∀ x y v, ((((((w.alloc x).alloc y).alloc (.cells #[.nilFunc] 97)).setCell ⟨n + 1 + 1, 0, none⟩ v).alloc (.cells #[.nilFunc] 101))).cell? ⟨n + 1 + 1 + 1, 0, none⟩ = some .nilFunc := fun x y v => cell_of (H4 x y v) 0
  have f4 : ∀ x y v, ((((((w.alloc x).alloc y).alloc (.cells #[.nilFunc] 97)).setCell ⟨n + 1 + 1, 0, none⟩ v).alloc (.cells #[.nilFunc] 101))).frozen? ⟨n + 1 + 1 + 1, 0, none⟩ = false := fun x y v => free_of (H4 x y v) 0
  have H5 : ∀ x y v u, ((((((((w.alloc x).alloc y).alloc (.cells #[.nilFunc] 97)).setCell ⟨n + 1 + 1, 0, none⟩ v).alloc (.cells #[.nilFunc] 101))).setCell ⟨n + 1 + 1 + 1, 0, none⟩ u).alloc (.cells #[.nilFunc] 69)).heap[n + 1 + 1 + 1 + 1]? = some (.cells #[.nilFunc] 69 (0, 0)) := fun x y v u => third_new (n := n + 1 + 1 + 1 + 1) (by rw [sz_set, sz_alloc, sz_set, sz_alloc, sz_alloc, sz_alloc, hn]) _ rfl
  have c5 : ∀ x y v u, ((((((((w.alloc x).alloc y).alloc (.cells #[.nilFunc] 97)).setCell ⟨n + 1 + 1, 0, none⟩ v).alloc (.cells #[.nilFunc] 101))).setCell ⟨n + 1 + 1 + 1, 0, none⟩ u).alloc (.cells #[.nilFunc] 69)).cell? ⟨n + 1 + 1 + 1 + 1, 0, none⟩ = some .nilFunc := fun x y v u => cell_of (H5 x y v u) 0
  have f5 : ∀ x y v u, ((((((((w.alloc x).alloc y).alloc (.cells #[.nilFunc] 97)).setCell ⟨n + 1 + 1, 0, none⟩ v).alloc (.cells #[.nilFunc] 101))).setCell ⟨n + 1 + 1 + 1, 0, none⟩ u).alloc (.cells #[.nilFunc] 69)).frozen? ⟨n + 1 + 1 + 1 + 1, 0, none⟩ = false := fun x y v u => free_of (H5 x y v u) 0
  have H6 : ∀ x y v u t, (((((((((w.alloc x).alloc y).alloc (.cells #[.nilFunc] 97)).setCell ⟨n + 1 + 1, 0, none⟩ v).alloc (.cells #[.nilFunc] 101))).setCell ⟨n + 1 + 1 + 1, 0, none⟩ u).alloc (.cells #[.nilFunc] 69)).setCell ⟨n + 1 + 1 + 1 + 1, 0, none⟩ t).heap[n + 1 + 1 + 1 + 1]? = some (.cells #[t] 69 (0, 0)) := fun x y v u t => heap_setCell_same _ _ 0 #[.nilFunc] _ _ (H5 x y v u)
  have c6 : ∀ x y v u t, (((((((((w.alloc x).alloc y).alloc (.cells #[.nilFunc] 97)).setCell ⟨n + 1 + 1, 0, none⟩ v).alloc (.cells #[.nilFunc] 101))).setCell ⟨n + 1 + 1 + 1, 0, none⟩ u).alloc (.cells #[.nilFunc] 69)).setCell ⟨n + 1 + 1 + 1 + 1, 0, none⟩ t).cell? ⟨n + 1 + 1 + 1 + 1, 0, none⟩ = some t := fun x y v u t => cell_of (H6 x y v u t) 0
  clear H3 H4 H5 H6
  subst hn
  go_enter Try.func40, Try.ntmps40
  go_wp2
  have HF := five_heap w (.cells #[ptr b] 44) (.cells (kindsA w.heap.size (w.heap.size + 1 + 1) (w.heap.size + 1 + 1 + 1) (w.heap.size + 1 + 1 + 1 + 1)) 70) (.cells #[handleFn w.heap.size] 97) (.cells #[dataFn w.heap.size] 101) (.cells #[oneFn w.heap.size] 69)
  obtain ⟨g0, g1, g2, g3, g4, hb⟩ := HF
  exact bodyPost_ret_by (results_cell_row (by rfl) _ _ (w.heap.size + 1) 70 (kindsA w.heap.size (w.heap.size + 1 + 1) (w.heap.size + 1 + 1 + 1) (w.heap.size + 1 + 1 + 1 + 1)) (0, 0) _ rfl g1 Try.underlying70 rfl (by kernel_rfl)) rfl ⟨_, _, _, _, rfl, cell_of g0 0, cell_of g2 0, cell_of g3 0, cell_of g4 0, hb⟩
end Go.Proofs.Ythileemkiplodaa
namespace Go.Proofs.Ythileemkiplodaa
open Go.RowKit
set_option maxRecDepth 20000

/-- a field of a record that stands in block b: a number, a tick, a path, data of so many bytes at least (which stands in block l), the moves of so much data -/
inductive Fd where
  | num (j : Nat) (n lo hi : Int)
  | tick (j : Nat) (n lo hi : Int)
  | path (j : Nat)
  | data (j l : Nat) (least : Int)
  | mvs (j : Nat) (d : Int)
def Fd.val (b : Nat) : Fd → Value
  | .num j n lo hi => numF b j n lo hi
  | .tick j n lo hi => tickF b j n lo hi
  | .path j => pathF b j
  | .data j l _ => dataF b j l
  | .mvs j d => mvsF b j d
/-- the fields of a kind -/
def kindD (l : Nat) (k sz : Int) (len : Nat) : List Fd :=
  if k = 1 ∨ k = 2 ∨ k = 3 ∨ k = 5 ∨ k = 8 then [.path 3]
  else if k = 4 ∨ k = 6 then [.path 3, .path 4]
  else if k = 7 then [.path 3, .num 5 4 0 8192]
  else if k = 9 then [.num 6 4 0 16383]
  else if k = 10 then [.num 6 4 0 16383, .num 7 4 0 8192, .data 8 l 1]
  else if k = 11 ∨ k = 12 then [.tick 9 8 0 1099511627776]
  else if k = 13 then [.num 10 4 1 2147483647, .mvs 11 len, .data 8 l 0]
  else if k = 14 then [.data 8 l 1, .num 5 4 1 65536, .num 7 4 0 (wrap64 (sz - len))]
  else []
def headD : List Fd := [.num 0 1 0 7, .num 1 4 1 2147483647]
/-- what a maker of fields tells: a list of them in memory of its own -/
def FoTells (w : World) (b : Nat) (D : Nat → List Fd) (e : Ending) (w' : World) : Prop :=
  ∃ l v, e = .returned (.tuple #[v, .bool true]) ∧ OL w' w.heap.size v ((D l).map (Fd.val b)) ∧ (∀ j l' x, Fd.data j l' x ∈ D l → w'.cell? ⟨l', 0, none⟩ = some (.int .i64 x) ∧ w.heap.size ≤ l') ∧ Below w.heap.size w w'
theorem kindsA_size (q h d r : Nat) : (kindsA q h d r).size = 15 := rfl
theorem kindsA_one (q h d r : Nat) : (kindsA q h d r).all (·.oneCell') = true := by
  rw [Array.all_eq_true']
  intro v hv
  simp only [kindsA, oneFn, List.mem_toArray, List.mem_cons, List.not_mem_nil, or_false] at hv
  rcases hv with rfl | rfl | rfl | rfl | rfl | rfl | rfl | rfl | rfl | rfl | rfl | rfl | rfl | rfl | rfl <;> rfl
theorem OL.kept {S : Nat → Prop} {w w' : World} {base : Nat} {v : Value} {L : List Value} (h : OL w base v L) (hk : Kept S w w') (hs : ∀ k, v.ownBlock = some k → S k) : OL w' base v L := hk.owns h hs
theorem OL.below {w w' : World} {base : Nat} {v : Value} {L : List Value} (h : OL w base v L) (hb : Below w.heap.size w w') : OL w' base v L := h.kept (Kept.ofBelow hb (fun _ => True)) (fun _ _ => trivial)
/-- append(l, m...) of fields, both in memory of the call's own -/
theorem wpList_append_ol {ops : Array Oper} {rest : List Oper} {o : Oper} {a : Act} {w : World} {Q : Exit → Act → World → Prop} (hgd : o.guard = none) (s x : Operand)
    (ho : o.op = .call { callee := .builtin .append, args := #[s, x], argTypes := #[41, 41] }) (base base2 : Nat) (v v2 : Value) (L M : List Value) (hs : a.eval s = v) (hown : OL w base v L)
    (hx : a.eval x = v2) (hM : OL w base2 v2 M) (hne : M ≠ []) (h1 : ∀ u ∈ M, u.oneCell' = true) (hl : L.length + M.length ≤ 1000000) (hB : base ≤ w.heap.size)
    (h : ∀ v' w', OL w' base v' (L ++ M) → w.grownBy w' v.ownBlock → wpList Try.prog ops Q rest (a.put o.dst v') w') : wpList Try.prog ops Q (o :: rest) a w := by
  rcases hM.2 with ⟨rfl, h0⟩ | ⟨g, cap, cur, rfl, hbg, hh, hnc, _, hcs, ht⟩
  · exact absurd (List.eq_nil_of_length_eq_zero (by simpa using h0)) hne
  · exact wpList_append_fields hgd s x ho base v L M hs hown ⟨g, 0, none⟩ cap hx (World.ownsRow.cells hM rfl) h1 hl hB h
end Go.Proofs.Ythileemkiplodaa
