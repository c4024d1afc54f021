/- What is packed of the moves of a record. Conditions: the moves lie where the call was told, the packer's own memory beside them. What is taken into the moves of a record. Conditions: the unpacker is as told, the record's block beside it; the text is no longer than 2^40 bytes. What take of the moves of a record does. Conditions: the unpacker is as told, the record's block beside it; the text is no longer than 2^40 bytes. -/
import Derived.Test.YthileemkiplodaaGy
import Derived.Test.YthileemkiplodaaGi
import Derived.Test.YthileemkiplodaaGw
import Derived.Laws.MakeOwn
import Derived.Deep.RegionHeld3
set_option linter.unusedVariables false
namespace Go.Proofs.Ythileemkiplodaa
open Go.RowKit
set_option maxRecDepth 20000

theorem PKs.all {S : Nat → Prop} {w w' : World} {b : Nat} {t : St} (h : PKs S w b t) (hb : Below w.heap.size w w') : PKs (fun k => S k ∨ (w.heap.size ≤ k ∧ k < w'.heap.size)) w' b t := by
  obtain ⟨h1, h2, v, h3, h4, h5⟩ := h
  have hl := lt_of_block h3
  refine ⟨fun k hk => ?_, fun hk => ?_, v, below_heap hb h3, (Kept.ofBelow hb (fun _ => True)).owns h4 (fun _ _ => trivial), fun k hk => ⟨fun hs => ?_, (h5 k hk).2⟩⟩
  · rcases hk with hk | hk
    · exact Nat.lt_of_lt_of_le (h1 k hk) hb.size
    · exact hk.2
  · rcases hk with hk | hk
    · exact h2 hk
    · omega
  · rcases hs with hs | hs
    · exact (h5 k hk).1 hs
    · have := (h4.lt k hk).2
      omega
theorem PKs.less {S T : Nat → Prop} {w : World} {b : Nat} {t : St} (h : PKs S w b t) (hs : ∀ k, T k → S k) : PKs T w b t := by
  obtain ⟨h1, h2, v, h3, h4, h5⟩ := h
  exact ⟨fun k hk => h1 k (hs k hk), fun hk => h2 (hs _ hk), v, h3, h4, fun k hk => ⟨fun ht => (h5 k hk).1 (hs k ht), (h5 k hk).2⟩⟩
/-- a number's field in any block, and what it holds -/
structure NF where
  j : Nat
  n : Int
  lo : Int
  hi : Int
  v : Int
def mvNF (off : Nat) (m : Mv) (x : Int) : List NF := [⟨off, 2, 0, 16383, m.addr⟩, ⟨off + 1, 2, 0, 1024, m.src⟩, ⟨off + 2, 2, 1, 1024, m.len⟩, ⟨off + 3, 2, 0, x, m.dst⟩]
def i64R (v : Int) : Prop := -9223372036854775808 ≤ v ∧ v ≤ 9223372036854775807
theorem put_nums (S : Nat → Prop) (p b g cap : Nat) (L : List NF) (t : St) (w : World) (hp : PKs S w p t) (hb : S b) (hg : S g) (hc : ∀ i (h : i < L.length), w.cell? ⟨g, i, none⟩ = some (numF b L[i].j L[i].n L[i].lo L[i].hi)) (hv : ∀ f, f ∈ L → w.cell? ⟨b, f.j, none⟩ = some (.int .i64 f.v) ∧ i64R f.v) (hl : L.length ≤ 1000000) :
    Calls Try.prog 23 #[ptr p, .slice (some ⟨g, 0, none⟩) L.length cap] w fun e w' => e = .returned (.tuple #[]) ∧ PKs S w' p (L.foldl (fun t f => t.num f.v f.n) t) ∧ Kept S w w' :=
  put_loop (fun t w' => PKs S w' p t ∧ Kept S w w') p g cap L (fun f => numF b f.j f.n f.lo f.hi) (fun t f => t.num f.v f.n) t w hl ⟨hp, Kept.refl _ _⟩ (fun s w' h i hi => cellK h.2 hg (hc i hi)) (fun f hf =>
    ⟨_, _, _, rfl, .inl ⟨rfl, rfl⟩, fun s w' h => (nput_any S b f.j p s f.n f.lo f.hi f.v w' (cellK h.2 hb (hv f hf).1) h.1 (hv f hf).2).mono fun _ _ ⟨he, h1, h2⟩ => ⟨he, h1, h.2.trans h2⟩⟩)
theorem mvNF_fold (off : Nat) (m : Mv) (x : Int) (t : St) : (mvNF off m x).foldl (fun t f => t.num f.v f.n) t = encMove t m := rfl
/-- put of the moves' fields of one move -/
theorem put_move (S : Nat → Prop) (p b g off : Nat) (m : Mv) (x : Int) (t : St) (w : World) (hp : PKs S w p t) (hb : S b) (hg : S g) (hc : w.heap[g]? = some (.cells #[numF b off 2 0 16383, numF b (off + 1) 2 0 1024, numF b (off + 2) 2 1 1024, numF b (off + 3) 2 0 x] 57 (0, 0)))
    (h0 : w.cell? ⟨b, off, none⟩ = some (.int .i64 m.addr)) (h1 : w.cell? ⟨b, off + 1, none⟩ = some (.int .i64 m.src)) (h2 : w.cell? ⟨b, off + 2, none⟩ = some (.int .i64 m.len)) (h3 : w.cell? ⟨b, off + 3, none⟩ = some (.int .i64 m.dst)) (hm : i64R m.addr ∧ i64R m.src ∧ i64R m.len ∧ i64R m.dst) :
    Calls Try.prog 23 #[ptr p, .slice (some ⟨g, 0, none⟩) 4 4] w fun e w' => e = .returned (.tuple #[]) ∧ PKs S w' p (encMove t m) ∧ Kept S w w' := by
  refine put_nums S p b g 4 (mvNF off m x) t w hp hb hg (fun i hi => ?_) (fun f hf => ?_) (Nat.le_of_ble_eq_true rfl)
  · rw [cell_of hc]
    rcases (by simp [mvNF] at hi; omega : i = 0 ∨ i = 1 ∨ i = 2 ∨ i = 3) with rfl | rfl | rfl | rfl <;> rfl
  · simp only [mvNF, List.mem_cons, List.not_mem_nil, or_false] at hf
    rcases hf with rfl | rfl | rfl | rfl
    · exact ⟨h0, hm.1⟩
    · exact ⟨h1, hm.2.1⟩
    · exact ⟨h2, hm.2.2.1⟩
    · exact ⟨h3, hm.2.2.2⟩
theorem num1_i64 {L : List Mv} (h : L.length ≤ 1000000) : i64R (L.length : Int) := by unfold i64R; omega
theorem PKs.box {S : Nat → Prop} {w : World} {b : Nat} {t : St} (h : PKs S w b t) (x : Obj) : PKs (fun k => S k ∨ k = w.heap.size) (w.alloc x) b t :=
  (h.all ((Below.refl _ _).alloc (Nat.le_refl _) x)).less (fun k hk => hk.imp id (fun e => by rw [e, sz_alloc]; omega))
theorem w4_has {w w4 : World} {x : Obj} (h : Below (w.alloc x).heap.size (w.alloc x) w4) : Below w.heap.size w w4 ∧ w.heap.size < w4.heap.size ∧ w4.heap[w.heap.size]? = some x :=
  ⟨((Below.refl _ _).alloc (Nat.le_refl _) x).trans (h.mono (by simp)), Nat.lt_of_lt_of_le (by simp) h.size, below_heap h (heap_alloc_new w x)⟩
set_option maxHeartbeats 4000000 in
theorem mput_any (S : Nat → Prop) (b j p : Nat) (d : Int) (t : St) (ao : Option Addr) (cap : Nat) (L : List Mv) (w : World) (hj : w.cell? ⟨b, j, none⟩ = some (.slice ao L.length cap)) (hV : VLI w ao cap L) (hS : S b) (hA : ∀ a, ao = some a → S a.block) (hl : L.length ≤ 1000000) (hm : ∀ m, m ∈ L → i64R m.addr ∧ i64R m.src ∧ i64R m.len ∧ i64R m.dst) (hp : PKs S w p t) :
    Calls Try.prog 105 #[.agg #[.pointer (some ⟨b, j, none⟩), .int .i64 d], ptr p] w fun e w' => e = .returned (.tuple #[]) ∧ PKs S w' p (L.foldl encMove (t.num L.length 1)) ∧ Kept S w w' := by
  have hl' : (L.length : Int) ≤ 1000000 := by omega
  have HB := Lib.hid (fun (x : Obj) => show Below w.heap.size w (w.alloc x) from (Below.refl _ _).alloc (Nat.le_refl _) _)
  have HP := Lib.hid (fun (x : Obj) => hp.box x)
  have hc := fun x => cell_new hj x
  have HS := Lib.hid hS
  have HA := Lib.hid hA
  have HV := Lib.hid hV
  have HM := Lib.hid hm
  have HL := Lib.hid hl
  clear hp hj hS hA hV hm hl
  go_enter Try.func105, Try.ntmps105
  go_wp2_with (go_at_call 22; refine (nums_any _ _ p t L.length 1 (HP.out _) (num1_i64 HL.out)).mono ?_; rintro e w1 ⟨rfl, hp1, hk1⟩; have cj := cellK hk1 (.inl HS.out) (hc _); have hx1 := hk1.heap (b := w.heap.size) (.inr rfl) (heap_alloc_new w _); have c0 := cell_of hx1 0)
  have HK1 := Lib.hid hk1
  have HP1 := Lib.hid hp1
  clear hk1 hp1 cj c0 hx1
  go_loopw [18] (fun i wr => ∃ k : Nat, i = .int .i64 k ∧ k ≤ L.length ∧ Hid (PKs (fun k => S k ∨ k = w.heap.size) wr p ((L.take k).foldl encMove (t.num L.length 1)) ∧ Kept (fun k => S k ∨ k = w.heap.size) (w.alloc (.cells #[.pointer (some ⟨b, j, none⟩), .int .i64 d] 106)) wr)) (fun i _ => L.length - (intOf i).toNat)
  case atStart => exact ⟨0, rfl, Nat.zero_le _, Lib.hid ⟨HP1.out, HK1.out⟩⟩
  case round =>
    clear HP1 HK1 hc
    obtain ⟨k, rfl, hk, HT⟩ := hrel
    by_cases hlt : k < L.length
    rotate_left
    · obtain rfl : k = L.length := by omega
      have HT2 := HT.out
      rw [List.take_of_length_le (Nat.le_refl _)] at HT2
      have HT3 := Lib.hid HT2
      clear HT2
      go_wp2
      go_end0
      exact ⟨rfl, HT3.out.1.less (fun k h => .inl h), (Kept.ofBelow (HB.out _) S).trans (HT3.out.2.mono (fun k h => .inl h))⟩
    have hx := HT.out.2.heap (b := w.heap.size) (.inr rfl) (heap_alloc_new w _)
    have c0 := cell_of hx 0
    have c1 := cell_of hx 1
    obtain ⟨bk, off, rfl, x0, x1, x2, x3⟩ := (HV.out.below (HB.out _)).1.keep HT.out.2 (fun a h => .inl (HA.out a h)) k hlt
    have HSt := Lib.hid (fold_step L encMove (t.num L.length 1) hlt)
    have HMv := Lib.hid (HM.out L[k] (List.getElem_mem hlt))
    have zb := block_lt_of_cell x0
    have zc := block_lt_of_cell c0
    simp only at zb zc
    have d0 := fun x => cell_new c0 x
    have d1 := fun x => cell_new c1 x
    clear hx
    generalize L[k] = m at *
    have HH := Lib.hid HT.out
    clear HT
    go_wp2_with (first | (go_at_call 107; refine (fields_any _ d m.len wr.heap.size 0 _ (cell_of (heap_alloc_new wr _) 2)).mono ?_; rintro e w4 ⟨fb, hfb, rfl, hf4, hb4⟩; obtain ⟨hb5, hlt5, hm5⟩ := w4_has hb4) | (go_at_call 23; refine (put_move (fun k => (S k ∨ k = w.heap.size) ∨ (wr.heap.size ≤ k ∧ k < w4.heap.size)) p wr.heap.size fb 0 m _ _ w4 (HH.out.1.all hb5) (.inr ⟨Nat.le_refl _, hlt5⟩) (.inr ⟨Nat.le_trans (by simp) hfb, lt_of_block hf4⟩) hf4 (cell_of hm5 0) (cell_of hm5 1) (cell_of hm5 2) (cell_of hm5 3) HMv.out).mono ?_; rintro e w6 ⟨rfl, hp6, hk6⟩))
    go_roundw
    case rel => exact ⟨k + 1, by go_num, by omega, Lib.hid ⟨by rw [HSt.out]; exact hp6.less (fun k h => .inl h), (HH.out.2.trans (Kept.ofBelow hb5 _)).trans (hk6.mono (fun k h => .inl h))⟩⟩
    case measure => simp [intOf]; omega
end Go.Proofs.Ythileemkiplodaa
namespace Go.Proofs.Ythileemkiplodaa
open Go.RowKit
set_option maxRecDepth 20000

def mv0 : Mv := ⟨0, 0, 0, 0⟩
theorem mvCells_append (l r : List Mv) : mvCells (l ++ r) = mvCells l ++ mvCells r := by
  induction l with
  | nil => rfl
  | cons a l ih => simp [mvCells, ih]
theorem mvCells_zero (n : Nat) : mvCells (List.replicate n mv0) = List.replicate (n * 4) (.int .i64 0) := by
  induction n with
  | zero => rfl
  | succ n ih =>
    rw [List.replicate_succ, show (n + 1) * 4 = n * 4 + 1 + 1 + 1 + 1 by omega]
    simp only [List.replicate_succ, mvCells, ih]
    rfl
theorem madeM (n : Nat) : madeCells (Value.agg #[.int .i64 0, .int .i64 0, .int .i64 0, .int .i64 0]).cells (n * 4) = (mvCells (List.replicate n mv0)).toArray := by
  rw [mvCells_zero]
  apply Array.ext_getElem?
  intro i
  by_cases hi : i < n * 4
  · unfold madeCells
    simp only [Value.cells]
    rcases (by omega : i % 4 = 0 ∨ i % 4 = 1 ∨ i % 4 = 2 ∨ i % 4 = 3) with h | h | h | h <;> simp [hi, h]
  · rw [Array.getElem?_eq_none (by rw [size_madeCells]; omega), Array.getElem?_eq_none (by simp; omega)]
theorem make_moves (n : Nat) (h : n ≤ 1000000) (w : World) :
    (Instr.makeSlice 22 (.int .i64 (n : Int)) (.int .i64 (n : Int))).run Try.prog w = .ok (.slice (some ⟨w.heap.size, 0, none⟩) n n) (w.alloc (.cells (mvCells (List.replicate n mv0)).toArray 54)) := by
  cases hq : Try.prog.info? 54 with
  | none => have h0 := mv_info; rw [hq] at h0; cases h0
  | some i =>
    have h0 := mv_info
    rw [hq] at h0
    simp only [Option.map_some, Option.some.injEq, Prod.mk.injEq] at h0
    obtain ⟨hz, hs, hb⟩ := h0
    have hr := run_make (P := Try.prog) w 22 54 i _ Try.underlying22 hq hz .i64 .i64 n n (by omega) (Int.le_refl _) (by rw [hb]; omega) (by omega)
    simp only [Int.toNat_natCast] at hr
    rw [hr, hs, madeM n]
theorem set_at (P Q : List Value) (N i : Nat) (h : P.length = N) (x : Value) : (P ++ Q).set (N + i) x = P ++ Q.set i x := by
  subst h
  rw [List.set_append_right _ _ (by omega)]
  congr 2
  omega
theorem mv_set (l r : List Mv) (z m : Mv) : ((((mvCells (l ++ z :: r)).toArray.setIfInBounds (l.length * 4) (.int .i64 m.addr)).setIfInBounds (l.length * 4 + 1) (.int .i64 m.src)).setIfInBounds (l.length * 4 + 2) (.int .i64 m.len)).setIfInBounds (l.length * 4 + 3) (.int .i64 m.dst) = (mvCells (l ++ m :: r)).toArray := by
  rw [mvCells_append, mvCells_append]
  simp only [List.setIfInBounds_toArray]
  congr 1
  have h := mvCells_length l
  have e0 := fun Q x => set_at (mvCells l) Q (l.length * 4) 0 h x
  simp only [Nat.add_zero] at e0
  rw [e0, set_at _ _ _ 1 h, set_at _ _ _ 2 h, set_at _ _ _ 3 h]
  rfl
theorem take_nums (b u g cap : Nat) (L : List NF) (cs : Array Value) (T : TypeId) (o : Option ByteArray) (w : World) (hbu : b ≠ u) (hgb : g ≠ b) (hgu : g ≠ u) (hc : ∀ i (h : i < L.length), w.cell? ⟨g, i, none⟩ = some (numF b L[i].j L[i].n L[i].lo L[i].hi)) (hh : w.heap[b]? = some (.cells cs T (0, 0)))
    (hj : ∀ f, f ∈ L → (∃ v, cs[f.j]? = some (.int .i64 v)) ∧ i64R f.n) (hu : UK w u o) (hs : (ukL o).size ≤ 1099511627776) (hl : L.length ≤ 1000000) :
    Calls Try.prog 33 #[ptr u, .slice (some ⟨g, 0, none⟩) L.length cap] w fun e w' => e = .returned (.tuple #[]) ∧
      (fun (x : Array Value × Option ByteArray) w' => w'.heap[b]? = some (.cells x.1 T (0, 0)) ∧ (∀ f, f ∈ L → ∃ v, x.1[f.j]? = some (.int .i64 v)) ∧ UK w' u x.2 ∧ (ukL x.2).size ≤ 1099511627776 ∧ Kept (fun k => k ≠ b ∧ k ≠ u) w w') (L.foldl (fun x f => (x.1.setIfInBounds f.j (.int .i64 (numV x.2 f.n)), numO x.2 f.n)) (cs, o)) w' := by
  refine take_loop (fun (x : Array Value × Option ByteArray) w' => w'.heap[b]? = some (.cells x.1 T (0, 0)) ∧ (∀ f, f ∈ L → ∃ v, x.1[f.j]? = some (.int .i64 v)) ∧ UK w' u x.2 ∧ (ukL x.2).size ≤ 1099511627776 ∧ Kept (fun k => k ≠ b ∧ k ≠ u) w w') u g cap L (fun f => numF b f.j f.n f.lo f.hi) (fun x f => (x.1.setIfInBounds f.j (.int .i64 (numV x.2 f.n)), numO x.2 f.n)) (cs, o) w hl ⟨hh, fun f hf => (hj f hf).1, hu, hs, Kept.refl _ _⟩ (fun s w' h i hi => cellK h.2.2.2.2 ⟨hgb, hgu⟩ (hc i hi)) (fun f hf => ?_)
  refine ⟨_, _, _, rfl, .inl ⟨rfl, rfl⟩, fun s w' h => ?_⟩
  obtain ⟨h1, h2, h3, h4, h5⟩ := h
  refine (ntake_any b f.j u s.2 f.n f.lo f.hi s.1 T w' h1 (h2 f hf) h3 h4 hbu (hj f hf).2).mono ?_
  rintro e w1 ⟨rfl, r1, r2, r3⟩
  refine ⟨rfl, r2, fun f' hf' => ?_, r1, Nat.le_trans (numO_size _ _) h4, h5.trans r3⟩
  show ∃ v, (s.1.setIfInBounds f.j (.int .i64 (numV s.2 f.n)))[f'.j]? = some (.int .i64 v)
  obtain ⟨v, hv⟩ := h2 f' hf'
  rw [Array.getElem?_setIfInBounds]
  by_cases e : f.j = f'.j
  · rw [if_pos e]
    split
    · exact ⟨_, rfl⟩
    · next hlt =>
      exfalso
      apply hlt
      rw [e]
      exact (Array.getElem?_eq_some_iff.1 hv).1
  · rw [if_neg e]; exact ⟨v, hv⟩
end Go.Proofs.Ythileemkiplodaa
namespace Go.Proofs.Ythileemkiplodaa
open Go.RowKit
set_option maxRecDepth 20000

def nextMv (u : Option ByteArray) : Mv := ⟨numV u 2, numV (numO u 2) 2, numV (numO (numO u 2) 2) 2, numV (numO (numO (numO u 2) 2) 2) 2⟩
def nextO (u : Option ByteArray) : Option ByteArray := numO (numO (numO (numO u 2) 2) 2) 2
theorem nextO_size (u : Option ByteArray) : (ukL (nextO u)).size ≤ (ukL u).size := Nat.le_trans (numO_size _ _) (Nat.le_trans (numO_size _ _) (Nat.le_trans (numO_size _ _) (numO_size _ _)))
theorem decMoves_len (n : Nat) : ∀ (l : List Mv) (u : Option ByteArray), (decMoves n l u).1.length = l.length + n := by
  induction n with
  | zero => intro l u; rfl
  | succ n ih => intro l u; rw [decMoves_next, ih]; simp; omega
theorem decMoves_size (n : Nat) : ∀ (l : List Mv) (u : Option ByteArray), (ukL (decMoves n l u).2).size ≤ (ukL u).size := by
  induction n with
  | zero => intro l u; exact Nat.le_refl _
  | succ n ih => intro l u; rw [decMoves_next]; exact Nat.le_trans (ih _ _) (nextO_size u)
theorem two64 : i64R 2 := ⟨by decide, by decide⟩
theorem mvNF_take (off : Nat) (x : Int) (cs : Array Value) (o : Option ByteArray) : (mvNF off mv0 x).foldl (fun (x : Array Value × Option ByteArray) f => (x.1.setIfInBounds f.j (.int .i64 (numV x.2 f.n)), numO x.2 f.n)) (cs, o) =
    ((((cs.setIfInBounds off (.int .i64 (nextMv o).addr)).setIfInBounds (off + 1) (.int .i64 (nextMv o).src)).setIfInBounds (off + 2) (.int .i64 (nextMv o).len)).setIfInBounds (off + 3) (.int .i64 (nextMv o).dst), nextO o) := by
  simp only [mvNF, List.foldl, nextMv, nextO]
/-- take of the fields of one move of a row that the call has made -/
theorem take_move (b u g : Nat) (l r : List Mv) (z : Mv) (x : Int) (o : Option ByteArray) (w : World) (hbu : b ≠ u) (hgb : g ≠ b) (hgu : g ≠ u)
    (hc : w.heap[g]? = some (.cells #[numF b (l.length * 4) 2 0 16383, numF b (l.length * 4 + 1) 2 0 1024, numF b (l.length * 4 + 2) 2 1 1024, numF b (l.length * 4 + 3) 2 0 x] 57 (0, 0)))
    (hh : w.heap[b]? = some (.cells (mvCells (l ++ z :: r)).toArray 54 (0, 0))) (hu : UK w u o) (hs : (ukL o).size ≤ 1099511627776) :
    Calls Try.prog 33 #[ptr u, .slice (some ⟨g, 0, none⟩) 4 4] w fun e w' => e = .returned (.tuple #[]) ∧ w'.heap[b]? = some (.cells (mvCells (l ++ nextMv o :: r)).toArray 54 (0, 0)) ∧ UK w' u (nextO o) ∧ Kept (fun k => k ≠ b ∧ k ≠ u) w w' := by
  have hget := mvCells_get (l ++ z :: r) l.length (by simp)
  refine (take_nums b u g 4 (mvNF (l.length * 4) mv0 x) _ 54 o w hbu hgb hgu (fun i hi => ?_) hh (fun f hf => ?_) hu hs (Nat.le_of_ble_eq_true rfl)).mono ?_
  · rw [cell_of hc]
    rcases (by simp [mvNF] at hi; omega : i = 0 ∨ i = 1 ∨ i = 2 ∨ i = 3) with rfl | rfl | rfl | rfl <;> rfl
  · simp only [mvNF, List.mem_cons, List.not_mem_nil, or_false] at hf
    rcases hf with rfl | rfl | rfl | rfl
    · exact ⟨⟨_, by rw [List.getElem?_toArray]; exact hget.1⟩, two64⟩
    · exact ⟨⟨_, by rw [List.getElem?_toArray]; exact hget.2.1⟩, two64⟩
    · exact ⟨⟨_, by rw [List.getElem?_toArray]; exact hget.2.2.1⟩, two64⟩
    · exact ⟨⟨_, by rw [List.getElem?_toArray]; exact hget.2.2.2⟩, two64⟩
  · intro e w' hp
    rw [mvNF_take] at hp
    dsimp only at hp
    obtain ⟨he, h1, _, h3, _, h5⟩ := hp
    rw [mv_set] at h1
    exact ⟨he, h1, h3, h5⟩
theorem pair_below {w1 w2 : World} {v : Nat} {x y : Value} (hb : Below w1.heap.size w1 w2) (H : w1.cell? ⟨v, 0, none⟩ = some x ∧ w1.cell? ⟨v, 1, none⟩ = some y) : w2.cell? ⟨v, 0, none⟩ = some x ∧ w2.cell? ⟨v, 1, none⟩ = some y :=
  ⟨cellB hb (block_lt_of_cell H.1) H.1, cellB hb (block_lt_of_cell H.2) H.2⟩
theorem pair_kept {S : Nat → Prop} {w1 w2 : World} {v : Nat} {x y : Value} (hk : Kept S w1 w2) (hv : S v) (H : w1.cell? ⟨v, 0, none⟩ = some x ∧ w1.cell? ⟨v, 1, none⟩ = some y) : w2.cell? ⟨v, 0, none⟩ = some x ∧ w2.cell? ⟨v, 1, none⟩ = some y :=
  ⟨cellK hk hv H.1, cellK hk hv H.2⟩
theorem Kept.toNe {w w' : World} {g u : Nat} (h : Kept (fun k => k ≠ g ∧ k ≠ u) w w') (hg : w.heap.size ≤ g) : Kept (fun k => k ≠ u) w w' :=
  ⟨h.os, h.tape, h.output, h.size, fun k hk hl => h.block k ⟨by omega, hk⟩ hl⟩
theorem nat_of (u : Option ByteArray) : numV u 1 = ((numV u 1).toNat : Int) ∧ (numV u 1).toNat < 256 := by
  have := one_num u
  omega
set_option maxHeartbeats 4000000 in
theorem mtake_any (b j u : Nat) (d : Int) (o : Option ByteArray) (cs : Array Value) (T : TypeId) (w : World) (h : w.heap[b]? = some (.cells cs T (0, 0))) (hj : ∃ ao n cap, cs[j]? = some (.slice ao n cap)) (hu : UK w u o) (hl : (ukL o).size ≤ 1099511627776) (hbu : b ≠ u) :
    Calls Try.prog 106 #[.agg #[.pointer (some ⟨b, j, none⟩), .int .i64 d], ptr u] w fun e w' => ∃ g, w.heap.size ≤ g ∧
      e = .returned (.tuple #[]) ∧ UK w' u (decMoves (numV o 1).toNat [] (numO o 1)).2 ∧ w'.heap[b]? = some (.cells (cs.setIfInBounds j (.slice (some ⟨g, 0, none⟩) (numV o 1).toNat (numV o 1).toNat)) T (0, 0)) ∧ w'.heap[g]? = some (.cells (mvCells (decMoves (numV o 1).toNat [] (numO o 1)).1).toArray 54 (0, 0)) ∧ Kept (fun k => k ≠ b ∧ k ≠ u) w w' := by
  obtain ⟨hn, hn'⟩ := nat_of o
  have hl1 := Nat.le_trans (numO_size o 1) hl
  generalize hN : (numV o 1).toNat = n at *
  have hmk := make_moves n (by omega)
  have n0 : (n : Int) ≤ 1000000 := by omega
  have HB := Lib.hid (fun (x : Obj) => show Below w.heap.size w (w.alloc x) from (Below.refl _ _).alloc (Nat.le_refl _) _)
  have HU := Lib.hid (fun (x : Obj) => show UK (w.alloc x) u o from hu.keep (Kept.ofBelow (HB.out x) (fun _ => True)) trivial)
  have HH := Lib.hid (fun (x : Obj) => heap_past h x)
  have hult := lt_of_block hu.cells
  have hblt := lt_of_block h
  have hub : w.heap.size ≠ u := Ne.symm (Nat.ne_of_lt hult)
  have HN := Lib.hid hn
  clear h hu hN hn
  go_enter Try.func106, Try.ntmps106
  go_wp2_with (go_at_call 32; refine (uNum_any _ u o 1 (HU.out _) hl (by decide)).mono ?_; rw [HN.out]; rintro e w1 ⟨rfl, hu1, hk1⟩)
  have HK1 := Lib.hid hk1
  have HU1 := Lib.hid hu1
  have HL1 := Lib.hid hl1
  have hg1 : w.heap.size < w1.heap.size := Nat.lt_of_lt_of_le (by simp) hk1.size
  have HX1 := Lib.hid (hk1.heap hub (heap_alloc_new w _))
  have HB1 := Lib.hid (hk1.heap hbu (HH.out _))
  clear hk1 hu1 hmk hl1
  go_loopw [11] (fun i wr => ∃ (k : Nat), i = .int .i64 k ∧ k ≤ n ∧ Hid (∃ (l : List Mv) (uo : Option ByteArray), l.length = k ∧ decMoves (n - k) l uo = decMoves n [] (numO o 1) ∧ wr.heap[w1.heap.size]? = some (.cells (mvCells (l ++ List.replicate (n - k) mv0)).toArray 54 (0, 0)) ∧ UK wr u uo ∧ (ukL uo).size ≤ 1099511627776 ∧ Kept (fun k => k ≠ u) w1 wr)) (fun i _ => n - (intOf i).toNat)
  case atStart => exact ⟨0, rfl, Nat.zero_le _, Lib.hid ⟨[], _, rfl, rfl, heap_alloc_new _ _, HU1.out.keep (Kept.ofBelow ((Below.refl _ _).alloc (Nat.le_refl _) _) (fun _ => True)) trivial, HL1.out, (Kept.refl _ _).alloc _⟩⟩
  case round =>
    obtain ⟨k, rfl, hk, HT⟩ := hrel
    by_cases hlt : k < n
    rotate_left
    · obtain rfl : k = n := by omega
      obtain ⟨l, uo, rfl, hd, hc, hu, hs, hk2⟩ := HT.out
      rw [Nat.sub_self] at hd hc
      rw [List.replicate_zero, List.append_nil] at hc
      have hx := hk2.heap hub HX1.out
      have hbb := hk2.heap hbu HB1.out
      have c0 := cell_of hx 0
      obtain ⟨ao, m, cap, hj⟩ := hj
      have cb := (cell_of hbb j).trans hj
      have fb := free_of hbb j
      have HC := Lib.hid hc
      have HD := Lib.hid hd
      have HUU := Lib.hid hu
      have HKK := Lib.hid hk2
      have HBB := Lib.hid hbb
      clear hc hd hu hk2 hx hbb
      go_wp2
      go_end0
      have hks : Kept (fun k => k ≠ b) wr (wr.setCell ⟨b, j, none⟩ (.slice (some ⟨w1.heap.size, 0, none⟩) l.length l.length)) := (Kept.refl _ _).setCell (by simp) _
      have e2 : decMoves l.length [] (numO o 1) = (l, uo) := HD.out.symm
      rw [e2]
      exact ⟨w1.heap.size, Nat.le_of_lt hg1, rfl, HUU.out.keep hks (Ne.symm hbu), heap_setCell_same wr b j cs T _ HBB.out, hks.heap (by omega) HC.out, ((Kept.ofBelow (HB.out _) _).trans ((HK1.out.trans HKK.out).mono (fun k h => h.2))).trans (hks.mono (fun k h => h.1))⟩
    obtain ⟨l, uo, rfl, hd, hc, hu, hs, hk2⟩ := HT.out
    obtain ⟨r, hr⟩ : ∃ r, n - l.length = r + 1 := ⟨n - l.length - 1, by omega⟩
    rw [hr] at hd hc
    rw [List.replicate_succ] at hc
    rw [decMoves_next] at hd
    have hx := hk2.heap hub HX1.out
    have c0 : wr.drew.cell? ⟨w.heap.size, 0, none⟩ = some (.pointer (some ⟨b, j, none⟩)) := cell_of hx 0
    have c1 : wr.drew.cell? ⟨w.heap.size, 1, none⟩ = some (.int .i64 d) := cell_of hx 1
    have c0' := cell_of hx 0
    have c1' := cell_of hx 1
    have hml : wr.drew.cell? ⟨w1.heap.size, l.length * 4 + 2, none⟩ = some (.int .i64 0) := (cell_of hc _).trans (by rw [List.getElem?_toArray]; have h := (mvCells_get (l ++ mv0 :: List.replicate r mv0) l.length (by simp)).2.2.1; rw [h]; simp [mv0])
    have HD := Lib.hid (show decMoves (n - (l.length + 1)) (l ++ [nextMv uo]) (nextO uo) = decMoves n [] (numO o 1) from by rw [show n - (l.length + 1) = r by omega]; exact hd)
    have HR := Lib.hid (show n - (l.length + 1) = r by omega)
    have HC := Lib.hid hc
    have HUU := Lib.hid (show UK wr.drew u uo from hu)
    have HKK := Lib.hid hk2
    have hgu : w1.heap.size ≠ u := by omega
    have hvg : w.heap.size ≠ w1.heap.size ∧ w.heap.size ≠ u := ⟨by omega, hub⟩
    have hwr : w1.heap.size ≤ wr.heap.size := hk2.size
    have HS := Lib.hid hs
    have HFB := Lib.hid (show ∀ fb, wr.heap.size ≤ fb → fb ≠ w1.heap.size ∧ fb ≠ u from fun fb h => ⟨by have := lt_of_block hc; omega, by omega⟩)
    clear hd hc hu hk2 hx HT hs hr
    go_wp2
    go_region_held3 (fun w' => w'.cell? ⟨w.heap.size, 0, none⟩ = some (.pointer (some ⟨b, j, none⟩)) ∧ w'.cell? ⟨w.heap.size, 1, none⟩ = some (.int .i64 d)) (first | exact ⟨c0, c1⟩ | exact pair_below hb4 (by assumption) | exact pair_kept hk6 hvg (by assumption))
      (first | (go_at_call 107; refine (fields_any _ d 0 w1.heap.size (l.length * 4) _ (by exact hml)).mono ?_; rintro e w4 ⟨fb, hfb, rfl, hf4, hb4⟩) | (go_at_call 33; refine (take_move w1.heap.size u fb l (List.replicate r mv0) mv0 _ uo w4 hgu (HFB.out fb hfb).1 (HFB.out fb hfb).2 hf4 (below_heap hb4 HC.out) (HUU.out.keep (Kept.ofBelow hb4 (fun _ => True)) trivial) HS.out).mono ?_; rintro e w6 ⟨rfl, h6, hu6, hk6⟩))
    go_wp2
    go_roundw
    case rel => exact ⟨l.length + 1, by go_num, by omega, Lib.hid ⟨l ++ [nextMv uo], nextO uo, by simp, HD.out, by rw [h6, HR.out, List.append_assoc]; rfl, hu6, Nat.le_trans (nextO_size uo) HS.out, (((HKK.out.drew.mono (fun k h => h.2)).trans (Kept.ofBelow hb4 _)).trans hk6).toNe (Nat.le_refl _)⟩⟩
    case measure => simp [intOf]; omega
end Go.Proofs.Ythileemkiplodaa
