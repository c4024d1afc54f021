/- What the statements' own small functions Ints, LargeProjection and the document's own Has return. Conditions: the lists lie where the call was told; lists of numbers no longer than 1000000. Rows of a call's own, of elements of any make: made, appended to, cut. Conditions: as each statement says. Plain facts on a storage unit: what each question makes of it, and is answered. No conditions. Plain facts on the sequencer: what each question makes of it, and is answered. No conditions. An answer in a block of its own: its eight cells, stores into it, and that a call returns it. No conditions. Slices of questions, and of steps with a question in each, that were handed over: what their cells hold. No conditions. Plain facts on the layout: what each question makes of it, and is answered. No conditions. -/
import Derived.Test.YtchhmfdalghgcaaGreatG06a
import Derived.Test.YtchhmfdalghgcaaGreatG01a
import Derived.Test.YtchhmfdalghgcaaGreatG02a
import Derived.Test.YtchhmfdalghgcaaGreatG04a
import Derived.Maps.AppendAt
import Derived.Laws.OwnMore
import Derived.OwnWalk
import Derived.Test.YtchhmfdalghgcaaGreatG02b
import Derived.Laws.ResultCell
import Derived.Laws.Rows
set_option linter.unusedVariables false
namespace Go.Proofs.YtchhmfdalghgcaaGreat
set_option linter.unusedVariables false
open Go.RowKit
set_option maxRecDepth 20000
theorem quiet_drq {P : Program} {f : FuncId} {args : Array Value} {w : World} {q n : Nat} {v : Value}
    (h : Calls P f args (w.drewN (q + n)) fun e w' => e = .returned v ∧ ∃ k, w' = (w.drewN (q + n)).drewN k) : Calls P f args (w.drewN (q + n)) fun e w'' => e = .returned v ∧ ∃ m, w'' = w.drewN (q + m) :=
  h.mono fun _ _ ⟨he, k, hm⟩ => ⟨he, n + k, by rw [hm]; simp [Nat.add_assoc]⟩
theorem takeI_succ {A B : List Int} {k : Nat} (ha : k < A.length) (hb : k < B.length) (h : A.take k = B.take k) (e : A[k] = B[k]) : A.take (k + 1) = B.take (k + 1) := by
  rw [List.take_succ_eq_append_getElem ha, List.take_succ_eq_append_getElem hb, h, e]
theorem neI_at {A B : List Int} {k : Nat} (ha : k < A.length) (hb : k < B.length) (e : A[k] ≠ B[k]) : A ≠ B := by
  intro h
  subst h
  exact e rfl
/-- are two lists alike? -/
def intsB (A B : List Int) : Bool := decide (A = B)
theorem keepInts_any (A B : List Int) (ao bo : Option Addr) (ca cb : Nat) (w : World) (hA : NLI w ao ca A) (hB : NLI w bo cb B) (lA : A.length ≤ 1000000) (lB : B.length ≤ 1000000) :
    Calls Tryz.prog 35 #[.slice ao A.length ca, .slice bo B.length cb] w fun e w' => e = .returned (.bool (intsB A B)) ∧ ∃ n, w' = w.drewN n := by
  by_cases hl : A.length = B.length
  · have HN := Lib.hid (fun k (ha : k < A.length) (hb : k < B.length) => show A[k] ≠ B[k] → intsB A B = false from fun e => decide_eq_false (neI_at ha hb e))
    have HY := Lib.hid (show A.take A.length = B.take A.length → intsB A B = true from fun e => by
      rw [List.take_of_length_le (Nat.le_refl _), List.take_of_length_le (by omega)] at e
      exact decide_eq_true e)
    generalize intsB A B = R at *
    have hl1 : ((A.length : Int) != (B.length : Int)) = false := bne_eq_false_iff_eq.2 (by omega)
    have HA := Lib.hid hA
    have HB := Lib.hid hB
    have HL := Lib.hid hl
    have lA' : (A.length : Int) ≤ 1000000 := by omega
    have lB' : (B.length : Int) ≤ 1000000 := by omega
    clear hA hB hl
    go_enter Tryz.func35, Tryz.ntmps35
    go_wp2_with fail
    go_loopw [5] (fun i wr => ∃ k q : Nat, i = .int .i64 k ∧ k ≤ A.length ∧ wr = w.drewN q ∧ Hid (A.take k = B.take k)) (fun i _ => A.length - (intOf i).toNat)
    case atStart => exact ⟨0, 0, rfl, Nat.zero_le _, rfl, Lib.hid (by simp)⟩
    case round =>
      obtain ⟨k, q, rfl, hk, rfl, HT⟩ := hrel
      by_cases hlt : k < A.length
      · have hlb : k < B.length := by have := HL.out; omega
        obtain ⟨bk, off, rfl, c0⟩ := HA.out.at k hlt
        obtain ⟨bk2, off2, rfl, c1⟩ := HB.out.at k hlb
        have c0' : (w.drewN q).cell? ⟨bk, off + k, none⟩ = some (.int .i64 A[k]) := c0
        have c1' : (w.drewN q).cell? ⟨bk2, off2 + k, none⟩ = some (.int .i64 B[k]) := c1
        have k0 : (k : Int) < (A.length : Int) := by omega
        have k1 : (k : Int) < (B.length : Int) := by omega
        clear hl1
        by_cases he : A[k] = B[k]
        · have HT2 := Lib.hid (takeI_succ hlt hlb HT.out he)
          have d1 : (A[k] != B[k]) = false := bne_eq_false_iff_eq.2 he
          clear he
          go_wp2_with fail
          go_quiet (fail)
          go_wp2_with fail
          go_roundw
          case rel => exact ⟨k + 1, q + nq, by go_num, by omega, by first | rfl | simp, HT2⟩
          case measure => simp [intOf]; omega
        · have HX := Lib.hid (HN.out k hlt hlb he)
          have d1 : (A[k] != B[k]) = true := bne_iff_ne.2 he
          clear he
          go_wp2_with fail
          go_quiet (fail)
          go_wp2_with fail
          go_ret
          rw [HX.out]
          exact ⟨rfl, q + nq, by simp⟩
      · obtain rfl : k = A.length := by omega
        have HX := Lib.hid (HY.out HT.out)
        go_wp2_with fail
        go_ret
        rw [HX.out]
        exact ⟨rfl, _, rfl⟩
  · rw [show intsB A B = false from decide_eq_false (show ¬ A = B from fun e => hl (by rw [e]))]
    have hl1 : ((A.length : Int) != (B.length : Int)) = true := bne_iff_ne.2 (by omega)
    clear hl
    go_enter Tryz.func35, Tryz.ntmps35
    go_wp2_with fail
    go_ret
    exact ⟨rfl, 0, rfl⟩

/-- is a projection too large to be gone through? -/
def largeB (L : List (List Int)) : Bool := decide (50 < L.length) || L.any (fun c => decide (50 < c.length))
theorem largeB_no {L : List (List Int)} (h : largeB L = false) : L.length ≤ 50 ∧ ∀ c ∈ L, c.length ≤ 50 := by
  simp only [largeB, Bool.or_eq_false_iff, decide_eq_false_iff_not, List.any_eq_false, decide_eq_true_eq] at h
  exact ⟨by omega, fun c hc => by have := h.2 c hc; omega⟩
theorem largeB_many {L : List (List Int)} (h : 50 < L.length) : largeB L = true := by simp [largeB, h]
theorem largeB_one {L : List (List Int)} {k : Nat} (hk : k < L.length) (h : 50 < L[k].length) : largeB L = true := by
  simp only [largeB, Bool.or_eq_true, List.any_eq_true, decide_eq_true_eq]
  exact .inr ⟨L[k], List.getElem_mem hk, h⟩
theorem largeB_none {L : List (List Int)} (h : L.length ≤ 50) (h2 : ∀ c ∈ L, c.length ≤ 50) : largeB L = false := by
  simp only [largeB, Bool.or_eq_false_iff, decide_eq_false_iff_not, List.any_eq_false, decide_eq_true_eq]
  exact ⟨by omega, fun c hc => by have := h2 c hc; omega⟩
theorem all_take_succ {α : Type} {p : α → Prop} {L : List α} {k : Nat} (hk : k < L.length) (h : ∀ c ∈ L.take k, p c) (e : p L[k]) : ∀ c ∈ L.take (k + 1), p c := by
  intro c hc
  rw [List.take_succ_eq_append_getElem hk, List.mem_append, List.mem_singleton] at hc
  rcases hc with hc | rfl
  · exact h c hc
  · exact e
theorem large_any (ep : Int) (ao : Option Addr) (cap : Nat) (L : List (List Int)) (w : World) (h : CL w ao L) (hl : L.length ≤ maxLen) (hm : ∀ c ∈ L, c.length ≤ maxLen) :
    Calls Tryz.prog 21 #[.agg #[.int .i64 ep, .slice ao L.length cap]] w fun e w' => e = .returned (.bool (largeB L)) ∧ Below w.heap.size w w' := by
  have HB := Lib.hid ((Below.refl w.heap.size w).alloc (Nat.le_refl _) (.cells #[.int .i64 ep, .slice ao L.length cap] 29))
  have HC := Lib.hid (h.below HB.out)
  have HM := Lib.hid hm
  have HY := Lib.hid (fun k hk => @largeB_one L k hk)
  have HN := Lib.hid (fun e => @largeB_none L e)
  have HT := Lib.hid (@largeB_many L)
  unfold maxLen at hl
  have hl' : (L.length : Int) ≤ 9223372036854775807 := by omega
  generalize largeB L = R at *
  clear h hm
  by_cases h50 : 50 < L.length
  · obtain rfl := HT.out h50
    have h5 : (50 : Int) < (L.length : Int) := by omega
    go_enter Tryz.func21, Tryz.ntmps21
    go_wp2_with fail
    go_ret
    exact ⟨rfl, HB.out⟩
  · have h5 : (L.length : Int) ≤ 50 := by omega
    go_enter Tryz.func21, Tryz.ntmps21
    go_wp2_with fail
    go_loop [3] (fun i => ∃ k : Nat, i = .int .i64 k ∧ k ≤ L.length ∧ Hid (∀ c ∈ L.take k, c.length ≤ 50)) (fun i => L.length - (intOf i).toNat)
    case atStart => exact ⟨0, rfl, Nat.zero_le _, Lib.hid (by simp)⟩
    case round =>
      obtain ⟨k, rfl, hk, HA⟩ := hrel
      by_cases hlt : k < L.length
      · obtain ⟨bk, off, ai, ci, rfl, c0, _⟩ := HC.out k hlt
        have m0 := HM.out L[k] (List.getElem_mem hlt)
        unfold maxLen at m0
        by_cases he : 50 < L[k].length
        · obtain rfl := HY.out k hlt he
          have d1 : (50 : Int) < (L[k].length : Int) := by omega
          go_wp2_with fail
          go_ret
          exact ⟨rfl, HB.out⟩
        · have HA2 := Lib.hid (all_take_succ hlt HA.out (by omega))
          have d1 : (L[k].length : Int) ≤ 50 := by omega
          clear he
          go_wp2_with fail
          go_round
          case rel => exact ⟨k + 1, by go_num, by omega, HA2⟩
          case measure => simp [intOf]; omega
      · obtain rfl : k = L.length := by omega
        obtain rfl := HN.out (by omega) (by have := HA.out; rwa [List.take_of_length_le (Nat.le_refl _)] at this)
        go_wp2_with fail
        go_ret
        exact ⟨rfl, HB.out⟩
end Go.Proofs.YtchhmfdalghgcaaGreat
namespace Go.Proofs.YtchhmfdalghgcaaGreat
set_option linter.unusedVariables false
open Go.RowKit
set_option maxRecDepth 20000
/-- elements of the type T (a slice of them: TS), n cells each, as f tells -/
structure RowK {α : Type} (P : Program) (TS T : TypeId) (n : Nat) (f : α → List Value) : Prop where
  under : P.underlying TS = some (.slice T)
  info : ∃ (i : TypeInfo) (z : Value) (bytes : Nat), P.info? T = some i ∧ i.zero = some z ∧ i.size = n ∧ i.bytes = bytes ∧ z.cells.size = n ∧ bytes ≤ 1000
  pos : 0 < n
  len : ∀ x, (f x).length = n
  one : ∀ x, ∀ u ∈ f x, u.oneCell' = true
section
variable {α : Type} {P : Program} {TS T : TypeId} {n : Nat} {f : α → List Value}
theorem RowK.flat_len (h : RowK P TS T n f) (l : List α) : (l.flatMap f).length = l.length * n := by
  induction l with
  | nil => simp
  | cons x l ih => rw [List.flatMap_cons, List.length_append, h.len, ih, List.length_cons, Nat.succ_mul, Nat.add_comm]
theorem RowK.flat_at (h : RowK P TS T n f) (l : List α) (i : Nat) (hi : i < l.length) (j : Nat) (hj : j < n) : (l.flatMap f)[i * n + j]? = (f l[i])[j]? := by
  induction l generalizing i with
  | nil => cases hi
  | cons x l ih =>
    rw [List.flatMap_cons]
    cases i with
    | zero => rw [Nat.zero_mul, Nat.zero_add, List.getElem?_append_left (by rw [h.len]; exact hj)]; rfl
    | succ i =>
      rw [List.getElem?_append_right (by rw [h.len, Nat.succ_mul]; omega), h.len, show (i + 1) * n + j - n = i * n + j by rw [Nat.succ_mul]; omega]
      exact ih i (by simpa using hi)
theorem RowK.flat_one (h : RowK P TS T n f) (l : List α) : ∀ u ∈ l.flatMap f, u.oneCell' = true := by
  intro u hu
  obtain ⟨x, _, hx⟩ := List.mem_flatMap.1 hu
  exact h.one x u hx
/-- v is a row of the call's own that holds l -/
def OR {α : Type} (T : TypeId) (n : Nat) (f : α → List Value) (w : World) (B : Nat) (v : Value) (l : List α) : Prop := w.ownsRow B T n v l.length (l.flatMap f)
theorem OR.nil (w : World) (B : Nat) : OR T n f w B (.slice none 0 0) [] := World.ownsRow_nil _ _ _ _
theorem OR.keep {S : Nat → Prop} {w w' : World} {B : Nat} {v : Value} {l : List α} (h : OR T n f w B v l) (hk : Kept S w w') (hS : ∀ k, v.ownBlock = some k → S k) : OR T n f w' B v l := hk.owns h hS
theorem OR.below {w w' : World} {B : Nat} {v : Value} {l : List α} (h : OR T n f w B v l) (hb : Below w.heap.size w w') : OR T n f w' B v l := (Kept.ofBelow hb (fun _ => True)).owns h (fun _ _ => trivial)
theorem OR.lower {w : World} {B B' : Nat} {v : Value} {l : List α} (h : OR T n f w B v l) (hb : B' ≤ B) : OR T n f w B' v l := by
  refine ⟨h.1, ?_⟩
  rcases h.2 with h2 | ⟨g, cap, cur, h3, h4, r⟩
  · exact .inl h2
  · exact .inr ⟨g, cap, cur, h3, Nat.le_trans hb h4, r⟩
theorem OR.form (K : RowK P TS T n f) {w : World} {B : Nat} {v : Value} {l : List α} (h : OR T n f w B v l) : ∃ ao cap, v = .slice ao l.length cap ∧ Row w ao n f l ∧ l.length ≤ cap ∧ (ao = none → cap = 0) ∧ (∀ a, ao = some a → B ≤ a.block ∧ a.block < w.heap.size) ∧ v.ownBlock = ao.map (·.block) ∧ ∀ a, ao = some a → a = ⟨a.block, 0, none⟩ := by
  rcases h.2 with ⟨rfl, h0⟩ | ⟨g, cap, cur, rfl, hbg, hh, hnc, _, hcs, ht⟩
  · have : l = [] := List.eq_nil_of_length_eq_zero h0
    subst this
    exact ⟨none, 0, rfl, Row.nil w none n f, Nat.le_refl _, fun _ => rfl, (fun a e => by cases e), rfl, (fun a e => by cases e)⟩
  · refine ⟨some ⟨g, 0, none⟩, cap, rfl, fun i hi => ⟨g, 0, rfl, fun j v hv => ?_⟩, hnc, (fun e => by cases e), (fun a e => by cases e; exact ⟨hbg, lt_of_block hh⟩), rfl, (fun a e => by cases e; rfl)⟩
    have hj : j < n := by
      obtain ⟨h1, _⟩ := List.getElem?_eq_some_iff.1 hv
      rw [K.len] at h1
      exact h1
    have h1 := K.flat_at l i hi j hj
    rw [← ht, hv, List.getElem?_take] at h1
    have hin : i * n + j < l.length * n := by
      have := Nat.mul_le_mul_right n (show i + 1 ≤ l.length by omega)
      rw [Nat.succ_mul] at this
      omega
    rw [if_pos hin] at h1
    rw [Nat.zero_add, ← (by simpa using h1 : cur[i * n + j]? = some v)]
    simp [World.cell?, hh]
theorem Row.news (K : RowK P TS T n f) {w : World} {ad : Addr} {l : List α} (h : Row w (some ad) n f l) : ∀ (j : Nat) (u : Value), (l.flatMap f)[j]? = some u → w.cell? (ad.add j) = some u := by
  intro j u hj
  have hlen := K.flat_len l
  have hpos := K.pos
  have hjl : j < l.length * n := by
    obtain ⟨h1, _⟩ := List.getElem?_eq_some_iff.1 hj
    omega
  have hi : j / n < l.length := Nat.div_lt_of_lt_mul (by rw [Nat.mul_comm]; exact hjl)
  have hm : j % n < n := Nat.mod_lt _ hpos
  have ej : j = j / n * n + j % n := by rw [Nat.mul_comm]; exact (Nat.div_add_mod j n).symm
  obtain ⟨b2, o2, e, h1⟩ := h (j / n) hi
  cases e
  rw [addr_plus]
  rw [ej, K.flat_at l _ hi _ hm] at hj
  have := h1 _ _ hj
  rw [Nat.add_assoc, ← ej] at this
  exact this
/-- elements are appended to a row of the call's own -/
theorem run_app_rows (K : RowK P TS T n f) (w : World) (ty : TypeId) {B : Nat} {v : Value} {D : List α} (h : OR T n f w B v D) {ao : Option Addr} {cap : Nat} {l : List α} (hN : Row w ao n f l) (hn : ao = none → cap = 0) (hc : l.length ≤ cap) (hz : D.length + l.length ≤ 1000000) (hB : B ≤ w.heap.size) :
    ∃ v' w', (Builtin.append_ #[TS, TS] ty #[v, .slice ao l.length cap]).run P w = .ok v' w' ∧ OR T n f w' B v' (D ++ l) ∧ w.grownBy w' v.ownBlock ∧ (v'.ownBlock = v.ownBlock ∨ v'.ownBlock = some w.heap.size) := by
  obtain ⟨i0, z, bytes, hi, hz0, hz1, hz2, hz3, hz4⟩ := K.info
  cases ao with
  | none =>
    obtain rfl : cap = 0 := hn rfl
    have hl0 : l = [] := List.eq_nil_of_length_eq_zero (by omega)
    subst hl0
    refine ⟨v, w, run_append_owned_none (P := P) (w := w) B TS ty T i0 n K.under hi v _ _ h, by rw [List.append_nil]; exact h, ⟨rfl, rfl, rfl, Nat.le_refl _, fun _ _ _ => rfl⟩, .inl rfl⟩
  | some ad =>
    have hbig : (D.length + l.length) * bytes ≤ 140737488355328 := Nat.le_trans (Nat.mul_le_mul hz hz4) (by decide)
    obtain ⟨v', w', hr, h1, h2, _, h4⟩ := run_append_own_at (P := P) w B TS ty T i0 z n bytes K.under hi hz0 hz1 hz2 hz3 K.pos v D.length (D.flatMap f) h ad l.length cap (l.flatMap f) (K.flat_len l) (hN.news K) (K.flat_one l) (by unfold maxLen; omega) hbig hB
    exact ⟨v', w', hr, by unfold OR; rw [List.length_append, List.flatMap_append]; exact h1, h2, h4⟩
theorem OR.made (w : World) {B m : Nat} (hn : w.heap.size = m) (hB : B ≤ m) : OR T n f (w.alloc (.cells #[] T)) B (.slice (some ⟨m, 0, none⟩) 0 0) [] := by
  subst hn
  exact World.ownsRow_made w #[] 0 hB (Nat.zero_le _) (by simp)
/-- a block of one element, as a slice -/
theorem Row.one {W : World} {b : Nat} {t : TypeId} {x : α} (h : W.heap[b]? = some (.cells (f x).toArray t (0, 0))) : Row W (some ⟨b, 0, none⟩) n f [x] := by
  intro i hi
  obtain rfl : i = 0 := by simpa using hi
  refine ⟨b, 0, rfl, fun j v hv => ?_⟩
  rw [Nat.zero_mul, Nat.add_zero, Nat.zero_add, cell_of h j]
  simpa using hv
theorem Row.take {w : World} {ao : Option Addr} {l : List α} (h : Row w ao n f l) (k : Nat) : Row w ao n f (l.take k) := by
  intro i hi
  rw [List.length_take] at hi
  obtain ⟨bk, off, e, h1⟩ := h i (by omega)
  refine ⟨bk, off, e, fun j v hv => h1 j v ?_⟩
  rw [List.getElem_take] at hv
  exact hv
theorem Row.drop {w : World} {b o : Nat} {l : List α} (h : Row w (some ⟨b, o, none⟩) n f l) (k : Nat) : Row w (some ⟨b, o + k * n, none⟩) n f (l.drop k) := by
  intro i hi
  rw [List.length_drop] at hi
  obtain ⟨bk, off, e, h1⟩ := h (k + i) (by omega)
  cases e
  refine ⟨b, o + k * n, rfl, fun j v hv => ?_⟩
  rw [List.getElem_drop] at hv
  have := h1 j v hv
  rw [Nat.add_mul] at this
  rw [show o + k * n + i * n + j = o + (k * n + i * n) + j by omega]
  exact this
theorem Row.keep {S : Nat → Prop} {w w' : World} {ao : Option Addr} {l : List α} (h : Row w ao n f l) (hk : Kept S w w') (hS : ∀ a, ao = some a → S a.block) : Row w' ao n f l := by
  intro i hi
  obtain ⟨bk, off, e, h1⟩ := h i hi
  exact ⟨bk, off, e, fun j v hv => (World.cell?_of_block (a := ⟨bk, off + i * n + j, none⟩) (hk.block bk (hS _ e) (block_lt_of_cell (h1 j v hv)))).trans (h1 j v hv)⟩
end
/-- questions -/
theorem ask_rows : RowK Tryz.prog 67 37 9 askC where
  under := Tryz.underlying67
  info := by
    have h : (Tryz.prog.info? 37).map (fun i => (i.zero, i.size, i.bytes)) = some (some (.agg #[.int .i64 0, .int .i64 0, .int .i64 0, .int .i64 0, .int .i64 0, .int .i64 0, .string ByteArray.empty, .int .i64 0, .slice none 0 0]), 9, 96) := by kernel_rfl
    obtain ⟨i0, hi, hz0, hz1, hz2⟩ := info_parts h
    exact ⟨i0, _, 96, hi, hz0, hz1, hz2, rfl, by decide⟩
  pos := by decide
  len := fun x => rfl
  one := fun x u hu => by
    unfold askC at hu
    simp at hu
    rcases hu with h | h | h | h | h | h | h | h | h <;> (rw [h]; rfl)
end Go.Proofs.YtchhmfdalghgcaaGreat
namespace Go.Proofs.YtchhmfdalghgcaaGreat
set_option linter.unusedVariables false
open Go.RowKit
/-- a unit: its pages, its epoch, whether it is down -/
structure Us where
  p : Ps
  epoch : Int
  down : Bool
def noS : ByteArray := ⟨#[]⟩
/-- of which kind a question to pages is, its error; its data -/
def Us.pageE (u : Us) (a : Ak) : Int := if a.kind = 1 then u.p.writeE a.page a.data else if a.kind = 2 then u.p.fillE a.page else if a.kind = 3 then u.p.readE a.page else Ps.trimE a.page
def Us.pageP (u : Us) (a : Ak) : Ps := if a.kind = 1 then u.p.write a.page a.data else if a.kind = 2 then u.p.fill a.page else if a.kind = 3 then u.p else u.p.trim a.page
/-- what a question is answered -/
def Us.ans (u : Us) (a : Ak) : An :=
  if u.down = true then anP 45 0 noS 0 else if a.kind < 1 ∨ 5 < a.kind then anP 1 0 noS u.epoch else if a.epoch < u.epoch then anP 40 0 noS u.epoch
  else if a.kind = 5 then anP 0 u.p.tail noS a.epoch else anP (u.pageE a) 0 (if a.kind = 3 then u.p.readS a.page else noS) u.epoch
/-- what it makes of the unit -/
def Us.done (u : Us) (a : Ak) : Us :=
  if u.down = true ∨ (a.kind < 1 ∨ 5 < a.kind) ∨ a.epoch < u.epoch then u
  else if a.kind = 5 then ⟨u.p, a.epoch, u.down⟩ else ⟨u.pageP a, u.epoch, u.down⟩
def newU (room : Int) : Us := ⟨newP room, 0, false⟩
theorem Us.ok {u : Us} (h : u.p.Ok) (a : Ak) : (u.done a).p.Ok := by
  unfold Us.done
  split
  · exact h
  split
  · exact h
  · show (u.pageP a).Ok
    unfold Us.pageP
    split
    · exact h.write _ _
    split
    · exact h.fill _
    split
    · exact h
    · exact h.trim _
theorem Us.wide {u : Us} (h : i64w u.epoch) {a : Ak} (ha : i64w a.epoch) : i64w (u.done a).epoch := by
  unfold Us.done
  split
  · exact h
  split
  · exact ha
  · exact h
theorem ans_L (u : Us) (a : Ak) : (u.ans a).L = [] := by
  unfold Us.ans
  repeat' split
  all_goals rfl
end Go.Proofs.YtchhmfdalghgcaaGreat
namespace Go.Proofs.YtchhmfdalghgcaaGreat
set_option linter.unusedVariables false
open Go.RowKit
/-- a sequencer: its epoch, the tail, whether it knows it -/
structure Od where
  epoch : Int
  tail : Int
  knows : Bool
def noT : ByteArray := ⟨#[]⟩
def Od.ans (o : Od) (a : Ak) : An :=
  if a.kind = 8 then (if a.epoch ≤ o.epoch then anP 40 0 noT o.epoch else if a.page < 0 ∨ 16384 < a.page then anP 1 0 noT o.epoch else anP 0 0 noT a.epoch)
  else if a.kind = 6 ∨ a.kind = 7 then (if a.epoch ≠ o.epoch then anP 40 0 noT o.epoch else if o.knows = false then anP 47 0 noT o.epoch else if a.kind = 7 then anP 0 o.tail noT o.epoch else if o.tail = 16384 then anP 44 0 noT o.epoch else anP 0 o.tail noT o.epoch)
  else anP 1 0 noT o.epoch
def Od.done (o : Od) (a : Ak) : Od :=
  if a.kind = 8 ∧ o.epoch < a.epoch ∧ 0 ≤ a.page ∧ a.page ≤ 16384 then ⟨a.epoch, a.page, true⟩
  else if a.kind = 6 ∧ a.epoch = o.epoch ∧ o.knows = true ∧ o.tail ≠ 16384 then ⟨o.epoch, o.tail + 1, o.knows⟩ else o
def newO : Od := ⟨-1, 0, false⟩
/-- a sequencer as the calls make it -/
structure Od.Ok (o : Od) : Prop where
  epoch : i64w o.epoch
  tail : 0 ≤ o.tail ∧ o.tail ≤ 16384
theorem newO_ok : newO.Ok := ⟨WalkArith.wf_i64 (n := -1) (by decide), by decide⟩
theorem Od.Ok.done {o : Od} (h : o.Ok) {a : Ak} (ha : i64w a.epoch) : (o.done a).Ok := by
  unfold Od.done
  split
  · next hc => exact ⟨ha, hc.2.2⟩
  split
  · next hc => exact ⟨h.epoch, by have := h.tail; have := hc.2.2.2; show 0 ≤ o.tail + 1 ∧ o.tail + 1 ≤ 16384; omega⟩
  · exact h
theorem Od.Ok.turn {o : Od} (h : o.Ok) (d : Bool) : (⟨o.epoch, o.tail, d⟩ : Od).Ok := ⟨h.epoch, h.tail⟩
/-- an answer that tells no projection, as a value -/
def anW (c n : Int) (s : ByteArray) (e : Int) : Value := .agg #[.int .i64 c, .int .i64 n, .string s, .int .i64 0, .slice none 0 0, .int .i64 0, .int .i64 0, .int .i64 e]
theorem ansV_O (o : Od) (a : Ak) : ansV (o.ans a) none 0 = anW (o.ans a).code (o.ans a).n (o.ans a).data (o.ans a).epoch := by
  unfold Od.ans
  repeat' split
  all_goals rfl
end Go.Proofs.YtchhmfdalghgcaaGreat
namespace Go.Proofs.YtchhmfdalghgcaaGreat
set_option linter.unusedVariables false
open Go.RowKit
set_option maxRecDepth 20000
theorem ans_ret {fn : Func} {p : Tmp} (h : fn.results = #[.cell p 33]) {a : Act} {w : World} {g : Nat} {x : An} {ao : Option Addr} {cap : Nat} {R : Ending → World → Prop}
    (hg : w.heap[g]? = some (.cells (ansC x ao cap).toArray 33 (0, 0))) (hp : a.tmps.getD p undef = .pointer (some ⟨g, 0, none⟩)) (hd : a.defers = [])
    (hR : R (.returned (ansV x ao cap)) w) : bodyPost Tryz.prog fn R .ret a w :=
  bodyPost_ret (results_cell_row h a.tmps w g 33 (ansC x ao cap).toArray (0, 0) _ hp hg Tryz.underlying33 rfl (by kernel_rfl)) hd hR
theorem eight_cells {w : World} {b : Nat} {v0 v1 v2 v3 v4 v5 v6 v7 : Value} {t : TypeId} (h : w.heap[b]? = some (.cells #[v0, v1, v2, v3, v4, v5, v6, v7] t (0, 0))) :
    (w.cell? ⟨b, 0, none⟩ = some v0 ∧ w.cell? ⟨b, 1, none⟩ = some v1 ∧ w.cell? ⟨b, 2, none⟩ = some v2 ∧ w.cell? ⟨b, 3, none⟩ = some v3 ∧ w.cell? ⟨b, 4, none⟩ = some v4 ∧ w.cell? ⟨b, 5, none⟩ = some v5 ∧ w.cell? ⟨b, 6, none⟩ = some v6 ∧ w.cell? ⟨b, 7, none⟩ = some v7) ∧
    w.frozen? ⟨b, 0, none⟩ = false ∧ w.frozen? ⟨b, 1, none⟩ = false ∧ w.frozen? ⟨b, 2, none⟩ = false ∧ w.frozen? ⟨b, 3, none⟩ = false ∧ w.frozen? ⟨b, 4, none⟩ = false ∧ w.frozen? ⟨b, 5, none⟩ = false ∧ w.frozen? ⟨b, 6, none⟩ = false ∧ w.frozen? ⟨b, 7, none⟩ = false :=
  ⟨⟨cell_of h 0, cell_of h 1, cell_of h 2, cell_of h 3, cell_of h 4, cell_of h 5, cell_of h 6, cell_of h 7⟩, free_of h 0, free_of h 1, free_of h 2, free_of h 3, free_of h 4, free_of h 5, free_of h 6, free_of h 7⟩
theorem eight_set0 {w : World} {b : Nat} {x0 x1 x2 x3 x4 x5 x6 x7 : Value} {t : TypeId} (h : w.heap[b]? = some (.cells #[x0, x1, x2, x3, x4, x5, x6, x7] t (0, 0))) (u : Value) : (w.setCell ⟨b, 0, none⟩ u).heap[b]? = some (.cells #[u, x1, x2, x3, x4, x5, x6, x7] t (0, 0)) :=
  heap_setCell_same w b 0 #[x0, x1, x2, x3, x4, x5, x6, x7] t u h
theorem eight_set1 {w : World} {b : Nat} {x0 x1 x2 x3 x4 x5 x6 x7 : Value} {t : TypeId} (h : w.heap[b]? = some (.cells #[x0, x1, x2, x3, x4, x5, x6, x7] t (0, 0))) (u : Value) : (w.setCell ⟨b, 1, none⟩ u).heap[b]? = some (.cells #[x0, u, x2, x3, x4, x5, x6, x7] t (0, 0)) :=
  heap_setCell_same w b 1 #[x0, x1, x2, x3, x4, x5, x6, x7] t u h
theorem eight_set2 {w : World} {b : Nat} {x0 x1 x2 x3 x4 x5 x6 x7 : Value} {t : TypeId} (h : w.heap[b]? = some (.cells #[x0, x1, x2, x3, x4, x5, x6, x7] t (0, 0))) (u : Value) : (w.setCell ⟨b, 2, none⟩ u).heap[b]? = some (.cells #[x0, x1, u, x3, x4, x5, x6, x7] t (0, 0)) :=
  heap_setCell_same w b 2 #[x0, x1, x2, x3, x4, x5, x6, x7] t u h
theorem eight_set3 {w : World} {b : Nat} {x0 x1 x2 x3 x4 x5 x6 x7 : Value} {t : TypeId} (h : w.heap[b]? = some (.cells #[x0, x1, x2, x3, x4, x5, x6, x7] t (0, 0))) (u : Value) : (w.setCell ⟨b, 3, none⟩ u).heap[b]? = some (.cells #[x0, x1, x2, u, x4, x5, x6, x7] t (0, 0)) :=
  heap_setCell_same w b 3 #[x0, x1, x2, x3, x4, x5, x6, x7] t u h
theorem eight_set4 {w : World} {b : Nat} {x0 x1 x2 x3 x4 x5 x6 x7 : Value} {t : TypeId} (h : w.heap[b]? = some (.cells #[x0, x1, x2, x3, x4, x5, x6, x7] t (0, 0))) (u : Value) : (w.setCell ⟨b, 4, none⟩ u).heap[b]? = some (.cells #[x0, x1, x2, x3, u, x5, x6, x7] t (0, 0)) :=
  heap_setCell_same w b 4 #[x0, x1, x2, x3, x4, x5, x6, x7] t u h
theorem eight_set5 {w : World} {b : Nat} {x0 x1 x2 x3 x4 x5 x6 x7 : Value} {t : TypeId} (h : w.heap[b]? = some (.cells #[x0, x1, x2, x3, x4, x5, x6, x7] t (0, 0))) (u : Value) : (w.setCell ⟨b, 5, none⟩ u).heap[b]? = some (.cells #[x0, x1, x2, x3, x4, u, x6, x7] t (0, 0)) :=
  heap_setCell_same w b 5 #[x0, x1, x2, x3, x4, x5, x6, x7] t u h
theorem eight_set6 {w : World} {b : Nat} {x0 x1 x2 x3 x4 x5 x6 x7 : Value} {t : TypeId} (h : w.heap[b]? = some (.cells #[x0, x1, x2, x3, x4, x5, x6, x7] t (0, 0))) (u : Value) : (w.setCell ⟨b, 6, none⟩ u).heap[b]? = some (.cells #[x0, x1, x2, x3, x4, x5, u, x7] t (0, 0)) :=
  heap_setCell_same w b 6 #[x0, x1, x2, x3, x4, x5, x6, x7] t u h
theorem eight_set7 {w : World} {b : Nat} {x0 x1 x2 x3 x4 x5 x6 x7 : Value} {t : TypeId} (h : w.heap[b]? = some (.cells #[x0, x1, x2, x3, x4, x5, x6, x7] t (0, 0))) (u : Value) : (w.setCell ⟨b, 7, none⟩ u).heap[b]? = some (.cells #[x0, x1, x2, x3, x4, x5, x6, u] t (0, 0)) :=
  heap_setCell_same w b 7 #[x0, x1, x2, x3, x4, x5, x6, x7] t u h
theorem kept_new {S : Nat → Prop} {w W : World} (h : Kept S w W) {b o : Nat} (hb : w.heap.size ≤ b) (v : Value) : Kept S w (W.setCell ⟨b, o, none⟩ v) := by
  have h1 : Kept (fun k => S k ∧ k < w.heap.size) w (W.setCell ⟨b, o, none⟩ v) := (h.mono (fun k hk => hk.1)).setCell (p := ⟨b, o, none⟩) (fun hk => by have := hk.2; simp at this; omega) v
  exact ⟨h1.os, h1.tape, h1.output, h1.size, fun k hk hl => h1.block k ⟨hk, hl⟩ hl⟩
end Go.Proofs.YtchhmfdalghgcaaGreat
namespace Go.Proofs.YtchhmfdalghgcaaGreat
set_option linter.unusedVariables false
open Go.ChangeShapes Go.WideShapes Go.ChangeAt Go.RowKit
set_option maxRecDepth 20000
/-- a step: what to do, and a question -/
structure Sk where
  k : Int
  a : Ak
instance : Inhabited Ak := ⟨⟨0, 0, 0, 0, 0, 0, ⟨#[]⟩, 0, [], none, 0⟩⟩
instance : Inhabited Sk := ⟨⟨0, default⟩⟩
section
variable {H : Type} {enc : TypeId × Value → H} {P : Program} {w : World} {base : Nat} {spare : Nat → Bool} {held : Bool}
end
end Go.Proofs.YtchhmfdalghgcaaGreat
namespace Go.Proofs.YtchhmfdalghgcaaGreat
set_option linter.unusedVariables false
open Go.RowKit
/-- a layout: the projection that counts, the units that were used, the image that counts -/
structure Ly where
  ep : Int
  L : List (List Int)
  used : List Int
  mark : Int
  size : Int
  n : Int
def noL : ByteArray := ⟨#[]⟩
/-- may a projection come next? -/
def Ly.may (y : Ly) (e : Int) (Q : List (List Int)) : Bool := nextB y.ep y.L e Q && (unitsR Q).all (fun u => decide (u ∈ unitsR y.L) || !decide (u ∈ y.used))
/-- is a mark out of bounds? -/
def badM (a : Ak) : Prop := a.page < 0 ∨ 16384 ≤ a.page ∨ a.size < 1 ∨ 65536 < a.size ∨ a.n < 0 ∨ 16384 < a.n
instance (a : Ak) : Decidable (badM a) := by unfold badM; infer_instance
def anL (c : Int) (e : Int) (L : List (List Int)) : An := ⟨c, 0, noL, e, L, 0, 0, 0⟩
def anM (n mark size : Int) : An := ⟨0, n, noL, 0, [], mark, size, 0⟩
def Ly.ans (y : Ly) (a : Ak) : An :=
  if a.kind = 9 then ⟨0, y.n, noL, y.ep, y.L, y.mark, y.size, 0⟩
  else if a.kind = 10 then (if y.may a.pe a.L = true then anL 0 a.pe a.L else anL 48 y.ep y.L)
  else if a.kind = 11 then (if badM a then anP 1 0 noL 0 else if y.n < a.n then anM a.n a.page a.size else anM y.n y.mark y.size)
  else anP 1 0 noL 0
def Ly.done (y : Ly) (a : Ak) : Ly :=
  if a.kind = 10 then (if y.may a.pe a.L = true then ⟨a.pe, a.L, y.used ++ unitsR a.L, y.mark, y.size, y.n⟩ else y)
  else if a.kind = 11 ∧ ¬ badM a ∧ y.n < a.n then ⟨y.ep, y.L, y.used, a.page, a.size, a.n⟩ else y
def newL (ep : Int) (L : List (List Int)) : Ly := ⟨ep, L, unitsR L, -1, 0, -1⟩
/-- a layout as the calls make it; k: how many units were noted at most -/
structure Ly.Ok (y : Ly) (k : Nat) : Prop where
  good : goodB y.ep y.L = true
  few : y.used.length ≤ k
  n : -1 ≤ y.n ∧ y.n ≤ 16384
  mark : -1 ≤ y.mark ∧ y.mark ≤ 16384
  size : 0 ≤ y.size ∧ y.size ≤ 65536
end Go.Proofs.YtchhmfdalghgcaaGreat
