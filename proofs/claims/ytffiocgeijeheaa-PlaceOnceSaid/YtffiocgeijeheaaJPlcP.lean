/- Rows of pairs of numbers: what their cells hold; rows of such pairs that a call makes for itself by append. No conditions. -/
import Derived.Test.YtffiocgeijeheaaJPrjP
set_option linter.unusedVariables false
namespace Go.Proofs.Ytffiocgeijeheaa
open Go.ChangeShapes Go.WideShapes Go.ChangeAt Go.RowKit
set_option maxRecDepth 20000
/-- the row at ao holds the pairs K, two cells each -/
def PL (w : World) (ao : Option Addr) (K : List (Int × Int)) : Prop :=
  ∀ i (h : i < K.length), ∃ bk off, ao = some ⟨bk, off, none⟩ ∧ w.cell? ⟨bk, off + i * 2, none⟩ = some (.int .i64 K[i].1) ∧ w.cell? ⟨bk, off + i * 2 + 1, none⟩ = some (.int .i64 K[i].2) ∧ (Lit.int .i64 K[i].1).wf = true ∧ (Lit.int .i64 K[i].2).wf = true
theorem PL.nil (w : World) (ao : Option Addr) : PL w ao [] := fun i h => absurd h (Nat.not_lt_zero i)
theorem PL.below {w w' : World} {ao : Option Addr} {K : List (Int × Int)} (h : PL w ao K) (hb : Below w.heap.size w w') : PL w' ao K := by
  intro i hi
  obtain ⟨bk, off, h1, h2, h3, h4⟩ := h i hi
  exact ⟨bk, off, h1, cellB hb (block_lt_of_cell h2) h2, cellB hb (block_lt_of_cell h3) h3, h4⟩
section
variable {H : Type} {enc : TypeId × Value → H} {P : Program} {w : World} {base : Nat} {spare : Nat → Bool} {held : Bool}
/-- an array of two numbers, as its cells -/
theorem pair_cs {n : Nat} {cs : List Value} {y : DataW H × List MemPlace} {t e : TypeId} (ht : P.underlying t = some (.array 2 e)) (he : P.underlying e = some (.int .i64)) (hc : P.cellsOf e = 1) (hl : cs.length = 2)
    (hf : DataW.trod enc P w base spare held n t cs = some y) : ∃ a b : Int, cs = [.int .i64 a, .int .i64 b] ∧ (Lit.int .i64 a).wf = true ∧ (Lit.int .i64 b).wf = true := by
  obtain ⟨xs, m, _, _, hl2, hx, hall⟩ := DataW.trod_array ht hf
  match cs, hl with
  | [x, z], _ =>
    have h0 := hall 0 (by omega)
    have h1 := hall 1 (by omega)
    rw [hc, List.getElem?_eq_getElem (by omega)] at h0 h1
    obtain ⟨a, e0, _, w0⟩ := DataW.trod_int he h0
    obtain ⟨b, e1, _, w1⟩ := DataW.trod_int he h1
    simp at e0 e1
    exact ⟨a, b, by rw [e0, e1], w0, w1⟩
/-- a slice of arrays of two numbers that was handed over -/
theorem open_pairs {r : Reach} {b0 : Nat} {t p e : TypeId} {v : Value} {d : DataW H} {pl : List MemPlace} (ht : P.underlying t = some (.slice p)) (hp : P.underlying p = some (.array 2 e)) (he : P.underlying e = some (.int .i64)) (hc : P.cellsOf e = 1) (hcp : P.cellsOf p = 2)
    (hv : Value.okWide P w r b0 t v) (h : DataW.Trod enc P w base spare held t v d pl) : ∃ ao cap K, v = .slice ao K.length cap ∧ K.length ≤ maxLen ∧ PL w ao K := by
  obtain ⟨a0, n0, k0, rfl⟩ := okWide_slice ht hv
  obtain ⟨fuel, hf⟩ := h
  simp only [Value.cells] at hf
  rcases Deep.open_slice ht hf with ⟨h0, _⟩ | ⟨a, len, cap, m, n, D, Pl, hcs, _, hl, hm, hmm, _, hi⟩
  · simp at h0
    obtain ⟨rfl, rfl, rfl⟩ := h0
    exact ⟨none, 0, [], rfl, Nat.zero_le _, PL.nil w none⟩
  simp at hcs
  obtain ⟨rfl, rfl, rfl⟩ := hcs
  have hlm : n0 ≤ m := by rw [hmm]; split <;> omega
  rw [hcp] at hi
  have each : ∀ i, i < n0 → ∃ x : Int × Int, w.cell? (a.add (i * 2)) = some (.int .i64 x.1) ∧ w.cell? (a.add (i * 2 + 1)) = some (.int .i64 x.2) ∧ (Lit.int .i64 x.1).wf = true ∧ (Lit.int .i64 x.2).wf = true := by
    intro i hin
    obtain ⟨cs, hcl, htr⟩ := hi i (by omega)
    obtain ⟨_, hlen, hat⟩ := World.cells?_some hcl
    obtain ⟨x, y, rfl, w0, w1⟩ := pair_cs hp he hc hlen htr
    have a0 := hat 0 (by simp)
    have a1 := hat 1 (by simp)
    rw [Deep.add_add] at a0 a1
    exact ⟨(x, y), a0, a1, w0, w1⟩
  obtain ⟨F, hF⟩ := Deep.choose_lt each
  refine ⟨some a, k0, (List.range n0).map F, by simp, by simp; omega, fun i hi => ?_⟩
  have hin : i < n0 := by simpa using hi
  rw [List.getElem_map, List.getElem_range]
  obtain ⟨b0, b1, ok⟩ := hF i hin
  obtain ⟨z0, _⟩ := hF 0 (by omega)
  have hs := cell_spot z0
  obtain ⟨bk, off, sp⟩ := a
  rw [show ((⟨bk, off, sp⟩ : Addr).add (0 * 2)) = ⟨bk, off, sp⟩ from rfl] at hs
  simp only at hs
  subst hs
  rw [addr_plus] at b0 b1
  exact ⟨bk, off, rfl, b0, by rw [Nat.add_assoc]; exact b1, ok⟩
end
/-- the cells of pairs -/
def cellsK (K : List (Int × Int)) : List Value := K.flatMap (fun e => [.int .i64 e.1, .int .i64 e.2])
theorem cellsK_length (K : List (Int × Int)) : (cellsK K).length = K.length * 2 := by
  induction K with
  | nil => rfl
  | cons e K ih =>
    show (_ :: _ :: cellsK K).length = _
    simp [ih]
    omega
theorem cellsK_snoc (K : List (Int × Int)) (e : Int × Int) : cellsK (K ++ [e]) = cellsK K ++ [.int .i64 e.1, .int .i64 e.2] := by simp [cellsK]
theorem cellsK_at (K : List (Int × Int)) (i : Nat) (h : i < K.length) : (cellsK K)[i * 2]? = some (.int .i64 K[i].1) ∧ (cellsK K)[i * 2 + 1]? = some (.int .i64 K[i].2) := by
  induction K generalizing i with
  | nil => cases h
  | cons e K ih =>
    have hc : cellsK (e :: K) = .int .i64 e.1 :: .int .i64 e.2 :: cellsK K := rfl
    rw [hc]
    cases i with
    | zero => exact ⟨rfl, rfl⟩
    | succ i =>
      have := ih i (by simpa using h)
      rw [show (i + 1) * 2 = i * 2 + 1 + 1 by omega]
      simpa using this
/-- v is a row of the call's own that holds the pairs K -/
def OP (w : World) (B : Nat) (v : Value) (K : List (Int × Int)) : Prop := w.ownsRow B 48 2 v K.length (cellsK K) ∧ ∀ e ∈ K, (Lit.int .i64 e.1).wf = true ∧ (Lit.int .i64 e.2).wf = true
theorem OP.nil (w : World) (B : Nat) : OP w B (.slice none 0 0) [] := ⟨World.ownsRow_nil _ _ _ _, fun e h => by cases h⟩
theorem OP.kept {w w' : World} {B : Nat} {v : Value} {K : List (Int × Int)} {row : Option Nat} (h : OP w B v K) (hg : w.grownBy w' row) (hne : v.ownBlock = none ∨ v.ownBlock ≠ row) : OP w' B v K := ⟨h.1.kept hg hne, h.2⟩
theorem OP.below {w w' : World} {B : Nat} {v : Value} {K : List (Int × Int)} (h : OP w B v K) (hb : Below w.heap.size w w') : OP w' B v K :=
  ⟨(Kept.ofBelow hb (fun _ => True)).owns h.1 (fun _ _ => trivial), h.2⟩
theorem OP.form {w : World} {B : Nat} {v : Value} {K : List (Int × Int)} (h : OP w B v K) : ∃ ao cap, v = .slice ao K.length cap ∧ PL w ao K := by
  rcases h.1.2 with ⟨rfl, h0⟩ | ⟨g, cap, cur, rfl, hbg, hh, hnc, _, hcs, ht⟩
  · have : K = [] := List.eq_nil_of_length_eq_zero h0
    subst this
    exact ⟨none, 0, rfl, PL.nil w none⟩
  · refine ⟨some ⟨g, 0, none⟩, cap, rfl, fun i hi => ?_⟩
    obtain ⟨h1, h2⟩ := cellsK_at K i hi
    rw [← ht, List.getElem?_take, if_pos (by omega)] at h1 h2
    have h1' : cur[i * 2]? = some (.int .i64 K[i].1) := by simpa using h1
    have h2' : cur[i * 2 + 1]? = some (.int .i64 K[i].2) := by simpa using h2
    refine ⟨g, 0, rfl, ?_, ?_, h.2 _ (List.getElem_mem hi)⟩
    · rw [Nat.zero_add, ← h1']
      simp [World.cell?, hh]
    · rw [Nat.zero_add, ← h2']
      simp [World.cell?, hh]
theorem count_info : (Try.prog.info? 48).map (fun i => (i.zero, i.size, i.bytes)) = some (some (.agg #[.int .i64 0, .int .i64 0]), 2, 16) := by kernel_rfl
theorem made_pair (w : World) (x y : Value) (t : TypeId) : ∀ (j : Nat) (u : Value), [x, y][j]? = some u → (w.alloc (.cells #[x, y] t)).cell? ((⟨w.heap.size, 0, none⟩ : Addr).add j) = some u := by
  intro j u hj
  match j, hj with
  | 0, hj => cases hj; rw [show ((⟨w.heap.size, 0, none⟩ : Addr).add 0) = ⟨w.heap.size, 0, none⟩ from rfl, World.cell?_alloc_new]; rfl
  | 1, hj => cases hj; rw [addr_plus, World.cell?_alloc_new]; rfl
  | j + 2, hj => simp at hj
/-- append(k, Count{x, y}) -/
theorem run_app_pair (w : World) (ty : TypeId) {B : Nat} {v : Value} {K : List (Int × Int)} (h : OP w B v K) {x y : Int} (hx : (Lit.int .i64 x).wf = true) (hy : (Lit.int .i64 y).wf = true) (hz : K.length + 1 ≤ 1000000) (hB : B ≤ w.heap.size) :
    ∃ v' w', (Builtin.append_ #[46, 46] ty #[v, .slice (some ⟨w.heap.size, 0, none⟩) 1 1]).run Try.prog (w.alloc (.cells #[.int .i64 x, .int .i64 y] 48)) = .ok v' w' ∧ OP w' B v' (K ++ [(x, y)]) ∧ Below B w w' := by
  obtain ⟨i0, hi, hz0, hz1, hz2⟩ := info_parts count_info
  have hb1 : Below w.heap.size w (w.alloc (.cells #[.int .i64 x, .int .i64 y] 48)) := (Below.refl _ _).alloc (Nat.le_refl _) _
  obtain ⟨h1, h2⟩ := h.below hb1
  obtain ⟨v', w', hr, h5, hg, _, hat⟩ := run_append_own_at (P := Try.prog) (w.alloc (.cells #[.int .i64 x, .int .i64 y] 48)) B 46 ty 48 i0 (.agg #[.int .i64 0, .int .i64 0]) 2 16 Try.underlying46 hi hz0 hz1 hz2 rfl (by decide) v K.length (cellsK K) h1 ⟨w.heap.size, 0, none⟩ 1 1 [.int .i64 x, .int .i64 y] rfl (made_pair w _ _ _) (fun u hu => by
    rcases List.mem_cons.1 hu with rfl | hu
    · rfl
    · rw [List.mem_singleton.1 hu]; rfl) (by unfold maxLen; omega) (by omega) (Nat.le_trans hB hb1.size)
  refine ⟨v', w', hr, ⟨by rw [List.length_append, cellsK_snoc]; exact h5, fun e he => ?_⟩, (hb1.mono hB).grown hg (Nat.le_trans hB hb1.size) (fun k hk => (h.1.lt k hk).1)⟩
  rcases List.mem_append.1 he with he | he
  · exact h2 e he
  · rw [List.mem_singleton.1 he]; exact ⟨hx, hy⟩
end Go.Proofs.Ytffiocgeijeheaa
