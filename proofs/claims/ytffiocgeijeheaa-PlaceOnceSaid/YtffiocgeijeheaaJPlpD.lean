/- Places as keys of a map; the places at which units' pages end, as a list; what is told of them. Conditions: numbers of 64 bits. -/
import Derived.Test.YtffiocgeijeheaaJPlpC
import Derived.Test.YtffiocgeijeheaaJKeys
import Derived.Maps.RangeWalk
set_option linter.unusedVariables false
namespace Go.Proofs.Ytffiocgeijeheaa
open Go.RowKit Go.Maps
set_option maxRecDepth 20000
theorem agg_two {P : Program} {k : TypeId} {f0 f1 : Field} (hk : P.underlying k = some (.struct #[f0, f1])) (hc : P.cellsOf k = 2) {v : Value} (h : v.formed P k = true) : ∃ x y, v = .agg #[x, y] := by
  cases v with
  | agg cs =>
    simp only [Value.formed, hk, hc, beq_iff_eq] at h
    obtain ⟨l⟩ := cs
    match l, h with
    | [x, y], _ => exact ⟨x, y, rfl⟩
  | _ => simp [Value.formed, hk] at h
theorem key_two_inv {P : Program} {k ti : TypeId} {f0 f1 : Field} (hk : P.underlying k = some (.struct #[f0, f1])) (hc : P.cellsOf k = 2) (hn0 : (f0.name != "_") = true) (hn1 : (f1.name != "_") = true) (h0 : (f0.offset, f0.type) = (0, ti)) (h1 : (f1.offset, f1.type) = (1, ti)) (ci : P.cellsOf ti = 1) (ui : P.underlying ti = some (.int .i64))
    (hkt : P.keyType k = true) {n : Nat} (hs : P.types.size = n + 1) {v : Value} {kl : Lit} (h : keyOf P k v = some kl) : ∃ x y, v = .agg #[.int .i64 x, .int .i64 y] ∧ (Lit.int .i64 x).wf = true ∧ (Lit.int .i64 y).wf = true := by
  have e0 : f0.offset = 0 := congrArg Prod.fst h0
  have e1 : f0.type = ti := congrArg Prod.snd h0
  have e2 : f1.offset = 1 := congrArg Prod.fst h1
  have e3 : f1.type = ti := congrArg Prod.snd h1
  unfold keyOf at h
  rw [hk] at h
  simp only [hkt, Bool.true_and] at h
  split at h
  · next hf =>
    obtain ⟨x, y, rfl⟩ := agg_two hk hc hf
    rw [hs] at h
    simp only [Value.cells] at h
    unfold Program.keyLits at h
    rw [hk] at h
    simp [hc, hn0, hn1, e0, e1, e2, e3, ci] at h
    have one : ∀ (z : Value) (l : List Lit), P.keyLits (n + 1) ti [z] = some l → ∃ a, z = .int .i64 a ∧ (Lit.int .i64 a).wf = true := by
      intro z l hz
      unfold Program.keyLits at hz
      rw [ui] at hz
      cases z with
      | int q a =>
        by_cases hq : q = IntKind.i64 ∧ (Lit.int .i64 a).wf = true
        · obtain ⟨rfl, h1⟩ := hq
          exact ⟨a, rfl, h1⟩
        · simp [hq] at hz
      | _ => simp at hz
    cases ex : P.keyLits (n + 1) ti [x] with
    | none => simp [ex] at h
    | some l1 =>
      cases ey : P.keyLits (n + 1) ti [y] with
      | none => simp [ex, ey] at h
      | some l2 =>
        obtain ⟨a, rfl, ha⟩ := one x l1 ex
        obtain ⟨b, rfl, hb⟩ := one y l2 ey
        exact ⟨a, b, rfl, ha, hb⟩
  · cases h
theorem place_key_row : (26 : TypeId) < Try.prog.types.size := of_decide_eq_true (by kernel_rfl)
theorem place_law : Keyed Try.prog 26 := Keyed.of_law (deep_law_laid laidOut (m := 2) (by omega) place_key_row (by kernel_rfl) (by rw [Try.underlying26]))
/-- a place as a key -/
def klP (x : Int × Int) : Lit := .string (keyBytes [.int .i64 x.1, .int .i64 x.2])
def wfP (x : Int × Int) : Prop := (Lit.int .i64 x.1).wf = true ∧ (Lit.int .i64 x.2).wf = true
theorem place_key (x : Int × Int) (h : wfP x) : keyOf Try.prog 26 (.agg #[.int .i64 x.1, .int .i64 x.2]) = some (klP x) := by
  obtain ⟨n, hn⟩ := types_succ
  exact key_two Try.underlying26 (by kernel_rfl) (by rfl) (by rfl) rfl rfl (by kernel_rfl) Try.underlying3 (by kernel_rfl) hn h.1 h.2
theorem place_inv {v : Value} {kl : Lit} (h : keyOf Try.prog 26 v = some kl) : ∃ x : Int × Int, v = .agg #[.int .i64 x.1, .int .i64 x.2] ∧ wfP x := by
  obtain ⟨n, hn⟩ := types_succ
  obtain ⟨x, y, e, h1, h2⟩ := key_two_inv Try.underlying26 (by kernel_rfl) (by rfl) (by rfl) rfl rfl (by kernel_rfl) Try.underlying3 (by kernel_rfl) hn h
  exact ⟨(x, y), e, h1, h2⟩
theorem place_inj {x y : Int × Int} (h : (Value.agg #[.int .i64 x.1, .int .i64 x.2]) = .agg #[.int .i64 y.1, .int .i64 y.2]) : x = y := by
  obtain ⟨a, b⟩ := x
  obtain ⟨c, d⟩ := y
  simp at h
  rw [h.1, h.2]
theorem klP_inj {x y : Int × Int} (hx : wfP x) (hy : wfP y) (h : klP x = klP y) : x = y := place_inj (place_law.inj (place_key x hx) (h ▸ place_key y hy))
theorem klP_key {x : Int × Int} (hx : wfP x) : WideAt.IsKeyLit (klP x) := place_law.key (place_key x hx)
/-- the set of places S -/
def setP (S : List (Int × Int)) : DataW Unit := setOf (.agg []) (S.map klP)
theorem setP_snoc (S : List (Int × Int)) (x : Int × Int) : setP (S ++ [x]) = (setP S).put (klP x) (.agg []) := by
  unfold setP
  rw [List.map_append]
  exact setOf_snoc _ _ _
theorem setP_has {S : List (Int × Int)} (hS : ∀ x ∈ S, wfP x) {x : Int × Int} (hx : wfP x) : Maps.has (setP S) (klP x) = decide (x ∈ S) := by
  unfold setP
  rw [has_setOf]
  · rw [Bool.eq_iff_iff, List.any_eq_true, decide_eq_true_eq]
    constructor
    · rintro ⟨l, hl, hs⟩
      obtain ⟨v, hv, rfl⟩ := List.mem_map.1 hl
      rw [← klP_inj (hS v hv) hx (WideAt.sameKey_eq hs)]
      exact hv
    · intro h
      exact ⟨klP x, List.mem_map.2 ⟨x, h, rfl⟩, WideAt.sameKey_self (klP_key hx)⟩
  · intro l hl
    obtain ⟨v, hv, rfl⟩ := List.mem_map.1 hl
    exact klP_key (hS v hv)
/-- what is told of unit u; 0, if nothing is -/
def valK (K : List (Int × Int)) (u : Int) : Int := ((K.find? (fun e => e.1 == u)).map (·.2)).getD 0
/-- how many pages that makes, 4096 at most -/
def pagK (K : List (Int × Int)) (u : Int) : Int := if 4096 < valK K u then 4096 else valK K u
theorem valK_at {D : DataW Unit} {K : List (Int × Int)} (h : MK D K) {u : Int} (hu : (Lit.int .i64 u).wf = true) : D.atKey (.int .i64 u) (.lit (.int .i64 0)) = .lit (.int .i64 (valK K u)) := by
  unfold valK
  cases e : K.find? (fun e => e.1 == u) with
  | none =>
    have hn : u ∉ K.map (·.1) := by
      intro hm
      obtain ⟨x, hx, hx2⟩ := List.mem_map.1 hm
      have := List.find?_eq_none.1 e x hx
      simp [hx2] at this
    exact atKey_of_not_has (by rw [h.hs u hu]; exact decide_eq_false hn) _
  | some x =>
    have h1 := List.mem_of_find?_eq_some e
    have h2 : x.1 = u := by simpa using List.find?_some e
    rw [← h2]
    exact h.at_ x h1 _
theorem valK_mem {K : List (Int × Int)} (h : (K.map (·.1)).Nodup) {e : Int × Int} (he : e ∈ K) : valK K e.1 = e.2 := by
  unfold valK
  induction K with
  | nil => cases he
  | cons x K ih =>
    rw [List.map_cons, List.nodup_cons] at h
    rcases List.mem_cons.1 he with rfl | he
    · simp
    · have hne : x.1 ≠ e.1 := fun e2 => h.1 (e2 ▸ List.mem_map.2 ⟨e, he, rfl⟩)
      rw [List.find?_cons_of_neg (by simpa using hne)]
      exact ih h.2 he
theorem valK_pos {K : List (Int × Int)} {u : Int} (h : 0 < pagK K u) : ∃ e ∈ K, e.1 = u ∧ 0 < e.2 ∧ pagK K u = min e.2 4096 := by
  unfold pagK at h ⊢
  unfold valK at h ⊢
  cases e : K.find? (fun e => e.1 == u) with
  | none => rw [e] at h; simp at h
  | some x =>
    rw [e] at h
    refine ⟨x, List.mem_of_find?_eq_some e, by simpa using List.find?_some e, ?_, ?_⟩
    · simp at h
      split at h <;> omega
    · simp
      split <;> omega
/-- where a unit of chain i ends, if it has pages -/
def stepE (K : List (Int × Int)) (i u : Int) : List (Int × Int) := if 0 < pagK K u then [(i, pagK K u - 1)] else []
def endsC (K : List (Int × Int)) (i : Int) (c : List Int) : List (Int × Int) := c.flatMap (stepE K i)
/-- where the units of the first n chains end, and the first k ones of the next -/
def endsL (K : List (Int × Int)) (L : List (List Int)) (n k : Nat) : List (Int × Int) := (List.range n).flatMap (fun (i : Nat) => endsC K (i : Int) (L.getD i [])) ++ endsC K (n : Int) ((L.getD n []).take k)
theorem endsL_zero (K : List (Int × Int)) (L : List (List Int)) : endsL K L 0 0 = [] := by simp [endsL, endsC]
theorem endsL_succ {K : List (Int × Int)} {L : List (List Int)} {n k : Nat} (hn : n < L.length) (hk : k < L[n].length) : endsL K L n (k + 1) = endsL K L n k ++ stepE K n L[n][k] := by
  unfold endsL endsC
  rw [show L.getD n [] = L[n] from by simp [hn], List.take_succ_eq_append_getElem hk, List.flatMap_append, ← List.append_assoc]
  simp
theorem endsL_chain {K : List (Int × Int)} {L : List (List Int)} {n : Nat} (hn : n < L.length) : endsL K L n L[n].length = endsL K L (n + 1) 0 := by
  unfold endsL endsC
  rw [show L.getD n [] = L[n] from by simp [hn], List.take_of_length_le (Nat.le_refl _), List.range_succ, List.flatMap_append]
  simp [hn]
theorem endsL_mem {K : List (Int × Int)} {L : List (List Int)} {n k : Nat} {x : Int × Int} (h : x ∈ endsL K L n k) : ∃ i : Nat, i ≤ n ∧ ∃ u ∈ L.getD i [], 0 < pagK K u ∧ x = ((i : Int), pagK K u - 1) := by
  have one : ∀ (i : Int) (c : List Int), x ∈ endsC K i c → ∃ u ∈ c, 0 < pagK K u ∧ x = (i, pagK K u - 1) := by
    intro i c hx
    obtain ⟨u, hu, hx⟩ := List.mem_flatMap.1 hx
    unfold stepE at hx
    split at hx
    · next hp => exact ⟨u, hu, hp, List.mem_singleton.1 hx⟩
    · cases hx
  rcases List.mem_append.1 h with h | h
  · obtain ⟨i, hi, hx⟩ := List.mem_flatMap.1 h
    have := List.mem_range.1 hi
    obtain ⟨u, hu, hp, e⟩ := one _ _ hx
    exact ⟨i, by omega, u, hu, hp, e⟩
  · obtain ⟨u, hu, hp, e⟩ := one _ _ h
    exact ⟨n, Nat.le_refl _, u, List.mem_of_mem_take hu, hp, e⟩
theorem endsL_in {K : List (Int × Int)} {L : List (List Int)} {n i : Nat} (hi : i < n) {u : Int} (hu : u ∈ L.getD i []) (hp : 0 < pagK K u) : ((i : Int), pagK K u - 1) ∈ endsL K L n 0 := by
  refine List.mem_append_left _ (List.mem_flatMap.2 ⟨i, List.mem_range.2 hi, List.mem_flatMap.2 ⟨u, hu, ?_⟩⟩)
  unfold stepE
  rw [if_pos hp]
  exact List.mem_singleton.2 rfl
theorem pagK_most (K : List (Int × Int)) (u : Int) : pagK K u ≤ 4096 := by
  unfold pagK
  split <;> omega
theorem endsL_wf {K : List (Int × Int)} {L : List (List Int)} {n k : Nat} (hn : n ≤ 255) : ∀ x ∈ endsL K L n k, wfP x := by
  intro x hx
  obtain ⟨i, hi, u, _, hp, rfl⟩ := endsL_mem hx
  have := pagK_most K u
  exact ⟨WalkArith.wf_i64 (by simp; omega), WalkArith.wf_i64 (by simp; omega)⟩
/-- the map at block b is the set of those places -/
def Et (w : World) (b : Nat) (K : List (Int × Int)) (L : List (List Int)) (n k : Nat) : Prop := ∃ m, w.ownsMap Try.prog 26 (unitElem (H := Unit)) b m (setP (endsL K L n k)) ∧ m ≤ 255 * n + k
theorem Et.made (w : World) (K : List (Int × Int)) (L : List (List Int)) : Et (w.alloc (.map #[] 0)) w.heap.size K L 0 0 := ⟨0, by rw [endsL_zero]; exact World.ownsMap_made _ _ _ _, Nat.le_refl _⟩
theorem Et.lt {w : World} {b : Nat} {K : List (Int × Int)} {L : List (List Int)} {n k : Nat} (h : Et w b K L n k) : b < w.heap.size := by
  obtain ⟨m, h1, _⟩ := h
  exact h1.lt
theorem Et.below {w w' : World} {b : Nat} {K : List (Int × Int)} {L : List (List Int)} {n k : Nat} (h : Et w b K L n k) (hb : Below w.heap.size w w') : Et w' b K L n k := by
  obtain ⟨m, ⟨es, clock, h1, h2⟩, h3⟩ := h
  exact ⟨m, ⟨es, clock, below_heap hb h1, h2⟩, h3⟩
theorem Et.chain {w : World} {b : Nat} {K : List (Int × Int)} {L : List (List Int)} {n : Nat} (hn : n < L.length) (hl : L[n].length ≤ 255) (h : Et w b K L n L[n].length) : Et w b K L (n + 1) 0 := by
  obtain ⟨m, h1, h2⟩ := h
  rw [endsL_chain hn] at h1
  exact ⟨m, h1, by omega⟩
theorem Et.skip {w : World} {b : Nat} {K : List (Int × Int)} {L : List (List Int)} {n k : Nat} (hn : n < L.length) (hk : k < L[n].length) (hp : ¬ 0 < pagK K L[n][k]) (h : Et w b K L n k) : Et w b K L n (k + 1) := by
  obtain ⟨m, h1, h2⟩ := h
  refine ⟨m, ?_, by omega⟩
  rw [endsL_succ hn hk]
  unfold stepE
  rw [if_neg hp, List.append_nil]
  exact h1
theorem Et.more {w : World} {b m : Nat} {K : List (Int × Int)} {L : List (List Int)} {n k : Nat} (hn : n < L.length) (hk : k < L[n].length) (hp : 0 < pagK K L[n][k]) (hm : m ≤ 255 * n + k) (h : w.ownsMap Try.prog 26 (unitElem (H := Unit)) b (m + 1) ((setP (endsL K L n k)).put (klP ((n : Int), pagK K L[n][k] - 1)) (.agg []))) : Et w b K L n (k + 1) := by
  refine ⟨m + 1, ?_, by omega⟩
  rw [endsL_succ hn hk]
  unfold stepE
  rw [if_pos hp, setP_snoc]
  exact h
end Go.Proofs.Ytffiocgeijeheaa
