/- Slices of whole numbers, and slices of such slices, that a call makes for itself by append. No conditions. Questions and answers that stand in memory or are handed over by value: what their fields hold. No conditions. -/
import Derived.Test.YtfkgeefoknaldaaG05a
import Derived.Maps.AppendAt
import Derived.Laws.OwnMore
import Derived.OwnWalk
import Derived.Test.YtfkgeefoknaldaaG04a
set_option linter.unusedVariables false
namespace Go.Proofs.Ytfkgeefoknaldaa
open Go.RowKit

theorem int_info : (Try.prog.info? 3).map (fun i => (i.zero, i.size, i.bytes)) = some (some (.int .i64 0), 1, 8) := by kernel_rfl
theorem ints_info : (Try.prog.info? 62).map (fun i => (i.zero, i.size, i.bytes)) = some (some (.slice none 0 0), 1, 24) := by kernel_rfl
def wfL (l : List Int) : Prop := ∀ u ∈ l, (Lit.int .i64 u).wf = true
theorem wfL.nil : wfL [] := fun u h => by cases h
theorem wfL.append {l m : List Int} (h : wfL l) (k : wfL m) : wfL (l ++ m) := fun u hu => (List.mem_append.1 hu).elim (h u) (k u)
theorem wfL.one {u : Int} (h : (Lit.int .i64 u).wf = true) : wfL [u] := fun v hv => by rw [List.mem_singleton.1 hv]; exact h
theorem wfL.take {l : List Int} (h : wfL l) (k : Nat) : wfL (l.take k) := fun u hu => h u (List.mem_of_mem_take hu)
theorem wfL.drop {l : List Int} (h : wfL l) (k : Nat) : wfL (l.drop k) := fun u hu => h u (List.mem_of_mem_drop hu)
theorem NLI.wf {w : World} {ao : Option Addr} {cap : Nat} {l : List Int} (h : NLI w ao cap l) : wfL l := by
  intro u hu
  obtain ⟨i, hi, rfl⟩ := List.getElem_of_mem hu
  exact (h.1 i hi).2
/-- v is a row of the call's own that holds the numbers l -/
def OI (w : World) (B : Nat) (v : Value) (l : List Int) : Prop := w.ownsRow B 3 1 v l.length (l.map (Value.int .i64)) ∧ wfL l
theorem OI.nil (w : World) (B : Nat) : OI w B (.slice none 0 0) [] := ⟨World.ownsRow_nil _ _ _ _, wfL.nil⟩
theorem OI.kept {w w' : World} {B : Nat} {v : Value} {l : List Int} {row : Option Nat} (h : OI w B v l) (hg : w.grownBy w' row) (hne : v.ownBlock = none ∨ v.ownBlock ≠ row) : OI w' B v l := ⟨h.1.kept hg hne, h.2⟩
theorem OI.below {w w' : World} {B : Nat} {v : Value} {l : List Int} (h : OI w B v l) (hb : Below w.heap.size w w') : OI w' B v l :=
  ⟨(Kept.ofBelow hb (fun _ => True)).owns h.1 (fun _ _ => trivial), h.2⟩
theorem OI.lower {w : World} {B B' : Nat} {v : Value} {l : List Int} (h : OI w B v l) (hb : B' ≤ B) : OI w B' v l := by
  refine ⟨⟨h.1.1, ?_⟩, h.2⟩
  rcases h.1.2 with h2 | ⟨g, cap, cur, h3, h4, r⟩
  · exact .inl h2
  · exact .inr ⟨g, cap, cur, h3, Nat.le_trans hb h4, r⟩
theorem OI.form {w : World} {B : Nat} {v : Value} {l : List Int} (h : OI w B v l) : ∃ ao cap, v = .slice ao l.length cap ∧ NLI w ao cap l ∧ (∀ a, ao = some a → B ≤ a.block ∧ a.block < w.heap.size) ∧ v.ownBlock = ao.map (·.block) := by
  rcases h.1.2 with ⟨rfl, h0⟩ | ⟨g, cap, cur, rfl, hbg, hh, hnc, _, hcs, ht⟩
  · have : l = [] := List.eq_nil_of_length_eq_zero h0
    subst this
    exact ⟨none, 0, rfl, NLI.nil w, (fun a e => by cases e), rfl⟩
  · refine ⟨some ⟨g, 0, none⟩, cap, rfl, ⟨fun i hi => ?_, (fun e => by cases e), hnc⟩, (fun a e => by cases e; exact ⟨hbg, lt_of_block hh⟩), rfl⟩
    refine ⟨⟨g, 0, rfl, ?_⟩, h.2 _ (List.getElem_mem hi)⟩
    have h2 : (cur.toList.take (l.length * 1))[i]? = some (.int .i64 l[i]) := by
      rw [ht, List.getElem?_map, List.getElem?_eq_getElem hi]
      rfl
    rw [List.getElem?_take, if_pos (by omega)] at h2
    rw [Nat.zero_add, ← (by simpa using h2 : cur[i]? = some (.int .i64 l[i]))]
    simp [World.cell?, hh]
theorem OI.form2 {w : World} {B : Nat} {lo : Option Addr} {lc : Nat} {l : List Int} (h : OI w B (.slice lo l.length lc) l) : lo = none ∨ ∃ g, lo = some ⟨g, 0, none⟩ := by
  rcases h.1.2 with ⟨h1, _⟩ | ⟨g, cap, cur, h1, _⟩
  · exact .inl (Value.slice.inj h1).1
  · exact .inr ⟨g, (Value.slice.inj h1).1⟩
theorem NLI.news {w : World} {ad : Addr} {cap : Nat} {l : List Int} (h : NLI w (some ad) cap l) : ∀ (j : Nat) (u : Value), (l.map (Value.int .i64))[j]? = some u → w.cell? (ad.add j) = some u := by
  intro j u hj
  rw [List.getElem?_map] at hj
  by_cases hl : j < l.length
  · rw [List.getElem?_eq_getElem hl] at hj
    cases hj
    obtain ⟨bk2, off2, h1, h2⟩ := h.at j hl
    cases h1
    rw [addr_plus]
    exact h2
  · rw [List.getElem?_eq_none (by omega)] at hj
    cases hj
theorem nums_one (l : List Int) : ∀ u ∈ l.map (Value.int .i64), u.oneCell' = true := by
  intro u hu
  obtain ⟨s, _, rfl⟩ := List.mem_map.1 hu
  rfl
/-- a slice of numbers is appended to a row of the call's own -/
theorem run_app_ints (w : World) (ty : TypeId) {B : Nat} {v : Value} {D : List Int} (hown : OI w B v D) {ao : Option Addr} {cap : Nat} {l : List Int} (hN : NLI w ao cap l) (hz : D.length + l.length ≤ 1000000) (hB : B ≤ w.heap.size) :
    ∃ v' w', (Builtin.append_ #[62, 62] ty #[v, .slice ao l.length cap]).run Try.prog w = .ok v' w' ∧ OI w' B v' (D ++ l) ∧ w.grownBy w' v.ownBlock ∧ (v'.ownBlock = v.ownBlock ∨ v'.ownBlock = some w.heap.size) := by
  obtain ⟨i0, hi, hz0, hz1, hz2⟩ := info_parts int_info
  cases ao with
  | none =>
    obtain ⟨rfl, rfl⟩ := hN.of_none
    refine ⟨v, w, run_append_owned_none (P := Try.prog) (w := w) B 62 ty 3 i0 1 Try.underlying62 hi v _ _ hown.1, by rw [List.append_nil]; exact hown, ⟨rfl, rfl, rfl, Nat.le_refl _, fun _ _ _ => rfl⟩, .inl rfl⟩
  | some ad =>
    obtain ⟨v', w', hr, h1, h2, _, h4⟩ := run_append_own_at (P := Try.prog) w B 62 ty 3 i0 (.int .i64 0) 1 8 Try.underlying62 hi hz0 hz1 hz2 rfl (by decide) v D.length (D.map (Value.int .i64)) hown.1 ad l.length cap (l.map (Value.int .i64)) (by simp) hN.news (nums_one l) (by unfold maxLen; omega) (by omega) hB
    exact ⟨v', w', hr, ⟨by rw [List.length_append, List.map_append]; exact h1, hown.2.append hN.wf⟩, h2, h4⟩
theorem wpList_app_ints {ops : Array Oper} {rest : List Oper} {o : Oper} {a : Act} {w : World} {Q : Exit → Act → World → Prop} (hgd : o.guard = none) (s x : Operand)
    (ho : o.op = .call { callee := .builtin .append, args := #[s, x], argTypes := #[62, 62] }) {B : Nat} {v : Value} {D : List Int} (hs : a.eval s = v) (hown : OI w B v D)
    {ao : Option Addr} {cap : Nat} {l : List Int} {m : Nat} (hm : l.length = m) (hx : a.eval x = .slice ao m cap) (hN : NLI w ao cap l) (hz : D.length + l.length ≤ 1000000) (hB : B ≤ w.heap.size)
    (h : ∀ v' w', OI w' B v' (D ++ l) → w.grownBy w' v.ownBlock → (v'.ownBlock = v.ownBlock ∨ v'.ownBlock = some w.heap.size) → wpList Try.prog ops Q rest (a.put o.dst v') w') : wpList Try.prog ops Q (o :: rest) a w := by
  refine wpList_plain hgd fun K hK => ?_
  subst hm
  obtain ⟨v', w', hr, h2, h3, h4⟩ := run_app_ints w o.type hown hN hz hB
  unfold Oper.wp execOp
  simp only [ho, resolve, invoke, builtin, Sem.run_bind, Sem.run_pure, Result.andThen_ok, List.map_toArray, List.map_cons, List.map_nil, hs, hx, hr]
  exact hK _ _ (h v' w' h2 h3 h4)
theorem step_app_ints {ops : Array Oper} {o : Oper} {a : Act} {w : World} {K : Act → World → Prop} {Q : Exit → Act → World → Prop} {E : Prop} (hgd : o.guard = none) (s x : Operand)
    (ho : o.op = Op.call { callee := Callee.builtin Builtin.append, args := #[s, x], argTypes := #[62, 62] }) {B : Nat} {v : Value} {D : List Int} (hs : a.eval s = v) (hown : OI w B v D)
    {ao : Option Addr} {cap : Nat} {l : List Int} {m : Nat} (hm : l.length = m) (hx : a.eval x = .slice ao m cap) (hN : NLI w ao cap l) (hz : D.length + l.length ≤ 1000000) (hB : B ≤ w.heap.size)
    (h : ∀ v' w', OI w' B v' (D ++ l) → w.grownBy w' v.ownBlock → (v'.ownBlock = v.ownBlock ∨ v'.ownBlock = some w.heap.size) → K (a.put o.dst v') w') :
    if Region.wanted o (yielded ops a.tmps) = true then Oper.wp Try.prog o a w K Q else E := by
  have hw : Region.wanted o (yielded ops a.tmps) = true := by simp [Region.wanted, hgd]
  rw [if_pos hw]
  subst hm
  obtain ⟨v', w', hr, h2, h3, h4⟩ := run_app_ints w o.type hown hN hz hB
  unfold Oper.wp
  simp [execOp, ho, resolve, invoke, builtin, hs, hx, hr, Result.andThen]
  exact h v' w' h2 h3 h4
/-- a block of one number, as a slice -/
theorem NLI.made (w : World) (u : Int) (hu : (Lit.int .i64 u).wf = true) : NLI (w.alloc (.cells #[.int .i64 u] 3)) (some ⟨w.heap.size, 0, none⟩) 1 [u] := by
  refine ⟨fun i hi => ?_, (fun e => by cases e), Nat.le_refl _⟩
  obtain rfl : i = 0 := by simpa using hi
  exact ⟨⟨w.heap.size, 0, rfl, by simp⟩, hu⟩
theorem OI.made (w : World) {B : Nat} (hB : B ≤ w.heap.size) : OI (w.alloc (.cells #[] 3)) B (.slice (some ⟨w.heap.size, 0, none⟩) 0 0) [] :=
  ⟨World.ownsRow_made w #[] 0 hB (Nat.zero_le _) rfl, wfL.nil⟩
theorem OI.alloc {w : World} {B : Nat} {v : Value} {l : List Int} (h : OI w B v l) (x : Obj) : OI (w.alloc x) B v l := h.below ((Below.refl _ _).alloc (Nat.le_refl _) x)
theorem OI.drew {w : World} {B : Nat} {v : Value} {l : List Int} (h : OI w B v l) : OI w.drew B v l := h.below (Below.refl _ _).drew
theorem NLI.alloc {w : World} {ao : Option Addr} {cap : Nat} {l : List Int} (h : NLI w ao cap l) (x : Obj) : NLI (w.alloc x) ao cap l := h.below ((Below.refl _ _).alloc (Nat.le_refl _) x)
theorem NLI.drew {w : World} {ao : Option Addr} {cap : Nat} {l : List Int} (h : NLI w ao cap l) : NLI w.drew ao cap l := h.below (Below.refl _ _).drew
theorem NLI.take {w : World} {ao : Option Addr} {cap : Nat} {l : List Int} (h : NLI w ao cap l) (k : Nat) (hk : k ≤ l.length) : NLI w ao cap (l.take k) := by
  refine ⟨fun i hi => ?_, h.2.1, by rw [List.length_take]; have := h.2.2; omega⟩
  rw [List.length_take] at hi
  have := h.1 i (by omega)
  rw [List.getElem_take]
  exact this
theorem NLI.drop {w : World} {b o : Nat} {cap : Nat} {l : List Int} (h : NLI w (some ⟨b, o, none⟩) cap l) (k : Nat) : NLI w (some ⟨b, o + k, none⟩) (cap - k) (l.drop k) := by
  refine ⟨fun i hi => ?_, (fun e => by cases e), by rw [List.length_drop]; have := h.2.2; omega⟩
  rw [List.length_drop] at hi
  obtain ⟨⟨bk, off, h1, h2⟩, h3⟩ := h.1 (k + i) (by omega)
  cases h1
  rw [List.getElem_drop]
  exact ⟨⟨b, o + k, rfl, by rw [Nat.add_assoc]; exact h2⟩, h3⟩
theorem NLI.grown {w w' : World} {ao : Option Addr} {cap : Nat} {l : List Int} {row : Option Nat} (h : NLI w ao cap l) (hg : w.grownBy w' row) (hne : ∀ a, ao = some a → row ≠ some a.block) : NLI w' ao cap l := by
  refine ⟨fun i hi => ?_, h.2⟩
  obtain ⟨⟨bk, off, h1, h2⟩, h3⟩ := h.1 i hi
  exact ⟨⟨bk, off, h1, hg.cell h2 (fun e => hne _ h1 e.symm)⟩, h3⟩

/-- v is a row of the call's own that holds slices of its own, whose rows hold the lists of L; no one of them in one block with v -/
def OC (w : World) (B : Nat) (v : Value) (L : List (List Int)) : Prop :=
  ∃ xs, w.ownsRow B 62 1 v L.length xs ∧ ∀ i (h : i < L.length), ∃ ai ci, xs[i]? = some (.slice ai L[i].length ci) ∧ NLI w ai ci L[i] ∧ ∀ a, ai = some a → B ≤ a.block ∧ a.block < w.heap.size ∧ v.ownBlock ≠ some a.block
theorem OC.nil (w : World) (B : Nat) : OC w B (.slice none 0 0) [] := ⟨[], World.ownsRow_nil _ _ _ _, fun i h => absurd h (Nat.not_lt_zero i)⟩
theorem OC.below {w w' : World} {B : Nat} {v : Value} {L : List (List Int)} (h : OC w B v L) (hb : Below w.heap.size w w') : OC w' B v L := by
  obtain ⟨xs, h1, h2⟩ := h
  refine ⟨xs, (Kept.ofBelow hb (fun _ => True)).owns h1 (fun _ _ => trivial), fun i hi => ?_⟩
  obtain ⟨ai, ci, h3, h4, h5⟩ := h2 i hi
  exact ⟨ai, ci, h3, h4.below hb, fun a e => ⟨(h5 a e).1, Nat.lt_of_lt_of_le (h5 a e).2.1 hb.size, (h5 a e).2.2⟩⟩
theorem OC.lt {w : World} {B : Nat} {v : Value} {L : List (List Int)} (h : OC w B v L) : ∀ k, v.ownBlock = some k → B ≤ k ∧ k < w.heap.size := by
  obtain ⟨xs, h1, _⟩ := h
  exact h1.lt
/-- one more slice behind it -/
theorem OC.snoc {w1 w2 : World} {B : Nat} {v v' : Value} {L : List (List Int)} {l : List Int} {xs : List Value} {ai : Option Addr} {ci : Nat} (h1 : w1.ownsRow B 62 1 v L.length xs)
    (h2 : ∀ i (h : i < L.length), ∃ ai ci, xs[i]? = some (.slice ai L[i].length ci) ∧ NLI w1 ai ci L[i] ∧ ∀ a, ai = some a → B ≤ a.block ∧ a.block < w1.heap.size ∧ v.ownBlock ≠ some a.block)
    (hN : NLI w1 ai ci l) (ha : ∀ a, ai = some a → B ≤ a.block ∧ a.block < w1.heap.size ∧ v.ownBlock ≠ some a.block)
    (hown : w2.ownsRow B 62 1 v' (L.length + 1) (xs ++ [.slice ai l.length ci])) (hg : w1.grownBy w2 v.ownBlock) (hat : v'.ownBlock = v.ownBlock ∨ v'.ownBlock = some w1.heap.size) :
    OC w2 B v' (L ++ [l]) := by
  have hx : xs.length = L.length := by have := h1.1; omega
  have far : ∀ a : Addr, a.block < w1.heap.size → v.ownBlock ≠ some a.block → v'.ownBlock ≠ some a.block := by
    intro a hl hne
    rcases hat with e | e
    · rw [e]; exact hne
    · rw [e]; intro e2; have e3 : w1.heap.size = a.block := Option.some.inj e2; omega
  refine ⟨xs ++ [.slice ai l.length ci], by rw [List.length_append]; exact hown, fun i hi => ?_⟩
  by_cases hil : i < L.length
  · obtain ⟨aj, cj, h3, h4, h5⟩ := h2 i hil
    have e : (L ++ [l])[i] = L[i] := List.getElem_append_left hil
    rw [e]
    refine ⟨aj, cj, by rw [List.getElem?_append_left (by omega)]; exact h3, h4.grown hg (fun a e2 => (h5 a e2).2.2), fun a e2 => ?_⟩
    obtain ⟨h6, h7, h8⟩ := h5 a e2
    exact ⟨h6, Nat.lt_of_lt_of_le h7 hg.size, far a h7 h8⟩
  · obtain rfl : i = L.length := by rw [List.length_append] at hi; simp at hi; omega
    have e : (L ++ [l])[L.length] = l := by simp
    rw [e]
    refine ⟨ai, ci, by rw [List.getElem?_append_right (by omega), hx]; simp, hN.grown hg (fun a e2 => (ha a e2).2.2), fun a e2 => ?_⟩
    obtain ⟨h6, h7, h8⟩ := ha a e2
    exact ⟨h6, Nat.lt_of_lt_of_le h7 hg.size, far a h7 h8⟩
/-- the slices of it, as they are read -/
theorem OC.form {w : World} {B : Nat} {v : Value} {L : List (List Int)} (h : OC w B v L) : ∃ ao cap, v = .slice ao L.length cap ∧ CL w ao L ∧ (ao = none → cap = 0) ∧ L.length ≤ cap ∧ ∀ a, ao = some a → B ≤ a.block ∧ a.block < w.heap.size := by
  obtain ⟨xs, h1, h2⟩ := h
  rcases h1.2 with ⟨rfl, h0⟩ | ⟨g, cap, cur, rfl, hbg, hh, hnc, _, hcs, ht⟩
  · have : L = [] := List.eq_nil_of_length_eq_zero h0
    subst this
    exact ⟨none, 0, rfl, CL.nil _ _, fun _ => rfl, Nat.le_refl _, fun a e => by cases e⟩
  · refine ⟨some ⟨g, 0, none⟩, cap, rfl, fun i hi => ?_, (fun e => by cases e), hnc, fun a e => by cases e; exact ⟨hbg, lt_of_block hh⟩⟩
    obtain ⟨ai, ci, h3, h4, _⟩ := h2 i hi
    refine ⟨g, 0, ai, ci, rfl, ?_, h4⟩
    have h5 : (cur.toList.take (L.length * 1))[i]? = some (.slice ai L[i].length ci) := by rw [ht]; exact h3
    rw [List.getElem?_take, if_pos (by omega)] at h5
    rw [Nat.zero_add, ← (by simpa using h5 : cur[i]? = some (.slice ai L[i].length ci))]
    simp [World.cell?, hh]
theorem below_app {w w1 : World} {x : Obj} {row : Option Nat} (hg : (w.alloc x).grownBy w1 row) (hr : ∀ k, row = some k → w.heap.size ≤ k) : Below w.heap.size w w1 :=
  ((Below.refl _ _).alloc (Nat.le_refl _) x).grown hg (by simp) hr
theorem OC.apart {w w1 : World} {B : Nat} {v : Value} {L : List (List Int)} {a1 : Option Addr} (hO : OC w B v L) (hB : B ≤ w.heap.size) (hA : ∀ a, a1 = some a → w.heap.size ≤ a.block ∧ a.block < w1.heap.size) :
    ∀ b, a1 = some b → B ≤ b.block ∧ b.block < w1.heap.size ∧ v.ownBlock ≠ some b.block := by
  intro b e
  obtain ⟨h1, h2⟩ := hA b e
  exact ⟨by omega, h2, fun e2 => by have := (hO.lt _ e2).2; omega⟩
theorem cellK {S : Nat → Prop} {w w' : World} (h : Kept S w w') {b o : Nat} {v : Value} (hS : S b) (hc : w.cell? ⟨b, o, none⟩ = some v) : w'.cell? ⟨b, o, none⟩ = some v :=
  (World.cell?_of_block (a := ⟨b, o, none⟩) (h.block b hS (block_lt_of_cell hc))).trans hc
theorem NLI.keep {S : Nat → Prop} {w w' : World} {ao : Option Addr} {cap : Nat} {l : List Int} (h : NLI w ao cap l) (hk : Kept S w w') (hS : ∀ a, ao = some a → S a.block) : NLI w' ao cap l := by
  refine ⟨fun i hi => ?_, h.2⟩
  obtain ⟨⟨bk, off, h1, h2⟩, h3⟩ := h.1 i hi
  exact ⟨⟨bk, off, h1, cellK hk (hS _ h1) h2⟩, h3⟩
theorem OI.keep {S : Nat → Prop} {w w' : World} {B : Nat} {v : Value} {l : List Int} (h : OI w B v l) (hk : Kept S w w') (hS : ∀ k, B ≤ k → k < w.heap.size → S k) : OI w' B v l :=
  ⟨hk.owns h.1 (fun k e => hS k (h.1.lt k e).1 (h.1.lt k e).2), h.2⟩
theorem OC.keep {S : Nat → Prop} {w w' : World} {B : Nat} {v : Value} {L : List (List Int)} (h : OC w B v L) (hk : Kept S w w') (hS : ∀ k, B ≤ k → k < w.heap.size → S k) : OC w' B v L := by
  obtain ⟨xs, h1, h2⟩ := h
  refine ⟨xs, hk.owns h1 (fun k e => hS k (h1.lt k e).1 (h1.lt k e).2), fun i hi => ?_⟩
  obtain ⟨ai, ci, h3, h4, h5⟩ := h2 i hi
  exact ⟨ai, ci, h3, h4.keep hk (fun a e => hS _ (h5 a e).1 (h5 a e).2.1), fun a e => ⟨(h5 a e).1, Nat.lt_of_lt_of_le (h5 a e).2.1 hk.size, (h5 a e).2.2⟩⟩
theorem made_slice (w : World) (x : Value) (t : TypeId) : ∀ (j : Nat) (u : Value), [x][j]? = some u → (w.alloc (.cells #[x] t)).cell? ((⟨w.heap.size, 0, none⟩ : Addr).add j) = some u := by
  intro j u hj
  match j, hj with
  | 0, hj => cases hj; rw [show ((⟨w.heap.size, 0, none⟩ : Addr).add 0) = ⟨w.heap.size, 0, none⟩ from rfl, World.cell?_alloc_new]; rfl
  | j + 1, hj => simp at hj
end Go.Proofs.Ytfkgeefoknaldaa
namespace Go.Proofs.Ytfkgeefoknaldaa
set_option linter.unusedVariables false
open Go.ChangeShapes Go.WideShapes Go.ChangeAt Go.RowKit
set_option maxRecDepth 20000
/-- a question; where its projection's chains lie -/
structure Ak where
  kind : Int
  unit : Int
  epoch : Int
  page : Int
  size : Int
  n : Int
  data : ByteArray
  pe : Int
  L : List (List Int)
  ao : Option Addr
  cap : Nat
/-- its nine cells -/
def askC (a : Ak) : List Value := [.int .i64 a.kind, .int .i64 a.unit, .int .i64 a.epoch, .int .i64 a.page, .int .i64 a.size, .int .i64 a.n, .string a.data, .int .i64 a.pe, .slice a.ao a.L.length a.cap]
def askV (a : Ak) : Value := .agg (askC a).toArray
structure AkOk (a : Ak) : Prop where
  kind : i64w a.kind
  unit : i64w a.unit
  epoch : i64w a.epoch
  page : i64w a.page
  size : i64w a.size
  n : i64w a.n
  data : a.data.size ≤ maxLen
  pe : i64w a.pe
  len : a.L.length ≤ maxLen
  each : ∀ c ∈ a.L, c.length ≤ maxLen
  nil : a.ao = none → a.cap = 0
  room : a.L.length ≤ a.cap
/-- a question that was told lies there -/
def AkIn (w : World) (a : Ak) : Prop := AkOk a ∧ CL w a.ao a.L
theorem AkIn.below {w w' : World} {a : Ak} (h : AkIn w a) (hb : Below w.heap.size w w') : AkIn w' a := ⟨h.1, h.2.below hb⟩
/-- an answer; its eight cells, the chains of its projection at ao -/
structure An where
  code : Int
  n : Int
  data : ByteArray
  pe : Int
  L : List (List Int)
  mark : Int
  size : Int
  epoch : Int
def ansC (x : An) (ao : Option Addr) (cap : Nat) : List Value := [.int .i64 x.code, .int .i64 x.n, .string x.data, .int .i64 x.pe, .slice ao x.L.length cap, .int .i64 x.mark, .int .i64 x.size, .int .i64 x.epoch]
def ansV (x : An) (ao : Option Addr) (cap : Nat) : Value := .agg (ansC x ao cap).toArray
/-- an answer that tells no projection, nor an image -/
def anP (code n : Int) (data : ByteArray) (epoch : Int) : An := ⟨code, n, data, 0, [], 0, 0, epoch⟩
section
variable {H : Type} {enc : TypeId × Value → H} {P : Program} {w : World} {base : Nat} {spare : Nat → Bool} {held : Bool}
/-- a projection's two cells -/
theorem proj_cs {n : Nat} {cs : List Value} {y : DataW H × List MemPlace} {t ti tc te : TypeId} {g0 g1 : Field} (ht : P.underlying t = some (.struct #[g0, g1])) (hc : P.cellsOf t = 2)
    (h0 : (g0.offset, g0.type) = (0, ti)) (h1 : (g1.offset, g1.type) = (1, tc)) (ci : P.cellsOf ti = 1) (cc : P.cellsOf tc = 1)
    (ui : P.underlying ti = some (.int .i64)) (uc : P.underlying tc = some (.slice te)) (ue : P.underlying te = some (.slice ti)) (ce : P.cellsOf te = 1) (hl : cs.length = 2)
    (hf : DataW.trod enc P w base spare held n t cs = some y) :
    ∃ ep ao cap L, cs = [.int .i64 ep, .slice ao L.length cap] ∧ i64w ep ∧ CL w ao L ∧ (ao = none → cap = 0) ∧ L.length ≤ cap ∧ L.length ≤ maxLen ∧ ∀ c ∈ L, c.length ≤ maxLen := by
  obtain ⟨xs, n, _, _, _, hxl, hg⟩ := DataW.trod_struct ht hf
  have hxl2 : xs.length = 2 := hxl
  simp only [Prod.mk.injEq] at h0 h1
  have a0 := hg 0 g0 rfl
  have a1 := hg 1 g1 rfl
  rw [h0.1, h0.2, ci, List.getElem?_eq_getElem (by omega)] at a0
  rw [h1.1, h1.2, cc, List.getElem?_eq_getElem (by omega)] at a1
  obtain ⟨ep, e0, _, wf⟩ := DataW.trod_int ui a0
  obtain ⟨ao, cap, L, e1, h2, h3, h4, h5, h6⟩ := chains_cs uc ue ui ce ci a1
  refine ⟨ep, ao, cap, L, ?_, wf, h2, h3, h4, h5, fun c hcm => by obtain ⟨i, hi, rfl⟩ := List.getElem_of_mem hcm; exact h6 i hi⟩
  match cs, hl with
  | [x, y], _ =>
    simp at e0 e1
    rw [e0, e1]
/-- the types of a question and of what it is made of -/
structure AskT (P : Program) (t ti ts tp tc te : TypeId) : Prop where
  ask : ∃ fs : Array Field, P.underlying t = some (.struct fs) ∧ fs.size = 8 ∧ fs.map (fun (f : Field) => (f.offset, f.type)) = #[(0, ti), (1, ti), (2, ti), (3, ti), (4, ti), (5, ti), (6, ts), (7, tp)]
  cells : P.cellsOf t = 9
  proj : ∃ g0 g1 : Field, P.underlying tp = some (.struct #[g0, g1]) ∧ (g0.offset, g0.type) = (0, ti) ∧ (g1.offset, g1.type) = (1, tc)
  cp : P.cellsOf tp = 2
  ci : P.cellsOf ti = 1
  cs : P.cellsOf ts = 1
  cc : P.cellsOf tc = 1
  ce : P.cellsOf te = 1
  ui : P.underlying ti = some (.int .i64)
  us : P.underlying ts = some .string
  uc : P.underlying tc = some (.slice te)
  ue : P.underlying te = some (.slice ti)
theorem ask_cs {n : Nat} {cs : List Value} {y : DataW H × List MemPlace} {t ti ts tp tc te : TypeId} (T : AskT P t ti ts tp tc te) (hl : cs.length = 9) (hf : DataW.trod enc P w base spare held n t cs = some y) : ∃ a : Ak, cs = askC a ∧ AkIn w a := by
  obtain ⟨fs, ht, hz, hfs⟩ := T.ask
  obtain ⟨g0, g1, hp, q0, q1⟩ := T.proj
  obtain ⟨xs, m, _, _, _, hxl, hg⟩ := DataW.trod_struct ht hf
  rw [hz] at hxl
  have at' : ∀ i : Nat, fs[i]?.map (fun (f : Field) => (f.offset, f.type)) = (#[(0, ti), (1, ti), (2, ti), (3, ti), (4, ti), (5, ti), (6, ts), (7, tp)] : Array (Nat × TypeId))[i]? := by
    intro i
    rw [← hfs, Array.getElem?_map]
  obtain ⟨y0, e0, w0⟩ := fld_int (i := 0) (t0 := ti) hg (at' 0) (by omega) T.ci T.ui
  obtain ⟨y1, e1, w1⟩ := fld_int (i := 1) (t0 := ti) hg (at' 1) (by omega) T.ci T.ui
  obtain ⟨y2, e2, w2⟩ := fld_int (i := 2) (t0 := ti) hg (at' 2) (by omega) T.ci T.ui
  obtain ⟨y3, e3, w3⟩ := fld_int (i := 3) (t0 := ti) hg (at' 3) (by omega) T.ci T.ui
  obtain ⟨y4, e4, w4⟩ := fld_int (i := 4) (t0 := ti) hg (at' 4) (by omega) T.ci T.ui
  obtain ⟨y5, e5, w5⟩ := fld_int (i := 5) (t0 := ti) hg (at' 5) (by omega) T.ci T.ui
  obtain ⟨y6, e6, w6⟩ := fld_text (i := 6) (t0 := ts) hg (at' 6) (by omega) T.cs T.us
  obtain ⟨f, h1, h2⟩ := Option.map_eq_some_iff.1 (at' 7)
  obtain ⟨h3, h4⟩ := Prod.mk.inj h2
  have g := hg 7 f h1
  rw [h3, h4, T.cp, List.getElem?_eq_getElem (by omega)] at g
  obtain ⟨pe, ao, cap, L, e7, w7, hC, k1, k2, k3, k4⟩ := proj_cs hp T.cp q0 q1 T.ci T.cc T.ui T.uc T.ue T.ce (by rw [List.length_take, List.length_drop]; omega) g
  refine ⟨⟨y0, y1, y2, y3, y4, y5, y6, pe, L, ao, cap⟩, ?_, ⟨w0, w1, w2, w3, w4, w5, w6, w7, k3, k4, k1, k2⟩, hC⟩
  match cs, hl with
  | [x0, x1, x2, x3, x4, x5, x6, x7, x8], _ =>
    simp at e0 e1 e2 e3 e4 e5 e6 e7
    obtain ⟨e7, e8⟩ := e7
    subst e0 e1 e2 e3 e4 e5 e6 e7 e8
    rfl
/-- a question that was handed over by value -/
theorem open_ask {r : Reach} {b0 : Nat} {t ti ts tp tc te : TypeId} {v : Value} {d : DataW H} {p : List MemPlace} (T : AskT P t ti ts tp tc te) (hv : Value.okWide P w r b0 t v) (h : DataW.Trod enc P w base spare held t v d p) : ∃ a : Ak, v = askV a ∧ AkIn w a := by
  obtain ⟨fs, ht, _⟩ := T.ask
  obtain ⟨A, rfl, hsz⟩ := okWide_rec ht hv
  obtain ⟨fuel, hf⟩ := h
  rw [T.cells] at hsz
  simp only [Value.cells] at hf
  obtain ⟨a, e, h2⟩ := ask_cs T (by simpa using hsz) hf
  exact ⟨a, by unfold askV; rw [← e], h2⟩
end
theorem two_blocks (w : World) (x y : Array Value) (t u : TypeId) : ((w.alloc (.cells x t)).alloc (.cells y u)).heap[w.heap.size]? = some (.cells x t (0, 0)) ∧ ((w.alloc (.cells x t)).alloc (.cells y u)).heap[w.heap.size + 1]? = some (.cells y u (0, 0)) := by
  refine ⟨below_heap ((Below.refl _ _).alloc (Nat.le_refl _) _) (heap_alloc_new _ _), ?_⟩
  have h := heap_alloc_new (w.alloc (.cells x t)) (.cells y u)
  have e : (w.alloc (.cells x t)).heap.size = w.heap.size + 1 := by simp
  rw [e] at h
  exact h
/-- a question's block: what its nine cells hold -/
theorem ask_cells {w : World} {b : Nat} {a : Ak} {t : TypeId} (h : w.heap[b]? = some (.cells (askC a).toArray t (0, 0))) :
    w.cell? ⟨b, 0, none⟩ = some (.int .i64 a.kind) ∧ w.cell? ⟨b, 1, none⟩ = some (.int .i64 a.unit) ∧ w.cell? ⟨b, 2, none⟩ = some (.int .i64 a.epoch) ∧ w.cell? ⟨b, 3, none⟩ = some (.int .i64 a.page) ∧ w.cell? ⟨b, 4, none⟩ = some (.int .i64 a.size) ∧ w.cell? ⟨b, 5, none⟩ = some (.int .i64 a.n) ∧ w.cell? ⟨b, 6, none⟩ = some (.string a.data) ∧ w.cell? ⟨b, 7, none⟩ = some (.int .i64 a.pe) ∧ w.cell? ⟨b, 8, none⟩ = some (.slice a.ao a.L.length a.cap) :=
  ⟨cell_of h 0, cell_of h 1, cell_of h 2, cell_of h 3, cell_of h 4, cell_of h 5, cell_of h 6, cell_of h 7, cell_of h 8⟩
end Go.Proofs.Ytfkgeefoknaldaa
