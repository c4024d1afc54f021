/- Bytes of a file as the program keeps them: a map whose keys are places, whose elements are an address and a place in its data; what such a map tells; what the program's own piece returns. Conditions: numbers of 64 bits. -/
import Derived.Test.YtjdhbpgipoifkaaG11a
import Derived.Test.YtjdhbpgipoifkaaG03b
import Derived.Test.YtjdhbpgipoifkaaG04d
import Derived.Laws.ResultCell
set_option linter.unusedVariables false
namespace Go.Proofs.Ytjdhbpgipoifkaa
open Go.RowKit Go.Maps
set_option linter.unusedVariables false
set_option maxRecDepth 20000
theorem espot_row : (70 : TypeId) < Try.prog.types.size := of_decide_eq_true (by kernel_rfl)
theorem espot_law : Keyed Try.prog 70 := Keyed.of_law (deep_law_laid laidOut (m := 2) (by omega) espot_row (by kernel_rfl) (by rw [Try.underlying70]))
theorem espot_succ : ∃ n, Try.prog.types.size = n + 1 := ⟨Try.prog.types.size - 1, by have h := Nat.lt_of_le_of_lt (Nat.zero_le _) espot_row; exact (Nat.succ_pred_eq_of_pos h).symm⟩
/-- a place as a key -/
def klE (u : Int) : Lit := .string (keyBytes [.int .i64 u])
theorem espot_key (u : Int) (hu : (Lit.int .i64 u).wf = true) : keyOf Try.prog 70 (.agg #[.int .i64 u]) = some (klE u) := by
  obtain ⟨n, hn⟩ := espot_succ
  exact key_one Try.underlying70 (by kernel_rfl) (by rfl) rfl (by kernel_rfl) Try.underlying3 (by kernel_rfl) hn hu
theorem agg1E_inj {u v : Int} (h : (Value.agg #[Value.int IntKind.i64 u]) = .agg #[.int .i64 v]) : u = v := by simpa using h
theorem klE_inj {u v : Int} (hu : (Lit.int .i64 u).wf = true) (hv : (Lit.int .i64 v).wf = true) (h : klE u = klE v) : u = v :=
  agg1E_inj (espot_law.inj (espot_key u hu) (h ▸ espot_key v hv))
theorem klE_key {u : Int} (hu : (Lit.int .i64 u).wf = true) : WideAt.IsKeyLit (klE u) := espot_law.key (espot_key u hu)
/-- where a byte lies -/
def srcD (a f : Int) : DataW Unit := .agg [.lit (.int .i64 a), .lit (.int .i64 f)]
def srcR : Value → Option (DataW Unit × List MemPlace)
  | .agg a => match a.toList with
    | [.int .i64 x, .int .i64 y] => some (srcD x y, [])
    | _ => none
  | _ => none
theorem srcR_mk (a f : Int) : srcR (.agg #[.int .i64 a, .int .i64 f]) = some (srcD a f, []) := rfl
theorem srcR_inv {v : Value} {z : DataW Unit × List MemPlace} (h : srcR v = some z) : ∃ a f, v = .agg #[.int .i64 a, .int .i64 f] ∧ z = (srcD a f, []) := by
  unfold srcR at h
  split at h
  · next a =>
    split at h
    · next i j e =>
      cases h
      refine ⟨i, j, ?_, rfl⟩
      rw [← Array.toArray_toList (xs := a), e]
    · cases h
  · cases h
theorem srcD_inj {a f b g : Int} (h : srcD a f = srcD b g) : a = b ∧ f = g := by
  unfold srcD at h
  simpa using h
theorem zero_src (w : World) : (zeroValue 67).run Try.prog w = .ok (.agg #[.int .i64 0, .int .i64 0]) w := by kernel_rfl
/-- the map's datum tells the bytes g -/
structure ME (D : DataW Unit) (g : MapF) : Prop where
  tidy : Tidy D
  hs : ∀ u, (Lit.int .i64 u).wf = true → Maps.has D (klE u) = (g u).isSome
  tells : ∀ u a f, (Lit.int .i64 u).wf = true → g u = some (a, f) → ∀ z, D.atKey (klE u) z = srcD a f
theorem ME.nil : ME (.map []) (fun _ => none) := ⟨tidy_empty, fun _ _ => rfl, fun _ _ _ _ h => by cases h⟩
theorem ME.put {D : DataW Unit} {g : MapF} (h : ME D g) {u a f : Int} (hu : (Lit.int .i64 u).wf = true) : ME (D.put (klE u) (srcD a f)) (setG g u (a, f)) := by
  have hk := klE_key hu
  refine ⟨h.tidy.put hk _, fun v hv => ?_, fun v b c hv e z => ?_⟩
  · unfold setG
    by_cases e : v = u
    · subst e
      rw [has_put_same h.tidy.isMap hk, if_pos rfl]
      rfl
    · rw [has_put_other (fun e2 => e (klE_inj hv hu e2)), h.hs v hv, if_neg e]
  · unfold setG at e
    by_cases e1 : v = u
    · subst e1
      rw [if_pos rfl] at e
      cases e
      exact atKey_put_same h.tidy.isMap hk _ _
    · rw [if_neg e1] at e
      rw [atKey_put_other (fun e2 => e1 (klE_inj hv hu e2))]
      exact h.tells v b c hv e z
/-- the map at block b tells the bytes g; n: no more than so many -/
def FE (w : World) (b n : Nat) (g : MapF) : Prop := ∃ D, w.ownsMap Try.prog 70 srcR b n D ∧ ME D g
theorem FE.made (w : World) : FE (w.alloc (.map #[] 0)) w.heap.size 0 (fun _ => none) := ⟨_, World.ownsMap_made _ _ _ _, ME.nil⟩
theorem FE.keep {w w' : World} {b n : Nat} {g : MapF} (h : FE w b n g) (e : w'.heap[b]? = w.heap[b]?) : FE w' b n g := by
  obtain ⟨D, ⟨es, clock, h1, h2⟩, h3⟩ := h
  exact ⟨D, ⟨es, clock, e.trans h1, h2⟩, h3⟩
theorem FE.lt {w : World} {b n : Nat} {g : MapF} (h : FE w b n g) : b < w.heap.size := by
  obtain ⟨D, h1, _⟩ := h
  exact h1.lt
theorem FE.below {w w' : World} {b n : Nat} {g : MapF} (h : FE w b n g) (hb : Below w.heap.size w w') : FE w' b n g := h.keep (hb.block b h.lt)
def lookA (g : MapF) (u : Int) : Int := match g u with | some x => x.1 | none => 0
def lookS (g : MapF) (u : Int) : Int := match g u with | some x => x.2 | none => 0
/-- x, there := m[u] -/
theorem FE.look {w : World} {b n : Nat} {g : MapF} (h : FE w b n g) {u : Int} (hu : (Lit.int .i64 u).wf = true) : (Instr.lookup 54 (.map (some b)) (.agg #[.int .i64 u]) true).run Try.prog w = .ok (.tuple #[.agg #[.int .i64 (lookA g u), .int .i64 (lookS g u)], .bool (g u).isSome]) w := by
  obtain ⟨D, h1, h2⟩ := h
  obtain ⟨v, ps, hr, hv⟩ := h1.look_ok espot_law Try.underlying54 (zero_src w) (srcR_mk _ _) (espot_key u hu)
  obtain ⟨a, f, rfl, e⟩ := srcR_inv hv
  simp only [Prod.mk.injEq] at e
  have e1 := e.1
  have : a = lookA g u ∧ f = lookS g u := by
    unfold lookA lookS
    cases q : g u with
    | none =>
      rw [atKey_of_not_has (by rw [h2.hs u hu, q]; rfl)] at e1
      obtain ⟨p1, p2⟩ := srcD_inj e1
      exact ⟨p1.symm, p2.symm⟩
    | some x =>
      obtain ⟨c, d⟩ := x
      rw [h2.tells u c d hu q] at e1
      obtain ⟨p1, p2⟩ := srcD_inj e1
      exact ⟨p1.symm, p2.symm⟩
  obtain ⟨rfl, rfl⟩ := this
  rw [← h2.hs u hu]
  exact hr
/-- m[u] = v -/
theorem wpList_set_byte {ops : Array Oper} {rest : List Oper} {o : Oper} {x : Act} {w : World} {Q : Exit → Act → World → Prop} (hg : o.guard = none) (m k v : Operand) (hop : o.op = Op.mapUpdate 54 m k v)
    {b n : Nat} {g : MapF} (hm : x.eval m = .map (some b)) (h : FE w b n g) (hn : n ≤ 1000000) {u a f : Int} (hu : (Lit.int .i64 u).wf = true) (hk : x.eval k = .agg #[.int .i64 u]) (hv : x.eval v = .agg #[.int .i64 a, .int .i64 f])
    (hK : ∀ w', FE w' b (n + 1) (setG g u (a, f)) → w.grownBy w' (some b) → wpList Try.prog ops Q rest (x.put o.dst undef) w') : wpList Try.prog ops Q (o :: rest) x w := by
  obtain ⟨D, h1, h2⟩ := h
  exact wpList_mapUpdate_own w hg m k v _ hop 70 67 espot_law Try.underlying54 srcR b n D hm h1 (by unfold maxLen; omega) _ _ _ hk hv (espot_key u hu) (srcD a f) [] (srcR_mk a f)
    (fun w' r1 r2 => hK w' ⟨_, r1, h2.put hu⟩ r2)
theorem run_makeMapN {P : Program} {t k e : TypeId} (hu : P.underlying t = some (.map k e)) (n : Int) (w : World) : (Instr.makeMap t (some (.int .i64 n))).run P w = .ok (.map (some w.heap.size)) (w.alloc (.map #[] 0)) := by
  simp [Instr.makeMap, run_underlying hu, asInt, asIntOf, newObj]
  rfl
/-- what a byte of the map is, as a piece -/
theorem pcE_no {g : MapF} {i : Nat} (h : g i = none) : pcE (bytG g) i = ⟨i, 1, -1, 0⟩ := by
  unfold pcE bytG
  rw [h]
theorem pcE_yes {g : MapF} {i : Nat} (h : (g i).isSome = true) : pcE (bytG g) i = ⟨i, 1, lookA g i, lookS g i⟩ := by
  unfold pcE bytG lookA lookS
  cases e : g i with
  | none => rw [e] at h; cases h
  | some x => rfl
theorem part_ret {fn : Func} {p : Tmp} (h : fn.results = #[.cell p 31]) {a : Act} {w : World} {g : Nat} {x : Pt} {R : Ending → World → Prop}
    (hg : PtB w g x) (hp : a.tmps.getD p undef = .pointer (some ⟨g, 0, none⟩)) (hd : a.defers = [])
    (hR : R (.returned (.agg #[.int .i64 x.off, .int .i64 x.len, .int .i64 x.addr, .int .i64 x.src])) w) : bodyPost Try.prog fn R .ret a w :=
  bodyPost_ret (results_cell_row h a.tmps w g 31 #[.int .i64 x.off, .int .i64 x.len, .int .i64 x.addr, .int .i64 x.src] (0, 0) _ hp hg Try.underlying31 rfl (by kernel_rfl)) hd hR
set_option maxHeartbeats 4000000 in
theorem epiece_any (w : World) (b n : Nat) (g : MapF) (i : Nat) (hi : i ≤ 100000) (h : FE w b n g) :
    Calls Try.prog 43 #[.map (some b), .int .i64 i] w fun e w' => e = .returned (.agg #[.int .i64 (pcE (bytG g) i).off, .int .i64 (pcE (bytG g) i).len, .int .i64 (pcE (bytG g) i).addr, .int .i64 (pcE (bytG g) i).src]) ∧ Below w.heap.size w w' := by
  have hu : (Lit.int .i64 (i : Int)).wf = true := WalkArith.wf_i64 (by omega)
  have hl := (h.below (blwA w (.cells #[.int .i64 0, .int .i64 0, .int .i64 0, .int .i64 0] 31))).look hu
  cases e : (g i).isSome
  · rw [pcE_no (by simpa using e)]
    rw [e] at hl
    have HZ := Lib.hid (fun (x y : Int) => show PtB ((w.alloc (.cells #[.int .i64 i, .int .i64 1, .int .i64 (-1), .int .i64 0] 31)).alloc (.cells #[.int .i64 x, .int .i64 y] 67)) w.heap.size ⟨i, 1, -1, 0⟩ from (show PtB (w.alloc (.cells #[.int .i64 i, .int .i64 1, .int .i64 (-1), .int .i64 0] 31)) w.heap.size ⟨i, 1, -1, 0⟩ from heap_alloc_new _ _).below (blwA _ _))
    have HB := Lib.hid (fun (x y : Int) => blwO (blwA (w.alloc (.cells #[.int .i64 i, .int .i64 1, .int .i64 (-1), .int .i64 0] 31)) (.cells #[.int .i64 x, .int .i64 y] 67)) (blwA w _))
    clear h e
    generalize lookA g i = a at *
    generalize lookS g i = f at *
    go_enter Try.func43, Try.ntmps43
    go_wp2_with fail
    exact part_ret (x := ⟨i, 1, -1, 0⟩) rfl (HZ.out a f) rfl rfl ⟨rfl, HB.out a f⟩
  · rw [pcE_yes e]
    rw [e] at hl
    have HZ := Lib.hid (fun (x y : Int) => show PtB ((w.alloc (.cells #[.int .i64 i, .int .i64 1, .int .i64 x, .int .i64 y] 31)).alloc (.cells #[.int .i64 x, .int .i64 y] 67)) w.heap.size ⟨i, 1, x, y⟩ from (show PtB (w.alloc (.cells #[.int .i64 i, .int .i64 1, .int .i64 x, .int .i64 y] 31)) w.heap.size ⟨i, 1, x, y⟩ from heap_alloc_new _ _).below (blwA _ _))
    have HB := Lib.hid (fun (x y : Int) => blwO (blwA (w.alloc (.cells #[.int .i64 i, .int .i64 1, .int .i64 x, .int .i64 y] 31)) (.cells #[.int .i64 x, .int .i64 y] 67)) (blwA w _))
    clear h e
    generalize lookA g i = a at *
    generalize lookS g i = f at *
    go_enter Try.func43, Try.ntmps43
    go_wp2_with fail
    exact part_ret (x := ⟨i, 1, a, f⟩) rfl (HZ.out a f) rfl rfl ⟨rfl, HB.out a f⟩
end Go.Proofs.Ytjdhbpgipoifkaa
