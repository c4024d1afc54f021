/- The program's sequencer in memory, and what its New, Crash, Epoch, Knows and coded return. No conditions but those that the statements name. Pages as the program keeps them: a map whose keys are page numbers, whose elements are a kind and a text; what such a map tells. Conditions: numbers of 64 bits. Answers that are handed over by value: what their fields hold; whether they are large. Conditions: as each statement says. Rows of slices that a call makes for itself, each in a place of its own. No conditions but those that the statements name. Projections as arguments: where they lie, boxed and made by literals; which are not too large. No conditions. Rows of questions that were handed over: what stands at each of their places. No conditions but those that the statements name. What the document's own sequencer answers any question, and is behind it; the program's and it side by side. Conditions: the program's functions return what OrderSays says. What the statements' own Fair tells of a list of steps. Conditions: the list is one that was handed over. Plain facts on an append: what it asks, what each answer makes of it, how it is over. No conditions. -/
import Derived.Test.YtchhmfdalghgcaaGreatG09a
import Derived.Test.YtchhmfdalghgcaaGreatG08b
import Derived.Test.YtchhmfdalghgcaaGreatG09c
import Derived.Test.YtchhmfdalghgcaaGreatG03a
import Derived.Test.YtchhmfdalghgcaaGreatG04a
import Derived.Maps.RangeWalk
import Derived.Deep.RegionLaw
import Derived.Test.YtchhmfdalghgcaaGreatG09b
import Derived.Test.YtchhmfdalghgcaaGreatG03b
set_option linter.unusedVariables false
namespace Go.Proofs.YtchhmfdalghgcaaGreat
set_option linter.unusedVariables false
open Go.RowKit
set_option maxRecDepth 20000
/-- block b is the program's sequencer; what it holds for a tail while it knows none counts for nothing -/
def OM (b : Nat) (G : Nat → Prop) (w : World) (o : Od) : Prop :=
  o.Ok ∧ (∃ t : Int, (o.knows = true → t = o.tail) ∧ w.heap[b]? = some (.cells #[.int .i64 o.epoch, .int .i64 t, .bool o.knows] 81 (0, 0))) ∧ ∀ k, G k ↔ k = b
theorem om_thing (b : Nat) : Thing (OM b) where
  lt := by
    rintro G w u ⟨_, ⟨t, _, h1⟩, h2⟩ k hk
    rw [(h2 k).1 hk]
    exact lt_of_block h1
  keep := by
    rintro G S w w' u ⟨h0, ⟨t, ht, h1⟩, h2⟩ hk hS
    exact ⟨h0, ⟨t, ht, hk.heap (hS b ((h2 b).2 rfl)) h1⟩, h2⟩
section
variable {w : World} {b : Nat} {G : Nat → Prop} {o : Od}
theorem OM.small (h : OM b G w o) : b < w.heap.size := by obtain ⟨_, ⟨t, _, h1⟩, _⟩ := h; exact lt_of_block h1
theorem OM.cells (h : OM b G w o) : ∃ t : Int, (o.knows = true → t = o.tail) ∧ w.heap[b]? = some (.cells #[.int .i64 o.epoch, .int .i64 t, .bool o.knows] 81 (0, 0)) := h.2.1
theorem om_keeps (b : Nat) (w : World) (v0 v1 v2 : Value) : Kept (fun k => k ≠ b) w (((w.setCell ⟨b, 0, none⟩ v0).setCell ⟨b, 1, none⟩ v1).setCell ⟨b, 2, none⟩ v2) :=
  (((Kept.refl _ w).setCell (p := ⟨b, 0, none⟩) (fun h => h rfl) _).setCell (p := ⟨b, 1, none⟩) (fun h => h rfl) _).setCell (p := ⟨b, 2, none⟩) (fun h => h rfl) _
/-- it begins a later epoch -/
theorem OM.begins (h : OM b G w o) {ep pg : Int} (he : i64w ep) (hp : 0 ≤ pg ∧ pg ≤ 16384) :
    Leaves (OM b) G w (((w.setCell ⟨b, 0, none⟩ (.int .i64 ep)).setCell ⟨b, 1, none⟩ (.int .i64 pg)).setCell ⟨b, 2, none⟩ (.bool true)) ⟨ep, pg, true⟩ := by
  obtain ⟨k0, ⟨t, kt, k1⟩, k2⟩ := h
  exact ⟨G, ⟨⟨he, hp⟩, ⟨pg, fun _ => rfl, three_set2 (three_set1 (three_set0 k1 _) _) _⟩, k2⟩, (om_keeps b w _ _ _).mono (fun k hg e => hg ((k2 k).2 e)), fun k hk => .inl hk⟩
/-- it puts the tail one further -/
theorem OM.steps (h : OM b G w o) (ht : o.tail ≠ 16384) : Leaves (OM b) G w (w.setCell ⟨b, 1, none⟩ (.int .i64 (o.tail + 1))) ⟨o.epoch, o.tail + 1, o.knows⟩ := by
  obtain ⟨k0, ⟨t, kt, k1⟩, k2⟩ := h
  have hk : Kept (fun k => k ≠ b) w (w.setCell ⟨b, 1, none⟩ (.int .i64 (o.tail + 1))) := (Kept.refl _ w).setCell (p := ⟨b, 1, none⟩) (fun h => h rfl) _
  exact ⟨G, ⟨⟨k0.epoch, by have := k0.tail; show 0 ≤ o.tail + 1 ∧ o.tail + 1 ≤ 16384; omega⟩, ⟨o.tail + 1, fun _ => rfl, three_set1 k1 _⟩, k2⟩, hk.mono (fun k hg e => hg ((k2 k).2 e)), fun k hk => .inl hk⟩
/-- it forgets the tail -/
theorem OM.forgets (h : OM b G w o) : Leaves (OM b) G w ((w.setCell ⟨b, 1, none⟩ (.int .i64 0)).setCell ⟨b, 2, none⟩ (.bool false)) ⟨o.epoch, o.tail, false⟩ := by
  obtain ⟨k0, ⟨t, kt, k1⟩, k2⟩ := h
  have hk : Kept (fun k => k ≠ b) w ((w.setCell ⟨b, 1, none⟩ (.int .i64 0)).setCell ⟨b, 2, none⟩ (.bool false)) := ((Kept.refl _ w).setCell (p := ⟨b, 1, none⟩) (fun h => h rfl) _).setCell (p := ⟨b, 2, none⟩) (fun h => h rfl) _
  exact ⟨G, ⟨k0.turn false, ⟨0, (fun h => by cases h), three_set2 (three_set1 k1 _) _⟩, k2⟩, hk.mono (fun k hg e => hg ((k2 k).2 e)), fun k hk => .inl hk⟩
end
theorem on_new (w : World) : Calls Tryz.prog 38 #[] w fun e w' => ∃ (b : Nat) (G : Nat → Prop), e = .returned (ptrO b) ∧ OM b G w' newO ∧ (∀ k, G k → w.heap.size ≤ k) ∧ Below w.heap.size w w' := by
  go_enter Tryz.func38, Tryz.ntmps38
  go_wp2_with fail
  go_ret
  exact ⟨w.heap.size, fun k => k = w.heap.size, rfl, ⟨newO_ok, ⟨0, (fun h => by cases h), heap_alloc_new _ _⟩, fun k => Iff.rfl⟩, fun k hk => by omega, (Below.refl _ _).alloc (Nat.le_refl _) _⟩
theorem on_crash (b : Nat) (G : Nat → Prop) (w : World) (o : Od) (h : OM b G w o) :
    Calls Tryz.prog 14 #[.pointer (some ⟨b, 0, none⟩)] w fun e w' => e = .returned (.tuple #[]) ∧ Leaves (OM b) G w w' ⟨o.epoch, o.tail, false⟩ := by
  have HT := Lib.hid h.forgets
  have hb := h.small
  obtain ⟨t, _, hc⟩ := h.cells
  obtain ⟨c0, c1, c2, f0, f1, f2⟩ := three_cells hc
  clear h hc
  go_enter Tryz.func14, Tryz.ntmps14
  go_wp2
  go_end0
  exact ⟨rfl, HT.out⟩
theorem ocoded_any (c : Int) (w : World) : Calls Tryz.prog 56 #[.int .i64 c] w fun e w' => e = .returned (.agg #[.int .i64 c, .int .i64 0, .string ⟨#[]⟩, .int .i64 0, .slice none 0 0, .int .i64 0, .int .i64 0, .int .i64 0]) ∧ Below w.heap.size w w' := by
  go_enter Tryz.func56, Tryz.ntmps56
  go_wp2
  exact ans_ret (x := anP c 0 noT 0) (ao := none) (cap := 0) rfl (heap_alloc_new _ _) rfl rfl ⟨rfl, (Below.refl _ _).alloc (Nat.le_refl _) _⟩
end Go.Proofs.YtchhmfdalghgcaaGreat
namespace Go.Proofs.YtchhmfdalghgcaaGreat
open Go.RowKit Go.Maps
set_option linter.unusedVariables false
set_option maxRecDepth 20000
theorem pspot_row : (212 : TypeId) < Tryz.prog.types.size := of_decide_eq_true (by kernel_rfl)
theorem pspot_law : Keyed Tryz.prog 212 := Keyed.of_law (deep_law_laid laidOut (m := 2) (by omega) pspot_row (by kernel_rfl) (by rw [Tryz.underlying212]))
theorem pspot_succ : ∃ n, Tryz.prog.types.size = n + 1 := ⟨Tryz.prog.types.size - 1, by have h := Nat.lt_of_le_of_lt (Nat.zero_le _) pspot_row; exact (Nat.succ_pred_eq_of_pos h).symm⟩
/-- a page's number as a key -/
def klA (u : Int) : Lit := .string (keyBytes [.int .i64 u])
theorem pspot_key (u : Int) (hu : (Lit.int .i64 u).wf = true) : keyOf Tryz.prog 212 (.agg #[.int .i64 u]) = some (klA u) := by
  obtain ⟨n, hn⟩ := pspot_succ
  exact key_one Tryz.underlying212 (by kernel_rfl) (by rfl) rfl (by kernel_rfl) Tryz.underlying3 (by kernel_rfl) hn hu
theorem pspot_inv {v : Value} {kl : Lit} (h : keyOf Tryz.prog 212 v = some kl) : ∃ u, v = .agg #[.int .i64 u] ∧ (Lit.int .i64 u).wf = true := by
  obtain ⟨n, hn⟩ := pspot_succ
  exact key_one_inv Tryz.underlying212 (by kernel_rfl) (by rfl) rfl (by kernel_rfl) Tryz.underlying3 (by kernel_rfl) hn h
theorem agg1_inj {u v : Int} (h : (Value.agg #[Value.int .i64 u]) = .agg #[.int .i64 v]) : u = v := by simpa using h
theorem klA_inj {u v : Int} (hu : (Lit.int .i64 u).wf = true) (hv : (Lit.int .i64 v).wf = true) (h : klA u = klA v) : u = v :=
  agg1_inj (pspot_law.inj (pspot_key u hu) (h ▸ pspot_key v hv))
theorem klA_key {u : Int} (hu : (Lit.int .i64 u).wf = true) : WideAt.IsKeyLit (klA u) := pspot_law.key (pspot_key u hu)
/-- what stands on a page: its kind, its text -/
def sheetD (k : Int) (s : ByteArray) : DataW Unit := .agg [.lit (.int .i64 k), .lit (.string s.data.toList)]
def sheetR : Value → Option (DataW Unit × List MemPlace)
  | .agg a => match a.toList with
    | [.int .i64 k, .string s] => some (sheetD k s, [])
    | _ => none
  | _ => none
theorem sheetR_mk (k : Int) (s : ByteArray) : sheetR (.agg #[.int .i64 k, .string s]) = some (sheetD k s, []) := rfl
theorem sheetR_inv {v : Value} {z : DataW Unit × List MemPlace} (h : sheetR v = some z) : ∃ k s, v = .agg #[.int .i64 k, .string s] ∧ z = (sheetD k s, []) := by
  unfold sheetR at h
  split at h
  · next a =>
    split at h
    · next i j e =>
      cases h
      refine ⟨i, j, ?_, rfl⟩
      rw [← Array.toArray_toList (xs := a), e]
    · cases h
  · cases h
theorem sheetD_inj {k l : Int} {s t : ByteArray} (h : sheetD k s = sheetD l t) : k = l ∧ s = t := by
  unfold sheetD at h
  simp at h
  exact ⟨h.1, ByteArray.ext h.2⟩
theorem zero_sheet (w : World) : (zeroValue 210).run Tryz.prog w = .ok (.agg #[.int .i64 0, .string ⟨#[]⟩]) w := by kernel_rfl
/-- of which kind, with which text, a page is in a list; a page that is not there is empty -/
def kindL (l : List Pg) (a : Int) : Int := match findP l a with | some x => x.kind | none => 0
def textL (l : List Pg) (a : Int) : ByteArray := match findP l a with | some x => x.s | none => ⟨#[]⟩
/-- the map's datum tells the pages l -/
structure Mp (D : DataW Unit) (l : List Pg) : Prop where
  tidy : Tidy D
  hs : ∀ u, (Lit.int .i64 u).wf = true → Maps.has D (klA u) = decide (u ∈ l.map (·.at_))
  size : Maps.size D = l.length
  tells : ∀ x ∈ l, ∀ z, D.atKey (klA x.at_) z = sheetD x.kind x.s
  once : (l.map (·.at_)).Nodup
  wf : ∀ x ∈ l, (Lit.int .i64 x.at_).wf = true
theorem Mp.nil : Mp (.map []) [] := ⟨tidy_empty, fun _ _ => rfl, rfl, fun x hx => (by cases hx), List.Pairwise.nil, fun x hx => (by cases hx)⟩
theorem Mp.look {D : DataW Unit} {l : List Pg} (h : Mp D l) {a : Int} (ha : (Lit.int .i64 a).wf = true) : D.atKey (klA a) (sheetD 0 ⟨#[]⟩) = sheetD (kindL l a) (textL l a) := by
  unfold kindL textL
  cases e : findP l a with
  | none =>
    have hn : a ∉ l.map (·.at_) := by
      intro hm
      obtain ⟨x, hx, hx2⟩ := List.mem_map.1 hm
      exact findP_none.1 e x hx hx2
    exact atKey_of_not_has (by rw [h.hs a ha]; exact decide_eq_false hn) _
  | some x =>
    obtain ⟨h1, h2⟩ := findP_some e
    rw [← h2]
    exact h.tells x h1 _
theorem Mp.put {D : DataW Unit} {l : List Pg} (h : Mp D l) {x : Pg} (hx : (Lit.int .i64 x.at_).wf = true) (hn : x.at_ ∉ l.map (·.at_)) : Mp (D.put (klA x.at_) (sheetD x.kind x.s)) (l ++ [x]) := by
  have hk := klA_key hx
  refine ⟨h.tidy.put hk _, fun u hu => ?_, ?_, fun y hy z => ?_, ?_, fun y hy => ?_⟩
  · by_cases e : u = x.at_
    · subst e
      rw [has_put_same h.tidy.isMap hk]
      exact (decide_eq_true (by simp)).symm
    · rw [has_put_other (fun e2 => e (klA_inj hu hx e2)), h.hs u hu]
      simp [e]
  · rw [size_put h.tidy, h.hs _ hx, h.size, decide_eq_false hn]
    simp
  · rcases List.mem_append.1 hy with h1 | h1
    · have hne : y.at_ ≠ x.at_ := fun e => hn (e ▸ List.mem_map.2 ⟨y, h1, rfl⟩)
      rw [atKey_put_other (fun e => hne (klA_inj (h.wf y h1) hx e))]
      exact h.tells y h1 z
    · rw [List.mem_singleton.1 h1]
      exact atKey_put_same h.tidy.isMap hk _ _
  · rw [List.map_append, List.nodup_append]
    refine ⟨h.once, by simp, fun a ha b hb e => ?_⟩
    rw [List.map_singleton, List.mem_singleton] at hb
    subst hb
    exact hn (e ▸ ha)
  · rcases List.mem_append.1 hy with h1 | h1
    · exact h.wf y h1
    · rw [List.mem_singleton.1 h1]
      exact hx
/-- all but page a -/
def lessP (l : List Pg) (a : Int) : List Pg := l.filter (fun x => decide (x.at_ ≠ a))
theorem lessP_mem {l : List Pg} {a : Int} {x : Pg} : x ∈ lessP l a ↔ x ∈ l ∧ x.at_ ≠ a := by
  unfold lessP
  simp
theorem lessP_none {l : List Pg} {a : Int} (h : a ∉ l.map (·.at_)) : lessP l a = l := by
  unfold lessP
  rw [List.filter_eq_self]
  intro x hx
  exact decide_eq_true (fun e => h (List.mem_map.2 ⟨x, hx, e⟩))
theorem lessP_length {l : List Pg} {a : Int} (h : (l.map (·.at_)).Nodup) : (lessP l a).length + (if a ∈ l.map (·.at_) then 1 else 0) = l.length := by
  induction l with
  | nil => rfl
  | cons x l ih =>
    rw [List.map_cons, List.nodup_cons] at h
    by_cases e : x.at_ = a
    · subst e
      have h1 : lessP (x :: l) x.at_ = lessP l x.at_ := by
        unfold lessP
        exact List.filter_cons_of_neg (by simp)
      rw [h1, lessP_none h.1, if_pos (by simp)]
      rfl
    · have h1 : lessP (x :: l) a = x :: lessP l a := by
        unfold lessP
        exact List.filter_cons_of_pos (by simpa using e)
      have h2 := ih h.2
      rw [h1, List.length_cons, List.length_cons]
      by_cases e2 : a ∈ l.map (·.at_)
      · rw [if_pos e2] at h2
        rw [if_pos (show a ∈ (x :: l).map (·.at_) from List.mem_cons_of_mem _ e2)]
        omega
      · rw [if_neg e2] at h2
        rw [if_neg (show ¬ a ∈ (x :: l).map (·.at_) from fun h3 => by rw [List.map_cons, List.mem_cons] at h3; rcases h3 with h3 | h3; exact e h3.symm; exact e2 h3)]
        omega
theorem Mp.del {D : DataW Unit} {l : List Pg} (h : Mp D l) {a : Int} (ha : (Lit.int .i64 a).wf = true) : Mp (D.del (klA a)) (lessP l a) := by
  refine ⟨h.tidy.del _, fun u hu => ?_, ?_, fun y hy z => ?_, h.once.sublist ((List.filter_sublist).map _), fun y hy => h.wf y (lessP_mem.1 hy).1⟩
  · by_cases e : u = a
    · subst e
      rw [has_del_same]
      refine (decide_eq_false (fun hm => ?_)).symm
      obtain ⟨x, hx, e⟩ := List.mem_map.1 hm
      exact (lessP_mem.1 hx).2 e
    · rw [has_del_other (fun e2 => e (klA_inj hu ha e2)), h.hs u hu]
      refine decide_eq_decide.2 ⟨fun hm => ?_, fun hm => ?_⟩
      · obtain ⟨x, hx, e1⟩ := List.mem_map.1 hm
        exact List.mem_map.2 ⟨x, lessP_mem.2 ⟨hx, by rw [e1]; exact e⟩, e1⟩
      · obtain ⟨x, hx, e1⟩ := List.mem_map.1 hm
        exact List.mem_map.2 ⟨x, (lessP_mem.1 hx).1, e1⟩
  · have h1 := size_del (k := klA a) h.tidy
    have h2 := lessP_length (a := a) h.once
    rw [h.hs a ha, h.size] at h1
    by_cases e : a ∈ l.map (·.at_)
    · simp [e] at h1 h2
      omega
    · simp [e] at h1 h2
      omega
  · obtain ⟨h1, h2⟩ := lessP_mem.1 hy
    rw [atKey_del_other (fun e => h2 (klA_inj (h.wf y h1) ha e))]
    exact h.tells y h1 z
/-- the map at block b tells the pages l -/
def Tp (w : World) (b : Nat) (l : List Pg) : Prop := ∃ D, w.ownsMap Tryz.prog 212 sheetR b l.length D ∧ Mp D l
theorem ownsMap_tight {w : World} {b n : Nat} {D : DataW Unit} {k : TypeId} {R : Value → Option (DataW Unit × List MemPlace)} (h : w.ownsMap Tryz.prog k R b n D) : w.ownsMap Tryz.prog k R b (Maps.size D) D := by
  obtain ⟨es, clock, h1, h2, h3, rfl⟩ := h
  exact ⟨es, clock, h1, h2, by rw [size_eq, length_sorted]; simp, rfl⟩
theorem Tp.of {w : World} {b n : Nat} {D : DataW Unit} {l : List Pg} (h : w.ownsMap Tryz.prog 212 sheetR b n D) (hM : Mp D l) : Tp w b l := ⟨D, by rw [← hM.size]; exact ownsMap_tight h, hM⟩
theorem Tp.made (w : World) : Tp (w.alloc (.map #[] 0)) w.heap.size [] := ⟨_, World.ownsMap_made _ _ _ _, Mp.nil⟩
theorem Tp.keep {w w' : World} {b : Nat} {l : List Pg} (h : Tp w b l) (e : w'.heap[b]? = w.heap[b]?) : Tp w' b l := by
  obtain ⟨D, ⟨es, clock, h1, h2⟩, h3⟩ := h
  exact ⟨D, ⟨es, clock, e.trans h1, h2⟩, h3⟩
theorem Tp.lt {w : World} {b : Nat} {l : List Pg} (h : Tp w b l) : b < w.heap.size := by
  obtain ⟨D, h1, _⟩ := h
  exact h1.lt
theorem Tp.below {w w' : World} {b : Nat} {l : List Pg} (h : Tp w b l) (hb : Below w.heap.size w w') : Tp w' b l := h.keep (hb.block b h.lt)
/-- m[a] -/
theorem Tp.look {w : World} {b : Nat} {l : List Pg} (h : Tp w b l) {a : Int} (ha : (Lit.int .i64 a).wf = true) : (Instr.lookup 147 (.map (some b)) (.agg #[.int .i64 a]) false).run Tryz.prog w = .ok (.agg #[.int .i64 (kindL l a), .string (textL l a)]) w := by
  obtain ⟨D, h1, h2⟩ := h
  obtain ⟨v, ps, hr, hv⟩ := h1.lookup pspot_law Tryz.underlying147 (zero_sheet w) (sheetR_mk _ _) (pspot_key a ha)
  rw [h2.look ha] at hv
  obtain ⟨k, s, rfl, e⟩ := sheetR_inv hv
  simp only [Prod.mk.injEq] at e
  obtain ⟨e1, e2⟩ := sheetD_inj e.1
  rw [e1, e2]
  exact hr
/-- len(m), in every world in which the block is as it was -/
theorem Tp.count {w : World} {b : Nat} {l : List Pg} (h : Tp w b l) : ∀ (ty : TypeId) (W : World), W.heap[b]? = w.heap[b]? → (Builtin.len_ #[147] ty #[.map (some b)]).run Tryz.prog W = .ok (.int .i64 l.length) W := by
  intro ty W hW
  obtain ⟨D, h1, h2⟩ := h.keep hW
  have h := h1.len Tryz.underlying147 ty
  rw [h2.size] at h
  exact h
/-- m[x.at] = x, for a page that is not there -/
theorem Tp.put {w : World} {b : Nat} {l : List Pg} (h : Tp w b l) {x : Pg} (hx : (Lit.int .i64 x.at_).wf = true) (hn : x.at_ ∉ l.map (·.at_)) (hl : l.length ≤ 100000) :
    ∃ w', (Instr.mapUpdate 147 (.map (some b)) (.agg #[.int .i64 x.at_]) (.agg #[.int .i64 x.kind, .string x.s])).run Tryz.prog w = .ok () w' ∧ Tp w' b (l ++ [x]) ∧ w.grownBy w' (some b) := by
  obtain ⟨D, h1, h2⟩ := h
  obtain ⟨w', hr, h3, hg⟩ := h1.update pspot_law Tryz.underlying147 (by unfold maxLen; omega) (pspot_key _ hx) (sheetR_mk x.kind x.s)
  exact ⟨w', hr, Tp.of h3 (h2.put hx hn), hg⟩
/-- the program's object of the pages p -/
def PGm (G : Nat → Prop) (w : World) (b : Nat) (p : Ps) : Prop := ∃ mb, w.heap[b]? = some (.cells #[.int .i64 p.room, .int .i64 p.edge, .map (some mb)] 149 (0, 0)) ∧ Tp w mb p.l ∧ mb ≠ b ∧ G b ∧ G mb ∧ ∀ k, G k → k < w.heap.size
theorem PGm.lt {G : Nat → Prop} {w : World} {b : Nat} {p : Ps} (h : PGm G w b p) : ∀ k, G k → k < w.heap.size := by
  obtain ⟨mb, _, _, _, _, _, h6⟩ := h
  exact h6
theorem PGm.keep {G T : Nat → Prop} {w w' : World} {b : Nat} {p : Ps} (h : PGm G w b p) (hk : Kept T w w') (hG : ∀ k, G k → T k) : PGm G w' b p := by
  obtain ⟨mb, h1, h2, h3, h4, h5, h6⟩ := h
  exact ⟨mb, hk.heap (hG b h4) h1, h2.keep (hk.block mb (hG mb h5) (h6 mb h5)), h3, h4, h5, fun k hk2 => Nat.lt_of_lt_of_le (h6 k hk2) hk.size⟩
theorem PGm.below {G : Nat → Prop} {w w' : World} {b : Nat} {p : Ps} (h : PGm G w b p) (hb : Below w.heap.size w w') : PGm G w' b p := h.keep (Kept.ofBelow hb (fun _ => True)) (fun _ _ => trivial)
theorem there_wf {a : Int} (h : thereB a = true) : (Lit.int .i64 a).wf = true := by
  have := thereB_iff.1 h
  exact WalkArith.wf_i64 (by omega)
theorem kindL_of {p : Ps} {a : Int} (ht : thereB a = true) (he : ¬ a < p.edge) : p.kind a = kindL p.l a := by
  unfold Ps.kind kindL
  rw [if_pos ht, if_neg he]
  rfl
end Go.Proofs.YtchhmfdalghgcaaGreat
namespace Go.Proofs.YtchhmfdalghgcaaGreat
set_option linter.unusedVariables false
open Go.ChangeShapes Go.WideShapes Go.ChangeAt Go.RowKit
set_option maxRecDepth 20000
/-- an answer that was told lies there, its projection's chains at ao -/
structure AnIn (w : World) (x : An) (ao : Option Addr) (cap : Nat) : Prop where
  code : i64w x.code
  n : i64w x.n
  data : x.data.size ≤ maxLen
  pe : i64w x.pe
  mark : i64w x.mark
  size : i64w x.size
  epoch : i64w x.epoch
  len : x.L.length ≤ maxLen
  each : ∀ c ∈ x.L, c.length ≤ maxLen
  nil : ao = none → cap = 0
  room : x.L.length ≤ cap
  here : CL w ao x.L
theorem AnIn.below {w w' : World} {x : An} {ao : Option Addr} {cap : Nat} (h : AnIn w x ao cap) (hb : Below w.heap.size w w') : AnIn w' x ao cap := ⟨h.code, h.n, h.data, h.pe, h.mark, h.size, h.epoch, h.len, h.each, h.nil, h.room, h.here.below hb⟩
section
variable {H : Type} {enc : TypeId × Value → H} {P : Program} {w : World} {base : Nat} {spare : Nat → Bool} {held : Bool}
theorem fld_int_at {n i o : Nat} {fs : Array Field} {cs : List Value} {xs : List (DataW H × List MemPlace)} {t0 : TypeId} (hg : ∀ (i : Nat) (f : Field), fs[i]? = some f → DataW.trod enc P w base spare held n f.type ((cs.drop f.offset).take (P.cellsOf f.type)) = xs[i]?)
    (hf : fs[i]?.map (fun f => (f.offset, f.type)) = some (o, t0)) (hx : i < xs.length) (hc : P.cellsOf t0 = 1) (hu : P.underlying t0 = some (.int .i64)) : ∃ y, cs[o]? = some (.int .i64 y) ∧ i64w y := by
  obtain ⟨f, h1, h2⟩ := Option.map_eq_some_iff.1 hf
  obtain ⟨h3, h4⟩ := Prod.mk.inj h2
  have g := hg i f h1
  rw [h3, h4, hc, List.getElem?_eq_getElem hx] at g
  obtain ⟨y, e, _, wf⟩ := DataW.trod_int hu g
  exact ⟨y, one_at e, wf⟩
/-- the types of an answer and of what it is made of -/
structure AnsT (P : Program) (t ti ts tp tc te : TypeId) : Prop where
  ans : ∃ fs : Array Field, P.underlying t = some (.struct fs) ∧ fs.size = 7 ∧ fs.map (fun (f : Field) => (f.offset, f.type)) = #[(0, ti), (1, ti), (2, ts), (3, tp), (5, ti), (6, ti), (7, ti)]
  cells : P.cellsOf t = 8
  proj : ∃ g0 g1 : Field, P.underlying tp = some (.struct #[g0, g1]) ∧ (g0.offset, g0.type) = (0, ti) ∧ (g1.offset, g1.type) = (1, tc)
  cp : P.cellsOf tp = 2
  ci : P.cellsOf ti = 1
  cs : P.cellsOf ts = 1
  cc : P.cellsOf tc = 1
  ce : P.cellsOf te = 1
  ui : P.underlying ti = some (.int .i64)
  us : P.underlying ts = some .string
  uc : P.underlying tc = some (.slice te)
  ue : P.underlying te = some (.slice ti)
theorem ans_cs {n : Nat} {cs : List Value} {y : DataW H × List MemPlace} {t ti ts tp tc te : TypeId} (T : AnsT P t ti ts tp tc te) (hl : cs.length = 8) (hf : DataW.trod enc P w base spare held n t cs = some y) : ∃ (x : An) (ao : Option Addr) (cap : Nat), cs = ansC x ao cap ∧ AnIn w x ao cap := by
  obtain ⟨fs, ht, hz, hfs⟩ := T.ans
  obtain ⟨g0, g1, hp, q0, q1⟩ := T.proj
  obtain ⟨xs, m, _, _, _, hxl, hg⟩ := DataW.trod_struct ht hf
  rw [hz] at hxl
  have at' : ∀ i : Nat, fs[i]?.map (fun (f : Field) => (f.offset, f.type)) = (#[(0, ti), (1, ti), (2, ts), (3, tp), (5, ti), (6, ti), (7, ti)] : Array (Nat × TypeId))[i]? := by
    intro i
    rw [← hfs, Array.getElem?_map]
  obtain ⟨y0, e0, w0⟩ := fld_int (i := 0) (t0 := ti) hg (at' 0) (by omega) T.ci T.ui
  obtain ⟨y1, e1, w1⟩ := fld_int (i := 1) (t0 := ti) hg (at' 1) (by omega) T.ci T.ui
  obtain ⟨y2, e2, w2⟩ := fld_text (i := 2) (t0 := ts) hg (at' 2) (by omega) T.cs T.us
  obtain ⟨f, h1, h2⟩ := Option.map_eq_some_iff.1 (at' 3)
  obtain ⟨h3, h4⟩ := Prod.mk.inj h2
  have g := hg 3 f h1
  rw [h3, h4, T.cp, List.getElem?_eq_getElem (by omega)] at g
  obtain ⟨pe, ao, cap, L, e3, w3, hC, k1, k2, k3, k4⟩ := proj_cs hp T.cp q0 q1 T.ci T.cc T.ui T.uc T.ue T.ce (by rw [List.length_take, List.length_drop]; omega) g
  obtain ⟨y5, e5, w5⟩ := fld_int_at (i := 4) (o := 5) (t0 := ti) hg (at' 4) (by omega) T.ci T.ui
  obtain ⟨y6, e6, w6⟩ := fld_int_at (i := 5) (o := 6) (t0 := ti) hg (at' 5) (by omega) T.ci T.ui
  obtain ⟨y7, e7, w7⟩ := fld_int_at (i := 6) (o := 7) (t0 := ti) hg (at' 6) (by omega) T.ci T.ui
  refine ⟨⟨y0, y1, y2, pe, L, y5, y6, y7⟩, ao, cap, ?_, ⟨w0, w1, w2, w3, w5, w6, w7, k3, k4, k1, k2, hC⟩⟩
  match cs, hl with
  | [x0, x1, x2, x3, x4, x5, x6, x7], _ =>
    simp at e0 e1 e2 e3 e5 e6 e7
    obtain ⟨e3, e4⟩ := e3
    subst e0 e1 e2 e3 e4 e5 e6 e7
    rfl
/-- an answer that was handed over by value -/
theorem open_ans {r : Reach} {b0 : Nat} {t ti ts tp tc te : TypeId} {v : Value} {d : DataW H} {p : List MemPlace} (T : AnsT P t ti ts tp tc te) (hv : Value.okWide P w r b0 t v) (h : DataW.Trod enc P w base spare held t v d p) : ∃ (x : An) (ao : Option Addr) (cap : Nat), v = ansV x ao cap ∧ AnIn w x ao cap := by
  obtain ⟨fs, ht, _⟩ := T.ans
  obtain ⟨A, rfl, hsz⟩ := okWide_rec ht hv
  obtain ⟨fuel, hf⟩ := h
  rw [T.cells] at hsz
  simp only [Value.cells] at hf
  obtain ⟨x, ao, cap, e, h2⟩ := ans_cs T (by simpa using hsz) hf
  exact ⟨x, ao, cap, by unfold ansV; rw [← e], h2⟩
end
theorem ansT : AnsT Tryz.prog 33 3 9 29 27 44 :=
  ⟨⟨_, Tryz.underlying33, rfl, by kernel_rfl⟩, by kernel_rfl, ⟨_, _, Tryz.underlying29, rfl, rfl⟩, by kernel_rfl, by kernel_rfl, by kernel_rfl, by kernel_rfl, by kernel_rfl, Tryz.underlying3, Tryz.underlying9, Tryz.underlying27, Tryz.underlying44⟩
/-- is an answer too large to be gone through? -/
def largeX (x : An) : Bool := decide (6000 < x.data.size) || largeB x.L
set_option maxHeartbeats 2000000 in
theorem largeAns_any (x : An) (ao : Option Addr) (cap : Nat) (w : World) (h : AnIn w x ao cap) :
    Calls Tryz.prog 22 #[ansV x ao cap] w fun e w' => e = .returned (.bool (largeX x)) ∧ Below w.heap.size w w' := by
  obtain ⟨_, _, hd, _, _, _, _, hl, hm, _, _, hC⟩ := h
  obtain ⟨c, n, s, pe, L, mk, sz, ep⟩ := x
  simp only at hd hl hm hC
  have HB0 := Lib.hid ((Below.refl w.heap.size w).alloc (Nat.le_refl _) (.cells #[.int .i64 c, .int .i64 n, .string s, .int .i64 pe, .slice ao L.length cap, .int .i64 mk, .int .i64 sz, .int .i64 ep] 33))
  have CL1 := Lib.hid (large_any pe ao cap L _ (hC.below HB0.out) hl hm)
  unfold maxLen at hd
  have hs' : (s.size : Int) ≤ 9223372036854775807 := by omega
  show Calls _ _ #[.agg #[.int .i64 c, .int .i64 n, .string s, .int .i64 pe, .slice ao L.length cap, .int .i64 mk, .int .i64 sz, .int .i64 ep]] w _
  by_cases hb : 6000 < s.size
  · have hb' : (6000 : Int) < (s.size : Int) := by omega
    rw [show largeX ⟨c, n, s, pe, L, mk, sz, ep⟩ = true from by unfold largeX; rw [decide_eq_true hb]; rfl]
    clear hl hm hC hd hb
    go_enter Tryz.func22, Tryz.ntmps22
    go_wp2_with fail
    go_ret
    exact ⟨rfl, HB0.out⟩
  · have hb' : decide ((6000 : Int) < (s.size : Int)) = false := decide_eq_false (by omega)
    rw [show largeX ⟨c, n, s, pe, L, mk, sz, ep⟩ = largeB L from by unfold largeX; rw [decide_eq_false hb]; rfl]
    clear hl hm hC hd hb
    go_enter Tryz.func22, Tryz.ntmps22
    go_wp2_with (go_at_call 21; refine CL1.out.mono ?_; rintro e w1 ⟨rfl, hb1⟩)
    go_ret
    exact ⟨rfl, HB0.out.trans (hb1.mono HB0.out.size)⟩
end Go.Proofs.YtchhmfdalghgcaaGreat
namespace Go.Proofs.YtchhmfdalghgcaaGreat
set_option linter.unusedVariables false
open Go.RowKit
set_option maxRecDepth 20000
theorem below_kept {B : Nat} {w w' : World} (h : Below B w w') (hB : B ≤ w.heap.size) : Kept (fun k => k < B) w w' :=
  ⟨h.os, h.tape, h.output, h.size, fun k hk _ => h.block k hk⟩
/-- v is a row of the call's own that holds the slices vs, of its own too, whose rows hold the lists of L; no two of all these rows in one block -/
def CP (w : World) (B : Nat) (v : Value) (vs : List Value) (L : List (List Int)) : Prop :=
  w.ownsRow B 44 1 v L.length vs ∧ vs.length = L.length ∧ (∀ i (h : i < L.length) x, vs[i]? = some x → OI w B x L[i] ∧ ∀ k, x.ownBlock = some k → v.ownBlock ≠ some k) ∧
  ∀ (i j : Nat) (x y : Value) (k : Nat), i < j → vs[i]? = some x → vs[j]? = some y → x.ownBlock = some k → y.ownBlock ≠ some k
theorem CP.nil (w : World) (B : Nat) : CP w B (.slice none 0 0) [] [] := ⟨World.ownsRow_nil _ _ _ _, rfl, fun i h => absurd h (Nat.not_lt_zero i), fun i j x y k _ hx => by cases i <;> cases hx⟩
theorem CP.keep {S : Nat → Prop} {w w' : World} {B : Nat} {v : Value} {vs : List Value} {L : List (List Int)} (h : CP w B v vs L) (hk : Kept S w w') (hS : ∀ k, B ≤ k → k < w.heap.size → S k) : CP w' B v vs L := by
  obtain ⟨h1, h2, h3, h4⟩ := h
  exact ⟨hk.owns h1 (fun k e => hS k (h1.lt k e).1 (h1.lt k e).2), h2, fun i hi x hx => ⟨(h3 i hi x hx).1.keep hk hS, (h3 i hi x hx).2⟩, h4⟩
theorem CP.below {w w' : World} {B : Nat} {v : Value} {vs : List Value} {L : List (List Int)} (h : CP w B v vs L) (hb : Below w.heap.size w w') : CP w' B v vs L := h.keep (Kept.ofBelow hb (fun _ => True)) (fun _ _ _ => trivial)
theorem CP.form {w : World} {B : Nat} {v : Value} {vs : List Value} {L : List (List Int)} (h : CP w B v vs L) : ∃ bo cb, v = .slice bo L.length cb := by
  rcases h.1.2 with ⟨rfl, h0⟩ | ⟨g, cap, cur, rfl, _⟩
  · exact ⟨none, 0, by rw [h0]⟩
  · exact ⟨_, _, rfl⟩
theorem run_app_copy (w : World) (ty : TypeId) {B : Nat} {v : Value} {vs : List Value} {L : List (List Int)} (h : CP w B v vs L) {x : Value} {l : List Int} (hO : OI w B x l) (hf : ∀ k, x.ownBlock = some k → v.ownBlock ≠ some k ∧ ∀ (i : Nat) (y : Value), vs[i]? = some y → y.ownBlock ≠ some k) (hz : L.length + 1 ≤ 1000000) (hB : B ≤ w.heap.size) :
    ∃ v' w', (Builtin.append_ #[27, 27] ty #[v, .slice (some ⟨w.heap.size, 0, none⟩) 1 1]).run Tryz.prog (w.alloc (.cells #[x] 44)) = .ok v' w' ∧ CP w' B v' (vs ++ [x]) (L ++ [l]) ∧ Below B w w' := by
  obtain ⟨i0, hi, hz0, hz1, hz2⟩ := info_parts ints_info
  have hb1 : Below w.heap.size w (w.alloc (.cells #[x] 44)) := (Below.refl _ _).alloc (Nat.le_refl _) _
  obtain ⟨h1, h2, h3, h4⟩ := h.below hb1
  obtain ⟨ax, cx, hx, _, _, _⟩ := hO.form
  obtain ⟨v', w', hr, h5, hg, _, hat⟩ := run_append_own_at (P := Tryz.prog) (w.alloc (.cells #[x] 44)) B 27 ty 44 i0 (.slice none 0 0) 1 24 Tryz.underlying27 hi hz0 hz1 hz2 rfl (by decide) v L.length vs h1 ⟨w.heap.size, 0, none⟩ 1 1 [x] rfl (made_slice w _ _) (fun u hu => by rw [List.mem_singleton.1 hu, hx]; rfl) (by unfold maxLen; omega) (by omega) (Nat.le_trans hB hb1.size)
  have far : ∀ k, k < w.heap.size → v.ownBlock ≠ some k → v'.ownBlock ≠ some k := by
    intro k hl hne
    rcases hat with e | e
    · rw [e]; exact hne
    · rw [e]
      intro e2
      have e3 := Option.some.inj e2
      have := hb1.size
      omega
  refine ⟨v', w', hr, ⟨by rw [List.length_append]; exact h5, by rw [List.length_append, List.length_append, h2]; rfl, fun i hi y hy => ?_, fun i j y z k hij hy hz hk => ?_⟩, (hb1.mono hB).grown hg (Nat.le_trans hB hb1.size) (fun k hk => (h.1.lt k hk).1)⟩
  · by_cases hil : i < L.length
    · rw [List.getElem?_append_left (by omega)] at hy
      have e : (L ++ [l])[i] = L[i] := List.getElem_append_left hil
      rw [e]
      obtain ⟨h6, h7⟩ := h3 i hil y hy
      refine ⟨h6.kept hg ?_, fun k hk => far k ((h.2.2.1 i hil y hy).1.1.lt k hk).2 (h7 k hk)⟩
      cases e : y.ownBlock with
      | none => exact .inl rfl
      | some k => exact .inr (fun e2 => h7 k e e2.symm)
    · obtain rfl : i = L.length := by rw [List.length_append] at hi; simp at hi; omega
      rw [List.getElem?_append_right (by omega), h2, Nat.sub_self] at hy
      obtain rfl : x = y := by simpa using hy
      have e : (L ++ [l])[L.length] = l := by simp
      rw [e]
      refine ⟨(hO.alloc _).kept hg ?_, fun k hk => far k (hO.1.lt k hk).2 (hf k hk).1⟩
      cases e : x.ownBlock with
      | none => exact .inl rfl
      | some k => exact .inr (fun e2 => (hf k e).1 e2.symm)
  · by_cases hjl : j < L.length
    · rw [List.getElem?_append_left (by omega)] at hy hz
      exact h4 i j y z k hij hy hz hk
    · have hjx : j = L.length := by
        have := List.getElem?_eq_some_iff.1 hz
        obtain ⟨hj, _⟩ := this
        rw [List.length_append, h2] at hj
        simp at hj
        omega
      subst hjx
      rw [List.getElem?_append_left (by omega)] at hy
      rw [List.getElem?_append_right (by omega), h2, Nat.sub_self] at hz
      obtain rfl : x = z := by simpa using hz
      intro e
      exact (hf k e).2 i y hy hk
theorem step_app_copy {ops : Array Oper} {o : Oper} {a : Act} {w : World} {K : Act → World → Prop} {Q : Exit → Act → World → Prop} {E : Prop} (hgd : o.guard = none) (s x : Operand)
    (ho : o.op = Op.call { callee := Callee.builtin Builtin.append, args := #[s, x], argTypes := #[27, 27] }) {B : Nat} {v : Value} {vs : List Value} {L : List (List Int)} (hs : a.eval s = v) (h : CP w B v vs L)
    {y : Value} {l : List Int} (hx : a.eval x = .slice (some ⟨w.heap.size, 0, none⟩) 1 1) (hO : OI w B y l) (hf : ∀ k, y.ownBlock = some k → v.ownBlock ≠ some k ∧ ∀ (i : Nat) (z : Value), vs[i]? = some z → z.ownBlock ≠ some k) (hz : L.length + 1 ≤ 1000000) (hB : B ≤ w.heap.size)
    (hK : ∀ v' w', CP w' B v' (vs ++ [y]) (L ++ [l]) → Below B w w' → K (a.put o.dst v') w') :
    if Region.wanted o (yielded ops a.tmps) = true then Oper.wp Tryz.prog o a (w.alloc (.cells #[y] 44)) K Q else E := by
  have hw : Region.wanted o (yielded ops a.tmps) = true := by simp [Region.wanted, hgd]
  rw [if_pos hw]
  obtain ⟨v', w', hr, h2, h3⟩ := run_app_copy w o.type h hO hf hz hB
  unfold Oper.wp
  simp [execOp, ho, resolve, invoke, builtin, hs, hx, hr, Result.andThen]
  exact hK v' w' h2 h3
theorem CP.fresh {w w1 : World} {B : Nat} {v y : Value} {vs : List Value} {L : List (List Int)} {l : List Int} (h : CP w B v vs L) (hO : OI w1 w.heap.size y l) : ∀ k, y.ownBlock = some k → v.ownBlock ≠ some k ∧ ∀ (i : Nat) (z : Value), vs[i]? = some z → z.ownBlock ≠ some k := by
  intro k hk
  have h1 := (hO.1.lt k hk).1
  refine ⟨fun e => by have := (h.1.lt k e).2; omega, fun i z hz e => ?_⟩
  have hi : i < L.length := by
    obtain ⟨hi, _⟩ := List.getElem?_eq_some_iff.1 hz
    rw [h.2.1] at hi
    exact hi
  have := ((h.2.2.1 i hi z hz).1.1.lt k e).2
  omega
theorem CP.take {w : World} {B : Nat} {v : Value} {vs : List Value} {L : List (List Int)} {n : Nat} (hn : n < L.length) (h : CP w B v vs (L.take n ++ [L[n]])) : CP w B v vs (L.take (n + 1)) := by
  rw [List.take_succ_eq_append_getElem hn]
  exact h
end Go.Proofs.YtchhmfdalghgcaaGreat
namespace Go.Proofs.YtchhmfdalghgcaaGreat
set_option linter.unusedVariables false
open Go.RowKit
set_option maxRecDepth 20000

/-- block b is a projection's -/
def PB (w : World) (b : Nat) (ep : Int) (ao : Option Addr) (n cap : Nat) : Prop := w.heap[b]? = some (.cells #[.int .i64 ep, .slice ao n cap] 29 (0, 0))
theorem PB.below {w w' : World} {b : Nat} {ep : Int} {ao : Option Addr} {n cap : Nat} (h : PB w b ep ao n cap) (hb : Below w.heap.size w w') : PB w' b ep ao n cap := below_heap hb h
theorem PB.cells {w : World} {b : Nat} {ep : Int} {ao : Option Addr} {n cap : Nat} (h : PB w b ep ao n cap) : w.cell? ⟨b, 0, none⟩ = some (.int .i64 ep) ∧ w.cell? ⟨b, 1, none⟩ = some (.slice ao n cap) := ⟨cell_of h 0, cell_of h 1⟩
theorem PB.two (w : World) (e1 e2 : Int) (a1 a2 : Option Addr) (n1 n2 c1 c2 : Nat) : PB ((w.alloc (.cells #[.int .i64 e1, .slice a1 n1 c1] 29)).alloc (.cells #[.int .i64 e2, .slice a2 n2 c2] 29)) w.heap.size e1 a1 n1 c1 ∧
    PB ((w.alloc (.cells #[.int .i64 e1, .slice a1 n1 c1] 29)).alloc (.cells #[.int .i64 e2, .slice a2 n2 c2] 29)) (w.heap.size + 1) e2 a2 n2 c2 := by
  refine ⟨PB.below (heap_alloc_new _ _) ((Below.refl _ _).alloc (Nat.le_refl _) _), ?_⟩
  have := heap_alloc_new (w.alloc (.cells #[.int .i64 e1, .slice a1 n1 c1] 29)) (.cells #[.int .i64 e2, .slice a2 n2 c2] 29)
  have e : (w.alloc (.cells #[.int .i64 e1, .slice a1 n1 c1] 29)).heap.size = w.heap.size + 1 := by simp
  rw [e] at this
  exact this
/-- a projection that was told lies there -/
def Told (w : World) (bo : Option Addr) (cb : Nat) (L : List (List Int)) : Prop := CL w bo L ∧ (bo = none → cb = 0) ∧ L.length ≤ cb
/-- not too many chains, nor units in a chain -/
def Small (L : List (List Int)) : Prop := L.length ≤ 255 ∧ ∀ c ∈ L, c.length ≤ 255
theorem Told.below {w w' : World} {ao : Option Addr} {cap : Nat} {L : List (List Int)} (h : Told w ao cap L) (hb : Below w.heap.size w w') : Told w' ao cap L := ⟨h.1.below hb, h.2⟩
theorem PB.lt {w : World} {b : Nat} {ep : Int} {ao : Option Addr} {n cap : Nat} (h : PB w b ep ao n cap) : b < w.heap.size := by
  unfold PB at h
  exact lt_of_block h
/-- a projection that was handed to a law -/
def PIn (w : World) (ep : Int) (ao : Option Addr) (cap : Nat) (L : List (List Int)) : Prop := Told w ao cap L ∧ (-9223372036854775808 ≤ ep ∧ ep ≤ 9223372036854775807) ∧ L.length ≤ maxLen ∧ ∀ c ∈ L, c.length ≤ maxLen
theorem PIn.below {w w' : World} {ep : Int} {ao : Option Addr} {cap : Nat} {L : List (List Int)} (h : PIn w ep ao cap L) (hb : Below w.heap.size w w') : PIn w' ep ao cap L := ⟨h.1.below hb, h.2⟩
end Go.Proofs.YtchhmfdalghgcaaGreat
namespace Go.Proofs.YtchhmfdalghgcaaGreat
set_option linter.unusedVariables false
open Go.RowKit
set_option maxRecDepth 20000
end Go.Proofs.YtchhmfdalghgcaaGreat
namespace Go.Proofs.YtchhmfdalghgcaaGreat
set_option linter.unusedVariables false
open Go.RowKit
set_option maxRecDepth 20000
theorem odo_any (r : Nat) (G : Nat → Prop) (w : World) (o : Od) (a : Ak) (h : RO r G w o) (hw : i64w a.epoch) :
    Calls Tryz.prog 44 #[ptrO r, askV a] w fun e w' => e = .returned (ansV (o.ans a) none 0) ∧ Leaves (RO r) G w w' (o.done a) := by
  by_cases h8 : a.kind = 8
  · by_cases he : a.epoch ≤ o.epoch
    · exact odo_old r G w o a h h8 he
    by_cases h1 : a.page < 0
    · exact odo_low r G w o a h h8 (by omega) h1
    by_cases h2 : 16384 < a.page
    · exact odo_high r G w o a h h8 (by omega) h2
    · exact odo_start r G w o a h h8 (by omega) ⟨by omega, by omega⟩ hw
  by_cases h6 : a.kind = 6
  · by_cases he : a.epoch = o.epoch
    · cases hn : o.knows
      · exact odo_next_dumb r G w o a h h6 he hn
      · by_cases ht : o.tail = 16384
        · exact odo_full r G w o a h h6 he hn ht
        · exact odo_next r G w o a h h6 he hn ht
    · exact odo_next_other r G w o a h h6 he
  by_cases h7 : a.kind = 7
  · by_cases he : a.epoch = o.epoch
    · cases hn : o.knows
      · exact odo_tail_dumb r G w o a h h7 he hn
      · exact odo_tail r G w o a h h7 he hn
    · exact odo_tail_other r G w o a h h7 he
  · exact odo_other r G w o a h ⟨h8, h6, h7⟩
section
variable {OG : Nat → (Nat → Prop) → World → Od → Prop} {X : Nat → Prop} {w : World} {b r : Nat} {o v : Od}
end
end Go.Proofs.YtchhmfdalghgcaaGreat
namespace Go.Proofs.YtchhmfdalghgcaaGreat
set_option linter.unusedVariables false
open Go.RowKit
set_option maxRecDepth 20000
end Go.Proofs.YtchhmfdalghgcaaGreat
namespace Go.Proofs.YtchhmfdalghgcaaGreat
set_option linter.unusedVariables false
open Go.RowKit
/-- an append: its projection, its record; where it is (1 layout, 2 token, 3 write, 4 look, 5 check, 6 over), where it was ahead of a check; the address, how many units of its chain have the record; may the record be somewhere?; its error -/
structure Ap where
  ep : Int
  L : List (List Int)
  txt : ByteArray
  at_ : Int
  was : Int
  addr : Int
  i : Nat
  maybe : Bool
  e : Int
/-- a question to the unit that is next in its chain -/
def Ap.unitK (a : Ap) (kind : Int) (s : ByteArray) : Ak := ⟨kind, (chainR a.ep a.L a.addr).getD a.i 0, a.ep, ofP a.ep a.L a.addr, 0, 0, s, 0, [], none, 0⟩
def layK : Ak := ⟨9, 0, 0, 0, 0, 0, ⟨#[]⟩, 0, [], none, 0⟩
def nextK (ep : Int) : Ak := ⟨6, 0, ep, 0, 0, 0, ⟨#[]⟩, 0, [], none, 0⟩
def zeroK : Ak := ⟨0, 0, 0, 0, 0, 0, ⟨#[]⟩, 0, [], none, 0⟩
/-- does it ask? what? -/
def Ap.asks (a : Ap) : Bool := decide (a.at_ ≠ 6)
def Ap.ask (a : Ap) : Ak :=
  if a.at_ = 1 ∨ a.at_ = 5 then layK else if a.at_ = 2 then nextK a.ep else if a.at_ = 3 then a.unitK 1 a.txt else if a.at_ = 4 then a.unitK 3 ⟨#[]⟩ else zeroK
def Ap.ends (a : Ap) (e : Int) : Ap := { a with at_ := 6, e := e }
def Ap.full (a : Ap) : Ap := a.ends (if a.maybe = true then 69 else 44)
/-- the unit that was next has it -/
def Ap.wrote (a : Ap) : Ap := if a.i + 1 = (chainR a.ep a.L a.addr).length then { a with at_ := 6, e := 0, i := a.i + 1 } else { a with at_ := 3, i := a.i + 1 }
/-- it hears an answer, or none -/
def Ap.hear (a : Ap) (x : An) (heard : Bool) : Ap :=
  if a.at_ = 6 then a else
  let b : Ap := { a with maybe := a.maybe || (decide (a.at_ = 3) && (!heard || decide (x.code = 0))) }
  if heard = false ∨ x.code = 47 then b
  else if x.code = 45 then (if a.at_ = 3 ∨ a.at_ = 4 then { b with at_ := 5, was := a.at_ } else b)
  else if x.code = 40 then { b with at_ := 1 }
  else if a.at_ = 1 then (if x.code = 0 ∧ goodB x.pe x.L = true then { b with ep := x.pe, L := x.L, at_ := 2 } else b)
  else if a.at_ = 5 then (if x.code = 0 ∧ goodB x.pe x.L = true ∧ x.pe ≠ a.ep then { b with ep := x.pe, L := x.L, at_ := 2 } else { b with at_ := a.was })
  else if a.at_ = 2 then (if x.code = 0 ∧ 0 ≤ x.n ∧ x.n < 16384 then { b with addr := x.n, i := 0, at_ := 3 } else if x.code = 44 then b.full else b)
  else if a.at_ = 3 then (if x.code = 0 then b.wrote else if x.code = 41 then { b with at_ := 4 } else if x.code = 43 then { b with at_ := 2 } else if x.code = 44 then b.full else b.ends x.code)
  else (if x.code = 0 ∧ x.data = a.txt then b.wrote else if x.code = 0 ∨ x.code = 46 ∨ x.code = 43 then { b with at_ := 2 } else if x.code = 42 then { b with at_ := 3 } else b.ends x.code)
def Ap.overE (a : Ap) : Int := if a.at_ = 6 then a.e else 0
def Ap.overB (a : Ap) : Bool := decide (a.at_ = 6)
end Go.Proofs.YtchhmfdalghgcaaGreat
