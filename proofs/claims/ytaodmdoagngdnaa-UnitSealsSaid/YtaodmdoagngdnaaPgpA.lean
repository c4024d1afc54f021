/- Pages as the program keeps them: a map whose keys are page numbers, whose elements are a kind and a text; what such a map tells. Conditions: numbers of 64 bits. -/
import Derived.Test.YtaodmdoagngdnaaPagS
import Derived.Test.YtaodmdoagngdnaaKeys
import Derived.Test.YtaodmdoagngdnaaKeyIn
import Derived.Test.YtaodmdoagngdnaaClone
import Derived.Maps.RangeWalk
namespace Go.Proofs.Ytaodmdoagngdnaa
open Go.RowKit Go.Maps
set_option linter.unusedVariables false
set_option maxRecDepth 20000
theorem pspot_row : (73 : TypeId) < Try.prog.types.size := of_decide_eq_true (by kernel_rfl)
theorem pspot_law : Keyed Try.prog 73 := Keyed.of_law (deep_law_laid laidOut (m := 2) (by omega) pspot_row (by kernel_rfl) (by rw [Try.underlying73]))
theorem pspot_succ : ∃ n, Try.prog.types.size = n + 1 := ⟨Try.prog.types.size - 1, by have h := Nat.lt_of_le_of_lt (Nat.zero_le _) pspot_row; exact (Nat.succ_pred_eq_of_pos h).symm⟩
/-- a page's number as a key -/
def klA (u : Int) : Lit := .string (keyBytes [.int .i64 u])
theorem pspot_key (u : Int) (hu : (Lit.int .i64 u).wf = true) : keyOf Try.prog 73 (.agg #[.int .i64 u]) = some (klA u) := by
  obtain ⟨n, hn⟩ := pspot_succ
  exact key_one Try.underlying73 (by kernel_rfl) (by rfl) rfl (by kernel_rfl) Try.underlying3 (by kernel_rfl) hn hu
theorem pspot_inv {v : Value} {kl : Lit} (h : keyOf Try.prog 73 v = some kl) : ∃ u, v = .agg #[.int .i64 u] ∧ (Lit.int .i64 u).wf = true := by
  obtain ⟨n, hn⟩ := pspot_succ
  exact key_one_inv Try.underlying73 (by kernel_rfl) (by rfl) rfl (by kernel_rfl) Try.underlying3 (by kernel_rfl) hn h
theorem agg1_inj {u v : Int} (h : (Value.agg #[Value.int .i64 u]) = .agg #[.int .i64 v]) : u = v := by simpa using h
theorem klA_inj {u v : Int} (hu : (Lit.int .i64 u).wf = true) (hv : (Lit.int .i64 v).wf = true) (h : klA u = klA v) : u = v :=
  agg1_inj (pspot_law.inj (pspot_key u hu) (h ▸ pspot_key v hv))
theorem klA_key {u : Int} (hu : (Lit.int .i64 u).wf = true) : WideAt.IsKeyLit (klA u) := pspot_law.key (pspot_key u hu)
/-- what stands on a page: its kind, its text -/
def sheetD (k : Int) (s : ByteArray) : DataW Unit := .agg [.lit (.int .i64 k), .lit (.string s.data.toList)]
def sheetR : Value → Option (DataW Unit × List MemPlace)
  | .agg a => match a.toList with
    | [.int .i64 k, .string s] => some (sheetD k s, [])
    | _ => none
  | _ => none
theorem sheetR_mk (k : Int) (s : ByteArray) : sheetR (.agg #[.int .i64 k, .string s]) = some (sheetD k s, []) := rfl
theorem sheetR_inv {v : Value} {z : DataW Unit × List MemPlace} (h : sheetR v = some z) : ∃ k s, v = .agg #[.int .i64 k, .string s] ∧ z = (sheetD k s, []) := by
  unfold sheetR at h
  split at h
  · next a =>
    split at h
    · next i j e =>
      cases h
      refine ⟨i, j, ?_, rfl⟩
      rw [← Array.toArray_toList (xs := a), e]
    · cases h
  · cases h
theorem sheetD_inj {k l : Int} {s t : ByteArray} (h : sheetD k s = sheetD l t) : k = l ∧ s = t := by
  unfold sheetD at h
  simp at h
  exact ⟨h.1, ByteArray.ext h.2⟩
theorem zero_sheet (w : World) : (zeroValue 91).run Try.prog w = .ok (.agg #[.int .i64 0, .string ⟨#[]⟩]) w := by kernel_rfl
/-- of which kind, with which text, a page is in a list; a page that is not there is empty -/
def kindL (l : List Pg) (a : Int) : Int := match findP l a with | some x => x.kind | none => 0
def textL (l : List Pg) (a : Int) : ByteArray := match findP l a with | some x => x.s | none => ⟨#[]⟩
/-- the map's datum tells the pages l -/
structure Mp (D : DataW Unit) (l : List Pg) : Prop where
  tidy : Tidy D
  hs : ∀ u, (Lit.int .i64 u).wf = true → Maps.has D (klA u) = decide (u ∈ l.map (·.at_))
  size : Maps.size D = l.length
  tells : ∀ x ∈ l, ∀ z, D.atKey (klA x.at_) z = sheetD x.kind x.s
  once : (l.map (·.at_)).Nodup
  wf : ∀ x ∈ l, (Lit.int .i64 x.at_).wf = true
theorem Mp.nil : Mp (.map []) [] := ⟨tidy_empty, fun _ _ => rfl, rfl, fun x hx => (by cases hx), List.Pairwise.nil, fun x hx => (by cases hx)⟩
theorem Mp.look {D : DataW Unit} {l : List Pg} (h : Mp D l) {a : Int} (ha : (Lit.int .i64 a).wf = true) : D.atKey (klA a) (sheetD 0 ⟨#[]⟩) = sheetD (kindL l a) (textL l a) := by
  unfold kindL textL
  cases e : findP l a with
  | none =>
    have hn : a ∉ l.map (·.at_) := by
      intro hm
      obtain ⟨x, hx, hx2⟩ := List.mem_map.1 hm
      exact findP_none.1 e x hx hx2
    exact atKey_of_not_has (by rw [h.hs a ha]; exact decide_eq_false hn) _
  | some x =>
    obtain ⟨h1, h2⟩ := findP_some e
    rw [← h2]
    exact h.tells x h1 _
theorem Mp.put {D : DataW Unit} {l : List Pg} (h : Mp D l) {x : Pg} (hx : (Lit.int .i64 x.at_).wf = true) (hn : x.at_ ∉ l.map (·.at_)) : Mp (D.put (klA x.at_) (sheetD x.kind x.s)) (l ++ [x]) := by
  have hk := klA_key hx
  refine ⟨h.tidy.put hk _, fun u hu => ?_, ?_, fun y hy z => ?_, ?_, fun y hy => ?_⟩
  · by_cases e : u = x.at_
    · subst e
      rw [has_put_same h.tidy.isMap hk]
      exact (decide_eq_true (by simp)).symm
    · rw [has_put_other (fun e2 => e (klA_inj hu hx e2)), h.hs u hu]
      simp [e]
  · rw [size_put h.tidy, h.hs _ hx, h.size, decide_eq_false hn]
    simp
  · rcases List.mem_append.1 hy with h1 | h1
    · have hne : y.at_ ≠ x.at_ := fun e => hn (e ▸ List.mem_map.2 ⟨y, h1, rfl⟩)
      rw [atKey_put_other (fun e => hne (klA_inj (h.wf y h1) hx e))]
      exact h.tells y h1 z
    · rw [List.mem_singleton.1 h1]
      exact atKey_put_same h.tidy.isMap hk _ _
  · rw [List.map_append, List.nodup_append]
    refine ⟨h.once, by simp, fun a ha b hb e => ?_⟩
    rw [List.map_singleton, List.mem_singleton] at hb
    subst hb
    exact hn (e ▸ ha)
  · rcases List.mem_append.1 hy with h1 | h1
    · exact h.wf y h1
    · rw [List.mem_singleton.1 h1]
      exact hx
/-- all but page a -/
def lessP (l : List Pg) (a : Int) : List Pg := l.filter (fun x => decide (x.at_ ≠ a))
theorem lessP_mem {l : List Pg} {a : Int} {x : Pg} : x ∈ lessP l a ↔ x ∈ l ∧ x.at_ ≠ a := by
  unfold lessP
  simp
theorem lessP_none {l : List Pg} {a : Int} (h : a ∉ l.map (·.at_)) : lessP l a = l := by
  unfold lessP
  rw [List.filter_eq_self]
  intro x hx
  exact decide_eq_true (fun e => h (List.mem_map.2 ⟨x, hx, e⟩))
theorem lessP_length {l : List Pg} {a : Int} (h : (l.map (·.at_)).Nodup) : (lessP l a).length + (if a ∈ l.map (·.at_) then 1 else 0) = l.length := by
  induction l with
  | nil => rfl
  | cons x l ih =>
    rw [List.map_cons, List.nodup_cons] at h
    by_cases e : x.at_ = a
    · subst e
      have h1 : lessP (x :: l) x.at_ = lessP l x.at_ := by
        unfold lessP
        exact List.filter_cons_of_neg (by simp)
      rw [h1, lessP_none h.1, if_pos (by simp)]
      rfl
    · have h1 : lessP (x :: l) a = x :: lessP l a := by
        unfold lessP
        exact List.filter_cons_of_pos (by simpa using e)
      have h2 := ih h.2
      rw [h1, List.length_cons, List.length_cons]
      by_cases e2 : a ∈ l.map (·.at_)
      · rw [if_pos e2] at h2
        rw [if_pos (show a ∈ (x :: l).map (·.at_) from List.mem_cons_of_mem _ e2)]
        omega
      · rw [if_neg e2] at h2
        rw [if_neg (show ¬ a ∈ (x :: l).map (·.at_) from fun h3 => by rw [List.map_cons, List.mem_cons] at h3; rcases h3 with h3 | h3; exact e h3.symm; exact e2 h3)]
        omega
theorem Mp.del {D : DataW Unit} {l : List Pg} (h : Mp D l) {a : Int} (ha : (Lit.int .i64 a).wf = true) : Mp (D.del (klA a)) (lessP l a) := by
  refine ⟨h.tidy.del _, fun u hu => ?_, ?_, fun y hy z => ?_, h.once.sublist ((List.filter_sublist).map _), fun y hy => h.wf y (lessP_mem.1 hy).1⟩
  · by_cases e : u = a
    · subst e
      rw [has_del_same]
      refine (decide_eq_false (fun hm => ?_)).symm
      obtain ⟨x, hx, e⟩ := List.mem_map.1 hm
      exact (lessP_mem.1 hx).2 e
    · rw [has_del_other (fun e2 => e (klA_inj hu ha e2)), h.hs u hu]
      refine decide_eq_decide.2 ⟨fun hm => ?_, fun hm => ?_⟩
      · obtain ⟨x, hx, e1⟩ := List.mem_map.1 hm
        exact List.mem_map.2 ⟨x, lessP_mem.2 ⟨hx, by rw [e1]; exact e⟩, e1⟩
      · obtain ⟨x, hx, e1⟩ := List.mem_map.1 hm
        exact List.mem_map.2 ⟨x, (lessP_mem.1 hx).1, e1⟩
  · have h1 := size_del (k := klA a) h.tidy
    have h2 := lessP_length (a := a) h.once
    rw [h.hs a ha, h.size] at h1
    by_cases e : a ∈ l.map (·.at_)
    · simp [e] at h1 h2
      omega
    · simp [e] at h1 h2
      omega
  · obtain ⟨h1, h2⟩ := lessP_mem.1 hy
    rw [atKey_del_other (fun e => h2 (klA_inj (h.wf y h1) ha e))]
    exact h.tells y h1 z
/-- the map at block b tells the pages l -/
def Tp (w : World) (b : Nat) (l : List Pg) : Prop := ∃ D, w.ownsMap Try.prog 73 sheetR b l.length D ∧ Mp D l
theorem ownsMap_tight {w : World} {b n : Nat} {D : DataW Unit} {k : TypeId} {R : Value → Option (DataW Unit × List MemPlace)} (h : w.ownsMap Try.prog k R b n D) : w.ownsMap Try.prog k R b (Maps.size D) D := by
  obtain ⟨es, clock, h1, h2, h3, rfl⟩ := h
  exact ⟨es, clock, h1, h2, by rw [size_eq, length_sorted]; simp, rfl⟩
theorem Tp.of {w : World} {b n : Nat} {D : DataW Unit} {l : List Pg} (h : w.ownsMap Try.prog 73 sheetR b n D) (hM : Mp D l) : Tp w b l := ⟨D, by rw [← hM.size]; exact ownsMap_tight h, hM⟩
theorem Tp.made (w : World) : Tp (w.alloc (.map #[] 0)) w.heap.size [] := ⟨_, World.ownsMap_made _ _ _ _, Mp.nil⟩
theorem Tp.keep {w w' : World} {b : Nat} {l : List Pg} (h : Tp w b l) (e : w'.heap[b]? = w.heap[b]?) : Tp w' b l := by
  obtain ⟨D, ⟨es, clock, h1, h2⟩, h3⟩ := h
  exact ⟨D, ⟨es, clock, e.trans h1, h2⟩, h3⟩
theorem Tp.lt {w : World} {b : Nat} {l : List Pg} (h : Tp w b l) : b < w.heap.size := by
  obtain ⟨D, h1, _⟩ := h
  exact h1.lt
theorem Tp.below {w w' : World} {b : Nat} {l : List Pg} (h : Tp w b l) (hb : Below w.heap.size w w') : Tp w' b l := h.keep (hb.block b h.lt)
/-- m[a] -/
theorem Tp.look {w : World} {b : Nat} {l : List Pg} (h : Tp w b l) {a : Int} (ha : (Lit.int .i64 a).wf = true) : (Instr.lookup 66 (.map (some b)) (.agg #[.int .i64 a]) false).run Try.prog w = .ok (.agg #[.int .i64 (kindL l a), .string (textL l a)]) w := by
  obtain ⟨D, h1, h2⟩ := h
  obtain ⟨v, ps, hr, hv⟩ := h1.lookup pspot_law Try.underlying66 (zero_sheet w) (sheetR_mk _ _) (pspot_key a ha)
  rw [h2.look ha] at hv
  obtain ⟨k, s, rfl, e⟩ := sheetR_inv hv
  simp only [Prod.mk.injEq] at e
  obtain ⟨e1, e2⟩ := sheetD_inj e.1
  rw [e1, e2]
  exact hr
/-- len(m), in every world in which the block is as it was -/
theorem Tp.count {w : World} {b : Nat} {l : List Pg} (h : Tp w b l) : ∀ (ty : TypeId) (W : World), W.heap[b]? = w.heap[b]? → (Builtin.len_ #[66] ty #[.map (some b)]).run Try.prog W = .ok (.int .i64 l.length) W := by
  intro ty W hW
  obtain ⟨D, h1, h2⟩ := h.keep hW
  have h := h1.len Try.underlying66 ty
  rw [h2.size] at h
  exact h
/-- m[x.at] = x, for a page that is not there -/
theorem Tp.put {w : World} {b : Nat} {l : List Pg} (h : Tp w b l) {x : Pg} (hx : (Lit.int .i64 x.at_).wf = true) (hn : x.at_ ∉ l.map (·.at_)) (hl : l.length ≤ 100000) :
    ∃ w', (Instr.mapUpdate 66 (.map (some b)) (.agg #[.int .i64 x.at_]) (.agg #[.int .i64 x.kind, .string x.s])).run Try.prog w = .ok () w' ∧ Tp w' b (l ++ [x]) ∧ w.grownBy w' (some b) := by
  obtain ⟨D, h1, h2⟩ := h
  obtain ⟨w', hr, h3, hg⟩ := h1.update pspot_law Try.underlying66 (by unfold maxLen; omega) (pspot_key _ hx) (sheetR_mk x.kind x.s)
  exact ⟨w', hr, Tp.of h3 (h2.put hx hn), hg⟩
/-- the program's object of the pages p -/
def PGm (G : Nat → Prop) (w : World) (b : Nat) (p : Ps) : Prop := ∃ mb, w.heap[b]? = some (.cells #[.int .i64 p.room, .int .i64 p.edge, .map (some mb)] 68 (0, 0)) ∧ Tp w mb p.l ∧ mb ≠ b ∧ G b ∧ G mb ∧ ∀ k, G k → k < w.heap.size
theorem PGm.lt {G : Nat → Prop} {w : World} {b : Nat} {p : Ps} (h : PGm G w b p) : ∀ k, G k → k < w.heap.size := by
  obtain ⟨mb, _, _, _, _, _, h6⟩ := h
  exact h6
theorem PGm.keep {G T : Nat → Prop} {w w' : World} {b : Nat} {p : Ps} (h : PGm G w b p) (hk : Kept T w w') (hG : ∀ k, G k → T k) : PGm G w' b p := by
  obtain ⟨mb, h1, h2, h3, h4, h5, h6⟩ := h
  exact ⟨mb, hk.heap (hG b h4) h1, h2.keep (hk.block mb (hG mb h5) (h6 mb h5)), h3, h4, h5, fun k hk2 => Nat.lt_of_lt_of_le (h6 k hk2) hk.size⟩
theorem PGm.below {G : Nat → Prop} {w w' : World} {b : Nat} {p : Ps} (h : PGm G w b p) (hb : Below w.heap.size w w') : PGm G w' b p := h.keep (Kept.ofBelow hb (fun _ => True)) (fun _ _ => trivial)
theorem there_wf {a : Int} (h : thereB a = true) : (Lit.int .i64 a).wf = true := by
  have := thereB_iff.1 h
  exact WalkArith.wf_i64 (by omega)
theorem kindL_of {p : Ps} {a : Int} (ht : thereB a = true) (he : ¬ a < p.edge) : p.kind a = kindL p.l a := by
  unfold Ps.kind kindL
  rw [if_pos ht, if_neg he]
  rfl
end Go.Proofs.Ytaodmdoagngdnaa
