/- What Good, Up and Inside return, of the document's own answer. Conditions: the texts are no longer than 1000000 bytes. -/
import Derived.Test.YtnladghhcghafaaPathF
import Derived.Test.YtnladghhcghafaaTexts
namespace Go.Proofs.Ytnladghhcghafaa
open Go.RowKit

theorem rgood_any (p : ByteArray) (hs : p.size ≤ 1000000) (w : World) :
    Calls Try.prog 15 #[.string p] w fun e w' => e = .returned (.bool (goodR p)) ∧ Below w.heap.size w w' := by
  have c := fun w => rsplit_any p hs w
  cases hg : goodR p
  · rw [show codeR p = 11 by unfold codeR; rw [hg]; rfl] at c
    clear hg hs
    generalize namesR p = K at *
    go_enter Try.func15, Try.ntmps15
    go_wp2_with (go_at_call 9; refine (c _).mono ?_; rintro e w1 ⟨ao, cap, rfl, _, hb1, _⟩)
    go_ret
    exact ⟨rfl, hb1⟩
  · rw [show codeR p = 0 by unfold codeR; rw [hg]; rfl] at c
    clear hg hs
    generalize namesR p = K at *
    go_enter Try.func15, Try.ntmps15
    go_wp2_with (go_at_call 9; refine (c _).mono ?_; rintro e w1 ⟨ao, cap, rfl, _, hb1, _⟩)
    go_ret
    exact ⟨rfl, hb1⟩
/-- Up: the path of all names but the last one, that, and whether there are such -/
def upR (p : ByteArray) : ByteArray × ByteArray × Bool :=
  if namesR p = [] then (⟨#[]⟩, ⟨#[]⟩, false) else (pathL (namesR p).dropLast, (namesR p).getLastD ⟨#[]⟩, true)
theorem upR_none {p : ByteArray} (h : namesR p = []) : upR p = (⟨#[]⟩, ⟨#[]⟩, false) := if_pos h
theorem upR_some {p : ByteArray} (I : List ByteArray) (s : ByteArray) (h : namesR p = I ++ [s]) : upR p = (pathL I, s, true) := by
  unfold upR
  rw [h, if_neg (by simp)]
  simp
theorem fit_init {I : List ByteArray} {s : ByteArray} (h : fit (I ++ [s]) = true) : fit I = true ∧ nameB s = true := by
  rw [fit_iff, List.length_append, List.all_append, Bool.and_eq_true] at h
  exact ⟨(fit_iff _).2 ⟨by omega, h.2.1⟩, by simpa using h.2.2⟩
theorem split_last (L : List ByteArray) (h : L ≠ []) : ∃ I s, L = I ++ [s] := ⟨L.dropLast, L.getLast h, (List.dropLast_concat_getLast h).symm⟩
theorem place_ret {fn : Func} {p : Tmp} (h : fn.results = #[.cell p 32]) {a : Act} {w : World} {g : Nat} {d n : ByteArray} {x : Bool} {R : Ending → World → Prop}
    (hg : w.heap[g]? = some (.cells #[.string d, .string n, .bool x] 32 (0, 0))) (hp : a.tmps.getD p undef = .pointer (some ⟨g, 0, none⟩)) (hd : a.defers = [])
    (hR : R (.returned (.agg #[.string d, .string n, .bool x])) w) : bodyPost Try.prog fn R .ret a w :=
  bodyPost_ret (results_cell_row h a.tmps w g 32 #[.string d, .string n, .bool x] (0, 0) _ hp hg Try.underlying32 rfl (by kernel_rfl)) hd hR
theorem place_info : (Try.prog.info? 32).map (·.size) = some 3 := by kernel_rfl
theorem place_one (d n : ByteArray) (x : Bool) : (#[Value.string d, Value.string n, Value.bool x] : Array Value).all (·.oneCell') = true := by
  rw [Array.all_eq_true']
  intro v hv
  simp only [List.mem_toArray, List.mem_cons, List.not_mem_nil, or_false] at hv
  rcases hv with rfl | rfl | rfl <;> rfl
theorem rup_any (p : ByteArray) (hs : p.size ≤ 1000000) (w : World) :
    Calls Try.prog 11 #[.string p] w fun e w' => e = .returned (.agg #[.string (upR p).1, .string (upR p).2.1, .bool (upR p).2.2]) ∧ Below w.heap.size w w' := by
  have c := fun w => rsplit_any p hs w
  have HZ := Lib.hid (fun (w1 : World) (hb : Below (w.alloc (.cells #[.string ⟨#[]⟩, .string ⟨#[]⟩, .bool false] 32)).heap.size (w.alloc (.cells #[.string ⟨#[]⟩, .string ⟨#[]⟩, .bool false] 32)) w1) => show w1.heap[w.heap.size]? = some (.cells #[.string ⟨#[]⟩, .string ⟨#[]⟩, .bool false] 32 (0, 0)) ∧ Below w.heap.size w w1 from
    ⟨(hb.block w.heap.size (by simp)).trans (heap_alloc_new w _), ((Below.refl _ w).alloc (Nat.le_refl _) _).trans (hb.mono (by simp))⟩)
  by_cases hn : namesR p = []
  · rw [upR_none hn]
    rw [hn] at c
    clear hn hs
    generalize codeR p = x at *
    by_cases hx : x = 0
    · subst hx
      go_enter Try.func11, Try.ntmps11
      go_wp2_with (first | (go_at_call 9; refine (c _).mono ?_; rintro e w1 ⟨ao, cap, rfl, hsl, hb1, hcap⟩) | (refine wpList_store_row (o := ⟨none, _, _, _, _, _⟩) ?a1 32 (.tmp 2) (.tmp 19) ?a2 w.heap.size #[.string ⟨#[]⟩, .string ⟨#[]⟩, .bool false] ?a3 ?a4 32 #[.string ⟨#[]⟩, .string ⟨#[]⟩, .bool false] (HZ.out _ hb1).1 place_info rfl (place_one _ _ _) ?a5; (case a1 => rfl); (case a2 => rfl); (case a3 => rfl); (case a4 => rfl)))
      exact place_ret rfl (setRow_heap _ _ _ _ _ _ (HZ.out _ hb1).1) rfl rfl ⟨rfl, setRow_below (HZ.out _ hb1).2 (Nat.le_refl _) _⟩
    · have hd : (x != 0) = true := bne_iff_ne.2 hx
      clear hx
      go_enter Try.func11, Try.ntmps11
      go_wp2_with (first | (go_at_call 9; refine (c _).mono ?_; rintro e w1 ⟨ao, cap, rfl, hsl, hb1, hcap⟩) | (refine wpList_store_row (o := ⟨none, _, _, _, _, _⟩) ?b1 32 (.tmp 2) (.tmp 19) ?b2 w.heap.size #[.string ⟨#[]⟩, .string ⟨#[]⟩, .bool false] ?b3 ?b4 32 #[.string ⟨#[]⟩, .string ⟨#[]⟩, .bool false] (HZ.out _ hb1).1 place_info rfl (place_one _ _ _) ?b5; (case b1 => rfl); (case b2 => rfl); (case b3 => rfl); (case b4 => rfl)))
      exact place_ret rfl (setRow_heap _ _ _ _ _ _ (HZ.out _ hb1).1) rfl rfl ⟨rfl, setRow_below (HZ.out _ hb1).2 (Nat.le_refl _) _⟩
  · obtain ⟨I, s, h⟩ := split_last _ hn
    have hg : goodR p = true := by
      cases hg : goodR p
      · exact absurd (names_none hg) hn
      · rfl
    have hf := (good_fit p hg).1
    rw [h] at hf
    obtain ⟨hI, _⟩ := fit_init hf
    have HI := Lib.hid (joinR_yes hI)
    have hI8 : I.length ≤ 8 := ((fit_iff _).1 hI).1
    rw [upR_some I s h]
    rw [h, show codeR p = 0 by unfold codeR; rw [hg]; rfl] at c
    clear hn h hg hs hf hI
    go_enter Try.func11, Try.ntmps11
    have hd : ((I.length : Int) + 1 == 0) = false := beq_eq_false_iff_ne.2 (by omega)
    go_wp2_with (first | (go_at_call 9; refine (c _).mono ?_; rintro e w1 ⟨ao, cap, rfl, hsl, hb1, hcap⟩; have hc2 : I.length ≤ cap := (by rw [List.length_append] at hcap; exact Nat.le_of_succ_le hcap); obtain ⟨bk, off, hao, c0⟩ := hsl.last; have HSL := Lib.hid hsl.left; subst hao; clear hsl hcap) | (go_at_call 18; refine (rjoin_any I _ cap _ HSL.out (by omega)).mono ?_; rintro e w2 ⟨rfl, rfl⟩; rw [HI.out]) | (refine wpList_store_row (o := ⟨none, _, _, _, _, _⟩) ?d1 32 (.tmp 2) (.tmp 36) ?d2 w.heap.size #[.string (pathL I), .string s, .bool true] ?d3 ?d4 32 #[.string ⟨#[]⟩, .string ⟨#[]⟩, .bool false] (HZ.out _ hb1).1 place_info rfl (place_one _ _ _) ?d5; (case d1 => rfl); (case d2 => rfl); (case d3 => rfl); (case d4 => rfl)))
    exact place_ret rfl (setRow_heap _ _ _ _ _ _ (HZ.out _ hb1).1) rfl rfl ⟨rfl, setRow_below (HZ.out _ hb1).2 (Nat.le_refl _) _⟩
end Go.Proofs.Ytnladghhcghafaa
