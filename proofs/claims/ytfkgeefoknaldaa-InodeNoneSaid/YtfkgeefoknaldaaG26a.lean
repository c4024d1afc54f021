/- Stage 20: what the program's own find, file, New return. Conditions: the table lies where the call was told; numbers of 64 bits. Stage 20: what Link and Open make of a plain table whose inode is at hand. No conditions. Stage 20: the document's table as a thing in blocks of its own. No conditions. -/
import Derived.Test.YtfkgeefoknaldaaG25a
import Derived.Laws.Tables
import Derived.Laws.CopyOwn
set_option linter.unusedVariables false
namespace Go.Proofs.Ytfkgeefoknaldaa
open Go.RowKit Go.Maps
set_option linter.unusedVariables false
set_option maxRecDepth 20000
abbrev inoO (y : Iv) : Obj := .cells #[.int .i64 y.x.ino, .int .i64 y.x.kind, .int .i64 y.x.links, .int .i64 y.x.opens, .int .i64 y.x.size, .slice y.ao y.x.parts.length y.cap] 50 (0, 0)
theorem ino_two (w : World) (y z : Iv) : ((w.alloc (inoO y)).alloc (inoO z)).heap[w.heap.size]? = some (inoO y) ∧ Below w.heap.size w ((w.alloc (inoO y)).alloc (inoO z)) :=
  ⟨below_heap (blwA _ _) (heap_alloc_new _ _), blwO (blwA _ _) (blwA w _)⟩
set_option maxHeartbeats 4000000 in
theorem pfind_nil (n : Int) (w : World) : Calls Try.prog 31 #[.pointer none, .int .i64 n] w fun e w' => e = .returned (.tuple #[.agg #[.int .i64 0, .int .i64 0, .int .i64 0, .int .i64 0, .int .i64 0, .slice none 0 0], .int .i64 1]) ∧ Below w.heap.size w w' := by
  go_enter Try.func31, Try.ntmps31
  go_wp2_with fail
  exact ino_ret (y := noV) rfl (heap_alloc_new _ _) rfl rfl rfl ⟨rfl, blwA w _⟩
set_option maxHeartbeats 4000000 in
theorem pfind_none {w : World} {b m : Nat} {l : List Iv} {next n : Int} (h : PTab w b m l next) (hn : (Lit.int .i64 n).wf = true) (hg : getV l n = none) :
    Calls Try.prog 31 #[.pointer (some ⟨b, 0, none⟩), .int .i64 n] w fun e w' => e = .returned (.tuple #[.agg #[.int .i64 0, .int .i64 0, .int .i64 0, .int .i64 0, .int .i64 0, .slice none 0 0], .int .i64 60]) ∧ Below w.heap.size w w' := by
  have hl := (h.map.below (blwA w (inoO noV))).look hn
  rw [hg] at hl
  have hl2 : (Instr.lookup 69 (.map (some m)) (.int .i64 n) true).run Try.prog (w.alloc (.cells #[.int .i64 0, .int .i64 0, .int .i64 0, .int .i64 0, .int .i64 0, .slice none 0 0] 50)) = .ok (.tuple #[.agg #[.int .i64 0, .int .i64 0, .int .i64 0, .int .i64 0, .int .i64 0, .slice none 0 0], .bool false]) (w.alloc (.cells #[.int .i64 0, .int .i64 0, .int .i64 0, .int .i64 0, .int .i64 0, .slice none 0 0] 50)) := hl
  obtain ⟨c0, c1, f0, f1, hb⟩ := h.cells
  have HZ := Lib.hid (ino_two w noV noV)
  clear hl h
  go_enter Try.func31, Try.ntmps31
  go_wp2_with fail
  exact ino_ret (y := noV) rfl HZ.out.1 rfl rfl rfl ⟨rfl, HZ.out.2⟩
set_option maxHeartbeats 4000000 in
theorem pfind_some {w : World} {b m : Nat} {l : List Iv} {next n : Int} (h : PTab w b m l next) (hn : (Lit.int .i64 n).wf = true) {y : Iv} (hg : getV l n = some y) :
    Calls Try.prog 31 #[.pointer (some ⟨b, 0, none⟩), .int .i64 n] w fun e w' => e = .returned (.tuple #[.agg #[.int .i64 y.x.ino, .int .i64 y.x.kind, .int .i64 y.x.links, .int .i64 y.x.opens, .int .i64 y.x.size, .slice y.ao y.x.parts.length y.cap], .int .i64 0]) ∧ Below w.heap.size w w' := by
  have hl := (h.map.below (blwA w (inoO noV))).look hn
  rw [hg] at hl
  have hl2 : (Instr.lookup 69 (.map (some m)) (.int .i64 n) true).run Try.prog (w.alloc (.cells #[.int .i64 0, .int .i64 0, .int .i64 0, .int .i64 0, .int .i64 0, .slice none 0 0] 50)) = .ok (.tuple #[.agg #[.int .i64 y.x.ino, .int .i64 y.x.kind, .int .i64 y.x.links, .int .i64 y.x.opens, .int .i64 y.x.size, .slice y.ao y.x.parts.length y.cap], .bool true]) (w.alloc (.cells #[.int .i64 0, .int .i64 0, .int .i64 0, .int .i64 0, .int .i64 0, .slice none 0 0] 50)) := hl
  obtain ⟨c0, c1, f0, f1, hb⟩ := h.cells
  have HZ := Lib.hid (ino_two w y y)
  clear hl h
  go_enter Try.func31, Try.ntmps31
  go_wp2_with fail
  exact ino_ret (y := y) rfl HZ.out.1 rfl rfl rfl ⟨rfl, HZ.out.2⟩
abbrev ivA (y : Iv) : Array Value := #[.int .i64 y.x.ino, .int .i64 y.x.kind, .int .i64 y.x.links, .int .i64 y.x.opens, .int .i64 y.x.size, .slice y.ao y.x.parts.length y.cap]
theorem ivA_info (y : Iv) : (Try.prog.info? 50).map (·.size) = some (ivA y).size := by
  show _ = some 6
  kernel_rfl
theorem ivA_one (y : Iv) : (ivA y).all (·.oneCell') = true := by simp [Value.oneCell']
/-- the first inode is written whole -/
theorem file_two {w W : World} (h : W.heap[w.heap.size]? = some (inoO noV)) (hb : Below w.heap.size w W) (z : Iv) : (W.setRow w.heap.size (ivA z)).heap[w.heap.size]? = some (inoO z) ∧ Below w.heap.size w (W.setRow w.heap.size (ivA z)) :=
  ⟨setRow_heap _ _ _ _ _ _ h, below_setRow hb (Nat.le_refl _) _⟩
set_option maxHeartbeats 4000000 in
/-- what file answers of what find answers: of a directory nothing, 63 -/
theorem pfile_of {p : Value} {n c : Int} {w : World} {y : Iv} (hc : ∀ W, Below w.heap.size w W → Calls Try.prog 31 #[p, .int .i64 n] W fun e w' => e = .returned (.tuple #[.agg #[.int .i64 y.x.ino, .int .i64 y.x.kind, .int .i64 y.x.links, .int .i64 y.x.opens, .int .i64 y.x.size, .slice y.ao y.x.parts.length y.cap], .int .i64 c]) ∧ Below W.heap.size W w') (hk : ¬ y.x.kind = 1) :
    Calls Try.prog 44 #[p, .int .i64 n] w fun e w' => e = .returned (.tuple #[.agg #[.int .i64 y.x.ino, .int .i64 y.x.kind, .int .i64 y.x.links, .int .i64 y.x.opens, .int .i64 y.x.size, .slice y.ao y.x.parts.length y.cap], .int .i64 c]) ∧ Below w.heap.size w w' := by
  have HC := Lib.hid (hc _ (blwA w (inoO noV)))
  have HN := Lib.hid (fun (W : World) (hb : Below (w.alloc (inoO noV)).heap.size (w.alloc (inoO noV)) W) => show (W.alloc (inoO y)).heap[w.heap.size]? = some (inoO noV) ∧ Below w.heap.size w (W.alloc (inoO y)) from ⟨below_heap (blwO (blwA _ _) hb) (heap_alloc_new _ _), blwO (blwO (blwA _ _) hb) (blwA w _)⟩)
  have HF := Lib.hid (fun (W : World) (h1 : W.heap[w.heap.size]? = some (inoO noV)) (hb : Below w.heap.size w W) => file_two h1 hb y)
  clear hc
  have e1 : (y.x.kind == 1) = false := beq_eq_false_iff_ne.2 hk
  go_enter Try.func44, Try.ntmps44
  go_wp2_with (first
    | (go_at_call 31; refine HC.out.mono ?_; rintro e w1 ⟨rfl, hb1⟩; obtain ⟨hn1, hbb⟩ := HN.out _ hb1; have HZ1 := Lib.hid hn1; have HB1 := Lib.hid hbb; have HF1 := Lib.hid (HF.out _ hn1 hbb); clear hb1 hn1 hbb)
    | (refine wpList_store_row (o := ⟨none, _, _, _, _, _⟩) ?d1 50 (.tmp 4) (.tmp 18) ?d2 w.heap.size (ivA y) ?d3 ?d4 50 _ HZ1.out (ivA_info y) rfl (ivA_one y) ?d5; (case d1 => rfl); (case d2 => rfl); (case d3 => rfl); (case d4 => rfl)))
  exact ino_ret (y := y) rfl HF1.out.1 rfl rfl rfl ⟨rfl, HF1.out.2⟩
set_option maxHeartbeats 4000000 in
theorem pfile_dir {p : Value} {n c : Int} {w : World} {y : Iv} (hc : ∀ W, Below w.heap.size w W → Calls Try.prog 31 #[p, .int .i64 n] W fun e w' => e = .returned (.tuple #[.agg #[.int .i64 y.x.ino, .int .i64 y.x.kind, .int .i64 y.x.links, .int .i64 y.x.opens, .int .i64 y.x.size, .slice y.ao y.x.parts.length y.cap], .int .i64 c]) ∧ Below W.heap.size W w') (hk : y.x.kind = 1) :
    Calls Try.prog 44 #[p, .int .i64 n] w fun e w' => e = .returned (.tuple #[.agg #[.int .i64 0, .int .i64 0, .int .i64 0, .int .i64 0, .int .i64 0, .slice none 0 0], .int .i64 63]) ∧ Below w.heap.size w w' := by
  have HC := Lib.hid (hc _ (blwA w (inoO noV)))
  have HN := Lib.hid (fun (W : World) (hb : Below (w.alloc (inoO noV)).heap.size (w.alloc (inoO noV)) W) => show (W.alloc (inoO y)).heap[w.heap.size]? = some (inoO noV) ∧ Below w.heap.size w (W.alloc (inoO y)) from ⟨below_heap (blwO (blwA _ _) hb) (heap_alloc_new _ _), blwO (blwO (blwA _ _) hb) (blwA w _)⟩)
  have HF := Lib.hid (fun (W : World) (h1 : W.heap[w.heap.size]? = some (inoO noV)) (hb : Below w.heap.size w W) => file_two h1 hb noV)
  clear hc
  have e1 : (y.x.kind == 1) = true := beq_iff_eq.2 hk
  clear hk
  go_enter Try.func44, Try.ntmps44
  go_wp2_with (first
    | (go_at_call 31; refine HC.out.mono ?_; rintro e w1 ⟨rfl, hb1⟩; obtain ⟨hn1, hbb⟩ := HN.out _ hb1; have HZ1 := Lib.hid hn1; have HB1 := Lib.hid hbb; have HF1 := Lib.hid (HF.out _ hn1 hbb); clear hb1 hn1 hbb)
    | (refine wpList_store_row (o := ⟨none, _, _, _, _, _⟩) ?d1 50 (.tmp 4) (.tmp 17) ?d2 w.heap.size (ivA noV) ?d3 ?d4 50 _ HZ1.out (ivA_info noV) rfl (ivA_one noV) ?d5; (case d1 => rfl); (case d2 => rfl); (case d3 => rfl); (case d4 => rfl)))
  exact ino_ret (y := noV) rfl HF1.out.1 rfl rfl rfl ⟨rfl, HF1.out.2⟩
/-- what the find of a made table answers, whatever stands for it -/
def findV (l : List Iv) (n : Int) : Iv := (getV l n).getD noV
def findE (l : List Iv) (n : Int) : Int := if (getV l n).isSome then 0 else 60
theorem pfind_any {w : World} {b m : Nat} {l : List Iv} {next n : Int} (h : PTab w b m l next) (hn : (Lit.int .i64 n).wf = true) :
    Calls Try.prog 31 #[.pointer (some ⟨b, 0, none⟩), .int .i64 n] w fun e w' => e = .returned (.tuple #[.agg #[.int .i64 (findV l n).x.ino, .int .i64 (findV l n).x.kind, .int .i64 (findV l n).x.links, .int .i64 (findV l n).x.opens, .int .i64 (findV l n).x.size, .slice (findV l n).ao (findV l n).x.parts.length (findV l n).cap], .int .i64 (findE l n)]) ∧ Below w.heap.size w w' := by
  unfold findV findE
  cases hg : getV l n with
  | none => exact pfind_none h hn hg
  | some y => exact pfind_some h hn hg
set_option maxHeartbeats 4000000 in
/-- New: the root alone -/
theorem pnew_any (w : World) : Calls Try.prog 6 #[] w fun e w' => ∃ b G, e = .returned (.pointer (some ⟨b, 0, none⟩)) ∧ PT b G w' newT ∧ (∀ k, G k → w.heap.size ≤ k) ∧ Below w.heap.size w w' := by
  have hr : (Lit.int .i64 1).wf = true := by decide
  have HM := Lib.hid (fun (W : World) (hb : Below (w.heap.size + 1) (w.alloc (.map #[] 0)) W) => show MM W w.heap.size [] from (MM.made w).keep (hb.block _ (Nat.lt_succ_self _)))
  obtain ⟨w', h1, h2, h3⟩ := MM.put (y := rootV) (l' := [rootV]) (HM.out ((w.alloc (.map #[] 0)).alloc (.cells #[.map (some w.heap.size), .int .i64 2] 71 (0, 0))) (by have := blwA (w.alloc (.map #[] 0)) (.cells #[.map (some w.heap.size), .int .i64 2] 71 (0, 0)); simpa using this)) (by simp) hr (fun v => by
    by_cases c : v = 1
    · subst c; rfl
    · rw [if_neg c]
      exact getV_no (fun y hy => by rw [List.mem_singleton.1 hy]; exact fun e => c (by rw [← e]; rfl))) rfl
  have h1b : (Instr.mapUpdate 69 (.map (some w.heap.size)) (.int .i64 1) (.agg #[.int .i64 1, .int .i64 1, .int .i64 1, .int .i64 0, .int .i64 0, .slice none 0 0])).run Try.prog ((w.alloc (.map #[] 0)).alloc (.cells #[.map (some w.heap.size), .int .i64 2] 71 (0, 0))) = .ok () w' := h1
  have hb0 : Below w.heap.size w ((w.alloc (.map #[] 0)).alloc (.cells #[.map (some w.heap.size), .int .i64 2] 71 (0, 0))) := blwO (blwA _ _) (blwA w _)
  have HB := Lib.hid (hb0.grown h3 (by simp; omega) (fun k e => by cases e; exact Nat.le_refl _))
  have hh := (h3.block (w.heap.size + 1) (by simp) (fun e => by have := Option.some.inj e; omega)).trans (show ((w.alloc (.map #[] 0)).alloc (.cells #[.map (some w.heap.size), .int .i64 2] 71 (0, 0))).heap[w.heap.size + 1]? = some (.cells #[.map (some w.heap.size), .int .i64 2] 71 (0, 0)) from by have h9 := heap_alloc_new (w.alloc (.map #[] 0)) (.cells #[.map (some w.heap.size), .int .i64 2] 71 (0, 0)); rw [show (w.alloc (.map #[] 0)).heap.size = w.heap.size + 1 from by simp] at h9; exact h9)
  have HP := Lib.hid (show PTab w' (w.heap.size + 1) w.heap.size [rootV] 2 from ⟨hh, h2, by omega, fun y hy => by
    rw [List.mem_singleton.1 hy]
    exact ⟨Row.nil _ _ _ _, fun _ => rfl, Nat.le_refl _, fun a e => by cases e⟩⟩)
  have hsz := lt_of_block hh
  clear h1 h2 h3 hb0 hh
  have hmm := @run_makeMap Try.prog
  go_enter Try.func6, Try.ntmps6
  go_wp2_with fail
  go_ret
  exact ⟨w.heap.size + 1, fun k => w.heap.size ≤ k ∧ k < w'.heap.size, rfl, ⟨w.heap.size, [rootV], rfl, HP.out, ⟨by omega, hsz⟩, ⟨Nat.le_refl _, by omega⟩, (fun y hy a e => by
    rw [List.mem_singleton.1 hy] at e
    cases e), fun k hk => hk.2⟩, fun k hk => hk.1, HB.out⟩
end Go.Proofs.Ytfkgeefoknaldaa
namespace Go.Proofs.Ytfkgeefoknaldaa
set_option linter.unusedVariables false
set_option maxRecDepth 20000
theorem iv_after {a r : List Iv} {y : Iv} (hp : ((a ++ y :: r).map (·.x)).Pairwise (fun x y => x.ino < y.ino)) : ∀ z ∈ r, z.x.ino ≠ y.x.ino := fun z hz => by
  rw [List.map_append, List.map_cons, List.pairwise_append] at hp
  have := (List.pairwise_cons.1 hp.2.1).1 z.x (List.mem_map.2 ⟨z, hz, rfl⟩)
  omega
theorem getI_at {a r : List Iv} {y : Iv} {n : Int} (hy : y.x.ino = n) (ha : ∀ z ∈ a, z.x.ino ≠ n) : getI ((a ++ y :: r).map (·.x)) n = some y.x := by
  unfold getI
  rw [List.map_append, List.map_cons, List.find?_append, List.find?_eq_none.2 (fun z hz => by
    obtain ⟨v, hv, rfl⟩ := List.mem_map.1 hz
    simpa using ha v hv), Option.none_or]
  exact List.find?_cons_of_pos (by simpa using hy)
theorem getV_of {a r : List Iv} {y : Iv} {n : Int} (hy : y.x.ino = n) (ha : ∀ z ∈ a, z.x.ino ≠ n) : getV (a ++ y :: r) n = some y := by
  subst hy
  exact getV_at ha
/-- a number is there or it is not, in the program's list and in the plain one alike -/
theorem vi_cases (l : List Iv) (n : Int) : (getV l n = none ∧ getI (l.map (·.x)) n = none) ∨ ∃ a y r, l = a ++ y :: r ∧ y.x.ino = n ∧ (∀ z ∈ a, z.x.ino ≠ n) ∧ getV l n = some y ∧ getI (l.map (·.x)) n = some y.x := by
  rcases iv_cases l n with ⟨h1, h2⟩ | ⟨a, y, r, h1, h2, h3, h4⟩
  · refine .inl ⟨getV_no (fun y hy => ?_), h2⟩
    obtain ⟨j, hj, rfl⟩ := List.getElem_of_mem hy
    exact h1 j hj
  · exact .inr ⟨a, y, r, h1, h2, h3, by rw [h1]; exact getV_of h2 h3, h4⟩
theorem heldB_no {x : Ino} (h1 : 0 ≤ x.links) (h2 : 0 ≤ x.opens) : heldB x = false ↔ (x.links = 0 ∧ x.opens = 0) := by
  unfold heldB
  rw [Bool.or_eq_false_iff, decide_eq_false_iff_not, decide_eq_false_iff_not]
  omega
/-- what goes when an inode was turned -/
theorem iv_ends {a r : List Iv} {y : Iv} {n : Int} (hy : y.x.ino = n) (ha : ∀ z ∈ a, z.x.ino ≠ n) (hr : ∀ z ∈ r, z.x.ino ≠ n) (h1 : 0 ≤ y.x.links) (h2 : 0 ≤ y.x.opens) : endsI ((a ++ y :: r).map (·.x)) n = if heldB y.x = true then (a ++ y :: r).map (·.x) else (a ++ r).map (·.x) := by
  have hf : ∀ l : List Iv, (∀ z ∈ l, z.x.ino ≠ n) → (l.map (·.x)).filter (fun x => !decide (x.ino = n ∧ x.links = 0 ∧ x.opens = 0)) = l.map (·.x) := fun l hl => List.filter_eq_self.2 (fun x hx => by
    obtain ⟨z, hz, rfl⟩ := List.mem_map.1 hx
    simp [hl z hz])
  unfold endsI
  rw [List.map_append, List.filter_append, List.map_cons, hf a ha]
  by_cases hh : heldB y.x = true
  · rw [if_pos hh, List.filter_cons_of_pos, hf r hr]
    have : ¬ (y.x.links = 0 ∧ y.x.opens = 0) := fun e => by rw [(heldB_no h1 h2).2 e] at hh; cases hh
    simp [hy, this]
  · have hh2 := Bool.not_eq_true _ ▸ hh
    rw [if_neg hh, List.filter_cons_of_neg, hf r hr, List.map_append]
    have := (heldB_no h1 h2).1 (by simpa using hh)
    simp [hy, this]
theorem step_two {k : Int} (h : stepB k = true) : k = 1 ∨ k = -1 := of_decide_eq_true h
theorem link_at {t : Tb} {n k : Int} {a r : List Iv} {y : Iv} (hm : (a ++ y :: r).map (·.x) = t.l) (ht : TbI t) (hy : y.x.ino = n) (ha : ∀ z ∈ a, z.x.ino ≠ n) (hs : stepB k = true) (h1 : n ≠ 1) (hb : 0 ≤ y.x.links + k ∧ y.x.links + k ≤ 8) :
    linkI t n k = (⟨if heldB { y.x with links := y.x.links + k } = true then (a ++ (⟨{ y.x with links := y.x.links + k }, y.ao, y.cap⟩ : Iv) :: r).map (·.x) else (a ++ r).map (·.x), t.next⟩, 0) := by
  have hrise := ht.rise
  rw [← hm] at hrise
  have hr := iv_after hrise
  rw [hy] at hr
  have hin := ht.each y.x (by rw [← hm]; exact List.mem_map.2 ⟨y, List.mem_append_right _ List.mem_cons_self, rfl⟩)
  have ho : 0 ≤ y.x.opens := hin.2.2.2.1.1
  have hq : 0 ≤ y.x.links := hin.2.2.1.1
  have hT := iv_turn (a := a) (r := r) (y := y) (n := n) (f := fun x => { x with links := x.links + k }) (y' := ⟨{ y.x with links := y.x.links + k }, y.ao, y.cap⟩) hrise hy ha rfl
  rw [hm] at hT
  unfold linkI
  rw [← hm, getI_at hy ha, hm]
  simp only
  rw [if_pos ⟨hs, h1⟩, if_pos hb, ← hT]
  rcases step_two hs with rfl | rfl
  · rw [if_neg (by decide), if_pos (by unfold heldB; rw [Bool.or_eq_true, decide_eq_true_eq, decide_eq_true_eq]; (try show 0 < y.x.links + 1 ∨ _); (try show _ ∨ 0 < y.x.opens + 1); omega)]
  · rw [if_pos (by decide), iv_ends (y := ⟨{ y.x with links := y.x.links + -1 }, y.ao, y.cap⟩) hy ha hr hb.1 ho]
theorem open_at {t : Tb} {n k : Int} {a r : List Iv} {y : Iv} (hm : (a ++ y :: r).map (·.x) = t.l) (ht : TbI t) (hy : y.x.ino = n) (ha : ∀ z ∈ a, z.x.ino ≠ n) (hs : stepB k = true) (h1 : ¬ y.x.kind = 1) (hb : 0 ≤ y.x.opens + k ∧ y.x.opens + k ≤ 128) :
    openI t n k = (⟨if heldB { y.x with opens := y.x.opens + k } = true then (a ++ (⟨{ y.x with opens := y.x.opens + k }, y.ao, y.cap⟩ : Iv) :: r).map (·.x) else (a ++ r).map (·.x), t.next⟩, 0) := by
  have hrise := ht.rise
  rw [← hm] at hrise
  have hr := iv_after hrise
  rw [hy] at hr
  have hin := ht.each y.x (by rw [← hm]; exact List.mem_map.2 ⟨y, List.mem_append_right _ List.mem_cons_self, rfl⟩)
  have ho : 0 ≤ y.x.links := hin.2.2.1.1
  have hq : 0 ≤ y.x.opens := hin.2.2.2.1.1
  have hT := iv_turn (a := a) (r := r) (y := y) (n := n) (f := fun x => { x with opens := x.opens + k }) (y' := ⟨{ y.x with opens := y.x.opens + k }, y.ao, y.cap⟩) hrise hy ha rfl
  rw [hm] at hT
  unfold openI
  rw [← hm, getI_at hy ha, hm]
  simp only
  rw [if_pos hs, if_neg h1, if_pos hb, ← hT]
  rcases step_two hs with rfl | rfl
  · rw [if_neg (by decide), if_pos (by unfold heldB; rw [Bool.or_eq_true, decide_eq_true_eq, decide_eq_true_eq]; (try show 0 < y.x.links + 1 ∨ _); (try show _ ∨ 0 < y.x.opens + 1); omega)]
  · rw [if_pos (by decide), iv_ends (y := ⟨{ y.x with opens := y.x.opens + -1 }, y.ao, y.cap⟩) hy ha hr ho hb.1]
theorem link_none {t : Tb} {n k : Int} (h : getI t.l n = none) : linkI t n k = (t, 60) := by unfold linkI; rw [h]
theorem link_arg {t : Tb} {n k : Int} {x : Ino} (h : getI t.l n = some x) (hn : ¬ (stepB k = true ∧ n ≠ 1)) : linkI t n k = (t, 1) := by unfold linkI; rw [h]; exact if_neg hn
theorem link_many {t : Tb} {n k : Int} {x : Ino} (h : getI t.l n = some x) (hn : stepB k = true ∧ n ≠ 1) (hb : ¬ (0 ≤ x.links + k ∧ x.links + k ≤ 8)) : linkI t n k = (t, 66) := by unfold linkI; rw [h]; simp only; rw [if_pos hn, if_neg hb]
theorem open_none {t : Tb} {n k : Int} (h : getI t.l n = none) : openI t n k = (t, 60) := by unfold openI; rw [h]
theorem open_arg {t : Tb} {n k : Int} {x : Ino} (h : getI t.l n = some x) (hn : ¬ stepB k = true) : openI t n k = (t, 1) := by unfold openI; rw [h]; exact if_neg hn
theorem open_dir {t : Tb} {n k : Int} {x : Ino} (h : getI t.l n = some x) (hn : stepB k = true) (hk : x.kind = 1) : openI t n k = (t, 63) := by unfold openI; rw [h]; simp only; rw [if_pos hn, if_pos hk]
theorem open_many {t : Tb} {n k : Int} {x : Ino} (h : getI t.l n = some x) (hn : stepB k = true) (hk : ¬ x.kind = 1) (hb : ¬ (0 ≤ x.opens + k ∧ x.opens + k ≤ 128)) : openI t n k = (t, 3) := by unfold openI; rw [h]; simp only; rw [if_pos hn, if_neg hk, if_neg hb]
end Go.Proofs.Ytfkgeefoknaldaa
namespace Go.Proofs.Ytfkgeefoknaldaa
open Go.RowKit
set_option linter.unusedVariables false
set_option maxRecDepth 20000
/-- the document's table at q in state t, in the blocks of G -/
def RT (q : Nat) (G : Nat → Prop) (w : World) (t : Tb) : Prop := ∃ g cap l, l.map (·.x) = t.l ∧ DTab w 0 q g cap l t.next ∧ Zone G w q g l
theorem rt_thing (q : Nat) : Thing (RT q) where
  lt := by
    rintro G w t ⟨g, cap, l, h1, h2, z⟩
    exact z.2.2.2
  keep := by
    rintro G S w w' t ⟨g, cap, l, h1, h2, z⟩ hk hG
    exact ⟨g, cap, l, h1, ⟨hk.heap (hG _ z.1) h2.head, OR.keep h2.row hk (fun k e => by cases e; exact hG _ z.2.1), h2.low, h2.two, fun y hy => (h2.each y hy).keptX hk (fun a e => hG _ (z.2.2.1 y hy a e))⟩, z.kept hk.size⟩
theorem DTab.leaves {q g g' cap' : Nat} {G : Nat → Prop} {w w' : World} {l l' : List Iv} {t' : Tb} (hz : Zone G w q g l) (h : DTab w' 0 q g' cap' l' t'.next) (hl : l'.map (·.x) = t'.l) (hs : Went w w' q g l g' l') : Leaves (RT q) G w w' t' := by
  obtain ⟨G', g1, g2, g3⟩ := hs.zone hz (h.row.lt g' rfl).2 (fun y hy a e => ((h.each y hy).2.2.2 a e).1)
  exact ⟨G', ⟨g', cap', l', hl, h, g1⟩, g2, g3⟩
theorem Went.put {w w' : World} {q g : Nat} {a r : List Iv} {y y' : Iv} (hk : Kept (fun k => k ≠ q ∧ k ≠ g) w w') (hn : y'.ao = y.ao ∨ ∀ a, y'.ao = some a → w.heap.size ≤ a.block) : Went w w' q g (a ++ y :: r) g (a ++ y' :: r) :=
  ⟨hk, .inl rfl, fun z hz => by
    rcases List.mem_append.1 hz with hz | hz
    · exact .inl ⟨z, List.mem_append_left _ hz, rfl⟩
    · rcases List.mem_cons.1 hz with rfl | hz
      · rcases hn with e | e
        · exact .inl ⟨y, List.mem_append_right _ List.mem_cons_self, e⟩
        · exact .inr e
      · exact .inl ⟨z, List.mem_append_right _ (List.mem_cons_of_mem _ hz), rfl⟩⟩
theorem IvIn.fresh3 {w W : World} {q g : Nat} {v : Value} {l : List Pt} {x : Ino} (h : OPa w W.heap.size v l) (hx : x.parts = l) (hq : q < W.heap.size) (hg : g < W.heap.size) : ∃ ao cap, v = .slice ao l.length cap ∧ IvIn w q g ⟨x, ao, cap⟩ ∧ ∀ a, ao = some a → W.heap.size ≤ a.block := by
  obtain ⟨ao, cap, h1, h2, h3, h4, h5, _⟩ := OR.form par_rows h
  refine ⟨ao, cap, h1, ?_, fun a e => (h5 a e).1⟩
  show PaL w ao x.parts ∧ (ao = none → cap = 0) ∧ x.parts.length ≤ cap ∧ ∀ a, ao = some a → _
  rw [hx]
  exact ⟨h2, h4, h3, fun a e => ⟨(h5 a e).2, by have := (h5 a e).1; omega, by have := (h5 a e).1; omega⟩⟩
end Go.Proofs.Ytfkgeefoknaldaa
