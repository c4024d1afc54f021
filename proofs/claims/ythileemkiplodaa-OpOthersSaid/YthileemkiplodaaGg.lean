/- What cut and Good return, of path: the names of a path, and whether it is one. Conditions: the text is no longer than 2^40 bytes. What cut and Good return, of path. Conditions: the text is no longer than 2^40 bytes. -/
import Derived.Test.YthileemkiplodaaJPathB
import Derived.Test.YthileemkiplodaaJShelf
import Derived.Deep.LoopGhost
import Derived.Laws.ResultCell
import Derived.Laws.Rows
import Derived.Laws.Tables
set_option linter.unusedVariables false
namespace Go.Proofs.Ythileemkiplodaa
open Go.RowKit
set_option maxRecDepth 20000

theorem cut_full {p r : ByteArray} (hp : p ≠ slashB) (K : List ByteArray) (h : K.all nameB = true) (hk : K.length = 8) (e : lof p = joinC K ++ lof r) (hr : (lof r).head? = some 47) : goodR p = false := by
  cases hl : lof r with
  | nil => rw [hl] at hr; cases hr
  | cons c t =>
    rw [hl] at hr e
    cases hr
    rw [(good_pieces hp K h t e).1]
    apply Bool.eq_false_iff.2
    intro hf
    have := ((fit_iff _).1 hf).1
    have := List.length_pos_iff.2 (pieces_ne t)
    rw [List.length_append] at *
    omega
theorem cut_bad {p s : ByteArray} (hp : p ≠ slashB) (K : List ByteArray) (h : K.all nameB = true) (t : List UInt8) (e : lof p = joinC K ++ 47 :: t) (hs : nameB s = false) (hm : s ∈ pieces t) : goodR p = false := by
  rw [(good_pieces hp K h t e).1]
  apply Bool.eq_false_iff.2
  intro hf
  have := List.all_eq_true.1 ((fit_iff _).1 hf).2 s (List.mem_append_right _ hm)
  rw [hs] at this
  cases this
theorem cut_done {p s : ByteArray} (hp : p ≠ slashB) (K : List ByteArray) (h : K.all nameB = true) (e : lof p = joinC K ++ 47 :: lof s) (hk : K.length < 8) (hs : nameB s = true) : goodR p = true ∧ namesR p = K ++ [s] := by
  obtain ⟨h1, h2⟩ := good_pieces hp K h (lof s) e
  rw [pieces_name hs] at h1 h2
  have hg : goodR p = true := by
    rw [h1, fit_iff]
    refine ⟨by simp; omega, ?_⟩
    rw [List.all_append, h]
    simp [hs]
  exact ⟨hg, h2 hg⟩
/-- the world of cut: the result's block, the names' block, nothing else -/
def CW (w wr : World) (K : List ByteArray) : Prop := NK wr w.heap.size [] ∧ NK wr (w.heap.size + 1) K ∧ Below w.heap.size w wr
theorem CW.start (w : World) : CW w ((w.alloc (.cells (namesA []) 114)).alloc (.cells (namesA []) 114)) [] := by
  refine ⟨?_, ?_, ((Below.refl _ _).alloc (Nat.le_refl _) _).alloc (by simp) _⟩
  · exact (Kept.ofBelow ((Below.refl _ _).alloc (Nat.le_refl _) _) (fun _ => True)).heap trivial (heap_alloc_new w _)
  · have := heap_alloc_new (w.alloc (.cells (namesA []) 114)) (.cells (namesA []) 114)
    rw [show (w.alloc (.cells (namesA []) 114)).heap.size = w.heap.size + 1 by simp] at this
    exact this
theorem CW.step {w wr w2 : World} {K L : List ByteArray} (h : CW w wr K) (hn : NK w2 (w.heap.size + 1) L) (hk : Kept (fun k => k ≠ w.heap.size + 1) wr w2) : CW w w2 L :=
  ⟨h.1.keep hk (by simp), hn, h.2.2.trans (hk.toBelow h.2.2.size (fun k hk => by omega))⟩
theorem names_info (K : List ByteArray) (h : K.length ≤ 8) : (Try.prog.info? 114).map (·.size) = some (namesA K).size := by rw [namesA_size K h]; kernel_rfl
theorem namesL_one (K : List ByteArray) : ∀ v ∈ namesL K, v.oneCell' = true := by
  intro v hv
  simp only [namesL, List.mem_append, List.mem_map, List.mem_replicate, List.mem_singleton] at hv
  rcases hv with ⟨s, _, rfl⟩ | ⟨_, rfl⟩ | rfl <;> rfl
theorem names_one (K : List ByteArray) : (namesA K).all (·.oneCell') = true := by
  rw [Array.all_eq_true']
  intro v hv
  exact namesL_one K v (by simpa [namesA] using hv)
theorem names_ret {fn : Func} {p u : Tmp} (h : fn.results = #[.cell p 114, .tmp u]) {a : Act} {w : World} {g : Nat} {K : List ByteArray} {x : Bool} {R : Ending → World → Prop} (hk : K.length ≤ 8)
    (hg : NK w g K) (hp : a.tmps.getD p undef = .pointer (some ⟨g, 0, none⟩)) (hx : a.tmps.getD u undef = .bool x) (hd : a.defers = [])
    (hR : R (.returned (.tuple #[.agg (namesA K), .bool x])) w) : bodyPost Try.prog fn R .ret a w := by
  have e : (results fn a.tmps).run Try.prog w = .ok (.tuple #[.agg (namesA K), .bool x]) w := by
    rw [results_cell_tmp h, hp, hx]
    simp [asAddr, Result.andThen, run_loadVar_row w g 114 114 (namesA K) (0, 0) _ hg Try.underlying114 rfl (names_info K hk)]
  exact bodyPost_ret e hd hR
set_option maxHeartbeats 1000000 in
theorem cut_root (w : World) :
    Calls Try.prog 71 #[.string slashB] w fun e w' => e = .returned (.tuple #[.agg (namesA []), .bool true]) ∧ Below w.heap.size w w' := by
  have hc := CW.start w
  rw [show namesA [] = _ from namesA_nil] at hc
  unfold slashB
  go_enter Try.func71, Try.ntmps71
  go_wp2
  go_step3
  go_wp2
  rw [Exit.noGoto_ret]
  exact names_ret (K := []) rfl (by simp) hc.1 rfl rfl rfl ⟨rfl, hc.2.2⟩
theorem hasRoot_any (r : ByteArray) (w : World) :
    Calls Try.prog 74 #[.string r, .string ⟨#[47]⟩] w fun e w' => e = .returned (.bool (decide ((lof r).head? = some 47))) ∧ w = w' := by
  refine (Try.strings_HasPrefix r ⟨#[47]⟩ w).mono ?_
  rintro e w' ⟨rfl, rfl⟩
  refine ⟨?_, rfl⟩
  have : Lib.hasPrefix r.data.toList [47] = decide ((lof r).head? = some 47) := by
    unfold lof
    cases r.data.toList with
    | nil => rfl
    | cons c t =>
      by_cases h : c = 47
      · subst h; rfl
      · have h2 : ¬ (47 : UInt8) = c := fun e => h e.symm
        simp [Lib.hasPrefix, List.isPrefixOf, h, h2]
  show Ending.returned (.bool (Lib.hasPrefix r.data.toList [47])) = _
  rw [this]
theorem head_ext {r : ByteArray} (h : (lof r).head? = some 47) : 1 ≤ r.size ∧ lof r = 47 :: lof (r.extract 1 r.size) := by
  rw [lof_rest, lof_size]
  cases hl : lof r with
  | nil => rw [hl] at h; cases h
  | cons c t => rw [hl] at h; cases h; exact ⟨by simp, rfl⟩
/-- a text of which k bytes stand ahead of the rest -/
theorem ext_parts (q : ByteArray) (k : Nat) : lof q = lof (q.extract 0 k) ++ lof (q.extract k q.size) := by
  rw [lof_head, lof_rest, List.take_append_drop]
theorem ext_slash {q : ByteArray} {k : Nat} (h : k < q.size) (h2 : q[k] = 47) : ∃ u, lof (q.extract k q.size) = 47 :: u := by
  refine ⟨(lof q).drop (k + 1), ?_⟩
  rw [lof_rest, List.drop_eq_getElem_cons (by rw [← lof_size]; exact h)]
  congr 1
theorem no_slash_snoc {q : ByteArray} {k : Nat} (h : k < q.size) (h1 : (47 : UInt8) ∉ (lof q).take k) (h2 : q[k] ≠ 47) : (47 : UInt8) ∉ (lof q).take (k + 1) := by
  rw [List.take_succ_eq_append_getElem (by rw [← lof_size]; exact h), List.mem_append]
  rintro (h3 | h3)
  · exact h1 h3
  · simp only [List.mem_singleton] at h3
    exact h2 h3.symm
/-- the names so far, and what is left of the text -/
def CI (p : ByteArray) (K : List ByteArray) (r : ByteArray) : Prop := K.all nameB = true ∧ lof p = joinC K ++ lof r ∧ (K = [] ∨ (lof r).head? = some 47)
theorem CI.start (p : ByteArray) : CI p [] p := ⟨rfl, rfl, .inl rfl⟩
theorem CI.full {p r : ByteArray} {K : List ByteArray} (h : CI p K r) (hp : p ≠ slashB) (hk : K.length = 8) : goodR p = false := by
  rcases h.2.2 with e | e
  · rw [e] at hk; simp at hk
  · exact cut_full hp K h.1 hk h.2.1 e
theorem CI.none {p r : ByteArray} {K : List ByteArray} (h : CI p K r) (hp : p ≠ slashB) (hr : (lof r).head? ≠ some 47) : goodR p = false := by
  rcases h.2.2 with e | e
  · have := h.2.1
    rw [e] at this
    exact cut_none hp (by rw [this]; exact hr)
  · exact absurd e hr
theorem CI.next {p r q : ByteArray} {K : List ByteArray} {k : Nat} (h : CI p K r) (hr : lof r = 47 :: lof q) (hk : k < q.size) (h1 : (47 : UInt8) ∉ (lof q).take k) (h2 : q[k] = 47) (hn : nameB (q.extract 0 k) = true) : CI p (K ++ [q.extract 0 k]) (q.extract k q.size) := by
  obtain ⟨u, hu⟩ := ext_slash hk h2
  refine ⟨by rw [List.all_append, h.1]; simp [hn], ?_, .inr (by rw [hu]; rfl)⟩
  rw [h.2.1, hr, ext_parts q k, joinC_app]
  simp [joinC]
theorem CI.bad {p r q : ByteArray} {K : List ByteArray} {k : Nat} (h : CI p K r) (hp : p ≠ slashB) (hr : lof r = 47 :: lof q) (hk : k < q.size) (h1 : (47 : UInt8) ∉ (lof q).take k) (h2 : q[k] = 47) (hn : nameB (q.extract 0 k) = false) : goodR p = false := by
  obtain ⟨u, hu⟩ := ext_slash hk h2
  refine cut_bad hp K h.1 (lof q) (by rw [h.2.1, hr]) hn ?_
  rw [ext_parts q k, hu, pieces_slash, pieces_plain (lof (q.extract 0 k)) (by rw [lof_head]; exact h1)]
  exact List.mem_append_left _ List.mem_cons_self
theorem CI.last {p r q : ByteArray} {K : List ByteArray} (h : CI p K r) (hp : p ≠ slashB) (hr : lof r = 47 :: lof q) (hk : K.length < 8) (hn : nameB q = true) : goodR p = true ∧ namesR p = K ++ [q] :=
  cut_done hp K h.1 (by rw [h.2.1, hr]) hk hn
theorem CI.lastBad {p r q : ByteArray} {K : List ByteArray} (h : CI p K r) (hp : p ≠ slashB) (hr : lof r = 47 :: lof q) (h1 : (47 : UInt8) ∉ (lof q).take q.size) (hn : nameB q = false) : goodR p = false := by
  rw [List.take_of_length_le (by rw [← lof_size]; exact Nat.le_refl _)] at h1
  refine cut_bad hp K h.1 (lof q) (by rw [h.2.1, hr]) hn ?_
  rw [pieces_plain _ h1]
  exact List.mem_cons_self
theorem setRow_below {B g : Nat} {a w : World} (h : Below B a w) (hg : B ≤ g) (Y : Array Value) : Below B a (w.setRow g Y) :=
  h.trans ⟨rfl, rfl, rfl, by simp, fun k hk => setRow_other _ _ _ _ (by omega)⟩
theorem CW.out {w wr : World} {K : List ByteArray} (h : CW w wr K) (L : List ByteArray) : NK (wr.setRow w.heap.size (namesA L)) w.heap.size L ∧ Below w.heap.size w (wr.setRow w.heap.size (namesA L)) :=
  ⟨setRow_heap _ _ _ _ _ _ h.1, setRow_below h.2.2 (Nat.le_refl _) _⟩
set_option maxRecDepth 100000 in
set_option maxHeartbeats 2000000 in
theorem cut_in (p : ByteArray) (hs : p.size ≤ 1099511627776) (hp : p ≠ slashB) (w : World) :
    Calls Try.prog 71 #[.string p] w fun e w' => e = .returned (.tuple #[.agg (namesA (namesR p)), .bool (goodR p)]) ∧ Below w.heap.size w w' := by
  have HC := Lib.hid (CW.start w)
  rw [show namesA [] = _ from namesA_nil] at HC
  have d0 : (p.toList == [47]) = false := by
    rw [beq_eq_false_iff_ne, Lib.toList_data]
    intro e
    exact hp (lof_inj e)
  have HPS := Lib.hid hp
  have HN := Lib.hid (@names_none p)
  clear hp
  go_enter Try.func71, Try.ntmps71
  go_wp2
  go_step3
  go_wp2
  go_step3
  go_wp2
  go_loopg [5] 8 (fun g r wr => ∃ (K : List ByteArray) (s : ByteArray), K.length + g = 8 ∧ r = .string s ∧ s.size ≤ 1099511627776 ∧ Hid (CI p K s) ∧ Hid (CW w wr K))
  case atStart => exact ⟨[], p, rfl, rfl, hs, CI.start p, HC⟩
  case round =>
    obtain ⟨K, r, hkg, rfl, hrs, HI, HW⟩ := hrel
    clear HC d0 hs
    cases gk with
    | zero =>
      have c8 := HW.out.2.1.count (by omega)
      have k8 : decide ((K.length : Int) < 8) = false := decide_eq_false (by omega)
      have HG := Lib.hid (HI.out.full HPS.out (by omega))
      go_wp2_with (refine wpList_store_row (o := ⟨none, _, _, _, _, _⟩) ?d1 114 (.tmp 2) (.tmp 42) ?d2 w.heap.size (namesA []) ?d3 ?d4 114 (namesA []) HW.out.1 (names_info [] (by simp)) rfl (names_one []) ?d5; (case d1 => rfl); (case d2 => rfl); (case d3 => rfl); (case d4 => rfl))
      try rw [Exit.noGoto_ret]
      exact names_ret (K := []) rfl (by simp) (HW.out.out []).1 rfl rfl rfl ⟨by rw [HG.out, HN.out HG.out], (HW.out.out []).2⟩
    | succ g =>
      have c8 := HW.out.2.1.count (by omega)
      have k8 : (K.length : Int) < 8 := by omega
      have c := fun w => hasRoot_any r w
      by_cases hh : (lof r).head? = some 47
      · rw [decide_eq_true hh] at c
        obtain ⟨h1, h2⟩ := head_ext hh
        have HT := Lib.hid h2
        have h1' : (1 : Int) ≤ (r.size : Int) := by omega
        have hrs' : (r.size : Int) ≤ 1099511627776 := by omega
        clear hh h2
        go_wp2_with (go_at_call 74; refine (c _).mono ?_; rintro e w' ⟨rfl, rfl⟩)
        have hqs : r.size - 1 = (r.extract 1 r.size).size := by rw [ByteArray.size_extract]; omega
        rw [hqs]
        have hq : (r.extract 1 r.size).size ≤ 1099511627776 := by rw [← hqs]; omega
        generalize r.extract 1 r.size = q at *
        clear hqs c c8 h1' hrs'
        have hq' : (q.size : Int) ≤ 1099511627776 := by omega
        go_loopg [5, 22] q.size (fun g2 r2 i wy => ∃ k : Nat, k + g2 = q.size ∧ r2 = .string q ∧ i = .int .i64 k ∧ Hid ((47 : UInt8) ∉ (lof q).take k) ∧ wy = wr)
        case atStart => exact ⟨0, by omega, rfl, rfl, Lib.hid (by simp), rfl⟩
        case round =>
          obtain ⟨k, hkg2, rfl, rfl, HS, rfl⟩ := hrel
          have k7 : K.length < 8 := by omega
          cases gk with
          | zero =>
            obtain rfl : k = q.size := by omega
            cases hn : nameB q
            · have HG := Lib.hid (HI.out.lastBad HPS.out HT.out HS.out hn)
              clear hkg2
              go_wp2_with (first | (go_at_call 75; refine (add_no _ q hn _).mono ?_; rintro e w' ⟨rfl, rfl⟩) | (refine wpList_store_row (o := ⟨none, _, _, _, _, _⟩) ?f1 114 (.tmp 2) (.tmp 42) ?f2 w.heap.size (namesA []) ?f3 ?f4 114 (namesA []) HW.out.1 (names_info [] (by simp)) rfl (names_one []) ?f5; (case f1 => rfl); (case f2 => rfl); (case f3 => rfl); (case f4 => rfl)))
              try rw [Exit.noGoto_ret]
              exact names_ret (K := []) rfl (by simp) (HW.out.out []).1 rfl rfl rfl ⟨by rw [HG.out, HN.out HG.out], (HW.out.out []).2⟩
            · have HG := Lib.hid (HI.out.last HPS.out HT.out k7 hn)
              have kl : (K ++ [q]).length ≤ 8 := by simp; omega
              have HA := Lib.hid (add_yes (w.heap.size + 1) K q hn wr HW.out.2.1 k7)
              clear hkg2
              go_wp2_with (first | (go_at_call 75; refine HA.out.mono ?_; rintro e w2 ⟨rfl, hn2, hk2⟩; have HW2 := Lib.hid (HW.out.step hn2 hk2); clear hn2 hk2 HA) | (refine wpList_load_row (o := ⟨some 41, _, _, _, _, _⟩) ?g1 114 (.tmp 4) ?g2 (w.heap.size + 1) ?g3 114 (namesA (K ++ [q])) (0, 0) _ HW2.out.2.1 Try.underlying114 rfl (names_info (K ++ [q]) kl) ?g4; (case g1 => rfl); (case g2 => rfl); (case g3 => rfl)) | (refine wpList_store_row (o := ⟨none, _, _, _, _, _⟩) ?h1 114 (.tmp 2) (.tmp 41) ?h2 w.heap.size (namesA (K ++ [q])) ?h3 ?h4 114 (namesA []) HW2.out.1 (names_info (K ++ [q]) kl) ((namesA_size [] (by simp)).trans (namesA_size (K ++ [q]) kl).symm) (names_one (K ++ [q])) ?h5; (case h1 => rfl); (case h2 => rfl); (case h3 => rfl); (case h4 => rfl)))
              try rw [Exit.noGoto_ret]
              exact names_ret (K := K ++ [q]) rfl kl (HW2.out.out _).1 rfl rfl rfl ⟨by rw [HG.out.1, HG.out.2], (HW2.out.out _).2⟩
          | succ g2 =>
            have hk : k < q.size := by omega
            by_cases h47 : q[k] = 47
            · have d1 : ((q[k].toNat : Int) != 47) = false := by
                rw [bne_eq_false_iff_eq, byte_eq.2 h47]; rfl
              cases hn : nameB (q.extract 0 k)
              · have HG := Lib.hid (HI.out.bad HPS.out HT.out hk HS.out h47 hn)
                clear h47
                go_wp2_with (first | (go_at_call 75; refine (add_no _ _ hn _).mono ?_; rintro e w' ⟨rfl, rfl⟩) | (refine wpList_store_row (o := ⟨none, _, _, _, _, _⟩) ?i1 114 (.tmp 2) (.tmp 42) ?i2 w.heap.size (namesA []) ?i3 ?i4 114 (namesA []) HW.out.1 (names_info [] (by simp)) rfl (names_one []) ?i5; (case i1 => rfl); (case i2 => rfl); (case i3 => rfl); (case i4 => rfl)))
                try rw [Exit.noGoto_ret]
                exact names_ret (K := []) rfl (by simp) (HW.out.out []).1 rfl rfl rfl ⟨by rw [HG.out, HN.out HG.out], (HW.out.out []).2⟩
              · have HG := Lib.hid (HI.out.next HT.out hk HS.out h47 hn)
                have HA := Lib.hid (add_yes (w.heap.size + 1) K _ hn wr HW.out.2.1 k7)
                have hes : (q.extract k q.size).size ≤ 1099511627776 := by rw [ByteArray.size_extract]; omega
                have HES := Lib.hid hes
                clear h47 hes
                go_wp2_with (go_at_call 75; refine HA.out.mono ?_; rintro e w2 ⟨rfl, hn2, hk2⟩)
                have HW2 := Lib.hid (HW.out.step hn2 hk2)
                clear hn2 hk2 HA
                go_wp2_with fail
                go_roundg g
                case measure => omega
                case rel => exact ⟨_, _, by simp; omega, rfl, HES.out, HG, HW2⟩
            · have d1 : ((q[k].toNat : Int) != 47) = true := by
                rw [bne_iff_ne]; intro e; exact h47 (byte_eq.1 (by omega))
              have HS2 := Lib.hid (no_slash_snoc hk HS.out h47)
              clear h47
              go_wp2_with fail
              go_roundg g2
              case measure => omega
              case rel => exact ⟨k + 1, by omega, rfl, by go_num, HS2, rfl⟩
      · rw [decide_eq_false hh] at c
        have HG := Lib.hid (HI.out.none HPS.out hh)
        clear hh
        go_wp2_with (first | (go_at_call 74; refine (c _).mono ?_; rintro e w' ⟨rfl, rfl⟩) | (refine wpList_store_row (o := ⟨none, _, _, _, _, _⟩) ?e1 114 (.tmp 2) (.tmp 42) ?e2 w.heap.size (namesA []) ?e3 ?e4 114 (namesA []) HW.out.1 (names_info [] (by simp)) rfl (names_one []) ?e5; (case e1 => rfl); (case e2 => rfl); (case e3 => rfl); (case e4 => rfl)))
        try rw [Exit.noGoto_ret]
        exact names_ret (K := []) rfl (by simp) (HW.out.out []).1 rfl rfl rfl ⟨by rw [HG.out, HN.out HG.out], (HW.out.out []).2⟩
end Go.Proofs.Ythileemkiplodaa
namespace Go.Proofs.Ythileemkiplodaa
open Go.RowKit
set_option maxRecDepth 20000

theorem cut_any (p : ByteArray) (hs : p.size ≤ 1099511627776) (w : World) :
    Calls Try.prog 71 #[.string p] w fun e w' => e = .returned (.tuple #[.agg (namesA (namesR p)), .bool (goodR p)]) ∧ Below w.heap.size w w' := by
  by_cases hp : p = slashB
  · subst hp
    rw [namesR_root, goodR_root]
    exact cut_root w
  · exact cut_in p hs hp w
theorem zeros_heap (w w1 : World) : ((w1.alloc (.cells #[.string ⟨#[]⟩, .string ⟨#[]⟩, .string ⟨#[]⟩, .string ⟨#[]⟩, .string ⟨#[]⟩, .string ⟨#[]⟩, .string ⟨#[]⟩, .string ⟨#[]⟩, .int .i64 0] 114))).heap[w1.heap.size]? = some (.cells (namesA []) 114 (0, 0)) := heap_alloc_new _ _
theorem good_any (p : ByteArray) (hs : p.size ≤ 1099511627776) (w : World) :
    Calls Try.prog 56 #[.string p] w fun e w' => e = .returned (.bool (goodR p)) ∧ Below w.heap.size w w' := by
  have c := fun w => cut_any p hs w
  have hl := (names_le p).1
  generalize namesR p = K at *
  generalize goodR p = B at *
  go_enter Try.func56, Try.ntmps56
  go_wp2_with (first | (go_at_call 71; refine (c _).mono ?_; rintro e w1 ⟨rfl, hb1⟩) | (refine wpList_store_row (o := ⟨none, _, _, _, _, _⟩) ?a1 114 (.tmp 3) (.tmp 8) ?a2 w1.heap.size (namesA K) ?a3 ?a4 114 (namesA []) (zeros_heap w w1) (names_info K hl) ((namesA_size [] (by simp)).trans (namesA_size K hl).symm) (names_one K) ?a5; (case a1 => rfl); (case a2 => rfl); (case a3 => rfl); (case a4 => rfl)))
  go_ret
  exact ⟨rfl, setRow_below (hb1.alloc hb1.size _) hb1.size _⟩
end Go.Proofs.Ythileemkiplodaa
