/- What the program's own New, isNone, Kind, Used and Edge return. Conditions: the object lies where the call was told. -/
import Derived.Test.YtaodmdoagngdnaaPgpA
namespace Go.Proofs.Ytaodmdoagngdnaa
open Go.RowKit Go.Maps
set_option linter.unusedVariables false
set_option maxRecDepth 20000
theorem isNone_nil (a : Int) (w : World) : Calls Try.prog 50 #[.pointer none, .int .i64 a] w fun e w' => e = .returned (.bool true) ∧ w = w' := by
  go_enter Try.func50, Try.ntmps50
  go_wp2
  go_ret
  exact ⟨rfl, rfl⟩
theorem isNone_any (b : Nat) (a : Int) (w : World) : Calls Try.prog 50 #[.pointer (some ⟨b, 0, none⟩), .int .i64 a] w fun e w' => e = .returned (.bool (!thereB a)) ∧ w = w' := by
  have hd := Lib.hid (show (decide (a < 0) || decide (4096 ≤ a)) = !thereB a from by
    unfold thereB
    by_cases h0 : a < 0
    · simp [h0, show ¬ 0 ≤ a from by omega]
    · by_cases h1 : 4096 ≤ a
      · simp [h1, show ¬ a < 4096 from by omega]
      · simp [h0, h1, show 0 ≤ a from by omega, show a < 4096 from by omega])
  go_enter Try.func50, Try.ntmps50
  go_wp2
  all_goals
    go_ret
    rw [← hd.out]
    first | exact ⟨rfl, rfl⟩ | exact ⟨by simp [*], rfl⟩
theorem sheet_kind (k : Int) (s : ByteArray) (W : World) : (Instr.field 91 (.agg #[.int .i64 k, .string s]) 0).run Try.prog W = .ok (.int .i64 k) W := by kernel_rfl
theorem sheet_text (k : Int) (s : ByteArray) (W : World) : (Instr.field 91 (.agg #[.int .i64 k, .string s]) 1).run Try.prog W = .ok (.string s) W := by kernel_rfl
set_option maxHeartbeats 4000000 in
theorem kind_any (G : Nat → Prop) (w : World) (b : Nat) (p : Ps) (a : Int) (h : PGm G w b p) :
    Calls Try.prog 49 #[.pointer (some ⟨b, 0, none⟩), .int .i64 a] w fun e w' => e = .returned (.int .i64 (p.kind a)) ∧ w = w' := by
  have CN := Lib.hid (isNone_any b a w)
  obtain ⟨mb, h1, h2, _⟩ := h
  by_cases ht : thereB a = true
  · rw [ht] at CN
    obtain ⟨c0, c1, c2, _⟩ := three_cells h1
    by_cases he : a < p.edge
    · have HE := Lib.hid (show p.kind a = 3 from by unfold Ps.kind; rw [if_pos ht, if_pos he])
      clear h1 h2 ht
      generalize p.edge = ed at *
      go_enter Try.func49, Try.ntmps49
      go_wp2_with (go_at_call 50; refine CN.out.mono ?_; rintro e w1 ⟨rfl, rfl⟩)
      go_ret
      rw [HE.out]
      exact ⟨rfl, rfl⟩
    · have HE := Lib.hid (kindL_of ht he)
      have he' : p.edge ≤ a := by omega
      have hl := h2.look (there_wf ht)
      have hf := sheet_kind
      clear h1 h2 ht he
      generalize p.edge = ed at *
      generalize kindL p.l a = kk at *
      generalize textL p.l a = tt at *
      go_enter Try.func49, Try.ntmps49
      go_wp2_with (go_at_call 50; refine CN.out.mono ?_; rintro e w1 ⟨rfl, rfl⟩)
      go_ret
      rw [HE.out]
      exact ⟨rfl, rfl⟩
  · have HE := Lib.hid (show p.kind a = 0 from by unfold Ps.kind; rw [if_neg ht])
    rw [Bool.eq_false_iff.2 ht] at CN
    clear h1 h2 ht
    go_enter Try.func49, Try.ntmps49
    go_wp2_with (go_at_call 50; refine CN.out.mono ?_; rintro e w1 ⟨rfl, rfl⟩)
    go_ret
    rw [HE.out]
    exact ⟨rfl, rfl⟩
theorem kind_nil (a : Int) (w : World) : Calls Try.prog 49 #[.pointer none, .int .i64 a] w fun e w' => e = .returned (.int .i64 0) ∧ w = w' := by
  have CN := Lib.hid (isNone_nil a w)
  go_enter Try.func49, Try.ntmps49
  go_wp2_with (go_at_call 50; refine CN.out.mono ?_; rintro e w1 ⟨rfl, rfl⟩)
  go_ret
  exact ⟨rfl, rfl⟩
theorem used_any (G : Nat → Prop) (w : World) (b : Nat) (p : Ps) (h : PGm G w b p) :
    Calls Try.prog 19 #[.pointer (some ⟨b, 0, none⟩)] w fun e w' => e = .returned (.int .i64 p.l.length) ∧ w = w' := by
  obtain ⟨mb, h1, h2, _⟩ := h
  obtain ⟨c0, c1, c2, _⟩ := three_cells h1
  have hl := fun ty => h2.count ty w rfl
  clear h1 h2
  go_enter Try.func19, Try.ntmps19
  go_wp2
  go_ret
  exact ⟨rfl, rfl⟩
theorem used_nil (w : World) : Calls Try.prog 19 #[.pointer none] w fun e w' => e = .returned (.int .i64 0) ∧ w = w' := by
  go_enter Try.func19, Try.ntmps19
  go_wp2
  go_ret
  exact ⟨rfl, rfl⟩
theorem edge_any (G : Nat → Prop) (w : World) (b : Nat) (p : Ps) (h : PGm G w b p) :
    Calls Try.prog 23 #[.pointer (some ⟨b, 0, none⟩)] w fun e w' => e = .returned (.int .i64 p.edge) ∧ w = w' := by
  obtain ⟨mb, h1, h2, _⟩ := h
  obtain ⟨c0, c1, c2, _⟩ := three_cells h1
  clear h1 h2
  go_enter Try.func23, Try.ntmps23
  go_wp2
  go_ret
  exact ⟨rfl, rfl⟩
theorem edge_nil (w : World) : Calls Try.prog 23 #[.pointer none] w fun e w' => e = .returned (.int .i64 0) ∧ w = w' := by
  go_enter Try.func23, Try.ntmps23
  go_wp2
  go_ret
  exact ⟨rfl, rfl⟩
theorem pnew_yes (room : Int) (w : World) (h : 1 ≤ room ∧ room ≤ 4096) : Calls Try.prog 25 #[.int .i64 room] w fun e w' => ∃ (b : Nat) (G : Nat → Prop), e = .returned (.tuple #[.pointer (some ⟨b, 0, none⟩), .int .i64 0]) ∧ PGm G w' b (newP room) ∧ (∀ k, G k → w.heap.size ≤ k) ∧ Below w.heap.size w w' := by
  obtain ⟨h0, h1⟩ := h
  have hmm := @run_makeMap Try.prog
  go_enter Try.func25, Try.ntmps25
  go_wp2
  go_ret2
  refine ⟨_, fun k => k = w.heap.size ∨ k = w.heap.size + 1, rfl, ⟨w.heap.size, ?_, ?_, ?_, ?_, .inl rfl, ?_⟩, ?_, ?_⟩
  · have := heap_alloc_new (w.alloc (.map #[] 0)) (.cells #[.int .i64 room, .int .i64 0, .map (some w.heap.size)] 68)
    simpa [newP] using this
  · exact (Tp.made w).below ((Below.refl _ _).alloc (Nat.le_refl _) _)
  · simp
  · exact .inr (by simp)
  · rintro k (rfl | rfl) <;> simp <;> omega
  · rintro k (rfl | rfl) <;> omega
  · exact ((Below.refl _ _).alloc (Nat.le_refl _) _).alloc (by simp) _
theorem pnew_no (room : Int) (w : World) (h : room < 1 ∨ 4096 < room) : Calls Try.prog 25 #[.int .i64 room] w fun e w' => e = .returned (.tuple #[.pointer none, .int .i64 1]) ∧ Below w.heap.size w w' := by
  by_cases h0 : room < 1
  · clear h
    go_enter Try.func25, Try.ntmps25
    go_wp2
    go_ret2
    exact ⟨rfl, Below.refl _ _⟩
  · have h0' : 1 ≤ room := by omega
    have h1 : 4096 < room := by omega
    clear h h0
    go_enter Try.func25, Try.ntmps25
    go_wp2
    go_ret2
    exact ⟨rfl, Below.refl _ _⟩
end Go.Proofs.Ytaodmdoagngdnaa
