/- What the program's own New, isNone, Kind, Used and Edge return. Conditions: the object lies where the call was told. What the program's sequencer answers a question that looks, or that is none of its. Conditions: it and the question lie where the call was told. -/
import Derived.Test.YtphigibhgldnpaaG10b
set_option linter.unusedVariables false
namespace Go.Proofs.Ytphigibhgldnpaa
open Go.RowKit Go.Maps
set_option linter.unusedVariables false
set_option maxRecDepth 20000
theorem isNone_nil (a : Int) (w : World) : Calls Try.prog 98 #[.pointer none, .int .i64 a] w fun e w' => e = .returned (.bool true) ∧ w = w' := by
  go_enter Try.func98, Try.ntmps98
  go_wp2
  go_ret
  exact ⟨rfl, rfl⟩
theorem pgIsNone_any (b : Nat) (a : Int) (w : World) : Calls Try.prog 98 #[.pointer (some ⟨b, 0, none⟩), .int .i64 a] w fun e w' => e = .returned (.bool (!thereB a)) ∧ w = w' := by
  have hd := Lib.hid (show (decide (a < 0) || decide (4096 ≤ a)) = !thereB a from by
    unfold thereB
    by_cases h0 : a < 0
    · simp [h0, show ¬ 0 ≤ a from by omega]
    · by_cases h1 : 4096 ≤ a
      · simp [h1, show ¬ a < 4096 from by omega]
      · simp [h0, h1, show 0 ≤ a from by omega, show a < 4096 from by omega])
  go_enter Try.func98, Try.ntmps98
  go_wp2
  all_goals
    go_ret
    rw [← hd.out]
    first | exact ⟨rfl, rfl⟩ | exact ⟨by simp [*], rfl⟩
theorem sheet_kind (k : Int) (s : ByteArray) (W : World) : (Instr.field 152 (.agg #[.int .i64 k, .string s]) 0).run Try.prog W = .ok (.int .i64 k) W := by kernel_rfl
theorem sheet_text (k : Int) (s : ByteArray) (W : World) : (Instr.field 152 (.agg #[.int .i64 k, .string s]) 1).run Try.prog W = .ok (.string s) W := by kernel_rfl
set_option maxHeartbeats 4000000 in
theorem kind_any (G : Nat → Prop) (w : World) (b : Nat) (p : Ps) (a : Int) (h : PGm G w b p) :
    Calls Try.prog 97 #[.pointer (some ⟨b, 0, none⟩), .int .i64 a] w fun e w' => e = .returned (.int .i64 (p.kind a)) ∧ w = w' := by
  have CN := Lib.hid (pgIsNone_any b a w)
  obtain ⟨mb, h1, h2, _⟩ := h
  by_cases ht : thereB a = true
  · rw [ht] at CN
    obtain ⟨c0, c1, c2, _⟩ := three_cells h1
    by_cases he : a < p.edge
    · have HE := Lib.hid (show p.kind a = 3 from by unfold Ps.kind; rw [if_pos ht, if_pos he])
      clear h1 h2 ht
      generalize p.edge = ed at *
      go_enter Try.func97, Try.ntmps97
      go_wp2_with (go_at_call 98; refine CN.out.mono ?_; rintro e w1 ⟨rfl, rfl⟩)
      go_ret
      rw [HE.out]
      exact ⟨rfl, rfl⟩
    · have HE := Lib.hid (kindL_of ht he)
      have he' : p.edge ≤ a := by omega
      have hl := h2.look (there_wf ht)
      have hf := sheet_kind
      clear h1 h2 ht he
      generalize p.edge = ed at *
      generalize kindL p.l a = kk at *
      generalize textL p.l a = tt at *
      go_enter Try.func97, Try.ntmps97
      go_wp2_with (go_at_call 98; refine CN.out.mono ?_; rintro e w1 ⟨rfl, rfl⟩)
      go_ret
      rw [HE.out]
      exact ⟨rfl, rfl⟩
  · have HE := Lib.hid (show p.kind a = 0 from by unfold Ps.kind; rw [if_neg ht])
    rw [Bool.eq_false_iff.2 ht] at CN
    clear h1 h2 ht
    go_enter Try.func97, Try.ntmps97
    go_wp2_with (go_at_call 98; refine CN.out.mono ?_; rintro e w1 ⟨rfl, rfl⟩)
    go_ret
    rw [HE.out]
    exact ⟨rfl, rfl⟩
theorem kind_nil (a : Int) (w : World) : Calls Try.prog 97 #[.pointer none, .int .i64 a] w fun e w' => e = .returned (.int .i64 0) ∧ w = w' := by
  have CN := Lib.hid (isNone_nil a w)
  go_enter Try.func97, Try.ntmps97
  go_wp2_with (go_at_call 98; refine CN.out.mono ?_; rintro e w1 ⟨rfl, rfl⟩)
  go_ret
  exact ⟨rfl, rfl⟩
theorem used_any (G : Nat → Prop) (w : World) (b : Nat) (p : Ps) (h : PGm G w b p) :
    Calls Try.prog 12 #[.pointer (some ⟨b, 0, none⟩)] w fun e w' => e = .returned (.int .i64 p.l.length) ∧ w = w' := by
  obtain ⟨mb, h1, h2, _⟩ := h
  obtain ⟨c0, c1, c2, _⟩ := three_cells h1
  have hl := fun ty => h2.count ty w rfl
  clear h1 h2
  go_enter Try.func12, Try.ntmps12
  go_wp2
  go_ret
  exact ⟨rfl, rfl⟩
theorem used_nil (w : World) : Calls Try.prog 12 #[.pointer none] w fun e w' => e = .returned (.int .i64 0) ∧ w = w' := by
  go_enter Try.func12, Try.ntmps12
  go_wp2
  go_ret
  exact ⟨rfl, rfl⟩
theorem pnew_yes (room : Int) (w : World) (h : 1 ≤ room ∧ room ≤ 4096) : Calls Try.prog 30 #[.int .i64 room] w fun e w' => ∃ (b : Nat) (G : Nat → Prop), e = .returned (.tuple #[.pointer (some ⟨b, 0, none⟩), .int .i64 0]) ∧ PGm G w' b (newP room) ∧ (∀ k, G k → w.heap.size ≤ k) ∧ Below w.heap.size w w' := by
  obtain ⟨h0, h1⟩ := h
  have hmm := @run_makeMap Try.prog
  go_enter Try.func30, Try.ntmps30
  go_wp2
  go_ret2
  refine ⟨_, fun k => k = w.heap.size ∨ k = w.heap.size + 1, rfl, ⟨w.heap.size, ?_, ?_, ?_, ?_, .inl rfl, ?_⟩, ?_, ?_⟩
  · have := heap_alloc_new (w.alloc (.map #[] 0)) (.cells #[.int .i64 room, .int .i64 0, .map (some w.heap.size)] 67)
    simpa [newP] using this
  · exact (Tp.made w).below ((Below.refl _ _).alloc (Nat.le_refl _) _)
  · simp
  · exact .inr (by simp)
  · rintro k (rfl | rfl) <;> simp <;> omega
  · rintro k (rfl | rfl) <;> omega
  · exact ((Below.refl _ _).alloc (Nat.le_refl _) _).alloc (by simp) _
theorem pnew_no (room : Int) (w : World) (h : room < 1 ∨ 4096 < room) : Calls Try.prog 30 #[.int .i64 room] w fun e w' => e = .returned (.tuple #[.pointer none, .int .i64 1]) ∧ Below w.heap.size w w' := by
  by_cases h0 : room < 1
  · clear h
    go_enter Try.func30, Try.ntmps30
    go_wp2
    go_ret2
    exact ⟨rfl, Below.refl _ _⟩
  · have h0' : 1 ≤ room := by omega
    have h1 : 4096 < room := by omega
    clear h h0
    go_enter Try.func30, Try.ntmps30
    go_wp2
    go_ret2
    exact ⟨rfl, Below.refl _ _⟩
end Go.Proofs.Ytphigibhgldnpaa
namespace Go.Proofs.Ytphigibhgldnpaa
set_option linter.unusedVariables false
open Go.RowKit
set_option maxRecDepth 20000
set_option maxHeartbeats 800000 in
theorem on_refuse (b : Nat) (G : Nat → Prop) (w : World) (o : Od) (a : Ak) (h : OM b G w o) :
    Calls Try.prog 43 #[ptrO b, askV a] w fun e w' => e = .returned (anW 1 0 noT 0) ∧ Leaves (OM b) G w w' o := by
  obtain ⟨k, un, ep, pg, sz, n, s, pe, L, ao, cap⟩ := a
  have CC := Lib.hid ocoded_any
  have HS := Lib.hid (boxed_start (om_thing b) h #[.int .i64 k, .int .i64 un, .int .i64 ep, .int .i64 pg, .int .i64 sz, .int .i64 n, .string s, .int .i64 pe, .slice ao L.length cap])
  unfold zeroAn at HS
  clear h
  show Calls _ _ #[.pointer (some ⟨b, 0, none⟩), .agg #[.int .i64 k, .int .i64 un, .int .i64 ep, .int .i64 pg, .int .i64 sz, .int .i64 n, .string s, .int .i64 pe, .slice ao L.length cap]] w _
  go_enter Try.func43, Try.ntmps43
  go_wp2_with (go_at_call 31; refine (CC.out _ _).mono ?_; rintro e w3 ⟨rfl, hb3⟩; have HT3 := Lib.hid (HS.out.below (om_thing b) hb3); clear hb3; obtain ⟨nl1, nl2⟩ := HT3.out.small; obtain ⟨⟨ny0, ny1, ny2, ny3, ny4, ny5, ny6, ny7⟩, nfy0, nfy1, nfy2, nfy3, nfy4, nfy5, nfy6, nfy7⟩ := eight_cells HT3.out.ans)
  exact ans_ret (x := anP 1 0 noT 0) (ao := none) (cap := 0) rfl (HT3.out.fin (om_thing b)).1 rfl rfl ⟨rfl, (HT3.out.fin (om_thing b)).2⟩
set_option maxHeartbeats 800000 in
theorem on_look_other (b : Nat) (G : Nat → Prop) (w : World) (o : Od) (a : Ak) (h : OM b G w o) (he : a.epoch ≠ o.epoch) :
    Calls Try.prog 42 #[ptrO b, askV a] w fun e w' => e = .returned (anW 40 0 noT 0) ∧ Leaves (OM b) G w w' o := by
  obtain ⟨k, un, ep, pg, sz, n, s, pe, L, ao, cap⟩ := a
  obtain ⟨oe, ot, ok⟩ := o
  simp only at *
  have de : (ep != oe) = true := bne_iff_ne.2 he
  clear he
  have CC := Lib.hid ocoded_any
  have HS := Lib.hid (boxed_start (om_thing b) h #[.int .i64 k, .int .i64 un, .int .i64 ep, .int .i64 pg, .int .i64 sz, .int .i64 n, .string s, .int .i64 pe, .slice ao L.length cap])
  unfold zeroAn at HS
  clear h
  show Calls _ _ #[.pointer (some ⟨b, 0, none⟩), .agg #[.int .i64 k, .int .i64 un, .int .i64 ep, .int .i64 pg, .int .i64 sz, .int .i64 n, .string s, .int .i64 pe, .slice ao L.length cap]] w _
  go_enter Try.func42, Try.ntmps42
  go_wp2_with fail
  generalize hW0 : ((w.alloc (.cells #[.int .i64 k, .int .i64 un, .int .i64 ep, .int .i64 pg, .int .i64 sz, .int .i64 n, .string s, .int .i64 pe, .slice ao L.length cap] 37)).alloc (.cells #[.int .i64 0, .int .i64 0, .string ⟨#[]⟩, .int .i64 0, .slice none 0 0, .int .i64 0, .int .i64 0, .int .i64 0] 34)) = W0 at *
  clear hW0
  obtain ⟨l1, l2⟩ := HS.out.small
  obtain ⟨H, hH, _⟩ := HS.out.use
  have x2 : W0.cell? ⟨w.heap.size, 2, none⟩ = some (.int .i64 ep) := cell_of HS.out.ask 2
  obtain ⟨t, _, hc⟩ := hH.cells
  obtain ⟨c0, c1, c2, _⟩ := three_cells hc
  have hb := hH.small
  clear hH hc
  go_quiet (fail)
  have HT2 := Lib.hid (HS.out.drewN (om_thing b) nq)
  generalize hW2 : World.drewN W0 nq = w2 at *
  clear hW2 x2 c0 c1 c2 hb l1 l2
  obtain ⟨l1, l2⟩ := HT2.out.small
  go_wp2_with (go_at_call 31; refine (CC.out _ _).mono ?_; rintro e w3 ⟨rfl, hb3⟩; have HT3 := Lib.hid (HT2.out.below (om_thing b) hb3); clear hb3; obtain ⟨nl1, nl2⟩ := HT3.out.small; obtain ⟨⟨ny0, ny1, ny2, ny3, ny4, ny5, ny6, ny7⟩, nfy0, nfy1, nfy2, nfy3, nfy4, nfy5, nfy6, nfy7⟩ := eight_cells HT3.out.ans)
  exact ans_ret (x := anP 40 0 noT 0) (ao := none) (cap := 0) rfl (HT3.out.fin (om_thing b)).1 rfl rfl ⟨rfl, (HT3.out.fin (om_thing b)).2⟩
set_option maxHeartbeats 800000 in
theorem on_look_dumb (b : Nat) (G : Nat → Prop) (w : World) (o : Od) (a : Ak) (h : OM b G w o) (he : a.epoch = o.epoch) (hn : o.knows = false) :
    Calls Try.prog 42 #[ptrO b, askV a] w fun e w' => e = .returned (anW 47 0 noT 0) ∧ Leaves (OM b) G w w' o := by
  obtain ⟨k, un, ep, pg, sz, n, s, pe, L, ao, cap⟩ := a
  obtain ⟨oe, ot, ok⟩ := o
  simp only at *
  have de : (ep != oe) = false := bne_eq_false_iff_eq.2 he
  clear he
  subst hn
  have CC := Lib.hid ocoded_any
  have HS := Lib.hid (boxed_start (om_thing b) h #[.int .i64 k, .int .i64 un, .int .i64 ep, .int .i64 pg, .int .i64 sz, .int .i64 n, .string s, .int .i64 pe, .slice ao L.length cap])
  unfold zeroAn at HS
  clear h
  show Calls _ _ #[.pointer (some ⟨b, 0, none⟩), .agg #[.int .i64 k, .int .i64 un, .int .i64 ep, .int .i64 pg, .int .i64 sz, .int .i64 n, .string s, .int .i64 pe, .slice ao L.length cap]] w _
  go_enter Try.func42, Try.ntmps42
  go_wp2_with fail
  generalize hW0 : ((w.alloc (.cells #[.int .i64 k, .int .i64 un, .int .i64 ep, .int .i64 pg, .int .i64 sz, .int .i64 n, .string s, .int .i64 pe, .slice ao L.length cap] 37)).alloc (.cells #[.int .i64 0, .int .i64 0, .string ⟨#[]⟩, .int .i64 0, .slice none 0 0, .int .i64 0, .int .i64 0, .int .i64 0] 34)) = W0 at *
  clear hW0
  obtain ⟨l1, l2⟩ := HS.out.small
  obtain ⟨H, hH, _⟩ := HS.out.use
  have x2 : W0.cell? ⟨w.heap.size, 2, none⟩ = some (.int .i64 ep) := cell_of HS.out.ask 2
  obtain ⟨t, _, hc⟩ := hH.cells
  obtain ⟨c0, c1, c2, _⟩ := three_cells hc
  have hb := hH.small
  clear hH hc
  go_quiet (fail)
  have HT2 := Lib.hid (HS.out.drewN (om_thing b) nq)
  generalize hW2 : World.drewN W0 nq = w2 at *
  clear hW2 x2 c0 c1 c2 hb l1 l2
  obtain ⟨l1, l2⟩ := HT2.out.small
  obtain ⟨H, hH, _⟩ := HT2.out.use
  obtain ⟨t2, _, hc⟩ := hH.cells
  obtain ⟨c0, c1, c2, _⟩ := three_cells hc
  have hb := hH.small
  clear hH hc
  go_wp2_with (go_at_call 31; refine (CC.out _ _).mono ?_; rintro e w3 ⟨rfl, hb3⟩; have HT3 := Lib.hid (HT2.out.below (om_thing b) hb3); clear hb3; obtain ⟨nl1, nl2⟩ := HT3.out.small; obtain ⟨⟨ny0, ny1, ny2, ny3, ny4, ny5, ny6, ny7⟩, nfy0, nfy1, nfy2, nfy3, nfy4, nfy5, nfy6, nfy7⟩ := eight_cells HT3.out.ans)
  exact ans_ret (x := anP 47 0 noT 0) (ao := none) (cap := 0) rfl (HT3.out.fin (om_thing b)).1 rfl rfl ⟨rfl, (HT3.out.fin (om_thing b)).2⟩
set_option maxHeartbeats 800000 in
theorem on_look (b : Nat) (G : Nat → Prop) (w : World) (o : Od) (a : Ak) (h : OM b G w o) (he : a.epoch = o.epoch) (hn : o.knows = true) :
    Calls Try.prog 42 #[ptrO b, askV a] w fun e w' => e = .returned (anW 0 o.tail noT 0) ∧ Leaves (OM b) G w w' o := by
  obtain ⟨k, un, ep, pg, sz, n, s, pe, L, ao, cap⟩ := a
  obtain ⟨oe, ot, ok⟩ := o
  simp only at *
  have de : (ep != oe) = false := bne_eq_false_iff_eq.2 he
  clear he
  subst hn
  have HS := Lib.hid (boxed_start (om_thing b) h #[.int .i64 k, .int .i64 un, .int .i64 ep, .int .i64 pg, .int .i64 sz, .int .i64 n, .string s, .int .i64 pe, .slice ao L.length cap])
  unfold zeroAn at HS
  clear h
  show Calls _ _ #[.pointer (some ⟨b, 0, none⟩), .agg #[.int .i64 k, .int .i64 un, .int .i64 ep, .int .i64 pg, .int .i64 sz, .int .i64 n, .string s, .int .i64 pe, .slice ao L.length cap]] w _
  go_enter Try.func42, Try.ntmps42
  go_wp2_with fail
  generalize hW0 : ((w.alloc (.cells #[.int .i64 k, .int .i64 un, .int .i64 ep, .int .i64 pg, .int .i64 sz, .int .i64 n, .string s, .int .i64 pe, .slice ao L.length cap] 37)).alloc (.cells #[.int .i64 0, .int .i64 0, .string ⟨#[]⟩, .int .i64 0, .slice none 0 0, .int .i64 0, .int .i64 0, .int .i64 0] 34)) = W0 at *
  clear hW0
  obtain ⟨l1, l2⟩ := HS.out.small
  obtain ⟨H, hH, _⟩ := HS.out.use
  have x2 : W0.cell? ⟨w.heap.size, 2, none⟩ = some (.int .i64 ep) := cell_of HS.out.ask 2
  obtain ⟨t, _, hc⟩ := hH.cells
  obtain ⟨c0, c1, c2, _⟩ := three_cells hc
  have hb := hH.small
  clear hH hc
  go_quiet (fail)
  have HT2 := Lib.hid (HS.out.drewN (om_thing b) nq)
  generalize hW2 : World.drewN W0 nq = w2 at *
  clear hW2 x2 c0 c1 c2 hb l1 l2
  obtain ⟨l1, l2⟩ := HT2.out.small
  obtain ⟨H, hH, _⟩ := HT2.out.use
  obtain ⟨t2, ht2, hc⟩ := hH.cells
  have et : t2 = ot := ht2 rfl
  clear ht2
  subst et
  obtain ⟨c0, c1, c2, _⟩ := three_cells hc
  have hb := hH.small
  clear hH hc
  obtain ⟨⟨ny0, ny1, ny2, ny3, ny4, ny5, ny6, ny7⟩, nfy0, nfy1, nfy2, nfy3, nfy4, nfy5, nfy6, nfy7⟩ := eight_cells HT2.out.ans
  go_wp2_with fail
  exact ans_ret (x := anP 0 t2 noT 0) (ao := none) (cap := 0) rfl (HT2.out.fin (om_thing b)).1 rfl rfl ⟨rfl, (HT2.out.fin (om_thing b)).2⟩
end Go.Proofs.Ytphigibhgldnpaa
