/- What the program's unit answers any question, and all that the laws of units ask of the program. Conditions: it and the question lie where the call was told; the question's data are not too long. -/
import Derived.Test.YtphigibhgldnpaaG17a
import Derived.Test.YtphigibhgldnpaaG17b
import Derived.Laws.EntriesVeiled
set_option linter.unusedVariables false
namespace Go.Proofs.Ytphigibhgldnpaa
set_option linter.unusedVariables false
open Go.RowKit
set_option maxRecDepth 20000
def fnV (f : FuncId) : Value := .func (.func f) #[] #[]
theorem deed_none (k : Int) (w : World) (hk : k < 1 ∨ 5 < k) : Calls Try.prog 86 #[.int .i64 k] w fun e w' => e = .returned .nilFunc ∧ Below w.heap.size w w' := by
  by_cases h0 : k = 0
  · subst h0
    clear hk
    go_enter Try.func86, Try.ntmps86
    go_wp2
    go_ret
    exact ⟨rfl, (Below.refl _ _).alloc (Nat.le_refl _) _⟩
  by_cases h1 : k < 0
  · clear hk h0
    go_enter Try.func86, Try.ntmps86
    go_wp2
    go_ret
    exact ⟨rfl, (Below.refl _ _).alloc (Nat.le_refl _) _⟩
  have h2 : 6 ≤ k := by omega
  have h3 : 0 ≤ k := by omega
  clear hk h0 h1
  go_enter Try.func86, Try.ntmps86
  go_wp2
  go_ret
  exact ⟨rfl, (Below.refl _ _).alloc (Nat.le_refl _) _⟩
theorem deed_1 (w : World) : Calls Try.prog 86 #[.int .i64 1] w fun e w' => e = .returned (fnV 87) ∧ Below w.heap.size w w' := by
  go_enter Try.func86, Try.ntmps86
  go_wp2
  go_ret
  exact ⟨rfl, (Below.refl _ _).alloc (Nat.le_refl _) _⟩
theorem deed_2 (w : World) : Calls Try.prog 86 #[.int .i64 2] w fun e w' => e = .returned (fnV 88) ∧ Below w.heap.size w w' := by
  go_enter Try.func86, Try.ntmps86
  go_wp2
  go_ret
  exact ⟨rfl, (Below.refl _ _).alloc (Nat.le_refl _) _⟩
theorem deed_3 (w : World) : Calls Try.prog 86 #[.int .i64 3] w fun e w' => e = .returned (fnV 89) ∧ Below w.heap.size w w' := by
  go_enter Try.func86, Try.ntmps86
  go_wp2
  go_ret
  exact ⟨rfl, (Below.refl _ _).alloc (Nat.le_refl _) _⟩
theorem deed_4 (w : World) : Calls Try.prog 86 #[.int .i64 4] w fun e w' => e = .returned (fnV 90) ∧ Below w.heap.size w w' := by
  go_enter Try.func86, Try.ntmps86
  go_wp2
  go_ret
  exact ⟨rfl, (Below.refl _ _).alloc (Nat.le_refl _) _⟩
theorem deed_5 (w : World) : Calls Try.prog 86 #[.int .i64 5] w fun e w' => e = .returned (fnV 91) ∧ Below w.heap.size w w' := by
  go_enter Try.func86, Try.ntmps86
  go_wp2
  go_ret
  exact ⟨rfl, (Below.refl _ _).alloc (Nat.le_refl _) _⟩
theorem nil_nil (w : World) : (binOp .eql 141 .nilFunc .nilFunc).run Try.prog w = .ok (.bool true) w := rfl
set_option maxHeartbeats 800000 in
theorem answer_none (b q : Nat) (G : Nat → Prop) (w : World) (u : Us) (a : Ak) (h : UM b q G w u) (hk : a.kind < 1 ∨ 5 < a.kind) :
    Calls Try.prog 85 #[ptrV b, askV a] w fun e w' => e = .returned (anV 1 0 noS 0) ∧ Leaves (UM b q) G w w' u := by
  obtain ⟨k, un, ep, pg, sz, n, s, pe, L, ao, cap⟩ := a
  obtain ⟨p, ue, dn⟩ := u
  simp only at *
  have CC := Lib.hid coded_ag
  have HS := Lib.hid (boxed_start (um_thing b q) h #[.int .i64 k, .int .i64 un, .int .i64 ep, .int .i64 pg, .int .i64 sz, .int .i64 n, .string s, .int .i64 pe, .slice ao L.length cap])
  unfold zeroAn at HS
  have hbw := h.small
  clear h
  show Calls _ _ #[.pointer (some ⟨b, 0, none⟩), .agg #[.int .i64 k, .int .i64 un, .int .i64 ep, .int .i64 pg, .int .i64 sz, .int .i64 n, .string s, .int .i64 pe, .slice ao L.length cap]] w _
  have HD := Lib.hid (fun w => deed_none k w hk)
  have hn := nil_nil
  clear hk
  go_enter Try.func85, Try.ntmps85
  go_wp2_with (first | (go_at_call 86; refine (HD.out _).mono ?_; rintro e w1 ⟨rfl, hb1⟩; have HT2 := Lib.hid (HS.out.below (um_thing b q) hb1); clear hb1) | (go_at_call 84; refine (CC.out _ _).mono ?_; rintro e w3 ⟨rfl, hb3⟩; have HT3 := Lib.hid (HT2.out.below (um_thing b q) hb3); clear hb3; obtain ⟨nl1, nl2⟩ := HT3.out.small; obtain ⟨⟨ny0, ny1, ny2, ny3, ny4, ny5, ny6, ny7⟩, nfy0, nfy1, nfy2, nfy3, nfy4, nfy5, nfy6, nfy7⟩ := eight_cells HT3.out.ans))
  exact ans_ret (x := anP (1) (0) noS 0) (ao := none) (cap := 0) rfl (HT3.out.fin (um_thing b q)).1 rfl rfl ⟨rfl, (HT3.out.fin (um_thing b q)).2⟩
set_option maxHeartbeats 800000 in
theorem answer_sealed (b q : Nat) (G : Nat → Prop) (w : World) (u : Us) (a : Ak) (f : FuncId) (h : UM b q G w u) (hd : ∀ w, Calls Try.prog 86 #[.int .i64 a.kind] w fun e w' => e = .returned (fnV f) ∧ Below w.heap.size w w') (he : a.epoch < u.epoch) :
    Calls Try.prog 85 #[ptrV b, askV a] w fun e w' => e = .returned (anV 40 0 noS 0) ∧ Leaves (UM b q) G w w' u := by
  obtain ⟨k, un, ep, pg, sz, n, s, pe, L, ao, cap⟩ := a
  obtain ⟨p, ue, dn⟩ := u
  simp only at *
  have CC := Lib.hid coded_ag
  have HS := Lib.hid (boxed_start (um_thing b q) h #[.int .i64 k, .int .i64 un, .int .i64 ep, .int .i64 pg, .int .i64 sz, .int .i64 n, .string s, .int .i64 pe, .slice ao L.length cap])
  unfold zeroAn at HS
  have hbw := h.small
  clear h
  show Calls _ _ #[.pointer (some ⟨b, 0, none⟩), .agg #[.int .i64 k, .int .i64 un, .int .i64 ep, .int .i64 pg, .int .i64 sz, .int .i64 n, .string s, .int .i64 pe, .slice ao L.length cap]] w _
  have HD := Lib.hid hd
  unfold fnV at HD
  clear hd
  have hn : ∀ w : World, (binOp .eql 141 (.func (.func f) #[] #[]) .nilFunc).run Try.prog w = .ok (.bool false) w := fun _ => rfl
  go_enter Try.func85, Try.ntmps85
  go_wp2_with (go_at_call 86; refine (HD.out _).mono ?_; rintro e w1 ⟨rfl, hb1⟩; have HT1 := Lib.hid (HS.out.below (um_thing b q) hb1); clear hb1)
  obtain ⟨l1, l2⟩ := HT1.out.small
  obtain ⟨H, hH, _⟩ := HT1.out.use
  have x2 : w1.cell? ⟨w.heap.size, 2, none⟩ = some (.int .i64 ep) := cell_of HT1.out.ask 2
  obtain ⟨c0, c1, c2, _⟩ := three_cells hH.cells
  have hb := hH.small
  clear hH
  go_quiet (fail)
  have HT2 := Lib.hid (HT1.out.drewN (um_thing b q) nq)
  generalize hW2 : World.drewN w1 nq = w2 at *
  clear hW2 x2 c0 c1 c2 hb l1 l2
  obtain ⟨l1, l2⟩ := HT2.out.small
  go_wp2_with (go_at_call 84; refine (CC.out _ _).mono ?_; rintro e w3 ⟨rfl, hb3⟩; have HT3 := Lib.hid (HT2.out.below (um_thing b q) hb3); clear hb3; obtain ⟨nl1, nl2⟩ := HT3.out.small; obtain ⟨⟨ny0, ny1, ny2, ny3, ny4, ny5, ny6, ny7⟩, nfy0, nfy1, nfy2, nfy3, nfy4, nfy5, nfy6, nfy7⟩ := eight_cells HT3.out.ans)
  exact ans_ret (x := anP (40) (0) noS 0) (ao := none) (cap := 0) rfl (HT3.out.fin (um_thing b q)).1 rfl rfl ⟨rfl, (HT3.out.fin (um_thing b q)).2⟩
end Go.Proofs.Ytphigibhgldnpaa
