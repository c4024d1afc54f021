/- What the program's unit answers any question, and all that the laws of units ask of the program. Conditions: it and the question lie where the call was told; the question's data are not too long. What the document's own layout answers, asked to mark an image, or asked what it does not know. Conditions: it and the question lie where the call was told. (Written by gen/genlayf.py.) What the program's layout tells of the projection that counts, what its calls of nil return, and what it makes of an image. Conditions: it lies where the call was told. What the program's own Chain returns. Conditions: the projection lies where the call was told, and is not too large. -/
import Derived.Test.YtimjlfkdbkafeaaGreatG17b
import Derived.Test.YtimjlfkdbkafeaaGreatG17a
import Derived.Laws.EntriesVeiled
import Derived.Test.YtimjlfkdbkafeaaGreatG11b
import Derived.Lib.SliceRun
set_option linter.unusedVariables false
namespace Go.Proofs.YtimjlfkdbkafeaaGreat
set_option linter.unusedVariables false
open Go.RowKit
set_option maxRecDepth 20000
def fnV (f : FuncId) : Value := .func (.func f) #[] #[]
theorem deed_none (k : Int) (w : World) (hk : k < 1 ∨ 5 < k) : Calls Tryz.prog 138 #[.int .i64 k] w fun e w' => e = .returned .nilFunc ∧ Below w.heap.size w w' := by
  by_cases h0 : k = 0
  · subst h0
    clear hk
    go_enter Tryz.func138, Tryz.ntmps138
    go_wp2
    go_ret
    exact ⟨rfl, (Below.refl _ _).alloc (Nat.le_refl _) _⟩
  by_cases h1 : k < 0
  · clear hk h0
    go_enter Tryz.func138, Tryz.ntmps138
    go_wp2
    go_ret
    exact ⟨rfl, (Below.refl _ _).alloc (Nat.le_refl _) _⟩
  have h2 : 6 ≤ k := by omega
  have h3 : 0 ≤ k := by omega
  clear hk h0 h1
  go_enter Tryz.func138, Tryz.ntmps138
  go_wp2
  go_ret
  exact ⟨rfl, (Below.refl _ _).alloc (Nat.le_refl _) _⟩
theorem deed_1 (w : World) : Calls Tryz.prog 138 #[.int .i64 1] w fun e w' => e = .returned (fnV 139) ∧ Below w.heap.size w w' := by
  go_enter Tryz.func138, Tryz.ntmps138
  go_wp2
  go_ret
  exact ⟨rfl, (Below.refl _ _).alloc (Nat.le_refl _) _⟩
theorem deed_2 (w : World) : Calls Tryz.prog 138 #[.int .i64 2] w fun e w' => e = .returned (fnV 140) ∧ Below w.heap.size w w' := by
  go_enter Tryz.func138, Tryz.ntmps138
  go_wp2
  go_ret
  exact ⟨rfl, (Below.refl _ _).alloc (Nat.le_refl _) _⟩
theorem deed_3 (w : World) : Calls Tryz.prog 138 #[.int .i64 3] w fun e w' => e = .returned (fnV 141) ∧ Below w.heap.size w w' := by
  go_enter Tryz.func138, Tryz.ntmps138
  go_wp2
  go_ret
  exact ⟨rfl, (Below.refl _ _).alloc (Nat.le_refl _) _⟩
theorem deed_4 (w : World) : Calls Tryz.prog 138 #[.int .i64 4] w fun e w' => e = .returned (fnV 142) ∧ Below w.heap.size w w' := by
  go_enter Tryz.func138, Tryz.ntmps138
  go_wp2
  go_ret
  exact ⟨rfl, (Below.refl _ _).alloc (Nat.le_refl _) _⟩
theorem deed_5 (w : World) : Calls Tryz.prog 138 #[.int .i64 5] w fun e w' => e = .returned (fnV 143) ∧ Below w.heap.size w w' := by
  go_enter Tryz.func138, Tryz.ntmps138
  go_wp2
  go_ret
  exact ⟨rfl, (Below.refl _ _).alloc (Nat.le_refl _) _⟩
theorem nil_nil (w : World) : (binOp .eql 223 .nilFunc .nilFunc).run Tryz.prog w = .ok (.bool true) w := rfl
set_option maxHeartbeats 800000 in
theorem answer_none (b q : Nat) (G : Nat → Prop) (w : World) (u : Us) (a : Ak) (h : UM b q G w u) (hk : a.kind < 1 ∨ 5 < a.kind) :
    Calls Tryz.prog 137 #[ptrV b, askV a] w fun e w' => e = .returned (anV 1 0 noS 0) ∧ Leaves (UM b q) G w w' u := by
  obtain ⟨k, un, ep, pg, sz, n, s, pe, L, ao, cap⟩ := a
  obtain ⟨p, ue, dn⟩ := u
  simp only at *
  have CC := Lib.hid coded_ag
  have HS := Lib.hid (boxed_start (um_thing b q) h #[.int .i64 k, .int .i64 un, .int .i64 ep, .int .i64 pg, .int .i64 sz, .int .i64 n, .string s, .int .i64 pe, .slice ao L.length cap])
  unfold zeroAn at HS
  have hbw := h.small
  clear h
  show Calls _ _ #[.pointer (some ⟨b, 0, none⟩), .agg #[.int .i64 k, .int .i64 un, .int .i64 ep, .int .i64 pg, .int .i64 sz, .int .i64 n, .string s, .int .i64 pe, .slice ao L.length cap]] w _
  have HD := Lib.hid (fun w => deed_none k w hk)
  have hn := nil_nil
  clear hk
  go_enter Tryz.func137, Tryz.ntmps137
  go_wp2_with (first | (go_at_call 138; refine (HD.out _).mono ?_; rintro e w1 ⟨rfl, hb1⟩; have HT2 := Lib.hid (HS.out.below (um_thing b q) hb1); clear hb1) | (go_at_call 136; refine (CC.out _ _).mono ?_; rintro e w3 ⟨rfl, hb3⟩; have HT3 := Lib.hid (HT2.out.below (um_thing b q) hb3); clear hb3; obtain ⟨nl1, nl2⟩ := HT3.out.small; obtain ⟨⟨ny0, ny1, ny2, ny3, ny4, ny5, ny6, ny7⟩, nfy0, nfy1, nfy2, nfy3, nfy4, nfy5, nfy6, nfy7⟩ := eight_cells HT3.out.ans))
  exact ans_ret (x := anP (1) (0) noS 0) (ao := none) (cap := 0) rfl (HT3.out.fin (um_thing b q)).1 rfl rfl ⟨rfl, (HT3.out.fin (um_thing b q)).2⟩
set_option maxHeartbeats 800000 in
theorem answer_sealed (b q : Nat) (G : Nat → Prop) (w : World) (u : Us) (a : Ak) (f : FuncId) (h : UM b q G w u) (hd : ∀ w, Calls Tryz.prog 138 #[.int .i64 a.kind] w fun e w' => e = .returned (fnV f) ∧ Below w.heap.size w w') (he : a.epoch < u.epoch) :
    Calls Tryz.prog 137 #[ptrV b, askV a] w fun e w' => e = .returned (anV 40 0 noS 0) ∧ Leaves (UM b q) G w w' u := by
  obtain ⟨k, un, ep, pg, sz, n, s, pe, L, ao, cap⟩ := a
  obtain ⟨p, ue, dn⟩ := u
  simp only at *
  have CC := Lib.hid coded_ag
  have HS := Lib.hid (boxed_start (um_thing b q) h #[.int .i64 k, .int .i64 un, .int .i64 ep, .int .i64 pg, .int .i64 sz, .int .i64 n, .string s, .int .i64 pe, .slice ao L.length cap])
  unfold zeroAn at HS
  have hbw := h.small
  clear h
  show Calls _ _ #[.pointer (some ⟨b, 0, none⟩), .agg #[.int .i64 k, .int .i64 un, .int .i64 ep, .int .i64 pg, .int .i64 sz, .int .i64 n, .string s, .int .i64 pe, .slice ao L.length cap]] w _
  have HD := Lib.hid hd
  unfold fnV at HD
  clear hd
  have hn : ∀ w : World, (binOp .eql 223 (.func (.func f) #[] #[]) .nilFunc).run Tryz.prog w = .ok (.bool false) w := fun _ => rfl
  go_enter Tryz.func137, Tryz.ntmps137
  go_wp2_with (go_at_call 138; refine (HD.out _).mono ?_; rintro e w1 ⟨rfl, hb1⟩; have HT1 := Lib.hid (HS.out.below (um_thing b q) hb1); clear hb1)
  obtain ⟨l1, l2⟩ := HT1.out.small
  obtain ⟨H, hH, _⟩ := HT1.out.use
  have x2 : w1.cell? ⟨w.heap.size, 2, none⟩ = some (.int .i64 ep) := cell_of HT1.out.ask 2
  obtain ⟨c0, c1, c2, _⟩ := three_cells hH.cells
  have hb := hH.small
  clear hH
  go_quiet (fail)
  have HT2 := Lib.hid (HT1.out.drewN (um_thing b q) nq)
  generalize hW2 : World.drewN w1 nq = w2 at *
  clear hW2 x2 c0 c1 c2 hb l1 l2
  obtain ⟨l1, l2⟩ := HT2.out.small
  go_wp2_with (go_at_call 136; refine (CC.out _ _).mono ?_; rintro e w3 ⟨rfl, hb3⟩; have HT3 := Lib.hid (HT2.out.below (um_thing b q) hb3); clear hb3; obtain ⟨nl1, nl2⟩ := HT3.out.small; obtain ⟨⟨ny0, ny1, ny2, ny3, ny4, ny5, ny6, ny7⟩, nfy0, nfy1, nfy2, nfy3, nfy4, nfy5, nfy6, nfy7⟩ := eight_cells HT3.out.ans)
  exact ans_ret (x := anP (40) (0) noS 0) (ao := none) (cap := 0) rfl (HT3.out.fin (um_thing b q)).1 rfl rfl ⟨rfl, (HT3.out.fin (um_thing b q)).2⟩
end Go.Proofs.YtimjlfkdbkafeaaGreat
namespace Go.Proofs.YtimjlfkdbkafeaaGreat
set_option linter.unusedVariables false
open Go.RowKit
set_option maxRecDepth 20000
set_option maxHeartbeats 8000000 in
theorem ldo_other (r : Nat) (G : Nat → Prop) (w : World) (y : Ly) (a : Ak) (h : RL r G w y) (h9 : a.kind ≠ 9) (h10 : a.kind ≠ 10) (h11 : a.kind ≠ 11) :
    Calls Tryz.prog 120 #[ptrL r, askV a] w fun e w' => Tells (RL r) G w (y.done a) (y.ans a) e w' := by
  have ha : y.ans a = anP 1 0 noL 0 := by unfold Ly.ans; rw [if_neg h9, if_neg h10, if_neg h11]
  have hd : y.done a = y := by unfold Ly.done; rw [if_neg h10, if_neg (fun h => h11 h.1)]
  rw [ha, hd]
  clear ha hd
  obtain ⟨k, un, ep, pg, sz, n, s, pe, L, ao, cap⟩ := a
  simp only at *
  have HS := Lib.hid (show LdW w ((w.alloc (.cells #[.int .i64 k, .int .i64 un, .int .i64 ep, .int .i64 pg, .int .i64 sz, .int .i64 n, .string s, .int .i64 pe, .slice ao L.length cap] 35)).alloc (.cells #[.int .i64 0, .int .i64 0, .string ⟨#[]⟩, .int .i64 0, .slice none 0 0, .int .i64 0, .int .i64 0, .int .i64 0] 40)) r G G y ⟨k, un, ep, pg, sz, n, s, pe, L, ao, cap⟩ zeroA none from ld_start h ⟨k, un, ep, pg, sz, n, s, pe, L, ao, cap⟩)
  have H1 := Lib.hid (show LdW w ((w.alloc (.cells #[.int .i64 k, .int .i64 un, .int .i64 ep, .int .i64 pg, .int .i64 sz, .int .i64 n, .string s, .int .i64 pe, .slice ao L.length cap] 35)).alloc (.cells #[.int .i64 1, .int .i64 0, .string ⟨#[]⟩, .int .i64 0, .slice none 0 0, .int .i64 0, .int .i64 0, .int .i64 0] 40)) r G G y ⟨k, un, ep, pg, sz, n, s, pe, L, ao, cap⟩ #[.int .i64 1, .int .i64 0, .string ⟨#[]⟩, .int .i64 0, .slice none 0 0, .int .i64 0, .int .i64 0, .int .i64 0] none from ld_startY h ⟨k, un, ep, pg, sz, n, s, pe, L, ao, cap⟩ _)
  have d9 : (k == 9) = false := beq_eq_false_iff_ne.2 h9
  have d10 : (k == 10) = false := beq_eq_false_iff_ne.2 h10
  have d11 : (k == 11) = false := beq_eq_false_iff_ne.2 h11
  clear h h9 h10 h11
  show Calls _ _ #[.pointer (some ⟨r, 0, none⟩), .agg #[.int .i64 k, .int .i64 un, .int .i64 ep, .int .i64 pg, .int .i64 sz, .int .i64 n, .string s, .int .i64 pe, .slice ao L.length cap]] w _
  go_enter Tryz.func120, Tryz.ntmps120
  go_wp2_with fail
  exact ans_ret (x := anP 1 0 noL 0) (ao := none) (cap := 0) rfl H1.out.zero rfl rfl (H1.out.plain rfl)
set_option maxHeartbeats 8000000 in
theorem ldo_bad (r : Nat) (G : Nat → Prop) (w : World) (y : Ly) (a : Ak) (h : RL r G w y) (hk : a.kind = 11) (hb : badM a) :
    Calls Tryz.prog 120 #[ptrL r, askV a] w fun e w' => Tells (RL r) G w (y.done a) (y.ans a) e w' := by
  have ha : y.ans a = anP 1 0 noL 0 := by unfold Ly.ans; rw [if_neg (by omega), if_neg (by omega), if_pos hk, if_pos hb]
  have hd : y.done a = y := by unfold Ly.done; rw [if_neg (by omega), if_neg (fun h => h.2.1 hb)]
  rw [ha, hd]
  clear ha hd
  obtain ⟨k, un, ep, pg, sz, n, s, pe, L, ao, cap⟩ := a
  simp only at *
  have HS := Lib.hid (show LdW w ((w.alloc (.cells #[.int .i64 k, .int .i64 un, .int .i64 ep, .int .i64 pg, .int .i64 sz, .int .i64 n, .string s, .int .i64 pe, .slice ao L.length cap] 35)).alloc (.cells #[.int .i64 0, .int .i64 0, .string ⟨#[]⟩, .int .i64 0, .slice none 0 0, .int .i64 0, .int .i64 0, .int .i64 0] 40)) r G G y ⟨k, un, ep, pg, sz, n, s, pe, L, ao, cap⟩ zeroA none from ld_start h ⟨k, un, ep, pg, sz, n, s, pe, L, ao, cap⟩)
  have d11 : (k == 11) = true := by rw [hk]; rfl
  have d9 : (k == 9) = false := by rw [hk]; rfl
  have d10 : (k == 10) = false := by rw [hk]; rfl
  unfold badM at hb
  simp only at hb
  have H1 := Lib.hid (show LdW w ((w.alloc (.cells #[.int .i64 k, .int .i64 un, .int .i64 ep, .int .i64 pg, .int .i64 sz, .int .i64 n, .string s, .int .i64 pe, .slice ao L.length cap] 35)).alloc (.cells #[.int .i64 1, .int .i64 0, .string ⟨#[]⟩, .int .i64 0, .slice none 0 0, .int .i64 0, .int .i64 0, .int .i64 0] 40)) r G G y ⟨k, un, ep, pg, sz, n, s, pe, L, ao, cap⟩ #[.int .i64 1, .int .i64 0, .string ⟨#[]⟩, .int .i64 0, .slice none 0 0, .int .i64 0, .int .i64 0, .int .i64 0] none from ld_startY h ⟨k, un, ep, pg, sz, n, s, pe, L, ao, cap⟩ _)
  by_cases g0 : pg < 0
  · clear h hk hb
    show Calls _ _ #[.pointer (some ⟨r, 0, none⟩), .agg #[.int .i64 k, .int .i64 un, .int .i64 ep, .int .i64 pg, .int .i64 sz, .int .i64 n, .string s, .int .i64 pe, .slice ao L.length cap]] w _
    go_enter Tryz.func120, Tryz.ntmps120
    go_wp2_with fail
    exact ans_ret (x := anP 1 0 noL 0) (ao := none) (cap := 0) rfl H1.out.zero rfl rfl (H1.out.plain rfl)
  have g0 : 0 ≤ pg := by omega
  by_cases g1 : 16384 ≤ pg
  · clear h hk hb
    show Calls _ _ #[.pointer (some ⟨r, 0, none⟩), .agg #[.int .i64 k, .int .i64 un, .int .i64 ep, .int .i64 pg, .int .i64 sz, .int .i64 n, .string s, .int .i64 pe, .slice ao L.length cap]] w _
    go_enter Tryz.func120, Tryz.ntmps120
    go_wp2_with fail
    exact ans_ret (x := anP 1 0 noL 0) (ao := none) (cap := 0) rfl H1.out.zero rfl rfl (H1.out.plain rfl)
  have g1 : pg < 16384 := by omega
  by_cases g2 : sz < 1
  · clear h hk hb
    show Calls _ _ #[.pointer (some ⟨r, 0, none⟩), .agg #[.int .i64 k, .int .i64 un, .int .i64 ep, .int .i64 pg, .int .i64 sz, .int .i64 n, .string s, .int .i64 pe, .slice ao L.length cap]] w _
    go_enter Tryz.func120, Tryz.ntmps120
    go_wp2_with fail
    exact ans_ret (x := anP 1 0 noL 0) (ao := none) (cap := 0) rfl H1.out.zero rfl rfl (H1.out.plain rfl)
  have g2 : 1 ≤ sz := by omega
  by_cases g3 : 65536 < sz
  · clear h hk hb
    show Calls _ _ #[.pointer (some ⟨r, 0, none⟩), .agg #[.int .i64 k, .int .i64 un, .int .i64 ep, .int .i64 pg, .int .i64 sz, .int .i64 n, .string s, .int .i64 pe, .slice ao L.length cap]] w _
    go_enter Tryz.func120, Tryz.ntmps120
    go_wp2_with fail
    exact ans_ret (x := anP 1 0 noL 0) (ao := none) (cap := 0) rfl H1.out.zero rfl rfl (H1.out.plain rfl)
  have g3 : sz ≤ 65536 := by omega
  by_cases g4 : n < 0
  · clear h hk hb
    show Calls _ _ #[.pointer (some ⟨r, 0, none⟩), .agg #[.int .i64 k, .int .i64 un, .int .i64 ep, .int .i64 pg, .int .i64 sz, .int .i64 n, .string s, .int .i64 pe, .slice ao L.length cap]] w _
    go_enter Tryz.func120, Tryz.ntmps120
    go_wp2_with fail
    exact ans_ret (x := anP 1 0 noL 0) (ao := none) (cap := 0) rfl H1.out.zero rfl rfl (H1.out.plain rfl)
  have g4 : 0 ≤ n := by omega
  by_cases g5 : 16384 < n
  · clear h hk hb
    show Calls _ _ #[.pointer (some ⟨r, 0, none⟩), .agg #[.int .i64 k, .int .i64 un, .int .i64 ep, .int .i64 pg, .int .i64 sz, .int .i64 n, .string s, .int .i64 pe, .slice ao L.length cap]] w _
    go_enter Tryz.func120, Tryz.ntmps120
    go_wp2_with fail
    exact ans_ret (x := anP 1 0 noL 0) (ao := none) (cap := 0) rfl H1.out.zero rfl rfl (H1.out.plain rfl)
  have g5 : n ≤ 16384 := by omega
  exfalso
  rcases hb with h | h | h | h | h | h <;> omega
end Go.Proofs.YtimjlfkdbkafeaaGreat
namespace Go.Proofs.YtimjlfkdbkafeaaGreat
set_option linter.unusedVariables false
open Go.RowKit Go.Maps
set_option maxRecDepth 20000
theorem lp_now (b : Nat) (G : Nat → Prop) (w : World) (y : Ly) (h : LB b G w y) (hl : y.L.length ≤ 255 ∧ ∀ c ∈ y.L, c.length ≤ 255) :
    Calls Tryz.prog 151 #[ptrL b] w fun e w' => ∃ v, e = .returned (.agg #[.int .i64 y.ep, v]) ∧ OC w' w.heap.size v y.L ∧ Below w.heap.size w w' := by
  obtain ⟨ao, cap, mb, h1, h2, h3, h4, _⟩ := h.open
  obtain ⟨⟨c0, c1, c2, c3, c4, c5⟩, _⟩ := six_cells h1
  have hb := lt_of_block h1
  have HB := Lib.hid (below_new w (.cells #[.int .i64 0, .slice none 0 0] 27))
  have CC := Lib.hid (copyO_any y.ep ao cap y.L _ (h2.below HB.out) hl)
  clear h h1 h2 h3 hl c2 c3 c4 c5
  unfold ptrL
  go_enter Tryz.func151, Tryz.ntmps151
  go_wp2_with (go_at_call 32; refine CC.out.mono ?_; rintro e w1 ⟨v, rfl, hO, hb1⟩; obtain ⟨vo, vc, hv, _⟩ := hO.form; subst hv; have HO := Lib.hid hO; have HR := Lib.hid (below_heap hb1 (heap_alloc_new w (.cells #[.int .i64 0, .slice none 0 0] 27))); obtain ⟨t0, t1, g0, g1⟩ := two_cells HR.out; have HB1 := Lib.hid (HB.out.trans (hb1.mono HB.out.size)); have hsz : w.heap.size < w1.heap.size := lt_of_block HR.out; clear hO hb1)
  have hK := ((Kept.refl (fun k => w.heap.size + 1 ≤ k) w1).setCell (p := ⟨w.heap.size, 0, none⟩) (by simp) (.int .i64 y.ep)).setCell (p := ⟨w.heap.size, 1, none⟩) (by simp) (.slice vo y.L.length vc)
  exact proj_ret rfl (two_set1 (two_set0 HR.out (.int .i64 y.ep)) (.slice vo y.L.length vc)) rfl rfl ⟨_, rfl, (HO.out.keep hK (fun k h _ => by simpa using h)).lower (by simp), (HB1.out.setCell (by simp) _).setCell (by simp) _⟩
theorem lp_nil_now (w : World) : Calls Tryz.prog 151 #[.pointer none] w fun e w' => ∃ ep v, e = .returned (.agg #[.int .i64 ep, v]) ∧ OC w' w.heap.size v [] ∧ Below w.heap.size w w' := by
  have HR := heap_alloc_new w (.cells #[.int .i64 0, .slice none 0 0] 27)
  go_enter Tryz.func151, Tryz.ntmps151
  go_wp2_with fail
  exact proj_ret rfl (heap_alloc_new w (.cells #[.int .i64 0, .slice none 0 0] 27)) rfl rfl ⟨_, _, rfl, OC.nil _ _, below_new _ _⟩
/-- the answer with which a call says no -/
def refused : Value := .agg #[.int .i64 1, .int .i64 0, .string ⟨#[]⟩, .int .i64 0, .slice none 0 0, .int .i64 0, .int .i64 0, .int .i64 0]
theorem lp_nil_ask (w : World) (a : Ak) : Calls Tryz.prog 150 #[.pointer none, askV a] w fun e w' => e = .returned (ansV (anP 1 0 noL 0) none 0) ∧ Below w.heap.size w w' := by
  obtain ⟨k, un, ep, pg, sz, n, s, pe, L, ao, cap⟩ := a
  have HW := Lib.hid (two_blocks w #[.int .i64 k, .int .i64 un, .int .i64 ep, .int .i64 pg, .int .i64 sz, .int .i64 n, .string s, .int .i64 pe, .slice ao L.length cap] #[.int .i64 0, .int .i64 0, .string ⟨#[]⟩, .int .i64 0, .slice none 0 0, .int .i64 0, .int .i64 0, .int .i64 0] 35 40)
  have HB := Lib.hid (show Below w.heap.size w ((w.alloc (.cells #[.int .i64 k, .int .i64 un, .int .i64 ep, .int .i64 pg, .int .i64 sz, .int .i64 n, .string s, .int .i64 pe, .slice ao L.length cap] 35)).alloc (.cells #[.int .i64 0, .int .i64 0, .string ⟨#[]⟩, .int .i64 0, .slice none 0 0, .int .i64 0, .int .i64 0, .int .i64 0] 40)) from (below_new _ _).alloc (by simp) _)
  show Calls _ _ #[.pointer none, .agg #[.int .i64 k, .int .i64 un, .int .i64 ep, .int .i64 pg, .int .i64 sz, .int .i64 n, .string s, .int .i64 pe, .slice ao L.length cap]] w _
  go_enter Tryz.func150, Tryz.ntmps150
  go_wp2_with (go_at_call 152; refine (lcoded_any _ _).mono ?_; rintro e w2 ⟨rfl, hb2⟩; have HX := Lib.hid (below_heap hb2 HW.out.2); obtain ⟨⟨x0, x1, x2, x3, x4, x5, x6, x7⟩, f0, f1, f2, f3, f4, f5, f6, f7⟩ := eight_cells HX.out; have hx := lt_of_block HX.out; have HB2 := Lib.hid (HB.out.trans (hb2.mono HB.out.size)); clear hb2)
  exact ans_ret (x := anP 1 0 noL 0) (ao := none) (cap := 0) rfl (eight_set7 (eight_set6 (eight_set5 (eight_set4 (eight_set3 (eight_set2 (eight_set1 (eight_set0 HX.out _) _) _) _) _) _) _) _) rfl rfl ⟨rfl, ((((((((HB2.out.setCell (by simp) _).setCell (by simp) _).setCell (by simp) _).setCell (by simp) _).setCell (by simp) _).setCell (by simp) _).setCell (by simp) _).setCell (by simp) _)⟩
theorem three_cells_at {w : World} {b : Nat} {v0 v1 v2 : Value} {t : TypeId} (h : w.heap[b]? = some (.cells #[v0, v1, v2] t (0, 0))) : w.cell? ⟨b, 0, none⟩ = some v0 ∧ w.cell? ⟨b, 1, none⟩ = some v1 ∧ w.cell? ⟨b, 2, none⟩ = some v2 := ⟨cell_of h 0, cell_of h 1, cell_of h 2⟩
/-- what an answer's block is behind its eight stores -/
theorem eight_all {w : World} {b : Nat} {x0 x1 x2 x3 x4 x5 x6 x7 : Value} {t : TypeId} (h : w.heap[b]? = some (.cells #[x0, x1, x2, x3, x4, x5, x6, x7] t (0, 0))) (v0 v1 v2 v3 v4 v5 v6 v7 : Value) :
    ((((((((w.setCell ⟨b, 0, none⟩ v0).setCell ⟨b, 1, none⟩ v1).setCell ⟨b, 2, none⟩ v2).setCell ⟨b, 3, none⟩ v3).setCell ⟨b, 4, none⟩ v4).setCell ⟨b, 5, none⟩ v5).setCell ⟨b, 6, none⟩ v6).setCell ⟨b, 7, none⟩ v7).heap[b]? = some (.cells #[v0, v1, v2, v3, v4, v5, v6, v7] t (0, 0)) :=
  eight_set7 (eight_set6 (eight_set5 (eight_set4 (eight_set3 (eight_set2 (eight_set1 (eight_set0 h v0) v1) v2) v3) v4) v5) v6) v7
theorem eight_stay (W : World) (b : Nat) (v0 v1 v2 v3 v4 v5 v6 v7 : Value) : Kept (fun k => k ≠ b) W ((((((((W.setCell ⟨b, 0, none⟩ v0).setCell ⟨b, 1, none⟩ v1).setCell ⟨b, 2, none⟩ v2).setCell ⟨b, 3, none⟩ v3).setCell ⟨b, 4, none⟩ v4).setCell ⟨b, 5, none⟩ v5).setCell ⟨b, 6, none⟩ v6).setCell ⟨b, 7, none⟩ v7) :=
  ((((((((Kept.refl _ W).setCell (p := ⟨b, 0, none⟩) (fun h => h rfl) _).setCell (p := ⟨b, 1, none⟩) (fun h => h rfl) _).setCell (p := ⟨b, 2, none⟩) (fun h => h rfl) _).setCell (p := ⟨b, 3, none⟩) (fun h => h rfl) _).setCell (p := ⟨b, 4, none⟩) (fun h => h rfl) _).setCell (p := ⟨b, 5, none⟩) (fun h => h rfl) _).setCell (p := ⟨b, 6, none⟩) (fun h => h rfl) _).setCell (p := ⟨b, 7, none⟩) (fun h => h rfl) _
def zeroE : Array Value := #[.int .i64 0, .int .i64 0, .string ⟨#[]⟩, .int .i64 0, .slice none 0 0, .int .i64 0, .int .i64 0, .int .i64 0]
theorem lp_mark_no (b : Nat) (G : Nat → Prop) (w : World) (y : Ly) (h : LB b G w y) (p s n : Int) (hg : goodI p s n = false) :
    Calls Tryz.prog 155 #[ptrL b, .agg #[.int .i64 p, .int .i64 s, .int .i64 n]] w fun e w' => e = .returned (ansV (anP 1 0 noL 0) none 0) ∧ Leaves (LB b) G w w' y := by
  have HS := Lib.hid (boxv_start (lb_thing b) h 142 40 #[.int .i64 p, .int .i64 s, .int .i64 n] zeroE)
  unfold zeroE at HS
  have C1 := Lib.hid (fun w => lgood_any p s n w)
  rw [hg] at C1
  have hbw := h.small
  clear h hg
  unfold ptrL
  go_enter Tryz.func155, Tryz.ntmps155
  go_wp2_with (first
    | (go_at_call 157; refine (C1.out _).mono ?_; rintro e w1 ⟨rfl, hb1⟩; have HS1 := Lib.hid (HS.out.below (lb_thing b) hb1); clear hb1)
    | (go_at_call 152; refine (lcoded_any _ _).mono ?_; rintro e w2 ⟨rfl, hb2⟩; have HS2 := Lib.hid (HS1.out.below (lb_thing b) hb2); obtain ⟨⟨x0, x1, x2, x3, x4, x5, x6, x7⟩, f0, f1, f2, f3, f4, f5, f6, f7⟩ := eight_cells HS2.out.ans; obtain ⟨l1, l2⟩ := HS2.out.small; clear hb2))
  exact ans_ret (x := anP 1 0 noL 0) (ao := none) (cap := 0) rfl (eight_all HS2.out.ans _ _ _ _ _ _ _ _) rfl rfl ⟨rfl, HS2.out.fin (lb_thing b) (eight_stay _ _ _ _ _ _ _ _ _ _)⟩
theorem lp_mark_old (b : Nat) (G : Nat → Prop) (w : World) (y : Ly) (h : LB b G w y) (p s n : Int) (hg : goodI p s n = true) (hn : ¬ y.n < n) :
    Calls Tryz.prog 155 #[ptrL b, .agg #[.int .i64 p, .int .i64 s, .int .i64 n]] w fun e w' => e = .returned (ansV (anM y.n y.mark y.size) none 0) ∧ Leaves (LB b) G w w' y := by
  have HS := Lib.hid (boxv_start (lb_thing b) h 142 40 #[.int .i64 p, .int .i64 s, .int .i64 n] zeroE)
  unfold zeroE at HS
  have C1 := Lib.hid (fun w => lgood_any p s n w)
  rw [hg] at C1
  have C2 := Lib.hid (fun w => ltold_any y.mark y.size y.n w)
  have hbw := h.small
  have hd : decide (y.n < n) = false := decide_eq_false hn
  clear h hg hn
  unfold ptrL
  go_enter Tryz.func155, Tryz.ntmps155
  go_wp2_with (go_at_call 157; refine (C1.out _).mono ?_; rintro e w1 ⟨rfl, hb1⟩; have HS1 := Lib.hid (HS.out.below (lb_thing b) hb1); obtain ⟨H, hH, _⟩ := HS1.out.use; obtain ⟨ao, cap, mb, h1, _⟩ := hH.open; obtain ⟨⟨c0, c1, c2, c3, c4, c5⟩, _⟩ := six_cells h1; obtain ⟨i0, i1, i2⟩ := three_cells_at HS1.out.ask; have hb1' := lt_of_block h1; obtain ⟨l1, l2⟩ := HS1.out.small; clear hb1 hH h1)
  go_quiet (fail)
  go_wp2_with (go_at_call 153; refine (C2.out _).mono ?_; rintro e w2 ⟨rfl, hb2⟩; have HS2 := Lib.hid ((HS1.out.drewN (lb_thing b) _).below (lb_thing b) hb2); obtain ⟨⟨x0, x1, x2, x3, x4, x5, x6, x7⟩, f0, f1, f2, f3, f4, f5, f6, f7⟩ := eight_cells HS2.out.ans; obtain ⟨m1, m2⟩ := HS2.out.small; clear hb2)
  exact ans_ret (x := anM y.n y.mark y.size) (ao := none) (cap := 0) rfl (eight_all HS2.out.ans _ _ _ _ _ _ _ _) rfl rfl ⟨rfl, HS2.out.fin (lb_thing b) (eight_stay _ _ _ _ _ _ _ _ _ _)⟩
theorem lp_mark_new (b : Nat) (G : Nat → Prop) (w : World) (y : Ly) (h : LB b G w y) (p s n : Int) (hg : goodI p s n = true) (hn : y.n < n) :
    Calls Tryz.prog 155 #[ptrL b, .agg #[.int .i64 p, .int .i64 s, .int .i64 n]] w fun e w' => e = .returned (ansV (anM n p s) none 0) ∧ Leaves (LB b) G w w' ⟨y.ep, y.L, y.used, p, s, n⟩ := by
  have HS := Lib.hid (boxv_start (lb_thing b) h 142 40 #[.int .i64 p, .int .i64 s, .int .i64 n] zeroE)
  unfold zeroE at HS
  have C1 := Lib.hid (fun w => lgood_any p s n w)
  rw [hg] at C1
  have C2 := Lib.hid (fun w => ltold_any p s n w)
  have hbw := h.small
  have hd : decide (y.n < n) = true := decide_eq_true hn
  clear h hg hn
  unfold ptrL
  go_enter Tryz.func155, Tryz.ntmps155
  go_wp2_with (go_at_call 157; refine (C1.out _).mono ?_; rintro e w1 ⟨rfl, hb1⟩; have HS1 := Lib.hid (HS.out.below (lb_thing b) hb1); obtain ⟨H, hH, _⟩ := HS1.out.use; obtain ⟨ao, cap, mb, h1, _⟩ := hH.open; obtain ⟨⟨c0, c1, c2, c3, c4, c5⟩, g0, g1, g2, g3, g4, g5⟩ := six_cells h1; obtain ⟨i0, i1, i2⟩ := three_cells_at HS1.out.ask; have hb1' := lt_of_block h1; obtain ⟨l1, l2⟩ := HS1.out.small; clear hb1 hH h1)
  go_quiet (fail)
  go_wp2_with (go_at_call 153; refine (C2.out _).mono ?_; rintro e w2 ⟨rfl, hb2⟩; have HSQ := HS1.out.drewN (lb_thing b) nq; obtain ⟨H2, hH2, _, hU⟩ := HSQ.use2; have HS2 := Lib.hid ((hU (LB b) _ _ (hH2.mark p s n)).below (lb_thing b) hb2); obtain ⟨⟨x0, x1, x2, x3, x4, x5, x6, x7⟩, f0, f1, f2, f3, f4, f5, f6, f7⟩ := eight_cells HS2.out.ans; obtain ⟨m1, m2⟩ := HS2.out.small; clear hb2 hH2 hU HSQ)
  exact ans_ret (x := anM n p s) (ao := none) (cap := 0) rfl (eight_all HS2.out.ans _ _ _ _ _ _ _ _) rfl rfl ⟨rfl, HS2.out.fin (lb_thing b) (eight_stay _ _ _ _ _ _ _ _ _ _)⟩
end Go.Proofs.YtimjlfkdbkafeaaGreat
namespace Go.Proofs.YtimjlfkdbkafeaaGreat
open Go.RowKit
set_option maxRecDepth 20000
set_option maxHeartbeats 2000000 in
theorem pClone_any (ao : Option Addr) (cap : Nat) (l : List Int) (w : World) (h : NLI w ao cap l) (hl : l.length ≤ 255) :
    Calls Tryz.prog 73 #[.slice ao l.length cap] w fun e w' => ∃ bo cb, e = .returned (.slice bo l.length cb) ∧ NLI w' bo cb l ∧ Below w.heap.size w w' := by
  have HN := Lib.hid h
  have HL := Lib.hid (show ([] : List Int).length + l.length ≤ 1000000 from by simp; omega)
  have hEq := fun (w : World) (a : Option Addr) (n c : Nat) => Lib.run_eql_slice_nil (P := Tryz.prog) w 24 3 a n c 0 0 Tryz.underlying24
  cases ao with
  | none =>
    obtain ⟨rfl, rfl⟩ := h.of_none
    go_enter Tryz.func73, Tryz.ntmps73
    go_wp2_with fail
    go_ret
    exact ⟨none, 0, rfl, NLI.nil _, Below.refl _ _⟩
  | some x =>
    have HMD := Lib.hid (OI.made w (Nat.le_refl _))
    clear h
    go_enter Tryz.func73, Tryz.ntmps73
    go_wp2_with (refine wpList_app_ints (o := ⟨some 7, _, _, _, _, _⟩) rfl (.tmp 5) (.tmp 6) rfl (B := w.heap.size) (v := .slice (some ⟨w.heap.size, 0, none⟩) 0 0) (D := []) rfl HMD.out (ao := some x) (cap := cap) (l := l) rfl rfl (HN.out.below (below_alloc _ _)) HL.out (by simp) ?_; intro v2 w2 hI hg _; rw [List.nil_append] at hI; obtain ⟨a2, c2, hv2, hN2, _, _⟩ := hI.form; have HB2 := Lib.hid (((Below.refl w.heap.size w).alloc (Nat.le_refl _) _).grown hg (by simp) (fun k e => by have e2 : w.heap.size = k := Option.some.inj e; omega)); have HN2 := Lib.hid hN2; subst hv2; clear hI hg hN2)
    go_ret
    exact ⟨_, _, rfl, HN2.out, HB2.out⟩
set_option maxHeartbeats 4000000 in
theorem pChain_any (ep : Int) (ao : Option Addr) (cap : Nat) (L : List (List Int)) (a : Int) (w : World) (h : CL w ao L) (hl : L.length ≤ 255 ∧ ∀ c ∈ L, c.length ≤ 255) :
    Calls Tryz.prog 61 #[.agg #[.int .i64 ep, .slice ao L.length cap], .int .i64 a] w fun e w' => ∃ bo cb, e = .returned (.slice bo (chainR ep L a).length cb) ∧ NLI w' bo cb (chainR ep L a) ∧ Below w.heap.size w w' := by
  have HB0 := Lib.hid ((Below.refl w.heap.size w).alloc (Nat.le_refl _) (.cells #[.int .i64 ep, .slice ao L.length cap] 27))
  have HC := Lib.hid (h.below HB0.out)
  have HP := Lib.hid (show PB (w.alloc (.cells #[.int .i64 ep, .slice ao L.length cap] 27)) w.heap.size ep ao L.length cap from heap_alloc_new _ _)
  have CO := Lib.hid (pOf_any ep ao cap L a _ HC.out hl)
  have hl' : (L.length : Int) ≤ 255 := by have := hl.1; omega
  have HM := Lib.hid hl
  clear h hl
  by_cases ho : ofB ep L a = true
  · obtain ⟨hg, ha⟩ := ofB_iff.1 ho
    obtain ⟨n1, n4⟩ := good_len hg
    obtain ⟨r1, _, _⟩ := of_range (n := L.length) ⟨by omega, by omega⟩ ha
    obtain ⟨k, hk⟩ := Int.eq_ofNat_of_zero_le r1.1
    have hkl : k < L.length := by omega
    have HX := Lib.hid (chainR_yes ho hkl hk)
    rw [ofV_is ho, hk] at CO
    have mo := HM.out.2 _ (List.getElem_mem hkl)
    have k0 : (k : Int) < (L.length : Int) := by omega
    clear ho hg ha r1 hk
    generalize a / (L.length : Int) = q at *
    go_enter Tryz.func61, Tryz.ntmps61
    go_wp2_with (first
      | (go_at_call 60; refine CO.out.mono ?_; rintro e w1 ⟨rfl, hb1⟩; have HB1 := Lib.hid ((HB0.out.trans (hb1.mono HB0.out.size)).alloc (HB0.out.trans (hb1.mono HB0.out.size)).size (.cells #[.int .i64 k, .int .i64 q] 49)); have HP1 := Lib.hid ((HP.out.below hb1).below (below_alloc w1 (.cells #[.int .i64 k, .int .i64 q] 49))); obtain ⟨b0, b1⟩ := (HP.out.below hb1).cells; obtain ⟨bk, off, ai, ci, hao, c0, hN⟩ := (HC.out.below hb1) k hkl; subst hao; have HN := Lib.hid (hN.below (below_alloc w1 (.cells #[.int .i64 k, .int .i64 q] 49))); have hw1 := block_lt_of_cell b1; have hbk := block_lt_of_cell c0; clear hb1 hN)
      | (go_at_call 73; refine (pClone_any ai ci L[k] _ HN.out mo).mono ?_; rintro e w2 ⟨bo, cb, rfl, hN2, hb2⟩; have HN2 := Lib.hid hN2; have HB2 := Lib.hid (HB1.out.trans (hb2.mono HB1.out.size)); clear hN2 hb2))
    go_ret
    rw [HX.out]
    exact ⟨_, _, rfl, HN2.out, HB2.out⟩
  · have ho' : ofB ep L a = false := Bool.eq_false_iff.2 ho
    rw [ofV_no ho'] at CO
    rw [chainR_no ho']
    clear ho ho'
    go_enter Tryz.func61, Tryz.ntmps61
    go_wp2_with (go_at_call 60; refine CO.out.mono ?_; rintro e w1 ⟨rfl, hb1⟩; have HB1 := Lib.hid (HB0.out.trans (hb1.mono HB0.out.size)); clear hb1)
    go_ret
    exact ⟨none, 0, rfl, NLI.nil _, HB1.out.alloc HB1.out.size _⟩
end Go.Proofs.YtimjlfkdbkafeaaGreat
