/- What the document's own hand makes of Drop and Do. Conditions: it lies where the call was told; the chains of what is held lie in memory that is none of its own. -/
import Derived.Test.YtkicjgaejieinaaGreatG26a
import Derived.Test.YtkicjgaejieinaaGreatG10b
import Derived.StillTailTactics
set_option linter.unusedVariables false
namespace Go.Proofs.YtkicjgaejieinaaGreat
set_option linter.unusedVariables false
open Go.RowKit
set_option maxRecDepth 20000
set_option maxHeartbeats 1600000 in
theorem rh_drop_no (r rn : Nat) (G : Nat → Prop) (w : World) (h : Hd) (k : Int) (hh : RH r rn G w h) (hk : ¬ (0 ≤ k ∧ k < h.held.length)) :
    Calls Tryz.prog 17 #[.pointer (some ⟨r, 0, none⟩), .int .i64 k] w fun e w' => e = .returned (.bool false) ∧ w = w' := by
  obtain ⟨v, hc, hO⟩ := hh.cells
  obtain ⟨ho, hcp, hv, hrow, hcap, hno, _, _, _⟩ := hO.form ask_rows
  subst hv
  obtain ⟨c0, c1, _, _⟩ := two_cells hc
  have hr := hh.small
  have hl64 : (h.held.length : Int) ≤ 64 := by have := hh.1; omega
  clear hh hc hO hrow hno hcap
  by_cases h0 : k < 0
  · clear hk
    go_enter Tryz.func17, Tryz.ntmps17
    go_wp2_with fail
    go_ret
    exact ⟨rfl, rfl⟩
  · have h1 : (h.held.length : Int) ≤ k := by omega
    have h2 : 0 ≤ k := by omega
    clear hk h0
    go_enter Tryz.func17, Tryz.ntmps17
    go_wp2_with fail
    go_ret
    exact ⟨rfl, rfl⟩
set_option maxHeartbeats 1600000 in
theorem rh_drop_yes (r rn : Nat) (G : Nat → Prop) (w : World) (h : Hd) (k : Nat) (hh : RH r rn G w h) (hk : k < h.held.length) :
    Calls Tryz.prog 17 #[.pointer (some ⟨r, 0, none⟩), .int .i64 k] w fun e w' => e = .returned (.bool true) ∧ Leaves (RH r rn) G w w' ⟨h.n, lessK h.held k⟩ := by
  obtain ⟨v, hc, hO⟩ := hh.cells
  obtain ⟨ho, hcp, hv, hrow, hcap, hno, _, _, hof⟩ := hO.form ask_rows
  subst hv
  obtain ⟨b6, o6, e6, _⟩ := hrow k hk
  subst e6
  have hl64 := hh.1
  have HL := Lib.hid (fun w2 v2 (hb : Below w.heap.size w w2) (hO : OR 34 9 askC w2 w.heap.size v2 (lessK h.held k)) => hh.lay hb hO (by have := lessK_length hk; have := hh.1; omega))
  have HC := Lib.hid hc
  have HR1 := Lib.hid (hrow.take k)
  obtain ⟨qa, hqa, hqr⟩ : ∃ qa : Addr, (if hcp = k + 1 then some (⟨b6, o6, none⟩ : Addr) else some ⟨b6, o6 + (k + 1) * 9, none⟩) = some qa ∧ Row w (some qa) 9 askC (h.held.drop (k + 1)) := by
    by_cases e : hcp = k + 1
    · refine ⟨⟨b6, o6, none⟩, if_pos e, ?_⟩
      rw [List.drop_eq_nil_of_le (by omega)]
      exact Row.nil _ _ _ _
    · exact ⟨⟨b6, o6 + (k + 1) * 9, none⟩, if_neg e, hrow.drop (k + 1)⟩
  have HR2 := Lib.hid hqr
  have hr := hh.small
  have HLT := Lib.hid (show (h.held.take k).length = k from by rw [List.length_take]; omega)
  have HLD := Lib.hid (show (h.held.drop (k + 1)).length = h.held.length - (k + 1) from List.length_drop)
  obtain ⟨c0, c1, f0, f1⟩ := two_cells hc
  have HLK := Lib.hid (show h.held.take k ++ h.held.drop (k + 1) = lessK h.held k from rfl)
  obtain ⟨n, held⟩ := h
  simp only at *
  have hk2 : k < held.length := hk
  have i0 : IntKind.i64.wrap ((k : Int) + 1) = (k : Int) + 1 := IntWalk.i64_in _ (by omega)
  have i9 : (0 : Int) ≤ (k : Int) + 1 := by omega
  have i1 : (0 : Int) ≤ (k : Int) := by omega
  have i2 : (k : Int) < (held.length : Int) := by omega
  have i3 : (k : Int) ≤ (hcp : Int) := by omega
  have i4 : (held.length : Int) ≤ (hcp : Int) := by omega
  have i5 : (k : Int) + 1 ≤ (held.length : Int) := by omega
  have i6 : (held.length : Int) ≤ 64 := by omega
  clear hh hc hO hrow hno hof hl64
  go_enter Tryz.func17, Tryz.ntmps17
  go_wp2_with fail
  go_region_law (first
    | (refine step_app_rows ask_rows rfl (.tmp 17) (.tmp 23) rfl (B := w.heap.size) (v := .slice (some ⟨w.heap.size, 0, none⟩) 0 0) (D := []) rfl (OR.made w.drew rfl (Nat.le_refl _)) (ao := some ⟨b6, o6, none⟩) (cap := hcp) (l := held.take k) (m := k) HLT.out rfl (HR1.out.below ((Below.refl _ _).drew.alloc (Nat.le_refl _) _)) (fun e => by cases e) (by rw [HLT.out]; omega) (by rw [HLT.out]; simp; omega) (by simp) ?_; intro v1 w1 hI hg _; rw [List.nil_append] at hI; have hb1 : Below w.heap.size w w1 := ((Below.refl _ _).drew.alloc (Nat.le_refl _) _).grown hg (by simp) (fun k e => by cases e; exact Nat.le_refl _); have HI1 := Lib.hid hI; have e1 := cellB hb1 hr c1; have er := Nat.lt_of_lt_of_le hr hb1.size; clear hI hg)
    | (refine step_app_rows ask_rows rfl (.tmp 24) (.tmp 31) rfl (B := w.heap.size) (D := held.take k) rfl HI1.out (ao := some qa) (cap := hcp - (k + 1)) (l := held.drop (k + 1)) (m := held.length - (k + 1)) HLD.out rfl (HR2.out.below hb1) (fun e => by cases e) (by rw [HLD.out]; omega) (by rw [HLT.out, HLD.out]; omega) hb1.size ?_; intro v2 w2 hI hg _; have hb2 := hb1.grown hg hb1.size (fun k e => (HI1.out.lt k e).1); rw [HLK.out] at hI; obtain ⟨a2, k2, hv2, _, _, _, _, _, _⟩ := hI.form ask_rows; subst hv2; have HI2 := Lib.hid hI; have q1 := cellB hb2 hr c1; have qf := free_of (below_heap hb2 HC.out) 1; have qr := Nat.lt_of_lt_of_le hr hb2.size; clear hI hg))
  all_goals
    go_wp2_with fail
    go_ret
    exact ⟨rfl, HL.out w2 _ hb2 HI2.out⟩
theorem kept_two {G G1 : Nat → Prop} {w w2 W : World} (h1 : Kept (fun k => ¬ G k) w w2) (h3 : ∀ k, G1 k → G k ∨ w.heap.size ≤ k) (h2 : Kept (fun k => ¬ G1 k) w2 W) : Kept (fun k => ¬ G k) w W := by
  refine ⟨h2.os.trans h1.os, h2.tape.trans h1.tape, h2.output.trans h1.output, Nat.le_trans h1.size h2.size, fun k hg hkl => ?_⟩
  rw [h2.block k (fun h => (h3 k h).elim hg (fun h => by omega)) (Nat.lt_of_lt_of_le hkl h1.size)]
  exact h1.block k hg hkl
theorem leaves_two {β : Type} {U : (Nat → Prop) → World → β → Prop} {G G1 : Nat → Prop} {w w2 W : World} {s : β} (h1 : Kept (fun k => ¬ G k) w w2) (h3 : ∀ k, G1 k → G k ∨ w.heap.size ≤ k) (h : Leaves U G1 w2 W s) : Leaves U G w W s := by
  obtain ⟨G2, r1, r2, r3⟩ := h
  refine ⟨G2, r1, kept_two h1 h3 r2, fun k hk => ?_⟩
  rcases r3 k hk with h | h
  · exact h3 k h
  · exact .inr (Nat.le_trans h1.size h)
set_option maxHeartbeats 1600000 in
theorem rh_do_no (r rn : Nat) (G : Nat → Prop) (w : World) (h : Hd) (k : Int) (hh : RH r rn G w h) (hk : ¬ (0 ≤ k ∧ k < h.held.length)) :
    Calls Tryz.prog 15 #[.pointer (some ⟨r, 0, none⟩), .int .i64 k] w fun e w' => e = .returned (.bool false) ∧ w = w' := by
  obtain ⟨v, hc, hO⟩ := hh.cells
  obtain ⟨ho, hcp, hv, hrow, hcap, hno, _, _, _⟩ := hO.form ask_rows
  subst hv
  obtain ⟨c0, c1, _, _⟩ := two_cells hc
  have hr := hh.small
  have hl64 : (h.held.length : Int) ≤ 64 := by have := hh.1; omega
  clear hh hc hO hrow hno hcap
  by_cases h0 : k < 0
  · clear hk
    go_enter Tryz.func15, Tryz.ntmps15
    go_wp2_with fail
    go_ret
    exact ⟨rfl, rfl⟩
  · have h1 : (h.held.length : Int) ≤ k := by omega
    have h2 : 0 ≤ k := by omega
    clear hk h0
    go_enter Tryz.func15, Tryz.ntmps15
    go_wp2_with fail
    go_ret
    exact ⟨rfl, rfl⟩
set_option maxHeartbeats 1600000 in
theorem rh_do_yes (r rn : Nat) (G : Nat → Prop) (w : World) (h : Hd) (k : Nat) (hh : RH r rn G w h) (hk : k < h.held.length) (hw : i64w h.held[k].epoch) (hs : h.held[k].data.size ≤ 1000000) (hu : h.n.l.used.length ≤ 100000) (hA : ∀ W, Kept (fun k => ¬ G k) w W → CL W h.held[k].ao h.held[k].L) (hL : h.held[k].L.length ≤ 255 ∧ ∀ c ∈ h.held[k].L, c.length ≤ 255) :
    Calls Tryz.prog 15 #[.pointer (some ⟨r, 0, none⟩), .int .i64 k] w fun e w' => e = .returned (.bool true) ∧ Leaves (RH r rn) G w w' ⟨h.n.done h.held[k], lessK h.held k⟩ := by
  obtain ⟨v, hc, hO⟩ := hh.cells
  obtain ⟨ho, hcp, hv, hrow, hcap, hno, _, _, hof⟩ := hO.form ask_rows
  subst hv
  have hlt := fun j hj => (rh_thing r rn).lt hh j hj
  have hr := hh.small
  obtain ⟨c0, c1, _, _⟩ := two_cells hc
  have hl64 : (h.held.length : Int) ≤ 64 := by have := hh.1; omega
  obtain ⟨b6, o6, e6, x0, x1, x2, x3, x4, x5, x6, x7, x8⟩ := ask_at hrow hk
  subst e6
  have HDR := Lib.hid (fun (x : Obj) => rh_drop_yes r rn G (w.alloc x) h k ((rh_thing r rn).keep hh (Kept.ofBelow (below_new w x) (fun _ => True)) (fun _ _ => trivial)) hk)
  have HLT := Lib.hid hlt
  have HA := Lib.hid hA
  have HU := Lib.hid hu
  have HW := Lib.hid hw
  have HDS := Lib.hid hs
  have HLL := Lib.hid hL
  clear hh hc hO hrow hno hof hlt hA hu hw hs hL
  generalize h.held[k] = a at *
  obtain ⟨kd, un, ep, pg, sz, nn, s, pe, L, ao, cap⟩ := a
  simp only at x0 x1 x2 x3 x4 x5 x6 x7 x8
  have i1 : (0 : Int) ≤ (k : Int) := by omega
  have i2 : (k : Int) < (h.held.length : Int) := by omega
  go_enter Tryz.func15, Tryz.ntmps15
  go_wp2_with (go_at_call 17; refine (HDR.out _).mono ?_; rintro e w2 ⟨rfl, hl⟩; have HL2 := Lib.hid hl; clear hl)
  obtain ⟨G1, r1, r2, r3⟩ := HL2.out
  have hbox : w2.heap[w.heap.size]? = some (.cells #[.int .i64 kd, .int .i64 un, .int .i64 ep, .int .i64 pg, .int .i64 sz, .int .i64 nn, .string s, .int .i64 pe, .slice ao L.length cap] 34 (0, 0)) := r2.heap (b := w.heap.size) (fun hg => by have := HLT.out _ hg; omega) (heap_alloc_new w _)
  have K0 : Kept (fun j => ¬ G j) w w2.drew := ((Kept.ofBelow (below_new w (.cells #[.int .i64 kd, .int .i64 un, .int .i64 ep, .int .i64 pg, .int .i64 sz, .int .i64 nn, .string s, .int .i64 pe, .slice ao L.length cap] 34)) _).trans r2).trans ((Kept.refl _ w2).drewN 1)
  have hG1 : ∀ j, G1 j → G j ∨ w.heap.size ≤ j := fun j hj => (r3 j hj).imp id (fun h => Nat.le_trans (below_new w (.cells #[.int .i64 kd, .int .i64 un, .int .i64 ep, .int .i64 pg, .int .i64 sz, .int .i64 nn, .string s, .int .i64 pe, .slice ao L.length cap] 34)).size h)
  obtain ⟨F, hF, hFH, hturn⟩ := ((rh_thing r rn).keep r1 (Kept.ofBelow (show Below w2.heap.size w2 w2.drew from (Below.refl _ _).drew) (fun _ => True)) (fun _ _ => trivial)).turn
  have HP := ndo_any rn F w2.drew h.n ⟨kd, un, ep, pg, sz, nn, s, pe, L, ao, cap⟩ hF HW.out HDS.out HU.out (fun W hk => HA.out W (kept_two K0 hG1 (hk.mono (fun j hn hf => hn (hFH j hf))))) HLL.out
  have CP := Lib.hid (show Calls Tryz.prog 29 #[.pointer (some ⟨rn, 0, none⟩), .agg #[.int .i64 kd, .int .i64 un, .int .i64 ep, .int .i64 pg, .int .i64 sz, .int .i64 nn, .string s, .int .i64 pe, .slice ao L.length cap]] w2.drew fun e w' => ∃ v, e = .returned v ∧ Leaves (RH r rn) G w w' ⟨h.n.done ⟨kd, un, ep, pg, sz, nn, s, pe, L, ao, cap⟩, lessK h.held k⟩ from HP.mono (fun e w' ht => by
    obtain ⟨ao3, cap3, C3, he, hC3, hl3⟩ := tells_chained ht
    exact ⟨_, he, leaves_two K0 hG1 (less_chain (hturn C3 _ _ w' _ hC3 hl3))⟩))
  obtain ⟨v2, hc2, _⟩ := r1.cells
  have y0 := cell_of hc2 0
  have yr := lt_of_block hc2
  have yb := lt_of_block hbox
  obtain ⟨z0, z1, z2, z3, z4, z5, z6, z7, z8⟩ := nine_free hbox
  clear HDR HLT HA HU HW HDS HLL HL2 r1 r2 r3 hbox K0 hG1 hF hFH hturn HP hc2 x0 x1 x2 x3 x4 x5 x6 x7 x8 c0 c1
  have y00 : w2.cell? ⟨r, 0, none⟩ = some (.pointer (some ⟨rn, 0, none⟩)) := y0
  obtain ⟨z00, z01, z02, z03, z04, z05, z06, z07, z08⟩ := z0
  go_still_tail 5, (by kernel_rfl)
  change wpList _ _ _ _ _ w2.drew
  go_wp2_with fail
  refine CP.out.mono ?_
  rintro e w3 ⟨v, rfl, hl⟩
  go_wp2_with fail
  go_ret
  exact ⟨rfl, hl⟩
end Go.Proofs.YtkicjgaejieinaaGreat
