/- What the document's own layout answers, asked for the projection that counts. Conditions: it and the question lie where the call was told. What the program's unit answers a question to its pages. Conditions: it and the question lie where the call was told; the question's data are not too long. (Written by gen/genunpb.py.) Calls that tell chains in a result of any make: what they leave of the thing that was asked, and of what lies beside it. Conditions: as each statement says. The document's own nodes in memory: the layout, the sequencer, the block of pointers, the units, each in blocks of its own. No conditions. -/
import Derived.Test.YtimjlfkdbkafeaaGreatG16a
import Derived.Deep.RegionHeld3
import Derived.Test.YtimjlfkdbkafeaaGreatG08b
import Derived.Test.YtimjlfkdbkafeaaGreatG09b
import Derived.Test.YtimjlfkdbkafeaaGreatG12b
set_option linter.unusedVariables false
namespace Go.Proofs.YtimjlfkdbkafeaaGreat
set_option linter.unusedVariables false
open Go.RowKit
set_option maxRecDepth 20000
section
variable {w W W2 : World} {r : Nat} {G H : Nat → Prop} {y : Ly} {a : Ak} {X : Option (Array Value)} {v0 v1 v3 v4 v5 : Value}
theorem s5_on (h : W.cell? ⟨r, 0, none⟩ = some v0 ∧ W.cell? ⟨r, 1, none⟩ = some v1 ∧ W.cell? ⟨r, 3, none⟩ = some v3 ∧ W.cell? ⟨r, 4, none⟩ = some v4 ∧ W.cell? ⟨r, 5, none⟩ = some v5 ∧ LdE w W r G H y a X) (hb : Below W.heap.size W W2) : W2.cell? ⟨r, 0, none⟩ = some v0 ∧ W2.cell? ⟨r, 1, none⟩ = some v1 ∧ W2.cell? ⟨r, 3, none⟩ = some v3 ∧ W2.cell? ⟨r, 4, none⟩ = some v4 ∧ W2.cell? ⟨r, 5, none⟩ = some v5 ∧ LdE w W2 r G H y a X :=
  ⟨cellB hb (block_lt_of_cell h.1) h.1, cellB hb (block_lt_of_cell h.2.1) h.2.1, cellB hb (block_lt_of_cell h.2.2.1) h.2.2.1, cellB hb (block_lt_of_cell h.2.2.2.1) h.2.2.2.1, cellB hb (block_lt_of_cell h.2.2.2.2.1) h.2.2.2.2.1, h.2.2.2.2.2.below hb⟩
theorem s5_ld (h : W.cell? ⟨r, 0, none⟩ = some v0 ∧ W.cell? ⟨r, 1, none⟩ = some v1 ∧ W.cell? ⟨r, 3, none⟩ = some v3 ∧ W.cell? ⟨r, 4, none⟩ = some v4 ∧ W.cell? ⟨r, 5, none⟩ = some v5 ∧ LdE w W r G H y a X) : LdE w W r G H y a X := h.2.2.2.2.2
theorem s5_cl {ao : Option Addr} {n cap : Nat} (h : W.cell? ⟨r, 0, none⟩ = some v0 ∧ W.cell? ⟨r, 1, none⟩ = some (.slice ao n cap) ∧ W.cell? ⟨r, 3, none⟩ = some v3 ∧ W.cell? ⟨r, 4, none⟩ = some v4 ∧ W.cell? ⟨r, 5, none⟩ = some v5 ∧ LdE w W r G H y a X) : CL W ao y.L := h.2.2.2.2.2.rl.cl h.2.1
theorem s5_lt (h : W.cell? ⟨r, 0, none⟩ = some v0 ∧ W.cell? ⟨r, 1, none⟩ = some v1 ∧ W.cell? ⟨r, 3, none⟩ = some v3 ∧ W.cell? ⟨r, 4, none⟩ = some v4 ∧ W.cell? ⟨r, 5, none⟩ = some v5 ∧ LdE w W r G H y a X) : ∀ k, H k → k < W.heap.size := fun k hk => (rl_thing r).lt h.2.2.2.2.2.rl k hk
theorem s5_small (h : W.cell? ⟨r, 0, none⟩ = some v0 ∧ W.cell? ⟨r, 1, none⟩ = some v1 ∧ W.cell? ⟨r, 3, none⟩ = some v3 ∧ W.cell? ⟨r, 4, none⟩ = some v4 ∧ W.cell? ⟨r, 5, none⟩ = some v5 ∧ LdE w W r G H y a X) : w.heap.size + 1 < W.heap.size := h.2.2.2.2.2.small.2.1
theorem s5_eight (h : W.cell? ⟨r, 0, none⟩ = some v0 ∧ W.cell? ⟨r, 1, none⟩ = some v1 ∧ W.cell? ⟨r, 3, none⟩ = some v3 ∧ W.cell? ⟨r, 4, none⟩ = some v4 ∧ W.cell? ⟨r, 5, none⟩ = some v5 ∧ LdE w W r G H y a X) (x0 x1 x2 x3 x4 x5 x6 x7 : Value) : ((((((((W.setCell ⟨w.heap.size + 1, 0, none⟩ x0).setCell ⟨w.heap.size + 1, 1, none⟩ x1).setCell ⟨w.heap.size + 1, 2, none⟩ x2).setCell ⟨w.heap.size + 1, 3, none⟩ x3).setCell ⟨w.heap.size + 1, 4, none⟩ x4).setCell ⟨w.heap.size + 1, 5, none⟩ x5).setCell ⟨w.heap.size + 1, 6, none⟩ x6).setCell ⟨w.heap.size + 1, 7, none⟩ x7).cell? ⟨r, 0, none⟩ = some v0 ∧ ((((((((W.setCell ⟨w.heap.size + 1, 0, none⟩ x0).setCell ⟨w.heap.size + 1, 1, none⟩ x1).setCell ⟨w.heap.size + 1, 2, none⟩ x2).setCell ⟨w.heap.size + 1, 3, none⟩ x3).setCell ⟨w.heap.size + 1, 4, none⟩ x4).setCell ⟨w.heap.size + 1, 5, none⟩ x5).setCell ⟨w.heap.size + 1, 6, none⟩ x6).setCell ⟨w.heap.size + 1, 7, none⟩ x7).cell? ⟨r, 1, none⟩ = some v1 ∧ ((((((((W.setCell ⟨w.heap.size + 1, 0, none⟩ x0).setCell ⟨w.heap.size + 1, 1, none⟩ x1).setCell ⟨w.heap.size + 1, 2, none⟩ x2).setCell ⟨w.heap.size + 1, 3, none⟩ x3).setCell ⟨w.heap.size + 1, 4, none⟩ x4).setCell ⟨w.heap.size + 1, 5, none⟩ x5).setCell ⟨w.heap.size + 1, 6, none⟩ x6).setCell ⟨w.heap.size + 1, 7, none⟩ x7).cell? ⟨r, 3, none⟩ = some v3 ∧ ((((((((W.setCell ⟨w.heap.size + 1, 0, none⟩ x0).setCell ⟨w.heap.size + 1, 1, none⟩ x1).setCell ⟨w.heap.size + 1, 2, none⟩ x2).setCell ⟨w.heap.size + 1, 3, none⟩ x3).setCell ⟨w.heap.size + 1, 4, none⟩ x4).setCell ⟨w.heap.size + 1, 5, none⟩ x5).setCell ⟨w.heap.size + 1, 6, none⟩ x6).setCell ⟨w.heap.size + 1, 7, none⟩ x7).cell? ⟨r, 4, none⟩ = some v4 ∧ ((((((((W.setCell ⟨w.heap.size + 1, 0, none⟩ x0).setCell ⟨w.heap.size + 1, 1, none⟩ x1).setCell ⟨w.heap.size + 1, 2, none⟩ x2).setCell ⟨w.heap.size + 1, 3, none⟩ x3).setCell ⟨w.heap.size + 1, 4, none⟩ x4).setCell ⟨w.heap.size + 1, 5, none⟩ x5).setCell ⟨w.heap.size + 1, 6, none⟩ x6).setCell ⟨w.heap.size + 1, 7, none⟩ x7).cell? ⟨r, 5, none⟩ = some v5 ∧ LdE w ((((((((W.setCell ⟨w.heap.size + 1, 0, none⟩ x0).setCell ⟨w.heap.size + 1, 1, none⟩ x1).setCell ⟨w.heap.size + 1, 2, none⟩ x2).setCell ⟨w.heap.size + 1, 3, none⟩ x3).setCell ⟨w.heap.size + 1, 4, none⟩ x4).setCell ⟨w.heap.size + 1, 5, none⟩ x5).setCell ⟨w.heap.size + 1, 6, none⟩ x6).setCell ⟨w.heap.size + 1, 7, none⟩ x7) r G H y a X := by
  have hne : r ≠ w.heap.size + 1 := by have := h.2.2.2.2.2.small; omega
  have hk := eight_kept W (w.heap.size + 1) x0 x1 x2 x3 x4 x5 x6 x7
  exact ⟨cellK hk hne h.1, cellK hk hne h.2.1, cellK hk hne h.2.2.1, cellK hk hne h.2.2.2.1, cellK hk hne h.2.2.2.2.1, ⟨_, _, _, _, _, _, _, _, h.2.2.2.2.2.eight x0 x1 x2 x3 x4 x5 x6 x7⟩⟩
end
set_option maxHeartbeats 8000000 in
theorem ldo_tell (r : Nat) (G : Nat → Prop) (w : World) (y : Ly) (a : Ak) (h : RL r G w y) (hk : a.kind = 9) :
    Calls Tryz.prog 120 #[ptrL r, askV a] w fun e w' => Tells (RL r) G w (y.done a) (y.ans a) e w' := by
  have ha : y.ans a = ⟨0, y.n, noL, y.ep, y.L, y.mark, y.size, 0⟩ := if_pos hk
  have hd : y.done a = y := by
    unfold Ly.done
    rw [if_neg (by omega), if_neg (by rintro ⟨h, _⟩; omega)]
  rw [ha, hd]
  clear ha hd
  obtain ⟨k, un, ep, pg, sz, n, s, pe, L, ao, cap⟩ := a
  simp only at hk
  have HS := Lib.hid (show LdW w ((w.alloc (.cells #[.int .i64 k, .int .i64 un, .int .i64 ep, .int .i64 pg, .int .i64 sz, .int .i64 n, .string s, .int .i64 pe, .slice ao L.length cap] 35)).alloc (.cells #[.int .i64 0, .int .i64 0, .string ⟨#[]⟩, .int .i64 0, .slice none 0 0, .int .i64 0, .int .i64 0, .int .i64 0] 40)) r G G y ⟨k, un, ep, pg, sz, n, s, pe, L, ao, cap⟩ zeroA none from ld_start h ⟨k, un, ep, pg, sz, n, s, pe, L, ao, cap⟩)
  have d9 : (k == 9) = true := by rw [hk]; rfl
  clear hk h
  show Calls _ _ #[.pointer (some ⟨r, 0, none⟩), .agg #[.int .i64 k, .int .i64 un, .int .i64 ep, .int .i64 pg, .int .i64 sz, .int .i64 n, .string s, .int .i64 pe, .slice ao L.length cap]] w _
  go_enter Tryz.func120, Tryz.ntmps120
  go_wp2_with fail
  generalize hW0 : ((w.alloc (.cells #[.int .i64 k, .int .i64 un, .int .i64 ep, .int .i64 pg, .int .i64 sz, .int .i64 n, .string s, .int .i64 pe, .slice ao L.length cap] 35)).alloc (.cells #[.int .i64 0, .int .i64 0, .string ⟨#[]⟩, .int .i64 0, .slice none 0 0, .int .i64 0, .int .i64 0, .int .i64 0] 40)) = W0 at *
  clear hW0
  obtain ⟨l1, l2, l3⟩ := HS.out.small
  obtain ⟨lo, lc, bo, cb, h1, h2, h3, h4⟩ := HS.out.rl.open
  obtain ⟨⟨c0, c1, c2, c3, c4, c5⟩, _⟩ := six_cells h1
  have HM := Lib.hid (show y.L.length ≤ 1000 ∧ ∀ c ∈ y.L, c.length ≤ 1000 from ⟨by have := (good_small h4).1; omega, fun c hc => by have := (good_small h4).2 c hc; omega⟩)
  have C0 := Lib.hid (show W0.drew.cell? ⟨r, 0, none⟩ = some (.int .i64 y.ep) ∧ W0.drew.cell? ⟨r, 1, none⟩ = some (.slice lo y.L.length lc) ∧ W0.drew.cell? ⟨r, 3, none⟩ = some (.int .i64 y.mark) ∧ W0.drew.cell? ⟨r, 4, none⟩ = some (.int .i64 y.size) ∧ W0.drew.cell? ⟨r, 5, none⟩ = some (.int .i64 y.n) ∧ LdE w W0.drew r G G y ⟨k, un, ep, pg, sz, n, s, pe, L, ao, cap⟩ none from ⟨c0, c1, c3, c4, c5, HS.out.drew.any⟩)
  clear c0 c1 c2 c3 c4 c5 h1 h2 h3 h4 HS l1 l2 l3
  go_region_held3 (fun W => W.cell? ⟨r, 0, none⟩ = some (.int .i64 y.ep) ∧ W.cell? ⟨r, 1, none⟩ = some (.slice lo y.L.length lc) ∧ W.cell? ⟨r, 3, none⟩ = some (.int .i64 y.mark) ∧ W.cell? ⟨r, 4, none⟩ = some (.int .i64 y.size) ∧ W.cell? ⟨r, 5, none⟩ = some (.int .i64 y.n) ∧ LdE w W r G G y ⟨k, un, ep, pg, sz, n, s, pe, L, ao, cap⟩ none)
    (first | with_reducible exact C0.out | with_reducible exact HS2.out | with_reducible exact s5_eight HS2.out _ _ _ _ _ _ _ _)
    (first | (go_at_call 28; refine (keepCopyO_any y.ep lo lc y.L _ (s5_cl (by assumption)) HM.out).mono ?_; rintro e w2 ⟨v, rfl, hO, hb2⟩; have HO := Lib.hid hO; obtain ⟨go, gc, hv, _⟩ := hO.form; subst hv; have HLT := Lib.hid (s5_lt (by assumption)); have HSM := Lib.hid (s5_small (by assumption)); have HS2 := Lib.hid (s5_on (by assumption) hb2); obtain ⟨nl1, nl2, nl3⟩ := (s5_ld HS2.out).small; obtain ⟨u0, u1, u2, u3, u4, u5, u6, u7, ⟨nz0, nz1, nz2, nz3, nz4, nz5, nz6, nz7⟩, nfz0, nfz1, nfz2, nfz3, nfz4, nfz5, nfz6, nfz7⟩ := (s5_ld HS2.out).cells; clear hO))
  all_goals
    go_wp2_with fail
    have H3 := (s5_ld HS2.out).eight (.int .i64 0) (.int .i64 y.n) (.string ⟨#[]⟩) (.int .i64 y.ep) (.slice go y.L.length gc) (.int .i64 y.mark) (.int .i64 y.size) (.int .i64 0)
    exact ans_ret (x := ⟨0, y.n, noL, y.ep, y.L, y.mark, y.size, 0⟩) (ao := go) (cap := gc) rfl H3.zero rfl rfl (H3.tells (x := ⟨0, y.n, noL, y.ep, y.L, y.mark, y.size, 0⟩) (Nat.le_of_lt (Nat.lt_of_succ_lt HSM.out)) HLT.out (CG.behind HO.out (eight_kept _ _ _ _ _ _ _ _ _ _) (fun k hk => by have := HSM.out; omega) (eight_size _ _ _ _ _ _ _ _ _ _)))
end Go.Proofs.YtimjlfkdbkafeaaGreat
namespace Go.Proofs.YtimjlfkdbkafeaaGreat
set_option linter.unusedVariables false
open Go.RowKit
set_option maxRecDepth 20000
set_option maxHeartbeats 8000000 in
theorem un_seal (b q : Nat) (G : Nat → Prop) (w : World) (u : Us) (a : Ak) (h : UM b q G w u) (hw : i64w a.epoch) :
    Calls Tryz.prog 143 #[ptrV b, askV a] w fun e w' => e = .returned (anV 0 u.p.tail noS 0) ∧ Leaves (UM b q) G w w' ⟨u.p, a.epoch, u.down⟩ := by
  obtain ⟨k, un, ep, pg, sz, n, s, pe, L, ao, cap⟩ := a
  obtain ⟨p, ue, dn⟩ := u
  simp only at *
  have HS := Lib.hid (boxed_start (um_thing b q) h #[.int .i64 k, .int .i64 un, .int .i64 ep, .int .i64 pg, .int .i64 sz, .int .i64 n, .string s, .int .i64 pe, .slice ao L.length cap])
  unfold zeroAn at HS
  have hbw := h.small
  obtain ⟨c0, c1, c2, f0, f1, f2⟩ := three_cells h.cells
  obtain ⟨H, hH, hU⟩ := HS.out.use
  have HE := hU _ _ (hH.seal hw)
  rw [World.setCell_alloc_past (hn := by simp; omega), World.setCell_alloc_past (hn := hbw)] at HE
  replace HE := Lib.hid HE
  obtain ⟨H2, hH2, _⟩ := HE.out.use
  obtain ⟨F, hF, hok, _⟩ := hH2.ready
  clear h hU hH hH2
  show Calls _ _ #[.pointer (some ⟨b, 0, none⟩), .agg #[.int .i64 k, .int .i64 un, .int .i64 ep, .int .i64 pg, .int .i64 sz, .int .i64 n, .string s, .int .i64 pe, .slice ao L.length cap]] w _
  go_enter Tryz.func143, Tryz.ntmps143
  go_wp2_with (first | (go_at_call 147; refine (ptail_any F _ q p hF hok).mono ?_; rintro e w2 ⟨rfl, hb2⟩; have HT3 := Lib.hid (HE.out.below (um_thing b q) hb2); clear hb2; obtain ⟨nl1, nl2⟩ := HT3.out.small; obtain ⟨⟨ny0, ny1, ny2, ny3, ny4, ny5, ny6, ny7⟩, nfy0, nfy1, nfy2, nfy3, nfy4, nfy5, nfy6, nfy7⟩ := eight_cells HT3.out.ans))
  exact ans_ret (x := anP 0 p.tail noS 0) (ao := none) (cap := 0) rfl (HT3.out.fin (um_thing b q)).1 rfl rfl ⟨rfl, (HT3.out.fin (um_thing b q)).2⟩
end Go.Proofs.YtimjlfkdbkafeaaGreat
namespace Go.Proofs.YtimjlfkdbkafeaaGreat
set_option linter.unusedVariables false
open Go.RowKit
set_option maxRecDepth 20000
/-- the call ends with the result mk, whose chains x.L are new memory, and none of the thing's; the thing is s' behind it -/
def ToldBy {α : Type} (mk : Option Addr → Nat → Value) (T : (Nat → Prop) → World → α → Prop) (G : Nat → Prop) (w : World) (s' : α) (x : An) (e : Ending) (w' : World) : Prop :=
  ∃ (ao : Option Addr) (cap : Nat) (C : Nat → Prop), e = .returned (mk ao cap) ∧ (∀ k, C k → w.heap.size ≤ k) ∧ Leaves (Chained T C (.slice ao x.L.length cap) x.L) G w w' s'
section
variable {α β : Type} {mk : Option Addr → Nat → Value} {T : (Nat → Prop) → World → α → Prop} {U : (Nat → Prop) → World → β → Prop} {X G : Nat → Prop} {w w' : World} {a a' : α} {b : β} {x : An} {e : Ending} {P : Program} {fn : FuncId} {args : Array Value}
theorem tells_by (h : Tells T G w a' x e w') : ToldBy (fun ao cap => ansV x ao cap) T G w a' x e w' := by
  obtain ⟨ao, cap, C, he, hC, hl⟩ := tells_chained h
  exact ⟨ao, cap, C, he, hC, hl⟩
theorem chained_plain (h : Leaves T G w w' a') (hL : x.L = []) : Leaves (Chained T (fun _ => False) (.slice none x.L.length 0) x.L) G w w' a' := by
  obtain ⟨H, h1, h2, h3⟩ := h
  refine ⟨H, ⟨H, h1, by rw [hL]; exact CG.no _ _, fun k hk => hk.elim, fun k hk => hk.elim, fun k => ⟨.inl, fun h => h.elim id False.elim⟩⟩, h2, h3⟩
theorem told_plain (h : Leaves T G w w' a') (hL : x.L = []) (he : e = .returned (mk none 0)) : ToldBy mk T G w a' x e w' := ⟨none, 0, fun _ => False, he, fun k hk => hk.elim, chained_plain h hL⟩
theorem side_told (hT : Thing T) (hU : Thing U) (h : Side T U X w a b) (hc : ∀ F : Nat → Prop, T F w a → (∀ k, X k → ¬ F k) → Calls P fn args w fun e w' => ToldBy mk T F w a' x e w') :
    Calls P fn args w fun e w' => ∃ (ao : Option Addr) (cap : Nat) (C : Nat → Prop), e = .returned (mk ao cap) ∧ CG C w' (.slice ao x.L.length cap) x.L ∧ Side T U (fun k => X k ∨ C k) w' a' b ∧ Kept X w w' := by
  obtain ⟨h1, F, G, h2, h3, h4, h5⟩ := h
  refine (hc F h2 (fun k hk => (h4 k hk).1)).mono ?_
  rintro e w' ⟨ao, cap, C, rfl, hC, H, ⟨F', r1, r2, rl, r3, r4⟩, r5, r6⟩
  have r7 : ∀ k, F' k → F k ∨ w.heap.size ≤ k := fun k hk => r6 k ((r4 k).2 (.inl hk))
  refine ⟨ao, cap, C, rfl, r2, ⟨fun k hk => ?_, F', G, r1, hU.keep h3 r5 (fun k hg hf => h5 k hf hg), fun k hk => ?_, fun k hk hg => ?_⟩, r5.mono (fun k hk => (h4 k hk).1)⟩
  · rcases hk with hk | hk
    · exact Nat.lt_of_lt_of_le (h1 k hk) r5.size
    · exact rl k hk
  · rcases hk with hk | hk
    · refine ⟨fun hf => ?_, (h4 k hk).2⟩
      rcases r7 k hf with h | h
      · exact (h4 k hk).1 h
      · have := h1 k hk; omega
    · exact ⟨r3 k hk, fun hg => by have := hU.lt h3 k hg; have := hC k hk; omega⟩
  · rcases r7 k hk with h | h
    · exact h5 k h hg
    · have := hU.lt h3 k hg; omega
theorem side_told_right (hT : Thing T) (hU : Thing U) {b' : β} (h : Side T U X w a b) (hc : ∀ F : Nat → Prop, U F w b → (∀ k, X k → ¬ F k) → Calls P fn args w fun e w' => ToldBy mk U F w b' x e w') :
    Calls P fn args w fun e w' => ∃ (ao : Option Addr) (cap : Nat) (C : Nat → Prop), e = .returned (mk ao cap) ∧ CG C w' (.slice ao x.L.length cap) x.L ∧ Side T U (fun k => X k ∨ C k) w' a b' ∧ Kept X w w' :=
  (side_told hU hT h.swap hc).mono fun e w' ⟨ao, cap, C, h1, h2, h3, h4⟩ => ⟨ao, cap, C, h1, h2, h3.swap, h4⟩
theorem solo_told (hT : Thing T) (h : Solo T X w a) (hc : ∀ F : Nat → Prop, T F w a → (∀ k, X k → ¬ F k) → Calls P fn args w fun e w' => ToldBy mk T F w a' x e w') :
    Calls P fn args w fun e w' => ∃ (ao : Option Addr) (cap : Nat) (C : Nat → Prop), e = .returned (mk ao cap) ∧ CG C w' (.slice ao x.L.length cap) x.L ∧ Solo T (fun k => X k ∨ C k) w' a' ∧ Kept X w w' := by
  obtain ⟨h1, F, h2, h3⟩ := h
  refine (hc F h2 h3).mono ?_
  rintro e w' ⟨ao, cap, C, rfl, hC, H, ⟨F', r1, r2, rl, r3, r4⟩, r5, r6⟩
  refine ⟨ao, cap, C, rfl, r2, ⟨fun k hk => ?_, F', r1, fun k hk hf => ?_⟩, r5.mono h3⟩
  · rcases hk with hk | hk
    · exact Nat.lt_of_lt_of_le (h1 k hk) r5.size
    · exact rl k hk
  · rcases hk with hk | hk
    · rcases r6 k ((r4 k).2 (.inl hf)) with h | h
      · exact h3 k hk h
      · have := h1 k hk; omega
    · exact r3 k hk hf
end
end Go.Proofs.YtimjlfkdbkafeaaGreat
namespace Go.Proofs.YtimjlfkdbkafeaaGreat
set_option linter.unusedVariables false
open Go.RowKit
set_option maxRecDepth 20000
/-- the block of 18 pointers, of which the first m units' are there -/
structure Tab (A : Array Value) (m : Nat) (B : Nat → Nat × Nat) (ro rl : Nat) : Prop where
  size : A.size = 18
  at_ : ∀ i, i < m → A[i]? = some (ptrU (B i).1)
  o : A[16]? = some (ptrO ro)
  l : A[17]? = some (ptrL rl)
theorem Tab.put {A : Array Value} {m : Nat} {B : Nat → Nat × Nat} {ro rl : Nat} (h : Tab A m B ro rl) (hm : m < 16) (x : Nat × Nat) : Tab (A.setIfInBounds m (ptrU x.1)) (m + 1) (fun j => if j = m then x else B j) ro rl := by
  have hs := h.size
  refine ⟨by simp [hs], fun i hi => ?_, ?_, ?_⟩
  · by_cases e : i = m
    · subst e
      simp [hs, show i < 18 by omega]
    · rw [Array.getElem?_setIfInBounds_ne (fun h => e h.symm), if_neg e]
      exact h.at_ i (by omega)
  · rw [Array.getElem?_setIfInBounds_ne (by omega)]
    exact h.o
  · rw [Array.getElem?_setIfInBounds_ne (by omega)]
    exact h.l
/-- its parts, one after another -/
def nodeT (r : Nat) (A : Array Value) (ro rl : Nat) (B : Nat → Nat × Nat) (n : Nd) : Nat → (Nat → Prop) → World → Prop
  | 0 => fun F w => RL rl F w n.l
  | 1 => fun F w => RO ro F w n.o
  | 2 => fun F w => w.heap[r]? = some (.cells A 124 (0, 0)) ∧ ∀ k, F k ↔ k = r
  | i + 3 => fun F w => RU (B i).1 (B i).2 F w (n.u i)
theorem nodeT_part (r : Nat) (A : Array Value) (ro rl : Nat) (B : Nat → Nat × Nat) (n : Nd) : ∀ i, Part (nodeT r A ro rl B n i)
  | 0 => (rl_thing rl).part n.l
  | 1 => (ro_thing ro).part n.o
  | 2 => ⟨fun h k hk => by rw [(h.2 k).1 hk]; exact lt_of_block h.1, fun h hk hS => ⟨hk.heap (hS r ((h.2 r).2 rfl)) h.1, h.2⟩⟩
  | i + 3 => (ru_thing (B i).1 (B i).2).part (n.u i)
/-- block r is the document's nodes -/
def RN (r : Nat) (G : Nat → Prop) (w : World) (n : Nd) : Prop := ∃ (A : Array Value) (ro rl : Nat) (B : Nat → Nat × Nat), Tab A 16 B ro rl ∧ BundG 19 (nodeT r A ro rl B n) G w
theorem rn_thing (r : Nat) : Thing (RN r) where
  lt := by
    rintro G w n ⟨A, ro, rl, B, h1, h2⟩
    exact h2.lt (fun i _ => nodeT_part r A ro rl B n i)
  keep := by
    rintro G S w w' n ⟨A, ro, rl, B, h1, h2⟩ hk hS
    exact ⟨A, ro, rl, B, h1, h2.keep (fun i _ => nodeT_part r A ro rl B n i) hk hS⟩
section
variable {r : Nat} {A : Array Value} {ro rl : Nat} {B : Nat → Nat × Nat} {n : Nd} {G : Nat → Prop} {w : World}
theorem rn_putL (h1 : Tab A 16 B ro rl) {y : Ly} {G' : Nat → Prop} {W : World} (h : BundG 19 (swapP (nodeT r A ro rl B n) 0 (fun F W => RL rl F W y)) G' W) : RN r G' W (n.putL y) :=
  ⟨A, ro, rl, B, h1, h.same (fun i _ F W hF => by match i, hF with | 0, hF => exact hF | 1, hF => exact hF | 2, hF => exact hF | j + 3, hF => exact hF)⟩
theorem rn_putO (h1 : Tab A 16 B ro rl) {o : Od} {G' : Nat → Prop} {W : World} (h : BundG 19 (swapP (nodeT r A ro rl B n) 1 (fun F W => RO ro F W o)) G' W) : RN r G' W (n.putO o) :=
  ⟨A, ro, rl, B, h1, h.same (fun i _ F W hF => by match i, hF with | 0, hF => exact hF | 1, hF => exact hF | 2, hF => exact hF | j + 3, hF => exact hF)⟩
theorem rn_putU (h1 : Tab A 16 B ro rl) {k : Nat} {u : Us} {G' : Nat → Prop} {W : World} (h : BundG 19 (swapP (nodeT r A ro rl B n) (k + 3) (fun F W => RU (B k).1 (B k).2 F W u)) G' W) : RN r G' W (n.putU k u) := by
  refine ⟨A, ro, rl, B, h1, h.same (fun i _ F W hF => ?_)⟩
  match i, hF with
  | 0, hF => exact hF
  | 1, hF => exact hF
  | 2, hF => exact hF
  | j + 3, hF =>
    unfold swapP at hF
    by_cases e : j = k
    · subst e
      rw [if_pos rfl] at hF
      show RU _ _ F W ((n.putU j u).u j)
      rw [putU_at]
      exact hF
    · rw [if_neg (by omega)] at hF
      show RU _ _ F W ((n.putU k u).u j)
      rw [putU_off n u e]
      exact hF
/-- the block of pointers -/
theorem RN.tab (h : RN r G w n) : ∃ (A : Array Value) (ro rl : Nat) (B : Nat → Nat × Nat), Tab A 16 B ro rl ∧ w.heap[r]? = some (.cells A 124 (0, 0)) ∧ G r ∧ BundG 19 (nodeT r A ro rl B n) G w := by
  obtain ⟨A, ro, rl, B, h1, h2⟩ := h
  obtain ⟨F, h3, h4⟩ := h2.look (i := 2) (by omega)
  exact ⟨A, ro, rl, B, h1, h3.1, h4 r ((h3.2 r).2 rfl), h2⟩
end
end Go.Proofs.YtimjlfkdbkafeaaGreat
