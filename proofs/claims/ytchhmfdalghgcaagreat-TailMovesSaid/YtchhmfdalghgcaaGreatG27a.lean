/- The program's own hand is asked: a question of each fate. Conditions: as each statement says. (Written by gen/genhmpd.py.) All that the laws of all nodes ask of the program. Conditions: units, sequencer and layout are as the statements of their own stages say. Questions to pages, to a hand, beside another thing; its nodes, their units, these' pages. Conditions: the program's functions return what HandSays says. -/
import Derived.Test.YtchhmfdalghgcaaGreatG26b
import Derived.Test.YtchhmfdalghgcaaGreatG17b
import Derived.StillTailTactics
import Derived.Deep.RegionHeldLaw
import Derived.Test.YtchhmfdalghgcaaGreatG26a
import Derived.Test.YtchhmfdalghgcaaGreatG25a
import Derived.Test.YtchhmfdalghgcaaGreatG13b
import Derived.Test.YtchhmfdalghgcaaGreatG13a
set_option linter.unusedVariables false
namespace Go.Proofs.YtchhmfdalghgcaaGreat
set_option linter.unusedVariables false
open Go.RowKit
set_option maxRecDepth 20000
def zero8 : Array Value := #[.int .i64 0, .int .i64 0, .string ⟨#[]⟩, .int .i64 0, .slice none 0 0, .int .i64 0, .int .i64 0, .int .i64 0]
theorem hp_eight {w : World} {b : Nat} {t : TypeId} {x0 x1 x2 x3 x4 x5 x6 x7 : Value} (h : w.heap[b]? = some (.cells #[x0, x1, x2, x3, x4, x5, x6, x7] t (0, 0))) (v0 v1 v2 v3 v4 v5 v6 v7 : Value) :
    (World.setCell (World.setCell (World.setCell (World.setCell (World.setCell (World.setCell (World.setCell (World.setCell (w) ⟨b, 0, none⟩ v0) ⟨b, 1, none⟩ v1) ⟨b, 2, none⟩ v2) ⟨b, 3, none⟩ v3) ⟨b, 4, none⟩ v4) ⟨b, 5, none⟩ v5) ⟨b, 6, none⟩ v6) ⟨b, 7, none⟩ v7).heap[b]? = some (.cells #[v0, v1, v2, v3, v4, v5, v6, v7] t (0, 0)) := (eight_set7 (eight_set6 (eight_set5 (eight_set4 (eight_set3 (eight_set2 (eight_set1 (eight_set0 h v0) v1) v2) v3) v4) v5) v6) v7)
theorem hp_eight_kept (w : World) (b : Nat) (v0 v1 v2 v3 v4 v5 v6 v7 : Value) : Kept (fun k => k ≠ b) w (World.setCell (World.setCell (World.setCell (World.setCell (World.setCell (World.setCell (World.setCell (World.setCell (w) ⟨b, 0, none⟩ v0) ⟨b, 1, none⟩ v1) ⟨b, 2, none⟩ v2) ⟨b, 3, none⟩ v3) ⟨b, 4, none⟩ v4) ⟨b, 5, none⟩ v5) ⟨b, 6, none⟩ v6) ⟨b, 7, none⟩ v7) := (((((((((Kept.refl _ w).setCell (p := ⟨b, 0, none⟩) (fun h => h rfl) v0).setCell (p := ⟨b, 1, none⟩) (fun h => h rfl) v1).setCell (p := ⟨b, 2, none⟩) (fun h => h rfl) v2).setCell (p := ⟨b, 3, none⟩) (fun h => h rfl) v3).setCell (p := ⟨b, 4, none⟩) (fun h => h rfl) v4).setCell (p := ⟨b, 5, none⟩) (fun h => h rfl) v5).setCell (p := ⟨b, 6, none⟩) (fun h => h rfl) v6).setCell (p := ⟨b, 7, none⟩) (fun h => h rfl) v7)
section
variable {UG : Nat → Nat → (Nat → Prop) → World → Us → Prop} {OG : Nat → (Nat → Prop) → World → Od → Prop} {LG : Nat → (Nat → Prop) → World → Ly → Prop} {NG : Nat → (Nat → Prop) → World → Nd → Prop} {b nb : Nat} {G : Nat → Prop} {w W0 : World} {h : Hd} {a : Ak} {tz : TypeId} {Z : Array Value} {T : (Nat → Prop) → World → Hd → Prop}
/-- chains that nobody keeps -/
theorem chain_less {α : Type} {T : (Nat → Prop) → World → α → Prop} {C G : Nat → Prop} {v : Value} {L : List (List Int)} {w w' : World} {s : α} (h : Leaves (Chained T C v L) G w w' s) : Leaves T G w w' s := by
  obtain ⟨H, ⟨H1, h1, _, _, _, h5⟩, r2, r3⟩ := h
  exact ⟨H1, h1, r2, fun k hk => r3 k ((h5 k).2 (.inl hk))⟩
/-- the nodes are asked, in the world in which the call has laid out its boxes -/
theorem box_call (S : RpcSays UG OG LG NG) (HT : BoxZ tz Z (HMz NG [] b nb) w W0 G h (askC a).toArray) (ok : AkOk a) (hL : fewL a.L) (hs : a.data.size ≤ 1000000) (hu : h.n.l.used.length ≤ 100000) (hA : ∀ W, Kept (fun k => ¬ G k) w W → CL W a.ao a.L) :
    Calls Tryz.prog 28 #[.pointer (some ⟨nb, 0, none⟩), askV a] W0.drew fun e w3 => ∃ (ao : Option Addr) (cap : Nat) (C : Nat → Prop), e = .returned (ansV (h.n.ans a) ao cap) ∧ (∀ k, C k → w.heap.size ≤ k) ∧
      BoxZ tz Z (Chained (HMz NG [] b nb) C (.slice ao (h.n.ans a).L.length cap) (h.n.ans a).L) w w3 G ⟨h.n.done a, h.held⟩ (askC a).toArray := by
  have hT := hmz_thing S.thing [] b nb
  have l1 := HT.small.1
  obtain ⟨H, hH, hkk, hU⟩ := (show BoxZ tz Z (HMz NG [] b nb) w W0.drew G h (askC a).toArray from HT.drewN hT 1).use2
  obtain ⟨F, hF, hFH, _, hturn⟩ := hH.turn S.thing
  refine (S.ask nb F W0.drew h.n a hF ok hL hs hu (fun W hk => hA W (hkk W (hk.mono (fun k hn hf => hn (hFH k hf)))))).mono ?_
  intro e w3 ht
  obtain ⟨ao, cap, C, he, hC, hl⟩ := tells_chained ht
  exact ⟨ao, cap, C, he, fun k hk => Nat.le_trans (Nat.le_of_lt l1) (hC k hk), hU (Chained (HMz NG [] b nb) C _ _) w3 _ (hturn C _ _ w3 _ hC hl)⟩
theorem box_cells (HT : BoxZ tz Z (HMz NG [] b nb) w W0 G h (askC a).toArray) : ∃ H v, HMz NG [] b nb H W0 h ∧ W0.cell? ⟨b, 0, none⟩ = some (.pointer (some ⟨nb, 0, none⟩)) ∧ W0.cell? ⟨b, 1, none⟩ = some v ∧ b < W0.heap.size := by
  obtain ⟨H, h1, _⟩ := HT.th
  obtain ⟨v, l, hc, _⟩ := h1.cells
  exact ⟨H, v, h1, cell_of hc 0, cell_of hc 1, h1.small⟩
set_option maxHeartbeats 1600000 in
theorem hask_heard (S : RpcSays UG OG LG NG) (b nb : Nat) (G : Nat → Prop) (w : World) (h : Hd) (a : Ak) (hh : HMz NG [] b nb G w h) (ok : AkOk a) (hL : fewL a.L) (hs : a.data.size ≤ 1000000) (hu : h.n.l.used.length ≤ 100000) (hA : ∀ W, Kept (fun k => ¬ G k) w W → CL W a.ao a.L) :
    Calls Tryz.prog 9 #[.pointer (some ⟨b, 0, none⟩), askV a, .int .i64 0] w fun e w' => ToldBy (heardT (h.n.ans a) true) (HMz NG [] b nb) G w ⟨h.n.done a, h.held⟩ (h.n.ans a) e w' := by
  have HT0 := boxz_start (tz := 33) (Z := zero8) (hmz_thing S.thing [] b nb) hh (askC a).toArray
  generalize hW0 : ((w.alloc (.cells (askC a).toArray 37)).alloc (.cells zero8 33)) = W0 at *
  obtain ⟨H, v, hH, cu, _, hb⟩ := box_cells HT0
  have HN := Lib.hid (hnodes_any b nb H W0 h hH)
  obtain ⟨l1, l2⟩ := HT0.small
  have HP0 := box_call S HT0 ok hL hs hu hA
  clear ok hL hs hu hA
  clear hh hH
  obtain ⟨k, un, ep, pg, sz, nn, s, pe, L, ao, cap⟩ := a
  obtain ⟨n, held⟩ := h
  try simp only at *
  have EW := Lib.hid (show ((w.alloc (.cells #[.int .i64 k, .int .i64 un, .int .i64 ep, .int .i64 pg, .int .i64 sz, .int .i64 nn, .string s, .int .i64 pe, .slice ao L.length cap] 37)).alloc (.cells #[.int .i64 0, .int .i64 0, .string ⟨#[]⟩, .int .i64 0, .slice none 0 0, .int .i64 0, .int .i64 0, .int .i64 0] 33)) = W0 from hW0)
  have HT := Lib.hid (show BoxZ 33 #[.int .i64 0, .int .i64 0, .string ⟨#[]⟩, .int .i64 0, .slice none 0 0, .int .i64 0, .int .i64 0, .int .i64 0] (HMz NG [] b nb) w W0 G ⟨n, held⟩ #[.int .i64 k, .int .i64 un, .int .i64 ep, .int .i64 pg, .int .i64 sz, .int .i64 nn, .string s, .int .i64 pe, .slice ao L.length cap] from HT0)
  clear hW0 HT0
  generalize hxe : n.ans _ = x at HP0 ⊢
  generalize hye : n.done _ = y at HP0 ⊢
  clear hxe hye
  obtain ⟨xc, xn, xd, xp, xL, xm, xz, xe⟩ := x
  have HP := Lib.hid HP0
  clear HP0
  show Calls _ _ #[.pointer (some ⟨b, 0, none⟩), .agg #[.int .i64 k, .int .i64 un, .int .i64 ep, .int .i64 pg, .int .i64 sz, .int .i64 nn, .string s, .int .i64 pe, .slice ao L.length cap], .int .i64 0] w _
  go_enter Tryz.func9, Tryz.ntmps9
  go_wp2_with (go_at_call 12; rw [EW.out]; refine HN.out.mono ?_; rintro e w1 ⟨rfl, rfl⟩)
  have q := HT.out.ask
  obtain ⟨⟨q0, q1, q2, q3, q4, q5, q6, q7, q8⟩, _⟩ := nine_of q
  clear q
  go_still_tail 5, (by kernel_rfl)
  change wpList _ _ _ _ _ W0.drew
  go_wp2_with fail
  refine HP.out.mono ?_
  rintro e w3 ⟨ao3, cap3, C3, he, hC3, ht3⟩
  subst he
  unfold ansV ansC
  have HC3 := Lib.hid hC3
  have HT3 := Lib.hid ht3
  clear hC3 ht3
  obtain ⟨nl1, nl2⟩ := HT3.out.small
  obtain ⟨⟨ny0, ny1, ny2, ny3, ny4, ny5, ny6, ny7⟩, nf0, nf1, nf2, nf3, nf4, nf5, nf6, nf7⟩ := eight_cells HT3.out.ans
  go_wp2_with fail
  exact ans_ret2 (x := ⟨xc, xn, xd, xp, xL, xm, xz, xe⟩) (ao := ao3) (cap := cap3) (c := true) rfl (hp_eight HT3.out.ans (.int .i64 xc) (.int .i64 xn) (.string xd) (.int .i64 xp) (.slice ao3 xL.length cap3) (.int .i64 xm) (.int .i64 xz) (.int .i64 xe)) rfl rfl rfl ⟨ao3, cap3, C3, rfl, HC3.out, HT3.out.fin (chained_thing (hmz_thing S.thing [] b nb) _ _ _) (hp_eight_kept w3 _ _ _ _ _ _ _ _ _)⟩
set_option maxHeartbeats 1600000 in
theorem hask_deaf (S : RpcSays UG OG LG NG) (b nb : Nat) (G : Nat → Prop) (w : World) (h : Hd) (a : Ak) (hh : HMz NG [] b nb G w h) (ok : AkOk a) (hL : fewL a.L) (hs : a.data.size ≤ 1000000) (hu : h.n.l.used.length ≤ 100000) (hA : ∀ W, Kept (fun k => ¬ G k) w W → CL W a.ao a.L) :
    Calls Tryz.prog 9 #[.pointer (some ⟨b, 0, none⟩), askV a, .int .i64 2] w fun e w' => ToldBy (heardT zeroX false) (HMz NG [] b nb) G w ⟨h.n.done a, h.held⟩ zeroX e w' := by
  have HT0 := boxz_start (tz := 33) (Z := zero8) (hmz_thing S.thing [] b nb) hh (askC a).toArray
  generalize hW0 : ((w.alloc (.cells (askC a).toArray 37)).alloc (.cells zero8 33)) = W0 at *
  obtain ⟨H, v, hH, cu, _, hb⟩ := box_cells HT0
  have HN := Lib.hid (hnodes_any b nb H W0 h hH)
  obtain ⟨l1, l2⟩ := HT0.small
  have HP0 := box_call S HT0 ok hL hs hu hA
  clear ok hL hs hu hA
  clear hh hH
  obtain ⟨k, un, ep, pg, sz, nn, s, pe, L, ao, cap⟩ := a
  obtain ⟨n, held⟩ := h
  try simp only at *
  have EW := Lib.hid (show ((w.alloc (.cells #[.int .i64 k, .int .i64 un, .int .i64 ep, .int .i64 pg, .int .i64 sz, .int .i64 nn, .string s, .int .i64 pe, .slice ao L.length cap] 37)).alloc (.cells #[.int .i64 0, .int .i64 0, .string ⟨#[]⟩, .int .i64 0, .slice none 0 0, .int .i64 0, .int .i64 0, .int .i64 0] 33)) = W0 from hW0)
  have HT := Lib.hid (show BoxZ 33 #[.int .i64 0, .int .i64 0, .string ⟨#[]⟩, .int .i64 0, .slice none 0 0, .int .i64 0, .int .i64 0, .int .i64 0] (HMz NG [] b nb) w W0 G ⟨n, held⟩ #[.int .i64 k, .int .i64 un, .int .i64 ep, .int .i64 pg, .int .i64 sz, .int .i64 nn, .string s, .int .i64 pe, .slice ao L.length cap] from HT0)
  clear hW0 HT0
  generalize hxe : n.ans _ = x at HP0 ⊢
  generalize hye : n.done _ = y at HP0 ⊢
  clear hxe hye
  obtain ⟨xc, xn, xd, xp, xL, xm, xz, xe⟩ := x
  have HP := Lib.hid HP0
  clear HP0
  show Calls _ _ #[.pointer (some ⟨b, 0, none⟩), .agg #[.int .i64 k, .int .i64 un, .int .i64 ep, .int .i64 pg, .int .i64 sz, .int .i64 nn, .string s, .int .i64 pe, .slice ao L.length cap], .int .i64 2] w _
  go_enter Tryz.func9, Tryz.ntmps9
  go_wp2_with (go_at_call 12; rw [EW.out]; refine HN.out.mono ?_; rintro e w1 ⟨rfl, rfl⟩)
  have q := HT.out.ask
  obtain ⟨⟨q0, q1, q2, q3, q4, q5, q6, q7, q8⟩, _⟩ := nine_of q
  clear q
  go_still_tail 5, (by kernel_rfl)
  change wpList _ _ _ _ _ W0.drew
  go_wp2_with fail
  refine HP.out.mono ?_
  rintro e w3 ⟨ao3, cap3, C3, he, hC3, ht3⟩
  subst he
  unfold ansV ansC
  have HC3 := Lib.hid hC3
  have HT3 := Lib.hid ht3
  clear hC3 ht3
  obtain ⟨nl1, nl2⟩ := HT3.out.small
  obtain ⟨⟨ny0, ny1, ny2, ny3, ny4, ny5, ny6, ny7⟩, nf0, nf1, nf2, nf3, nf4, nf5, nf6, nf7⟩ := eight_cells HT3.out.ans
  go_wp2_with fail
  exact ans_ret2 (x := zeroX) (ao := none) (cap := 0) (c := false) rfl (hp_eight HT3.out.ans (.int .i64 0) (.int .i64 0) (.string ⟨#[]⟩) (.int .i64 0) (.slice none 0 0) (.int .i64 0) (.int .i64 0) (.int .i64 0)) rfl rfl rfl (told_plain (chain_less (HT3.out.fin (chained_thing (hmz_thing S.thing [] b nb) _ _ _) (hp_eight_kept w3 _ _ _ _ _ _ _ _ _))) rfl rfl)
set_option maxHeartbeats 1600000 in
theorem hask_lost (S : RpcSays UG OG LG NG) (b nb : Nat) (G : Nat → Prop) (w : World) (h : Hd) (a : Ak) (hh : HMz NG [] b nb G w h) (fate : Int) (h0 : fate ≠ 0) (h2 : fate ≠ 2) (h3 : fate ≠ 3) :
    Calls Tryz.prog 9 #[.pointer (some ⟨b, 0, none⟩), askV a, .int .i64 fate] w fun e w' => ToldBy (heardT zeroX false) (HMz NG [] b nb) G w h zeroX e w' := by
  have HT0 := boxz_start (tz := 33) (Z := zero8) (hmz_thing S.thing [] b nb) hh (askC a).toArray
  generalize hW0 : ((w.alloc (.cells (askC a).toArray 37)).alloc (.cells zero8 33)) = W0 at *
  obtain ⟨H, v, hH, cu, _, hb⟩ := box_cells HT0
  have HN := Lib.hid (hnodes_any b nb H W0 h hH)
  obtain ⟨l1, l2⟩ := HT0.small

  clear hh hH
  obtain ⟨k, un, ep, pg, sz, nn, s, pe, L, ao, cap⟩ := a
  obtain ⟨n, held⟩ := h
  try simp only at *
  have EW := Lib.hid (show ((w.alloc (.cells #[.int .i64 k, .int .i64 un, .int .i64 ep, .int .i64 pg, .int .i64 sz, .int .i64 nn, .string s, .int .i64 pe, .slice ao L.length cap] 37)).alloc (.cells #[.int .i64 0, .int .i64 0, .string ⟨#[]⟩, .int .i64 0, .slice none 0 0, .int .i64 0, .int .i64 0, .int .i64 0] 33)) = W0 from hW0)
  have HT := Lib.hid (show BoxZ 33 #[.int .i64 0, .int .i64 0, .string ⟨#[]⟩, .int .i64 0, .slice none 0 0, .int .i64 0, .int .i64 0, .int .i64 0] (HMz NG [] b nb) w W0 G ⟨n, held⟩ #[.int .i64 k, .int .i64 un, .int .i64 ep, .int .i64 pg, .int .i64 sz, .int .i64 nn, .string s, .int .i64 pe, .slice ao L.length cap] from HT0)
  clear hW0 HT0
  have d0 : (fate == 0) = false := beq_eq_false_iff_ne.2 h0
  have d2 : (fate == 2) = false := beq_eq_false_iff_ne.2 h2
  have d3 : (fate == 3) = false := beq_eq_false_iff_ne.2 h3
  have ha := eight_cells HT.out.ans
  obtain ⟨⟨ny0, ny1, ny2, ny3, ny4, ny5, ny6, ny7⟩, nf0, nf1, nf2, nf3, nf4, nf5, nf6, nf7⟩ := ha
  clear h0 h2 h3
  show Calls _ _ #[.pointer (some ⟨b, 0, none⟩), .agg #[.int .i64 k, .int .i64 un, .int .i64 ep, .int .i64 pg, .int .i64 sz, .int .i64 nn, .string s, .int .i64 pe, .slice ao L.length cap], .int .i64 fate] w _
  go_enter Tryz.func9, Tryz.ntmps9
  go_wp2_with (go_at_call 12; rw [EW.out]; refine HN.out.mono ?_; rintro e w1 ⟨rfl, rfl⟩)
  exact ans_ret2 (x := zeroX) (ao := none) (cap := 0) (c := false) rfl (hp_eight HT.out.ans (.int .i64 0) (.int .i64 0) (.string ⟨#[]⟩) (.int .i64 0) (.slice none 0 0) (.int .i64 0) (.int .i64 0) (.int .i64 0)) rfl rfl rfl (told_plain (HT.out.fin (hmz_thing S.thing [] b nb) (hp_eight_kept W0 _ _ _ _ _ _ _ _ _)) rfl rfl)
set_option maxHeartbeats 1600000 in
theorem hask_full (S : RpcSays UG OG LG NG) (b nb : Nat) (G : Nat → Prop) (w : World) (h : Hd) (a : Ak) (hh : HMz NG [] b nb G w h) (hl : ¬ h.held.length < 64) :
    Calls Tryz.prog 9 #[.pointer (some ⟨b, 0, none⟩), askV a, .int .i64 3] w fun e w' => ToldBy (heardT zeroX false) (HMz NG [] b nb) G w h zeroX e w' := by
  have HT0 := boxz_start (tz := 33) (Z := zero8) (hmz_thing S.thing [] b nb) hh (askC a).toArray
  generalize hW0 : ((w.alloc (.cells (askC a).toArray 37)).alloc (.cells zero8 33)) = W0 at *
  obtain ⟨H, v, hH, cu, _, hb⟩ := box_cells HT0
  have HN := Lib.hid (hnodes_any b nb H W0 h hH)
  obtain ⟨l1, l2⟩ := HT0.small
  have HH := Lib.hid (hold_no (a := a) b nb H W0 h hH hl)
  clear hh hH
  obtain ⟨k, un, ep, pg, sz, nn, s, pe, L, ao, cap⟩ := a
  obtain ⟨n, held⟩ := h
  try simp only at *
  have EW := Lib.hid (show ((w.alloc (.cells #[.int .i64 k, .int .i64 un, .int .i64 ep, .int .i64 pg, .int .i64 sz, .int .i64 nn, .string s, .int .i64 pe, .slice ao L.length cap] 37)).alloc (.cells #[.int .i64 0, .int .i64 0, .string ⟨#[]⟩, .int .i64 0, .slice none 0 0, .int .i64 0, .int .i64 0, .int .i64 0] 33)) = W0 from hW0)
  have HT := Lib.hid (show BoxZ 33 #[.int .i64 0, .int .i64 0, .string ⟨#[]⟩, .int .i64 0, .slice none 0 0, .int .i64 0, .int .i64 0, .int .i64 0] (HMz NG [] b nb) w W0 G ⟨n, held⟩ #[.int .i64 k, .int .i64 un, .int .i64 ep, .int .i64 pg, .int .i64 sz, .int .i64 nn, .string s, .int .i64 pe, .slice ao L.length cap] from HT0)
  clear hW0 HT0
  have q := HT.out.ask
  obtain ⟨⟨q0, q1, q2, q3, q4, q5, q6, q7, q8⟩, _⟩ := nine_of q
  clear q hl
  show Calls _ _ #[.pointer (some ⟨b, 0, none⟩), .agg #[.int .i64 k, .int .i64 un, .int .i64 ep, .int .i64 pg, .int .i64 sz, .int .i64 nn, .string s, .int .i64 pe, .slice ao L.length cap], .int .i64 3] w _
  go_enter Tryz.func9, Tryz.ntmps9
  go_wp2_with (first | (go_at_call 12; rw [EW.out]; refine HN.out.mono ?_; rintro e w1 ⟨rfl, rfl⟩) | (go_at_call 29; refine HH.out.mono ?_; rintro e w3 ⟨rfl, hb3⟩; have HT3 := Lib.hid (HT.out.below (hmz_thing S.thing [] b nb) hb3); obtain ⟨nl1, nl2⟩ := HT3.out.small; obtain ⟨⟨ny0, ny1, ny2, ny3, ny4, ny5, ny6, ny7⟩, nf0, nf1, nf2, nf3, nf4, nf5, nf6, nf7⟩ := eight_cells HT3.out.ans))
  exact ans_ret2 (x := zeroX) (ao := none) (cap := 0) (c := false) rfl (hp_eight HT3.out.ans (.int .i64 0) (.int .i64 0) (.string ⟨#[]⟩) (.int .i64 0) (.slice none 0 0) (.int .i64 0) (.int .i64 0) (.int .i64 0)) rfl rfl rfl (told_plain (HT3.out.fin (hmz_thing S.thing [] b nb) (hp_eight_kept w3 _ _ _ _ _ _ _ _ _)) rfl rfl)
set_option maxHeartbeats 1600000 in
theorem hask_held (S : RpcSays UG OG LG NG) (b nb : Nat) (G : Nat → Prop) (w : World) (h : Hd) (a : Ak) (hh : HMz NG [] b nb G w h) (ok : AkOk a) (hL : fewL a.L) (hs : a.data.size ≤ 1000000) (hA : ∀ W, Kept (fun k => ¬ G k) w W → CL W a.ao a.L) (hl : h.held.length < 64) :
    Calls Tryz.prog 9 #[.pointer (some ⟨b, 0, none⟩), askV a, .int .i64 3] w fun e w' => ToldBy (heardT zeroX false) (HMz NG [] b nb) G w ⟨h.n, h.held ++ [a.plain]⟩ zeroX e w' := by
  have HT0 := boxz_start (tz := 33) (Z := zero8) (hmz_thing S.thing [] b nb) hh (askC a).toArray
  generalize hW0 : ((w.alloc (.cells (askC a).toArray 37)).alloc (.cells zero8 33)) = W0 at *
  obtain ⟨H, v, hH, cu, _, hb⟩ := box_cells HT0
  have HN := Lib.hid (hnodes_any b nb H W0 h hH)
  obtain ⟨l1, l2⟩ := HT0.small
  have HH := Lib.hid (show Calls Tryz.prog 29 #[.pointer (some ⟨b, 0, none⟩), askV a] W0 fun e w3 => e = .returned (.tuple #[]) ∧ BoxZ 33 zero8 (HMz NG [] b nb) w w3 G ⟨h.n, h.held ++ [a.plain]⟩ (askC a).toArray from by
    obtain ⟨H2, hH2, hkk, hU⟩ := HT0.use2
    refine (hold_yes S.thing b nb H2 W0 h a hH2 ⟨ok, hL, hs⟩ (fun W hk => hA W (hkk W hk)) hl).mono ?_
    rintro e w3 ⟨he, hl⟩
    exact ⟨he, hU _ w3 _ hl⟩)
  clear ok hL hs hA
  clear hh hH
  obtain ⟨k, un, ep, pg, sz, nn, s, pe, L, ao, cap⟩ := a
  obtain ⟨n, held⟩ := h
  try simp only at *
  have EW := Lib.hid (show ((w.alloc (.cells #[.int .i64 k, .int .i64 un, .int .i64 ep, .int .i64 pg, .int .i64 sz, .int .i64 nn, .string s, .int .i64 pe, .slice ao L.length cap] 37)).alloc (.cells #[.int .i64 0, .int .i64 0, .string ⟨#[]⟩, .int .i64 0, .slice none 0 0, .int .i64 0, .int .i64 0, .int .i64 0] 33)) = W0 from hW0)
  have HT := Lib.hid (show BoxZ 33 #[.int .i64 0, .int .i64 0, .string ⟨#[]⟩, .int .i64 0, .slice none 0 0, .int .i64 0, .int .i64 0, .int .i64 0] (HMz NG [] b nb) w W0 G ⟨n, held⟩ #[.int .i64 k, .int .i64 un, .int .i64 ep, .int .i64 pg, .int .i64 sz, .int .i64 nn, .string s, .int .i64 pe, .slice ao L.length cap] from HT0)
  clear hW0 HT0
  have q := HT.out.ask
  obtain ⟨⟨q0, q1, q2, q3, q4, q5, q6, q7, q8⟩, _⟩ := nine_of q
  clear q hl
  show Calls _ _ #[.pointer (some ⟨b, 0, none⟩), .agg #[.int .i64 k, .int .i64 un, .int .i64 ep, .int .i64 pg, .int .i64 sz, .int .i64 nn, .string s, .int .i64 pe, .slice ao L.length cap], .int .i64 3] w _
  go_enter Tryz.func9, Tryz.ntmps9
  go_wp2_with (first | (go_at_call 12; rw [EW.out]; refine HN.out.mono ?_; rintro e w1 ⟨rfl, rfl⟩) | (go_at_call 29; refine HH.out.mono ?_; rintro e w3 ⟨rfl, ht3⟩; have HT3 := Lib.hid ht3; clear ht3; obtain ⟨nl1, nl2⟩ := HT3.out.small; obtain ⟨⟨ny0, ny1, ny2, ny3, ny4, ny5, ny6, ny7⟩, nf0, nf1, nf2, nf3, nf4, nf5, nf6, nf7⟩ := eight_cells HT3.out.ans))
  exact ans_ret2 (x := zeroX) (ao := none) (cap := 0) (c := false) rfl (hp_eight HT3.out.ans (.int .i64 0) (.int .i64 0) (.string ⟨#[]⟩) (.int .i64 0) (.slice none 0 0) (.int .i64 0) (.int .i64 0) (.int .i64 0)) rfl rfl rfl (told_plain (HT3.out.fin (hmz_thing S.thing [] b nb) (hp_eight_kept w3 _ _ _ _ _ _ _ _ _)) rfl rfl)
end
end Go.Proofs.YtchhmfdalghgcaaGreat
namespace Go.Proofs.YtchhmfdalghgcaaGreat
set_option linter.unusedVariables false
open Go.RowKit
set_option maxRecDepth 20000
/-- block r is the program's nodes, by a table that is told -/
def RT (UG : Nat → Nat → (Nat → Prop) → World → Us → Prop) (OG : Nat → (Nat → Prop) → World → Od → Prop) (LG : Nat → (Nat → Prop) → World → Ly → Prop) (r : Nat) (A : Array Value) (ro rl : Nat) (B : Nat → Nat × Nat) (G : Nat → Prop) (w : World) (n : Nd) : Prop := TabP A 16 B ro rl ∧ BundG 19 (nodeP UG OG LG r A ro rl B n) G w
section
variable {UG : Nat → Nat → (Nat → Prop) → World → Us → Prop} {OG : Nat → (Nat → Prop) → World → Od → Prop} {LG : Nat → (Nat → Prop) → World → Ly → Prop} {r : Nat} {A : Array Value} {ro rl : Nat} {B : Nat → Nat × Nat} {n : Nd} {G : Nat → Prop} {w : World}
theorem rt_thing (HT : Three UG OG LG) (r : Nat) (A : Array Value) (ro rl : Nat) (B : Nat → Nat × Nat) : Thing (RT UG OG LG r A ro rl B) where
  lt := by
    rintro G w n ⟨h1, h2⟩
    exact h2.lt (fun i _ => nodeP_part HT r A ro rl B n i)
  keep := by
    rintro G S w w' n ⟨h1, h2⟩ hk hS
    exact ⟨h1, h2.keep (fun i _ => nodeP_part HT r A ro rl B n i) hk hS⟩
theorem RT.rm (h : RT UG OG LG r A ro rl B G w n) : RM UG OG LG r G w n := ⟨A, ro, rl, B, h⟩
theorem RM.rt (h : RM UG OG LG r G w n) : ∃ A ro rl B, RT UG OG LG r A ro rl B G w n := h
theorem rt_putL (h1 : TabP A 16 B ro rl) {y : Ly} {G' : Nat → Prop} {W : World} (h : BundG 19 (swapP (nodeP UG OG LG r A ro rl B n) 0 (fun F W => LG rl F W y)) G' W) : RT UG OG LG r A ro rl B G' W (n.putL y) :=
  ⟨h1, h.same (fun i _ F W hF => by match i, hF with | 0, hF => exact hF | 1, hF => exact hF | 2, hF => exact hF | j + 3, hF => exact hF)⟩
theorem rt_putO (h1 : TabP A 16 B ro rl) {o : Od} {G' : Nat → Prop} {W : World} (h : BundG 19 (swapP (nodeP UG OG LG r A ro rl B n) 1 (fun F W => OG ro F W o)) G' W) : RT UG OG LG r A ro rl B G' W (n.putO o) :=
  ⟨h1, h.same (fun i _ F W hF => by match i, hF with | 0, hF => exact hF | 1, hF => exact hF | 2, hF => exact hF | j + 3, hF => exact hF)⟩
theorem rt_putU (h1 : TabP A 16 B ro rl) {k : Nat} {u : Us} {G' : Nat → Prop} {W : World} (h : BundG 19 (swapP (nodeP UG OG LG r A ro rl B n) (k + 3) (fun F W => UG (B k).1 (B k).2 F W u)) G' W) : RT UG OG LG r A ro rl B G' W (n.putU k u) := by
  refine ⟨h1, h.same (fun i _ F W hF => ?_)⟩
  match i, hF with
  | 0, hF => exact hF
  | 1, hF => exact hF
  | 2, hF => exact hF
  | j + 3, hF =>
    unfold swapP at hF
    by_cases e : j = k
    · subst e
      rw [if_pos rfl] at hF
      show UG _ _ F W ((n.putU j u).u j)
      rw [putU_at]
      exact hF
    · rw [if_neg (by omega)] at hF
      show UG _ _ F W ((n.putU k u).u j)
      rw [putU_off n u e]
      exact hF
theorem RT.block (h : RT UG OG LG r A ro rl B G w n) : w.heap[r]? = some (.cells A 79 (0, 0)) ∧ G r := by
  obtain ⟨F, h3, h4⟩ := h.2.look (i := 2) (by omega)
  exact ⟨h3.1, h4 r ((h3.2 r).2 rfl)⟩
theorem RT.atU (h : RT UG OG LG r A ro rl B G w n) {i : Nat} (hi : i < 16) : w.cell? ⟨r, i, none⟩ = some (.pointer (some ⟨(B i).1, 0, none⟩)) := (cell_of h.block.1 i).trans (h.1.at_ i hi)
theorem RT.atO (h : RT UG OG LG r A ro rl B G w n) : w.cell? ⟨r, 16, none⟩ = some (.pointer (some ⟨ro, 0, none⟩)) := (cell_of h.block.1 16).trans h.1.o
theorem RT.atL (h : RT UG OG LG r A ro rl B G w n) : w.cell? ⟨r, 17, none⟩ = some (.pointer (some ⟨rl, 0, none⟩)) := (cell_of h.block.1 17).trans h.1.l
theorem pans_L (o : Od) (a : Ak) : (o.ans a).L = [] := by
  unfold Od.ans
  repeat' split
  all_goals rfl
theorem rm_ask (HT : Three UG OG LG) (b : Nat) (G : Nat → Prop) (w : World) (n : Nd) (a : Ak) (h : RM UG OG LG b G w n) (ha : AkOk a) (hL : fewL a.L) (hs : a.data.size ≤ 1000000) (hu : n.l.used.length ≤ 100000) (hA : ∀ W, Kept (fun k => ¬ G k) w W → CL W a.ao a.L) :
    Calls Tryz.prog 28 #[ptrN b, askV a] w fun e w' => Tells (RM UG OG LG b) G w (n.done a) (n.ans a) e w' := by
  obtain ⟨A, ro, rl, B, h⟩ := h.rt
  have hT := rt_thing HT b A ro rl B
  have CO := fun (H : Nat → Prop) (W : World) (hH : RT UG OG LG b A ro rl B H W n) => rp_order hH.atO
  have CL0 := fun (H : Nat → Prop) (W : World) (hH : RT UG OG LG b A ro rl B H W n) => rp_layout hH.atL
  have kin : ∀ {H : Nat → Prop} {W : World}, (∀ W2, Kept (fun k => ¬ H k) W W2 → Kept (fun k => ¬ G k) w W2) → AkIn W a := fun {H W} hk => ⟨ha, hA W (hk W (Kept.refl _ W))⟩
  by_cases h1 : 1 ≤ a.kind ∧ a.kind ≤ 5
  · by_cases h2 : 0 ≤ a.unit ∧ a.unit ≤ 15
    · obtain ⟨i, hi⟩ : ∃ i : Nat, a.unit = i := ⟨a.unit.toNat, by omega⟩
      have hit : a.unit.toNat = i := by omega
      have hi16 : i < 16 := by omega
      rw [show n.ans a = (n.u i).ans a from by unfold Nd.ans; rw [if_pos h1, if_pos h2, hit], show n.done a = n.putU i ((n.u i).done a) from by unfold Nd.done; rw [if_pos h1, if_pos h2, hit]]
      refine (rp_do_unit hT G w n (n.putU i ((n.u i).done a)) h (some ⟨b, 0, none⟩) (some ⟨(B i).1, 0, none⟩) (some ⟨ro, 0, none⟩) (some ⟨rl, 0, none⟩) a ((n.u i).ans a) (fun _ _ => True) h1 (fun H W hH => by rw [hi]; exact rp_unit_yes hi16 (hH.atU hi16)) CO CL0 (fun H W hH hk => ?_)).mono (fun e w' ht => ht.tells.to (fun H W hH => RT.rm hH))
      refine (bundg_tells (i := i + 3) (V := UG (B i).1 (B i).2) (v' := (n.u i).done a) (N := RT UG OG LG b A ro rl B) (s' := n.putU i ((n.u i).done a)) (x := (n.u i).ans a) (fun i _ => nodeP_part HT b A ro rl B n i) hH.2 (by omega) (fun G' W h => rt_putU hH.1 h) (fun F hF hFG => ?_)).mono (fun e w' ht => TellsQ.of ht)
      refine (HT.u.ask (B i).1 (B i).2 F W (n.u i) a hF (kin hk) hs).mono ?_
      rintro e w' ⟨he, hl⟩
      exact tells_plain hl (ans_L _ _) (by rw [he, ansV_U])
    · rw [show n.ans a = anP 1 0 noS 0 from by unfold Nd.ans; rw [if_pos h1, if_neg h2], show n.done a = n from by unfold Nd.done; rw [if_pos h1, if_neg h2]]
      refine (rp_do_unit hT G w n n h (some ⟨b, 0, none⟩) none (some ⟨ro, 0, none⟩) (some ⟨rl, 0, none⟩) a (anP 1 0 noS 0) (fun _ _ => True) h1 (fun H W hH => rp_unit_no b a.unit (by omega) W) CO CL0 (fun H W hH hk => ?_)).mono (fun e w' ht => ht.tells.to (fun H W hH => RT.rm hH))
      refine (HT.u.nil_ask a W (kin hk) hs).mono ?_
      rintro e w' ⟨he, hb⟩
      exact TellsQ.of (tells_plain (Leaves.same hT hH hb) rfl (by rw [he]; rfl))
  by_cases h2 : 6 ≤ a.kind ∧ a.kind ≤ 8
  · rw [show n.ans a = n.o.ans a from by unfold Nd.ans; rw [if_neg h1, if_pos h2], show n.done a = n.putO (n.o.done a) from by unfold Nd.done; rw [if_neg h1, if_pos h2]]
    obtain ⟨x0, CU⟩ : ∃ x0 : Option Addr, ∀ H W, RT UG OG LG b A ro rl B H W n → Calls Tryz.prog 45 #[.pointer (some ⟨b, 0, none⟩), .int .i64 a.unit] W fun e w' => e = .returned (.pointer x0) ∧ W = w' := by
      by_cases hi : 0 ≤ a.unit ∧ a.unit ≤ 15
      · obtain ⟨i, hi2⟩ : ∃ i : Nat, a.unit = i := ⟨a.unit.toNat, by omega⟩
        exact ⟨some ⟨(B i).1, 0, none⟩, fun H W hH => by rw [hi2]; exact rp_unit_yes (by omega) (hH.atU (by omega))⟩
      · exact ⟨none, fun H W hH => rp_unit_no b a.unit (by omega) W⟩
    refine (rp_do_order hT G w n (n.putO (n.o.done a)) h (some ⟨b, 0, none⟩) x0 (some ⟨ro, 0, none⟩) (some ⟨rl, 0, none⟩) a (n.o.ans a) (fun _ _ => True) h2 CU CO CL0 (fun H W hH hk => ?_)).mono (fun e w' ht => ht.tells.to (fun H W hH => RT.rm hH))
    refine (bundg_tells (i := 1) (V := OG ro) (v' := n.o.done a) (N := RT UG OG LG b A ro rl B) (s' := n.putO (n.o.done a)) (x := n.o.ans a) (fun i _ => nodeP_part HT b A ro rl B n i) hH.2 (by omega) (fun G' W h => rt_putO hH.1 h) (fun F hF hFG => ?_)).mono (fun e w' ht => TellsQ.of ht)
    refine (HT.o.ask ro F W n.o a hF (kin hk)).mono ?_
    rintro e w' ⟨he, hl⟩
    exact tells_plain hl (pans_L _ _) (by rw [he, ansV_O])
  obtain ⟨x0, CU⟩ : ∃ x0 : Option Addr, ∀ H W, RT UG OG LG b A ro rl B H W n → Calls Tryz.prog 45 #[.pointer (some ⟨b, 0, none⟩), .int .i64 a.unit] W fun e w' => e = .returned (.pointer x0) ∧ W = w' := by
    by_cases hi : 0 ≤ a.unit ∧ a.unit ≤ 15
    · obtain ⟨i, hi2⟩ : ∃ i : Nat, a.unit = i := ⟨a.unit.toNat, by omega⟩
      exact ⟨some ⟨(B i).1, 0, none⟩, fun H W hH => by rw [hi2]; exact rp_unit_yes (by omega) (hH.atU (by omega))⟩
    · exact ⟨none, fun H W hH => rp_unit_no b a.unit (by omega) W⟩
  by_cases h3 : 9 ≤ a.kind ∧ a.kind ≤ 11
  · rw [show n.ans a = n.l.ans a from by unfold Nd.ans; rw [if_neg h1, if_neg h2, if_pos h3], show n.done a = n.putL (n.l.done a) from by unfold Nd.done; rw [if_neg h1, if_neg h2, if_pos h3]]
    refine (rp_do_layout hT G w n (n.putL (n.l.done a)) h (some ⟨b, 0, none⟩) x0 (some ⟨ro, 0, none⟩) (some ⟨rl, 0, none⟩) a (n.l.ans a) (fun _ _ => True) h3 CU CO CL0 (fun H W hH hk => ?_)).mono (fun e w' ht => ht.tells.to (fun H W hH => RT.rm hH))
    refine (bundg_tells (i := 0) (V := LG rl) (v' := n.l.done a) (N := RT UG OG LG b A ro rl B) (s' := n.putL (n.l.done a)) (x := n.l.ans a) (fun i _ => nodeP_part HT b A ro rl B n i) hH.2 (by omega) (fun G' W h => rt_putL hH.1 h) (fun F hF hFG => ?_)).mono (fun e w' ht => TellsQ.of ht)
    exact HT.l.ask rl F W n.l a hF ha hL hu (fun W2 hk2 => hA W2 (hk W2 (hk2.mono (fun k hn hf => hn (hFG k hf)))))
  · rw [show n.ans a = anP 1 0 noS 0 from by unfold Nd.ans; rw [if_neg h1, if_neg h2, if_neg h3], show n.done a = n from by unfold Nd.done; rw [if_neg h1, if_neg h2, if_neg h3]]
    refine (rp_do_none hT G w n n h (some ⟨b, 0, none⟩) x0 (some ⟨ro, 0, none⟩) (some ⟨rl, 0, none⟩) a (anP 1 0 noS 0) (fun _ _ => True) (by omega) CU CO CL0).mono ?_
    rintro e w' ⟨he, hl⟩
    exact tells_plain (hl.to (fun H hH => RT.rm hH)) rfl he
/-- no thing at all -/
def noneT (G : Nat → Prop) (w : World) (_ : Unit) : Prop := ∀ k, ¬ G k
theorem noneT_thing : Thing noneT where
  lt := fun h k hk => absurd hk (h k)
  keep := fun h _ _ => h
theorem noneT_below {α : Type} {T : (Nat → Prop) → World → α → Prop} {x : α} {w w' : World} (h : Leaves T (fun _ => False) w w' x) : Below w.heap.size w w' := by
  obtain ⟨_, _, hk, _⟩ := h
  exact hk.toBelow (Nat.le_refl _) (fun k _ h => h)
theorem noneT_all {H : Nat → Prop} {w w' : World} (hH : noneT H w ()) (hb : Below w.heap.size w w') : Leaves noneT H w w' () := ⟨H, hH, Kept.ofBelow hb _, fun k hk => .inl hk⟩
theorem rm_nil_ask (HT : Three UG OG LG) (HN : ∀ (w : World) (a : Ak), AkIn w a → Calls Tryz.prog 122 #[.pointer none, askV a] w fun e w' => e = .returned (anV 1 0 noS 0) ∧ Below w.heap.size w w') (a : Ak) (w : World) (ha : AkIn w a) :
    Calls Tryz.prog 28 #[.pointer none, askV a] w fun e w' => e = .returned (ansV (anP 1 0 noS 0) none 0) ∧ Below w.heap.size w w' := by
  have h0 : noneT (fun _ => False) w () := fun _ h => h
  have CU := fun (H : Nat → Prop) (W : World) (_ : noneT H W ()) => rp_unit_nil a.unit W
  have CO := fun (H : Nat → Prop) (W : World) (_ : noneT H W ()) => rp_order_nil W
  have CL0 := fun (H : Nat → Prop) (W : World) (_ : noneT H W ()) => rp_layout_nil W
  have fin : ∀ e w', TellsQ noneT (fun _ => False) w () (anP 1 0 noS 0) (fun ao cap => ao = none ∧ cap = 0) e w' → e = .returned (ansV (anP 1 0 noS 0) none 0) ∧ Below w.heap.size w w' := by
    rintro e w' ⟨ao, cap, C, ⟨rfl, rfl⟩, he, _, hl⟩
    exact ⟨he, noneT_below hl⟩
  have kin : ∀ {H : Nat → Prop} {W : World}, noneT H W () → (∀ W2, Kept (fun k => ¬ H k) W W2 → Kept (fun k => ¬ False) w W2) → AkIn W a := fun {H W} _ hk => by
    have h1 := hk W (Kept.refl _ W)
    exact ha.below (h1.toBelow (Nat.le_refl _) (fun k _ h => h))
  by_cases h1 : 1 ≤ a.kind ∧ a.kind ≤ 5
  · refine (rp_do_unit noneT_thing (fun _ => False) w () () h0 none none none none a (anP 1 0 noS 0) _ h1 CU CO CL0 (fun H W hH hk => ?_)).mono fin
    refine (HN W a (kin hH hk)).mono ?_
    rintro e w' ⟨he, hb⟩
    rw [he]
    exact TellsQ.none (x := anP 1 0 noS 0) (noneT_all hH hb) rfl
  by_cases h2 : 6 ≤ a.kind ∧ a.kind ≤ 8
  · refine (rp_do_order noneT_thing (fun _ => False) w () () h0 none none none none a (anP 1 0 noS 0) _ h2 CU CO CL0 (fun H W hH hk => ?_)).mono fin
    refine (on_nil_ask W a).mono ?_
    rintro e w' ⟨he, hb⟩
    rw [he]
    exact TellsQ.none (x := anP 1 0 noS 0) (noneT_all hH hb) rfl
  by_cases h3 : 9 ≤ a.kind ∧ a.kind ≤ 11
  · refine (rp_do_layout noneT_thing (fun _ => False) w () () h0 none none none none a (anP 1 0 noS 0) _ h3 CU CO CL0 (fun H W hH hk => ?_)).mono fin
    refine (HT.l.nil_ask W a (kin hH hk)).mono ?_
    rintro e w' ⟨he, hb⟩
    rw [he]
    exact TellsQ.none (x := anP 1 0 noS 0) (noneT_all hH hb) rfl
  · refine (rp_do_none noneT_thing (fun _ => False) w () () h0 none none none none a (anP 1 0 noS 0) (fun _ _ => True) (by omega) CU CO CL0).mono ?_
    rintro e w' ⟨he, hl⟩
    exact ⟨he, noneT_below hl⟩
theorem r_same {f : FuncId} {a : Array Value} {w : World} {v : Value} (h : Calls Tryz.prog f a w fun e w' => e = .returned v ∧ w = w') : Calls Tryz.prog f a w fun e w' => e = .returned v ∧ Below w.heap.size w w' := h.mono fun e w' ⟨h1, h2⟩ => ⟨h1, h2 ▸ Below.refl _ _⟩
theorem rpcSays_of (HT : Three UG OG LG) (HN : ∀ (w : World) (a : Ak), AkIn w a → Calls Tryz.prog 122 #[.pointer none, askV a] w fun e w' => e = .returned (anV 1 0 noS 0) ∧ Below w.heap.size w w') : RpcSays UG OG LG (RM UG OG LG) where
  units := HT.u
  order_ := HT.o
  layout_ := HT.l
  thing := rm_thing HT
  ok := by
    rintro b G w n ⟨A, ro, rl, B, h1, h2⟩
    refine ⟨fun i hi => ?_, ?_, ?_⟩
    · obtain ⟨F, hF, _⟩ := h2.look (i := i + 3) (by omega)
      exact HT.u.ok hF
    · obtain ⟨F, hF, _⟩ := h2.look (i := 1) (by omega)
      exact HT.o.ok hF
    · obtain ⟨F, hF, _⟩ := h2.look (i := 0) (by omega)
      exact HT.l.good hF
  new_bad := fun ep ao cap L room w h hl hg _ => rp_new_bad HT ep ao cap L room w h hl hg
  new_room := fun ep ao cap L room w h hl hg hr hi => rp_new_room HT ep ao cap L room w h hl hg hr hi
  new_yes := fun ep ao cap L room w h hl hg hr => rp_new_yes HT ep ao cap L room w h hl hg hr (i64w_small (by have := (goodB_iff.1 hg).1; omega))
  ask := fun b G w n a h ha hL hs hu hA => rm_ask HT b G w n a h ha hL hs hu hA
  unit := by
    intro b G w n i h hi
    obtain ⟨A, ro, rl, B, h⟩ := h.rt
    refine (rp_unit_yes hi (h.atU hi)).mono ?_
    rintro e w' ⟨he, rfl⟩
    obtain ⟨F, hF, hFG, hbu⟩ := h.2.use (fun i _ => nodeP_part HT b A ro rl B n i) (i := i + 3) (by omega)
    exact ⟨(B i).1, (B i).2, he, Below.refl _ _, F, hF, hFG, fun W u' hl => hbu (UG (B i).1 (B i).2) (RM UG OG LG b) W _ (n.putU i u') (fun G' W h2 => RT.rm (rt_putU h.1 h2)) hl⟩
  unit_no := fun b G w n i h hi _ => r_same (rp_unit_no b i hi w)
  order := by
    intro b G w n h
    obtain ⟨A, ro, rl, B, h⟩ := h.rt
    refine (rp_order h.atO).mono ?_
    rintro e w' ⟨he, rfl⟩
    obtain ⟨F, hF, hFG, hbu⟩ := h.2.use (fun i _ => nodeP_part HT b A ro rl B n i) (i := 1) (by omega)
    exact ⟨ro, he, Below.refl _ _, F, hF, hFG, fun W o' hl => hbu (OG ro) (RM UG OG LG b) W _ (n.putO o') (fun G' W h2 => RT.rm (rt_putO h.1 h2)) hl⟩
  layout := by
    intro b G w n h
    obtain ⟨A, ro, rl, B, h⟩ := h.rt
    refine (rp_layout h.atL).mono ?_
    rintro e w' ⟨he, rfl⟩
    obtain ⟨F, hF, hFG, hbu⟩ := h.2.use (fun i _ => nodeP_part HT b A ro rl B n i) (i := 0) (by omega)
    exact ⟨rl, he, Below.refl _ _, F, hF, hFG, fun W l' hl => hbu (LG rl) (RM UG OG LG b) W _ (n.putL l') (fun G' W h2 => RT.rm (rt_putL h.1 h2)) hl⟩
  nil_ask := fun a w ha => rm_nil_ask HT HN a w ha
  nil_unit := fun i w _ => r_same (rp_unit_nil i w)
  nil_order := fun w => r_same (rp_order_nil w)
  nil_layout := fun w => r_same (rp_layout_nil w)
end
end Go.Proofs.YtchhmfdalghgcaaGreat
namespace Go.Proofs.YtchhmfdalghgcaaGreat
set_option linter.unusedVariables false
open Go.RowKit
set_option maxRecDepth 20000
theorem ans_noL (n : Nd) (k : Ak) (h : 1 ≤ k.kind ∧ k.kind ≤ 8) : (n.ans k).L = [] ∧ (n.ans k).pe = 0 := by
  unfold Nd.ans
  split
  · split
    · unfold Us.ans
      repeat' split
      all_goals exact ⟨rfl, rfl⟩
    · exact ⟨rfl, rfl⟩
  · split
    · unfold Od.ans
      repeat' split
      all_goals exact ⟨rfl, rfl⟩
    · omega
theorem heard_noL (h : Hd) (k : Ak) (fate : Int) (hk : 1 ≤ k.kind ∧ k.kind ≤ 8) : (h.heard k fate).L = [] ∧ (h.heard k fate).pe = 0 := by
  unfold Hd.heard
  split
  · exact ans_noL h.n k hk
  · exact ⟨rfl, rfl⟩
section
variable {UG : Nat → Nat → (Nat → Prop) → World → Us → Prop} {OG : Nat → (Nat → Prop) → World → Od → Prop} {LG : Nat → (Nat → Prop) → World → Ly → Prop} {NG : Nat → (Nat → Prop) → World → Nd → Prop} {HG : Nat → Nat → (Nat → Prop) → World → Hd → Prop}
variable {X : Nat → Prop} {w w' : World} {b nb : Nat} {h : Hd}
theorem hs_ask {β : Type} {U : (Nat → Prop) → World → β → Prop} {u : β} (HS : HandSays UG OG LG NG HG) (hU : Thing U) (hs : Side (HG b nb) U X w h u) {k un e p fate : Int} {s : ByteArray} (hk : 1 ≤ k ∧ k ≤ 8) (hu : i64w un) (he : i64w e) (hp : i64w p) (hd : s.size ≤ 1000000) (hl : h.n.l.used.length ≤ 100000) (hf : i64w fate) :
    Calls Tryz.prog 9 #[.pointer (some ⟨b, 0, none⟩), .agg #[.int .i64 k, .int .i64 un, .int .i64 e, .int .i64 p, .int .i64 0, .int .i64 0, .string s, .int .i64 0, .slice none 0 0], .int .i64 fate] w fun e2 w' => ∃ (xc xn xm xz xe : Int) (xd : ByteArray) (vo : Option Addr) (vc : Nat) (c : Bool),
      c = decide (fate = 0) ∧ e2 = .returned (.tuple #[.agg #[.int .i64 xc, .int .i64 xn, .string xd, .int .i64 0, .slice vo 0 vc, .int .i64 xm, .int .i64 xz, .int .i64 xe], .bool c]) ∧ h.heard (akN k un e p s) fate = ⟨xc, xn, xd, 0, [], xm, xz, xe⟩ ∧ Side (HG b nb) U X w' (h.asked (akN k un e p s) fate) u ∧ Kept X w w' := by
  have ho : AkOk (akN k un e p s) := akN_ok (i64w_small (by omega)) hu he hp hd
  refine (side_told (mk := heardT (h.heard (akN k un e p s) fate) (decide (fate = 0))) (x := h.heard (akN k un e p s) fate) (a' := h.asked (akN k un e p s) fate) (HS.thing b nb) hU hs (fun F hF hX => HS.ask b nb F w h (akN k un e p s) fate hF ho few_nil hd hl hf (fun W _ => CL.nil _ _))).mono ?_
  rintro e2 w' ⟨ao, cap, C, rfl, _, h1, h2⟩
  obtain ⟨g1, g2⟩ := heard_noL h (akN k un e p s) fate hk
  generalize h.heard (akN k un e p s) fate = x at *
  obtain ⟨xc, xn, xd, xp, xL, xm, xz, xe⟩ := x
  simp only at g1 g2
  subst g1 g2
  exact ⟨xc, xn, xm, xz, xe, xd, ao, cap, _, rfl, rfl, rfl, h1.less (fun k hk => .inl hk), h2⟩
theorem ho_ask (HS : HandSays UG OG LG NG HG) (hs : Solo (HG b nb) X w h) {k un e p fate : Int} {s : ByteArray} (hk : 1 ≤ k ∧ k ≤ 8) (hu : i64w un) (he : i64w e) (hp : i64w p) (hd : s.size ≤ 1000000) (hl : h.n.l.used.length ≤ 100000) (hf : i64w fate) :
    Calls Tryz.prog 9 #[.pointer (some ⟨b, 0, none⟩), .agg #[.int .i64 k, .int .i64 un, .int .i64 e, .int .i64 p, .int .i64 0, .int .i64 0, .string s, .int .i64 0, .slice none 0 0], .int .i64 fate] w fun e2 w' => ∃ (xc xn xm xz xe : Int) (xd : ByteArray) (vo : Option Addr) (vc : Nat) (c : Bool),
      c = decide (fate = 0) ∧ e2 = .returned (.tuple #[.agg #[.int .i64 xc, .int .i64 xn, .string xd, .int .i64 0, .slice vo 0 vc, .int .i64 xm, .int .i64 xz, .int .i64 xe], .bool c]) ∧ h.heard (akN k un e p s) fate = ⟨xc, xn, xd, 0, [], xm, xz, xe⟩ ∧ Solo (HG b nb) X w' (h.asked (akN k un e p s) fate) ∧ Kept X w w' := by
  have ho : AkOk (akN k un e p s) := akN_ok (i64w_small (by omega)) hu he hp hd
  refine (solo_told (mk := heardT (h.heard (akN k un e p s) fate) (decide (fate = 0))) (x := h.heard (akN k un e p s) fate) (a' := h.asked (akN k un e p s) fate) (HS.thing b nb) hs (fun F hF hX => HS.ask b nb F w h (akN k un e p s) fate hF ho few_nil hd hl hf (fun W _ => CL.nil _ _))).mono ?_
  rintro e2 w' ⟨ao, cap, C, rfl, _, h1, h2⟩
  obtain ⟨g1, g2⟩ := heard_noL h (akN k un e p s) fate hk
  generalize h.heard (akN k un e p s) fate = x at *
  obtain ⟨xc, xn, xd, xp, xL, xm, xz, xe⟩ := x
  simp only at g1 g2
  subst g1 g2
  exact ⟨xc, xn, xm, xz, xe, xd, ao, cap, _, rfl, rfl, rfl, h1.less (fun k hk => .inl hk), h2⟩
/-- the pages of the i-th unit -/
theorem ho_nodes (HS : HandSays UG OG LG NG HG) (hs : Solo (HG b nb) X w h) :
    Calls Tryz.prog 12 #[.pointer (some ⟨b, 0, none⟩)] w fun e w' => e = .returned (.pointer (some ⟨nb, 0, none⟩)) ∧ Solo (HG b nb) X w' h ∧ Below w.heap.size w w' := by
  obtain ⟨_, F, hF, _⟩ := id hs
  exact (HS.nodes b nb F w h hF).mono fun e w' ⟨he, hb⟩ => ⟨he, hs.below (HS.thing b nb) hb, hb⟩
end
end Go.Proofs.YtchhmfdalghgcaaGreat
