/- What the program's unit answers a question to its pages. Conditions: it and the question lie where the call was told; the question's data are not too long. (Written by gen/genunpb.py.) The world in the Do of the document's own layout: the question, the answers, the layout. No conditions but those that the statements name. The program's layout in memory: the projection that counts, the set of units that were used, the image. No conditions but those that the statements name. A thing and chains that a call handed out, as one thing: what a call that tells chains leaves. Conditions: as each statement says. -/
import Derived.Test.YtchhmfdalghgcaaGreatG15a
import Derived.Test.YtchhmfdalghgcaaGreatG08b
import Derived.StillTailTactics
import Derived.Test.YtchhmfdalghgcaaGreatG15b
import Derived.Test.YtchhmfdalghgcaaGreatG13a
import Derived.Test.YtchhmfdalghgcaaGreatG14b
import Derived.Test.YtchhmfdalghgcaaGreatG13b
import Derived.Test.YtchhmfdalghgcaaGreatG04a
set_option linter.unusedVariables false
namespace Go.Proofs.YtchhmfdalghgcaaGreat
set_option linter.unusedVariables false
open Go.RowKit
set_option maxRecDepth 20000
theorem coded_ag (c : Int) (w : World) : Calls Tryz.prog 123 #[.int .i64 c] w fun e w' => e = .returned (.agg #[.int .i64 c, .int .i64 0, .string ⟨#[]⟩, .int .i64 0, .slice none 0 0, .int .i64 0, .int .i64 0, .int .i64 0]) ∧ Below w.heap.size w w' := coded_any c w
set_option maxHeartbeats 8000000 in
theorem un_write (b q : Nat) (G : Nat → Prop) (w : World) (u : Us) (a : Ak) (h : UM b q G w u) (hs : a.data.size ≤ 1000000) :
    Calls Tryz.prog 126 #[ptrV b, askV a] w fun e w' => e = .returned (anV (u.p.writeE a.page a.data) 0 noS 0) ∧ Leaves (UM b q) G w w' ⟨u.p.write a.page a.data, u.epoch, u.down⟩ := by
  obtain ⟨k, un, ep, pg, sz, n, s, pe, L, ao, cap⟩ := a
  obtain ⟨p, ue, dn⟩ := u
  simp only at *
  have CC := Lib.hid coded_ag
  have HS := Lib.hid (boxed_start (um_thing b q) h #[.int .i64 k, .int .i64 un, .int .i64 ep, .int .i64 pg, .int .i64 sz, .int .i64 n, .string s, .int .i64 pe, .slice ao L.length cap])
  unfold zeroAn at HS
  have hbw := h.small
  clear h
  show Calls _ _ #[.pointer (some ⟨b, 0, none⟩), .agg #[.int .i64 k, .int .i64 un, .int .i64 ep, .int .i64 pg, .int .i64 sz, .int .i64 n, .string s, .int .i64 pe, .slice ao L.length cap]] w _
  go_enter Tryz.func126, Tryz.ntmps126
  go_wp2_with fail
  generalize hW0 : ((w.alloc (.cells #[.int .i64 k, .int .i64 un, .int .i64 ep, .int .i64 pg, .int .i64 sz, .int .i64 n, .string s, .int .i64 pe, .slice ao L.length cap] 37)).alloc (.cells #[.int .i64 0, .int .i64 0, .string ⟨#[]⟩, .int .i64 0, .slice none 0 0, .int .i64 0, .int .i64 0, .int .i64 0] 33)) = W0 at *
  clear hW0
  obtain ⟨l1, l2⟩ := HS.out.small
  obtain ⟨H, hH, hU⟩ := (HS.out.drewN (um_thing b q) 1).use
  have x3 : W0.cell? ⟨w.heap.size, 3, none⟩ = some (.int .i64 pg) := cell_of HS.out.ask 3
  have x6 : W0.cell? ⟨w.heap.size, 6, none⟩ = some (.string s) := cell_of HS.out.ask 6
  have c0 : W0.cell? ⟨b, 0, none⟩ = some (.pointer (some ⟨q, 0, none⟩)) := (three_cells hH.cells).1
  have hb : b < W0.heap.size := hH.small
  obtain ⟨F, hF, hok, hnx⟩ := hH.ready
  have HNX := Lib.hid (fun W2 p' h1 h2 => hU W2 _ (hnx W2 p' h1 h2))
  clear hnx hU hH
  go_still_tail 8, (by kernel_rfl)
  change wpList _ _ _ _ _ W0.drew
  go_wp2_with (first | (go_at_call 131; refine (pwrite_any F _ q p pg s hF hok hs).mono ?_; rintro e w2 ⟨rfl, hl⟩; have HT2 := Lib.hid (HNX.out _ _ (hok.write pg s) hl); clear hl) | (go_at_call 123; refine (CC.out _ _).mono ?_; rintro e w3 ⟨rfl, hb3⟩; have HT3 := Lib.hid (HT2.out.below (um_thing b q) hb3); clear hb3; obtain ⟨nl1, nl2⟩ := HT3.out.small; obtain ⟨⟨ny0, ny1, ny2, ny3, ny4, ny5, ny6, ny7⟩, nfy0, nfy1, nfy2, nfy3, nfy4, nfy5, nfy6, nfy7⟩ := eight_cells HT3.out.ans))
  exact ans_ret (x := anP (p.writeE pg s) 0 noS 0) (ao := none) (cap := 0) rfl (HT3.out.fin (um_thing b q)).1 rfl rfl ⟨rfl, (HT3.out.fin (um_thing b q)).2⟩
set_option maxHeartbeats 8000000 in
theorem un_fill (b q : Nat) (G : Nat → Prop) (w : World) (u : Us) (a : Ak) (h : UM b q G w u) :
    Calls Tryz.prog 127 #[ptrV b, askV a] w fun e w' => e = .returned (anV (u.p.fillE a.page) 0 noS 0) ∧ Leaves (UM b q) G w w' ⟨u.p.fill a.page, u.epoch, u.down⟩ := by
  obtain ⟨k, un, ep, pg, sz, n, s, pe, L, ao, cap⟩ := a
  obtain ⟨p, ue, dn⟩ := u
  simp only at *
  have CC := Lib.hid coded_ag
  have HS := Lib.hid (boxed_start (um_thing b q) h #[.int .i64 k, .int .i64 un, .int .i64 ep, .int .i64 pg, .int .i64 sz, .int .i64 n, .string s, .int .i64 pe, .slice ao L.length cap])
  unfold zeroAn at HS
  have hbw := h.small
  clear h
  show Calls _ _ #[.pointer (some ⟨b, 0, none⟩), .agg #[.int .i64 k, .int .i64 un, .int .i64 ep, .int .i64 pg, .int .i64 sz, .int .i64 n, .string s, .int .i64 pe, .slice ao L.length cap]] w _
  go_enter Tryz.func127, Tryz.ntmps127
  go_wp2_with fail
  generalize hW0 : ((w.alloc (.cells #[.int .i64 k, .int .i64 un, .int .i64 ep, .int .i64 pg, .int .i64 sz, .int .i64 n, .string s, .int .i64 pe, .slice ao L.length cap] 37)).alloc (.cells #[.int .i64 0, .int .i64 0, .string ⟨#[]⟩, .int .i64 0, .slice none 0 0, .int .i64 0, .int .i64 0, .int .i64 0] 33)) = W0 at *
  clear hW0
  obtain ⟨l1, l2⟩ := HS.out.small
  obtain ⟨H, hH, hU⟩ := (HS.out.drewN (um_thing b q) 1).use
  have x3 : W0.cell? ⟨w.heap.size, 3, none⟩ = some (.int .i64 pg) := cell_of HS.out.ask 3
  have x6 : W0.cell? ⟨w.heap.size, 6, none⟩ = some (.string s) := cell_of HS.out.ask 6
  have c0 : W0.cell? ⟨b, 0, none⟩ = some (.pointer (some ⟨q, 0, none⟩)) := (three_cells hH.cells).1
  have hb : b < W0.heap.size := hH.small
  obtain ⟨F, hF, hok, hnx⟩ := hH.ready
  have HNX := Lib.hid (fun W2 p' h1 h2 => hU W2 _ (hnx W2 p' h1 h2))
  clear hnx hU hH
  go_still_tail 6, (by kernel_rfl)
  change wpList _ _ _ _ _ W0.drew
  go_wp2_with (first | (go_at_call 132; refine (pfill_any F _ q p pg hF hok).mono ?_; rintro e w2 ⟨rfl, hl⟩; have HT2 := Lib.hid (HNX.out _ _ (hok.fill pg) hl); clear hl) | (go_at_call 123; refine (CC.out _ _).mono ?_; rintro e w3 ⟨rfl, hb3⟩; have HT3 := Lib.hid (HT2.out.below (um_thing b q) hb3); clear hb3; obtain ⟨nl1, nl2⟩ := HT3.out.small; obtain ⟨⟨ny0, ny1, ny2, ny3, ny4, ny5, ny6, ny7⟩, nfy0, nfy1, nfy2, nfy3, nfy4, nfy5, nfy6, nfy7⟩ := eight_cells HT3.out.ans))
  exact ans_ret (x := anP (p.fillE pg) 0 noS 0) (ao := none) (cap := 0) rfl (HT3.out.fin (um_thing b q)).1 rfl rfl ⟨rfl, (HT3.out.fin (um_thing b q)).2⟩
set_option maxHeartbeats 8000000 in
theorem un_trim (b q : Nat) (G : Nat → Prop) (w : World) (u : Us) (a : Ak) (h : UM b q G w u) (hw : i64w a.page) :
    Calls Tryz.prog 129 #[ptrV b, askV a] w fun e w' => e = .returned (anV (Ps.trimE a.page) 0 noS 0) ∧ Leaves (UM b q) G w w' ⟨u.p.trim a.page, u.epoch, u.down⟩ := by
  obtain ⟨k, un, ep, pg, sz, n, s, pe, L, ao, cap⟩ := a
  obtain ⟨p, ue, dn⟩ := u
  simp only at *
  have CC := Lib.hid coded_ag
  have HS := Lib.hid (boxed_start (um_thing b q) h #[.int .i64 k, .int .i64 un, .int .i64 ep, .int .i64 pg, .int .i64 sz, .int .i64 n, .string s, .int .i64 pe, .slice ao L.length cap])
  unfold zeroAn at HS
  have hbw := h.small
  clear h
  show Calls _ _ #[.pointer (some ⟨b, 0, none⟩), .agg #[.int .i64 k, .int .i64 un, .int .i64 ep, .int .i64 pg, .int .i64 sz, .int .i64 n, .string s, .int .i64 pe, .slice ao L.length cap]] w _
  go_enter Tryz.func129, Tryz.ntmps129
  go_wp2_with fail
  generalize hW0 : ((w.alloc (.cells #[.int .i64 k, .int .i64 un, .int .i64 ep, .int .i64 pg, .int .i64 sz, .int .i64 n, .string s, .int .i64 pe, .slice ao L.length cap] 37)).alloc (.cells #[.int .i64 0, .int .i64 0, .string ⟨#[]⟩, .int .i64 0, .slice none 0 0, .int .i64 0, .int .i64 0, .int .i64 0] 33)) = W0 at *
  clear hW0
  obtain ⟨l1, l2⟩ := HS.out.small
  obtain ⟨H, hH, hU⟩ := (HS.out.drewN (um_thing b q) 1).use
  have x3 : W0.cell? ⟨w.heap.size, 3, none⟩ = some (.int .i64 pg) := cell_of HS.out.ask 3
  have x6 : W0.cell? ⟨w.heap.size, 6, none⟩ = some (.string s) := cell_of HS.out.ask 6
  have c0 : W0.cell? ⟨b, 0, none⟩ = some (.pointer (some ⟨q, 0, none⟩)) := (three_cells hH.cells).1
  have hb : b < W0.heap.size := hH.small
  obtain ⟨F, hF, hok, hnx⟩ := hH.ready
  have HNX := Lib.hid (fun W2 p' h1 h2 => hU W2 _ (hnx W2 p' h1 h2))
  clear hnx hU hH
  go_still_tail 6, (by kernel_rfl)
  change wpList _ _ _ _ _ W0.drew
  go_wp2_with (first | (go_at_call 134; refine (ptrim_any F _ q p pg hF hok (i64_of_wf hw)).mono ?_; rintro e w2 ⟨rfl, hl⟩; have HT2 := Lib.hid (HNX.out _ _ (hok.trim pg) hl); clear hl) | (go_at_call 123; refine (CC.out _ _).mono ?_; rintro e w3 ⟨rfl, hb3⟩; have HT3 := Lib.hid (HT2.out.below (um_thing b q) hb3); clear hb3; obtain ⟨nl1, nl2⟩ := HT3.out.small; obtain ⟨⟨ny0, ny1, ny2, ny3, ny4, ny5, ny6, ny7⟩, nfy0, nfy1, nfy2, nfy3, nfy4, nfy5, nfy6, nfy7⟩ := eight_cells HT3.out.ans))
  exact ans_ret (x := anP (Ps.trimE pg) 0 noS 0) (ao := none) (cap := 0) rfl (HT3.out.fin (um_thing b q)).1 rfl rfl ⟨rfl, (HT3.out.fin (um_thing b q)).2⟩
end Go.Proofs.YtchhmfdalghgcaaGreat
namespace Go.Proofs.YtchhmfdalghgcaaGreat
set_option linter.unusedVariables false
open Go.RowKit
set_option maxRecDepth 20000
def zeroA : Array Value := #[.int .i64 0, .int .i64 0, .string ⟨#[]⟩, .int .i64 0, .slice none 0 0, .int .i64 0, .int .i64 0, .int .i64 0]
def xN (X : Option (Array Value)) : Nat := if X.isSome then 1 else 0
/-- the world in which Do has laid out the question, the answer, and one more answer -/
structure LdW (w W : World) (r : Nat) (G H : Nat → Prop) (y : Ly) (a : Ak) (Y : Array Value) (X : Option (Array Value)) : Prop where
  ask : W.heap[w.heap.size]? = some (.cells (askC a).toArray 37 (0, 0))
  zero : W.heap[w.heap.size + 1]? = some (.cells Y 33 (0, 0))
  xs : ∀ Z, X = some Z → W.heap[w.heap.size + 1 + 1]? = some (.cells Z 33 (0, 0))
  rl : RL r H W y
  hs : ∀ k, H k → G k ∨ w.heap.size + 1 + xN X < k
  kp : Kept (fun k => ¬ G k) w W
  lt : ∀ k, G k → k < w.heap.size
  rg : G r
section
variable {w W : World} {r : Nat} {G H : Nat → Prop} {y : Ly} {a : Ak} {Y Z : Array Value} {X : Option (Array Value)}
theorem LdW.below (h : LdW w W r G H y a Y X) {W2 : World} (hb : Below W.heap.size W W2) : LdW w W2 r G H y a Y X := by
  exact ⟨below_heap hb h.ask, below_heap hb h.zero, fun Z e => below_heap hb (h.xs Z e), (rl_thing r).keep h.rl (Kept.ofBelow hb (fun _ => True)) (fun _ _ => trivial), h.hs, h.kp.below hb, h.lt, h.rg⟩
theorem LdW.drew (h : LdW w W r G H y a Y X) : LdW w W.drew r G H y a Y X := h.below (Below.refl _ _).drew
theorem LdW.drewN (h : LdW w W r G H y a Y X) (n : Nat) : LdW w (W.drewN n) r G H y a Y X := h.below (below_drewN (Below.refl _ _) n)
theorem LdW.small (h : LdW w W r G H y a Y X) : w.heap.size < W.heap.size ∧ w.heap.size + 1 < W.heap.size ∧ r < w.heap.size := ⟨lt_of_block h.ask, lt_of_block h.zero, h.lt r h.rg⟩
/-- one more answer -/
theorem LdW.more (h : LdW w W r G H y a Y none) (hz : W.heap.size = w.heap.size + 1 + 1) (Z : Array Value) : LdW w (W.alloc (.cells Z 33)) r G H y a Y (some Z) := by
  have h' := h.below (below_new W (.cells Z 33))
  have h1 := h.rl
  have h2 := h.hs
  refine ⟨h'.ask, h'.zero, fun Z' e => ?_, h'.rl, fun k hk => ?_, h'.kp, h.lt, h.rg⟩
  · cases e
    rw [← hz]
    exact heap_alloc_new _ _
  · have hl := (rl_thing r).lt h1 k hk
    rcases h2 k hk with h3 | h3
    · exact .inl h3
    · unfold xN at h3
      simp at h3
      omega
theorem LdW.leaves (h : LdW w W r G H y a Y X) : Leaves (RL r) G w W y := by
  exact ⟨H, h.rl, h.kp, fun k hk => (h.hs k hk).imp id (fun h => by omega)⟩
/-- the answer is written -/
theorem LdW.put (h : LdW w W r G H y a Y X) (i : Nat) (v : Value) : LdW w (W.setCell ⟨w.heap.size + 1, i, none⟩ v) r G H y a (Y.setIfInBounds i v) X := by
  have hk : Kept (fun k => k ≠ w.heap.size + 1) W (W.setCell ⟨w.heap.size + 1, i, none⟩ v) := (Kept.refl _ W).setCell (p := ⟨w.heap.size + 1, i, none⟩) (fun h => h rfl) v
  refine ⟨hk.heap (by omega) h.ask, heap_setCell_same W _ i Y _ v h.zero, fun Z e => hk.heap (by omega) (h.xs Z e), (rl_thing r).keep h.rl hk (fun k hh e => ?_), h.hs, kept_new h.kp (by omega) v, h.lt, h.rg⟩
  rcases h.hs k hh with h3 | h3
  · have := h.lt k h3; omega
  · omega
/-- the layout's own cells are written: it is y' then -/
theorem LdW.turn (h : LdW w W r G H y a Y X) {W2 : World} {y' : Ly} (hk : Kept (fun k => k ≠ r) W W2) (hr : ∃ H' : Nat → Prop, RL r H' W2 y' ∧ ∀ k, H' k → H k ∨ W.heap.size ≤ k) : ∃ H' : Nat → Prop, LdW w W2 r G H' y' a Y X := by
  have hs := h.small
  obtain ⟨H', r1, r2⟩ := hr
  refine ⟨H', hk.heap (by omega) h.ask, hk.heap (by omega) h.zero, fun Z e => hk.heap (by have := lt_of_block (h.xs Z e); omega) (h.xs Z e), r1, fun k hk2 => ?_, h.kp.trans (hk.mono (fun k hn e => hn (e ▸ h.rg))), h.lt, h.rg⟩
  rcases r2 k hk2 with h3 | h3
  · exact h.hs k h3
  · refine .inr ?_
    cases X with
    | none => unfold xN; simp; omega
    | some Z => have := lt_of_block (h.xs Z rfl); unfold xN; simp; omega
/-- a copy of the projection is laid into the layout -/
theorem RL.chains (h : RL r H W y) {W2 : World} (hb : Below W.heap.size W W2) {e : Int} {v : Value} {L : List (List Int)} (hO : OC W2 W.heap.size v L) (hg : goodB e L = true) :
    ∃ H' : Nat → Prop, RL r H' ((W2.setCell ⟨r, 0, none⟩ (.int .i64 e)).setCell ⟨r, 1, none⟩ v) ⟨e, L, y.used, y.mark, y.size, y.n⟩ ∧ ∀ k, H' k → H k ∨ W.heap.size ≤ k := by
  obtain ⟨⟨k, hok⟩, h1, v0, u, F, h2, h3, h4, h5, h6, h7⟩ := h
  have hr := lt_of_block h2
  have hk : Kept (fun k => k ≠ r) W2 ((W2.setCell ⟨r, 0, none⟩ (.int .i64 e)).setCell ⟨r, 1, none⟩ v) := ((Kept.refl _ W2).setCell (p := ⟨r, 0, none⟩) (fun h => h rfl) _).setCell (p := ⟨r, 1, none⟩) (fun h => h rfl) _
  have e1 := below_heap hb h2
  have e2 := heap_setCell_same W2 r 0 _ _ (.int .i64 e) e1
  have e3 := heap_setCell_same _ r 1 _ _ v e2
  refine ⟨fun k => H k ∨ (W.heap.size ≤ k ∧ k < W2.heap.size), ⟨⟨k, hg, hok.few, hok.n, hok.mark, hok.size⟩, .inl h1, v, u, fun k => F k ∨ (W.heap.size ≤ k ∧ k < W2.heap.size), e3, ?_, ?_, fun k hk => hk.imp (h5 k) id, fun hf => ?_, fun k hk2 => ?_⟩, fun k hk2 => hk2.imp id (fun h => h.1)⟩
  · exact ((CG.of hO).keep hk (fun k hk => by omega)).mono (fun k hk => .inr hk)
  · exact ((h4.keep (Kept.ofBelow hb (fun _ => True)) (fun _ _ => trivial)).keep hk (fun k hk e => h6 (e ▸ hk))).mono (fun k hk => .inl hk)
  · rcases hf with hf | hf
    · exact h6 hf
    · omega
  · have hs : ((W2.setCell ⟨r, 0, none⟩ (.int .i64 e)).setCell ⟨r, 1, none⟩ v).heap.size = W2.heap.size := by simp [World.setCell]
    rw [hs]
    rcases hk2 with hk2 | hk2
    · exact Nat.lt_of_lt_of_le (h7 k hk2) hb.size
    · exact hk2.2
/-- more units are noted -/
theorem RL.more (h : RL r H W y) {W2 : World} (hb : Below W.heap.size W W2) {v : Value} {U : List Int} (hO : OI W2 W.heap.size v U) :
    ∃ H' : Nat → Prop, RL r H' (W2.setCell ⟨r, 2, none⟩ v) ⟨y.ep, y.L, U, y.mark, y.size, y.n⟩ ∧ ∀ k, H' k → H k ∨ W.heap.size ≤ k := by
  obtain ⟨⟨k, hok⟩, h1, v0, u, F, h2, h3, h4, h5, h6, h7⟩ := h
  have hr := lt_of_block h2
  have hk : Kept (fun k => k ≠ r) W2 (W2.setCell ⟨r, 2, none⟩ v) := (Kept.refl _ W2).setCell (p := ⟨r, 2, none⟩) (fun h => h rfl) _
  have e1 := below_heap hb h2
  have e2 := heap_setCell_same W2 r 2 _ _ v e1
  refine ⟨fun k => H k ∨ (W.heap.size ≤ k ∧ k < W2.heap.size), ⟨⟨U.length, hok.good, Nat.le_refl _, hok.n, hok.mark, hok.size⟩, .inl h1, v0, v, fun k => F k ∨ (W.heap.size ≤ k ∧ k < W2.heap.size), e2, ?_, ?_, fun k hk => hk.imp (h5 k) id, fun hf => ?_, fun k hk2 => ?_⟩, fun k hk2 => hk2.imp id (fun h => h.1)⟩
  · exact ((h3.keep (Kept.ofBelow hb (fun _ => True)) (fun _ _ => trivial)).keep hk (fun k hk e => h6 (e ▸ hk))).mono (fun k hk => .inl hk)
  · exact ((UG1.of hO).keep hk (fun k hk => by omega)).mono (fun k hk => .inr hk)
  · rcases hf with hf | hf
    · exact h6 hf
    · omega
  · have hs : (W2.setCell ⟨r, 2, none⟩ v).heap.size = W2.heap.size := by simp [World.setCell]
    rw [hs]
    rcases hk2 with hk2 | hk2
    · exact Nat.lt_of_lt_of_le (h7 k hk2) hb.size
    · exact hk2.2
/-- an image is marked -/
theorem RL.mark (h : RL r H W y) {m z n : Int} (hm : 0 ≤ m ∧ m < 16384) (hz : 1 ≤ z ∧ z ≤ 65536) (hn : 0 ≤ n ∧ n ≤ 16384) :
    ∃ H' : Nat → Prop, RL r H' (((W.setCell ⟨r, 3, none⟩ (.int .i64 m)).setCell ⟨r, 4, none⟩ (.int .i64 z)).setCell ⟨r, 5, none⟩ (.int .i64 n)) ⟨y.ep, y.L, y.used, m, z, n⟩ ∧ ∀ k, H' k → H k ∨ W.heap.size ≤ k := by
  obtain ⟨⟨k, hok⟩, h1, v0, u, F, h2, h3, h4, h5, h6, h7⟩ := h
  have hk : Kept (fun k => k ≠ r) W (((W.setCell ⟨r, 3, none⟩ (.int .i64 m)).setCell ⟨r, 4, none⟩ (.int .i64 z)).setCell ⟨r, 5, none⟩ (.int .i64 n)) := (((Kept.refl _ W).setCell (p := ⟨r, 3, none⟩) (fun h => h rfl) _).setCell (p := ⟨r, 4, none⟩) (fun h => h rfl) _).setCell (p := ⟨r, 5, none⟩) (fun h => h rfl) _
  have e1 := heap_setCell_same _ r 5 _ _ (.int .i64 n) (heap_setCell_same _ r 4 _ _ (.int .i64 z) (heap_setCell_same W r 3 _ _ (.int .i64 m) h2))
  refine ⟨H, ⟨⟨k, hok.good, hok.few, ⟨by show -1 ≤ n; omega, hn.2⟩, ⟨by show -1 ≤ m; omega, by show m ≤ 16384; omega⟩, ⟨by show 0 ≤ z; omega, hz.2⟩⟩, h1, v0, u, F, e1, h3.keep hk (fun k hk e => h6 (e ▸ hk)), h4.keep hk (fun k hk e => h6 (e ▸ hk)), h5, h6, fun k hk2 => by simpa [World.setCell] using h7 k hk2⟩, fun k hk2 => .inl hk2⟩
/-- the same, whatever stands in the answer -/
def LdE (w W : World) (r : Nat) (G H : Nat → Prop) (y : Ly) (a : Ak) (X : Option (Array Value)) : Prop := ∃ u0 u1 u2 u3 u4 u5 u6 u7, LdW w W r G H y a #[u0, u1, u2, u3, u4, u5, u6, u7] X
theorem LdE.below (h : LdE w W r G H y a X) {W2 : World} (hb : Below W.heap.size W W2) : LdE w W2 r G H y a X := by
  obtain ⟨u0, u1, u2, u3, u4, u5, u6, u7, h⟩ := h
  exact ⟨u0, u1, u2, u3, u4, u5, u6, u7, h.below hb⟩
theorem LdW.any (h : LdW w W r G H y a zeroA X) : LdE w W r G H y a X := ⟨_, _, _, _, _, _, _, _, h⟩
/-- the whole answer is written -/
theorem LdE.eight (h : LdE w W r G H y a X) (v0 v1 v2 v3 v4 v5 v6 v7 : Value) : LdW w ((((((((W.setCell ⟨w.heap.size + 1, 0, none⟩ v0).setCell ⟨w.heap.size + 1, 1, none⟩ v1).setCell ⟨w.heap.size + 1, 2, none⟩ v2).setCell ⟨w.heap.size + 1, 3, none⟩ v3).setCell ⟨w.heap.size + 1, 4, none⟩ v4).setCell ⟨w.heap.size + 1, 5, none⟩ v5).setCell ⟨w.heap.size + 1, 6, none⟩ v6).setCell ⟨w.heap.size + 1, 7, none⟩ v7) r G H y a #[v0, v1, v2, v3, v4, v5, v6, v7] X := by
  obtain ⟨u0, u1, u2, u3, u4, u5, u6, u7, h⟩ := h
  have h1 := (((((((h.put 0 v0).put 1 v1).put 2 v2).put 3 v3).put 4 v4).put 5 v5).put 6 v6).put 7 v7
  exact ⟨h1.ask, eight_set7 (eight_set6 (eight_set5 (eight_set4 (eight_set3 (eight_set2 (eight_set1 (eight_set0 h.zero v0) v1) v2) v3) v4) v5) v6) v7, h1.xs, h1.rl, h1.hs, h1.kp, h1.lt, h1.rg⟩
theorem LdE.cells (h : LdE w W r G H y a X) : ∃ u0 u1 u2 u3 u4 u5 u6 u7, (W.cell? ⟨w.heap.size + 1, 0, none⟩ = some u0 ∧ W.cell? ⟨w.heap.size + 1, 1, none⟩ = some u1 ∧ W.cell? ⟨w.heap.size + 1, 2, none⟩ = some u2 ∧ W.cell? ⟨w.heap.size + 1, 3, none⟩ = some u3 ∧ W.cell? ⟨w.heap.size + 1, 4, none⟩ = some u4 ∧ W.cell? ⟨w.heap.size + 1, 5, none⟩ = some u5 ∧ W.cell? ⟨w.heap.size + 1, 6, none⟩ = some u6 ∧ W.cell? ⟨w.heap.size + 1, 7, none⟩ = some u7) ∧
    W.frozen? ⟨w.heap.size + 1, 0, none⟩ = false ∧ W.frozen? ⟨w.heap.size + 1, 1, none⟩ = false ∧ W.frozen? ⟨w.heap.size + 1, 2, none⟩ = false ∧ W.frozen? ⟨w.heap.size + 1, 3, none⟩ = false ∧ W.frozen? ⟨w.heap.size + 1, 4, none⟩ = false ∧ W.frozen? ⟨w.heap.size + 1, 5, none⟩ = false ∧ W.frozen? ⟨w.heap.size + 1, 6, none⟩ = false ∧ W.frozen? ⟨w.heap.size + 1, 7, none⟩ = false := by
  obtain ⟨u0, u1, u2, u3, u4, u5, u6, u7, h⟩ := h
  exact ⟨u0, u1, u2, u3, u4, u5, u6, u7, eight_cells h.zero⟩
theorem LdE.small (h : LdE w W r G H y a X) : w.heap.size < W.heap.size ∧ w.heap.size + 1 < W.heap.size ∧ r < w.heap.size := by
  obtain ⟨u0, u1, u2, u3, u4, u5, u6, u7, h⟩ := h
  exact h.small
theorem LdE.rl (h : LdE w W r G H y a X) : RL r H W y := by
  obtain ⟨u0, u1, u2, u3, u4, u5, u6, u7, h⟩ := h
  exact h.rl
/-- the chains that the layout's cell names -/
theorem RL.cl {ao : Option Addr} {n cap : Nat} (h : RL r H W y) (hc : W.cell? ⟨r, 1, none⟩ = some (.slice ao n cap)) : CL W ao y.L := by
  obtain ⟨lo, lc, bo, cb, h1, h2, _⟩ := h.open
  have e : W.cell? ⟨r, 1, none⟩ = some (.slice lo y.L.length lc) := cell_of h1 1
  rw [hc] at e
  have e2 := Value.slice.inj (Option.some.inj e)
  rw [e2.1]
  exact h2
/-- chains that were made, behind writes into elder blocks -/
theorem CG.behind {S : Nat → Prop} {W2 W3 : World} {B : Nat} {v : Value} {L : List (List Int)} (hO : OC W2 B v L) (hk : Kept S W2 W3) (hS : ∀ k, B ≤ k → S k) (hs : W3.heap.size = W2.heap.size) : CG (fun k => B ≤ k ∧ k < W3.heap.size) W3 v L := by
  rw [hs]
  exact (CG.of hO).keep hk (fun k hk => hS k hk.1)
section
variable {x0 x1 x2 x3 x4 x5 x6 x7 : Value}
end
/-- the answer tells chains that were made last -/
theorem LdW.tells (h : LdW w W r G H y a Y X) {x : An} {ao : Option Addr} {cap B : Nat} (hB : w.heap.size ≤ B) (hH : ∀ k, H k → k < B) (hC : CG (fun k => B ≤ k ∧ k < W.heap.size) W (.slice ao x.L.length cap) x.L) : Tells (RL r) G w y x (.returned (ansV x ao cap)) W :=
  ⟨ao, cap, fun k => B ≤ k ∧ k < W.heap.size, rfl, hC, fun k hk => ⟨Nat.le_trans hB hk.1, hk.2⟩, H, h.rl, fun k hk hh => by have := hH k hh; omega, h.kp, fun k hk => (h.hs k hk).imp id (fun h => by omega)⟩
/-- it tells none -/
theorem LdW.plain (h : LdW w W r G H y a Y X) {x : An} (hL : x.L = []) : Tells (RL r) G w y x (.returned (ansV x Option.none 0)) W := Tells.plain h.leaves hL
end
end Go.Proofs.YtchhmfdalghgcaaGreat
namespace Go.Proofs.YtchhmfdalghgcaaGreat
set_option linter.unusedVariables false
open Go.RowKit Go.Maps
set_option maxRecDepth 20000
theorem lunit_row : (146 : TypeId) < Tryz.prog.types.size := of_decide_eq_true (by kernel_rfl)
theorem lunit_law : Keyed Tryz.prog 146 := Keyed.of_law (deep_law_laid laidOut (m := 2) (by omega) lunit_row (by kernel_rfl) (by rw [Tryz.underlying146]))
theorem lunit_key (u : Int) (hu : (Lit.int .i64 u).wf = true) : keyOf Tryz.prog 146 (.agg #[.int .i64 u]) = some (klU u) := by
  obtain ⟨n, hn⟩ := types_succ
  exact key_one Tryz.underlying146 (by kernel_rfl) (by rfl) rfl (by kernel_rfl) Tryz.underlying3 (by kernel_rfl) hn hu
theorem zero_none (w : World) : (zeroValue 144).run Tryz.prog w = .ok (.agg #[]) w := by kernel_rfl
/-- the map at block b is the set of the units S -/
def Usd (w : World) (b : Nat) (S : List Int) : Prop := w.ownsMap Tryz.prog 146 (unitElem (H := Unit)) b S.length (setD klU S) ∧ wfL S
theorem Usd.made (w : World) : Usd (w.alloc (.map #[] 0)) w.heap.size [] := ⟨World.ownsMap_made _ _ _ _, wfL.nil⟩
theorem Usd.keep {w w' : World} {b : Nat} {S : List Int} (h : Usd w b S) (e : w'.heap[b]? = w.heap[b]?) : Usd w' b S := by
  obtain ⟨⟨es, clock, h1, h2⟩, h3⟩ := h
  exact ⟨⟨es, clock, e.trans h1, h2⟩, h3⟩
theorem Usd.lt {w : World} {b : Nat} {S : List Int} (h : Usd w b S) : b < w.heap.size := h.1.lt
theorem Usd.below {w w' : World} {b : Nat} {S : List Int} (h : Usd w b S) (hb : Below w.heap.size w w') : Usd w' b S := h.keep (hb.block b h.lt)
theorem Usd.has {w : World} {b : Nat} {S : List Int} (h : Usd w b S) {u : Int} (hu : (Lit.int .i64 u).wf = true) : Maps.has (setD klU S) (klU u) = decide (u ∈ S) := setD_has lunit_law lunit_key unit_inj h.2 hu
/-- block b is the program's layout, whatever it tells -/
def LB (b : Nat) (G : Nat → Prop) (w : World) (y : Ly) : Prop :=
  ∃ (v : Value) (mb : Nat) (F : Nat → Prop), w.heap[b]? = some (.cells #[.int .i64 y.ep, v, .map (some mb), .int .i64 y.mark, .int .i64 y.size, .int .i64 y.n] 118 (0, 0)) ∧ CG F w v y.L ∧ Usd w mb y.used ∧ b ≠ mb ∧ G b ∧ G mb ∧ (∀ k, F k → G k ∧ k ≠ b ∧ k ≠ mb) ∧ ∀ k, G k → k < w.heap.size
/-- block b is the program's layout -/
def LM (b : Nat) (G : Nat → Prop) (w : World) (y : Ly) : Prop := goodB y.ep y.L = true ∧ LB b G w y
theorem lb_thing (b : Nat) : Thing (LB b) where
  lt := by
    rintro G w y ⟨v, mb, F, _, _, _, _, _, _, _, h⟩ k hk
    exact h k hk
  keep := by
    rintro G S w w' y ⟨v, mb, F, h1, h2, h3, h4, h5, h6, h7, h8⟩ hk hS
    exact ⟨v, mb, F, hk.heap (hS b h5) h1, h2.keep hk (fun k hf => hS k (h7 k hf).1), h3.keep (hk.block mb (hS mb h6) (h8 mb h6)), h4, h5, h6, h7, fun k hg => Nat.lt_of_lt_of_le (h8 k hg) hk.size⟩
theorem lm_thing (b : Nat) : Thing (LM b) where
  lt := by
    rintro G w y ⟨_, h⟩ k hk
    exact (lb_thing b).lt h k hk
  keep := by
    rintro G S w w' y ⟨h0, h⟩ hk hS
    exact ⟨h0, (lb_thing b).keep h hk hS⟩
section
variable {w W W2 : World} {b : Nat} {G H : Nat → Prop} {y : Ly}
/-- what the layout's cells hold -/
theorem LB.open (h : LB b G w y) : ∃ ao cap mb, w.heap[b]? = some (.cells #[.int .i64 y.ep, .slice ao y.L.length cap, .map (some mb), .int .i64 y.mark, .int .i64 y.size, .int .i64 y.n] 118 (0, 0)) ∧ CL w ao y.L ∧ Usd w mb y.used ∧ b ≠ mb ∧ G b ∧ G mb := by
  obtain ⟨v, mb, F, h1, h2, h3, h4, h5, h6, h7, h8⟩ := h
  obtain ⟨ao, cap, rfl, h9, _⟩ := h2.cl
  exact ⟨ao, cap, mb, h1, h9, h3, h4, h5, h6⟩
theorem LB.small (h : LB b G w y) : b < w.heap.size := by
  obtain ⟨_, _, _, h1, _⟩ := h.open
  exact lt_of_block h1
theorem LB.below (h : LB b G w y) {w' : World} (hb : Below w.heap.size w w') : LB b G w' y := (lb_thing b).keep h (Kept.ofBelow hb (fun _ => True)) (fun _ _ => trivial)
theorem LB.cl {ao : Option Addr} {n cap : Nat} (h : LB b G w y) (hc : w.cell? ⟨b, 1, none⟩ = some (.slice ao n cap)) : CL w ao y.L := by
  obtain ⟨lo, lc, mb, h1, h2, _⟩ := h.open
  have e : w.cell? ⟨b, 1, none⟩ = some (.slice lo y.L.length lc) := cell_of h1 1
  rw [hc] at e
  have e2 := Value.slice.inj (Option.some.inj e)
  rw [e2.1]
  exact h2
/-- a copy of a projection is laid into the layout -/
theorem LB.chains (h : LB b H W y) (hb : Below W.heap.size W W2) {e : Int} {v : Value} {L : List (List Int)} (hO : OC W2 W.heap.size v L) :
    Leaves (LB b) H W ((W2.setCell ⟨b, 0, none⟩ (.int .i64 e)).setCell ⟨b, 1, none⟩ v) ⟨e, L, y.used, y.mark, y.size, y.n⟩ := by
  obtain ⟨v0, mb, F, h1, h2, h3, h4, h5, h6, h7, h8⟩ := h
  have hr := lt_of_block h1
  have hm := h3.lt
  have hk : Kept (fun k => k ≠ b) W2 ((W2.setCell ⟨b, 0, none⟩ (.int .i64 e)).setCell ⟨b, 1, none⟩ v) := ((Kept.refl _ W2).setCell (p := ⟨b, 0, none⟩) (fun h => h rfl) _).setCell (p := ⟨b, 1, none⟩) (fun h => h rfl) _
  have e1 := below_heap hb h1
  have e2 := heap_setCell_same W2 b 0 _ _ (.int .i64 e) e1
  have e3 := heap_setCell_same _ b 1 _ _ v e2
  have hs : ((W2.setCell ⟨b, 0, none⟩ (.int .i64 e)).setCell ⟨b, 1, none⟩ v).heap.size = W2.heap.size := by simp [World.setCell]
  refine ⟨fun k => H k ∨ (W.heap.size ≤ k ∧ k < W2.heap.size), ⟨v, mb, fun k => W.heap.size ≤ k ∧ k < W2.heap.size, e3, ?_, (h3.below hb).keep (hk.block mb (fun e => h4 e.symm) (Nat.lt_of_lt_of_le hm hb.size)), h4, .inl h5, .inl h6, fun k hk2 => ⟨.inr hk2, by omega, by omega⟩, fun k hk2 => ?_⟩, (Kept.ofBelow hb _).trans (hk.mono (fun k hn e => hn (e ▸ h5))), fun k hk2 => hk2.imp id (fun h => h.1)⟩
  · exact (CG.of hO).keep hk (fun k hk => by omega)
  · rw [hs]
    rcases hk2 with hk2 | hk2
    · exact Nat.lt_of_lt_of_le (h8 k hk2) hb.size
    · exact hk2.2
/-- a unit is noted -/
theorem LB.put (h : LB b H W y) {mb : Nat} {u : Int} {n : Nat} (hc : W.cell? ⟨b, 2, none⟩ = some (.map (some mb))) (hu : (Lit.int .i64 u).wf = true) (hn : n = y.used.length + 1) (ho : W2.ownsMap Tryz.prog 146 (unitElem (H := Unit)) mb n ((setD klU y.used).put (klU u) (.agg []))) (hg : W.grownBy W2 (some mb)) :
    LB b H W2 ⟨y.ep, y.L, y.used ++ [u], y.mark, y.size, y.n⟩ := by
  obtain ⟨v0, mb', F, h1, h2, h3, h4, h5, h6, h7, h8⟩ := h
  have e : mb' = mb := by
    have h9 : W.cell? ⟨b, 2, none⟩ = some (.map (some mb')) := cell_of h1 2
    rw [hc] at h9
    injection h9 with h9
    injection h9 with h9
    exact (Option.some.inj h9).symm
  subst e
  have hk : Kept (fun k => k ≠ mb') W W2 := (Kept.refl _ W).grown hg (fun k e hk => hk (Option.some.inj e).symm)
  refine ⟨v0, mb', F, hk.heap h4 h1, h2.keep hk (fun k hf => (h7 k hf).2.2), ⟨?_, h3.2.append (wfL.one hu)⟩, h4, h5, h6, h7, fun k hk2 => Nat.lt_of_lt_of_le (h8 k hk2) hk.size⟩
  show W2.ownsMap _ _ _ mb' (y.used ++ [u]).length (setD klU (y.used ++ [u]))
  rw [setD_snoc, show (y.used ++ [u]).length = n from by rw [hn, List.length_append]; rfl]
  exact ho
/-- an image is marked -/
theorem LB.mark (h : LB b H W y) (m z n : Int) : Leaves (LB b) H W (((W.setCell ⟨b, 3, none⟩ (.int .i64 m)).setCell ⟨b, 4, none⟩ (.int .i64 z)).setCell ⟨b, 5, none⟩ (.int .i64 n)) ⟨y.ep, y.L, y.used, m, z, n⟩ := by
  obtain ⟨v0, mb, F, h1, h2, h3, h4, h5, h6, h7, h8⟩ := h
  have hk : Kept (fun k => k ≠ b) W (((W.setCell ⟨b, 3, none⟩ (.int .i64 m)).setCell ⟨b, 4, none⟩ (.int .i64 z)).setCell ⟨b, 5, none⟩ (.int .i64 n)) := (((Kept.refl _ W).setCell (p := ⟨b, 3, none⟩) (fun h => h rfl) _).setCell (p := ⟨b, 4, none⟩) (fun h => h rfl) _).setCell (p := ⟨b, 5, none⟩) (fun h => h rfl) _
  have e1 := heap_setCell_same _ b 5 _ _ (.int .i64 n) (heap_setCell_same _ b 4 _ _ (.int .i64 z) (heap_setCell_same W b 3 _ _ (.int .i64 m) h1))
  exact ⟨H, ⟨v0, mb, F, e1, h2.keep hk (fun k hf => (h7 k hf).2.1), h3.keep (hk.block mb (fun e => h4 e.symm) h3.lt), h4, h5, h6, h7, fun k hk2 => by simpa [World.setCell] using h8 k hk2⟩, hk.mono (fun k hn e => hn (e ▸ h5)), fun k hk2 => .inl hk2⟩
end
section
variable {α : Type} {T : (Nat → Prop) → World → α → Prop} {G : Nat → Prop} {w W W2 : World} {a a' : α}
/-- one step behind another -/
theorem Leaves.then (hG : ∀ k, G k → k < w.heap.size) (h : Leaves T G w W a) (hs : ∀ H, T H W a → Leaves T H W W2 a') : Leaves T G w W2 a' := by
  obtain ⟨H, h1, h2, h3⟩ := h
  obtain ⟨H', r1, r2, r3⟩ := hs H h1
  refine ⟨H', r1, ?_, fun k hk => ?_⟩
  · refine ⟨r2.os.trans h2.os, r2.tape.trans h2.tape, r2.output.trans h2.output, Nat.le_trans h2.size r2.size, fun k hg hkl => ?_⟩
    have hn : ¬ H k := fun hf => by
      rcases h3 k hf with h | h
      · exact hg h
      · omega
    rw [r2.block k hn (Nat.lt_of_lt_of_le hkl h2.size)]
    exact h2.block k hg hkl
  · rcases r3 k hk with h | h
    · exact h3 k h
    · exact .inr (Nat.le_trans h2.size h)
theorem Leaves.to {β : Type} {U : (Nat → Prop) → World → β → Prop} {b : β} (h : Leaves T G w W a) (hs : ∀ H, T H W a → U H W b) : Leaves U G w W b := by
  obtain ⟨H, h1, h2, h3⟩ := h
  exact ⟨H, hs H h1, h2, h3⟩
end
end Go.Proofs.YtchhmfdalghgcaaGreat
namespace Go.Proofs.YtchhmfdalghgcaaGreat
set_option linter.unusedVariables false
open Go.RowKit
set_option maxRecDepth 20000
section
variable {α β : Type} {T : (Nat → Prop) → World → α → Prop} {U : (Nat → Prop) → World → β → Prop} {C G : Nat → Prop} {v : Value} {L : List (List Int)} {w w' : World} {s s' : α} {x : An} {e : Ending}
variable {n i : Nat} {V : Nat → (Nat → Prop) → World → Prop} {N : (Nat → Prop) → World → β → Prop} {z : β} {P : Program} {fn : FuncId} {args : Array Value}
/-- a call, or a store, on one of many, as one on all of them -/
theorem bundg_leaves (hT : ∀ i, i < n → Part (V i)) {F : Nat → Nat → Prop} (h1 : ∀ i, i < n → V i (F i) w) (h2 : ∀ i j, i < n → j < n → i ≠ j → ∀ k, F i k → ¬ F j k) (h3 : ∀ k, G k ↔ ∃ i, i < n ∧ F i k) (hi : i < n)
    (hN : ∀ G' W, BundG n (swapP V i (fun F W => T F W s')) G' W → N G' W z) (hl : Leaves T (F i) w w' s') : Leaves N G w w' z := by
  obtain ⟨F', r1, r2, r3⟩ := hl
  obtain ⟨G', s1, s2, s3, s4⟩ := bundg_turn (C := fun _ => False) (U := fun F W => T F W s') hT h1 h2 h3 hi (fun k hk => hk.elim) r1 (fun k hk => hk.elim) r2 r3
  exact ⟨G', hN G' w' s1, s3, s4⟩
/-- one of many is opened: what a call, or a store, on it leaves of all of them -/
theorem BundG.use (hT : ∀ i, i < n → Part (V i)) (h : BundG n V G w) (hi : i < n) : ∃ F : Nat → Prop, V i F w ∧ (∀ k, F k → G k) ∧
    ∀ {α β : Type} (T : (Nat → Prop) → World → α → Prop) (N : (Nat → Prop) → World → β → Prop) (w' : World) (s' : α) (z : β), (∀ G' W, BundG n (swapP V i (fun F W => T F W s')) G' W → N G' W z) → Leaves T F w w' s' → Leaves N G w w' z := by
  obtain ⟨F, h1, h2, h3⟩ := h
  exact ⟨F i, h1 i hi, fun k hf => (h3 k).2 ⟨i, hi, hf⟩, fun T N w' s' z hN hl => bundg_leaves hT h1 h2 h3 hi hN hl⟩
end
end Go.Proofs.YtchhmfdalghgcaaGreat
