/- What the document's own hand answers a question, of each fate, and is behind it. Conditions: it lies where the call was told; the question's chains lie in memory that is none of its own; its data are not too long. (Written by gen/genhndc.py.) -/
import Derived.Test.YtkicjgaejieinaaGreatG25b
import Derived.Deep.RegionHeld3
import Derived.Deep.RegionHeldLaw
set_option linter.unusedVariables false
namespace Go.Proofs.YtkicjgaejieinaaGreat
set_option linter.unusedVariables false
open Go.RowKit
set_option maxRecDepth 20000
theorem row_grown {α : Type} {n : Nat} {f : α → List Value} {w w' : World} {ao : Option Addr} {l : List α} {row : Option Nat} (h : Row w ao n f l) (hg : w.grownBy w' row) (hne : ∀ a, ao = some a → row ≠ some a.block) : Row w' ao n f l := by
  intro i hi
  obtain ⟨bk, off, h1, h2⟩ := h i hi
  exact ⟨bk, off, h1, fun j v hv => hg.cell (h2 j v hv) (fun e => hne _ h1 e.symm)⟩
theorem below_rev {w w' : World} (h : Below w.heap.size w w') {b o : Nat} {v : Value} (hb : b < w.heap.size) (hc : w'.cell? ⟨b, o, none⟩ = some v) : w.cell? ⟨b, o, none⟩ = some v :=
  (World.cell?_of_block (a := ⟨b, o, none⟩) (h.block b hb)).symm.trans hc
set_option maxHeartbeats 1600000 in
theorem rh_lost (r rn : Nat) (G : Nat → Prop) (w : World) (h : Hd) (a : Ak) (fate : Int) (hh : RH r rn G w h) (h0 : fate ≠ 0) (h2 : fate ≠ 2) (h3 : fate ≠ 3) :
    Calls Tryz.prog 12 #[.pointer (some ⟨r, 0, none⟩), askV a, .int .i64 fate] w fun e w' => ToldBy (heardV zeroX false) (RH r rn) G w h zeroX e w' := by
  have hr : r < w.heap.size := hh.small
  have HS := boxz_start (tz := 42) (Z := zeroHd) (rh_thing r rn) hh (askC a).toArray
  have hlen : h.held.length ≤ 64 := hh.1
  obtain ⟨n, held⟩ := h
  simp only at *
  obtain ⟨k, un, ep, pg, sz, nn, s, pe, L, ao, cap⟩ := a
  have HT := Lib.hid (show BoxZ 42 #[.int .i64 0, .int .i64 0, .string ⟨#[]⟩, .int .i64 0, .slice none 0 0, .int .i64 0, .int .i64 0, .int .i64 0, .bool false] (RH r rn) w ((w.alloc (.cells #[.int .i64 k, .int .i64 un, .int .i64 ep, .int .i64 pg, .int .i64 sz, .int .i64 nn, .string s, .int .i64 pe, .slice ao L.length cap] 34)).alloc (.cells #[.int .i64 0, .int .i64 0, .string ⟨#[]⟩, .int .i64 0, .slice none 0 0, .int .i64 0, .int .i64 0, .int .i64 0, .bool false] 42)) G ⟨n, held⟩ #[.int .i64 k, .int .i64 un, .int .i64 ep, .int .i64 pg, .int .i64 sz, .int .i64 nn, .string s, .int .i64 pe, .slice ao L.length cap] from HS)
  clear HS hh
  have d0 : (fate == 0) = false := beq_eq_false_iff_ne.2 h0
  have d2 : (fate == 2) = false := beq_eq_false_iff_ne.2 h2
  have d3 : (fate == 3) = false := beq_eq_false_iff_ne.2 h3
  clear h0 h2 h3 hlen
  show Calls _ _ #[.pointer (some ⟨r, 0, none⟩), .agg #[.int .i64 k, .int .i64 un, .int .i64 ep, .int .i64 pg, .int .i64 sz, .int .i64 nn, .string s, .int .i64 pe, .slice ao L.length cap], .int .i64 fate] w _
  go_enter Tryz.func12, Tryz.ntmps12
  go_wp2_with fail
  exact heard_ret (x := zeroX) (ao := none) (cap := 0) (c := false) rfl HT.out.ans rfl rfl (told_plain HT.out.leaves rfl rfl)
set_option maxHeartbeats 1600000 in
theorem rh_full (r rn : Nat) (G : Nat → Prop) (w : World) (h : Hd) (a : Ak) (fate : Int) (hh : RH r rn G w h) (h3 : fate = 3) (hf : 64 ≤ h.held.length) :
    Calls Tryz.prog 12 #[.pointer (some ⟨r, 0, none⟩), askV a, .int .i64 fate] w fun e w' => ToldBy (heardV zeroX false) (RH r rn) G w h zeroX e w' := by
  have hr : r < w.heap.size := hh.small
  have HS := boxz_start (tz := 42) (Z := zeroHd) (rh_thing r rn) hh (askC a).toArray
  have hlen : h.held.length ≤ 64 := hh.1
  obtain ⟨n, held⟩ := h
  simp only at *
  obtain ⟨k, un, ep, pg, sz, nn, s, pe, L, ao, cap⟩ := a
  have HT := Lib.hid (show BoxZ 42 #[.int .i64 0, .int .i64 0, .string ⟨#[]⟩, .int .i64 0, .slice none 0 0, .int .i64 0, .int .i64 0, .int .i64 0, .bool false] (RH r rn) w ((w.alloc (.cells #[.int .i64 k, .int .i64 un, .int .i64 ep, .int .i64 pg, .int .i64 sz, .int .i64 nn, .string s, .int .i64 pe, .slice ao L.length cap] 34)).alloc (.cells #[.int .i64 0, .int .i64 0, .string ⟨#[]⟩, .int .i64 0, .slice none 0 0, .int .i64 0, .int .i64 0, .int .i64 0, .bool false] 42)) G ⟨n, held⟩ #[.int .i64 k, .int .i64 un, .int .i64 ep, .int .i64 pg, .int .i64 sz, .int .i64 nn, .string s, .int .i64 pe, .slice ao L.length cap] from HS)
  clear HS hh
  have d0 : (fate == 0) = false := by rw [h3]; rfl
  have d2 : (fate == 2) = false := by rw [h3]; rfl
  have d3 : (fate == 3) = true := by rw [h3]; rfl
  have hf' : (64 : Int) ≤ (held.length : Int) := by omega
  clear h3 hf
  show Calls _ _ #[.pointer (some ⟨r, 0, none⟩), .agg #[.int .i64 k, .int .i64 un, .int .i64 ep, .int .i64 pg, .int .i64 sz, .int .i64 nn, .string s, .int .i64 pe, .slice ao L.length cap], .int .i64 fate] w _
  obtain ⟨H, hH, hkk, hU⟩ := HT.out.use2
  obtain ⟨v, hc, hO⟩ := hH.cells
  obtain ⟨ho, hcp, hv, hrow, hcap, hno, _, _, _⟩ := hO.form ask_rows
  subst hv
  have cu := cell_of hc 1
  have fu := free_of hc 1
  simp only at cu hrow hcap
  clear hU hkk hH hc hO hrow fu
  have hrs : r < ((w.alloc (.cells #[.int .i64 k, .int .i64 un, .int .i64 ep, .int .i64 pg, .int .i64 sz, .int .i64 nn, .string s, .int .i64 pe, .slice ao L.length cap] 34)).alloc (.cells #[.int .i64 0, .int .i64 0, .string ⟨#[]⟩, .int .i64 0, .slice none 0 0, .int .i64 0, .int .i64 0, .int .i64 0, .bool false] 42)).heap.size := by simp; omega
  have HT2 := HT
  go_enter Tryz.func12, Tryz.ntmps12
  go_wp2_with fail
  exact heard_ret (x := zeroX) (ao := none) (cap := 0) (c := false) rfl HT.out.ans rfl rfl (told_plain HT.out.leaves rfl rfl)
set_option maxHeartbeats 1600000 in
theorem rh_held (r rn : Nat) (G : Nat → Prop) (w : World) (h : Hd) (a : Ak) (fate : Int) (hh : RH r rn G w h) (h3 : fate = 3) (hf : h.held.length < 64) :
    Calls Tryz.prog 12 #[.pointer (some ⟨r, 0, none⟩), askV a, .int .i64 fate] w fun e w' => ToldBy (heardV zeroX false) (RH r rn) G w ⟨h.n, h.held ++ [a]⟩ zeroX e w' := by
  have hr : r < w.heap.size := hh.small
  have HS := boxz_start (tz := 42) (Z := zeroHd) (rh_thing r rn) hh (askC a).toArray
  have hlen : h.held.length ≤ 64 := hh.1
  obtain ⟨n, held⟩ := h
  simp only at *
  obtain ⟨k, un, ep, pg, sz, nn, s, pe, L, ao, cap⟩ := a
  have HT := Lib.hid (show BoxZ 42 #[.int .i64 0, .int .i64 0, .string ⟨#[]⟩, .int .i64 0, .slice none 0 0, .int .i64 0, .int .i64 0, .int .i64 0, .bool false] (RH r rn) w ((w.alloc (.cells #[.int .i64 k, .int .i64 un, .int .i64 ep, .int .i64 pg, .int .i64 sz, .int .i64 nn, .string s, .int .i64 pe, .slice ao L.length cap] 34)).alloc (.cells #[.int .i64 0, .int .i64 0, .string ⟨#[]⟩, .int .i64 0, .slice none 0 0, .int .i64 0, .int .i64 0, .int .i64 0, .bool false] 42)) G ⟨n, held⟩ #[.int .i64 k, .int .i64 un, .int .i64 ep, .int .i64 pg, .int .i64 sz, .int .i64 nn, .string s, .int .i64 pe, .slice ao L.length cap] from HS)
  clear HS hh
  have d0 : (fate == 0) = false := by rw [h3]; rfl
  have d2 : (fate == 2) = false := by rw [h3]; rfl
  have d3 : (fate == 3) = true := by rw [h3]; rfl
  have hf' : (held.length : Int) < 64 := by omega
  clear h3
  show Calls _ _ #[.pointer (some ⟨r, 0, none⟩), .agg #[.int .i64 k, .int .i64 un, .int .i64 ep, .int .i64 pg, .int .i64 sz, .int .i64 nn, .string s, .int .i64 pe, .slice ao L.length cap], .int .i64 fate] w _
  obtain ⟨H, hH, hkk, hU⟩ := HT.out.use2
  obtain ⟨v, hc, hO⟩ := hH.cells
  obtain ⟨ho, hcp, hv, hrow, hcap, hno, _, _, _⟩ := hO.form ask_rows
  subst hv
  have cu := cell_of hc 1
  have fu := free_of hc 1
  simp only at cu hrow hcap
  have hU2 := fun w2 v2 (hb : Below ((w.alloc (.cells #[.int .i64 k, .int .i64 un, .int .i64 ep, .int .i64 pg, .int .i64 sz, .int .i64 nn, .string s, .int .i64 pe, .slice ao L.length cap] 34)).alloc (.cells #[.int .i64 0, .int .i64 0, .string ⟨#[]⟩, .int .i64 0, .slice none 0 0, .int .i64 0, .int .i64 0, .int .i64 0, .bool false] 42)).heap.size ((w.alloc (.cells #[.int .i64 k, .int .i64 un, .int .i64 ep, .int .i64 pg, .int .i64 sz, .int .i64 nn, .string s, .int .i64 pe, .slice ao L.length cap] 34)).alloc (.cells #[.int .i64 0, .int .i64 0, .string ⟨#[]⟩, .int .i64 0, .slice none 0 0, .int .i64 0, .int .i64 0, .int .i64 0, .bool false] 42)) w2) (hO : OR 34 9 askC w2 ((w.alloc (.cells #[.int .i64 k, .int .i64 un, .int .i64 ep, .int .i64 pg, .int .i64 sz, .int .i64 nn, .string s, .int .i64 pe, .slice ao L.length cap] 34)).alloc (.cells #[.int .i64 0, .int .i64 0, .string ⟨#[]⟩, .int .i64 0, .slice none 0 0, .int .i64 0, .int .i64 0, .int .i64 0, .bool false] 42)).heap.size v2 (held ++ [⟨k, un, ep, pg, sz, nn, s, pe, L, ao, cap⟩])) => hU (RH r rn) _ _ (hH.lay hb hO (by simp; omega))
  have HU := Lib.hid hU2
  have HC := Lib.hid hc
  have HROW := Lib.hid hrow
  have HNO := Lib.hid hno
  have HCP := Lib.hid hcap
  clear hU hU2 hkk hH hO hrow hc
  go_enter Tryz.func12, Tryz.ntmps12
  have cw : w.cell? ⟨r, 1, none⟩ = some (.slice ho held.length hcp) := by
    have h2 := below_rev (show Below w.heap.size w ((w.alloc (.cells #[.int .i64 k, .int .i64 un, .int .i64 ep, .int .i64 pg, .int .i64 sz, .int .i64 nn, .string s, .int .i64 pe, .slice ao L.length cap] 34)).alloc (.cells #[.int .i64 0, .int .i64 0, .string ⟨#[]⟩, .int .i64 0, .slice none 0 0, .int .i64 0, .int .i64 0, .int .i64 0, .bool false] 42)) from ((Below.refl _ _).alloc (Nat.le_refl _) _).alloc (by simp) _) hr cu
    exact h2
  go_wp2_with fail
  generalize hW0 : ((w.alloc (.cells #[.int .i64 k, .int .i64 un, .int .i64 ep, .int .i64 pg, .int .i64 sz, .int .i64 nn, .string s, .int .i64 pe, .slice ao L.length cap] 34)).alloc (.cells #[.int .i64 0, .int .i64 0, .string ⟨#[]⟩, .int .i64 0, .slice none 0 0, .int .i64 0, .int .i64 0, .int .i64 0, .bool false] 42)) = W0 at *
  clear hW0 cw
  obtain ⟨l1, l2⟩ := HT.out.small
  have q := HT.out.ask
  have HQ := Lib.hid (fun (W : World) (hb : Below W0.heap.size W0 W) => (nine_free (below_heap hb q)).1)
  have HCU := Lib.hid (fun (W : World) (hb : Below W0.heap.size W0 W) => show W.cell? ⟨r, 1, none⟩ = some (.slice ho held.length hcp) from cell_of (below_heap hb HC.out) 1)
  have HRW := Lib.hid (fun (W : World) (hb : Below W0.heap.size W0 W) => HROW.out.below hb)
  have hz : held.length + 1 ≤ 1000000 := by omega
  have hrW : r < W0.heap.size := lt_of_block HC.out
  have fu2 : W0.frozen? ⟨r, 1, none⟩ = false := fu
  clear q HROW cu fu
  have AA := Lib.hid (show ∀ W : World, ∀ b, W.heap[b]? = some (.cells #[.int .i64 k, .int .i64 un, .int .i64 ep, .int .i64 pg, .int .i64 sz, .int .i64 nn, .string s, .int .i64 pe, .slice ao L.length cap] 34 (0, 0)) → Row W (some ⟨b, 0, none⟩) 9 askC [(⟨k, un, ep, pg, sz, nn, s, pe, L, ao, cap⟩ : Ak)] from fun W b h => Row.one (x := (⟨k, un, ep, pg, sz, nn, s, pe, L, ao, cap⟩ : Ak)) h)
  have HFa := Lib.hid (show OR 34 9 askC (W0.drew.alloc (.cells #[] 34)) W0.heap.size (.slice (some ⟨W0.heap.size, 0, none⟩) 0 0) [] from OR.made W0.drew rfl (Nat.le_refl _))
  have HFb := Lib.hid (show OR 34 9 askC ((W0.drew.alloc (.cells #[] 34)).alloc (.cells #[.int .i64 k, .int .i64 un, .int .i64 ep, .int .i64 pg, .int .i64 sz, .int .i64 nn, .string s, .int .i64 pe, .slice ao L.length cap] 34)) W0.heap.size (.slice (some ⟨W0.heap.size, 0, none⟩) 0 0) [] from (OR.made W0.drew rfl (Nat.le_refl _)).below ((Below.refl _ _).alloc (Nat.le_refl _) _))
  have HFc := Lib.hid (show OR 34 9 askC ((W0.drew.alloc (.cells #[.int .i64 k, .int .i64 un, .int .i64 ep, .int .i64 pg, .int .i64 sz, .int .i64 nn, .string s, .int .i64 pe, .slice ao L.length cap] 34)).alloc (.cells #[] 34)) W0.heap.size (.slice (some ⟨W0.heap.size + 1, 0, none⟩) 0 0) [] from OR.made (W0.drew.alloc (.cells #[.int .i64 k, .int .i64 un, .int .i64 ep, .int .i64 pg, .int .i64 sz, .int .i64 nn, .string s, .int .i64 pe, .slice ao L.length cap] 34)) (by simp) (Nat.le_succ _))
  have HBa := Lib.hid (show Below W0.heap.size W0 (W0.drew.alloc (.cells #[] 34)) from (Below.refl _ _).drew.alloc (Nat.le_refl _) _)
  have HBb := Lib.hid (show Below W0.heap.size W0 ((W0.drew.alloc (.cells #[] 34)).alloc (.cells #[.int .i64 k, .int .i64 un, .int .i64 ep, .int .i64 pg, .int .i64 sz, .int .i64 nn, .string s, .int .i64 pe, .slice ao L.length cap] 34)) from ((Below.refl _ _).drew.alloc (Nat.le_refl _) _).alloc (by simp) _)
  have HBc := Lib.hid (show Below W0.heap.size W0 ((W0.drew.alloc (.cells #[.int .i64 k, .int .i64 un, .int .i64 ep, .int .i64 pg, .int .i64 sz, .int .i64 nn, .string s, .int .i64 pe, .slice ao L.length cap] 34)).alloc (.cells #[] 34)) from ((Below.refl _ _).drew.alloc (Nat.le_refl _) _).alloc (by simp) _)
  have HUb := Lib.hid (show Row ((W0.drew.alloc (.cells #[] 34)).alloc (.cells #[.int .i64 k, .int .i64 un, .int .i64 ep, .int .i64 pg, .int .i64 sz, .int .i64 nn, .string s, .int .i64 pe, .slice ao L.length cap] 34)) (some ⟨W0.heap.size + 1, 0, none⟩) 9 askC [(⟨k, un, ep, pg, sz, nn, s, pe, L, ao, cap⟩ : Ak)] from AA.out _ _ (two_blocks W0.drew _ _ _ _).2)
  have HUc := Lib.hid (show Row ((W0.drew.alloc (.cells #[.int .i64 k, .int .i64 un, .int .i64 ep, .int .i64 pg, .int .i64 sz, .int .i64 nn, .string s, .int .i64 pe, .slice ao L.length cap] 34)).alloc (.cells #[] 34)) (some ⟨W0.heap.size, 0, none⟩) 9 askC [(⟨k, un, ep, pg, sz, nn, s, pe, L, ao, cap⟩ : Ak)] from AA.out _ _ (two_blocks W0.drew _ _ _ _).1)
  obtain ⟨q0, q1, q2, q3, q4, q5, q6, q7, q8⟩ := HQ.out W0 (Below.refl _ _)
  have cu1 := HCU.out W0 (Below.refl _ _)
  go_region_law (first
      | (refine step_app_rows ask_rows rfl (.tmp 34) (.tmp 38) rfl (B := W0.heap.size) (v := .slice (some ⟨W0.heap.size, 0, none⟩) 0 0) (D := []) rfl HFa.out (ao := ho) (cap := hcp) (l := held) rfl rfl (HRW.out _ HBa.out) HNO.out HCP.out (by simp; omega) HBa.out.size ?_; intro v1 w1 hI hg _; rw [List.nil_append] at hI; have hb1 : Below W0.heap.size W0 w1 := HBa.out.grown hg HBa.out.size (fun k e => by cases e; exact Nat.le_refl _); have HI1 := Lib.hid hI; obtain ⟨p0, p1, p2, p3, p4, p5, p6, p7, p8⟩ := HQ.out w1 hb1; have pl := Nat.lt_of_lt_of_le l1 hb1.size; have hone := AA.out (w1.alloc (.cells #[.int .i64 k, .int .i64 un, .int .i64 ep, .int .i64 pg, .int .i64 sz, .int .i64 nn, .string s, .int .i64 pe, .slice ao L.length cap] 34)) w1.heap.size (heap_alloc_new w1 _); clear hI hg)
      | (refine step_app_rows ask_rows rfl (.tmp 34) (.tmp 38) rfl (B := W0.heap.size) (v := .slice (some ⟨W0.heap.size, 0, none⟩) 0 0) (D := []) rfl HFb.out (ao := ho) (cap := hcp) (l := held) rfl rfl (HRW.out _ HBb.out) HNO.out HCP.out (by simp; omega) HBb.out.size ?_; intro v1 w1 hI hg _; rw [List.nil_append] at hI; have hb1 := HBb.out.grown hg HBb.out.size (fun k e => by cases e; exact Nat.le_refl _); have HI1 := Lib.hid hI; obtain ⟨p0, p1, p2, p3, p4, p5, p6, p7, p8⟩ := HQ.out w1 hb1; have pl := Nat.lt_of_lt_of_le l1 hb1.size; have HU1 := Lib.hid (row_grown HUb.out hg (fun a e => by cases e; intro e2; have e3 := Option.some.inj e2; simp at e3)); clear hI hg)
      | (refine step_app_rows ask_rows rfl (.tmp 34) (.tmp 38) rfl (B := W0.heap.size) (v := .slice (some ⟨W0.heap.size + 1, 0, none⟩) 0 0) (D := []) rfl HFc.out (ao := ho) (cap := hcp) (l := held) rfl rfl (HRW.out _ HBc.out) HNO.out HCP.out (by simp; omega) HBc.out.size ?_; intro v1 w1 hI hg _; rw [List.nil_append] at hI; have hb1 := HBc.out.grown hg HBc.out.size (fun k e => by cases e; exact Nat.le_succ _); have HI1 := Lib.hid hI; obtain ⟨p0, p1, p2, p3, p4, p5, p6, p7, p8⟩ := HQ.out w1 hb1; have pl := Nat.lt_of_lt_of_le l1 hb1.size; have HU1 := Lib.hid (row_grown HUc.out hg (fun a e => by cases e; intro e2; have e3 := Option.some.inj e2; simp at e3)); clear hI hg)
      | (refine step_app_rows ask_rows rfl (.tmp 39) (.tmp 41) rfl (B := W0.heap.size) (D := held) rfl (HI1.out.below ((Below.refl _ _).alloc (Nat.le_refl _) _)) (ao := some ⟨w1.heap.size, 0, none⟩) (cap := 1) (l := [(⟨k, un, ep, pg, sz, nn, s, pe, L, ao, cap⟩ : Ak)]) (m := 1) rfl rfl hone (fun e => by cases e) (Nat.le_refl _) (by simp; omega) (by have := hb1.size; simp; omega) ?_; intro v2 w2 hI hg _; have hb2 := (hb1.alloc hb1.size _).grown hg (by have := hb1.size; simp; omega) (fun k e => (HI1.out.lt k e).1); obtain ⟨a2, k2, hv2, _, _, _, _, _, _⟩ := hI.form ask_rows; rw [List.length_append, List.length_singleton] at hv2; subst hv2; have HI2 := Lib.hid hI; have qq := HCU.out _ hb2; have qf := free_of (below_heap hb2 HC.out) 1; have qr := Nat.lt_of_lt_of_le hrW hb2.size; clear hI hg)
      | (refine step_app_rows ask_rows rfl (.tmp 39) (.tmp 41) rfl (B := W0.heap.size) (D := held) rfl HI1.out (ao := some ⟨_, 0, none⟩) (cap := 1) (l := [(⟨k, un, ep, pg, sz, nn, s, pe, L, ao, cap⟩ : Ak)]) (m := 1) rfl rfl HU1.out (fun e => by cases e) (Nat.le_refl _) (by simp; omega) hb1.size ?_; intro v2 w2 hI hg _; have hb2 := hb1.grown hg hb1.size (fun k e => (HI1.out.lt k e).1); obtain ⟨a2, k2, hv2, _, _, _, _, _, _⟩ := hI.form ask_rows; rw [List.length_append, List.length_singleton] at hv2; subst hv2; have HI2 := Lib.hid hI; have qq := HCU.out _ hb2; have qf := free_of (below_heap hb2 HC.out) 1; have qr := Nat.lt_of_lt_of_le hrW hb2.size; clear hI hg))
  all_goals
    have HT2 := Lib.hid (HU.out w2 _ hb2 HI2.out)
    clear HT HU HC HFa HFb HFc HBa HBb HBc HUb HUc HQ HCU HRW AA qq qf qr q0 q1 q2 q3 q4 q5 q6 q7 q8 p0 p1 p2 p3 p4 p5 p6 p7 p8 cu1
    generalize hW3 : World.setCell w2 ⟨r, 1, none⟩ (.slice a2 (held.length + 1) k2) = w3 at *
    clear hW3
    obtain ⟨nl1, nl2⟩ := HT2.out.small
    obtain ⟨⟨ny0, ny1, ny2, ny3, ny4, ny5, ny6, ny7, ny8⟩, nf0, nf1, nf2, nf3, nf4, nf5, nf6, nf7, nf8⟩ := nine_free HT2.out.ans
    go_wp2_with fail
    exact heard_ret (x := zeroX) (ao := none) (cap := 0) (c := false) rfl (nine_laid HT2.out.ans (.int .i64 0) (.int .i64 0) (.string ⟨#[]⟩) (.int .i64 0) (.slice none 0 0) (.int .i64 0) (.int .i64 0) (.int .i64 0) (.bool false)) rfl rfl (told_plain (HT2.out.fin (rh_thing r rn) (nine_kept w3 _ _ _ _ _ _ _ _ _ _)) rfl rfl)
end Go.Proofs.YtkicjgaejieinaaGreat
