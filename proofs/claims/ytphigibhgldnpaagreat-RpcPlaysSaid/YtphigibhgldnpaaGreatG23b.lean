/- What the document's own nodes answer a question for a unit, and are behind it. Conditions: they lie where the call was told; the question's chains lie in memory that is none of theirs; its data are not too long. (Written by gen/genrpcc.py.) The program's nodes in memory: the layout, the sequencer, the block of pointers, the units, each in blocks of its own. Conditions: units, sequencer and layout are as the statements of their own stages say. -/
import Derived.Test.YtphigibhgldnpaaGreatG17b
import Derived.Test.YtphigibhgldnpaaGreatG12a
import Derived.Test.YtphigibhgldnpaaGreatG10b
import Derived.Test.YtphigibhgldnpaaGreatG20b
import Derived.Test.YtphigibhgldnpaaGreatG22a
import Derived.StillTailTactics
import Derived.Test.YtphigibhgldnpaaGreatG15a
set_option linter.unusedVariables false
namespace Go.Proofs.YtphigibhgldnpaaGreat
set_option linter.unusedVariables false
open Go.RowKit
set_option maxRecDepth 20000
set_option maxHeartbeats 1600000 in
theorem ndo_u4 (r : Nat) (G : Nat → Prop) (w : World) (n : Nd) (a : Ak) (h : RN r G w n) (hk : a.kind = 4) (hu : 0 ≤ a.unit ∧ a.unit ≤ 15) (hw : i64w a.epoch) (hs : a.data.size ≤ 1000000) :
    Calls Tryz.prog 12 #[ptrN r, askV a] w fun e w' => Tells (RN r) G w (n.putU a.unit.toNat ((n.u a.unit.toNat).done a)) ((n.u a.unit.toNat).ans a) e w' := by
  have hr : r < w.heap.size := by obtain ⟨_, _, _, _, _, h1, _⟩ := h.tab; exact lt_of_block h1
  have HS := boxed_start (rn_thing r) h (askC a).toArray
  obtain ⟨H, hH, hkk, hU⟩ := (HS.drewN (rn_thing r) 1).use2
  obtain ⟨A, ro, rl, B, hT, hA, _, hB⟩ := hH.tab
  obtain ⟨i, hi⟩ : ∃ i : Nat, a.unit = i := ⟨a.unit.toNat, by omega⟩
  have hit : a.unit.toNat = i := by omega
  have hi16 : i < 16 := by omega
  rw [hit]
  obtain ⟨F, hF, _, hbu⟩ := hB.use (fun i _ => nodeT_part r A ro rl B n i) (i := i + 3) (by omega)
  have hF' : RU (B i).1 (B i).2 F _ (n.u i) := hF
  have HP0 := (rdo_any _ _ F _ _ a hF' hw hs).mono (fun e w' h => tells_plain (hbu (RU (B i).1 (B i).2) (RN r) w' _ (n.putU i ((n.u i).done a)) (fun G' W h => rn_putU hT h) h.2) (ans_L _ _) h.1)
  have cu0 := (cell_of hA i).trans (hT.at_ i hi16)
  have hi15 : (i : Int) ≤ 15 := by omega
  have hi0 : 0 ≤ (i : Int) := by omega
  have hi17 : (i : Int) < 16 := by omega
  clear hF hF' hbu hu hw hs
  generalize hxe : (n.u i).ans a = x at *
  generalize hye : n.putU i ((n.u i).done a) = y at *
  have HU0 := fun w2 (ao : Option Addr) (cap : Nat) (C : Nat → Prop) (hl : Leaves (Chained (RN r) C (.slice ao x.L.length cap) x.L) H (((w.alloc (.cells (askC a).toArray 42)).alloc (.cells zeroAn 39)).drewN 1) w2 y) => hU (Chained (RN r) C (.slice ao x.L.length cap) x.L) w2 y hl
  clear hU hB hH hkk hxe hye hA hT h
  obtain ⟨k, un, ep, pg, sz, nn, s, pe, L, ao, cap⟩ := a
  obtain ⟨xc, xn, xd, xp, xL, xm, xz, xe⟩ := x
  simp only at *
  subst hi
  have d1 : (k == 1) = false := beq_eq_false_iff_ne.2 (by omega)
  have d2 : (k == 2) = false := beq_eq_false_iff_ne.2 (by omega)
  have d3 : (k == 3) = false := beq_eq_false_iff_ne.2 (by omega)
  have d4 : (k == 4) = true := by rw [hk]; rfl
  have d5 : (k == 5) = false := beq_eq_false_iff_ne.2 (by omega)
  have d6 : (k == 6) = false := beq_eq_false_iff_ne.2 (by omega)
  have d7 : (k == 7) = false := beq_eq_false_iff_ne.2 (by omega)
  have d8 : (k == 8) = false := beq_eq_false_iff_ne.2 (by omega)
  have d9 : (k == 9) = false := beq_eq_false_iff_ne.2 (by omega)
  have d10 : (k == 10) = false := beq_eq_false_iff_ne.2 (by omega)
  have d11 : (k == 11) = false := beq_eq_false_iff_ne.2 (by omega)
  have HP := Lib.hid (show Calls Tryz.prog 31 #[.pointer (some ⟨(B i).1, 0, none⟩), .agg #[.int .i64 k, .int .i64 i, .int .i64 ep, .int .i64 pg, .int .i64 sz, .int .i64 nn, .string s, .int .i64 pe, .slice ao L.length cap]] (((w.alloc (.cells #[.int .i64 k, .int .i64 i, .int .i64 ep, .int .i64 pg, .int .i64 sz, .int .i64 nn, .string s, .int .i64 pe, .slice ao L.length cap] 42)).alloc (.cells #[.int .i64 0, .int .i64 0, .string ⟨#[]⟩, .int .i64 0, .slice none 0 0, .int .i64 0, .int .i64 0, .int .i64 0] 39)).drewN 1) fun e w' => Tells (RN r) H (((w.alloc (.cells #[.int .i64 k, .int .i64 i, .int .i64 ep, .int .i64 pg, .int .i64 sz, .int .i64 nn, .string s, .int .i64 pe, .slice ao L.length cap] 42)).alloc (.cells #[.int .i64 0, .int .i64 0, .string ⟨#[]⟩, .int .i64 0, .slice none 0 0, .int .i64 0, .int .i64 0, .int .i64 0] 39)).drewN 1) y ⟨xc, xn, xd, xp, xL, xm, xz, xe⟩ e w' from HP0)
  have HU := Lib.hid (show ∀ w2 (ao2 : Option Addr) (cap2 : Nat) (C : Nat → Prop), Leaves (Chained (RN r) C (.slice ao2 xL.length cap2) xL) H (((w.alloc (.cells #[.int .i64 k, .int .i64 i, .int .i64 ep, .int .i64 pg, .int .i64 sz, .int .i64 nn, .string s, .int .i64 pe, .slice ao L.length cap] 42)).alloc (.cells #[.int .i64 0, .int .i64 0, .string ⟨#[]⟩, .int .i64 0, .slice none 0 0, .int .i64 0, .int .i64 0, .int .i64 0] 39)).drewN 1) w2 y → Boxed (Chained (RN r) C (.slice ao2 xL.length cap2) xL) w w2 G y #[.int .i64 k, .int .i64 i, .int .i64 ep, .int .i64 pg, .int .i64 sz, .int .i64 nn, .string s, .int .i64 pe, .slice ao L.length cap] from HU0)
  have HT := Lib.hid (show Boxed (RN r) w ((w.alloc (.cells #[.int .i64 k, .int .i64 i, .int .i64 ep, .int .i64 pg, .int .i64 sz, .int .i64 nn, .string s, .int .i64 pe, .slice ao L.length cap] 42)).alloc (.cells #[.int .i64 0, .int .i64 0, .string ⟨#[]⟩, .int .i64 0, .slice none 0 0, .int .i64 0, .int .i64 0, .int .i64 0] 39)) G n #[.int .i64 k, .int .i64 i, .int .i64 ep, .int .i64 pg, .int .i64 sz, .int .i64 nn, .string s, .int .i64 pe, .slice ao L.length cap] from HS)
  have cu : ((w.alloc (.cells #[.int .i64 k, .int .i64 i, .int .i64 ep, .int .i64 pg, .int .i64 sz, .int .i64 nn, .string s, .int .i64 pe, .slice ao L.length cap] 42)).alloc (.cells #[.int .i64 0, .int .i64 0, .string ⟨#[]⟩, .int .i64 0, .slice none 0 0, .int .i64 0, .int .i64 0, .int .i64 0] 39)).cell? ⟨r, i, none⟩ = some (.pointer (some ⟨(B i).1, 0, none⟩)) := cu0
  clear hk HS HP0 HU0 cu0
  show Calls _ _ #[.pointer (some ⟨r, 0, none⟩), .agg #[.int .i64 k, .int .i64 i, .int .i64 ep, .int .i64 pg, .int .i64 sz, .int .i64 nn, .string s, .int .i64 pe, .slice ao L.length cap]] w _
  go_enter Tryz.func12, Tryz.ntmps12
  go_wp2_with fail
  generalize hW0 : ((w.alloc (.cells #[.int .i64 k, .int .i64 i, .int .i64 ep, .int .i64 pg, .int .i64 sz, .int .i64 nn, .string s, .int .i64 pe, .slice ao L.length cap] 42)).alloc (.cells #[.int .i64 0, .int .i64 0, .string ⟨#[]⟩, .int .i64 0, .slice none 0 0, .int .i64 0, .int .i64 0, .int .i64 0] 39)) = W0 at *
  clear hW0
  obtain ⟨l1, l2⟩ := HT.out.small
  have q := HT.out.ask
  have q0 := cell_of q 0
  have q1 : W0.cell? ⟨w.heap.size, 1, none⟩ = some (.int .i64 i) := cell_of q 1
  have q2 := cell_of q 2
  have q3 := cell_of q 3
  have q4 := cell_of q 4
  have q5 := cell_of q 5
  have q6 := cell_of q 6
  have q7 := cell_of q 7
  have q8 := cell_of q 8
  have hr0 : r < W0.heap.size := by omega
  clear q HT
  go_still_tail 8, (by kernel_rfl)
  change wpList _ _ _ _ _ W0.drew
  go_wp2_with fail
  refine HP.out.mono ?_
  rintro e w3 ht
  obtain ⟨ao3, cap3, C3, he, hC3, hl3⟩ := tells_chained ht
  subst he
  unfold ansV ansC
  have HT3 := Lib.hid (HU.out w3 ao3 cap3 C3 hl3)
  have HC3 := Lib.hid (show ∀ k, C3 k → w.heap.size ≤ k from fun k hk => Nat.le_trans (Nat.le_of_lt l1) (hC3 k hk))
  clear hl3 hC3 ht
  obtain ⟨nl1, nl2⟩ := HT3.out.small
  obtain ⟨⟨ny0, ny1, ny2, ny3, ny4, ny5, ny6, ny7⟩, nfy0, nfy1, nfy2, nfy3, nfy4, nfy5, nfy6, nfy7⟩ := eight_cells HT3.out.ans
  go_wp2_with fail
  exact ans_ret (x := ⟨xc, xn, xd, xp, xL, xm, xz, xe⟩) (ao := ao3) (cap := cap3) rfl (HT3.out.fin (chained_thing (rn_thing r) _ _ _)).1 rfl rfl (chained_tells (x := ⟨xc, xn, xd, xp, xL, xm, xz, xe⟩) HC3.out (HT3.out.fin (chained_thing (rn_thing r) _ _ _)).2)
set_option maxHeartbeats 1600000 in
theorem ndo_u5 (r : Nat) (G : Nat → Prop) (w : World) (n : Nd) (a : Ak) (h : RN r G w n) (hk : a.kind = 5) (hu : 0 ≤ a.unit ∧ a.unit ≤ 15) (hw : i64w a.epoch) (hs : a.data.size ≤ 1000000) :
    Calls Tryz.prog 12 #[ptrN r, askV a] w fun e w' => Tells (RN r) G w (n.putU a.unit.toNat ((n.u a.unit.toNat).done a)) ((n.u a.unit.toNat).ans a) e w' := by
  have hr : r < w.heap.size := by obtain ⟨_, _, _, _, _, h1, _⟩ := h.tab; exact lt_of_block h1
  have HS := boxed_start (rn_thing r) h (askC a).toArray
  obtain ⟨H, hH, hkk, hU⟩ := (HS.drewN (rn_thing r) 1).use2
  obtain ⟨A, ro, rl, B, hT, hA, _, hB⟩ := hH.tab
  obtain ⟨i, hi⟩ : ∃ i : Nat, a.unit = i := ⟨a.unit.toNat, by omega⟩
  have hit : a.unit.toNat = i := by omega
  have hi16 : i < 16 := by omega
  rw [hit]
  obtain ⟨F, hF, _, hbu⟩ := hB.use (fun i _ => nodeT_part r A ro rl B n i) (i := i + 3) (by omega)
  have hF' : RU (B i).1 (B i).2 F _ (n.u i) := hF
  have HP0 := (rdo_any _ _ F _ _ a hF' hw hs).mono (fun e w' h => tells_plain (hbu (RU (B i).1 (B i).2) (RN r) w' _ (n.putU i ((n.u i).done a)) (fun G' W h => rn_putU hT h) h.2) (ans_L _ _) h.1)
  have cu0 := (cell_of hA i).trans (hT.at_ i hi16)
  have hi15 : (i : Int) ≤ 15 := by omega
  have hi0 : 0 ≤ (i : Int) := by omega
  have hi17 : (i : Int) < 16 := by omega
  clear hF hF' hbu hu hw hs
  generalize hxe : (n.u i).ans a = x at *
  generalize hye : n.putU i ((n.u i).done a) = y at *
  have HU0 := fun w2 (ao : Option Addr) (cap : Nat) (C : Nat → Prop) (hl : Leaves (Chained (RN r) C (.slice ao x.L.length cap) x.L) H (((w.alloc (.cells (askC a).toArray 42)).alloc (.cells zeroAn 39)).drewN 1) w2 y) => hU (Chained (RN r) C (.slice ao x.L.length cap) x.L) w2 y hl
  clear hU hB hH hkk hxe hye hA hT h
  obtain ⟨k, un, ep, pg, sz, nn, s, pe, L, ao, cap⟩ := a
  obtain ⟨xc, xn, xd, xp, xL, xm, xz, xe⟩ := x
  simp only at *
  subst hi
  have d1 : (k == 1) = false := beq_eq_false_iff_ne.2 (by omega)
  have d2 : (k == 2) = false := beq_eq_false_iff_ne.2 (by omega)
  have d3 : (k == 3) = false := beq_eq_false_iff_ne.2 (by omega)
  have d4 : (k == 4) = false := beq_eq_false_iff_ne.2 (by omega)
  have d5 : (k == 5) = true := by rw [hk]; rfl
  have d6 : (k == 6) = false := beq_eq_false_iff_ne.2 (by omega)
  have d7 : (k == 7) = false := beq_eq_false_iff_ne.2 (by omega)
  have d8 : (k == 8) = false := beq_eq_false_iff_ne.2 (by omega)
  have d9 : (k == 9) = false := beq_eq_false_iff_ne.2 (by omega)
  have d10 : (k == 10) = false := beq_eq_false_iff_ne.2 (by omega)
  have d11 : (k == 11) = false := beq_eq_false_iff_ne.2 (by omega)
  have HP := Lib.hid (show Calls Tryz.prog 31 #[.pointer (some ⟨(B i).1, 0, none⟩), .agg #[.int .i64 k, .int .i64 i, .int .i64 ep, .int .i64 pg, .int .i64 sz, .int .i64 nn, .string s, .int .i64 pe, .slice ao L.length cap]] (((w.alloc (.cells #[.int .i64 k, .int .i64 i, .int .i64 ep, .int .i64 pg, .int .i64 sz, .int .i64 nn, .string s, .int .i64 pe, .slice ao L.length cap] 42)).alloc (.cells #[.int .i64 0, .int .i64 0, .string ⟨#[]⟩, .int .i64 0, .slice none 0 0, .int .i64 0, .int .i64 0, .int .i64 0] 39)).drewN 1) fun e w' => Tells (RN r) H (((w.alloc (.cells #[.int .i64 k, .int .i64 i, .int .i64 ep, .int .i64 pg, .int .i64 sz, .int .i64 nn, .string s, .int .i64 pe, .slice ao L.length cap] 42)).alloc (.cells #[.int .i64 0, .int .i64 0, .string ⟨#[]⟩, .int .i64 0, .slice none 0 0, .int .i64 0, .int .i64 0, .int .i64 0] 39)).drewN 1) y ⟨xc, xn, xd, xp, xL, xm, xz, xe⟩ e w' from HP0)
  have HU := Lib.hid (show ∀ w2 (ao2 : Option Addr) (cap2 : Nat) (C : Nat → Prop), Leaves (Chained (RN r) C (.slice ao2 xL.length cap2) xL) H (((w.alloc (.cells #[.int .i64 k, .int .i64 i, .int .i64 ep, .int .i64 pg, .int .i64 sz, .int .i64 nn, .string s, .int .i64 pe, .slice ao L.length cap] 42)).alloc (.cells #[.int .i64 0, .int .i64 0, .string ⟨#[]⟩, .int .i64 0, .slice none 0 0, .int .i64 0, .int .i64 0, .int .i64 0] 39)).drewN 1) w2 y → Boxed (Chained (RN r) C (.slice ao2 xL.length cap2) xL) w w2 G y #[.int .i64 k, .int .i64 i, .int .i64 ep, .int .i64 pg, .int .i64 sz, .int .i64 nn, .string s, .int .i64 pe, .slice ao L.length cap] from HU0)
  have HT := Lib.hid (show Boxed (RN r) w ((w.alloc (.cells #[.int .i64 k, .int .i64 i, .int .i64 ep, .int .i64 pg, .int .i64 sz, .int .i64 nn, .string s, .int .i64 pe, .slice ao L.length cap] 42)).alloc (.cells #[.int .i64 0, .int .i64 0, .string ⟨#[]⟩, .int .i64 0, .slice none 0 0, .int .i64 0, .int .i64 0, .int .i64 0] 39)) G n #[.int .i64 k, .int .i64 i, .int .i64 ep, .int .i64 pg, .int .i64 sz, .int .i64 nn, .string s, .int .i64 pe, .slice ao L.length cap] from HS)
  have cu : ((w.alloc (.cells #[.int .i64 k, .int .i64 i, .int .i64 ep, .int .i64 pg, .int .i64 sz, .int .i64 nn, .string s, .int .i64 pe, .slice ao L.length cap] 42)).alloc (.cells #[.int .i64 0, .int .i64 0, .string ⟨#[]⟩, .int .i64 0, .slice none 0 0, .int .i64 0, .int .i64 0, .int .i64 0] 39)).cell? ⟨r, i, none⟩ = some (.pointer (some ⟨(B i).1, 0, none⟩)) := cu0
  clear hk HS HP0 HU0 cu0
  show Calls _ _ #[.pointer (some ⟨r, 0, none⟩), .agg #[.int .i64 k, .int .i64 i, .int .i64 ep, .int .i64 pg, .int .i64 sz, .int .i64 nn, .string s, .int .i64 pe, .slice ao L.length cap]] w _
  go_enter Tryz.func12, Tryz.ntmps12
  go_wp2_with fail
  generalize hW0 : ((w.alloc (.cells #[.int .i64 k, .int .i64 i, .int .i64 ep, .int .i64 pg, .int .i64 sz, .int .i64 nn, .string s, .int .i64 pe, .slice ao L.length cap] 42)).alloc (.cells #[.int .i64 0, .int .i64 0, .string ⟨#[]⟩, .int .i64 0, .slice none 0 0, .int .i64 0, .int .i64 0, .int .i64 0] 39)) = W0 at *
  clear hW0
  obtain ⟨l1, l2⟩ := HT.out.small
  have q := HT.out.ask
  have q0 := cell_of q 0
  have q1 : W0.cell? ⟨w.heap.size, 1, none⟩ = some (.int .i64 i) := cell_of q 1
  have q2 := cell_of q 2
  have q3 := cell_of q 3
  have q4 := cell_of q 4
  have q5 := cell_of q 5
  have q6 := cell_of q 6
  have q7 := cell_of q 7
  have q8 := cell_of q 8
  have hr0 : r < W0.heap.size := by omega
  clear q HT
  go_still_tail 8, (by kernel_rfl)
  change wpList _ _ _ _ _ W0.drew
  go_wp2_with fail
  refine HP.out.mono ?_
  rintro e w3 ht
  obtain ⟨ao3, cap3, C3, he, hC3, hl3⟩ := tells_chained ht
  subst he
  unfold ansV ansC
  have HT3 := Lib.hid (HU.out w3 ao3 cap3 C3 hl3)
  have HC3 := Lib.hid (show ∀ k, C3 k → w.heap.size ≤ k from fun k hk => Nat.le_trans (Nat.le_of_lt l1) (hC3 k hk))
  clear hl3 hC3 ht
  obtain ⟨nl1, nl2⟩ := HT3.out.small
  obtain ⟨⟨ny0, ny1, ny2, ny3, ny4, ny5, ny6, ny7⟩, nfy0, nfy1, nfy2, nfy3, nfy4, nfy5, nfy6, nfy7⟩ := eight_cells HT3.out.ans
  go_wp2_with fail
  exact ans_ret (x := ⟨xc, xn, xd, xp, xL, xm, xz, xe⟩) (ao := ao3) (cap := cap3) rfl (HT3.out.fin (chained_thing (rn_thing r) _ _ _)).1 rfl rfl (chained_tells (x := ⟨xc, xn, xd, xp, xL, xm, xz, xe⟩) HC3.out (HT3.out.fin (chained_thing (rn_thing r) _ _ _)).2)
end Go.Proofs.YtphigibhgldnpaaGreat
namespace Go.Proofs.YtphigibhgldnpaaGreat
set_option linter.unusedVariables false
open Go.RowKit
set_option maxRecDepth 20000
/-- what units, sequencer and layout are -/
structure Three (UG : Nat → Nat → (Nat → Prop) → World → Us → Prop) (OG : Nat → (Nat → Prop) → World → Od → Prop) (LG : Nat → (Nat → Prop) → World → Ly → Prop) : Prop where
  u : UnitSays UG
  o : OrderSays OG
  l : LaySays LG
/-- the block of 18 pointers, of which the first m units' are there -/
structure TabP (A : Array Value) (m : Nat) (B : Nat → Nat × Nat) (ro rl : Nat) : Prop where
  size : A.size = 18
  at_ : ∀ i, i < m → A[i]? = some (ptrV (B i).1)
  o : A[16]? = some (ptrO ro)
  l : A[17]? = some (ptrL rl)
theorem TabP.put {A : Array Value} {m : Nat} {B : Nat → Nat × Nat} {ro rl : Nat} (h : TabP A m B ro rl) (hm : m < 16) (x : Nat × Nat) : TabP (A.setIfInBounds m (ptrV x.1)) (m + 1) (fun j => if j = m then x else B j) ro rl := by
  have hs := h.size
  refine ⟨by simp [hs], fun i hi => ?_, ?_, ?_⟩
  · by_cases e : i = m
    · subst e
      simp [hs, show i < 18 by omega]
    · rw [Array.getElem?_setIfInBounds_ne (fun h => e h.symm), if_neg e]
      exact h.at_ i (by omega)
  · rw [Array.getElem?_setIfInBounds_ne (by omega)]
    exact h.o
  · rw [Array.getElem?_setIfInBounds_ne (by omega)]
    exact h.l
/-- its parts, one after another -/
def nodeP (UG : Nat → Nat → (Nat → Prop) → World → Us → Prop) (OG : Nat → (Nat → Prop) → World → Od → Prop) (LG : Nat → (Nat → Prop) → World → Ly → Prop) (r : Nat) (A : Array Value) (ro rl : Nat) (B : Nat → Nat × Nat) (n : Nd) : Nat → (Nat → Prop) → World → Prop
  | 0 => fun F w => LG rl F w n.l
  | 1 => fun F w => OG ro F w n.o
  | 2 => fun F w => w.heap[r]? = some (.cells A 59 (0, 0)) ∧ ∀ k, F k ↔ k = r
  | i + 3 => fun F w => UG (B i).1 (B i).2 F w (n.u i)
theorem nodeP_part {UG : Nat → Nat → (Nat → Prop) → World → Us → Prop} {OG : Nat → (Nat → Prop) → World → Od → Prop} {LG : Nat → (Nat → Prop) → World → Ly → Prop} (HT : Three UG OG LG) (r : Nat) (A : Array Value) (ro rl : Nat) (B : Nat → Nat × Nat) (n : Nd) : ∀ i, Part (nodeP UG OG LG r A ro rl B n i)
  | 0 => (HT.l.thing rl).part n.l
  | 1 => (HT.o.thing ro).part n.o
  | 2 => ⟨fun h k hk => by rw [(h.2 k).1 hk]; exact lt_of_block h.1, fun h hk hS => ⟨hk.heap (hS r ((h.2 r).2 rfl)) h.1, h.2⟩⟩
  | i + 3 => (HT.u.thing (B i).1 (B i).2).part (n.u i)
/-- block r is the document's nodes -/
def RM (UG : Nat → Nat → (Nat → Prop) → World → Us → Prop) (OG : Nat → (Nat → Prop) → World → Od → Prop) (LG : Nat → (Nat → Prop) → World → Ly → Prop) (r : Nat) (G : Nat → Prop) (w : World) (n : Nd) : Prop := ∃ (A : Array Value) (ro rl : Nat) (B : Nat → Nat × Nat), TabP A 16 B ro rl ∧ BundG 19 (nodeP UG OG LG r A ro rl B n) G w
theorem rm_thing {UG : Nat → Nat → (Nat → Prop) → World → Us → Prop} {OG : Nat → (Nat → Prop) → World → Od → Prop} {LG : Nat → (Nat → Prop) → World → Ly → Prop} (HT : Three UG OG LG) (r : Nat) : Thing (RM UG OG LG r) where
  lt := by
    rintro G w n ⟨A, ro, rl, B, h1, h2⟩
    exact h2.lt (fun i _ => nodeP_part HT r A ro rl B n i)
  keep := by
    rintro G S w w' n ⟨A, ro, rl, B, h1, h2⟩ hk hS
    exact ⟨A, ro, rl, B, h1, h2.keep (fun i _ => nodeP_part HT r A ro rl B n i) hk hS⟩
section
variable {UG : Nat → Nat → (Nat → Prop) → World → Us → Prop} {OG : Nat → (Nat → Prop) → World → Od → Prop} {LG : Nat → (Nat → Prop) → World → Ly → Prop} {r : Nat} {A : Array Value} {ro rl : Nat} {B : Nat → Nat × Nat} {n : Nd} {G : Nat → Prop} {w : World}
theorem rm_putL (h1 : TabP A 16 B ro rl) {y : Ly} {G' : Nat → Prop} {W : World} (h : BundG 19 (swapP (nodeP UG OG LG r A ro rl B n) 0 (fun F W => LG rl F W y)) G' W) : RM UG OG LG r G' W (n.putL y) :=
  ⟨A, ro, rl, B, h1, h.same (fun i _ F W hF => by match i, hF with | 0, hF => exact hF | 1, hF => exact hF | 2, hF => exact hF | j + 3, hF => exact hF)⟩
theorem rm_putO (h1 : TabP A 16 B ro rl) {o : Od} {G' : Nat → Prop} {W : World} (h : BundG 19 (swapP (nodeP UG OG LG r A ro rl B n) 1 (fun F W => OG ro F W o)) G' W) : RM UG OG LG r G' W (n.putO o) :=
  ⟨A, ro, rl, B, h1, h.same (fun i _ F W hF => by match i, hF with | 0, hF => exact hF | 1, hF => exact hF | 2, hF => exact hF | j + 3, hF => exact hF)⟩
theorem rm_putU (h1 : TabP A 16 B ro rl) {k : Nat} {u : Us} {G' : Nat → Prop} {W : World} (h : BundG 19 (swapP (nodeP UG OG LG r A ro rl B n) (k + 3) (fun F W => UG (B k).1 (B k).2 F W u)) G' W) : RM UG OG LG r G' W (n.putU k u) := by
  refine ⟨A, ro, rl, B, h1, h.same (fun i _ F W hF => ?_)⟩
  match i, hF with
  | 0, hF => exact hF
  | 1, hF => exact hF
  | 2, hF => exact hF
  | j + 3, hF =>
    unfold swapP at hF
    by_cases e : j = k
    · subst e
      rw [if_pos rfl] at hF
      show UG _ _ F W ((n.putU j u).u j)
      rw [putU_at]
      exact hF
    · rw [if_neg (by omega)] at hF
      show UG _ _ F W ((n.putU k u).u j)
      rw [putU_off n u e]
      exact hF
/-- the block of pointers -/
theorem RM.tab (h : RM UG OG LG r G w n) : ∃ (A : Array Value) (ro rl : Nat) (B : Nat → Nat × Nat), TabP A 16 B ro rl ∧ w.heap[r]? = some (.cells A 59 (0, 0)) ∧ G r ∧ BundG 19 (nodeP UG OG LG r A ro rl B n) G w := by
  obtain ⟨A, ro, rl, B, h1, h2⟩ := h
  obtain ⟨F, h3, h4⟩ := h2.look (i := 2) (by omega)
  exact ⟨A, ro, rl, B, h1, h3.1, h4 r ((h3.2 r).2 rfl), h2⟩
end
end Go.Proofs.YtphigibhgldnpaaGreat
