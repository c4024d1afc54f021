/- What the document's own nodes answer a question for a unit, and are behind it. Conditions: they lie where the call was told; the question's chains lie in memory that is none of theirs; its data are not too long. (Written by gen/genrpcc.py.) What the document's own nodes answer a question for the layout, and are behind it. Conditions: they lie where the call was told; the question's chains lie in memory that is none of theirs; its data are not too long. (Written by gen/genrpcc.py.) -/
import Derived.Test.YtkicjgaejieinaaGreatG17a
import Derived.Test.YtkicjgaejieinaaGreatG12b
import Derived.Test.YtkicjgaejieinaaGreatG10b
import Derived.Test.YtkicjgaejieinaaGreatG20a
import Derived.Test.YtkicjgaejieinaaGreatG22a
import Derived.StillTailTactics
set_option linter.unusedVariables false
namespace Go.Proofs.YtkicjgaejieinaaGreat
set_option linter.unusedVariables false
open Go.RowKit
set_option maxRecDepth 20000
set_option maxHeartbeats 1600000 in
theorem ndo_u1 (r : Nat) (G : Nat → Prop) (w : World) (n : Nd) (a : Ak) (h : RN r G w n) (hk : a.kind = 1) (hu : 0 ≤ a.unit ∧ a.unit ≤ 15) (hw : i64w a.epoch) (hs : a.data.size ≤ 1000000) :
    Calls Tryz.prog 29 #[ptrN r, askV a] w fun e w' => Tells (RN r) G w (n.putU a.unit.toNat ((n.u a.unit.toNat).done a)) ((n.u a.unit.toNat).ans a) e w' := by
  have hr : r < w.heap.size := by obtain ⟨_, _, _, _, _, h1, _⟩ := h.tab; exact lt_of_block h1
  have HS := boxed_start (rn_thing r) h (askC a).toArray
  obtain ⟨H, hH, hkk, hU⟩ := (HS.drewN (rn_thing r) 1).use2
  obtain ⟨A, ro, rl, B, hT, hA, _, hB⟩ := hH.tab
  obtain ⟨i, hi⟩ : ∃ i : Nat, a.unit = i := ⟨a.unit.toNat, by omega⟩
  have hit : a.unit.toNat = i := by omega
  have hi16 : i < 16 := by omega
  rw [hit]
  obtain ⟨F, hF, _, hbu⟩ := hB.use (fun i _ => nodeT_part r A ro rl B n i) (i := i + 3) (by omega)
  have hF' : RU (B i).1 (B i).2 F _ (n.u i) := hF
  have HP0 := (rdo_any _ _ F _ _ a hF' hw hs).mono (fun e w' h => tells_plain (hbu (RU (B i).1 (B i).2) (RN r) w' _ (n.putU i ((n.u i).done a)) (fun G' W h => rn_putU hT h) h.2) (ans_L _ _) h.1)
  have cu0 := (cell_of hA i).trans (hT.at_ i hi16)
  have hi15 : (i : Int) ≤ 15 := by omega
  have hi0 : 0 ≤ (i : Int) := by omega
  have hi17 : (i : Int) < 16 := by omega
  clear hF hF' hbu hu hw hs
  generalize hxe : (n.u i).ans a = x at *
  generalize hye : n.putU i ((n.u i).done a) = y at *
  have HU0 := fun w2 (ao : Option Addr) (cap : Nat) (C : Nat → Prop) (hl : Leaves (Chained (RN r) C (.slice ao x.L.length cap) x.L) H (((w.alloc (.cells (askC a).toArray 34)).alloc (.cells zeroAn 38)).drewN 1) w2 y) => hU (Chained (RN r) C (.slice ao x.L.length cap) x.L) w2 y hl
  clear hU hB hH hkk hxe hye hA hT h
  obtain ⟨k, un, ep, pg, sz, nn, s, pe, L, ao, cap⟩ := a
  obtain ⟨xc, xn, xd, xp, xL, xm, xz, xe⟩ := x
  simp only at *
  subst hi
  have d1 : (k == 1) = true := by rw [hk]; rfl
  have d2 : (k == 2) = false := beq_eq_false_iff_ne.2 (by omega)
  have d3 : (k == 3) = false := beq_eq_false_iff_ne.2 (by omega)
  have d4 : (k == 4) = false := beq_eq_false_iff_ne.2 (by omega)
  have d5 : (k == 5) = false := beq_eq_false_iff_ne.2 (by omega)
  have d6 : (k == 6) = false := beq_eq_false_iff_ne.2 (by omega)
  have d7 : (k == 7) = false := beq_eq_false_iff_ne.2 (by omega)
  have d8 : (k == 8) = false := beq_eq_false_iff_ne.2 (by omega)
  have d9 : (k == 9) = false := beq_eq_false_iff_ne.2 (by omega)
  have d10 : (k == 10) = false := beq_eq_false_iff_ne.2 (by omega)
  have d11 : (k == 11) = false := beq_eq_false_iff_ne.2 (by omega)
  have HP := Lib.hid (show Calls Tryz.prog 58 #[.pointer (some ⟨(B i).1, 0, none⟩), .agg #[.int .i64 k, .int .i64 i, .int .i64 ep, .int .i64 pg, .int .i64 sz, .int .i64 nn, .string s, .int .i64 pe, .slice ao L.length cap]] (((w.alloc (.cells #[.int .i64 k, .int .i64 i, .int .i64 ep, .int .i64 pg, .int .i64 sz, .int .i64 nn, .string s, .int .i64 pe, .slice ao L.length cap] 34)).alloc (.cells #[.int .i64 0, .int .i64 0, .string ⟨#[]⟩, .int .i64 0, .slice none 0 0, .int .i64 0, .int .i64 0, .int .i64 0] 38)).drewN 1) fun e w' => Tells (RN r) H (((w.alloc (.cells #[.int .i64 k, .int .i64 i, .int .i64 ep, .int .i64 pg, .int .i64 sz, .int .i64 nn, .string s, .int .i64 pe, .slice ao L.length cap] 34)).alloc (.cells #[.int .i64 0, .int .i64 0, .string ⟨#[]⟩, .int .i64 0, .slice none 0 0, .int .i64 0, .int .i64 0, .int .i64 0] 38)).drewN 1) y ⟨xc, xn, xd, xp, xL, xm, xz, xe⟩ e w' from HP0)
  have HU := Lib.hid (show ∀ w2 (ao2 : Option Addr) (cap2 : Nat) (C : Nat → Prop), Leaves (Chained (RN r) C (.slice ao2 xL.length cap2) xL) H (((w.alloc (.cells #[.int .i64 k, .int .i64 i, .int .i64 ep, .int .i64 pg, .int .i64 sz, .int .i64 nn, .string s, .int .i64 pe, .slice ao L.length cap] 34)).alloc (.cells #[.int .i64 0, .int .i64 0, .string ⟨#[]⟩, .int .i64 0, .slice none 0 0, .int .i64 0, .int .i64 0, .int .i64 0] 38)).drewN 1) w2 y → Boxed (Chained (RN r) C (.slice ao2 xL.length cap2) xL) w w2 G y #[.int .i64 k, .int .i64 i, .int .i64 ep, .int .i64 pg, .int .i64 sz, .int .i64 nn, .string s, .int .i64 pe, .slice ao L.length cap] from HU0)
  have HT := Lib.hid (show Boxed (RN r) w ((w.alloc (.cells #[.int .i64 k, .int .i64 i, .int .i64 ep, .int .i64 pg, .int .i64 sz, .int .i64 nn, .string s, .int .i64 pe, .slice ao L.length cap] 34)).alloc (.cells #[.int .i64 0, .int .i64 0, .string ⟨#[]⟩, .int .i64 0, .slice none 0 0, .int .i64 0, .int .i64 0, .int .i64 0] 38)) G n #[.int .i64 k, .int .i64 i, .int .i64 ep, .int .i64 pg, .int .i64 sz, .int .i64 nn, .string s, .int .i64 pe, .slice ao L.length cap] from HS)
  have cu : ((w.alloc (.cells #[.int .i64 k, .int .i64 i, .int .i64 ep, .int .i64 pg, .int .i64 sz, .int .i64 nn, .string s, .int .i64 pe, .slice ao L.length cap] 34)).alloc (.cells #[.int .i64 0, .int .i64 0, .string ⟨#[]⟩, .int .i64 0, .slice none 0 0, .int .i64 0, .int .i64 0, .int .i64 0] 38)).cell? ⟨r, i, none⟩ = some (.pointer (some ⟨(B i).1, 0, none⟩)) := cu0
  clear hk HS HP0 HU0 cu0
  show Calls _ _ #[.pointer (some ⟨r, 0, none⟩), .agg #[.int .i64 k, .int .i64 i, .int .i64 ep, .int .i64 pg, .int .i64 sz, .int .i64 nn, .string s, .int .i64 pe, .slice ao L.length cap]] w _
  go_enter Tryz.func29, Tryz.ntmps29
  go_wp2_with fail
  generalize hW0 : ((w.alloc (.cells #[.int .i64 k, .int .i64 i, .int .i64 ep, .int .i64 pg, .int .i64 sz, .int .i64 nn, .string s, .int .i64 pe, .slice ao L.length cap] 34)).alloc (.cells #[.int .i64 0, .int .i64 0, .string ⟨#[]⟩, .int .i64 0, .slice none 0 0, .int .i64 0, .int .i64 0, .int .i64 0] 38)) = W0 at *
  clear hW0
  obtain ⟨l1, l2⟩ := HT.out.small
  have q := HT.out.ask
  have q0 := cell_of q 0
  have q1 : W0.cell? ⟨w.heap.size, 1, none⟩ = some (.int .i64 i) := cell_of q 1
  have q2 := cell_of q 2
  have q3 := cell_of q 3
  have q4 := cell_of q 4
  have q5 := cell_of q 5
  have q6 := cell_of q 6
  have q7 := cell_of q 7
  have q8 := cell_of q 8
  have hr0 : r < W0.heap.size := by omega
  clear q HT
  go_still_tail 8, (by kernel_rfl)
  change wpList _ _ _ _ _ W0.drew
  go_wp2_with fail
  refine HP.out.mono ?_
  rintro e w3 ht
  obtain ⟨ao3, cap3, C3, he, hC3, hl3⟩ := tells_chained ht
  subst he
  unfold ansV ansC
  have HT3 := Lib.hid (HU.out w3 ao3 cap3 C3 hl3)
  have HC3 := Lib.hid (show ∀ k, C3 k → w.heap.size ≤ k from fun k hk => Nat.le_trans (Nat.le_of_lt l1) (hC3 k hk))
  clear hl3 hC3 ht
  obtain ⟨nl1, nl2⟩ := HT3.out.small
  obtain ⟨⟨ny0, ny1, ny2, ny3, ny4, ny5, ny6, ny7⟩, nfy0, nfy1, nfy2, nfy3, nfy4, nfy5, nfy6, nfy7⟩ := eight_cells HT3.out.ans
  go_wp2_with fail
  exact ans_ret (x := ⟨xc, xn, xd, xp, xL, xm, xz, xe⟩) (ao := ao3) (cap := cap3) rfl (HT3.out.fin (chained_thing (rn_thing r) _ _ _)).1 rfl rfl (chained_tells (x := ⟨xc, xn, xd, xp, xL, xm, xz, xe⟩) HC3.out (HT3.out.fin (chained_thing (rn_thing r) _ _ _)).2)
set_option maxHeartbeats 1600000 in
theorem ndo_u2 (r : Nat) (G : Nat → Prop) (w : World) (n : Nd) (a : Ak) (h : RN r G w n) (hk : a.kind = 2) (hu : 0 ≤ a.unit ∧ a.unit ≤ 15) (hw : i64w a.epoch) (hs : a.data.size ≤ 1000000) :
    Calls Tryz.prog 29 #[ptrN r, askV a] w fun e w' => Tells (RN r) G w (n.putU a.unit.toNat ((n.u a.unit.toNat).done a)) ((n.u a.unit.toNat).ans a) e w' := by
  have hr : r < w.heap.size := by obtain ⟨_, _, _, _, _, h1, _⟩ := h.tab; exact lt_of_block h1
  have HS := boxed_start (rn_thing r) h (askC a).toArray
  obtain ⟨H, hH, hkk, hU⟩ := (HS.drewN (rn_thing r) 1).use2
  obtain ⟨A, ro, rl, B, hT, hA, _, hB⟩ := hH.tab
  obtain ⟨i, hi⟩ : ∃ i : Nat, a.unit = i := ⟨a.unit.toNat, by omega⟩
  have hit : a.unit.toNat = i := by omega
  have hi16 : i < 16 := by omega
  rw [hit]
  obtain ⟨F, hF, _, hbu⟩ := hB.use (fun i _ => nodeT_part r A ro rl B n i) (i := i + 3) (by omega)
  have hF' : RU (B i).1 (B i).2 F _ (n.u i) := hF
  have HP0 := (rdo_any _ _ F _ _ a hF' hw hs).mono (fun e w' h => tells_plain (hbu (RU (B i).1 (B i).2) (RN r) w' _ (n.putU i ((n.u i).done a)) (fun G' W h => rn_putU hT h) h.2) (ans_L _ _) h.1)
  have cu0 := (cell_of hA i).trans (hT.at_ i hi16)
  have hi15 : (i : Int) ≤ 15 := by omega
  have hi0 : 0 ≤ (i : Int) := by omega
  have hi17 : (i : Int) < 16 := by omega
  clear hF hF' hbu hu hw hs
  generalize hxe : (n.u i).ans a = x at *
  generalize hye : n.putU i ((n.u i).done a) = y at *
  have HU0 := fun w2 (ao : Option Addr) (cap : Nat) (C : Nat → Prop) (hl : Leaves (Chained (RN r) C (.slice ao x.L.length cap) x.L) H (((w.alloc (.cells (askC a).toArray 34)).alloc (.cells zeroAn 38)).drewN 1) w2 y) => hU (Chained (RN r) C (.slice ao x.L.length cap) x.L) w2 y hl
  clear hU hB hH hkk hxe hye hA hT h
  obtain ⟨k, un, ep, pg, sz, nn, s, pe, L, ao, cap⟩ := a
  obtain ⟨xc, xn, xd, xp, xL, xm, xz, xe⟩ := x
  simp only at *
  subst hi
  have d1 : (k == 1) = false := beq_eq_false_iff_ne.2 (by omega)
  have d2 : (k == 2) = true := by rw [hk]; rfl
  have d3 : (k == 3) = false := beq_eq_false_iff_ne.2 (by omega)
  have d4 : (k == 4) = false := beq_eq_false_iff_ne.2 (by omega)
  have d5 : (k == 5) = false := beq_eq_false_iff_ne.2 (by omega)
  have d6 : (k == 6) = false := beq_eq_false_iff_ne.2 (by omega)
  have d7 : (k == 7) = false := beq_eq_false_iff_ne.2 (by omega)
  have d8 : (k == 8) = false := beq_eq_false_iff_ne.2 (by omega)
  have d9 : (k == 9) = false := beq_eq_false_iff_ne.2 (by omega)
  have d10 : (k == 10) = false := beq_eq_false_iff_ne.2 (by omega)
  have d11 : (k == 11) = false := beq_eq_false_iff_ne.2 (by omega)
  have HP := Lib.hid (show Calls Tryz.prog 58 #[.pointer (some ⟨(B i).1, 0, none⟩), .agg #[.int .i64 k, .int .i64 i, .int .i64 ep, .int .i64 pg, .int .i64 sz, .int .i64 nn, .string s, .int .i64 pe, .slice ao L.length cap]] (((w.alloc (.cells #[.int .i64 k, .int .i64 i, .int .i64 ep, .int .i64 pg, .int .i64 sz, .int .i64 nn, .string s, .int .i64 pe, .slice ao L.length cap] 34)).alloc (.cells #[.int .i64 0, .int .i64 0, .string ⟨#[]⟩, .int .i64 0, .slice none 0 0, .int .i64 0, .int .i64 0, .int .i64 0] 38)).drewN 1) fun e w' => Tells (RN r) H (((w.alloc (.cells #[.int .i64 k, .int .i64 i, .int .i64 ep, .int .i64 pg, .int .i64 sz, .int .i64 nn, .string s, .int .i64 pe, .slice ao L.length cap] 34)).alloc (.cells #[.int .i64 0, .int .i64 0, .string ⟨#[]⟩, .int .i64 0, .slice none 0 0, .int .i64 0, .int .i64 0, .int .i64 0] 38)).drewN 1) y ⟨xc, xn, xd, xp, xL, xm, xz, xe⟩ e w' from HP0)
  have HU := Lib.hid (show ∀ w2 (ao2 : Option Addr) (cap2 : Nat) (C : Nat → Prop), Leaves (Chained (RN r) C (.slice ao2 xL.length cap2) xL) H (((w.alloc (.cells #[.int .i64 k, .int .i64 i, .int .i64 ep, .int .i64 pg, .int .i64 sz, .int .i64 nn, .string s, .int .i64 pe, .slice ao L.length cap] 34)).alloc (.cells #[.int .i64 0, .int .i64 0, .string ⟨#[]⟩, .int .i64 0, .slice none 0 0, .int .i64 0, .int .i64 0, .int .i64 0] 38)).drewN 1) w2 y → Boxed (Chained (RN r) C (.slice ao2 xL.length cap2) xL) w w2 G y #[.int .i64 k, .int .i64 i, .int .i64 ep, .int .i64 pg, .int .i64 sz, .int .i64 nn, .string s, .int .i64 pe, .slice ao L.length cap] from HU0)
  have HT := Lib.hid (show Boxed (RN r) w ((w.alloc (.cells #[.int .i64 k, .int .i64 i, .int .i64 ep, .int .i64 pg, .int .i64 sz, .int .i64 nn, .string s, .int .i64 pe, .slice ao L.length cap] 34)).alloc (.cells #[.int .i64 0, .int .i64 0, .string ⟨#[]⟩, .int .i64 0, .slice none 0 0, .int .i64 0, .int .i64 0, .int .i64 0] 38)) G n #[.int .i64 k, .int .i64 i, .int .i64 ep, .int .i64 pg, .int .i64 sz, .int .i64 nn, .string s, .int .i64 pe, .slice ao L.length cap] from HS)
  have cu : ((w.alloc (.cells #[.int .i64 k, .int .i64 i, .int .i64 ep, .int .i64 pg, .int .i64 sz, .int .i64 nn, .string s, .int .i64 pe, .slice ao L.length cap] 34)).alloc (.cells #[.int .i64 0, .int .i64 0, .string ⟨#[]⟩, .int .i64 0, .slice none 0 0, .int .i64 0, .int .i64 0, .int .i64 0] 38)).cell? ⟨r, i, none⟩ = some (.pointer (some ⟨(B i).1, 0, none⟩)) := cu0
  clear hk HS HP0 HU0 cu0
  show Calls _ _ #[.pointer (some ⟨r, 0, none⟩), .agg #[.int .i64 k, .int .i64 i, .int .i64 ep, .int .i64 pg, .int .i64 sz, .int .i64 nn, .string s, .int .i64 pe, .slice ao L.length cap]] w _
  go_enter Tryz.func29, Tryz.ntmps29
  go_wp2_with fail
  generalize hW0 : ((w.alloc (.cells #[.int .i64 k, .int .i64 i, .int .i64 ep, .int .i64 pg, .int .i64 sz, .int .i64 nn, .string s, .int .i64 pe, .slice ao L.length cap] 34)).alloc (.cells #[.int .i64 0, .int .i64 0, .string ⟨#[]⟩, .int .i64 0, .slice none 0 0, .int .i64 0, .int .i64 0, .int .i64 0] 38)) = W0 at *
  clear hW0
  obtain ⟨l1, l2⟩ := HT.out.small
  have q := HT.out.ask
  have q0 := cell_of q 0
  have q1 : W0.cell? ⟨w.heap.size, 1, none⟩ = some (.int .i64 i) := cell_of q 1
  have q2 := cell_of q 2
  have q3 := cell_of q 3
  have q4 := cell_of q 4
  have q5 := cell_of q 5
  have q6 := cell_of q 6
  have q7 := cell_of q 7
  have q8 := cell_of q 8
  have hr0 : r < W0.heap.size := by omega
  clear q HT
  go_still_tail 8, (by kernel_rfl)
  change wpList _ _ _ _ _ W0.drew
  go_wp2_with fail
  refine HP.out.mono ?_
  rintro e w3 ht
  obtain ⟨ao3, cap3, C3, he, hC3, hl3⟩ := tells_chained ht
  subst he
  unfold ansV ansC
  have HT3 := Lib.hid (HU.out w3 ao3 cap3 C3 hl3)
  have HC3 := Lib.hid (show ∀ k, C3 k → w.heap.size ≤ k from fun k hk => Nat.le_trans (Nat.le_of_lt l1) (hC3 k hk))
  clear hl3 hC3 ht
  obtain ⟨nl1, nl2⟩ := HT3.out.small
  obtain ⟨⟨ny0, ny1, ny2, ny3, ny4, ny5, ny6, ny7⟩, nfy0, nfy1, nfy2, nfy3, nfy4, nfy5, nfy6, nfy7⟩ := eight_cells HT3.out.ans
  go_wp2_with fail
  exact ans_ret (x := ⟨xc, xn, xd, xp, xL, xm, xz, xe⟩) (ao := ao3) (cap := cap3) rfl (HT3.out.fin (chained_thing (rn_thing r) _ _ _)).1 rfl rfl (chained_tells (x := ⟨xc, xn, xd, xp, xL, xm, xz, xe⟩) HC3.out (HT3.out.fin (chained_thing (rn_thing r) _ _ _)).2)
set_option maxHeartbeats 1600000 in
theorem ndo_u3 (r : Nat) (G : Nat → Prop) (w : World) (n : Nd) (a : Ak) (h : RN r G w n) (hk : a.kind = 3) (hu : 0 ≤ a.unit ∧ a.unit ≤ 15) (hw : i64w a.epoch) (hs : a.data.size ≤ 1000000) :
    Calls Tryz.prog 29 #[ptrN r, askV a] w fun e w' => Tells (RN r) G w (n.putU a.unit.toNat ((n.u a.unit.toNat).done a)) ((n.u a.unit.toNat).ans a) e w' := by
  have hr : r < w.heap.size := by obtain ⟨_, _, _, _, _, h1, _⟩ := h.tab; exact lt_of_block h1
  have HS := boxed_start (rn_thing r) h (askC a).toArray
  obtain ⟨H, hH, hkk, hU⟩ := (HS.drewN (rn_thing r) 1).use2
  obtain ⟨A, ro, rl, B, hT, hA, _, hB⟩ := hH.tab
  obtain ⟨i, hi⟩ : ∃ i : Nat, a.unit = i := ⟨a.unit.toNat, by omega⟩
  have hit : a.unit.toNat = i := by omega
  have hi16 : i < 16 := by omega
  rw [hit]
  obtain ⟨F, hF, _, hbu⟩ := hB.use (fun i _ => nodeT_part r A ro rl B n i) (i := i + 3) (by omega)
  have hF' : RU (B i).1 (B i).2 F _ (n.u i) := hF
  have HP0 := (rdo_any _ _ F _ _ a hF' hw hs).mono (fun e w' h => tells_plain (hbu (RU (B i).1 (B i).2) (RN r) w' _ (n.putU i ((n.u i).done a)) (fun G' W h => rn_putU hT h) h.2) (ans_L _ _) h.1)
  have cu0 := (cell_of hA i).trans (hT.at_ i hi16)
  have hi15 : (i : Int) ≤ 15 := by omega
  have hi0 : 0 ≤ (i : Int) := by omega
  have hi17 : (i : Int) < 16 := by omega
  clear hF hF' hbu hu hw hs
  generalize hxe : (n.u i).ans a = x at *
  generalize hye : n.putU i ((n.u i).done a) = y at *
  have HU0 := fun w2 (ao : Option Addr) (cap : Nat) (C : Nat → Prop) (hl : Leaves (Chained (RN r) C (.slice ao x.L.length cap) x.L) H (((w.alloc (.cells (askC a).toArray 34)).alloc (.cells zeroAn 38)).drewN 1) w2 y) => hU (Chained (RN r) C (.slice ao x.L.length cap) x.L) w2 y hl
  clear hU hB hH hkk hxe hye hA hT h
  obtain ⟨k, un, ep, pg, sz, nn, s, pe, L, ao, cap⟩ := a
  obtain ⟨xc, xn, xd, xp, xL, xm, xz, xe⟩ := x
  simp only at *
  subst hi
  have d1 : (k == 1) = false := beq_eq_false_iff_ne.2 (by omega)
  have d2 : (k == 2) = false := beq_eq_false_iff_ne.2 (by omega)
  have d3 : (k == 3) = true := by rw [hk]; rfl
  have d4 : (k == 4) = false := beq_eq_false_iff_ne.2 (by omega)
  have d5 : (k == 5) = false := beq_eq_false_iff_ne.2 (by omega)
  have d6 : (k == 6) = false := beq_eq_false_iff_ne.2 (by omega)
  have d7 : (k == 7) = false := beq_eq_false_iff_ne.2 (by omega)
  have d8 : (k == 8) = false := beq_eq_false_iff_ne.2 (by omega)
  have d9 : (k == 9) = false := beq_eq_false_iff_ne.2 (by omega)
  have d10 : (k == 10) = false := beq_eq_false_iff_ne.2 (by omega)
  have d11 : (k == 11) = false := beq_eq_false_iff_ne.2 (by omega)
  have HP := Lib.hid (show Calls Tryz.prog 58 #[.pointer (some ⟨(B i).1, 0, none⟩), .agg #[.int .i64 k, .int .i64 i, .int .i64 ep, .int .i64 pg, .int .i64 sz, .int .i64 nn, .string s, .int .i64 pe, .slice ao L.length cap]] (((w.alloc (.cells #[.int .i64 k, .int .i64 i, .int .i64 ep, .int .i64 pg, .int .i64 sz, .int .i64 nn, .string s, .int .i64 pe, .slice ao L.length cap] 34)).alloc (.cells #[.int .i64 0, .int .i64 0, .string ⟨#[]⟩, .int .i64 0, .slice none 0 0, .int .i64 0, .int .i64 0, .int .i64 0] 38)).drewN 1) fun e w' => Tells (RN r) H (((w.alloc (.cells #[.int .i64 k, .int .i64 i, .int .i64 ep, .int .i64 pg, .int .i64 sz, .int .i64 nn, .string s, .int .i64 pe, .slice ao L.length cap] 34)).alloc (.cells #[.int .i64 0, .int .i64 0, .string ⟨#[]⟩, .int .i64 0, .slice none 0 0, .int .i64 0, .int .i64 0, .int .i64 0] 38)).drewN 1) y ⟨xc, xn, xd, xp, xL, xm, xz, xe⟩ e w' from HP0)
  have HU := Lib.hid (show ∀ w2 (ao2 : Option Addr) (cap2 : Nat) (C : Nat → Prop), Leaves (Chained (RN r) C (.slice ao2 xL.length cap2) xL) H (((w.alloc (.cells #[.int .i64 k, .int .i64 i, .int .i64 ep, .int .i64 pg, .int .i64 sz, .int .i64 nn, .string s, .int .i64 pe, .slice ao L.length cap] 34)).alloc (.cells #[.int .i64 0, .int .i64 0, .string ⟨#[]⟩, .int .i64 0, .slice none 0 0, .int .i64 0, .int .i64 0, .int .i64 0] 38)).drewN 1) w2 y → Boxed (Chained (RN r) C (.slice ao2 xL.length cap2) xL) w w2 G y #[.int .i64 k, .int .i64 i, .int .i64 ep, .int .i64 pg, .int .i64 sz, .int .i64 nn, .string s, .int .i64 pe, .slice ao L.length cap] from HU0)
  have HT := Lib.hid (show Boxed (RN r) w ((w.alloc (.cells #[.int .i64 k, .int .i64 i, .int .i64 ep, .int .i64 pg, .int .i64 sz, .int .i64 nn, .string s, .int .i64 pe, .slice ao L.length cap] 34)).alloc (.cells #[.int .i64 0, .int .i64 0, .string ⟨#[]⟩, .int .i64 0, .slice none 0 0, .int .i64 0, .int .i64 0, .int .i64 0] 38)) G n #[.int .i64 k, .int .i64 i, .int .i64 ep, .int .i64 pg, .int .i64 sz, .int .i64 nn, .string s, .int .i64 pe, .slice ao L.length cap] from HS)
  have cu : ((w.alloc (.cells #[.int .i64 k, .int .i64 i, .int .i64 ep, .int .i64 pg, .int .i64 sz, .int .i64 nn, .string s, .int .i64 pe, .slice ao L.length cap] 34)).alloc (.cells #[.int .i64 0, .int .i64 0, .string ⟨#[]⟩, .int .i64 0, .slice none 0 0, .int .i64 0, .int .i64 0, .int .i64 0] 38)).cell? ⟨r, i, none⟩ = some (.pointer (some ⟨(B i).1, 0, none⟩)) := cu0
  clear hk HS HP0 HU0 cu0
  show Calls _ _ #[.pointer (some ⟨r, 0, none⟩), .agg #[.int .i64 k, .int .i64 i, .int .i64 ep, .int .i64 pg, .int .i64 sz, .int .i64 nn, .string s, .int .i64 pe, .slice ao L.length cap]] w _
  go_enter Tryz.func29, Tryz.ntmps29
  go_wp2_with fail
  generalize hW0 : ((w.alloc (.cells #[.int .i64 k, .int .i64 i, .int .i64 ep, .int .i64 pg, .int .i64 sz, .int .i64 nn, .string s, .int .i64 pe, .slice ao L.length cap] 34)).alloc (.cells #[.int .i64 0, .int .i64 0, .string ⟨#[]⟩, .int .i64 0, .slice none 0 0, .int .i64 0, .int .i64 0, .int .i64 0] 38)) = W0 at *
  clear hW0
  obtain ⟨l1, l2⟩ := HT.out.small
  have q := HT.out.ask
  have q0 := cell_of q 0
  have q1 : W0.cell? ⟨w.heap.size, 1, none⟩ = some (.int .i64 i) := cell_of q 1
  have q2 := cell_of q 2
  have q3 := cell_of q 3
  have q4 := cell_of q 4
  have q5 := cell_of q 5
  have q6 := cell_of q 6
  have q7 := cell_of q 7
  have q8 := cell_of q 8
  have hr0 : r < W0.heap.size := by omega
  clear q HT
  go_still_tail 8, (by kernel_rfl)
  change wpList _ _ _ _ _ W0.drew
  go_wp2_with fail
  refine HP.out.mono ?_
  rintro e w3 ht
  obtain ⟨ao3, cap3, C3, he, hC3, hl3⟩ := tells_chained ht
  subst he
  unfold ansV ansC
  have HT3 := Lib.hid (HU.out w3 ao3 cap3 C3 hl3)
  have HC3 := Lib.hid (show ∀ k, C3 k → w.heap.size ≤ k from fun k hk => Nat.le_trans (Nat.le_of_lt l1) (hC3 k hk))
  clear hl3 hC3 ht
  obtain ⟨nl1, nl2⟩ := HT3.out.small
  obtain ⟨⟨ny0, ny1, ny2, ny3, ny4, ny5, ny6, ny7⟩, nfy0, nfy1, nfy2, nfy3, nfy4, nfy5, nfy6, nfy7⟩ := eight_cells HT3.out.ans
  go_wp2_with fail
  exact ans_ret (x := ⟨xc, xn, xd, xp, xL, xm, xz, xe⟩) (ao := ao3) (cap := cap3) rfl (HT3.out.fin (chained_thing (rn_thing r) _ _ _)).1 rfl rfl (chained_tells (x := ⟨xc, xn, xd, xp, xL, xm, xz, xe⟩) HC3.out (HT3.out.fin (chained_thing (rn_thing r) _ _ _)).2)
end Go.Proofs.YtkicjgaejieinaaGreat
namespace Go.Proofs.YtkicjgaejieinaaGreat
set_option linter.unusedVariables false
open Go.RowKit
set_option maxRecDepth 20000
set_option maxHeartbeats 1600000 in
theorem ndo_l9 (r : Nat) (G : Nat → Prop) (w : World) (n : Nd) (a : Ak) (h : RN r G w n) (hk : a.kind = 9) (hu : n.l.used.length ≤ 100000) (hA2 : ∀ W, Kept (fun k => ¬ G k) w W → CL W a.ao a.L) (hL : a.L.length ≤ 255 ∧ ∀ c ∈ a.L, c.length ≤ 255) :
    Calls Tryz.prog 29 #[ptrN r, askV a] w fun e w' => Tells (RN r) G w (n.putL (n.l.done a)) (n.l.ans a) e w' := by
  have hr : r < w.heap.size := by obtain ⟨_, _, _, _, _, h1, _⟩ := h.tab; exact lt_of_block h1
  have HS := boxed_start (rn_thing r) h (askC a).toArray
  obtain ⟨H, hH, hkk, hU⟩ := (HS.drewN (rn_thing r) 1).use2
  obtain ⟨A, ro, rl, B, hT, hA, _, hB⟩ := hH.tab
  obtain ⟨F, hF, hFH, _⟩ := hB.use (fun i _ => nodeT_part r A ro rl B n i) (i := 0) (by omega)
  have HP0 := bundg_tells (N := RN r) (V := RL rl) (s' := n.putL (n.l.done a)) (fun i _ => nodeT_part r A ro rl B n i) hB (i := 0) (by omega) (fun G' W h => rn_putL hT h) (fun F hF hFH => ldo_any rl F _ n.l a hF hu (fun W hk => hA2 W (hkk W (hk.mono (fun k hn hf => hn (hFH k hf))))) hL)
  have cu0 := (cell_of hA 17).trans hT.l
  clear hF hFH hu hA2 hL
  generalize hxe : n.l.ans a = x at *
  generalize hye : n.putL (n.l.done a) = y at *
  have HU0 := fun w2 (ao : Option Addr) (cap : Nat) (C : Nat → Prop) (hl : Leaves (Chained (RN r) C (.slice ao x.L.length cap) x.L) H (((w.alloc (.cells (askC a).toArray 34)).alloc (.cells zeroAn 38)).drewN 1) w2 y) => hU (Chained (RN r) C (.slice ao x.L.length cap) x.L) w2 y hl
  clear hU hB hH hkk hxe hye hA hT h
  obtain ⟨k, un, ep, pg, sz, nn, s, pe, L, ao, cap⟩ := a
  obtain ⟨xc, xn, xd, xp, xL, xm, xz, xe⟩ := x
  simp only at *
  have d1 : (k == 1) = false := beq_eq_false_iff_ne.2 (by omega)
  have d2 : (k == 2) = false := beq_eq_false_iff_ne.2 (by omega)
  have d3 : (k == 3) = false := beq_eq_false_iff_ne.2 (by omega)
  have d4 : (k == 4) = false := beq_eq_false_iff_ne.2 (by omega)
  have d5 : (k == 5) = false := beq_eq_false_iff_ne.2 (by omega)
  have d6 : (k == 6) = false := beq_eq_false_iff_ne.2 (by omega)
  have d7 : (k == 7) = false := beq_eq_false_iff_ne.2 (by omega)
  have d8 : (k == 8) = false := beq_eq_false_iff_ne.2 (by omega)
  have d9 : (k == 9) = true := by rw [hk]; rfl
  have d10 : (k == 10) = false := beq_eq_false_iff_ne.2 (by omega)
  have d11 : (k == 11) = false := beq_eq_false_iff_ne.2 (by omega)
  have HP := Lib.hid (show Calls Tryz.prog 59 #[.pointer (some ⟨rl, 0, none⟩), .agg #[.int .i64 k, .int .i64 un, .int .i64 ep, .int .i64 pg, .int .i64 sz, .int .i64 nn, .string s, .int .i64 pe, .slice ao L.length cap]] (((w.alloc (.cells #[.int .i64 k, .int .i64 un, .int .i64 ep, .int .i64 pg, .int .i64 sz, .int .i64 nn, .string s, .int .i64 pe, .slice ao L.length cap] 34)).alloc (.cells #[.int .i64 0, .int .i64 0, .string ⟨#[]⟩, .int .i64 0, .slice none 0 0, .int .i64 0, .int .i64 0, .int .i64 0] 38)).drewN 1) fun e w' => Tells (RN r) H (((w.alloc (.cells #[.int .i64 k, .int .i64 un, .int .i64 ep, .int .i64 pg, .int .i64 sz, .int .i64 nn, .string s, .int .i64 pe, .slice ao L.length cap] 34)).alloc (.cells #[.int .i64 0, .int .i64 0, .string ⟨#[]⟩, .int .i64 0, .slice none 0 0, .int .i64 0, .int .i64 0, .int .i64 0] 38)).drewN 1) y ⟨xc, xn, xd, xp, xL, xm, xz, xe⟩ e w' from HP0)
  have HU := Lib.hid (show ∀ w2 (ao2 : Option Addr) (cap2 : Nat) (C : Nat → Prop), Leaves (Chained (RN r) C (.slice ao2 xL.length cap2) xL) H (((w.alloc (.cells #[.int .i64 k, .int .i64 un, .int .i64 ep, .int .i64 pg, .int .i64 sz, .int .i64 nn, .string s, .int .i64 pe, .slice ao L.length cap] 34)).alloc (.cells #[.int .i64 0, .int .i64 0, .string ⟨#[]⟩, .int .i64 0, .slice none 0 0, .int .i64 0, .int .i64 0, .int .i64 0] 38)).drewN 1) w2 y → Boxed (Chained (RN r) C (.slice ao2 xL.length cap2) xL) w w2 G y #[.int .i64 k, .int .i64 un, .int .i64 ep, .int .i64 pg, .int .i64 sz, .int .i64 nn, .string s, .int .i64 pe, .slice ao L.length cap] from HU0)
  have HT := Lib.hid (show Boxed (RN r) w ((w.alloc (.cells #[.int .i64 k, .int .i64 un, .int .i64 ep, .int .i64 pg, .int .i64 sz, .int .i64 nn, .string s, .int .i64 pe, .slice ao L.length cap] 34)).alloc (.cells #[.int .i64 0, .int .i64 0, .string ⟨#[]⟩, .int .i64 0, .slice none 0 0, .int .i64 0, .int .i64 0, .int .i64 0] 38)) G n #[.int .i64 k, .int .i64 un, .int .i64 ep, .int .i64 pg, .int .i64 sz, .int .i64 nn, .string s, .int .i64 pe, .slice ao L.length cap] from HS)
  have cu : ((w.alloc (.cells #[.int .i64 k, .int .i64 un, .int .i64 ep, .int .i64 pg, .int .i64 sz, .int .i64 nn, .string s, .int .i64 pe, .slice ao L.length cap] 34)).alloc (.cells #[.int .i64 0, .int .i64 0, .string ⟨#[]⟩, .int .i64 0, .slice none 0 0, .int .i64 0, .int .i64 0, .int .i64 0] 38)).cell? ⟨r, 17, none⟩ = some (.pointer (some ⟨rl, 0, none⟩)) := cu0
  clear hk HS HP0 HU0 cu0
  show Calls _ _ #[.pointer (some ⟨r, 0, none⟩), .agg #[.int .i64 k, .int .i64 un, .int .i64 ep, .int .i64 pg, .int .i64 sz, .int .i64 nn, .string s, .int .i64 pe, .slice ao L.length cap]] w _
  go_enter Tryz.func29, Tryz.ntmps29
  go_wp2_with fail
  generalize hW0 : ((w.alloc (.cells #[.int .i64 k, .int .i64 un, .int .i64 ep, .int .i64 pg, .int .i64 sz, .int .i64 nn, .string s, .int .i64 pe, .slice ao L.length cap] 34)).alloc (.cells #[.int .i64 0, .int .i64 0, .string ⟨#[]⟩, .int .i64 0, .slice none 0 0, .int .i64 0, .int .i64 0, .int .i64 0] 38)) = W0 at *
  clear hW0
  obtain ⟨l1, l2⟩ := HT.out.small
  have q := HT.out.ask
  have q0 := cell_of q 0
  have q1 : W0.cell? ⟨w.heap.size, 1, none⟩ = some (.int .i64 un) := cell_of q 1
  have q2 := cell_of q 2
  have q3 := cell_of q 3
  have q4 := cell_of q 4
  have q5 := cell_of q 5
  have q6 := cell_of q 6
  have q7 := cell_of q 7
  have q8 := cell_of q 8
  have hr0 : r < W0.heap.size := by omega
  clear q HT
  go_still_tail 5, (by kernel_rfl)
  change wpList _ _ _ _ _ W0.drew
  go_wp2_with fail
  refine HP.out.mono ?_
  rintro e w3 ht
  obtain ⟨ao3, cap3, C3, he, hC3, hl3⟩ := tells_chained ht
  subst he
  unfold ansV ansC
  have HT3 := Lib.hid (HU.out w3 ao3 cap3 C3 hl3)
  have HC3 := Lib.hid (show ∀ k, C3 k → w.heap.size ≤ k from fun k hk => Nat.le_trans (Nat.le_of_lt l1) (hC3 k hk))
  clear hl3 hC3 ht
  obtain ⟨nl1, nl2⟩ := HT3.out.small
  obtain ⟨⟨ny0, ny1, ny2, ny3, ny4, ny5, ny6, ny7⟩, nfy0, nfy1, nfy2, nfy3, nfy4, nfy5, nfy6, nfy7⟩ := eight_cells HT3.out.ans
  go_wp2_with fail
  exact ans_ret (x := ⟨xc, xn, xd, xp, xL, xm, xz, xe⟩) (ao := ao3) (cap := cap3) rfl (HT3.out.fin (chained_thing (rn_thing r) _ _ _)).1 rfl rfl (chained_tells (x := ⟨xc, xn, xd, xp, xL, xm, xz, xe⟩) HC3.out (HT3.out.fin (chained_thing (rn_thing r) _ _ _)).2)
set_option maxHeartbeats 1600000 in
theorem ndo_l10 (r : Nat) (G : Nat → Prop) (w : World) (n : Nd) (a : Ak) (h : RN r G w n) (hk : a.kind = 10) (hu : n.l.used.length ≤ 100000) (hA2 : ∀ W, Kept (fun k => ¬ G k) w W → CL W a.ao a.L) (hL : a.L.length ≤ 255 ∧ ∀ c ∈ a.L, c.length ≤ 255) :
    Calls Tryz.prog 29 #[ptrN r, askV a] w fun e w' => Tells (RN r) G w (n.putL (n.l.done a)) (n.l.ans a) e w' := by
  have hr : r < w.heap.size := by obtain ⟨_, _, _, _, _, h1, _⟩ := h.tab; exact lt_of_block h1
  have HS := boxed_start (rn_thing r) h (askC a).toArray
  obtain ⟨H, hH, hkk, hU⟩ := (HS.drewN (rn_thing r) 1).use2
  obtain ⟨A, ro, rl, B, hT, hA, _, hB⟩ := hH.tab
  obtain ⟨F, hF, hFH, _⟩ := hB.use (fun i _ => nodeT_part r A ro rl B n i) (i := 0) (by omega)
  have HP0 := bundg_tells (N := RN r) (V := RL rl) (s' := n.putL (n.l.done a)) (fun i _ => nodeT_part r A ro rl B n i) hB (i := 0) (by omega) (fun G' W h => rn_putL hT h) (fun F hF hFH => ldo_any rl F _ n.l a hF hu (fun W hk => hA2 W (hkk W (hk.mono (fun k hn hf => hn (hFH k hf))))) hL)
  have cu0 := (cell_of hA 17).trans hT.l
  clear hF hFH hu hA2 hL
  generalize hxe : n.l.ans a = x at *
  generalize hye : n.putL (n.l.done a) = y at *
  have HU0 := fun w2 (ao : Option Addr) (cap : Nat) (C : Nat → Prop) (hl : Leaves (Chained (RN r) C (.slice ao x.L.length cap) x.L) H (((w.alloc (.cells (askC a).toArray 34)).alloc (.cells zeroAn 38)).drewN 1) w2 y) => hU (Chained (RN r) C (.slice ao x.L.length cap) x.L) w2 y hl
  clear hU hB hH hkk hxe hye hA hT h
  obtain ⟨k, un, ep, pg, sz, nn, s, pe, L, ao, cap⟩ := a
  obtain ⟨xc, xn, xd, xp, xL, xm, xz, xe⟩ := x
  simp only at *
  have d1 : (k == 1) = false := beq_eq_false_iff_ne.2 (by omega)
  have d2 : (k == 2) = false := beq_eq_false_iff_ne.2 (by omega)
  have d3 : (k == 3) = false := beq_eq_false_iff_ne.2 (by omega)
  have d4 : (k == 4) = false := beq_eq_false_iff_ne.2 (by omega)
  have d5 : (k == 5) = false := beq_eq_false_iff_ne.2 (by omega)
  have d6 : (k == 6) = false := beq_eq_false_iff_ne.2 (by omega)
  have d7 : (k == 7) = false := beq_eq_false_iff_ne.2 (by omega)
  have d8 : (k == 8) = false := beq_eq_false_iff_ne.2 (by omega)
  have d9 : (k == 9) = false := beq_eq_false_iff_ne.2 (by omega)
  have d10 : (k == 10) = true := by rw [hk]; rfl
  have d11 : (k == 11) = false := beq_eq_false_iff_ne.2 (by omega)
  have HP := Lib.hid (show Calls Tryz.prog 59 #[.pointer (some ⟨rl, 0, none⟩), .agg #[.int .i64 k, .int .i64 un, .int .i64 ep, .int .i64 pg, .int .i64 sz, .int .i64 nn, .string s, .int .i64 pe, .slice ao L.length cap]] (((w.alloc (.cells #[.int .i64 k, .int .i64 un, .int .i64 ep, .int .i64 pg, .int .i64 sz, .int .i64 nn, .string s, .int .i64 pe, .slice ao L.length cap] 34)).alloc (.cells #[.int .i64 0, .int .i64 0, .string ⟨#[]⟩, .int .i64 0, .slice none 0 0, .int .i64 0, .int .i64 0, .int .i64 0] 38)).drewN 1) fun e w' => Tells (RN r) H (((w.alloc (.cells #[.int .i64 k, .int .i64 un, .int .i64 ep, .int .i64 pg, .int .i64 sz, .int .i64 nn, .string s, .int .i64 pe, .slice ao L.length cap] 34)).alloc (.cells #[.int .i64 0, .int .i64 0, .string ⟨#[]⟩, .int .i64 0, .slice none 0 0, .int .i64 0, .int .i64 0, .int .i64 0] 38)).drewN 1) y ⟨xc, xn, xd, xp, xL, xm, xz, xe⟩ e w' from HP0)
  have HU := Lib.hid (show ∀ w2 (ao2 : Option Addr) (cap2 : Nat) (C : Nat → Prop), Leaves (Chained (RN r) C (.slice ao2 xL.length cap2) xL) H (((w.alloc (.cells #[.int .i64 k, .int .i64 un, .int .i64 ep, .int .i64 pg, .int .i64 sz, .int .i64 nn, .string s, .int .i64 pe, .slice ao L.length cap] 34)).alloc (.cells #[.int .i64 0, .int .i64 0, .string ⟨#[]⟩, .int .i64 0, .slice none 0 0, .int .i64 0, .int .i64 0, .int .i64 0] 38)).drewN 1) w2 y → Boxed (Chained (RN r) C (.slice ao2 xL.length cap2) xL) w w2 G y #[.int .i64 k, .int .i64 un, .int .i64 ep, .int .i64 pg, .int .i64 sz, .int .i64 nn, .string s, .int .i64 pe, .slice ao L.length cap] from HU0)
  have HT := Lib.hid (show Boxed (RN r) w ((w.alloc (.cells #[.int .i64 k, .int .i64 un, .int .i64 ep, .int .i64 pg, .int .i64 sz, .int .i64 nn, .string s, .int .i64 pe, .slice ao L.length cap] 34)).alloc (.cells #[.int .i64 0, .int .i64 0, .string ⟨#[]⟩, .int .i64 0, .slice none 0 0, .int .i64 0, .int .i64 0, .int .i64 0] 38)) G n #[.int .i64 k, .int .i64 un, .int .i64 ep, .int .i64 pg, .int .i64 sz, .int .i64 nn, .string s, .int .i64 pe, .slice ao L.length cap] from HS)
  have cu : ((w.alloc (.cells #[.int .i64 k, .int .i64 un, .int .i64 ep, .int .i64 pg, .int .i64 sz, .int .i64 nn, .string s, .int .i64 pe, .slice ao L.length cap] 34)).alloc (.cells #[.int .i64 0, .int .i64 0, .string ⟨#[]⟩, .int .i64 0, .slice none 0 0, .int .i64 0, .int .i64 0, .int .i64 0] 38)).cell? ⟨r, 17, none⟩ = some (.pointer (some ⟨rl, 0, none⟩)) := cu0
  clear hk HS HP0 HU0 cu0
  show Calls _ _ #[.pointer (some ⟨r, 0, none⟩), .agg #[.int .i64 k, .int .i64 un, .int .i64 ep, .int .i64 pg, .int .i64 sz, .int .i64 nn, .string s, .int .i64 pe, .slice ao L.length cap]] w _
  go_enter Tryz.func29, Tryz.ntmps29
  go_wp2_with fail
  generalize hW0 : ((w.alloc (.cells #[.int .i64 k, .int .i64 un, .int .i64 ep, .int .i64 pg, .int .i64 sz, .int .i64 nn, .string s, .int .i64 pe, .slice ao L.length cap] 34)).alloc (.cells #[.int .i64 0, .int .i64 0, .string ⟨#[]⟩, .int .i64 0, .slice none 0 0, .int .i64 0, .int .i64 0, .int .i64 0] 38)) = W0 at *
  clear hW0
  obtain ⟨l1, l2⟩ := HT.out.small
  have q := HT.out.ask
  have q0 := cell_of q 0
  have q1 : W0.cell? ⟨w.heap.size, 1, none⟩ = some (.int .i64 un) := cell_of q 1
  have q2 := cell_of q 2
  have q3 := cell_of q 3
  have q4 := cell_of q 4
  have q5 := cell_of q 5
  have q6 := cell_of q 6
  have q7 := cell_of q 7
  have q8 := cell_of q 8
  have hr0 : r < W0.heap.size := by omega
  clear q HT
  go_still_tail 5, (by kernel_rfl)
  change wpList _ _ _ _ _ W0.drew
  go_wp2_with fail
  refine HP.out.mono ?_
  rintro e w3 ht
  obtain ⟨ao3, cap3, C3, he, hC3, hl3⟩ := tells_chained ht
  subst he
  unfold ansV ansC
  have HT3 := Lib.hid (HU.out w3 ao3 cap3 C3 hl3)
  have HC3 := Lib.hid (show ∀ k, C3 k → w.heap.size ≤ k from fun k hk => Nat.le_trans (Nat.le_of_lt l1) (hC3 k hk))
  clear hl3 hC3 ht
  obtain ⟨nl1, nl2⟩ := HT3.out.small
  obtain ⟨⟨ny0, ny1, ny2, ny3, ny4, ny5, ny6, ny7⟩, nfy0, nfy1, nfy2, nfy3, nfy4, nfy5, nfy6, nfy7⟩ := eight_cells HT3.out.ans
  go_wp2_with fail
  exact ans_ret (x := ⟨xc, xn, xd, xp, xL, xm, xz, xe⟩) (ao := ao3) (cap := cap3) rfl (HT3.out.fin (chained_thing (rn_thing r) _ _ _)).1 rfl rfl (chained_tells (x := ⟨xc, xn, xd, xp, xL, xm, xz, xe⟩) HC3.out (HT3.out.fin (chained_thing (rn_thing r) _ _ _)).2)
set_option maxHeartbeats 1600000 in
theorem ndo_l11 (r : Nat) (G : Nat → Prop) (w : World) (n : Nd) (a : Ak) (h : RN r G w n) (hk : a.kind = 11) (hu : n.l.used.length ≤ 100000) (hA2 : ∀ W, Kept (fun k => ¬ G k) w W → CL W a.ao a.L) (hL : a.L.length ≤ 255 ∧ ∀ c ∈ a.L, c.length ≤ 255) :
    Calls Tryz.prog 29 #[ptrN r, askV a] w fun e w' => Tells (RN r) G w (n.putL (n.l.done a)) (n.l.ans a) e w' := by
  have hr : r < w.heap.size := by obtain ⟨_, _, _, _, _, h1, _⟩ := h.tab; exact lt_of_block h1
  have HS := boxed_start (rn_thing r) h (askC a).toArray
  obtain ⟨H, hH, hkk, hU⟩ := (HS.drewN (rn_thing r) 1).use2
  obtain ⟨A, ro, rl, B, hT, hA, _, hB⟩ := hH.tab
  obtain ⟨F, hF, hFH, _⟩ := hB.use (fun i _ => nodeT_part r A ro rl B n i) (i := 0) (by omega)
  have HP0 := bundg_tells (N := RN r) (V := RL rl) (s' := n.putL (n.l.done a)) (fun i _ => nodeT_part r A ro rl B n i) hB (i := 0) (by omega) (fun G' W h => rn_putL hT h) (fun F hF hFH => ldo_any rl F _ n.l a hF hu (fun W hk => hA2 W (hkk W (hk.mono (fun k hn hf => hn (hFH k hf))))) hL)
  have cu0 := (cell_of hA 17).trans hT.l
  clear hF hFH hu hA2 hL
  generalize hxe : n.l.ans a = x at *
  generalize hye : n.putL (n.l.done a) = y at *
  have HU0 := fun w2 (ao : Option Addr) (cap : Nat) (C : Nat → Prop) (hl : Leaves (Chained (RN r) C (.slice ao x.L.length cap) x.L) H (((w.alloc (.cells (askC a).toArray 34)).alloc (.cells zeroAn 38)).drewN 1) w2 y) => hU (Chained (RN r) C (.slice ao x.L.length cap) x.L) w2 y hl
  clear hU hB hH hkk hxe hye hA hT h
  obtain ⟨k, un, ep, pg, sz, nn, s, pe, L, ao, cap⟩ := a
  obtain ⟨xc, xn, xd, xp, xL, xm, xz, xe⟩ := x
  simp only at *
  have d1 : (k == 1) = false := beq_eq_false_iff_ne.2 (by omega)
  have d2 : (k == 2) = false := beq_eq_false_iff_ne.2 (by omega)
  have d3 : (k == 3) = false := beq_eq_false_iff_ne.2 (by omega)
  have d4 : (k == 4) = false := beq_eq_false_iff_ne.2 (by omega)
  have d5 : (k == 5) = false := beq_eq_false_iff_ne.2 (by omega)
  have d6 : (k == 6) = false := beq_eq_false_iff_ne.2 (by omega)
  have d7 : (k == 7) = false := beq_eq_false_iff_ne.2 (by omega)
  have d8 : (k == 8) = false := beq_eq_false_iff_ne.2 (by omega)
  have d9 : (k == 9) = false := beq_eq_false_iff_ne.2 (by omega)
  have d10 : (k == 10) = false := beq_eq_false_iff_ne.2 (by omega)
  have d11 : (k == 11) = true := by rw [hk]; rfl
  have HP := Lib.hid (show Calls Tryz.prog 59 #[.pointer (some ⟨rl, 0, none⟩), .agg #[.int .i64 k, .int .i64 un, .int .i64 ep, .int .i64 pg, .int .i64 sz, .int .i64 nn, .string s, .int .i64 pe, .slice ao L.length cap]] (((w.alloc (.cells #[.int .i64 k, .int .i64 un, .int .i64 ep, .int .i64 pg, .int .i64 sz, .int .i64 nn, .string s, .int .i64 pe, .slice ao L.length cap] 34)).alloc (.cells #[.int .i64 0, .int .i64 0, .string ⟨#[]⟩, .int .i64 0, .slice none 0 0, .int .i64 0, .int .i64 0, .int .i64 0] 38)).drewN 1) fun e w' => Tells (RN r) H (((w.alloc (.cells #[.int .i64 k, .int .i64 un, .int .i64 ep, .int .i64 pg, .int .i64 sz, .int .i64 nn, .string s, .int .i64 pe, .slice ao L.length cap] 34)).alloc (.cells #[.int .i64 0, .int .i64 0, .string ⟨#[]⟩, .int .i64 0, .slice none 0 0, .int .i64 0, .int .i64 0, .int .i64 0] 38)).drewN 1) y ⟨xc, xn, xd, xp, xL, xm, xz, xe⟩ e w' from HP0)
  have HU := Lib.hid (show ∀ w2 (ao2 : Option Addr) (cap2 : Nat) (C : Nat → Prop), Leaves (Chained (RN r) C (.slice ao2 xL.length cap2) xL) H (((w.alloc (.cells #[.int .i64 k, .int .i64 un, .int .i64 ep, .int .i64 pg, .int .i64 sz, .int .i64 nn, .string s, .int .i64 pe, .slice ao L.length cap] 34)).alloc (.cells #[.int .i64 0, .int .i64 0, .string ⟨#[]⟩, .int .i64 0, .slice none 0 0, .int .i64 0, .int .i64 0, .int .i64 0] 38)).drewN 1) w2 y → Boxed (Chained (RN r) C (.slice ao2 xL.length cap2) xL) w w2 G y #[.int .i64 k, .int .i64 un, .int .i64 ep, .int .i64 pg, .int .i64 sz, .int .i64 nn, .string s, .int .i64 pe, .slice ao L.length cap] from HU0)
  have HT := Lib.hid (show Boxed (RN r) w ((w.alloc (.cells #[.int .i64 k, .int .i64 un, .int .i64 ep, .int .i64 pg, .int .i64 sz, .int .i64 nn, .string s, .int .i64 pe, .slice ao L.length cap] 34)).alloc (.cells #[.int .i64 0, .int .i64 0, .string ⟨#[]⟩, .int .i64 0, .slice none 0 0, .int .i64 0, .int .i64 0, .int .i64 0] 38)) G n #[.int .i64 k, .int .i64 un, .int .i64 ep, .int .i64 pg, .int .i64 sz, .int .i64 nn, .string s, .int .i64 pe, .slice ao L.length cap] from HS)
  have cu : ((w.alloc (.cells #[.int .i64 k, .int .i64 un, .int .i64 ep, .int .i64 pg, .int .i64 sz, .int .i64 nn, .string s, .int .i64 pe, .slice ao L.length cap] 34)).alloc (.cells #[.int .i64 0, .int .i64 0, .string ⟨#[]⟩, .int .i64 0, .slice none 0 0, .int .i64 0, .int .i64 0, .int .i64 0] 38)).cell? ⟨r, 17, none⟩ = some (.pointer (some ⟨rl, 0, none⟩)) := cu0
  clear hk HS HP0 HU0 cu0
  show Calls _ _ #[.pointer (some ⟨r, 0, none⟩), .agg #[.int .i64 k, .int .i64 un, .int .i64 ep, .int .i64 pg, .int .i64 sz, .int .i64 nn, .string s, .int .i64 pe, .slice ao L.length cap]] w _
  go_enter Tryz.func29, Tryz.ntmps29
  go_wp2_with fail
  generalize hW0 : ((w.alloc (.cells #[.int .i64 k, .int .i64 un, .int .i64 ep, .int .i64 pg, .int .i64 sz, .int .i64 nn, .string s, .int .i64 pe, .slice ao L.length cap] 34)).alloc (.cells #[.int .i64 0, .int .i64 0, .string ⟨#[]⟩, .int .i64 0, .slice none 0 0, .int .i64 0, .int .i64 0, .int .i64 0] 38)) = W0 at *
  clear hW0
  obtain ⟨l1, l2⟩ := HT.out.small
  have q := HT.out.ask
  have q0 := cell_of q 0
  have q1 : W0.cell? ⟨w.heap.size, 1, none⟩ = some (.int .i64 un) := cell_of q 1
  have q2 := cell_of q 2
  have q3 := cell_of q 3
  have q4 := cell_of q 4
  have q5 := cell_of q 5
  have q6 := cell_of q 6
  have q7 := cell_of q 7
  have q8 := cell_of q 8
  have hr0 : r < W0.heap.size := by omega
  clear q HT
  go_still_tail 5, (by kernel_rfl)
  change wpList _ _ _ _ _ W0.drew
  go_wp2_with fail
  refine HP.out.mono ?_
  rintro e w3 ht
  obtain ⟨ao3, cap3, C3, he, hC3, hl3⟩ := tells_chained ht
  subst he
  unfold ansV ansC
  have HT3 := Lib.hid (HU.out w3 ao3 cap3 C3 hl3)
  have HC3 := Lib.hid (show ∀ k, C3 k → w.heap.size ≤ k from fun k hk => Nat.le_trans (Nat.le_of_lt l1) (hC3 k hk))
  clear hl3 hC3 ht
  obtain ⟨nl1, nl2⟩ := HT3.out.small
  obtain ⟨⟨ny0, ny1, ny2, ny3, ny4, ny5, ny6, ny7⟩, nfy0, nfy1, nfy2, nfy3, nfy4, nfy5, nfy6, nfy7⟩ := eight_cells HT3.out.ans
  go_wp2_with fail
  exact ans_ret (x := ⟨xc, xn, xd, xp, xL, xm, xz, xe⟩) (ao := ao3) (cap := cap3) rfl (HT3.out.fin (chained_thing (rn_thing r) _ _ _)).1 rfl rfl (chained_tells (x := ⟨xc, xn, xd, xp, xL, xm, xz, xe⟩) HC3.out (HT3.out.fin (chained_thing (rn_thing r) _ _ _)).2)
end Go.Proofs.YtkicjgaejieinaaGreat
