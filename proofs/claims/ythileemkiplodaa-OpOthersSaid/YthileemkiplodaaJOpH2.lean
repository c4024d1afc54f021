/- What the document's Decode returns, at texts of the kinds 8, 4, 6, 7. Conditions: the text is no longer than 1000000 bytes. -/
import Derived.Test.YthileemkiplodaaGw
set_option linter.unusedVariables false
namespace Go.Proofs.Ythileemkiplodaa
open Go.RowKit
set_option maxRecDepth 20000

set_option maxRecDepth 100000 in
set_option maxHeartbeats 16000000 in
theorem rdec_8 (s : ByteArray) (w : World) (hs : s.size ≤ 1000000) (hk : numV (some s) 1 = 8) :
    Calls Try.prog 17 #[.string s] w (TellsE w (decR s)) := by
  have HS := Lib.hid (show s.size ≤ 1099511627776 by omega)
  have b0 : (ukL (some s)).size ≤ 1000000 := hs
  have HD := Lib.hid (show decR s = endR (⟨(numV (numO (some s) 1) 1), (numV (numO (numO (some s) 1) 1) 4), 8, (textV (numO (numO (numO (some s) 1) 1) 4) 65535), ⟨#[]⟩, 0, 0, 0, ⟨#[]⟩, 0, 0, []⟩, (textO (numO (numO (numO (some s) 1) 1) 4) 65535)) by simp [decR, decHead, decBody, rec0, hk])
  have c0 := fun (w0 : World) (h : RKo w0 (w.heap.size + 1) s (some s)) => rNum_any w0 _ s (some s) 1 h HS.out (by constructor <;> decide)
  have b1 : (ukL (numO (some s) 1)).size ≤ 1000000 := Nat.le_trans (numO_size _ _) b0
  generalize numV (some s) 1 = x0 at *
  generalize numO (some s) 1 = u1 at *
  subst hk
  have c1 := fun (w0 : World) (h : RKo w0 (w.heap.size + 1) s u1) => rNum_any w0 _ s u1 1 h HS.out (by constructor <;> decide)
  have b2 : (ukL (numO u1 1)).size ≤ 1000000 := Nat.le_trans (numO_size _ _) b1
  generalize numV u1 1 = x1 at *
  generalize numO u1 1 = u2 at *
  have c2 := fun (w0 : World) (h : RKo w0 (w.heap.size + 1) s u2) => rNum_any w0 _ s u2 4 h HS.out (by constructor <;> decide)
  have b3 : (ukL (numO u2 4)).size ≤ 1000000 := Nat.le_trans (numO_size _ _) b2
  generalize numV u2 4 = x2 at *
  generalize numO u2 4 = u3 at *
  have c3 := fun (w0 : World) (h : RKo w0 (w.heap.size + 1) s u3) => rText_any w0 _ s u3 65535 h HS.out
  have t3 : (textV u3 65535).size ≤ 1000000 := Nat.le_trans (textV_size _ _) b3
  have b4 : (ukL (textO u3 65535)).size ≤ 1000000 := Nat.le_trans (textO_le _ _) b3
  generalize textV u3 65535 = x3 at *
  generalize textO u3 65535 = u4 at *
  have HT3 := Lib.hid t3
  clear t3
  clear hs b0 b1 b2 b3 b4
  go_enter Try.func17, Try.ntmps17
  go_wp2_with fail
  refine (refOpen_any s _).mono ?_
  rintro e w1 ⟨rfl, hq1, hb1⟩
  have HDS := Lib.hid (ds_start w w1 s hq1 hb1)
  clear hq1 hb1
  go_wp2_with fail
  refine (c0 _ HDS.out.un).mono ?_
  rintro e v0 ⟨rfl, hq, hc⟩
  replace HDS := Lib.hid (HDS.out.call hq hc)
  obtain ⟨y0, y1, y2, y3, y4, y5, y6, y7, y8, y9, y10, y11⟩ := rec_cells HDS.out.rc
  clear y0 y1 y3 y4 y5 y6 y7 y8 y9 y10 y11
  have f0 := free_of HDS.out.rc 2
  replace HDS := Lib.hid (HDS.out.set 2 (.int .i64 8) (o' := ⟨0, 0, 8, ⟨#[]⟩, ⟨#[]⟩, 0, 0, 0, ⟨#[]⟩, 0, 0, []⟩) (mv' := .slice none 0 0) rfl)
  clear hq hc
  go_wp2_with fail
  refine (c1 _ HDS.out.un).mono ?_
  rintro e v1 ⟨rfl, hq, hc⟩
  replace HDS := Lib.hid (HDS.out.call hq hc)
  obtain ⟨y0, y1, y2, y3, y4, y5, y6, y7, y8, y9, y10, y11⟩ := rec_cells HDS.out.rc
  clear y1 y2 y3 y4 y5 y6 y7 y8 y9 y10 y11
  have f1 := free_of HDS.out.rc 0
  replace HDS := Lib.hid (HDS.out.set 0 (.int .i64 x1) (o' := ⟨x1, 0, 8, ⟨#[]⟩, ⟨#[]⟩, 0, 0, 0, ⟨#[]⟩, 0, 0, []⟩) (mv' := .slice none 0 0) rfl)
  clear hq hc
  go_wp2_with fail
  refine (c2 _ HDS.out.un).mono ?_
  rintro e v2 ⟨rfl, hq, hc⟩
  replace HDS := Lib.hid (HDS.out.call hq hc)
  obtain ⟨y0, y1, y2, y3, y4, y5, y6, y7, y8, y9, y10, y11⟩ := rec_cells HDS.out.rc
  clear y0 y2 y3 y4 y5 y6 y7 y8 y9 y10 y11
  have f2 := free_of HDS.out.rc 1
  replace HDS := Lib.hid (HDS.out.set 1 (.int .i64 x2) (o' := ⟨x1, x2, 8, ⟨#[]⟩, ⟨#[]⟩, 0, 0, 0, ⟨#[]⟩, 0, 0, []⟩) (mv' := .slice none 0 0) rfl)
  clear hq hc
  obtain ⟨z0, z1, z2, z3, z4, z5, z6, z7, z8, z9, z10, z11⟩ := rec_cells HDS.out.rc
  clear z0 z1 z3 z4 z5 z6 z7 z8 z9 z10 z11
  simp only at z2
  go_wp2_with fail
  refine (c3 _ HDS.out.un).mono ?_
  rintro e v3 ⟨rfl, hq, hc⟩
  replace HDS := Lib.hid (HDS.out.call hq hc)
  obtain ⟨y0, y1, y2, y3, y4, y5, y6, y7, y8, y9, y10, y11⟩ := rec_cells HDS.out.rc
  clear y0 y1 y2 y4 y5 y6 y7 y8 y9 y10 y11
  have f3 := free_of HDS.out.rc 3
  replace HDS := Lib.hid (HDS.out.set 3 (.string x3) (o' := ⟨x1, x2, 8, x3, ⟨#[]⟩, 0, 0, 0, ⟨#[]⟩, 0, 0, []⟩) (mv' := .slice none 0 0) rfl)
  clear hq hc
  go_wp2_with fail
  refine (refEnd_o _ _ _ _ HDS.out.un).mono ?_
  rintro e w' ⟨rfl, q, rfl⟩
  replace HDS := Lib.hid (HDS.out.drewN q)
  by_cases he : ukE u4 = 0
  rotate_left
  · have hd := bne_iff_ne.2 he
    have HR := Lib.hid (endR_no (x := (⟨x1, x2, 8, x3, ⟨#[]⟩, 0, 0, 0, ⟨#[]⟩, 0, 0, []⟩, u4)) (.inl he))
    clear he
    go_wp2_with (refine wpList_store_row (o := ⟨none, _, _, _, _, _⟩) ?a1 24 (.tmp 2) (.tmp 120) ?a2 w.heap.size (recA rec0 (.slice none 0 0)) ?a3 ?a4 24 (recA rec0 (.slice none 0 0)) HDS.out.res (rec_info _ _) rfl (rec_one _ _ _ _) ?a5; (case a1 => rfl); (case a2 => rfl); (case a3 => rfl); (case a4 => rfl))
    rw [HD.out, HR.out]
    exact dec_ret (x := (rec0, 11)) (ao := none) (cap := 0) rfl (setRow_heap _ _ _ _ _ _ HDS.out.res) rfl rfl rfl ⟨VL.nil _ _, fun _ => rfl⟩ (below_setRow HDS.out.below (Nat.le_refl _) _)
  rw [he]
  obtain ⟨y0, y1, y2, y3, y4, y5, y6, y7, y8, y9, y10, y11⟩ := rec_cells HDS.out.rc
  cases hg : goodO ⟨x1, x2, 8, x3, ⟨#[]⟩, 0, 0, 0, ⟨#[]⟩, 0, 0, []⟩
  · have HG := Lib.hid hg
    have HR := Lib.hid (endR_no (x := (⟨x1, x2, 8, x3, ⟨#[]⟩, 0, 0, 0, ⟨#[]⟩, 0, 0, []⟩, u4)) (.inr hg))
    clear hg he
    go_wp2_with (first | (go_at_call 14; refine (rgoodO_any ⟨x1, x2, 8, x3, ⟨#[]⟩, 0, 0, 0, ⟨#[]⟩, 0, 0, []⟩ none 0 _ ⟨VL.nil _ _, fun _ => rfl⟩ (Nat.zero_le _) ⟨HT3.out, (Nat.zero_le _), (Nat.zero_le _)⟩).mono ?_; rintro e w7 ⟨rfl, hb7⟩; rw [HG.out]; replace HDS := Lib.hid (HDS.out.grow hb7); clear hb7; obtain ⟨y0, y1, y2, y3, y4, y5, y6, y7, y8, y9, y10, y11⟩ := rec_cells HDS.out.rc) | (refine wpList_store_row (o := ⟨none, _, _, _, _, _⟩) ?b1 24 (.tmp 2) (.tmp 120) ?b2 w.heap.size (recA rec0 (.slice none 0 0)) ?b3 ?b4 24 (recA rec0 (.slice none 0 0)) HDS.out.res (rec_info _ _) rfl (rec_one _ _ _ _) ?b5; (case b1 => rfl); (case b2 => rfl); (case b3 => rfl); (case b4 => rfl)))
    rw [HD.out, HR.out]
    exact dec_ret (x := (rec0, 11)) (ao := none) (cap := 0) rfl (setRow_heap _ _ _ _ _ _ HDS.out.res) rfl rfl rfl ⟨VL.nil _ _, fun _ => rfl⟩ (below_setRow HDS.out.below (Nat.le_refl _) _)
  · have HG := Lib.hid hg
    have HR := Lib.hid (endR_yes (x := (⟨x1, x2, 8, x3, ⟨#[]⟩, 0, 0, 0, ⟨#[]⟩, 0, 0, []⟩, u4)) he hg)
    clear hg he
    go_wp2_with (first | (go_at_call 14; refine (rgoodO_any ⟨x1, x2, 8, x3, ⟨#[]⟩, 0, 0, 0, ⟨#[]⟩, 0, 0, []⟩ none 0 _ ⟨VL.nil _ _, fun _ => rfl⟩ (Nat.zero_le _) ⟨HT3.out, (Nat.zero_le _), (Nat.zero_le _)⟩).mono ?_; rintro e w7 ⟨rfl, hb7⟩; rw [HG.out]; replace HDS := Lib.hid (HDS.out.grow hb7); clear hb7; obtain ⟨y0, y1, y2, y3, y4, y5, y6, y7, y8, y9, y10, y11⟩ := rec_cells HDS.out.rc) | (refine wpList_store_row (o := ⟨none, _, _, _, _, _⟩) ?c1 24 (.tmp 2) (.tmp 121) ?c2 w.heap.size (recA ⟨x1, x2, 8, x3, ⟨#[]⟩, 0, 0, 0, ⟨#[]⟩, 0, 0, []⟩ (.slice none 0 0)) ?c3 ?c4 24 (recA rec0 (.slice none 0 0)) HDS.out.res (rec_info _ _) rfl (rec_one _ _ _ _) ?c5; (case c1 => rfl); (case c2 => rfl); (case c3 => rfl); (case c4 => rfl)))
    rw [HD.out, HR.out]
    exact dec_ret (x := (⟨x1, x2, 8, x3, ⟨#[]⟩, 0, 0, 0, ⟨#[]⟩, 0, 0, []⟩, 0)) (ao := none) (cap := 0) rfl (setRow_heap _ _ _ _ _ _ HDS.out.res) rfl rfl rfl ⟨VL.nil _ _, fun _ => rfl⟩ (below_setRow HDS.out.below (Nat.le_refl _) _)
set_option maxRecDepth 100000 in
set_option maxHeartbeats 16000000 in
theorem rdec_4 (s : ByteArray) (w : World) (hs : s.size ≤ 1000000) (hk : numV (some s) 1 = 4) :
    Calls Try.prog 17 #[.string s] w (TellsE w (decR s)) := by
  have HS := Lib.hid (show s.size ≤ 1099511627776 by omega)
  have b0 : (ukL (some s)).size ≤ 1000000 := hs
  have HD := Lib.hid (show decR s = endR (⟨(numV (numO (some s) 1) 1), (numV (numO (numO (some s) 1) 1) 4), 4, (textV (numO (numO (numO (some s) 1) 1) 4) 65535), (textV (textO (numO (numO (numO (some s) 1) 1) 4) 65535) 65535), 0, 0, 0, ⟨#[]⟩, 0, 0, []⟩, (textO (textO (numO (numO (numO (some s) 1) 1) 4) 65535) 65535)) by simp [decR, decHead, decBody, rec0, hk])
  have c0 := fun (w0 : World) (h : RKo w0 (w.heap.size + 1) s (some s)) => rNum_any w0 _ s (some s) 1 h HS.out (by constructor <;> decide)
  have b1 : (ukL (numO (some s) 1)).size ≤ 1000000 := Nat.le_trans (numO_size _ _) b0
  generalize numV (some s) 1 = x0 at *
  generalize numO (some s) 1 = u1 at *
  subst hk
  have c1 := fun (w0 : World) (h : RKo w0 (w.heap.size + 1) s u1) => rNum_any w0 _ s u1 1 h HS.out (by constructor <;> decide)
  have b2 : (ukL (numO u1 1)).size ≤ 1000000 := Nat.le_trans (numO_size _ _) b1
  generalize numV u1 1 = x1 at *
  generalize numO u1 1 = u2 at *
  have c2 := fun (w0 : World) (h : RKo w0 (w.heap.size + 1) s u2) => rNum_any w0 _ s u2 4 h HS.out (by constructor <;> decide)
  have b3 : (ukL (numO u2 4)).size ≤ 1000000 := Nat.le_trans (numO_size _ _) b2
  generalize numV u2 4 = x2 at *
  generalize numO u2 4 = u3 at *
  have c3 := fun (w0 : World) (h : RKo w0 (w.heap.size + 1) s u3) => rText_any w0 _ s u3 65535 h HS.out
  have t3 : (textV u3 65535).size ≤ 1000000 := Nat.le_trans (textV_size _ _) b3
  have b4 : (ukL (textO u3 65535)).size ≤ 1000000 := Nat.le_trans (textO_le _ _) b3
  generalize textV u3 65535 = x3 at *
  generalize textO u3 65535 = u4 at *
  have HT3 := Lib.hid t3
  clear t3
  have c4 := fun (w0 : World) (h : RKo w0 (w.heap.size + 1) s u4) => rText_any w0 _ s u4 65535 h HS.out
  have t4 : (textV u4 65535).size ≤ 1000000 := Nat.le_trans (textV_size _ _) b4
  have b5 : (ukL (textO u4 65535)).size ≤ 1000000 := Nat.le_trans (textO_le _ _) b4
  generalize textV u4 65535 = x4 at *
  generalize textO u4 65535 = u5 at *
  have HT4 := Lib.hid t4
  clear t4
  clear hs b0 b1 b2 b3 b4 b5
  go_enter Try.func17, Try.ntmps17
  go_wp2_with fail
  refine (refOpen_any s _).mono ?_
  rintro e w1 ⟨rfl, hq1, hb1⟩
  have HDS := Lib.hid (ds_start w w1 s hq1 hb1)
  clear hq1 hb1
  go_wp2_with fail
  refine (c0 _ HDS.out.un).mono ?_
  rintro e v0 ⟨rfl, hq, hc⟩
  replace HDS := Lib.hid (HDS.out.call hq hc)
  obtain ⟨y0, y1, y2, y3, y4, y5, y6, y7, y8, y9, y10, y11⟩ := rec_cells HDS.out.rc
  clear y0 y1 y3 y4 y5 y6 y7 y8 y9 y10 y11
  have f0 := free_of HDS.out.rc 2
  replace HDS := Lib.hid (HDS.out.set 2 (.int .i64 4) (o' := ⟨0, 0, 4, ⟨#[]⟩, ⟨#[]⟩, 0, 0, 0, ⟨#[]⟩, 0, 0, []⟩) (mv' := .slice none 0 0) rfl)
  clear hq hc
  go_wp2_with fail
  refine (c1 _ HDS.out.un).mono ?_
  rintro e v1 ⟨rfl, hq, hc⟩
  replace HDS := Lib.hid (HDS.out.call hq hc)
  obtain ⟨y0, y1, y2, y3, y4, y5, y6, y7, y8, y9, y10, y11⟩ := rec_cells HDS.out.rc
  clear y1 y2 y3 y4 y5 y6 y7 y8 y9 y10 y11
  have f1 := free_of HDS.out.rc 0
  replace HDS := Lib.hid (HDS.out.set 0 (.int .i64 x1) (o' := ⟨x1, 0, 4, ⟨#[]⟩, ⟨#[]⟩, 0, 0, 0, ⟨#[]⟩, 0, 0, []⟩) (mv' := .slice none 0 0) rfl)
  clear hq hc
  go_wp2_with fail
  refine (c2 _ HDS.out.un).mono ?_
  rintro e v2 ⟨rfl, hq, hc⟩
  replace HDS := Lib.hid (HDS.out.call hq hc)
  obtain ⟨y0, y1, y2, y3, y4, y5, y6, y7, y8, y9, y10, y11⟩ := rec_cells HDS.out.rc
  clear y0 y2 y3 y4 y5 y6 y7 y8 y9 y10 y11
  have f2 := free_of HDS.out.rc 1
  replace HDS := Lib.hid (HDS.out.set 1 (.int .i64 x2) (o' := ⟨x1, x2, 4, ⟨#[]⟩, ⟨#[]⟩, 0, 0, 0, ⟨#[]⟩, 0, 0, []⟩) (mv' := .slice none 0 0) rfl)
  clear hq hc
  obtain ⟨z0, z1, z2, z3, z4, z5, z6, z7, z8, z9, z10, z11⟩ := rec_cells HDS.out.rc
  clear z0 z1 z3 z4 z5 z6 z7 z8 z9 z10 z11
  simp only at z2
  go_wp2_with fail
  refine (c3 _ HDS.out.un).mono ?_
  rintro e v3 ⟨rfl, hq, hc⟩
  replace HDS := Lib.hid (HDS.out.call hq hc)
  obtain ⟨y0, y1, y2, y3, y4, y5, y6, y7, y8, y9, y10, y11⟩ := rec_cells HDS.out.rc
  clear y0 y1 y2 y4 y5 y6 y7 y8 y9 y10 y11
  have f3 := free_of HDS.out.rc 3
  replace HDS := Lib.hid (HDS.out.set 3 (.string x3) (o' := ⟨x1, x2, 4, x3, ⟨#[]⟩, 0, 0, 0, ⟨#[]⟩, 0, 0, []⟩) (mv' := .slice none 0 0) rfl)
  clear hq hc
  go_wp2_with fail
  refine (c4 _ HDS.out.un).mono ?_
  rintro e v4 ⟨rfl, hq, hc⟩
  replace HDS := Lib.hid (HDS.out.call hq hc)
  obtain ⟨y0, y1, y2, y3, y4, y5, y6, y7, y8, y9, y10, y11⟩ := rec_cells HDS.out.rc
  clear y0 y1 y2 y3 y5 y6 y7 y8 y9 y10 y11
  have f4 := free_of HDS.out.rc 4
  replace HDS := Lib.hid (HDS.out.set 4 (.string x4) (o' := ⟨x1, x2, 4, x3, x4, 0, 0, 0, ⟨#[]⟩, 0, 0, []⟩) (mv' := .slice none 0 0) rfl)
  clear hq hc
  go_wp2_with fail
  refine (refEnd_o _ _ _ _ HDS.out.un).mono ?_
  rintro e w' ⟨rfl, q, rfl⟩
  replace HDS := Lib.hid (HDS.out.drewN q)
  by_cases he : ukE u5 = 0
  rotate_left
  · have hd := bne_iff_ne.2 he
    have HR := Lib.hid (endR_no (x := (⟨x1, x2, 4, x3, x4, 0, 0, 0, ⟨#[]⟩, 0, 0, []⟩, u5)) (.inl he))
    clear he
    go_wp2_with (refine wpList_store_row (o := ⟨none, _, _, _, _, _⟩) ?a1 24 (.tmp 2) (.tmp 120) ?a2 w.heap.size (recA rec0 (.slice none 0 0)) ?a3 ?a4 24 (recA rec0 (.slice none 0 0)) HDS.out.res (rec_info _ _) rfl (rec_one _ _ _ _) ?a5; (case a1 => rfl); (case a2 => rfl); (case a3 => rfl); (case a4 => rfl))
    rw [HD.out, HR.out]
    exact dec_ret (x := (rec0, 11)) (ao := none) (cap := 0) rfl (setRow_heap _ _ _ _ _ _ HDS.out.res) rfl rfl rfl ⟨VL.nil _ _, fun _ => rfl⟩ (below_setRow HDS.out.below (Nat.le_refl _) _)
  rw [he]
  obtain ⟨y0, y1, y2, y3, y4, y5, y6, y7, y8, y9, y10, y11⟩ := rec_cells HDS.out.rc
  cases hg : goodO ⟨x1, x2, 4, x3, x4, 0, 0, 0, ⟨#[]⟩, 0, 0, []⟩
  · have HG := Lib.hid hg
    have HR := Lib.hid (endR_no (x := (⟨x1, x2, 4, x3, x4, 0, 0, 0, ⟨#[]⟩, 0, 0, []⟩, u5)) (.inr hg))
    clear hg he
    go_wp2_with (first | (go_at_call 14; refine (rgoodO_any ⟨x1, x2, 4, x3, x4, 0, 0, 0, ⟨#[]⟩, 0, 0, []⟩ none 0 _ ⟨VL.nil _ _, fun _ => rfl⟩ (Nat.zero_le _) ⟨HT3.out, HT4.out, (Nat.zero_le _)⟩).mono ?_; rintro e w7 ⟨rfl, hb7⟩; rw [HG.out]; replace HDS := Lib.hid (HDS.out.grow hb7); clear hb7; obtain ⟨y0, y1, y2, y3, y4, y5, y6, y7, y8, y9, y10, y11⟩ := rec_cells HDS.out.rc) | (refine wpList_store_row (o := ⟨none, _, _, _, _, _⟩) ?b1 24 (.tmp 2) (.tmp 120) ?b2 w.heap.size (recA rec0 (.slice none 0 0)) ?b3 ?b4 24 (recA rec0 (.slice none 0 0)) HDS.out.res (rec_info _ _) rfl (rec_one _ _ _ _) ?b5; (case b1 => rfl); (case b2 => rfl); (case b3 => rfl); (case b4 => rfl)))
    rw [HD.out, HR.out]
    exact dec_ret (x := (rec0, 11)) (ao := none) (cap := 0) rfl (setRow_heap _ _ _ _ _ _ HDS.out.res) rfl rfl rfl ⟨VL.nil _ _, fun _ => rfl⟩ (below_setRow HDS.out.below (Nat.le_refl _) _)
  · have HG := Lib.hid hg
    have HR := Lib.hid (endR_yes (x := (⟨x1, x2, 4, x3, x4, 0, 0, 0, ⟨#[]⟩, 0, 0, []⟩, u5)) he hg)
    clear hg he
    go_wp2_with (first | (go_at_call 14; refine (rgoodO_any ⟨x1, x2, 4, x3, x4, 0, 0, 0, ⟨#[]⟩, 0, 0, []⟩ none 0 _ ⟨VL.nil _ _, fun _ => rfl⟩ (Nat.zero_le _) ⟨HT3.out, HT4.out, (Nat.zero_le _)⟩).mono ?_; rintro e w7 ⟨rfl, hb7⟩; rw [HG.out]; replace HDS := Lib.hid (HDS.out.grow hb7); clear hb7; obtain ⟨y0, y1, y2, y3, y4, y5, y6, y7, y8, y9, y10, y11⟩ := rec_cells HDS.out.rc) | (refine wpList_store_row (o := ⟨none, _, _, _, _, _⟩) ?c1 24 (.tmp 2) (.tmp 121) ?c2 w.heap.size (recA ⟨x1, x2, 4, x3, x4, 0, 0, 0, ⟨#[]⟩, 0, 0, []⟩ (.slice none 0 0)) ?c3 ?c4 24 (recA rec0 (.slice none 0 0)) HDS.out.res (rec_info _ _) rfl (rec_one _ _ _ _) ?c5; (case c1 => rfl); (case c2 => rfl); (case c3 => rfl); (case c4 => rfl)))
    rw [HD.out, HR.out]
    exact dec_ret (x := (⟨x1, x2, 4, x3, x4, 0, 0, 0, ⟨#[]⟩, 0, 0, []⟩, 0)) (ao := none) (cap := 0) rfl (setRow_heap _ _ _ _ _ _ HDS.out.res) rfl rfl rfl ⟨VL.nil _ _, fun _ => rfl⟩ (below_setRow HDS.out.below (Nat.le_refl _) _)
set_option maxRecDepth 100000 in
set_option maxHeartbeats 16000000 in
theorem rdec_6 (s : ByteArray) (w : World) (hs : s.size ≤ 1000000) (hk : numV (some s) 1 = 6) :
    Calls Try.prog 17 #[.string s] w (TellsE w (decR s)) := by
  have HS := Lib.hid (show s.size ≤ 1099511627776 by omega)
  have b0 : (ukL (some s)).size ≤ 1000000 := hs
  have HD := Lib.hid (show decR s = endR (⟨(numV (numO (some s) 1) 1), (numV (numO (numO (some s) 1) 1) 4), 6, (textV (numO (numO (numO (some s) 1) 1) 4) 65535), (textV (textO (numO (numO (numO (some s) 1) 1) 4) 65535) 65535), 0, 0, 0, ⟨#[]⟩, 0, 0, []⟩, (textO (textO (numO (numO (numO (some s) 1) 1) 4) 65535) 65535)) by simp [decR, decHead, decBody, rec0, hk])
  have c0 := fun (w0 : World) (h : RKo w0 (w.heap.size + 1) s (some s)) => rNum_any w0 _ s (some s) 1 h HS.out (by constructor <;> decide)
  have b1 : (ukL (numO (some s) 1)).size ≤ 1000000 := Nat.le_trans (numO_size _ _) b0
  generalize numV (some s) 1 = x0 at *
  generalize numO (some s) 1 = u1 at *
  subst hk
  have c1 := fun (w0 : World) (h : RKo w0 (w.heap.size + 1) s u1) => rNum_any w0 _ s u1 1 h HS.out (by constructor <;> decide)
  have b2 : (ukL (numO u1 1)).size ≤ 1000000 := Nat.le_trans (numO_size _ _) b1
  generalize numV u1 1 = x1 at *
  generalize numO u1 1 = u2 at *
  have c2 := fun (w0 : World) (h : RKo w0 (w.heap.size + 1) s u2) => rNum_any w0 _ s u2 4 h HS.out (by constructor <;> decide)
  have b3 : (ukL (numO u2 4)).size ≤ 1000000 := Nat.le_trans (numO_size _ _) b2
  generalize numV u2 4 = x2 at *
  generalize numO u2 4 = u3 at *
  have c3 := fun (w0 : World) (h : RKo w0 (w.heap.size + 1) s u3) => rText_any w0 _ s u3 65535 h HS.out
  have t3 : (textV u3 65535).size ≤ 1000000 := Nat.le_trans (textV_size _ _) b3
  have b4 : (ukL (textO u3 65535)).size ≤ 1000000 := Nat.le_trans (textO_le _ _) b3
  generalize textV u3 65535 = x3 at *
  generalize textO u3 65535 = u4 at *
  have HT3 := Lib.hid t3
  clear t3
  have c4 := fun (w0 : World) (h : RKo w0 (w.heap.size + 1) s u4) => rText_any w0 _ s u4 65535 h HS.out
  have t4 : (textV u4 65535).size ≤ 1000000 := Nat.le_trans (textV_size _ _) b4
  have b5 : (ukL (textO u4 65535)).size ≤ 1000000 := Nat.le_trans (textO_le _ _) b4
  generalize textV u4 65535 = x4 at *
  generalize textO u4 65535 = u5 at *
  have HT4 := Lib.hid t4
  clear t4
  clear hs b0 b1 b2 b3 b4 b5
  go_enter Try.func17, Try.ntmps17
  go_wp2_with fail
  refine (refOpen_any s _).mono ?_
  rintro e w1 ⟨rfl, hq1, hb1⟩
  have HDS := Lib.hid (ds_start w w1 s hq1 hb1)
  clear hq1 hb1
  go_wp2_with fail
  refine (c0 _ HDS.out.un).mono ?_
  rintro e v0 ⟨rfl, hq, hc⟩
  replace HDS := Lib.hid (HDS.out.call hq hc)
  obtain ⟨y0, y1, y2, y3, y4, y5, y6, y7, y8, y9, y10, y11⟩ := rec_cells HDS.out.rc
  clear y0 y1 y3 y4 y5 y6 y7 y8 y9 y10 y11
  have f0 := free_of HDS.out.rc 2
  replace HDS := Lib.hid (HDS.out.set 2 (.int .i64 6) (o' := ⟨0, 0, 6, ⟨#[]⟩, ⟨#[]⟩, 0, 0, 0, ⟨#[]⟩, 0, 0, []⟩) (mv' := .slice none 0 0) rfl)
  clear hq hc
  go_wp2_with fail
  refine (c1 _ HDS.out.un).mono ?_
  rintro e v1 ⟨rfl, hq, hc⟩
  replace HDS := Lib.hid (HDS.out.call hq hc)
  obtain ⟨y0, y1, y2, y3, y4, y5, y6, y7, y8, y9, y10, y11⟩ := rec_cells HDS.out.rc
  clear y1 y2 y3 y4 y5 y6 y7 y8 y9 y10 y11
  have f1 := free_of HDS.out.rc 0
  replace HDS := Lib.hid (HDS.out.set 0 (.int .i64 x1) (o' := ⟨x1, 0, 6, ⟨#[]⟩, ⟨#[]⟩, 0, 0, 0, ⟨#[]⟩, 0, 0, []⟩) (mv' := .slice none 0 0) rfl)
  clear hq hc
  go_wp2_with fail
  refine (c2 _ HDS.out.un).mono ?_
  rintro e v2 ⟨rfl, hq, hc⟩
  replace HDS := Lib.hid (HDS.out.call hq hc)
  obtain ⟨y0, y1, y2, y3, y4, y5, y6, y7, y8, y9, y10, y11⟩ := rec_cells HDS.out.rc
  clear y0 y2 y3 y4 y5 y6 y7 y8 y9 y10 y11
  have f2 := free_of HDS.out.rc 1
  replace HDS := Lib.hid (HDS.out.set 1 (.int .i64 x2) (o' := ⟨x1, x2, 6, ⟨#[]⟩, ⟨#[]⟩, 0, 0, 0, ⟨#[]⟩, 0, 0, []⟩) (mv' := .slice none 0 0) rfl)
  clear hq hc
  obtain ⟨z0, z1, z2, z3, z4, z5, z6, z7, z8, z9, z10, z11⟩ := rec_cells HDS.out.rc
  clear z0 z1 z3 z4 z5 z6 z7 z8 z9 z10 z11
  simp only at z2
  go_wp2_with fail
  refine (c3 _ HDS.out.un).mono ?_
  rintro e v3 ⟨rfl, hq, hc⟩
  replace HDS := Lib.hid (HDS.out.call hq hc)
  obtain ⟨y0, y1, y2, y3, y4, y5, y6, y7, y8, y9, y10, y11⟩ := rec_cells HDS.out.rc
  clear y0 y1 y2 y4 y5 y6 y7 y8 y9 y10 y11
  have f3 := free_of HDS.out.rc 3
  replace HDS := Lib.hid (HDS.out.set 3 (.string x3) (o' := ⟨x1, x2, 6, x3, ⟨#[]⟩, 0, 0, 0, ⟨#[]⟩, 0, 0, []⟩) (mv' := .slice none 0 0) rfl)
  clear hq hc
  go_wp2_with fail
  refine (c4 _ HDS.out.un).mono ?_
  rintro e v4 ⟨rfl, hq, hc⟩
  replace HDS := Lib.hid (HDS.out.call hq hc)
  obtain ⟨y0, y1, y2, y3, y4, y5, y6, y7, y8, y9, y10, y11⟩ := rec_cells HDS.out.rc
  clear y0 y1 y2 y3 y5 y6 y7 y8 y9 y10 y11
  have f4 := free_of HDS.out.rc 4
  replace HDS := Lib.hid (HDS.out.set 4 (.string x4) (o' := ⟨x1, x2, 6, x3, x4, 0, 0, 0, ⟨#[]⟩, 0, 0, []⟩) (mv' := .slice none 0 0) rfl)
  clear hq hc
  go_wp2_with fail
  refine (refEnd_o _ _ _ _ HDS.out.un).mono ?_
  rintro e w' ⟨rfl, q, rfl⟩
  replace HDS := Lib.hid (HDS.out.drewN q)
  by_cases he : ukE u5 = 0
  rotate_left
  · have hd := bne_iff_ne.2 he
    have HR := Lib.hid (endR_no (x := (⟨x1, x2, 6, x3, x4, 0, 0, 0, ⟨#[]⟩, 0, 0, []⟩, u5)) (.inl he))
    clear he
    go_wp2_with (refine wpList_store_row (o := ⟨none, _, _, _, _, _⟩) ?a1 24 (.tmp 2) (.tmp 120) ?a2 w.heap.size (recA rec0 (.slice none 0 0)) ?a3 ?a4 24 (recA rec0 (.slice none 0 0)) HDS.out.res (rec_info _ _) rfl (rec_one _ _ _ _) ?a5; (case a1 => rfl); (case a2 => rfl); (case a3 => rfl); (case a4 => rfl))
    rw [HD.out, HR.out]
    exact dec_ret (x := (rec0, 11)) (ao := none) (cap := 0) rfl (setRow_heap _ _ _ _ _ _ HDS.out.res) rfl rfl rfl ⟨VL.nil _ _, fun _ => rfl⟩ (below_setRow HDS.out.below (Nat.le_refl _) _)
  rw [he]
  obtain ⟨y0, y1, y2, y3, y4, y5, y6, y7, y8, y9, y10, y11⟩ := rec_cells HDS.out.rc
  cases hg : goodO ⟨x1, x2, 6, x3, x4, 0, 0, 0, ⟨#[]⟩, 0, 0, []⟩
  · have HG := Lib.hid hg
    have HR := Lib.hid (endR_no (x := (⟨x1, x2, 6, x3, x4, 0, 0, 0, ⟨#[]⟩, 0, 0, []⟩, u5)) (.inr hg))
    clear hg he
    go_wp2_with (first | (go_at_call 14; refine (rgoodO_any ⟨x1, x2, 6, x3, x4, 0, 0, 0, ⟨#[]⟩, 0, 0, []⟩ none 0 _ ⟨VL.nil _ _, fun _ => rfl⟩ (Nat.zero_le _) ⟨HT3.out, HT4.out, (Nat.zero_le _)⟩).mono ?_; rintro e w7 ⟨rfl, hb7⟩; rw [HG.out]; replace HDS := Lib.hid (HDS.out.grow hb7); clear hb7; obtain ⟨y0, y1, y2, y3, y4, y5, y6, y7, y8, y9, y10, y11⟩ := rec_cells HDS.out.rc) | (refine wpList_store_row (o := ⟨none, _, _, _, _, _⟩) ?b1 24 (.tmp 2) (.tmp 120) ?b2 w.heap.size (recA rec0 (.slice none 0 0)) ?b3 ?b4 24 (recA rec0 (.slice none 0 0)) HDS.out.res (rec_info _ _) rfl (rec_one _ _ _ _) ?b5; (case b1 => rfl); (case b2 => rfl); (case b3 => rfl); (case b4 => rfl)))
    rw [HD.out, HR.out]
    exact dec_ret (x := (rec0, 11)) (ao := none) (cap := 0) rfl (setRow_heap _ _ _ _ _ _ HDS.out.res) rfl rfl rfl ⟨VL.nil _ _, fun _ => rfl⟩ (below_setRow HDS.out.below (Nat.le_refl _) _)
  · have HG := Lib.hid hg
    have HR := Lib.hid (endR_yes (x := (⟨x1, x2, 6, x3, x4, 0, 0, 0, ⟨#[]⟩, 0, 0, []⟩, u5)) he hg)
    clear hg he
    go_wp2_with (first | (go_at_call 14; refine (rgoodO_any ⟨x1, x2, 6, x3, x4, 0, 0, 0, ⟨#[]⟩, 0, 0, []⟩ none 0 _ ⟨VL.nil _ _, fun _ => rfl⟩ (Nat.zero_le _) ⟨HT3.out, HT4.out, (Nat.zero_le _)⟩).mono ?_; rintro e w7 ⟨rfl, hb7⟩; rw [HG.out]; replace HDS := Lib.hid (HDS.out.grow hb7); clear hb7; obtain ⟨y0, y1, y2, y3, y4, y5, y6, y7, y8, y9, y10, y11⟩ := rec_cells HDS.out.rc) | (refine wpList_store_row (o := ⟨none, _, _, _, _, _⟩) ?c1 24 (.tmp 2) (.tmp 121) ?c2 w.heap.size (recA ⟨x1, x2, 6, x3, x4, 0, 0, 0, ⟨#[]⟩, 0, 0, []⟩ (.slice none 0 0)) ?c3 ?c4 24 (recA rec0 (.slice none 0 0)) HDS.out.res (rec_info _ _) rfl (rec_one _ _ _ _) ?c5; (case c1 => rfl); (case c2 => rfl); (case c3 => rfl); (case c4 => rfl)))
    rw [HD.out, HR.out]
    exact dec_ret (x := (⟨x1, x2, 6, x3, x4, 0, 0, 0, ⟨#[]⟩, 0, 0, []⟩, 0)) (ao := none) (cap := 0) rfl (setRow_heap _ _ _ _ _ _ HDS.out.res) rfl rfl rfl ⟨VL.nil _ _, fun _ => rfl⟩ (below_setRow HDS.out.below (Nat.le_refl _) _)
set_option maxRecDepth 100000 in
set_option maxHeartbeats 16000000 in
theorem rdec_7 (s : ByteArray) (w : World) (hs : s.size ≤ 1000000) (hk : numV (some s) 1 = 7) :
    Calls Try.prog 17 #[.string s] w (TellsE w (decR s)) := by
  have HS := Lib.hid (show s.size ≤ 1099511627776 by omega)
  have b0 : (ukL (some s)).size ≤ 1000000 := hs
  have HD := Lib.hid (show decR s = endR (⟨(numV (numO (some s) 1) 1), (numV (numO (numO (some s) 1) 1) 4), 7, (textV (numO (numO (numO (some s) 1) 1) 4) 65535), ⟨#[]⟩, (numV (textO (numO (numO (numO (some s) 1) 1) 4) 65535) 4), 0, 0, ⟨#[]⟩, 0, 0, []⟩, (numO (textO (numO (numO (numO (some s) 1) 1) 4) 65535) 4)) by simp [decR, decHead, decBody, rec0, hk])
  have c0 := fun (w0 : World) (h : RKo w0 (w.heap.size + 1) s (some s)) => rNum_any w0 _ s (some s) 1 h HS.out (by constructor <;> decide)
  have b1 : (ukL (numO (some s) 1)).size ≤ 1000000 := Nat.le_trans (numO_size _ _) b0
  generalize numV (some s) 1 = x0 at *
  generalize numO (some s) 1 = u1 at *
  subst hk
  have c1 := fun (w0 : World) (h : RKo w0 (w.heap.size + 1) s u1) => rNum_any w0 _ s u1 1 h HS.out (by constructor <;> decide)
  have b2 : (ukL (numO u1 1)).size ≤ 1000000 := Nat.le_trans (numO_size _ _) b1
  generalize numV u1 1 = x1 at *
  generalize numO u1 1 = u2 at *
  have c2 := fun (w0 : World) (h : RKo w0 (w.heap.size + 1) s u2) => rNum_any w0 _ s u2 4 h HS.out (by constructor <;> decide)
  have b3 : (ukL (numO u2 4)).size ≤ 1000000 := Nat.le_trans (numO_size _ _) b2
  generalize numV u2 4 = x2 at *
  generalize numO u2 4 = u3 at *
  have c3 := fun (w0 : World) (h : RKo w0 (w.heap.size + 1) s u3) => rText_any w0 _ s u3 65535 h HS.out
  have t3 : (textV u3 65535).size ≤ 1000000 := Nat.le_trans (textV_size _ _) b3
  have b4 : (ukL (textO u3 65535)).size ≤ 1000000 := Nat.le_trans (textO_le _ _) b3
  generalize textV u3 65535 = x3 at *
  generalize textO u3 65535 = u4 at *
  have HT3 := Lib.hid t3
  clear t3
  have c4 := fun (w0 : World) (h : RKo w0 (w.heap.size + 1) s u4) => rNum_any w0 _ s u4 4 h HS.out (by constructor <;> decide)
  have b5 : (ukL (numO u4 4)).size ≤ 1000000 := Nat.le_trans (numO_size _ _) b4
  generalize numV u4 4 = x4 at *
  generalize numO u4 4 = u5 at *
  clear hs b0 b1 b2 b3 b4 b5
  go_enter Try.func17, Try.ntmps17
  go_wp2_with fail
  refine (refOpen_any s _).mono ?_
  rintro e w1 ⟨rfl, hq1, hb1⟩
  have HDS := Lib.hid (ds_start w w1 s hq1 hb1)
  clear hq1 hb1
  go_wp2_with fail
  refine (c0 _ HDS.out.un).mono ?_
  rintro e v0 ⟨rfl, hq, hc⟩
  replace HDS := Lib.hid (HDS.out.call hq hc)
  obtain ⟨y0, y1, y2, y3, y4, y5, y6, y7, y8, y9, y10, y11⟩ := rec_cells HDS.out.rc
  clear y0 y1 y3 y4 y5 y6 y7 y8 y9 y10 y11
  have f0 := free_of HDS.out.rc 2
  replace HDS := Lib.hid (HDS.out.set 2 (.int .i64 7) (o' := ⟨0, 0, 7, ⟨#[]⟩, ⟨#[]⟩, 0, 0, 0, ⟨#[]⟩, 0, 0, []⟩) (mv' := .slice none 0 0) rfl)
  clear hq hc
  go_wp2_with fail
  refine (c1 _ HDS.out.un).mono ?_
  rintro e v1 ⟨rfl, hq, hc⟩
  replace HDS := Lib.hid (HDS.out.call hq hc)
  obtain ⟨y0, y1, y2, y3, y4, y5, y6, y7, y8, y9, y10, y11⟩ := rec_cells HDS.out.rc
  clear y1 y2 y3 y4 y5 y6 y7 y8 y9 y10 y11
  have f1 := free_of HDS.out.rc 0
  replace HDS := Lib.hid (HDS.out.set 0 (.int .i64 x1) (o' := ⟨x1, 0, 7, ⟨#[]⟩, ⟨#[]⟩, 0, 0, 0, ⟨#[]⟩, 0, 0, []⟩) (mv' := .slice none 0 0) rfl)
  clear hq hc
  go_wp2_with fail
  refine (c2 _ HDS.out.un).mono ?_
  rintro e v2 ⟨rfl, hq, hc⟩
  replace HDS := Lib.hid (HDS.out.call hq hc)
  obtain ⟨y0, y1, y2, y3, y4, y5, y6, y7, y8, y9, y10, y11⟩ := rec_cells HDS.out.rc
  clear y0 y2 y3 y4 y5 y6 y7 y8 y9 y10 y11
  have f2 := free_of HDS.out.rc 1
  replace HDS := Lib.hid (HDS.out.set 1 (.int .i64 x2) (o' := ⟨x1, x2, 7, ⟨#[]⟩, ⟨#[]⟩, 0, 0, 0, ⟨#[]⟩, 0, 0, []⟩) (mv' := .slice none 0 0) rfl)
  clear hq hc
  obtain ⟨z0, z1, z2, z3, z4, z5, z6, z7, z8, z9, z10, z11⟩ := rec_cells HDS.out.rc
  clear z0 z1 z3 z4 z5 z6 z7 z8 z9 z10 z11
  simp only at z2
  go_wp2_with fail
  refine (c3 _ HDS.out.un).mono ?_
  rintro e v3 ⟨rfl, hq, hc⟩
  replace HDS := Lib.hid (HDS.out.call hq hc)
  obtain ⟨y0, y1, y2, y3, y4, y5, y6, y7, y8, y9, y10, y11⟩ := rec_cells HDS.out.rc
  clear y0 y1 y2 y4 y5 y6 y7 y8 y9 y10 y11
  have f3 := free_of HDS.out.rc 3
  replace HDS := Lib.hid (HDS.out.set 3 (.string x3) (o' := ⟨x1, x2, 7, x3, ⟨#[]⟩, 0, 0, 0, ⟨#[]⟩, 0, 0, []⟩) (mv' := .slice none 0 0) rfl)
  clear hq hc
  go_wp2_with fail
  refine (c4 _ HDS.out.un).mono ?_
  rintro e v4 ⟨rfl, hq, hc⟩
  replace HDS := Lib.hid (HDS.out.call hq hc)
  obtain ⟨y0, y1, y2, y3, y4, y5, y6, y7, y8, y9, y10, y11⟩ := rec_cells HDS.out.rc
  clear y0 y1 y2 y3 y4 y6 y7 y8 y9 y10 y11
  have f4 := free_of HDS.out.rc 5
  replace HDS := Lib.hid (HDS.out.set 5 (.int .i64 x4) (o' := ⟨x1, x2, 7, x3, ⟨#[]⟩, x4, 0, 0, ⟨#[]⟩, 0, 0, []⟩) (mv' := .slice none 0 0) rfl)
  clear hq hc
  go_wp2_with fail
  refine (refEnd_o _ _ _ _ HDS.out.un).mono ?_
  rintro e w' ⟨rfl, q, rfl⟩
  replace HDS := Lib.hid (HDS.out.drewN q)
  by_cases he : ukE u5 = 0
  rotate_left
  · have hd := bne_iff_ne.2 he
    have HR := Lib.hid (endR_no (x := (⟨x1, x2, 7, x3, ⟨#[]⟩, x4, 0, 0, ⟨#[]⟩, 0, 0, []⟩, u5)) (.inl he))
    clear he
    go_wp2_with (refine wpList_store_row (o := ⟨none, _, _, _, _, _⟩) ?a1 24 (.tmp 2) (.tmp 120) ?a2 w.heap.size (recA rec0 (.slice none 0 0)) ?a3 ?a4 24 (recA rec0 (.slice none 0 0)) HDS.out.res (rec_info _ _) rfl (rec_one _ _ _ _) ?a5; (case a1 => rfl); (case a2 => rfl); (case a3 => rfl); (case a4 => rfl))
    rw [HD.out, HR.out]
    exact dec_ret (x := (rec0, 11)) (ao := none) (cap := 0) rfl (setRow_heap _ _ _ _ _ _ HDS.out.res) rfl rfl rfl ⟨VL.nil _ _, fun _ => rfl⟩ (below_setRow HDS.out.below (Nat.le_refl _) _)
  rw [he]
  obtain ⟨y0, y1, y2, y3, y4, y5, y6, y7, y8, y9, y10, y11⟩ := rec_cells HDS.out.rc
  cases hg : goodO ⟨x1, x2, 7, x3, ⟨#[]⟩, x4, 0, 0, ⟨#[]⟩, 0, 0, []⟩
  · have HG := Lib.hid hg
    have HR := Lib.hid (endR_no (x := (⟨x1, x2, 7, x3, ⟨#[]⟩, x4, 0, 0, ⟨#[]⟩, 0, 0, []⟩, u5)) (.inr hg))
    clear hg he
    go_wp2_with (first | (go_at_call 14; refine (rgoodO_any ⟨x1, x2, 7, x3, ⟨#[]⟩, x4, 0, 0, ⟨#[]⟩, 0, 0, []⟩ none 0 _ ⟨VL.nil _ _, fun _ => rfl⟩ (Nat.zero_le _) ⟨HT3.out, (Nat.zero_le _), (Nat.zero_le _)⟩).mono ?_; rintro e w7 ⟨rfl, hb7⟩; rw [HG.out]; replace HDS := Lib.hid (HDS.out.grow hb7); clear hb7; obtain ⟨y0, y1, y2, y3, y4, y5, y6, y7, y8, y9, y10, y11⟩ := rec_cells HDS.out.rc) | (refine wpList_store_row (o := ⟨none, _, _, _, _, _⟩) ?b1 24 (.tmp 2) (.tmp 120) ?b2 w.heap.size (recA rec0 (.slice none 0 0)) ?b3 ?b4 24 (recA rec0 (.slice none 0 0)) HDS.out.res (rec_info _ _) rfl (rec_one _ _ _ _) ?b5; (case b1 => rfl); (case b2 => rfl); (case b3 => rfl); (case b4 => rfl)))
    rw [HD.out, HR.out]
    exact dec_ret (x := (rec0, 11)) (ao := none) (cap := 0) rfl (setRow_heap _ _ _ _ _ _ HDS.out.res) rfl rfl rfl ⟨VL.nil _ _, fun _ => rfl⟩ (below_setRow HDS.out.below (Nat.le_refl _) _)
  · have HG := Lib.hid hg
    have HR := Lib.hid (endR_yes (x := (⟨x1, x2, 7, x3, ⟨#[]⟩, x4, 0, 0, ⟨#[]⟩, 0, 0, []⟩, u5)) he hg)
    clear hg he
    go_wp2_with (first | (go_at_call 14; refine (rgoodO_any ⟨x1, x2, 7, x3, ⟨#[]⟩, x4, 0, 0, ⟨#[]⟩, 0, 0, []⟩ none 0 _ ⟨VL.nil _ _, fun _ => rfl⟩ (Nat.zero_le _) ⟨HT3.out, (Nat.zero_le _), (Nat.zero_le _)⟩).mono ?_; rintro e w7 ⟨rfl, hb7⟩; rw [HG.out]; replace HDS := Lib.hid (HDS.out.grow hb7); clear hb7; obtain ⟨y0, y1, y2, y3, y4, y5, y6, y7, y8, y9, y10, y11⟩ := rec_cells HDS.out.rc) | (refine wpList_store_row (o := ⟨none, _, _, _, _, _⟩) ?c1 24 (.tmp 2) (.tmp 121) ?c2 w.heap.size (recA ⟨x1, x2, 7, x3, ⟨#[]⟩, x4, 0, 0, ⟨#[]⟩, 0, 0, []⟩ (.slice none 0 0)) ?c3 ?c4 24 (recA rec0 (.slice none 0 0)) HDS.out.res (rec_info _ _) rfl (rec_one _ _ _ _) ?c5; (case c1 => rfl); (case c2 => rfl); (case c3 => rfl); (case c4 => rfl)))
    rw [HD.out, HR.out]
    exact dec_ret (x := (⟨x1, x2, 7, x3, ⟨#[]⟩, x4, 0, 0, ⟨#[]⟩, 0, 0, []⟩, 0)) (ao := none) (cap := 0) rfl (setRow_heap _ _ _ _ _ _ HDS.out.res) rfl rfl rfl ⟨VL.nil _ _, fun _ => rfl⟩ (below_setRow HDS.out.below (Nat.le_refl _) _)
end Go.Proofs.Ythileemkiplodaa
