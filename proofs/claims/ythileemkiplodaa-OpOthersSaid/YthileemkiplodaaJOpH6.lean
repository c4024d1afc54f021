/- What the document's Decode returns, at texts of the kind 13. Conditions: the text is no longer than 1000000 bytes. -/
import Derived.Test.YthileemkiplodaaGw
set_option linter.unusedVariables false
namespace Go.Proofs.Ythileemkiplodaa
open Go.RowKit
set_option maxRecDepth 20000

set_option maxRecDepth 100000 in
set_option maxHeartbeats 16000000 in
theorem rdec_13 (s : ByteArray) (w : World) (hs : s.size ≤ 1000000) (hk : numV (some s) 1 = 13) :
    Calls Try.prog 17 #[.string s] w (TellsE w (decR s)) := by
  have HS := Lib.hid (show s.size ≤ 1099511627776 by omega)
  have b0 : (ukL (some s)).size ≤ 1000000 := hs
  have HD := Lib.hid (show decR s = endR (decBody (decHead s).1 (decHead s).2) from rfl)
  have HB := Lib.hid (show decBody (decHead s).1 (decHead s).2 = (⟨numV (numO (some s) 1) 1, numV (numO (numO (some s) 1) 1) 4, 13, ⟨#[]⟩, ⟨#[]⟩, 0, 0, 0, textV (decMoves (numV (numO (numO (numO (numO (some s) 1) 1) 4) 4) 1).toNat [] (numO (numO (numO (numO (numO (some s) 1) 1) 4) 4) 1)).2 65535, 0, numV (numO (numO (numO (some s) 1) 1) 4) 4, (decMoves (numV (numO (numO (numO (numO (some s) 1) 1) 4) 4) 1).toNat [] (numO (numO (numO (numO (numO (some s) 1) 1) 4) 4) 1)).1⟩, textO (decMoves (numV (numO (numO (numO (numO (some s) 1) 1) 4) 4) 1).toNat [] (numO (numO (numO (numO (numO (some s) 1) 1) 4) 4) 1)).2 65535) by simp [decHead, decBody, rec0, hk])
  have c0 := fun (w0 : World) (h : RKo w0 (w.heap.size + 1) s (some s)) => rNum_any w0 _ s (some s) 1 h HS.out (by constructor <;> decide)
  have b1 : (ukL (numO (some s) 1)).size ≤ 1000000 := Nat.le_trans (numO_size _ _) b0
  generalize numV (some s) 1 = x0 at *
  generalize numO (some s) 1 = u1 at *
  subst hk
  have c1 := fun (w0 : World) (h : RKo w0 (w.heap.size + 1) s u1) => rNum_any w0 _ s u1 1 h HS.out (by constructor <;> decide)
  have b2 : (ukL (numO u1 1)).size ≤ 1000000 := Nat.le_trans (numO_size _ _) b1
  generalize numV u1 1 = x1 at *
  generalize numO u1 1 = u2 at *
  have c2 := fun (w0 : World) (h : RKo w0 (w.heap.size + 1) s u2) => rNum_any w0 _ s u2 4 h HS.out (by constructor <;> decide)
  have b3 : (ukL (numO u2 4)).size ≤ 1000000 := Nat.le_trans (numO_size _ _) b2
  generalize numV u2 4 = x2 at *
  generalize numO u2 4 = u3 at *
  have c3 := fun (w0 : World) (h : RKo w0 (w.heap.size + 1) s u3) => rNum_any w0 _ s u3 4 h HS.out (by constructor <;> decide)
  have b4 : (ukL (numO u3 4)).size ≤ 1000000 := Nat.le_trans (numO_size _ _) b3
  generalize numV u3 4 = x3 at *
  generalize numO u3 4 = u4 at *
  have c4 := fun (w0 : World) (h : RKo w0 (w.heap.size + 1) s u4) => rNum_any w0 _ s u4 1 h HS.out (by constructor <;> decide)
  have b5 : (ukL (numO u4 1)).size ≤ 1000000 := Nat.le_trans (numO_size _ _) b4
  have hj := one_num u4
  generalize numV u4 1 = x4 at *
  generalize numO u4 1 = u5 at *
  have HU5 := Lib.hid b5
  clear hs b0 b1 b2 b3 b4 b5
  have CN := fun (w0 : World) (u : Option ByteArray) (h : RKo w0 (w.heap.size + 1) s u) => rNum_any w0 _ s u 2 h HS.out (by constructor <;> decide)
  have CT := fun (w0 : World) (u : Option ByteArray) (h : RKo w0 (w.heap.size + 1) s u) => rText_any w0 _ s u 65535 h HS.out
  have HCN := Lib.hid CN
  have HCT := Lib.hid CT
  clear CN CT
  obtain ⟨hj0, hj1⟩ := hj
  obtain ⟨N, rfl⟩ := Int.eq_ofNat_of_zero_le hj0
  rw [Int.toNat_natCast] at HB
  go_enter Try.func17, Try.ntmps17
  go_wp2_with fail
  refine (refOpen_any s _).mono ?_
  rintro e w1 ⟨rfl, hq1, hb1⟩
  have HDS := Lib.hid (ds_start w w1 s hq1 hb1)
  clear hq1 hb1
  go_wp2_with fail
  refine (c0 _ HDS.out.un).mono ?_
  rintro e v0 ⟨rfl, hq, hc⟩
  replace HDS := Lib.hid (HDS.out.call hq hc)
  obtain ⟨y0, y1, y2, y3, y4, y5, y6, y7, y8, y9, y10, y11⟩ := rec_cells HDS.out.rc
  clear y0 y1 y3 y4 y5 y6 y7 y8 y9 y10 y11
  have f0 := free_of HDS.out.rc 2
  replace HDS := Lib.hid (HDS.out.set 2 (.int .i64 13) (o' := ⟨0, 0, 13, ⟨#[]⟩, ⟨#[]⟩, 0, 0, 0, ⟨#[]⟩, 0, 0, []⟩) (mv' := .slice none 0 0) rfl)
  clear hq hc
  go_wp2_with fail
  refine (c1 _ HDS.out.un).mono ?_
  rintro e v1 ⟨rfl, hq, hc⟩
  replace HDS := Lib.hid (HDS.out.call hq hc)
  obtain ⟨y0, y1, y2, y3, y4, y5, y6, y7, y8, y9, y10, y11⟩ := rec_cells HDS.out.rc
  clear y1 y2 y3 y4 y5 y6 y7 y8 y9 y10 y11
  have f1 := free_of HDS.out.rc 0
  replace HDS := Lib.hid (HDS.out.set 0 (.int .i64 x1) (o' := ⟨x1, 0, 13, ⟨#[]⟩, ⟨#[]⟩, 0, 0, 0, ⟨#[]⟩, 0, 0, []⟩) (mv' := .slice none 0 0) rfl)
  clear hq hc
  go_wp2_with fail
  refine (c2 _ HDS.out.un).mono ?_
  rintro e v2 ⟨rfl, hq, hc⟩
  replace HDS := Lib.hid (HDS.out.call hq hc)
  obtain ⟨y0, y1, y2, y3, y4, y5, y6, y7, y8, y9, y10, y11⟩ := rec_cells HDS.out.rc
  clear y0 y2 y3 y4 y5 y6 y7 y8 y9 y10 y11
  have f2 := free_of HDS.out.rc 1
  replace HDS := Lib.hid (HDS.out.set 1 (.int .i64 x2) (o' := ⟨x1, x2, 13, ⟨#[]⟩, ⟨#[]⟩, 0, 0, 0, ⟨#[]⟩, 0, 0, []⟩) (mv' := .slice none 0 0) rfl)
  clear hq hc
  obtain ⟨z0, z1, z2, z3, z4, z5, z6, z7, z8, z9, z10, z11⟩ := rec_cells HDS.out.rc
  clear z0 z1 z3 z4 z5 z6 z7 z8 z9 z10 z11
  simp only at z2
  go_wp2_with fail
  refine (c3 _ HDS.out.un).mono ?_
  rintro e v3 ⟨rfl, hq, hc⟩
  replace HDS := Lib.hid (HDS.out.call hq hc)
  obtain ⟨y0, y1, y2, y3, y4, y5, y6, y7, y8, y9, y10, y11⟩ := rec_cells HDS.out.rc
  clear y0 y1 y2 y3 y4 y5 y6 y7 y8 y9 y11
  have f3 := free_of HDS.out.rc 10
  replace HDS := Lib.hid (HDS.out.set 10 (.int .i64 x3) (o' := ⟨x1, x2, 13, ⟨#[]⟩, ⟨#[]⟩, 0, 0, 0, ⟨#[]⟩, 0, x3, []⟩) (mv' := .slice none 0 0) rfl)
  clear hq hc
  go_wp2_with fail
  refine (c4 _ HDS.out.un).mono ?_
  rintro e v4 ⟨rfl, hq, hc⟩
  replace HDS := Lib.hid (HDS.out.call hq hc)
  clear hq hc
  go_wp2_with fail
  have HINV := Lib.hid (show decMoves N [] u5 = decMoves N [] u5 from rfl)
  generalize w1.heap.size = V at *
  generalize hDM : decMoves N [] u5 = DM at *
  go_loopw [6] (fun i wr => ∃ (j : Nat) (l : List Mv) (vm : Value) (u : Option ByteArray), i = .int .i64 j ∧ j ≤ N ∧ Hid (decMoves j l u = DM) ∧ Hid (l.length + j = N) ∧ Hid (DS w wr V s ⟨x1, x2, 13, ⟨#[]⟩, ⟨#[]⟩, 0, 0, 0, ⟨#[]⟩, 0, x3, []⟩ vm u) ∧ Hid (wr.ownsRow (V + 1) 54 4 vm l.length (mvCells l)) ∧ Hid ((ukL u).size ≤ 1000000)) (fun i _ => (intOf i).toNat)
  case atStart => exact ⟨N, [], .slice none 0 0, u5, rfl, Nat.le_refl _, Lib.hid hDM, Lib.hid (by simp), HDS, Lib.hid (World.ownsRow_nil _ _ _ _), HU5⟩
  case round =>
    clear HDS HINV
    obtain ⟨j, l, vm, u, rfl, hjN, HI, HLN, HDS, HO, HU⟩ := hrel
    cases j with
    | succ j =>
      clear y2 f0 y0 f1 y1 f2 y10 f3 z2 c0 c1 c2 c3 c4
      have HI2 := Lib.hid ((decMoves_next j l u).symm.trans HI.out)
      have HM := Lib.hid (MS.start HDS.out HO.out)
      have HU2 := Lib.hid (Nat.le_trans (numO_size (numO (numO (numO u 2) 2) 2) 2) (Nat.le_trans (numO_size (numO (numO u 2) 2) 2) (Nat.le_trans (numO_size (numO u 2) 2) (Nat.le_trans (numO_size u 2) HU.out))))
      have hp : (0 : Int) < ((j + 1 : Nat) : Int) := by omega
      have hl256 : l.length + 1 ≤ 256 := by have := HLN.out; omega
      have HLN2 := Lib.hid (show l.length + 1 + j = N by have := HLN.out; omega)
      clear HI HDS HO HU HLN
      go_wp2_with fail
      generalize wr.heap.size = M at *
      refine (HCN.out _ u HM.out.ds.un).mono ?_
      rintro e r0 ⟨rfl, hq, hc⟩
      replace HM := Lib.hid (HM.out.call hq hc)
      clear hq hc
      generalize numV u 2 = a0 at *
      generalize numO u 2 = p1 at *
      obtain ⟨m0, m1, m2, m3⟩ := four_cells HM.out.mc
      clear m1 m2 m3
      have g0 := free_of HM.out.mc 0
      replace HM := Lib.hid (HM.out.set 0 (.int .i64 a0) (a' := a0) (b' := 0) (c' := 0) (d' := 0) rfl)
      go_wp2_with fail
      clear m0 g0
      refine (HCN.out _ p1 HM.out.ds.un).mono ?_
      rintro e r1 ⟨rfl, hq, hc⟩
      replace HM := Lib.hid (HM.out.call hq hc)
      clear hq hc
      generalize numV p1 2 = a1 at *
      generalize numO p1 2 = p2 at *
      obtain ⟨m0, m1, m2, m3⟩ := four_cells HM.out.mc
      clear m0 m2 m3
      have g1 := free_of HM.out.mc 1
      replace HM := Lib.hid (HM.out.set 1 (.int .i64 a1) (a' := a0) (b' := a1) (c' := 0) (d' := 0) rfl)
      go_wp2_with fail
      clear m1 g1
      refine (HCN.out _ p2 HM.out.ds.un).mono ?_
      rintro e r2 ⟨rfl, hq, hc⟩
      replace HM := Lib.hid (HM.out.call hq hc)
      clear hq hc
      generalize numV p2 2 = a2 at *
      generalize numO p2 2 = p3 at *
      obtain ⟨m0, m1, m2, m3⟩ := four_cells HM.out.mc
      clear m0 m1 m3
      have g2 := free_of HM.out.mc 2
      replace HM := Lib.hid (HM.out.set 2 (.int .i64 a2) (a' := a0) (b' := a1) (c' := a2) (d' := 0) rfl)
      go_wp2_with fail
      clear m2 g2
      refine (HCN.out _ p3 HM.out.ds.un).mono ?_
      rintro e r3 ⟨rfl, hq, hc⟩
      replace HM := Lib.hid (HM.out.call hq hc)
      clear hq hc
      generalize numV p3 2 = a3 at *
      generalize numO p3 2 = p4 at *
      obtain ⟨m0, m1, m2, m3⟩ := four_cells HM.out.mc
      clear m0 m1 m2
      have g3 := free_of HM.out.mc 3
      replace HM := Lib.hid (HM.out.set 3 (.int .i64 a3) (a' := a0) (b' := a1) (c' := a2) (d' := a3) rfl)
      obtain ⟨k0, k1, k2, k3⟩ := four_cells HM.out.mc
      have k11 := (rec_cells HM.out.ds.rc).2.2.2.2.2.2.2.2.2.2.2
      obtain ⟨i0, hi, hz0, hz1, hz2⟩ : ∃ i, Try.prog.info? 54 = some i ∧ i.zero = some (.agg #[.int .i64 0, .int .i64 0, .int .i64 0, .int .i64 0]) ∧ i.size = 4 ∧ i.bytes = 32 := by
        obtain ⟨i, h1, h2⟩ := Option.map_eq_some_iff.1 mv_info
        simp only [Prod.mk.injEq] at h2
        exact ⟨i, h1, h2.1, h2.2.1, h2.2.2⟩
      have HZ := Lib.hid (And.intro hi (And.intro hz0 (And.intro hz1 hz2)))
      clear hi hz0 hz1 hz2
      have HLM := Lib.hid (show l.length + 1 ≤ maxLen ∧ (l.length + 1) * 32 ≤ 140737488355328 by unfold maxLen; omega)
      have HBS := Lib.hid (fun (W : World) (x : Obj) (h : W.heap[V]? = some (.cells (recA ⟨x1, x2, 13, ⟨#[]⟩, ⟨#[]⟩, 0, 0, 0, ⟨#[]⟩, 0, x3, []⟩ vm) 24 (0, 0))) => show V + 1 ≤ (W.alloc x).heap.size from by have := lt_of_block h; simp; omega)
      go_wp2_with (at_builtin; refine wpList_append_own _ rfl _ _ 22 rfl (V + 1) 54 i0 _ 4 32 Try.underlying22 HZ.out.1 HZ.out.2.1 HZ.out.2.2.1 HZ.out.2.2.2 rfl (by decide) _ _ _ rfl (HM.out.own.alloc _) ⟨r3.heap.size, 0, none⟩ 1 1 (mvCells [Mv.mk a0 a1 a2 a3]) rfl rfl (mvTwo a0 a1 a2 a3 (by simp)) (mvCells_one _) HLM.out.1 HLM.out.2 (HBS.out _ _ HM.out.ds.rc) ?_; intro v' w5 hown hgrow _; obtain ⟨hrc, hds, ho⟩ := HM.out.put hown hgrow; have y11 := (rec_cells hrc).2.2.2.2.2.2.2.2.2.2.2; have f11 := free_of hrc 11; obtain ⟨ao', cap', hv', _⟩ := VL.ofOwn ho rfl; subst hv'; have HDS := Lib.hid hds; have HO := Lib.hid ho; clear hown hgrow hrc hds ho)
      go_roundw
      case rel =>
        have hl1 : (l ++ [Mv.mk a0 a1 a2 a3]).length = l.length + 1 := by simp
        refine ⟨j, l ++ [Mv.mk a0 a1 a2 a3], .slice ao' (l.length + 1) cap', p4, by go_num, by omega, HI2, by rw [hl1]; exact HLN2, ?_, ?_, HU2⟩
        · rw [hl1] at HDS; exact HDS
        · rw [hl1] at HO ⊢; exact HO
      case measure => simp [intOf]
    | zero =>
      clear y2 f0 y0 f1 y1 f2 y10 f3 z2 c0 c1 c2 c3 c4
      have hDMx : DM = (l, u) := HI.out.symm
      subst hDMx
      obtain ⟨ao, cap, rfl, hvl, _⟩ := VL.ofOwn HO.out rfl
      have HOB := Lib.hid (fun k (hk : (Value.slice ao l.length cap).ownBlock = some k) => (HO.out.lt k hk).1)
      have t5 : (textV u 65535).size ≤ 1000000 := Nat.le_trans (textV_size _ _) HU.out
      have HT5 := Lib.hid t5
      have HVL := Lib.hid hvl
      have HVA := Lib.hid (fun a (ha : ao = some a) => show V < a.block from HOB.out a.block (by rw [ha]; rfl))
      clear hvl t5 HI HO
      go_wp2_with fail
      refine (HCT.out _ u HDS.out.un).mono ?_
      rintro e v5 ⟨rfl, hq, hc⟩
      have hlt := HDS.out.lt
      replace HVL := Lib.hid (show VLI v5 ao cap l from ⟨HVL.out.1.keep hc (fun a ha => by have := HVA.out a ha; omega), HVL.out.2⟩)
      replace HDS := Lib.hid (HDS.out.call hq hc)
      generalize textV u 65535 = x5 at *
      generalize textO u 65535 = u6 at *
      obtain ⟨y0, y1, y2, y3, y4, y5, y6, y7, y8, y9, y10, y11⟩ := rec_cells HDS.out.rc
      clear y0 y1 y2 y3 y4 y5 y6 y7 y9 y10 y11
      have f8 := free_of HDS.out.rc 8
      replace HDS := Lib.hid (HDS.out.set 8 (.string x5) (o' := ⟨x1, x2, 13, ⟨#[]⟩, ⟨#[]⟩, 0, 0, 0, x5, 0, x3, l⟩) (mv' := .slice ao l.length cap) rfl)
      replace HVL := Lib.hid (show VLI (v5.setCell ⟨V, 8, none⟩ (.string x5)) ao cap l from ⟨HVL.out.1.keep ((Kept.refl (fun k => k ≠ V) v5).setCell (by simp) _) (fun a ha => by have := HVA.out a ha; omega), HVL.out.2⟩)
      clear hq hc
      go_wp2_with fail
      refine (refEnd_o _ _ _ _ HDS.out.un).mono ?_
      rintro e w' ⟨rfl, q, rfl⟩
      replace HDS := Lib.hid (HDS.out.drewN q)
      replace HVL := Lib.hid (HVL.out.below (below_drewN (Below.refl _ _) q))
      have HVR := Lib.hid (fun (W : World) (c : Array Value) (h : VLI W ao cap l) => show VLI (W.setRow w.heap.size c) ao cap l from ⟨h.1.keep (S := fun k => k ≠ w.heap.size) ⟨rfl, rfl, rfl, by simp, fun k hk _ => setRow_other _ _ _ _ hk⟩ (fun a ha => by have := HVA.out a ha; omega), h.2⟩)
      by_cases he : ukE u6 = 0
      rotate_left
      · have hd := bne_iff_ne.2 he
        have HR := Lib.hid (endR_no (x := (⟨x1, x2, 13, ⟨#[]⟩, ⟨#[]⟩, 0, 0, 0, x5, 0, x3, l⟩, u6)) (.inl he))
        clear he
        go_wp2_with (refine wpList_store_row (o := ⟨none, _, _, _, _, _⟩) ?a1 24 (.tmp 2) (.tmp 120) ?a2 w.heap.size (recA rec0 (.slice none 0 0)) ?a3 ?a4 24 (recA rec0 (.slice none 0 0)) HDS.out.res (rec_info _ _) rfl (rec_one _ _ _ _) ?a5; (case a1 => rfl); (case a2 => rfl); (case a3 => rfl); (case a4 => rfl))
        rw [HD.out, HB.out, HR.out]
        exact dec_ret (x := (rec0, 11)) (ao := none) (cap := 0) rfl (setRow_heap _ _ _ _ _ _ HDS.out.res) rfl rfl rfl ⟨VL.nil _ _, fun _ => rfl⟩ (below_setRow HDS.out.below (Nat.le_refl _) _)
      rw [he]
      obtain ⟨y0, y1, y2, y3, y4, y5, y6, y7, y8, y9, y10, y11⟩ := rec_cells HDS.out.rc
      cases hg : goodO ⟨x1, x2, 13, ⟨#[]⟩, ⟨#[]⟩, 0, 0, 0, x5, 0, x3, l⟩
      · have HG := Lib.hid hg
        have HR := Lib.hid (endR_no (x := (⟨x1, x2, 13, ⟨#[]⟩, ⟨#[]⟩, 0, 0, 0, x5, 0, x3, l⟩, u6)) (.inr hg))
        clear hg he
        go_wp2_with (first | (go_at_call 14; refine (rgoodO_any ⟨x1, x2, 13, ⟨#[]⟩, ⟨#[]⟩, 0, 0, 0, x5, 0, x3, l⟩ ao cap _ HVL.out (by have := HLN.out; show l.length ≤ 1000000; omega) ⟨(Nat.zero_le _), (Nat.zero_le _), HT5.out⟩).mono ?_; rintro e w7 ⟨rfl, hb7⟩; rw [HG.out]; replace HDS := Lib.hid (HDS.out.grow hb7); replace HVL := Lib.hid (HVL.out.below hb7); clear hb7; obtain ⟨y0, y1, y2, y3, y4, y5, y6, y7, y8, y9, y10, y11⟩ := rec_cells HDS.out.rc) | (refine wpList_store_row (o := ⟨none, _, _, _, _, _⟩) ?b1 24 (.tmp 2) (.tmp 120) ?b2 w.heap.size (recA rec0 (.slice none 0 0)) ?b3 ?b4 24 (recA rec0 (.slice none 0 0)) HDS.out.res (rec_info _ _) rfl (rec_one _ _ _ _) ?b5; (case b1 => rfl); (case b2 => rfl); (case b3 => rfl); (case b4 => rfl)))
        rw [HD.out, HB.out, HR.out]
        exact dec_ret (x := (rec0, 11)) (ao := none) (cap := 0) rfl (setRow_heap _ _ _ _ _ _ HDS.out.res) rfl rfl rfl ⟨VL.nil _ _, fun _ => rfl⟩ (below_setRow HDS.out.below (Nat.le_refl _) _)
      · have HG := Lib.hid hg
        have HR := Lib.hid (endR_yes (x := (⟨x1, x2, 13, ⟨#[]⟩, ⟨#[]⟩, 0, 0, 0, x5, 0, x3, l⟩, u6)) he hg)
        clear hg he
        go_wp2_with (first | (go_at_call 14; refine (rgoodO_any ⟨x1, x2, 13, ⟨#[]⟩, ⟨#[]⟩, 0, 0, 0, x5, 0, x3, l⟩ ao cap _ HVL.out (by have := HLN.out; show l.length ≤ 1000000; omega) ⟨(Nat.zero_le _), (Nat.zero_le _), HT5.out⟩).mono ?_; rintro e w7 ⟨rfl, hb7⟩; rw [HG.out]; replace HDS := Lib.hid (HDS.out.grow hb7); replace HVL := Lib.hid (HVL.out.below hb7); clear hb7; obtain ⟨y0, y1, y2, y3, y4, y5, y6, y7, y8, y9, y10, y11⟩ := rec_cells HDS.out.rc) | (refine wpList_store_row (o := ⟨none, _, _, _, _, _⟩) ?c1 24 (.tmp 2) (.tmp 121) ?c2 w.heap.size (recA ⟨x1, x2, 13, ⟨#[]⟩, ⟨#[]⟩, 0, 0, 0, x5, 0, x3, l⟩ (.slice ao l.length cap)) ?c3 ?c4 24 (recA rec0 (.slice none 0 0)) HDS.out.res (rec_info _ _) rfl (rec_one _ _ _ _) ?c5; (case c1 => rfl); (case c2 => rfl); (case c3 => rfl); (case c4 => rfl)))
        rw [HD.out, HB.out, HR.out]
        exact dec_ret (x := (⟨x1, x2, 13, ⟨#[]⟩, ⟨#[]⟩, 0, 0, 0, x5, 0, x3, l⟩, 0)) (ao := ao) (cap := cap) rfl (setRow_heap _ _ _ _ _ _ HDS.out.res) rfl rfl rfl (HVR.out _ _ HVL.out) (below_setRow HDS.out.below (Nat.le_refl _) _)
end Go.Proofs.Ythileemkiplodaa
