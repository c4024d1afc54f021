/- Joined texts. -/
import Derived.Test.YtkefpbcifcjibaaGreatG26b
import Derived.Test.YtkefpbcifcjibaaGreatG14a
import Derived.Test.YtkefpbcifcjibaaGreatG26a
import Derived.Test.YtkefpbcifcjibaaGreatG24a
import Derived.Test.YtkefpbcifcjibaaGreatG16a
import Derived.Test.YtkefpbcifcjibaaGreatH00
set_option linter.unusedVariables false
set_option maxRecDepth 20000
set_option maxHeartbeats 16000000
namespace Go.Proofs.YtkefpbcifcjibaaGreat
open Go.RowKit
theorem fs_trim (b:Nat) (G:Nat→Prop) (w:World) (q:Qf) (xc xn:Int) (xd:ByteArray) (xe:Int) (xL:List (List Int)) (xm xs xy:Int) (xo:Option Addr) (xp:Nat) (h:FQ b G w q)  :
  Calls Tryz.prog 107 #[ptrP b,.agg #[.int .i64 43,.int .i64 xn,.string xd,.int .i64 xe,.slice xo xL.length xp,.int .i64 xm,.int .i64 xs,.int .i64 xy]] w fun e w'=>e=.returned (.tuple #[])∧Leaves (FQ b) G w w' (q.ends 3 noS 0):=by
 obtain ⟨HG,HB,HX,HA,⟨x0,x1,x2,x3,x4,x5,x6,x7⟩,ao,cap,⟨c0,c1,c2,c3,c4,c5,c6,c7,c8,c9⟩,⟨f0,f1,f2,f3,f4,f5,f6,f7,f8,f9⟩,hb,HC1,H1,H3⟩:=z0n h 43 xn xd xe xo xL.length xp xm xs xy rfl
 clear h
 unfold ptrP at *
 go_enter Tryz.func107,Tryz.ntmps107
 go_wp2_with fail
 generalize w.alloc _=w1 at *
 refine z06 0 rfl ?_
 generalize hQ:Exit.jump _ _ _=QJ
 go_wp2_with fail
 go_step3
 show QJ (.goto 0) _ _
 rw [← hQ]
 refine z0h ?_
 go_wp2_with (go_at_call 102;refine (fp_end b _ _ q 3 ⟨#[]⟩ 0 HA.out).mono ?_;rintro e w9 ⟨rfl,hl⟩;have HL9:=Lh hl;clear hl)
 rw [Exit.noGoto_ret]
 exact bodyPost_ret (results_none rfl _ _ _) rfl ⟨rfl,HL9.out.ahead HG.out HB.out⟩
theorem fs_over_r (b:Nat) (G:Nat→Prop) (w:World) (q:Qf) (xc xn:Int) (xd:ByteArray) (xe:Int) (xL:List (List Int)) (xm xs xy:Int) (xo:Option Addr) (xp:Nat) (h:FQ b G w q) (ha:q.at_=2∨q.at_=3) (n43:¬ xc=43) (n0:¬ xc=0) (n46:¬ xc=46) (n42:¬ xc=42) :
  Calls Tryz.prog 107 #[ptrP b,.agg #[.int .i64 xc,.int .i64 xn,.string xd,.int .i64 xe,.slice xo xL.length xp,.int .i64 xm,.int .i64 xs,.int .i64 xy]] w fun e w'=>e=.returned (.tuple #[])∧Leaves (FQ b) G w w' (q.ends 0 noS xc):=by
 obtain ⟨HG,HB,HX,HA,⟨x0,x1,x2,x3,x4,x5,x6,x7⟩,ao,cap,⟨c0,c1,c2,c3,c4,c5,c6,c7,c8,c9⟩,⟨f0,f1,f2,f3,f4,f5,f6,f7,f8,f9⟩,hb,HC1,H1,H3⟩:=z0n h xc xn xd xe xo xL.length xp xm xs xy rfl
 have e43:(xc == 43)=false:=by simpa using n43
 have e0:(xc == 0)=false:=by simpa using n0
 have e46:(xc == 46)=false:=by simpa using n46
 have e42:(xc == 42)=false:=by simpa using n42
 rcases ha with ha | ha
 all_goals
  rw [ha] at c4
  clear h
  unfold ptrP at *
  go_enter Tryz.func107,Tryz.ntmps107
  go_wp2_with fail
  generalize w.alloc _=w1 at *
  refine wp_scope_straight ?_
  go_wp2_with (go_at_call 102;refine (fp_end b _ _ q 0 ⟨#[]⟩ xc HA.out).mono ?_;rintro e w9 ⟨rfl,hl⟩;have HL9:=Lh hl;clear hl)
  rw [Exit.noGoto_ret]
  exact bodyPost_ret (results_none rfl _ _ _) rfl ⟨rfl,HL9.out.ahead HG.out HB.out⟩
theorem fs_over_w (b:Nat) (G:Nat→Prop) (w:World) (q:Qf) (xc xn:Int) (xd:ByteArray) (xe:Int) (xL:List (List Int)) (xm xs xy:Int) (xo:Option Addr) (xp:Nat) (h:FQ b G w q) (ha:q.at_=4∨q.at_=5) (n43:¬ xc=43) (n0:¬ xc=0) (n41:¬ xc=41) :
  Calls Tryz.prog 107 #[ptrP b,.agg #[.int .i64 xc,.int .i64 xn,.string xd,.int .i64 xe,.slice xo xL.length xp,.int .i64 xm,.int .i64 xs,.int .i64 xy]] w fun e w'=>e=.returned (.tuple #[])∧Leaves (FQ b) G w w' (q.ends 0 noS xc):=by
 obtain ⟨HG,HB,HX,HA,⟨x0,x1,x2,x3,x4,x5,x6,x7⟩,ao,cap,⟨c0,c1,c2,c3,c4,c5,c6,c7,c8,c9⟩,⟨f0,f1,f2,f3,f4,f5,f6,f7,f8,f9⟩,hb,HC1,H1,H3⟩:=z0n h xc xn xd xe xo xL.length xp xm xs xy rfl
 have e43:(xc == 43)=false:=by simpa using n43
 have e0:(xc == 0)=false:=by simpa using n0
 have e41:(xc == 41)=false:=by simpa using n41
 rcases ha with ha | ha
 all_goals
  rw [ha] at c4
  clear h
  unfold ptrP at *
  go_enter Tryz.func107,Tryz.ntmps107
  go_wp2_with fail
  generalize w.alloc _=w1 at *
  refine wp_scope_straight ?_
  go_wp2_with (go_at_call 102;refine (fp_end b _ _ q 0 ⟨#[]⟩ xc HA.out).mono ?_;rintro e w9 ⟨rfl,hl⟩;have HL9:=Lh hl;clear hl)
  rw [Exit.noGoto_ret]
  exact bodyPost_ret (results_none rfl _ _ _) rfl ⟨rfl,HL9.out.ahead HG.out HB.out⟩
theorem fs_first_r (b:Nat) (G:Nat→Prop) (w:World) (q:Qf) (xc xn:Int) (xd:ByteArray) (xe:Int) (xL:List (List Int)) (xm xs xy:Int) (xo:Option Addr) (xp:Nat) (h:FQ b G w q) (ha:q.at_=2∨q.at_=3) (hu:0 < q.unit) :
  Calls Tryz.prog 107 #[ptrP b,.agg #[.int .i64 42,.int .i64 xn,.string xd,.int .i64 xe,.slice xo xL.length xp,.int .i64 xm,.int .i64 xs,.int .i64 xy]] w fun e w'=>e=.returned (.tuple #[])∧Leaves (FQ b) G w w' (q.first):=by
 obtain ⟨HG,HB,HX,HA,⟨x0,x1,x2,x3,x4,x5,x6,x7⟩,ao,cap,⟨c0,c1,c2,c3,c4,c5,c6,c7,c8,c9⟩,⟨f0,f1,f2,f3,f4,f5,f6,f7,f8,f9⟩,hb,HC1,H1,H3⟩:=z0n h 42 xn xd xe xo xL.length xp xm xs xy rfl
 rcases ha with ha | ha
 all_goals
  rw [ha] at c4
  clear h
  unfold ptrP at *
  go_enter Tryz.func107,Tryz.ntmps107
  go_wp2_with fail
  generalize w.alloc _=w1 at *
  refine z06 3 rfl ?_
  generalize hQ:Exit.jump _ _ _=QJ
  go_wp2_with fail
  go_step3
  show QJ (.goto 3) _ _
  rw [← hQ]
  refine z0h ?_
  go_wp2_with fail
  rw [Exit.noGoto_ret]
  exact bodyPost_ret (results_none rfl _ _ _) rfl ⟨rfl,(H3.out _ q.first (((Kept.refl _ w1).setCell (p:=⟨b,4,none⟩) (fun h=>h rfl) _).setCell (p:=⟨b,6,none⟩) (fun h=>h rfl) _) rfl (tset6 (tset4 H1.out _) _)).ahead HG.out HB.out⟩
theorem fs_first_j (b:Nat) (G:Nat→Prop) (w:World) (q:Qf) (xc xn:Int) (xd:ByteArray) (xe:Int) (xL:List (List Int)) (xm xs xy:Int) (xo:Option Addr) (xp:Nat) (h:FQ b G w q) (ha:q.at_=4) :
  Calls Tryz.prog 107 #[ptrP b,.agg #[.int .i64 41,.int .i64 xn,.string xd,.int .i64 xe,.slice xo xL.length xp,.int .i64 xm,.int .i64 xs,.int .i64 xy]] w fun e w'=>e=.returned (.tuple #[])∧Leaves (FQ b) G w w' (q.first):=by
 obtain ⟨HG,HB,HX,HA,⟨x0,x1,x2,x3,x4,x5,x6,x7⟩,ao,cap,⟨c0,c1,c2,c3,c4,c5,c6,c7,c8,c9⟩,⟨f0,f1,f2,f3,f4,f5,f6,f7,f8,f9⟩,hb,HC1,H1,H3⟩:=z0n h 41 xn xd xe xo xL.length xp xm xs xy rfl
 rw [ha] at c4
 clear h
 unfold ptrP at *
 go_enter Tryz.func107,Tryz.ntmps107
 go_wp2_with fail
 generalize w.alloc _=w1 at *
 refine z06 3 rfl ?_
 generalize hQ:Exit.jump _ _ _=QJ
 go_wp2_with fail
 go_step3
 show QJ (.goto 3) _ _
 rw [← hQ]
 refine z0h ?_
 go_wp2_with fail
 rw [Exit.noGoto_ret]
 exact bodyPost_ret (results_none rfl _ _ _) rfl ⟨rfl,(H3.out _ q.first (((Kept.refl _ w1).setCell (p:=⟨b,4,none⟩) (fun h=>h rfl) _).setCell (p:=⟨b,6,none⟩) (fun h=>h rfl) _) rfl (tset6 (tset4 H1.out _) _)).ahead HG.out HB.out⟩
theorem fs_unwr_t (b:Nat) (G:Nat→Prop) (w:World) (q:Qf) (xc xn:Int) (xd:ByteArray) (xe:Int) (xL:List (List Int)) (xm xs xy:Int) (xo:Option Addr) (xp:Nat) (h:FQ b G w q) (ha:q.at_=2∨q.at_=3) (hu:q.unit=0) (hl:q.fill=true) :
  Calls Tryz.prog 107 #[ptrP b,.agg #[.int .i64 42,.int .i64 xn,.string xd,.int .i64 xe,.slice xo xL.length xp,.int .i64 xm,.int .i64 xs,.int .i64 xy]] w fun e w'=>e=.returned (.tuple #[])∧Leaves (FQ b) G w w' (q.to 4):=by
 obtain ⟨HG,HB,HX,HA,⟨x0,x1,x2,x3,x4,x5,x6,x7⟩,ao,cap,⟨c0,c1,c2,c3,c4,c5,c6,c7,c8,c9⟩,⟨f0,f1,f2,f3,f4,f5,f6,f7,f8,f9⟩,hb,HC1,H1,H3⟩:=z0n h 42 xn xd xe xo xL.length xp xm xs xy rfl
 rw [hu] at c6
 rw [hl] at c3
 rcases ha with ha | ha
 all_goals
  rw [ha] at c4
  clear h
  unfold ptrP at *
  go_enter Tryz.func107,Tryz.ntmps107
  go_wp2_with fail
  generalize w.alloc _=w1 at *
  refine z06 4 rfl ?_
  generalize hQ:Exit.jump _ _ _=QJ
  go_wp2_with fail
  go_step3
  show QJ (.goto 4) _ _
  rw [← hQ]
  refine z0h ?_
  go_wp2_with fail
  rw [Exit.noGoto_ret]
  exact bodyPost_ret (results_none rfl _ _ _) rfl ⟨rfl,(H3.out _ (q.to 4) ((Kept.refl _ w1).setCell (p:=⟨b,4,none⟩) (fun h=>h rfl) _) rfl (tset4 H1.out _)).ahead HG.out HB.out⟩
theorem fs_unwr_f (b:Nat) (G:Nat→Prop) (w:World) (q:Qf) (xc xn:Int) (xd:ByteArray) (xe:Int) (xL:List (List Int)) (xm xs xy:Int) (xo:Option Addr) (xp:Nat) (h:FQ b G w q) (ha:q.at_=2∨q.at_=3) (hu:q.unit=0) (hl:q.fill=false) :
  Calls Tryz.prog 107 #[ptrP b,.agg #[.int .i64 42,.int .i64 xn,.string xd,.int .i64 xe,.slice xo xL.length xp,.int .i64 xm,.int .i64 xs,.int .i64 xy]] w fun e w'=>e=.returned (.tuple #[])∧Leaves (FQ b) G w w' (q.ends 0 noS 0):=by
 obtain ⟨HG,HB,HX,HA,⟨x0,x1,x2,x3,x4,x5,x6,x7⟩,ao,cap,⟨c0,c1,c2,c3,c4,c5,c6,c7,c8,c9⟩,⟨f0,f1,f2,f3,f4,f5,f6,f7,f8,f9⟩,hb,HC1,H1,H3⟩:=z0n h 42 xn xd xe xo xL.length xp xm xs xy rfl
 rw [hu] at c6
 rw [hl] at c3
 rcases ha with ha | ha
 all_goals
  rw [ha] at c4
  clear h
  unfold ptrP at *
  go_enter Tryz.func107,Tryz.ntmps107
  go_wp2_with fail
  generalize w.alloc _=w1 at *
  refine z06 4 rfl ?_
  generalize hQ:Exit.jump _ _ _=QJ
  go_wp2_with fail
  go_step3
  show QJ (.goto 4) _ _
  rw [← hQ]
  refine z0h ?_
  go_wp2_with (go_at_call 102;refine (fp_end b _ _ q 0 ⟨#[]⟩ 0 HA.out).mono ?_;rintro e w9 ⟨rfl,hl⟩;have HL9:=Lh hl;clear hl)
  rw [Exit.noGoto_ret]
  exact bodyPost_ret (results_none rfl _ _ _) rfl ⟨rfl,HL9.out.ahead HG.out HB.out⟩
theorem me_skip_at (b:Nat) (G:Nat→Prop) (w:World) (r:Rf) (h:RfM b G w r) (ha:r.at_=2) :
  Calls Tryz.prog 19 #[ptrP b] w fun e w'=>e=.returned (.bool r.mays)∧Leaves (RfM b) G w w' r.skip:=by
 have HT:=Lh h
 have C:=Lh (fun w (h:RfM b G w r)=>z0q b G w r h)
 rw [decide_eq_false (p:=r.at_=5) (by omega)] at C
 obtain ⟨a1,n1,a2,n2,bk,off,lc,us,mb,h1,hN,hul,hq,htm,hmb,_,hok,hfin⟩:=h.seal ha
 obtain ⟨b2,o2,e2,cu⟩:=hN.at 0 (by simp)
 obtain ⟨rfl,rfl,_⟩:=Addr.mk.inj (Option.some.inj e2)
 rw [Nat.add_zero,List.getElem_cons_zero] at cu
 have hbk:=block_lt_of_cell cu
 simp only at hbk
 have HBK:=Lh hbk
 have CUU:=Lh cu
 have HAD:=Lh (h.below (Below.refl _ _).drew)
 obtain ⟨⟨c0,c1,c2,c3,c4,c5,c6,c7⟩,_⟩:=z03 h1
 have hb:=lt_of_block h1
 have H1:=Lh h1
 have HN:=Lh hN
 have HUL:=Lh hul
 have HQ:=Lh hq
 have HTM:=Lh htm
 have HMB:=Lh hmb
 have HF:=Lh hfin
 have hi:=hok.two ha
 have hlq:(unitsR r.qL).length≤1000000:=Nat.le_trans (units_few hok.qf) (by decide)
 have hlen:(0:Int) < (us.length:Int)+1:=by omega
 have CU:=Lh (fun W (hC:CL W a1 r.qL)=>punitsO_any r.qe a1 n1 r.qL W hC hok.qf)
 have CK:=Lh (fun W bo cb (hU:NLI W bo cb (unitsR r.qL))=>z2b (unitsR r.qL) r.unit bo cb W hU hlq)
 have S1d:=Lh (show w.drew.cell? ⟨b,0,none⟩=some (.int .i64 r.qe)∧w.drew.cell? ⟨b,1,none⟩=some (.slice a1 r.qL.length n1)∧w.drew.cell? ⟨b,4,none⟩=some (.int .i64 1)∧w.drew.cell? ⟨b,5,none⟩=some (.slice (some ⟨bk,off,none⟩) (us.length+1) lc)∧w.drew.cell? ⟨bk,off,none⟩=some (.int .i64 r.unit) from ⟨c0,c1,c4,c5,cu⟩)
 have HMY:=Lh (show r.mays = !hasB (unitsR r.qL) r.unit from by unfold Rf.mays hasB;rw [decide_eq_true ha,Bool.true_and])
 have HTK:=Lh hok.tn
 clear h h1 hN hq htm hmb hfin hok hlq hul
 unfold ptrP at *
 cases hc:hasB (unitsR r.qL) r.unit
 ·rw [hc] at CK HMY
  have HSK:=Lh (show r.skip=r.next r.tails from if_pos HMY.out)
  rw [HSK.out,HMY.out]
  clear hc
  go_enter Tryz.func19,Tryz.ntmps19
  go_wp2_with fail
  go_region_held3 (fun W=>W.cell? ⟨b,0,none⟩=some (.int .i64 r.qe)∧W.cell? ⟨b,1,none⟩=some (.slice a1 r.qL.length n1)∧W.cell? ⟨b,4,none⟩=some (.int .i64 1)∧W.cell? ⟨b,5,none⟩=some (.slice (some ⟨bk,off,none⟩) (us.length+1) lc)∧W.cell? ⟨bk,off,none⟩=some (.int .i64 r.unit))
   (first | with_reducible exact S1d.out | with_reducible exact S6.out | assumption)
   (first | (go_at_call 48;refine (C.out _ HAD.out).mono ?_;rintro e w5 ⟨rfl,rfl⟩) | (go_at_call 52;refine (CU.out _ (HQ.out.below (Below.refl _ _).drew)).mono ?_;rintro e w6 ⟨v,rfl,hO,hb6⟩;obtain ⟨bo,cb,rfl,hNU,_,_⟩:=hO.form;have HNU:=Lh hNU;have B6:=Lh (z0c (w1:=w) hb6 (Below.refl _ _).drew);have H6:=Lh (z01 B6.out H1.out);have S6:=Lh (show w6.cell? ⟨b,0,none⟩=some (.int .i64 r.qe)∧w6.cell? ⟨b,1,none⟩=some (.slice a1 r.qL.length n1)∧w6.cell? ⟨b,4,none⟩=some (.int .i64 1)∧w6.cell? ⟨b,5,none⟩=some (.slice (some ⟨bk,off,none⟩) (us.length+1) lc)∧w6.cell? ⟨bk,off,none⟩=some (.int .i64 r.unit) from ⟨z02 H6.out 0,z02 H6.out 1,z02 H6.out 4,z02 H6.out 5,z0s B6.out HBK.out CUU.out⟩);clear hO hb6 hNU) | (go_at_call 51;refine (CK.out _ _ _ HNU.out).mono ?_;rintro e w7 ⟨rfl,rfl⟩))
  all_goals
   go_wp2_with (go_at_call 53;refine (mp_pass b w6 _ _ _ _ _ _ bk off lc r.unit us H6.out (HN.out.below B6.out) HUL.out).mono ?_;rintro e w7 ⟨rfl,hk7,off2,ho2,h7⟩;have K7:=Lh hk7;have H7:=Lh h7;have O7:=Lh ho2;clear hk7 h7 ho2)
   go_ret
   exact ⟨rfl,HF.out w7 r.tails off2 O7.out ((Kept.ofBelow B6.out _).trans (K7.out.mono (fun k h=>h.1))) ((HTM.out.below B6.out).keepK K7.out HMB.out) (fun x hx=>.inl hx) (Nat.le_succ_of_le HTK.out) H7.out⟩
 ·rw [hc] at CK HMY
  have HSK:=Lh (show r.skip=r from if_neg (by rw [HMY.out];decide))
  rw [HSK.out,HMY.out]
  clear hc
  go_enter Tryz.func19,Tryz.ntmps19
  go_wp2_with fail
  go_region_held3 (fun W=>W.cell? ⟨b,0,none⟩=some (.int .i64 r.qe)∧W.cell? ⟨b,1,none⟩=some (.slice a1 r.qL.length n1)∧W.cell? ⟨b,4,none⟩=some (.int .i64 1)∧W.cell? ⟨b,5,none⟩=some (.slice (some ⟨bk,off,none⟩) (us.length+1) lc)∧W.cell? ⟨bk,off,none⟩=some (.int .i64 r.unit))
   (first | with_reducible exact S1d.out | with_reducible exact S6.out | assumption)
   (first | (go_at_call 48;refine (C.out _ HAD.out).mono ?_;rintro e w5 ⟨rfl,rfl⟩) | (go_at_call 52;refine (CU.out _ (HQ.out.below (Below.refl _ _).drew)).mono ?_;rintro e w6 ⟨v,rfl,hO,hb6⟩;obtain ⟨bo,cb,rfl,hNU,_,_⟩:=hO.form;have HNU:=Lh hNU;have B6:=Lh (z0c (w1:=w) hb6 (Below.refl _ _).drew);have H6:=Lh (z01 B6.out H1.out);have S6:=Lh (show w6.cell? ⟨b,0,none⟩=some (.int .i64 r.qe)∧w6.cell? ⟨b,1,none⟩=some (.slice a1 r.qL.length n1)∧w6.cell? ⟨b,4,none⟩=some (.int .i64 1)∧w6.cell? ⟨b,5,none⟩=some (.slice (some ⟨bk,off,none⟩) (us.length+1) lc)∧w6.cell? ⟨bk,off,none⟩=some (.int .i64 r.unit) from ⟨z02 H6.out 0,z02 H6.out 1,z02 H6.out 4,z02 H6.out 5,z0s B6.out HBK.out CUU.out⟩);clear hO hb6 hNU) | (go_at_call 51;refine (CK.out _ _ _ HNU.out).mono ?_;rintro e w7 ⟨rfl,rfl⟩))
  all_goals
   go_wp2_with fail
   go_ret
   exact ⟨rfl,Leaves.same (z1v b) HT.out B6.out⟩
theorem me_skip (b:Nat) (G:Nat→Prop) (w:World) (r:Rf) (h:RfM b G w r) :
  Calls Tryz.prog 19 #[ptrP b] w fun e w'=>e=.returned (.bool r.mays)∧Leaves (RfM b) G w w' r.skip:=by
 by_cases e:r.at_=2
 ·exact me_skip_at b G w r h e
 ·exact me_skip_no b G w r h e
section
variable {UG:Nat→Nat→(Nat→Prop)→World→Us→Prop} {OG:Nat→(Nat→Prop)→World→Od→Prop} {LG:Nat→(Nat→Prop)→World→Ly→Prop} {NG:Nat→(Nat→Prop)→World→Nd→Prop}
theorem handSays_of (S:RpcSays UG OG LG NG):HandSays UG OG LG NG (HM NG) where
 rpc:=S
 thing:=fun b nb=>z0t S.thing [] b nb
 within:=fun hh=>hh.within S.thing
 nodes_in:=by
  rintro b nb G w h ⟨_,v,l,F,C,_,_,_,h4,_,_,h7,_⟩
  exact ⟨F,h4,fun k hk=>(h7 k hk).1⟩
 few:=fun h=>h.1
 new:=fun nb F w n hF=>hnew_any NG S.thing nb F w n hF
 new_no:=fun w=>(hnew_no w).mono fun e w' ⟨b,he,hn,hb⟩=>⟨some ⟨b,0,none⟩,he,hb,fun w2 hb2 =>
  ⟨fun a fate _ _=>ask_none _ a fate w2 (fun W hW=>nodes_noh (z01 hW (z01 hb2 hn))),fun k _=>do_noh (z01 hb2 hn) k⟩⟩
 ask:=fun b nb G w h a fate hh ok hL hs hu hf hA=>by
  by_cases h0:fate=0
  ·subst h0
   exact hask_heard S b nb G w h a hh ok hL hs hu hA
  by_cases h2:fate=2
  ·subst h2
   exact hask_deaf S b nb G w h a hh ok hL hs hu hA
  by_cases h3:fate=3
  ·subst h3
   by_cases hl:h.held.length < 64
   ·have e1:h.heard a 3=zeroX:=if_neg h0
    have e2:h.asked a.plain 3=⟨h.n,h.held ++ [a.plain]⟩:=by
     unfold Hd.asked
     rw [if_neg (by omega),if_pos ⟨rfl,hl⟩]
    rw [e1,e2]
    exact hask_held S b nb G w h a hh ok hL hs hA hl
   ·have e1:h.heard a 3=zeroX:=if_neg h0
    have e2:h.asked a.plain 3=h:=by
     unfold Hd.asked
     rw [if_neg (by omega),if_neg (fun h5=>hl h5.2)]
    rw [e1,e2]
    exact hask_full S b nb G w h a hh hl
  ·have e1:h.heard a fate=zeroX:=if_neg h0
   have e2:h.asked a.plain fate=h:=by
    unfold Hd.asked
    rw [if_neg (by omega),if_neg (fun h5=>h3 h5.1)]
   rw [e1,e2,decide_eq_false h0]
   exact hask_lost S b nb G w h a hh fate h0 h2 h3
 does:=fun b nb G w h k hh hu hk=>by
  by_cases h1:0≤k∧k < h.held.length
  ·obtain ⟨n,rfl⟩:=Int.eq_ofNat_of_zero_le h1.1
   have hn:n < h.held.length:=by omega
   refine (do_yes S b nb G w h n hh hn hu).mono ?_
   rintro e w' ⟨he,hl⟩
   unfold Hd.does Hd.has
   rw [dif_pos h1]
   exact ⟨by rw [he,decide_eq_true h1.1,decide_eq_true h1.2];rfl,hl⟩
  ·refine (do_no b nb G w h k hh h1).mono ?_
   rintro e w' ⟨he,hb⟩
   unfold Hd.does Hd.has
   rw [dif_neg h1]
   refine ⟨?_,Leaves.same (z0t S.thing [] b nb) hh hb⟩
   rw [he]
   by_cases h2:0≤k
   ·rw [decide_eq_true h2,decide_eq_false (fun h3=>h1 ⟨h2,h3⟩)];rfl
   ·rw [decide_eq_false h2];rfl
 nodes:=fun b nb G w h hh=>(hnodes_any b nb G w h hh).mono fun e w' ⟨he,hw⟩=>⟨he,hw ▸ Below.refl _ _⟩
 nil_ask:=fun a fate w _ _=>ask_none none a fate w (fun W _=>hnodes_nil W)
 nil_do:=fun k w _=>do_nil_hand k w
 nil_nodes:=fun w=>(hnodes_nil w).mono fun e w' ⟨he,hw⟩=>⟨he,hw ▸ Below.refl _ _⟩
end
theorem handSays:HandSays UM OM LM (RM UM OM LM) (HM (RM UM OM LM)):=handSays_of rpcSays
structure RecN (E:Int) (M:List (List Int)) (n:Nd) (m:Nat) (txt:Nat→ByteArray):Prop where
 good:goodB E M=true
 base:Base n
 ep:∀ i,(n.u i).epoch≤E
 up:∀ i,(n.u i).down=false
 o:n.o=⟨E,m,true⟩
 le:n.l.ep=E
 lL:n.l.L=M
 lu:n.l.used=unitsR M
 got:∀ a,ofB E M a=true→a < m→∀ j,j < lenG E M a→GK E M n a j=1∧GX E M n a j=txt a.toNat
 free:∀ a,ofB E M a=true→(m:Int)≤a→∀ j,j < lenG E M a→GK E M n a j=0
 out:∀ u:Nat,(u:Int) ∉ unitsR M→∀ q,(n.u u).p.kind q=0
section
variable {E:Int} {M:List (List Int)} {n:Nd} {m:Nat} {txt:Nat→ByteArray}
theorem newP_kind (room q:Int):(newP room).kind q=0:=by
 unfold Ps.kind newP
 split
 ·next h =>
  rw [thereB_iff] at h
  rw [if_neg (by show ¬ q < 0;omega)]
  rfl
 ·rfl
theorem RecN.start (hg:goodB E M=true) {room:Int} (hr:50≤room∧room≤4096):RecN E M (newN E M room) 0 txt:=by
 have hE:=(goodB_iff.1 hg).1
 refine ⟨hg,⟨fun i=>⟨newP_ok (by omega),hr.1,fun x hx=>(by cases hx)⟩⟩,fun i=>hE.1,fun i=>rfl,?_,rfl,rfl,rfl,fun a ha h0=>?_,fun a ha _ j hj=>newP_kind room _,fun u _ q=>newP_kind room q⟩
 ·show newO.done (startA E)=_
  unfold Od.done
  rw [if_pos ⟨rfl,show (-1:Int) < E by omega,show (0:Int)≤0 by omega,show (0:Int)≤16384 by omega⟩]
  rfl
 ·have:=(ofB_iff.1 ha).2.1
  omega
theorem RecN.gt (h:RecN E M n m txt):GtN E M n:=by
 refine ⟨fun a j ha hj=>?_⟩
 obtain ⟨b1,b2,b3⟩:=h.base.each (unG E M a j)
 exact ⟨h.up _,h.ep _,b2,b1,b3⟩
theorem RecN.ad (h:RecN E M n m txt) (hm:m < 14):AdG E M m:=by
 have ho:ofB E M (m:Int)=true:=ofB_iff.2 ⟨h.good,by omega,by omega⟩
 refine ⟨ho,?_⟩
 obtain ⟨_,_,_,_,q1,_⟩:=z12 ho
 obtain ⟨n1,n4⟩:=z0v h.good
 rw [q1]
 rcases z0y (n:=M.length) ⟨by omega,by omega⟩ with e | e | e | e <;> rw [e] <;> omega
theorem RecN.put (h:RecN E M n m txt) (hm:m < 14):PutR E M n m:=⟨h.gt,h.ad hm,h.o,h.le,h.lL,fun j hj=>h.free m (h.ad hm).of (Int.le_refl _) j hj⟩
theorem RecN.used (h:RecN E M n m txt):n.l.used.length≤16:=by
 rw [h.lu]
 exact z26 h.good
theorem RecN.next (h:RecN E M n m txt) (hm:m < 14) {n':Nd} (hp:PutN E M n m (txt m) n' (lenG E M m)):RecN E M n' (m+1) txt:=by
 have had:=h.ad hm
 have key:∀ u,(∃ j,j < lenG E M m∧u=unG E M m j)∨n'.u u=n.u u:=fun u=>by
  by_cases e:∃ j,j < lenG E M m∧u=unG E M m j
  ·exact .inl e
  ·exact .inr (hp.rest u (fun j hj hu=>e ⟨j,hj,hu⟩))
 have gt:=fun j hj=>hp.ft.u m j had.of hj
 refine ⟨h.good,⟨fun u=>?_⟩,fun u=>?_,fun u=>?_,hp.o,by rw [hp.l];exact h.le,by rw [hp.l];exact h.lL,by rw [hp.l];exact h.lu,fun a ha h1 j hj=>?_,fun a ha h1 j hj=>?_,fun u hu q=>?_⟩
 ·rcases key u with ⟨j,hj,rfl⟩ | e
  ·exact ⟨(gt j hj).ok,(gt j hj).room,(gt j hj).low⟩
  ·rw [e];exact h.base.each u
 ·rw [hp.epoch];exact h.ep u
 ·rcases key u with ⟨j,hj,rfl⟩ | e
  ·exact (gt j hj).up
  ·rw [e];exact h.up u
 ·by_cases e:a=m
  ·subst e
   obtain ⟨g1,g2⟩:=hp.got j hj hj
   exact ⟨g1,by rw [g2,Int.toNat_natCast]⟩
  ·obtain ⟨g1,g2⟩:=hp.off a j ha hj e
   obtain ⟨g3,g4⟩:=h.got a ha (by omega) j hj
   exact ⟨g1.trans g3,g2.trans g4⟩
 ·obtain ⟨g1,_⟩:=hp.off a j ha hj (by omega)
  exact g1.trans (h.free a ha (by omega) j hj)
 ·rcases key u with ⟨j,hj,rfl⟩ | e
  ·exact absurd (unG_mem had.of hj) hu
  ·rw [e];exact h.out u hu q
end
theorem addr_unit {E:Int} {M:List (List Int)} (hg:goodB E M=true) {i:Nat} (hi:i < M.length) {u:Int} (hu:u ∈ M[i]) {p:Int} (hp:0≤p∧p < 4096):ofB E M (p * M.length+i)=true∧ofP E M (p * M.length+i)=p∧∃ j,j < lenG E M (p * M.length+i)∧unG E M (p * M.length+i) j=u.toNat:=by
 obtain ⟨n1,n4⟩:=z0v hg
 have arith:0≤p * (M.length:Int)+i∧p * (M.length:Int)+i < 16384∧(p * (M.length:Int)+i) % (M.length:Int)=i∧(p * (M.length:Int)+i) / (M.length:Int)=p:=by
  have hi':(i:Int) < (M.length:Int):=by omega
  rcases z0y (n:=M.length) ⟨by omega,by omega⟩ with e | e | e | e <;> rw [e] at hi' ⊢ <;> omega
 obtain ⟨a1,a2,a3,a4⟩:=arith
 have ho:ofB E M (p * M.length+i)=true:=ofB_iff.2 ⟨hg,a1,a2⟩
 obtain ⟨k,hk,m1,e1,p1,_⟩:=z12 ho
 obtain rfl:i=k:=by omega
 obtain ⟨j,hj,rfl⟩:=List.getElem_of_mem hu
 refine ⟨ho,by rw [p1,a4],j,by unfold lenG;rw [e1];exact hj,?_⟩
 unfold unG
 rw [e1]
 congr 1
 simp [hj]
theorem edge_zero {p:Ps} (h:p.Ok) (h3:p.kind 0≠3):p.edge=0:=by
 have he:=h.edge
 unfold Ps.kind at h3
 rw [if_pos (thereB_iff.2 ⟨Int.le_refl _,by omega⟩)] at h3
 by_cases e:0 < p.edge
 ·rw [if_pos e] at h3
  exact absurd rfl h3
 ·omega
theorem RecN.top {E:Int} {M:List (List Int)} {n:Nd} {m:Nat} {txt:Nat→ByteArray} (h:RecN E M n m txt) (hm:m≤14) {K:List (Int × Int)} (h1:∀ x ∈ K,x.1 ∈ unitsR M∧x.2=(n.u x.1.toNat).p.tail) (h2:∀ i (hi:i < M.length),∃ u ∈ M[i],(u,(n.u u.toNat).p.tail) ∈ K):tailR E M K=m:=by
 obtain ⟨n1,n4⟩:=z0v h.good
 obtain ⟨s1,s2,s3⟩:=tailN_spec M K M.length
 unfold tailR
 rw [if_pos h.good]
 have page:∀ i (hi:i < M.length) u (hu:u ∈ M[i]) p,0≤p∧p < 4096→((n.u u.toNat).p.kind p=if p * M.length+i < m then 1 else 0):=fun i hi u hu p hp=>by
  obtain ⟨q1,q2,j,q3,q4⟩:=addr_unit h.good hi hu hp
  by_cases e:p * (M.length:Int)+i < m
  ·rw [if_pos e]
   have:=(h.got _ q1 e j q3).1
   unfold GK at this
   rwa [q4,q2] at this
  ·rw [if_neg e]
   have:=h.free _ q1 (by omega) j q3
   unfold GK at this
   rwa [q4,q2] at this
 have least:(m:Int)≤tailN M K M.length:=by
  by_cases e:m=0
  ·omega
  ·have arith:∃ (i:Nat) (p:Int),i < M.length∧(0≤p∧p < 4096)∧p * (M.length:Int)+i+1=m∧p < 4095:=by
    refine ⟨((m:Int) - 1).toNat % M.length,((m:Int) - 1) / M.length,Nat.mod_lt _ (by omega),?_⟩
    rcases (show M.length=1∨M.length=2∨M.length=3∨M.length=4 by omega) with g | g | g | g <;> rw [g] <;> omega
   obtain ⟨i,p,hi,hp,ha,hp2⟩:=arith
   obtain ⟨u,hu,hK⟩:=h2 i hi
   have hk:=page i hi u hu p hp
   rw [if_pos (by omega)] at hk
   have ht:p+1≤(n.u u.toNat).p.tail:=by
    unfold Ps.kind at hk
    rw [if_pos (thereB_iff.2 hp)] at hk
    split at hk
    ·cases hk
    ·split at hk
     ·next x hx =>
      obtain ⟨x1,x2⟩:=z21 hx
      have:=(tailP_spec (n.u u.toNat).p.l (n.u u.toNat).p.edge).2.2 x x1
      unfold Ps.tail
      omega
     ·cases hk
   have hg:=s3 i hi u (by simp [hi];exact hu) _ hK rfl
   refine Int.le_trans ?_ hg
   show (m:Int)≤gain M.length i (n.u u.toNat).p.tail
   unfold gain
   rw [if_neg (by omega)]
   rcases z0y (n:=M.length) ⟨by omega,by omega⟩ with g | g | g | g <;> rw [g] at ha ⊢ <;> omega
 have most:tailN M K M.length≤m:=by
  rcases s1 with e | ⟨i,hi,u,hu,e,he,hf,hg⟩
  ·omega
  ·have hu':u ∈ M[i]:=by simpa [hi] using hu
   obtain ⟨_,k2⟩:=h1 e he
   rw [hf] at k2
   have hok:=(h.base.each u.toNat).1
   have k0:=page i hi u hu' 0 (by omega)
   have hed:=edge_zero hok (by rw [k0];split <;> decide)
   have ht:=(tailP_spec (n.u u.toNat).p.l (n.u u.toNat).p.edge).1
   rw [hg,k2]
   unfold Ps.tail
   rcases ht with ht | ⟨x,hx,ht⟩
   ·rw [ht,hed,gain_zero]
    omega
   ·have hx2:=(hok.each x hx).1
    have hk:=page i hi u hu' x.at_ (by omega)
    have kx:(n.u u.toNat).p.kind x.at_≠0:=by
     unfold Ps.kind
     rw [if_pos (thereB_iff.2 (by omega)),if_neg (by omega)]
     cases hc:findP (n.u u.toNat).p.l x.at_ with
     | none=>exact absurd rfl (findP_none.1 hc x hx)
     | some y =>
      have:=(hok.each y (z21 hc).1).2.1
      show y.kind≠0
      omega
    have ham:x.at_ * (M.length:Int)+i < m:=by
     by_cases g:x.at_ * (M.length:Int)+i < m
     ·exact g
     ·rw [if_neg g] at hk
      exact absurd hk kx
    rw [ht]
    unfold gain
    rw [if_neg (by omega)]
    rcases z0y (n:=M.length) ⟨by omega,by omega⟩ with g | g | g | g <;> rw [g] at ham ⊢ <;> omega
 omega
end Go.Proofs.YtkefpbcifcjibaaGreat
