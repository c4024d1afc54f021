/- The law ReformKeeps: records that were appended ahead of a change are read behind it as they were. Conditions: none. (Written by gen/genreformkeeps.py.) -/
import Derived.Deep.RegionHeld3
import Derived.Deep.CutRange
import Derived.Deep.CutBlock
import Derived.Deep.RegionLaw
import Derived.Deep.RegionHeldLaw
import Derived.Test.YtkefpbcifcjibaaGreatG27b
import Derived.Test.YtkefpbcifcjibaaGreatG33a
import Derived.Test.YtkefpbcifcjibaaGreatG31a
import Derived.Test.YtkefpbcifcjibaaGreatX07
import Derived.Test.YtkefpbcifcjibaaGreatG32a
import Derived.Test.YtkefpbcifcjibaaGreatX11
import Derived.Test.YtkefpbcifcjibaaGreatG11a
import Derived.Test.YtkefpbcifcjibaaGreatG08a
import Derived.Test.YtkefpbcifcjibaaGreatX02
import Derived.Test.YtkefpbcifcjibaaGreatG12a
import Derived.Test.YtkefpbcifcjibaaGreatX01
import Derived.Test.YtkefpbcifcjibaaGreatH00
set_option linter.unusedVariables false
set_option maxRecDepth 20000
set_option maxHeartbeats 16000000
namespace Go.Proofs.YtkefpbcifcjibaaGreat
open Go.ChangeShapes Go.WideShapes Go.ChangeAt Go.RowKit
open Go.ChangeMaps (open_string shut_string)
theorem reformKeeps_walk {UG:Nat→Nat→(Nat→Prop)→World→Us→Prop} {OG:Nat→(Nat→Prop)→World→Od→Prop} {LG:Nat→(Nat→Prop)→World→Ly→Prop} {NG:Nat→(Nat→Prop)→World→Nd→Prop} {HG:Nat→Nat→(Nat→Prop)→World→Hd→Prop} {AG:Nat→(Nat→Prop)→World→Ap→Prop} {FG:Nat→(Nat→Prop)→World→Fe→Prop} {TG:Nat→(Nat→Prop)→World→Tl→Prop} {RG:Nat→(Nat→Prop)→World→Rf→Prop} (HS:HandSays UG OG LG NG HG) (AS:AppSays AG) (FS:FetchSays FG) (TS:TailSays TG) (RS:RfmSays RG) (ao:Option Addr) (cap:Nat) (L:List ByteArray) (qe:Int) (qo:Option Addr) (qc:Nat) (qL:List (List Int)) (fo:Option Addr) (fc:Nat) (fl:List Int) (hl:L.length≤maxLen) (hd:fl.length≤maxLen) (w:World) (hR:SLI w ao cap L) (hq:PIn w qe qo qc qL) (hR2:Row w fo 1 byteC fl) (hK2:∀ x ∈ fl,byteOk w x) :
  Calls Tryz.prog 4 #[.slice ao L.length cap,.agg #[.int .i64 qe,.slice qo qL.length qc],.slice fo fl.length fc] w fun e w'=>e=.returned (.bool true)∧Below w.heap.size w w':=by
 have CW:=Lh (fun w=>wakes18_any HS AS FS RS w)
 have TT:=Lh (fun b nb=>HS.thing b nb)
 have ZZ:=Lh (fun (x:Int) (h:0≤x∧x≤300)=>show i64w x from WalkArith.wf_i64 (by omega))
 unfold maxLen at hl hd
 have hl':(L.length:Int)≤9223372036854775807:=by omega
 have hd':(fl.length:Int)≤9223372036854775807:=by omega
 obtain ⟨⟨hqC,hqn,hqc⟩,hqe,hql,hqm⟩:=hq
 have hb0:Below w.heap.size w (w.alloc (.cells #[.int .i64 qe,.slice qo qL.length qc] 24)):=z00 w _
 have hz0:(w.alloc (.cells #[.int .i64 qe,.slice qo qL.length qc] 24)).heap.size=w.heap.size+1:=by simp
 have g1:=heap_alloc_new w (.cells #[.int .i64 qe,.slice qo qL.length qc] 24)
 have HB0:=Lh hb0
 have HW:=Lh (fun W (hb:Bx (w.heap.size+1) (w.alloc (.cells #[.int .i64 qe,.slice qo qL.length qc] 24)) W)=>show Below w.heap.size w W from hb0.trans (hb.1.mono (by omega)))
 have CQ:=Lh (fun W (hb:Bx (w.heap.size+1) (w.alloc (.cells #[.int .i64 qe,.slice qo qL.length qc] 24)) W)=>show CL W qo qL from hqC.below (HW.out W hb))
 have HF:=Lh (fun W (hb:Bx (w.heap.size+1) (w.alloc (.cells #[.int .i64 qe,.slice qo qL.length qc] 24)) W)=>show SL W ao L from hR.1.below (HW.out W hb))
 have HR:=Lh (fun W (hb:Bx (w.heap.size+1) (w.alloc (.cells #[.int .i64 qe,.slice qo qL.length qc] 24)) W)=>show Row W fo 1 byteC fl from hR2.below (HW.out W hb))
 have HPC:=Lh (fun W (hb:Bx (w.heap.size+1) (w.alloc (.cells #[.int .i64 qe,.slice qo qL.length qc] 24)) W)=>show W.cell? ⟨w.heap.size,0,none⟩=some (.int .i64 qe)∧W.cell? ⟨w.heap.size,1,none⟩=some (.slice qo qL.length qc)∧w.heap.size < W.heap.size from by
  have e:W.heap[w.heap.size]?=_:=(hb.1.block w.heap.size (by omega)).trans g1
  exact ⟨z02 e 0,z02 e 1,lt_of_block e⟩)
 have LQ:=Lh (fun W (hb:Bx (w.heap.size+1) (w.alloc (.cells #[.int .i64 qe,.slice qo qL.length qc] 24)) W)=>large_any qe qo qc qL W (CQ.out W hb) hql hqm)
 have HK:=Lh (show ∀ x ∈ fl,0≤x∧x < 256 from hK2)
 have HQN:=Lh hqn
 have HQC:=Lh hqc
 have DS:=Lh (show Bx (w.heap.size+1) (w.alloc (.cells #[.int .i64 qe,.slice qo qL.length qc] 24)) (w.alloc (.cells #[.int .i64 qe,.slice qo qL.length qc] 24)) from ⟨Below.refl _ _,by omega⟩)
 have D0:=Lh DS.out.drew
 have CO:=Lh old18_any
 clear hqC hqn hqc hqe hql hqm hR hR2 hK2 hb0 hz0 g1
 generalize hW0:(w.alloc (.cells #[.int .i64 qe,.slice qo qL.length qc] 24))=W0 at *
 by_cases h12:12 < L.length
 ·have c12:(12:Int) < (L.length:Int):=by omega
  clear h12
  go_enter Tryz.func4,Tryz.ntmps4
  go_wp2_with fail
  try rw [hW0]
  obtain ⟨d0,d1,dl⟩:=HPC.out _ D0.out
  go_quiet (fail)
  go_wp2_with (go_at_call 9;refine (CW.out _).mono ?_;rintro e w30 ⟨rfl,hb30⟩;have D30:=Lh ((DS.out.on (below_drewN (Below.refl _ _) nq)).on hb30);clear hb30)
  go_ret
  exact ⟨rfl,HB0.out.trans (D30.out.1.mono (by omega))⟩
 have c12:¬ (12:Int) < (L.length:Int):=by omega
 by_cases h60:60 < fl.length
 ·have c60:(60:Int) < (fl.length:Int):=by omega
  clear h60
  go_enter Tryz.func4,Tryz.ntmps4
  go_wp2_with fail
  try rw [hW0]
  obtain ⟨d0,d1,dl⟩:=HPC.out _ D0.out
  go_quiet (fail)
  go_wp2_with (go_at_call 9;refine (CW.out _).mono ?_;rintro e w30 ⟨rfl,hb30⟩;have D30:=Lh ((DS.out.on (below_drewN (Below.refl _ _) nq)).on hb30);clear hb30)
  go_ret
  exact ⟨rfl,HB0.out.trans (D30.out.1.mono (by omega))⟩
 have c60:¬ (60:Int) < (fl.length:Int):=by omega
 have b12:decide ((12:Int) < (L.length:Int))=false:=decide_eq_false c12
 have b60:decide ((60:Int) < (fl.length:Int))=false:=decide_eq_false c60
 rcases Bool.eq_false_or_eq_true (largeB qL) with hlq | hlq
 ·rw [hlq] at LQ
  clear hlq
  go_enter Tryz.func4,Tryz.ntmps4
  go_wp2_with fail
  try rw [hW0]
  obtain ⟨d0,d1,dl⟩:=HPC.out _ D0.out
  go_region_with (first
    | (go_at_call 8;(with_reducible refine (LQ.out _ D0.out).mono ?_);rintro e w2 ⟨rfl,hb2⟩;have D2:=Lh (D0.out.on hb2);clear d0 d1 dl;obtain ⟨d0,d1,dl⟩:=HPC.out _ D2.out;clear hb2))
  all_goals
   clear d0 d1 dl
   go_wp2_with (go_at_call 9;refine (CW.out _).mono ?_;rintro e w30 ⟨rfl,hb30⟩;have D30:=Lh (D2.out.on hb30);clear hb30)
   go_ret
   exact ⟨rfl,HB0.out.trans (D30.out.1.mono (by omega))⟩
 rw [hlq] at LQ
 have q50:=largeB_no hlq
 have HFQ:=Lh (show fewL qL from ⟨by omega,fun c hc=>Nat.le_trans (q50.2 c hc) (by decide)⟩)
 have NXQ:=Lh (fun (W:World) (ao:Option Addr) (h:CL W ao oL) (hb:Bx (w.heap.size+1) W0 W)=>show Calls Tryz.prog 23 #[.agg #[.int .i64 0,.slice ao 2 2],.agg #[.int .i64 qe,.slice qo qL.length qc]] W (fun e w'=>e=.returned (.bool (nextB 0 oL qe qL))∧Below W.heap.size W w') from rnext_any 0 ao 2 oL qe qo qc qL W h (CQ.out W hb) ⟨by decide,by decide⟩ HFQ.out)
 clear q50 hlq
 cases hnq:nextB 0 oL qe qL
 ·rw [hnq] at NXQ
  clear hnq
  go_enter Tryz.func4,Tryz.ntmps4
  go_wp2_with fail
  try rw [hW0]
  obtain ⟨d0,d1,dl⟩:=HPC.out _ D0.out
  go_region_with (first
    | (go_at_call 8;(with_reducible refine (LQ.out _ D0.out).mono ?_);rintro e w2 ⟨rfl,hb2⟩;have D2:=Lh (D0.out.on hb2);clear d0 d1 dl;obtain ⟨d0,d1,dl⟩:=HPC.out _ D2.out;clear hb2)
    | (go_at_call 24;(with_reducible refine (CO.out w2).mono ?_);rintro e w3 ⟨ao3,rfl,hC3,hb3⟩;have O3:=Lh (z1e hC3);have D3:=Lh (D2.out.on hb3);clear d0 d1 dl;obtain ⟨d0,d1,dl⟩:=HPC.out _ D3.out;clear hC3 hb3)
    | (go_at_call 23;(with_reducible refine (NXQ.out w3 ao3 O3.out D3.out).mono ?_);rintro e w4 ⟨rfl,hb4⟩;have D4:=Lh (D3.out.on hb4);clear d0 d1 dl;obtain ⟨d0,d1,dl⟩:=HPC.out _ D4.out;clear hb4))
  all_goals
   clear d0 d1 dl
   go_wp2_with (go_at_call 9;refine (CW.out _).mono ?_;rintro e w30 ⟨rfl,hb30⟩;have D30:=Lh (D4.out.on hb30);clear hb30)
   go_ret
   exact ⟨rfl,HB0.out.trans (D30.out.1.mono (by omega))⟩
 rw [hnq] at NXQ
 have HNQ:=Lh hnq
 have H12:=Lh (show L.length≤12 by omega)
 have H60:=Lh (show fl.length≤60 by omega)
 clear hnq h12 h60
 go_enter Tryz.func4,Tryz.ntmps4
 go_wp2_with fail
 try rw [hW0]
 obtain ⟨d0,d1,dl⟩:=HPC.out _ D0.out
 go_cut [45] from 28 to 45 (fun c wx=>c=.bool false∧Hid (Bx (w.heap.size+1) W0 wx))
 case first =>
  go_region_with (first
   | (go_at_call 8;(with_reducible refine (LQ.out _ D0.out).mono ?_);rintro e w2 ⟨rfl,hb2⟩;have D2:=Lh (D0.out.on hb2);clear d0 d1 dl;obtain ⟨d0,d1,dl⟩:=HPC.out _ D2.out;clear hb2)
   | (go_at_call 24;(with_reducible refine (CO.out w2).mono ?_);rintro e w3 ⟨ao3,rfl,hC3,hb3⟩;have O3:=Lh (z1e hC3);have D3:=Lh (D2.out.on hb3);clear d0 d1 dl;obtain ⟨d0,d1,dl⟩:=HPC.out _ D3.out;clear hC3 hb3)
   | (go_at_call 23;(with_reducible refine (NXQ.out w3 ao3 O3.out D3.out).mono ?_);rintro e w4 ⟨rfl,hb4⟩;have D4:=Lh (D3.out.on hb4);clear d0 d1 dl;obtain ⟨d0,d1,dl⟩:=HPC.out _ D4.out;clear hb4))
  all_goals
   clear d0 d1 dl
   go_wp2_with fail
   go_meet
   exact ⟨rfl,D4⟩
 case rest =>
  obtain ⟨rfl,HX0⟩:=hcut
  clear d0 d1 dl D0 LQ NXQ b12 b60
  have ND:=Lh (fun (F:Nat→Prop) (W:World) (ao:Option Addr) (h:CG F W (.slice ao 2 2) oL)=>show CL W ao oL∧(ao=none→2=0) from ⟨z1e h,by
   obtain ⟨a2,c2,hv,h2,_⟩:=h
   obtain ⟨rfl,_,rfl⟩:=Value.slice.inj hv
   exact h2⟩)
  have CM:=Lh (fun ao w hC=>made18 HS ao 100 w hC ⟨by decide,by decide⟩ (txtK L))
  go_wp2_with (first
   | (go_at_call 25;refine (CM.out ao5 w5 C5.out).mono ?_;rintro e w6 ⟨b,nb,p,h6,rfl,hr,hs,hb⟩;have R6:=Lh hr;have S6:=Lh (hs.less (fun k hk=>Nat.lt_of_lt_of_le hk D5.out.2));have D6:=Lh (D5.out.on hb);clear hr hs hb)
   | (go_at_call 24;refine (CO.out wc).mono ?_;rintro e w5 ⟨ao5,rfl,hC,hb⟩;have D5:=Lh (HX0.out.on hb);have C5:=Lh (z1e hC);clear hC hb))
  clear CM D5 C5 HX0
  go_loopw [10] (fun i wr=>∃ (k:Nat) (h:Hd),i=.int .i64 k∧k≤L.length∧Hid (∀ j (hj:j < L.length),j < k→L[j].size≤500)∧Hid (RecN 0 oL h.n k (txtK L))∧Hid (Solo (HG b nb) (fun k=>k < (w.heap.size+1)) wr h)∧Hid (Bx (w.heap.size+1) W0 wr)) (fun i _=>L.length - (intOf i).toNat)
  case atStart=>exact ⟨0,h6,rfl,Nat.zero_le _,Lh (fun j _ hj=>absurd hj (Nat.not_lt_zero j)),R6,S6,D6⟩
  case round =>
   clear R6 S6 D6
   obtain ⟨k,h,rfl,hk,H5,HRN,HT,HD⟩:=hrel
   by_cases hlt:k < L.length
   ·obtain ⟨bk,off,hao,c0⟩:=HF.out _ HD.out k hlt
    subst hao
    have hbk:=block_lt_of_cell c0
    have k0:(k:Int) < (L.length:Int):=by omega
    have k1:(0:Int)≤(k:Int):=by omega
    by_cases h500:500 < L[k].size
    ·have h5:(500:Int) < (L[k].size:Int):=by omega
     clear h500
     generalize L[k]=r at *
     go_wp2_with (go_at_call 9;refine (CW.out _).mono ?_;rintro e w30 ⟨rfl,hb30⟩;have D30:=Lh (HD.out.on hb30);clear hb30)
     go_ret
     exact ⟨rfl,HB0.out.trans (D30.out.1.mono (by omega))⟩
    ·have h5:¬ (500:Int) < (L[k].size:Int):=by omega
     have HH5:=Lh (show ∀ j (hj:j < L.length),j < k+1→L[j].size≤500 from fun j hj hjk=>by
      by_cases e:j=k
      ·subst e;omega
      ·exact H5.out j hj (by omega))
     have HTX:=Lh (txtK_at hlt)
     have H500:=Lh (show L[k].size≤500 from by omega)
     have H4096:=Lh (txtK_size hlt H500.out)
     have hk14:k < 14:=by have:=H12.out;omega
     have CP:=Lh (fun W hs ao hC hn=>put_rec HS AS b nb (fun k=>k < (w.heap.size+1)) W h hs 0 oL k (txtK L) HRN.out hk14 _ HTX.out (by have g:=H4096.out;rw [HTX.out] at g;exact g) ao 2 rfl hC hn)
     clear h500 hk14
     generalize L[k]=r at *
     have u8:IntKind.u8.wrap (k:Int)=(k:Int):=u8K k (by have:=H12.out;omega)
     have hcv:(convert 57 9 (.slice (some ⟨wr.heap.size,0,none⟩) 1 1)).run Tryz.prog (wr.alloc (.cells #[.int .u8 (k:Int)] 5)).drew=.ok (.string (strOfNums [(k:Int)])) (wr.alloc (.cells #[.int .u8 (k:Int)] 5)).drew:=convK k wr.drew
     have hcc:¬ 9223372036854775807 < (strOfNums [(k:Int)]).size+r.size:=by
      rw [show (strOfNums [(k:Int)]).size=1 from rfl]
      have:=H500.out
      omega
     go_wp2_with fail
     go_region_law (first
      | (go_simp;go_at_call 26;refine (CP.out _ (HT.out.below (TT.out b nb) (show Below wr.heap.size wr _ from by first | exact B7.out | exact B7.out.trans ((z00 w7 _).mono B7.out.size))) ao7 (by first | exact C7.out | exact C7.out.below (z00 w7 _)) N7.out).mono ?_;rintro e w8 ⟨rfl,h8,hr,hs,hk8⟩;have R8:=Lh hr;have S8:=Lh hs;have D8:=Lh ((HD.out.on (show Below wr.heap.size wr _ from by first | exact B7.out | exact B7.out.trans ((z00 w7 _).mono B7.out.size))).kept hk8 (fun k h=>h));clear hr hs hk8)
      | (go_simp;go_at_call 24;refine (CO.out _).mono ?_;rintro e w7 ⟨ao7,rfl,hC,hb⟩;have B7:=Lh (show Below wr.heap.size wr w7 from z0c hb (by first | exact (Below.refl _ _).drew | exact (z00 _ _).drew | exact z00 _ _));have C7:=Lh (ND.out _ _ _ hC).1;have N7:=Lh (ND.out _ _ _ hC).2;have c7:=z0s B7.out hbk c0;have hbk7:=block_lt_of_cell c7;have hcv7:(convert 57 9 (.slice (some ⟨w7.heap.size,0,none⟩) 1 1)).run Tryz.prog (w7.alloc (.cells #[.int .u8 (k:Int)] 5))=.ok (.string (strOfNums [(k:Int)])) (w7.alloc (.cells #[.int .u8 (k:Int)] 5)):=convK k w7;first | (have hcv8:=convK2 k wr.heap.size w7 (z0s hb (lt_of_block (heap_alloc_new wr (.cells #[.int .u8 (k:Int)] 5))) (z02 (heap_alloc_new wr (.cells #[.int .u8 (k:Int)] 5)) 0))) | skip;clear hC hb))
     all_goals
      go_wp2_with fail
      exact ⟨⟨k+1,h8,by go_num,by omega,HH5,R8,S8,D8⟩,by simp [intOf];omega⟩
   ·obtain rfl:k=L.length:=by omega
    have k0:¬ (L.length:Int) < (L.length:Int):=by omega
    clear hlt hk
    have CU:=Lh (fun (ao:Option Addr) (W:World) (hC:CL W ao oL)=>show Calls Tryz.prog 27 #[.agg #[.int .i64 0,.slice ao 2 2]] W fun e w'=>∃ v,e=.returned v∧OI w' W.heap.size v (unitsR oL)∧Below W.heap.size W w' from z1h 0 ao 2 oL W hC ⟨by decide,by decide⟩)
    have CUQ:=Lh (fun (W:World) (hb:Bx (w.heap.size+1) W0 W)=>z1p qe qo qc qL W (CQ.out W hb) HFQ.out)
    have HUL:=Lh (show (unitsR qL).length≤1000000 from Nat.le_trans (units_few HFQ.out) (by decide))
    have HUU:=Lh (show ∀ i (hi:i < (unitsR oL).length),0≤(unitsR oL)[i]∧(unitsR oL)[i] < 16 from by decide +kernel)
    have HU5:=Lh (show (unitsR oL).length=5 by decide +kernel)
    obtain ⟨w7,hw7⟩:∃ w7,w7=wr:=⟨wr,rfl⟩
    subst hw7
    go_wp2_with (first
     | (go_at_call 27;refine (CU.out ao9 w9 C9.out).mono ?_;rintro e w10 ⟨v,rfl,hO,hb⟩;obtain ⟨lo,lc,rfl,_⟩:=hO.form;have O10:=Lh hO;have B10:=Lh (B9.out.trans (hb.mono B9.out.size));clear hO hb)
     | (go_at_call 24;refine (CO.out _).mono ?_;rintro e w9 ⟨ao9,rfl,hC,hb⟩;have B9:=Lh hb;have C9:=Lh (z1e hC);clear hC hb))
    have S10:=Lh (HT.out.wider (TT.out b nb) B10.out)
    have D10:=Lh (HD.out.on B10.out)
    have HOS:=Lh B9.out.size
    generalize unitsR oL=U at *
    have hUb:(U.length:Int)≤9223372036854775807:=by have:=HU5.out;omega
    obtain ⟨g,cp,hlo⟩:∃ g cp,Value.slice lo U.length lc=.slice (some ⟨g,0,none⟩) U.length cp:=by
     obtain ⟨g,cp,e,_⟩:=O10.out.spotK (k:=0) (by have:=HU5.out;omega)
     exact ⟨g,cp,e⟩
    injection hlo with hlo1 _ hlo2
    subst hlo1 hlo2
    have XX:=Lh (fun (k:Nat) (h:k < (w.heap.size+1))=>show (fun k=>k < (w.heap.size+1)∨(w7.heap.size≤k∧k < w10.heap.size)) k from .inl h)
    have HOK:=Lh (fun (W:World) (hk:Kept (fun k=>k < (w.heap.size+1)∨(w7.heap.size≤k∧k < w10.heap.size)) w10 W)=>(O10.out.keep hk (fun k h1 h2=>.inr ⟨Nat.le_trans HOS.out h1,h2⟩)))
    have F0:=Lh (Fell.refl h.n qL)
    clear CU C9 B9 HT
    go_loopw [12] (fun i wr=>∃ (k:Nat) (h1:Hd),i=.int .i64 k∧k≤U.length∧Hid (Fell h.n h1.n qL)∧Hid (Solo (HG b nb) (fun k=>k < (w.heap.size+1)∨(w7.heap.size≤k∧k < w10.heap.size)) wr h1)∧Hid (Kept (fun k=>k < (w.heap.size+1)∨(w7.heap.size≤k∧k < w10.heap.size)) w10 wr)) (fun i _=>U.length - (intOf i).toNat)
    case atStart=>exact ⟨0,h,rfl,Nat.zero_le _,F0,S10,Lh (Kept.refl _ _)⟩
    case round =>
     clear F0 S10
     obtain ⟨k,h1,rfl,hk,HF1,HT1,HK1⟩:=hrel
     have DW:=Lh (D10.out.kept HK1.out XX.out)
     obtain ⟨d0,d1,dl⟩:=HPC.out _ DW.out
     by_cases hlt:k < U.length
     ·have k0:(k:Int) < (U.length:Int):=by omega
      have k1:(0:Int)≤(k:Int):=by omega
      have cu:=(HOK.out _ HK1.out).cellAt hlt
      rw [Nat.zero_add] at cu
      have gl:=block_lt_of_cell cu
      have hu16:=HUU.out k hlt
      generalize U[k]=u at *
      obtain ⟨m,rfl⟩:∃ m:Nat,u=(m:Int):=⟨u.toNat,by omega⟩
      have hm:m < 16:=by omega
      have DR:=Lh DW.out.drew
      clear hu16
      cases hh:hasB (unitsR qL) (m:Int) with
      | true =>
       have HHS:=Lh hh
       clear hh
       go_wp2_with fail
       have S0:=Lh (show wr.cell? ⟨w.heap.size,0,none⟩=some (.int .i64 qe)∧wr.cell? ⟨w.heap.size,1,none⟩=some (.slice qo qL.length qc)∧wr.cell? ⟨g,k,none⟩=some (.int .i64 (m:Int)) from ⟨d0,d1,cu⟩)
       have S0d:=Lh (show wr.drew.cell? ⟨w.heap.size,0,none⟩=some (.int .i64 qe)∧wr.drew.cell? ⟨w.heap.size,1,none⟩=some (.slice qo qL.length qc)∧wr.drew.cell? ⟨g,k,none⟩=some (.int .i64 (m:Int)) from ⟨d0,d1,cu⟩)
       refine wp_region_held_drew (S:=(fun W=>W.cell? ⟨w.heap.size,0,none⟩=some (.int .i64 qe)∧W.cell? ⟨w.heap.size,1,none⟩=some (.slice qo qL.length qc)∧W.cell? ⟨g,k,none⟩=some (.int .i64 (m:Int)))) (by kernel_rfl) S0d.out (fun hHeld=>?_)
       refine wpAnyH_take (i:=0) (v:=?v17_1) rfl (by kernel_rfl) (by kernel_rfl) (by kernel_rfl) (fun _ _ _ h=>h) (Or.inl ⟨by rfl,?y17_1⟩) (by assumption) ?r17_1
       case y17_1 =>
        intro w hSw
        (try dsimp only at hSw)
        go_simp
        first | done | with_reducible rfl
       case r17_1 =>
        (try simp only [List.getElem_toArray,List.getElem_cons_zero,Act.put,List.setIfInBounds_toArray,List.set_cons_zero,List.set_cons_succ])
        refine wpAnyH_take (i:=2) (v:=?v17_2) rfl (by kernel_rfl) (by kernel_rfl) (by kernel_rfl) (fun _ _ _ h=>h) (Or.inl ⟨by rfl,?y17_2⟩) (by assumption) ?r17_2
        case y17_2 =>
         intro w hSw
         (try dsimp only at hSw)
         go_simp
         first | done | with_reducible rfl
        case r17_2 =>
         (try simp only [List.getElem_toArray,List.getElem_cons_zero,List.getElem_cons_succ,Act.put,List.setIfInBounds_toArray,List.set_cons_zero,List.set_cons_succ])
         refine wpAnyH_take (i:=3) (v:=?v17_3) rfl (by kernel_rfl) (by kernel_rfl) (by kernel_rfl) (fun _ _ _ h=>h) (Or.inl ⟨by rfl,?y17_3⟩) (by assumption) ?r17_3
         case y17_3 =>
          intro w hSw
          (try dsimp only at hSw)
          go_simp
          first | done | with_reducible rfl
         case r17_3 =>
          (try simp only [List.getElem_toArray,List.getElem_cons_zero,List.getElem_cons_succ,Act.put,List.setIfInBounds_toArray,List.set_cons_zero,List.set_cons_succ])
          refine wpAnyH_take (i:=4) (v:=?v17_4) rfl (by kernel_rfl) (by kernel_rfl) (by kernel_rfl) (fun _ _ _ h=>h) (Or.inl ⟨by rfl,?y17_4⟩) (by assumption) ?r17_4
          case y17_4 =>
           intro w hSw
           (try dsimp only at hSw)
           go_simp
           first | done | with_reducible rfl
          case r17_4 =>
           (try simp only [List.getElem_toArray,List.getElem_cons_zero,List.getElem_cons_succ,Act.put,List.setIfInBounds_toArray,List.set_cons_zero,List.set_cons_succ])
           refine wpAnyH_take (i:=5) (v:=?v17_5) rfl (by kernel_rfl) (by kernel_rfl) (by kernel_rfl) (fun _ _ _ h=>h) (Or.inl ⟨by rfl,?y17_5⟩) (by assumption) ?r17_5
           case y17_5 =>
            intro w hSw
            (try dsimp only at hSw)
            go_simp
            first | done | with_reducible rfl
           case r17_5 =>
            (try simp only [List.getElem_toArray,List.getElem_cons_zero,List.getElem_cons_succ,Act.put,List.setIfInBounds_toArray,List.set_cons_zero,List.set_cons_succ])
            refine wpAnyH_ready (rs:=[1]) (by kernel_rfl) (by simp) (AllReadyH.cons rfl (fun K17_6 hK17_6=>?_) AllReadyH.nil)
            go_simp
            go_at_call 27;refine (CUQ.out _ DR.out).mono ?_;rintro e w11 ⟨bo,cb,rfl,hN,hb⟩;have N11:=Lh hN;have B11:=Lh (z0c (w1:=wr) hb (Below.refl _ _).drew);have x11:=z0s B11.out gl cu;have gl11:=block_lt_of_cell x11;have S11:=Lh (show w11.cell? ⟨w.heap.size,0,none⟩=some (.int .i64 qe)∧w11.cell? ⟨w.heap.size,1,none⟩=some (.slice qo qL.length qc)∧w11.cell? ⟨g,k,none⟩=some (.int .i64 (m:Int)) from ⟨z0s B11.out dl d0,z0s B11.out dl d1,z0s B11.out gl cu⟩);clear hN hb
            refine hK17_6.out _ _ S11.out (fun hHeld6=>?_)
            clear hK17_6 K17_6
            (try simp only [List.getElem_toArray,List.getElem_cons_zero,List.getElem_cons_succ,Act.put,List.setIfInBounds_toArray,List.set_cons_zero,List.set_cons_succ])
            refine wpAnyH_ready (rs:=[6]) (by kernel_rfl) (by simp) (AllReadyH.cons rfl (fun K17_7 hK17_7=>?_) AllReadyH.nil)
            go_simp
            go_at_call 28;with_reducible refine (z17 (unitsR qL) (m:Int) bo cb w11 N11.out HUL.out).mono ?_;rw [HHS.out];rintro e w12 ⟨rfl,rfl⟩
            refine hK17_7.out _ _ S11.out (fun hHeld7=>?_)
            clear hK17_7 K17_7
            (try simp only [List.getElem_toArray,List.getElem_cons_zero,List.getElem_cons_succ,Act.put,List.setIfInBounds_toArray,List.set_cons_zero,List.set_cons_succ])
            refine wpAnyH_take (i:=7) (v:=?v17_8) rfl (by kernel_rfl) (by kernel_rfl) (by kernel_rfl) (fun _ _ _ h=>h) (Or.inl ⟨by rfl,?y17_8⟩) (by assumption) ?r17_8
            case y17_8 =>
             intro w hSw
             (try dsimp only at hSw)
             go_simp
             first | done | with_reducible rfl
            case r17_8 =>
             (try simp only [List.getElem_toArray,List.getElem_cons_zero,List.getElem_cons_succ,Act.put,List.setIfInBounds_toArray,List.set_cons_zero,List.set_cons_succ])
             refine wpAnyH_take (i:=8) (v:=?v17_9) rfl (by kernel_rfl) (by kernel_rfl) (by kernel_rfl) (fun _ _ _ h=>h) (Or.inl ⟨by rfl,?y17_9⟩) (by assumption) ?r17_9
             case y17_9 =>
              intro w hSw
              (try dsimp only at hSw)
              go_simp
              first | done | with_reducible rfl
             case r17_9 =>
              (try simp only [List.getElem_toArray,List.getElem_cons_zero,List.getElem_cons_succ,Act.put,List.setIfInBounds_toArray,List.set_cons_zero,List.set_cons_succ])
              refine wpAnyH_take (i:=9) (v:=undef) rfl (by kernel_rfl) (by kernel_rfl) (by kernel_rfl) (fun _ _ _ h=>h) (Or.inr ⟨by rfl,rfl⟩) (by assumption) ?_
              (try simp only [List.getElem_toArray,List.getElem_cons_zero,List.getElem_cons_succ,Act.put,List.setIfInBounds_toArray,List.set_cons_zero,List.set_cons_succ])
              refine wpAnyH_take (i:=10) (v:=undef) rfl (by kernel_rfl) (by kernel_rfl) (by kernel_rfl) (fun _ _ _ h=>h) (Or.inr ⟨by rfl,rfl⟩) (by assumption) ?_
              (try simp only [List.getElem_toArray,List.getElem_cons_zero,List.getElem_cons_succ,Act.put,List.setIfInBounds_toArray,List.set_cons_zero,List.set_cons_succ])
              refine wpAnyH_ready (rs:=[11]) (by kernel_rfl) (by simp) (AllReadyH.cons rfl (fun K17_10 hK17_10=>?_) AllReadyH.nil)
              rw [if_neg (Bool.eq_false_iff.1 (by rfl))]
              refine hK17_10.out _ _ S11.out (fun hHeld10=>?_)
              clear hK17_10 K17_10
              (try simp only [List.getElem_toArray,List.getElem_cons_zero,List.getElem_cons_succ,Act.put,List.setIfInBounds_toArray,List.set_cons_zero,List.set_cons_succ])
              refine wpAnyH_take (i:=12) (v:=undef) rfl (by kernel_rfl) (by kernel_rfl) (by kernel_rfl) (fun _ _ _ h=>h) (Or.inr ⟨by rfl,rfl⟩) (by assumption) ?_
              (try simp only [List.getElem_toArray,List.getElem_cons_zero,List.getElem_cons_succ,Act.put,List.setIfInBounds_toArray,List.set_cons_zero,List.set_cons_succ])
              refine wpAnyH_take (i:=13) (v:=?v17_11) rfl (by kernel_rfl) (by kernel_rfl) (by kernel_rfl) (fun _ _ _ h=>h) (Or.inl ⟨by rfl,?y17_11⟩) (by assumption) ?r17_11
              case y17_11 =>
               intro w hSw
               (try dsimp only at hSw)
               go_simp
               first | done | with_reducible rfl
              case r17_11 =>
               (try simp only [List.getElem_toArray,List.getElem_cons_zero,List.getElem_cons_succ,Act.put,List.setIfInBounds_toArray,List.set_cons_zero,List.set_cons_succ])
               refine wpAnyH_take (i:=14) (v:=?v17_12) rfl (by kernel_rfl) (by kernel_rfl) (by kernel_rfl) (fun _ _ _ h=>h) (Or.inl ⟨by rfl,?y17_12⟩) (by assumption) ?r17_12
               case y17_12 =>
                intro w hSw
                (try dsimp only at hSw)
                go_simp
                first | done | with_reducible rfl
               case r17_12 =>
                (try simp only [List.getElem_toArray,List.getElem_cons_zero,List.getElem_cons_succ,Act.put,List.setIfInBounds_toArray,List.set_cons_zero,List.set_cons_succ])
                refine wpAnyH_take (i:=15) (v:=undef) rfl (by kernel_rfl) (by kernel_rfl) (by kernel_rfl) (fun _ _ _ h=>h) (Or.inr ⟨by rfl,rfl⟩) (by assumption) ?_
                (try simp only [List.getElem_toArray,List.getElem_cons_zero,List.getElem_cons_succ,Act.put,List.setIfInBounds_toArray,List.set_cons_zero,List.set_cons_succ])
                refine wpAnyH_take (i:=16) (v:=undef) rfl (by kernel_rfl) (by kernel_rfl) (by kernel_rfl) (fun _ _ _ h=>h) (Or.inr ⟨by rfl,rfl⟩) (by assumption) ?_
                (try simp only [List.getElem_toArray,List.getElem_cons_zero,List.getElem_cons_succ,Act.put,List.setIfInBounds_toArray,List.set_cons_zero,List.set_cons_succ])
                refine wpAnyH_take (i:=17) (v:=undef) rfl (by kernel_rfl) (by kernel_rfl) (by kernel_rfl) (fun _ _ _ h=>h) (Or.inr ⟨by rfl,rfl⟩) (by assumption) ?_
                (try simp only [List.getElem_toArray,List.getElem_cons_zero,List.getElem_cons_succ,Act.put,List.setIfInBounds_toArray,List.set_cons_zero,List.set_cons_succ])
                refine wpAnyH_take (i:=18) (v:=undef) rfl (by kernel_rfl) (by kernel_rfl) (by kernel_rfl) (fun _ _ _ h=>h) (Or.inr ⟨by rfl,rfl⟩) (by assumption) ?_
                (try simp only [List.getElem_toArray,List.getElem_cons_zero,List.getElem_cons_succ,Act.put,List.setIfInBounds_toArray,List.set_cons_zero,List.set_cons_succ])
                refine wpAnyH_take (i:=19) (v:=undef) rfl (by kernel_rfl) (by kernel_rfl) (by kernel_rfl) (fun _ _ _ h=>h) (Or.inr ⟨by rfl,rfl⟩) (by assumption) ?_
                (try simp only [List.getElem_toArray,List.getElem_cons_zero,List.getElem_cons_succ,Act.put,List.setIfInBounds_toArray,List.set_cons_zero,List.set_cons_succ])
                refine wpAnyH_take (i:=20) (v:=undef) rfl (by kernel_rfl) (by kernel_rfl) (by kernel_rfl) (fun _ _ _ h=>h) (Or.inr ⟨by rfl,rfl⟩) (by assumption) ?_
                (try simp only [List.getElem_toArray,List.getElem_cons_zero,List.getElem_cons_succ,Act.put,List.setIfInBounds_toArray,List.set_cons_zero,List.set_cons_succ])
                refine wpAnyH_take (i:=21) (v:=?v17_13) rfl (by kernel_rfl) (by kernel_rfl) (by kernel_rfl) (fun _ _ _ h=>h) (Or.inl ⟨by rfl,?y17_13⟩) (by assumption) ?r17_13
                case y17_13 =>
                 intro w hSw
                 (try dsimp only at hSw)
                 go_simp
                 first | done | with_reducible rfl
                case r17_13 =>
                 (try simp only [List.getElem_toArray,List.getElem_cons_zero,List.getElem_cons_succ,Act.put,List.setIfInBounds_toArray,List.set_cons_zero,List.set_cons_succ])
                 refine wpAnyH_done (by kernel_rfl) ?_ _
                 go_wp2_with fail
                 exact ⟨⟨k+1,h1,by go_num,by omega,HF1,Lh (HT1.out.below (TT.out b nb) B11.out),Lh (HK1.out.below B11.out)⟩,by simp [intOf];omega⟩
      | false =>
       have HHS:=Lh hh
       have HNI:=Lh (show (m:Int) ∉ unitsR qL from of_decide_eq_false hh)
       clear hh
       by_cases hf:k < fl.length
       ·have f0:(k:Int) < (fl.length:Int):=by omega
        obtain ⟨bf,of,hfo,cf⟩:=byte_at (HR.out _ DW.out) hf
        have fl_:=block_lt_of_cell cf
        have hv:=HK.out _ (List.getElem_mem hf)
        generalize fl[k]=v at *
        subst hfo
        obtain ⟨v0,v1⟩:=hv
        by_cases h1m:v.tmod 2=1
        ·have e1m:(v.tmod 2 == 1)=true:=by simpa using h1m
         clear h1m
         go_wp2_with fail
         have S0:=Lh (show wr.cell? ⟨w.heap.size,0,none⟩=some (.int .i64 qe)∧wr.cell? ⟨w.heap.size,1,none⟩=some (.slice qo qL.length qc)∧wr.cell? ⟨g,k,none⟩=some (.int .i64 (m:Int))∧wr.cell? ⟨bf,of+k,none⟩=some (.int .u8 v) from ⟨d0,d1,cu,cf⟩)
         have S0d:=Lh (show wr.drew.cell? ⟨w.heap.size,0,none⟩=some (.int .i64 qe)∧wr.drew.cell? ⟨w.heap.size,1,none⟩=some (.slice qo qL.length qc)∧wr.drew.cell? ⟨g,k,none⟩=some (.int .i64 (m:Int))∧wr.drew.cell? ⟨bf,of+k,none⟩=some (.int .u8 v) from ⟨d0,d1,cu,cf⟩)
         go_region_held3 (fun W=>W.cell? ⟨w.heap.size,0,none⟩=some (.int .i64 qe)∧W.cell? ⟨w.heap.size,1,none⟩=some (.slice qo qL.length qc)∧W.cell? ⟨g,k,none⟩=some (.int .i64 (m:Int))∧W.cell? ⟨bf,of+k,none⟩=some (.int .u8 v))
           (first | exact S0.out | exact S0d.out | exact S11.out | assumption)
           (first
           | (go_at_call 27;refine (CUQ.out _ DR.out).mono ?_;rintro e w11 ⟨bo,cb,rfl,hN,hb⟩;have N11:=Lh hN;have B11:=Lh (z0c (w1:=wr) hb (Below.refl _ _).drew);have x11:=z0s B11.out gl cu;have gl11:=block_lt_of_cell x11;have y11:=z0s B11.out fl_ cf;have fl11:=block_lt_of_cell y11;have S11:=Lh (show w11.cell? ⟨w.heap.size,0,none⟩=some (.int .i64 qe)∧w11.cell? ⟨w.heap.size,1,none⟩=some (.slice qo qL.length qc)∧w11.cell? ⟨g,k,none⟩=some (.int .i64 (m:Int))∧w11.cell? ⟨bf,of+k,none⟩=some (.int .u8 v) from ⟨z0s B11.out dl d0,z0s B11.out dl d1,z0s B11.out gl cu,z0s B11.out fl_ cf⟩);clear hN hb)
           | (go_at_call 28;with_reducible refine (z17 (unitsR qL) (m:Int) bo cb w11 N11.out HUL.out).mono ?_;rw [HHS.out];rintro e w12 ⟨rfl,rfl⟩))
         all_goals
          go_wp2_with fail
          have S11:=Lh (HT1.out.below (TT.out b nb) B11.out)
          have K11:=Lh (HK1.out.below B11.out)
          go_region_with (first
           | (go_at_call 29;refine (ho_nodes HS (S11.out.below (TT.out b nb) (Below.refl _ _).drew)).mono ?_;rintro e w13 ⟨rfl,hs,hb⟩;have S13:=Lh hs;have B13:=Lh (z0c (w1:=w11) hb (Below.refl _ _).drew);have x13:=z0s B13.out gl11 x11;have gl13:=block_lt_of_cell x13;clear hs hb)
           | (go_at_call 30;refine (ho_unitX HS S13.out (i:=m) hm).mono ?_;rintro e w14 ⟨bu,pb,rfl,hb,F,hu,hW⟩;have U14:=Lh hu;have W14:=Lh hW;have B14:=Lh (B13.out.trans (hb.mono B13.out.size));have x14:=z0s hb gl13 x13;have gl14:=block_lt_of_cell x14;clear hu hW hb)
           | (go_at_call 31;refine (HS.rpc.units.crash bu pb F w14 _ U14.out).mono ?_;rintro e w15 ⟨rfl,hl⟩;have S15:=Lh (W14.out _ _ hl).1;have K15:=Lh (((HK1.out.below B11.out).below B14.out).trans (W14.out _ _ hl).2);clear hl))
          all_goals
           go_wp2_with fail
           exact ⟨⟨k+1,_,by go_num,by omega,Lh (HF1.out.crash HNI.out),S15,K15⟩,by simp [intOf];omega⟩
        ·have e1m:(v.tmod 2 == 1)=false:=by simpa using h1m
         clear h1m
         go_wp2_with fail
         have S0:=Lh (show wr.cell? ⟨w.heap.size,0,none⟩=some (.int .i64 qe)∧wr.cell? ⟨w.heap.size,1,none⟩=some (.slice qo qL.length qc)∧wr.cell? ⟨g,k,none⟩=some (.int .i64 (m:Int))∧wr.cell? ⟨bf,of+k,none⟩=some (.int .u8 v) from ⟨d0,d1,cu,cf⟩)
         have S0d:=Lh (show wr.drew.cell? ⟨w.heap.size,0,none⟩=some (.int .i64 qe)∧wr.drew.cell? ⟨w.heap.size,1,none⟩=some (.slice qo qL.length qc)∧wr.drew.cell? ⟨g,k,none⟩=some (.int .i64 (m:Int))∧wr.drew.cell? ⟨bf,of+k,none⟩=some (.int .u8 v) from ⟨d0,d1,cu,cf⟩)
         go_region_held3 (fun W=>W.cell? ⟨w.heap.size,0,none⟩=some (.int .i64 qe)∧W.cell? ⟨w.heap.size,1,none⟩=some (.slice qo qL.length qc)∧W.cell? ⟨g,k,none⟩=some (.int .i64 (m:Int))∧W.cell? ⟨bf,of+k,none⟩=some (.int .u8 v))
           (first | exact S0.out | exact S0d.out | exact S11.out | assumption)
           (first
           | (go_at_call 27;refine (CUQ.out _ DR.out).mono ?_;rintro e w11 ⟨bo,cb,rfl,hN,hb⟩;have N11:=Lh hN;have B11:=Lh (z0c (w1:=wr) hb (Below.refl _ _).drew);have x11:=z0s B11.out gl cu;have gl11:=block_lt_of_cell x11;have y11:=z0s B11.out fl_ cf;have fl11:=block_lt_of_cell y11;have S11:=Lh (show w11.cell? ⟨w.heap.size,0,none⟩=some (.int .i64 qe)∧w11.cell? ⟨w.heap.size,1,none⟩=some (.slice qo qL.length qc)∧w11.cell? ⟨g,k,none⟩=some (.int .i64 (m:Int))∧w11.cell? ⟨bf,of+k,none⟩=some (.int .u8 v) from ⟨z0s B11.out dl d0,z0s B11.out dl d1,z0s B11.out gl cu,z0s B11.out fl_ cf⟩);clear hN hb)
           | (go_at_call 28;with_reducible refine (z17 (unitsR qL) (m:Int) bo cb w11 N11.out HUL.out).mono ?_;rw [HHS.out];rintro e w12 ⟨rfl,rfl⟩))
         all_goals
          go_wp2_with fail
          exact ⟨⟨k+1,h1,by go_num,by omega,HF1,Lh (HT1.out.below (TT.out b nb) B11.out),Lh (HK1.out.below B11.out)⟩,by simp [intOf];omega⟩
       ·have f0:¬ (k:Int) < (fl.length:Int):=by omega
        have f0b:decide ((k:Int) < (fl.length:Int))=false:=decide_eq_false f0
        go_wp2_with fail
        have S0:=Lh (show wr.cell? ⟨w.heap.size,0,none⟩=some (.int .i64 qe)∧wr.cell? ⟨w.heap.size,1,none⟩=some (.slice qo qL.length qc)∧wr.cell? ⟨g,k,none⟩=some (.int .i64 (m:Int)) from ⟨d0,d1,cu⟩)
        have S0d:=Lh (show wr.drew.cell? ⟨w.heap.size,0,none⟩=some (.int .i64 qe)∧wr.drew.cell? ⟨w.heap.size,1,none⟩=some (.slice qo qL.length qc)∧wr.drew.cell? ⟨g,k,none⟩=some (.int .i64 (m:Int)) from ⟨d0,d1,cu⟩)
        refine wp_region_held_drew (S:=(fun W=>W.cell? ⟨w.heap.size,0,none⟩=some (.int .i64 qe)∧W.cell? ⟨w.heap.size,1,none⟩=some (.slice qo qL.length qc)∧W.cell? ⟨g,k,none⟩=some (.int .i64 (m:Int)))) (by kernel_rfl) S0d.out (fun hHeld=>?_)
        refine wpAnyH_take (i:=0) (v:=?v17_14) rfl (by kernel_rfl) (by kernel_rfl) (by kernel_rfl) (fun _ _ _ h=>h) (Or.inl ⟨by rfl,?y17_14⟩) (by assumption) ?r17_14
        case y17_14 =>
         intro w hSw
         (try dsimp only at hSw)
         go_simp
         first | done | with_reducible rfl
        case r17_14 =>
         (try simp only [List.getElem_toArray,List.getElem_cons_zero,Act.put,List.setIfInBounds_toArray,List.set_cons_zero,List.set_cons_succ])
         refine wpAnyH_take (i:=2) (v:=?v17_15) rfl (by kernel_rfl) (by kernel_rfl) (by kernel_rfl) (fun _ _ _ h=>h) (Or.inl ⟨by rfl,?y17_15⟩) (by assumption) ?r17_15
         case y17_15 =>
          intro w hSw
          (try dsimp only at hSw)
          go_simp
          first | done | with_reducible rfl
         case r17_15 =>
          (try simp only [List.getElem_toArray,List.getElem_cons_zero,List.getElem_cons_succ,Act.put,List.setIfInBounds_toArray,List.set_cons_zero,List.set_cons_succ])
          refine wpAnyH_take (i:=3) (v:=?v17_16) rfl (by kernel_rfl) (by kernel_rfl) (by kernel_rfl) (fun _ _ _ h=>h) (Or.inl ⟨by rfl,?y17_16⟩) (by assumption) ?r17_16
          case y17_16 =>
           intro w hSw
           (try dsimp only at hSw)
           go_simp
           first | done | with_reducible rfl
          case r17_16 =>
           (try simp only [List.getElem_toArray,List.getElem_cons_zero,List.getElem_cons_succ,Act.put,List.setIfInBounds_toArray,List.set_cons_zero,List.set_cons_succ])
           refine wpAnyH_take (i:=4) (v:=?v17_17) rfl (by kernel_rfl) (by kernel_rfl) (by kernel_rfl) (fun _ _ _ h=>h) (Or.inl ⟨by rfl,?y17_17⟩) (by assumption) ?r17_17
           case y17_17 =>
            intro w hSw
            (try dsimp only at hSw)
            go_simp
            first | done | with_reducible rfl
           case r17_17 =>
            (try simp only [List.getElem_toArray,List.getElem_cons_zero,List.getElem_cons_succ,Act.put,List.setIfInBounds_toArray,List.set_cons_zero,List.set_cons_succ])
            refine wpAnyH_take (i:=5) (v:=?v17_18) rfl (by kernel_rfl) (by kernel_rfl) (by kernel_rfl) (fun _ _ _ h=>h) (Or.inl ⟨by rfl,?y17_18⟩) (by assumption) ?r17_18
            case y17_18 =>
             intro w hSw
             (try dsimp only at hSw)
             go_simp
             first | done | with_reducible rfl
            case r17_18 =>
             (try simp only [List.getElem_toArray,List.getElem_cons_zero,List.getElem_cons_succ,Act.put,List.setIfInBounds_toArray,List.set_cons_zero,List.set_cons_succ])
             refine wpAnyH_ready (rs:=[1]) (by kernel_rfl) (by simp) (AllReadyH.cons rfl (fun K17_19 hK17_19=>?_) AllReadyH.nil)
             go_simp
             go_at_call 27;refine (CUQ.out _ DR.out).mono ?_;rintro e w11 ⟨bo,cb,rfl,hN,hb⟩;have N11:=Lh hN;have B11:=Lh (z0c (w1:=wr) hb (Below.refl _ _).drew);have x11:=z0s B11.out gl cu;have gl11:=block_lt_of_cell x11;have S11:=Lh (show w11.cell? ⟨w.heap.size,0,none⟩=some (.int .i64 qe)∧w11.cell? ⟨w.heap.size,1,none⟩=some (.slice qo qL.length qc)∧w11.cell? ⟨g,k,none⟩=some (.int .i64 (m:Int)) from ⟨z0s B11.out dl d0,z0s B11.out dl d1,z0s B11.out gl cu⟩);clear hN hb
             refine hK17_19.out _ _ S11.out (fun hHeld19=>?_)
             clear hK17_19 K17_19
             (try simp only [List.getElem_toArray,List.getElem_cons_zero,List.getElem_cons_succ,Act.put,List.setIfInBounds_toArray,List.set_cons_zero,List.set_cons_succ])
             refine wpAnyH_ready (rs:=[6]) (by kernel_rfl) (by simp) (AllReadyH.cons rfl (fun K17_20 hK17_20=>?_) AllReadyH.nil)
             go_simp
             go_at_call 28;with_reducible refine (z17 (unitsR qL) (m:Int) bo cb w11 N11.out HUL.out).mono ?_;rw [HHS.out];rintro e w12 ⟨rfl,rfl⟩
             refine hK17_20.out _ _ S11.out (fun hHeld20=>?_)
             clear hK17_20 K17_20
             (try simp only [List.getElem_toArray,List.getElem_cons_zero,List.getElem_cons_succ,Act.put,List.setIfInBounds_toArray,List.set_cons_zero,List.set_cons_succ])
             refine wpAnyH_take (i:=7) (v:=?v17_21) rfl (by kernel_rfl) (by kernel_rfl) (by kernel_rfl) (fun _ _ _ h=>h) (Or.inl ⟨by rfl,?y17_21⟩) (by assumption) ?r17_21
             case y17_21 =>
              intro w hSw
              (try dsimp only at hSw)
              go_simp
              first | done | with_reducible rfl
             case r17_21 =>
              (try simp only [List.getElem_toArray,List.getElem_cons_zero,List.getElem_cons_succ,Act.put,List.setIfInBounds_toArray,List.set_cons_zero,List.set_cons_succ])
              refine wpAnyH_take (i:=8) (v:=?v17_22) rfl (by kernel_rfl) (by kernel_rfl) (by kernel_rfl) (fun _ _ _ h=>h) (Or.inl ⟨by rfl,?y17_22⟩) (by assumption) ?r17_22
              case y17_22 =>
               intro w hSw
               (try dsimp only at hSw)
               go_simp
               first | done | with_reducible rfl
              case r17_22 =>
               (try simp only [List.getElem_toArray,List.getElem_cons_zero,List.getElem_cons_succ,Act.put,List.setIfInBounds_toArray,List.set_cons_zero,List.set_cons_succ])
               refine wpAnyH_take (i:=9) (v:=?v17_23) rfl (by kernel_rfl) (by kernel_rfl) (by kernel_rfl) (fun _ _ _ h=>h) (Or.inl ⟨by rfl,?y17_23⟩) (by assumption) ?r17_23
               case y17_23 =>
                intro w hSw
                (try dsimp only at hSw)
                go_simp
                first | done | with_reducible rfl
               case r17_23 =>
                (try simp only [List.getElem_toArray,List.getElem_cons_zero,List.getElem_cons_succ,Act.put,List.setIfInBounds_toArray,List.set_cons_zero,List.set_cons_succ])
                refine wpAnyH_take (i:=10) (v:=?v17_24) rfl (by kernel_rfl) (by kernel_rfl) (by kernel_rfl) (fun _ _ _ h=>h) (Or.inl ⟨by rfl,?y17_24⟩) (by assumption) ?r17_24
                case y17_24 =>
                 intro w hSw
                 (try dsimp only at hSw)
                 go_simp
                 first | done | with_reducible rfl
                case r17_24 =>
                 (try simp only [List.getElem_toArray,List.getElem_cons_zero,List.getElem_cons_succ,Act.put,List.setIfInBounds_toArray,List.set_cons_zero,List.set_cons_succ])
                 refine wpAnyH_ready (rs:=[11]) (by kernel_rfl) (by simp) (AllReadyH.cons rfl (fun K17_25 hK17_25=>?_) AllReadyH.nil)
                 go_simp
                 skip
                 refine hK17_25.out _ _ S11.out (fun hHeld25=>?_)
                 clear hK17_25 K17_25
                 (try simp only [List.getElem_toArray,List.getElem_cons_zero,List.getElem_cons_succ,Act.put,List.setIfInBounds_toArray,List.set_cons_zero,List.set_cons_succ])
                 refine wpAnyH_take (i:=12) (v:=?v17_26) rfl (by kernel_rfl) (by kernel_rfl) (by kernel_rfl) (fun _ _ _ h=>h) (Or.inl ⟨by rfl,?y17_26⟩) (by assumption) ?r17_26
                 case y17_26 =>
                  intro w hSw
                  (try dsimp only at hSw)
                  go_simp
                  first | done | with_reducible rfl
                 case r17_26 =>
                  (try simp only [List.getElem_toArray,List.getElem_cons_zero,List.getElem_cons_succ,Act.put,List.setIfInBounds_toArray,List.set_cons_zero,List.set_cons_succ])
                  refine wpAnyH_take (i:=13) (v:=?v17_27) rfl (by kernel_rfl) (by kernel_rfl) (by kernel_rfl) (fun _ _ _ h=>h) (Or.inl ⟨by rfl,?y17_27⟩) (by assumption) ?r17_27
                  case y17_27 =>
                   intro w hSw
                   (try dsimp only at hSw)
                   go_simp
                   first | done | with_reducible rfl
                  case r17_27 =>
                   (try simp only [List.getElem_toArray,List.getElem_cons_zero,List.getElem_cons_succ,Act.put,List.setIfInBounds_toArray,List.set_cons_zero,List.set_cons_succ])
                   refine wpAnyH_take (i:=14) (v:=?v17_28) rfl (by kernel_rfl) (by kernel_rfl) (by kernel_rfl) (fun _ _ _ h=>h) (Or.inl ⟨by rfl,?y17_28⟩) (by assumption) ?r17_28
                   case y17_28 =>
                    intro w hSw
                    (try dsimp only at hSw)
                    go_simp
                    first | done | with_reducible rfl
                   case r17_28 =>
                    (try simp only [List.getElem_toArray,List.getElem_cons_zero,List.getElem_cons_succ,Act.put,List.setIfInBounds_toArray,List.set_cons_zero,List.set_cons_succ])
                    refine wpAnyH_take (i:=15) (v:=undef) rfl (by kernel_rfl) (by kernel_rfl) (by kernel_rfl) (fun _ _ _ h=>h) (Or.inr ⟨by rfl,rfl⟩) (by assumption) ?_
                    (try simp only [List.getElem_toArray,List.getElem_cons_zero,List.getElem_cons_succ,Act.put,List.setIfInBounds_toArray,List.set_cons_zero,List.set_cons_succ])
                    refine wpAnyH_take (i:=16) (v:=undef) rfl (by kernel_rfl) (by kernel_rfl) (by kernel_rfl) (fun _ _ _ h=>h) (Or.inr ⟨by rfl,rfl⟩) (by assumption) ?_
                    (try simp only [List.getElem_toArray,List.getElem_cons_zero,List.getElem_cons_succ,Act.put,List.setIfInBounds_toArray,List.set_cons_zero,List.set_cons_succ])
                    refine wpAnyH_take (i:=17) (v:=undef) rfl (by kernel_rfl) (by kernel_rfl) (by kernel_rfl) (fun _ _ _ h=>h) (Or.inr ⟨by rfl,rfl⟩) (by assumption) ?_
                    (try simp only [List.getElem_toArray,List.getElem_cons_zero,List.getElem_cons_succ,Act.put,List.setIfInBounds_toArray,List.set_cons_zero,List.set_cons_succ])
                    refine wpAnyH_take (i:=18) (v:=undef) rfl (by kernel_rfl) (by kernel_rfl) (by kernel_rfl) (fun _ _ _ h=>h) (Or.inr ⟨by rfl,rfl⟩) (by assumption) ?_
                    (try simp only [List.getElem_toArray,List.getElem_cons_zero,List.getElem_cons_succ,Act.put,List.setIfInBounds_toArray,List.set_cons_zero,List.set_cons_succ])
                    refine wpAnyH_take (i:=19) (v:=undef) rfl (by kernel_rfl) (by kernel_rfl) (by kernel_rfl) (fun _ _ _ h=>h) (Or.inr ⟨by rfl,rfl⟩) (by assumption) ?_
                    (try simp only [List.getElem_toArray,List.getElem_cons_zero,List.getElem_cons_succ,Act.put,List.setIfInBounds_toArray,List.set_cons_zero,List.set_cons_succ])
                    refine wpAnyH_take (i:=20) (v:=undef) rfl (by kernel_rfl) (by kernel_rfl) (by kernel_rfl) (fun _ _ _ h=>h) (Or.inr ⟨by rfl,rfl⟩) (by assumption) ?_
                    (try simp only [List.getElem_toArray,List.getElem_cons_zero,List.getElem_cons_succ,Act.put,List.setIfInBounds_toArray,List.set_cons_zero,List.set_cons_succ])
                    refine wpAnyH_take (i:=21) (v:=?v17_29) rfl (by kernel_rfl) (by kernel_rfl) (by kernel_rfl) (fun _ _ _ h=>h) (Or.inl ⟨by rfl,?y17_29⟩) (by assumption) ?r17_29
                    case y17_29 =>
                     intro w hSw
                     (try dsimp only at hSw)
                     go_simp
                     first | done | with_reducible rfl
                    case r17_29 =>
                     (try simp only [List.getElem_toArray,List.getElem_cons_zero,List.getElem_cons_succ,Act.put,List.setIfInBounds_toArray,List.set_cons_zero,List.set_cons_succ])
                     refine wpAnyH_done (by kernel_rfl) ?_ _
                     go_wp2_with fail
                     exact ⟨⟨k+1,h1,by go_num,by omega,HF1,Lh (HT1.out.below (TT.out b nb) B11.out),Lh (HK1.out.below B11.out)⟩,by simp [intOf];omega⟩
     ·obtain rfl:k=U.length:=by omega
      have k0:¬ (U.length:Int) < (U.length:Int):=by omega
      clear hlt hk
      have HX14:=Lh (show L.length≤14 by have:=H12.out;omega)
      have HGQ:=Lh (show goodB qe qL=true from (nextB_iff.1 HNQ.out).2.1)
      have HLM:=Lh (show qL.length≤1000000∧∀ c ∈ qL,c.length≤1000000 from ⟨Nat.le_trans HFQ.out.1 (by decide),fun c hc=>Nat.le_trans (HFQ.out.2 c hc) (by decide)⟩)
      go_wp2_with (first
       | (go_at_call 33;refine (seeN_any HS TS b nb (fun k=>k < (w.heap.size+1)∨(w7.heap.size≤k∧k < w10.heap.size)) w17 h16 S17.out qe qL L.length (Q16.out.see HGQ.out HX14.out) 0 oL oL_good ao17 2 C17.out N17.out (Nat.le_refl _)).mono ?_;rintro e w18 ⟨rfl,h18,hn18,hs,hk⟩;have S18:=Lh hs;have Q18:=Lh (hn18.symm ▸ Q16.out);have K18:=Lh ((K16.out.below B17.out).trans hk);clear hs hk hn18)
       | (go_at_call 32;refine (chg_rec HS RS b nb (fun k=>k < (w.heap.size+1)∨(w7.heap.size≤k∧k < w10.heap.size)) wr h1 HT1.out HRN.out HF1.out HNQ.out HX14.out qo qc qL.length rfl (CQ.out _ DW.out) HQN.out HQC.out fo fc fl H60.out (fun W hk=>HR.out W (DW.out.kept hk XX.out)) HK.out).mono ?_;rintro e w16 ⟨rfl,h16,hQ,hs,hk⟩;have Q16:=Lh hQ;have S16:=Lh hs;have K16:=Lh (HK1.out.trans hk);clear hQ hs hk)
       | (go_at_call 24;refine (CO.out w16).mono ?_;rintro e w17 ⟨ao17,rfl,hC,hb⟩;have B17:=Lh hb;have S17:=Lh (S16.out.below (TT.out b nb) hb);have C17:=Lh (ND.out _ _ _ hC).1;have N17:=Lh (ND.out _ _ _ hC).2;clear hC hb))
      have D18:=Lh (D10.out.kept K18.out XX.out)
      clear S16 S17 Q16 K16 B17 C17 N17 HT1 HK1 HF1 d0 d1 dl DW
      go_cut [162] from 134 to 162 (fun c wx=>c=.bool false∧Hid (Below w18.heap.size w18 wx))
      case first =>
       have SBW:=Lh (fun W (hb:Bx (w.heap.size+1) W0 W)=>show W.cell? ⟨w.heap.size,0,none⟩=some (.int .i64 qe)∧W.cell? ⟨w.heap.size,1,none⟩=some (.slice qo qL.length qc) from ⟨(HPC.out W hb).1,(HPC.out W hb).2.1⟩)
       have E18:=Lh (SBW.out _ D18.out)
       have E18d:=Lh (SBW.out _ D18.out.drew)
       obtain ⟨d0,d1,dl⟩:=HPC.out _ D18.out
       go_region_held3 (fun W=>W.cell? ⟨w.heap.size,0,none⟩=some (.int .i64 qe)∧W.cell? ⟨w.heap.size,1,none⟩=some (.slice qo qL.length qc))
        (first | exact E18.out | exact E18d.out | exact E19.out | exact E20.out | exact E21.out | exact E22.out | assumption)
        (first
        | (go_at_call 29;refine (ho_nodes HS (S18.out.below (TT.out b nb) (Below.refl _ _).drew)).mono ?_;rintro e w19 ⟨rfl,hs,hb⟩;have S19:=Lh hs;have B19:=Lh (z0c (w1:=w18) hb (Below.refl _ _).drew);have E19:=Lh (SBW.out _ (D18.out.on B19.out));clear hs hb)
        | (go_at_call 35;refine (ho_layout HS S19.out).mono ?_;rintro e w20 ⟨bl,rfl,hb,F20,hl⟩;have L20:=Lh hl;have B20:=Lh (B19.out.trans (hb.mono B19.out.size));have E20:=Lh (SBW.out _ (D18.out.on B20.out));clear hl hb)
        | (go_at_call 36;refine (HS.rpc.layout_.now bl F20 w20 _ L20.out).mono ?_;rw [Q18.out.le,Q18.out.lL];rintro e w21 ⟨v21,rfl,hO,hb⟩;obtain ⟨ao21,c21,rfl,hC21,_⟩:=hO.form;have C21:=Lh hC21;have B21:=Lh (B20.out.trans (hb.mono B20.out.size));have E21:=Lh (SBW.out _ (D18.out.on B21.out));clear hO hb hC21)
        | (go_at_call 34;refine (z20 qe ao21 c21 qL qe qo qc qL w21 C21.out (CQ.out _ (D18.out.on B21.out)) HLM.out HLM.out).mono ?_;rw [sameP_self];rintro e w22 ⟨rfl,hb⟩;have B22:=Lh (B21.out.trans (hb.mono B21.out.size));have E22:=Lh (SBW.out _ (D18.out.on B22.out));clear hb))
       all_goals
        go_wp2_with fail
        go_meet
        exact ⟨rfl,B22⟩
      case rest =>
       obtain ⟨rfl,BC⟩:=hcut
       have SC:=Lh (S18.out.below (TT.out b nb) BC.out)
       have DC:=Lh (D18.out.on BC.out)
       go_wp2_with fail
       go_loopw [18] (fun i wr=>∃ (k:Nat) (h:Hd),i=.int .i64 k∧k≤L.length∧Hid (QN oL qe qL L.length (txtK L) h.n)∧Hid (Solo (HG b nb) (fun k=>k < (w.heap.size+1)∨(w7.heap.size≤k∧k < w10.heap.size)) wr h)∧Hid (Bx (w.heap.size+1) W0 wr)) (fun i _=>L.length - (intOf i).toNat)
       case atStart=>exact ⟨0,h18,rfl,Nat.zero_le _,Q18,SC,DC⟩
       case round =>
        clear S18 Q18 SC DC D18 K18
        obtain ⟨k,h3,rfl,hk,HQ3,HT3,HD3⟩:=hrel
        by_cases hlt:k < L.length
        ·have k0:(k:Int) < (L.length:Int):=by omega
         have k1:(0:Int)≤(k:Int):=by omega
         have HTX:=Lh (txtK_at hlt)
         have H500:=Lh (H5.out k hlt hlt)
         have H4096:=Lh (txtK_size hlt H500.out)
         obtain ⟨bk,off,hao,c0⟩:=HF.out _ HD3.out k hlt
         subst hao
         have CG2:=Lh (fun W hs ao hC hn=>get_q HS FS b nb (fun k=>k < (w.heap.size+1)∨(w7.heap.size≤k∧k < w10.heap.size)) W h3 hs HQ3.out HNQ.out k hlt HX14.out H4096.out 0 oL (.inr ⟨rfl,rfl⟩) ao 2 2 rfl hC hn (Nat.le_refl _))
         rw [HTX.out] at CG2
         generalize hr:L[k]=r at *
         go_wp2_with (first
          | (go_at_call 37;refine (CG2.out w24 S24.out ao24 C24.out N24.out).mono ?_;rintro e w25 ⟨rfl,h25,hQ,hs,hk⟩;have Q25:=Lh hQ;have S25:=Lh hs;have D25:=Lh (D24.out.kept hk XX.out);clear hQ hs hk)
          | (go_at_call 24;refine (CO.out wr).mono ?_;rintro e w24 ⟨ao24,rfl,hC,hb⟩;have S24:=Lh (HT3.out.below (TT.out b nb) hb);have D24:=Lh (HD3.out.on hb);have C24:=Lh (ND.out _ _ _ hC).1;have N24:=Lh (ND.out _ _ _ hC).2;clear hC hb))
         obtain ⟨bk2,off2,hao2,c25⟩:=HF.out _ D25.out k hlt
         obtain ⟨rfl,rfl⟩:bk2=bk∧off2=off:=by simpa using hao2.symm
         rw [hr] at c25
         have hbk:=block_lt_of_cell c25
         have u8:IntKind.u8.wrap (k:Int)=(k:Int):=u8K k (by have:=H12.out;omega)
         have hcv:(convert 57 9 (.slice (some ⟨w25.heap.size,0,none⟩) 1 1)).run Tryz.prog (w25.alloc (.cells #[.int .u8 (k:Int)] 5)).drew=.ok (.string (strOfNums [(k:Int)])) (w25.alloc (.cells #[.int .u8 (k:Int)] 5)).drew:=convK k w25.drew
         have hcc:¬ 9223372036854775807 < (strOfNums [(k:Int)]).size+r.size:=by
          rw [show (strOfNums [(k:Int)]).size=1 from rfl]
          have:=H500.out
          omega
         clear c0 hao2 hr
         go_wp2_with fail
         go_region_held_law (fun W=>W.cell? ⟨bk2,off2+k,none⟩=some (.string r)) (first | exact c25 | exact z0s (z00 w25 _) hbk c25) (fail)
         all_goals
          go_wp2_with fail
          exact ⟨⟨k+1,h25,by go_num,by omega,Q25,Lh (S25.out.below (TT.out b nb) (z00 w25 _).drew),Lh (D25.out.on (z00 w25 _).drew)⟩,by simp [intOf];omega⟩
        ·obtain rfl:k=L.length:=by omega
         have k0:¬ (L.length:Int) < (L.length:Int):=by omega
         clear hlt hk
         have hm14:L.length < 14:=by have:=H12.out;omega
         have CPO:=Lh (fun W hs ao hC hn=>put_old HS AS b nb (fun k=>k < (w.heap.size+1)∨(w7.heap.size≤k∧k < w10.heap.size)) W h3 hs HQ3.out HNQ.out hm14 ⟨#[98,101,104,105,110,100]⟩ (by decide) ao 2 rfl hC hn)
         have CGP:=Lh (fun W h hs P hC=>get_put HS FS b nb (fun k=>k < (w.heap.size+1)∨(w7.heap.size≤k∧k < w10.heap.size)) W h hs HQ3.out HGQ.out hm14 ⟨#[98,101,104,105,110,100]⟩ (by decide) P qo qc hC HQN.out HQC.out)
         clear hm14
         go_wp2_with (first
          | (go_at_call 9;refine (CW.out _).mono ?_;rintro e w30 ⟨rfl,hb30⟩;have D30:=Lh (D28.out.on hb30);clear hb30)
          | (go_at_call 37;refine (CGP.out w27 h27 S27.out P27.out (CQ.out _ D27.out)).mono ?_;rintro e w28 ⟨rfl,h28,hs,hk⟩;have D28:=Lh (D27.out.kept hk XX.out);clear hs hk)
          | (go_at_call 26;refine (CPO.out w26 S26.out ao26 C26.out N26.out).mono ?_;rintro e w27 ⟨rfl,h27,hp,hs,hk⟩;have P27:=Lh hp;have S27:=Lh hs;have D27:=Lh (D26.out.kept hk XX.out);obtain ⟨d0,d1,dl⟩:=HPC.out _ D27.out;clear hp hs hk)
          | (go_at_call 24;refine (CO.out wr).mono ?_;rintro e w26 ⟨ao26,rfl,hC,hb⟩;have S26:=Lh (HT3.out.below (TT.out b nb) hb);have D26:=Lh (HD3.out.on hb);have C26:=Lh (ND.out _ _ _ hC).1;have N26:=Lh (ND.out _ _ _ hC).2;clear hC hb))
         go_ret
         exact ⟨rfl,HB0.out.trans (D30.out.1.mono (by omega))⟩
set_option maxRecDepth 100000 in
theorem reformKeeps_lifted (os:Os) (started:os.Started) (H:Type) (enc:TypeId × Value→H) :
  ReturnsInHanded {} Tryz.checked os 4 .any (Rows.reformKeepsSpec.pre6 enc Tryz.prog Tryz.f4 Rows.reformKeepsRow.domain false) (Rows.reformKeepsSpec.post enc Tryz.prog Tryz.f4 false true false false):=by
 refine returnsInHanded_of_change (C:=Tryz.checked) own started (by kernel_rfl) Tryz.func4
  (ChangeSpec.witness6 (enc:=enc) (C:=Tryz.checked) false ⟨#[],#[.slice none 0 0,.agg #[.int .i64 0,.slice none 0 0],.slice none 0 0],[]⟩ 8 (by kernel_rfl) (by kernel_rfl) (by kernel_rfl) (by kernel_rfl)) ?_
 intro W base args ds gs before hval0 hW hcnd _
 have hval:∀ (j:Nat) t v,Tryz.f4.params[j]?=some t→args[j]?=some v→Value.okWide Tryz.prog W .any base t v:=hval0
 have hW':=hW
 obtain ⟨p,q,hA0,hV,rfl,hfz,hnd⟩:=hW
 have hA:DataW.TrodAll enc Tryz.prog W 0 (fun _=>true) true Tryz.f4.params.toList args.toList ds p:=hA0
 rw [Tryz.params4] at hA hval
 obtain ⟨v0,vs0,d0,ds0,p0,q0,hargs,rfl,rfl,h0,r0⟩:=trodAll_cons hA
 obtain ⟨v1,vs1,d1,ds1,p1,q1,rfl,rfl,rfl,h1,r1⟩:=trodAll_cons r0
 obtain ⟨v2,vs2,d2,ds2,p2,q2,rfl,rfl,rfl,h2,r2⟩:=trodAll_cons r1
 obtain ⟨rfl,rfl,rfl⟩:=trodAll_nil r2
 obtain rfl:args=#[v0,v1,v2]:=by cases args;simp_all
 obtain ⟨rfl,rfl⟩:=trodVars_none hV
 have k0:=h0
 have lt0:∀ x ∈ p0,x.block < W.heap.size:=by obtain ⟨m,hm⟩:=k0;exact DataW.trod_lt m _ _ _ hm
 have k1:=h1
 have lt1:∀ x ∈ p1,x.block < W.heap.size:=by obtain ⟨m,hm⟩:=k1;exact DataW.trod_lt m _ _ _ hm
 have k2:=h2
 have lt2:∀ x ∈ p2,x.block < W.heap.size:=by obtain ⟨m,hm⟩:=k2;exact DataW.trod_lt m _ _ _ hm
 obtain ⟨ao0,cap0,L0,rfl,w0,hF0⟩:=open_strs Tryz.underlying56 Tryz.underlying9 (by kernel_rfl) (hval 0 56 v0 rfl rfl) h0
 obtain ⟨ep1,ao1,cap1,L1,rfl,wf1,hC1,hn1,hc1,hl1,hm1⟩:=open_proj Tryz.underlying24 (by kernel_rfl) rfl rfl (by kernel_rfl) (by kernel_rfl) Tryz.underlying3 Tryz.underlying22 Tryz.underlying65 (by kernel_rfl) (hval 1 24 v1 rfl rfl) h1
 have hF1:PIn W ep1 ao1 cap1 L1:=⟨⟨hC1,hn1,hc1⟩,i64_of_wf wf1,hl1,fun c hcm=>by obtain ⟨i,hi,rfl⟩:=List.getElem_of_mem hcm;exact hm1 i hi⟩
 obtain ⟨ao2,cap2,L2,rfl,w2,hR2,hK2,hn2,hc2⟩:=open_rows (f:=byteC) (ok:=byteOk) (n:=0) Tryz.underlying57 (by kernel_rfl) (fun m cs y hl hf=>byte_cs Tryz.underlying5 hl hf) (hval 2 57 v2 rfl rfl) h2
 clear hA0 hval0
 refine (reformKeeps_walk handSays appSays fetchSays tailSays rfmSays ao0 cap0 L0 ep1 ao1 cap1 L1 ao2 cap2 L2 w0 w2 W hF0 hF1 hR2 hK2).mono fun e W' ⟨he,bel⟩=>?_
 subst he
 exact ⟨_,rfl,_,_,_,[],_,[],hW',trodAll_mk1 (shut_bool Tryz.underlying4 _),(trodAll_cons_mk (Below.trod z1q (by kernel_rfl) (of_decide_eq_true (by kernel_rfl)) k0 bel lt0) (trodAll_cons_mk (Below.trod z1q (by kernel_rfl) (of_decide_eq_true (by kernel_rfl)) k1 bel lt1) (trodAll_cons_mk (Below.trod z1q (by kernel_rfl) (of_decide_eq_true (by kernel_rfl)) k2 bel lt2) trodAll_mk0))),rfl,bel.frame _,fun h=>by cases h⟩
theorem reformKeeps_over:Rows.reformKeepsRow.holds Tryz.pinned (OpenSpec.ofChange Rows.reformKeepsSpec) :=
 OpenClaim.holds_of_wide 4 Tryz.f4 rfl rfl rfl rfl rfl rfl rfl ⟨rfl,rfl,rfl,rfl,rfl⟩ rfl rfl rfl rfl rfl (by kernel_rfl) Tryz.func4 (by kernel_rfl)
  (of_decide_eq_true (by kernel_rfl)) (by unfold Func.isWrapper;first | (rw [if_pos (by decide +kernel)];kernel_rfl) | (rw [if_neg (by decide +kernel)];exact ⟨rfl,rfl⟩))
  (fun os started H enc _=>reformKeeps_lifted os started H enc)
theorem reformKeeps_holds:Rows.ReformKeepsSaid:=reformKeeps_over
end Go.Proofs.YtkefpbcifcjibaaGreat
