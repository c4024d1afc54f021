/- The law ReformHalf: a record whose append is under way when the projection changes is there behind it. Conditions: none. (Written by gen/genreformhalf.py.) -/
import Derived.Deep.RegionHeld3
import Derived.Deep.CutRange
import Derived.Deep.CutBlock
import Derived.Test.YtkefpbcifcjibaaGreatG27b
import Derived.Test.YtkefpbcifcjibaaGreatG33a
import Derived.Test.YtkefpbcifcjibaaGreatG31a
import Derived.Test.YtkefpbcifcjibaaGreatX07
import Derived.Test.YtkefpbcifcjibaaGreatG32a
import Derived.Test.YtkefpbcifcjibaaGreatX08
import Derived.Test.YtkefpbcifcjibaaGreatG30a
import Derived.Test.YtkefpbcifcjibaaGreatG04a
import Derived.Test.YtkefpbcifcjibaaGreatG11a
import Derived.Test.YtkefpbcifcjibaaGreatG08a
import Derived.Test.YtkefpbcifcjibaaGreatG12a
import Derived.Test.YtkefpbcifcjibaaGreatX01
import Derived.Test.YtkefpbcifcjibaaGreatG10a
import Derived.Test.YtkefpbcifcjibaaGreatH00
set_option linter.unusedVariables false
set_option maxRecDepth 20000
set_option maxHeartbeats 16000000
namespace Go.Proofs.YtkefpbcifcjibaaGreat
open Go.ChangeShapes Go.WideShapes Go.ChangeAt Go.RowKit
open Go.ChangeMaps (open_string shut_string)
def kindsC (k:Nat) (V:Int):Array Value:=#[.int .i64 (if k=0 then 0 else V),.int .i64 0,.int .i64 0,.int .i64 0,.int .i64 0,.int .i64 0,.int .i64 0,.int .i64 0]
def textsC (k:Nat) (s:ByteArray):Array Value:=#[.string (if k=0 then ⟨#[]⟩ else s),.string ⟨#[]⟩,.string ⟨#[]⟩,.string ⟨#[]⟩,.string ⟨#[]⟩,.string ⟨#[]⟩,.string ⟨#[]⟩,.string ⟨#[]⟩]
theorem kinds_cell {w:World} {g k:Nat} {V:Int} {t:TypeId} (hk:k=0) (h:w.heap[g]?=some (.cells (kindsC k V) t (0,0))):w.cell? ⟨g,k,none⟩=some (.int .i64 0)∧w.frozen? ⟨g,k,none⟩=false∧g < w.heap.size:=by
 subst hk
 exact ⟨z02 h 0,z0a h 0,lt_of_block h⟩
theorem texts_cell {w:World} {g k:Nat} {s:ByteArray} {t:TypeId} (hk:k=0) (h:w.heap[g]?=some (.cells (textsC k s) t (0,0))):w.cell? ⟨g,k,none⟩=some (.string ⟨#[]⟩)∧w.frozen? ⟨g,k,none⟩=false∧g < w.heap.size:=by
 subst hk
 exact ⟨z02 h 0,z0a h 0,lt_of_block h⟩
theorem kinds_put {w:World} {g k:Nat} {V:Int} {t:TypeId} (hk:k=0) (h:w.heap[g]?=some (.cells (kindsC k V) t (0,0))) (V2:Int):(w.setCell ⟨g,k,none⟩ (.int .i64 V2)).heap[g]?=some (.cells (kindsC (k+1) V2) t (0,0)):=by
 subst hk
 exact heap_setCell_same w g 0 _ t _ h
theorem texts_put {w:World} {g k:Nat} {s:ByteArray} {t:TypeId} (hk:k=0) (h:w.heap[g]?=some (.cells (textsC k s) t (0,0))) (s2:ByteArray):(w.setCell ⟨g,k,none⟩ (.string s2)).heap[g]?=some (.cells (textsC (k+1) s2) t (0,0)):=by
 subst hk
 exact heap_setCell_same w g 0 _ t _ h
theorem kinds_at {w:World} {g j k:Nat} {V:Int} {t:TypeId} (hj:j=0) (hk:k=1) (h:w.heap[g]?=some (.cells (kindsC k V) t (0,0))):w.cell? ⟨g,j,none⟩=some (.int .i64 V)∧g < w.heap.size:=by
 subst hj hk
 exact ⟨z02 h 0,lt_of_block h⟩
theorem texts_at {w:World} {g j k:Nat} {s:ByteArray} {t:TypeId} (hj:j=0) (hk:k=1) (h:w.heap[g]?=some (.cells (textsC k s) t (0,0))):w.cell? ⟨g,j,none⟩=some (.string s)∧g < w.heap.size:=by
 subst hj hk
 exact ⟨z02 h 0,lt_of_block h⟩
theorem foundG_one (S:ByteArray):foundG 1 S=S:=if_pos rfl
theorem reformHalf_walk {UG:Nat→Nat→(Nat→Prop)→World→Us→Prop} {OG:Nat→(Nat→Prop)→World→Od→Prop} {LG:Nat→(Nat→Prop)→World→Ly→Prop} {NG:Nat→(Nat→Prop)→World→Nd→Prop} {HG:Nat→Nat→(Nat→Prop)→World→Hd→Prop} {AG:Nat→(Nat→Prop)→World→Ap→Prop} {FG:Nat→(Nat→Prop)→World→Fe→Prop} {TG:Nat→(Nat→Prop)→World→Tl→Prop} {RG:Nat→(Nat→Prop)→World→Rf→Prop} (HS:HandSays UG OG LG NG HG) (AS:AppSays AG) (FS:FetchSays FG) (TS:TailSays TG) (RS:RfmSays RG) (s:ByteArray) (x y:Int) (qe:Int) (qo:Option Addr) (qc:Nat) (qL:List (List Int)) (ws:s.size≤maxLen) (wx:(Lit.int .u8 x).wf=true) (wy:(Lit.int .u8 y).wf=true) (w:World) (hq:PIn w qe qo qc qL) :
  Calls Tryz.prog 5 #[.string s,.agg #[.int .u8 x,.int .u8 y],.agg #[.int .i64 qe,.slice qo qL.length qc]] w fun e w'=>e=.returned (.bool true)∧Below w.heap.size w w':=by
 obtain ⟨x0,x1⟩:0≤x∧x < 256:=by
  have h:=wx
  simp [Lit.wf] at h
  have e1:IntKind.u8.min=0:=by decide
  have e2:IntKind.u8.max=255:=by decide
  omega
 clear wx wy
 obtain ⟨z,rfl⟩:∃ z:Nat,x=z:=⟨x.toNat,by omega⟩
 obtain ⟨N,hN,hN1⟩:∃ N:Nat,((z:Int).tmod 5)=(N:Int)∧N < 5:=⟨z % 5,by rw [Int.tmod_eq_emod_of_nonneg (by omega)];omega,Nat.mod_lt _ (by decide)⟩
 have CW:=Lh (fun w=>wakes18_any HS AS FS RS w)
 have TT:=Lh (fun b nb=>HS.thing b nb)
 have TA:=Lh (fun b=>AS.thing b)
 have ZZ:=Lh (fun (x:Int) (h:0≤x∧x≤300)=>show i64w x from WalkArith.wf_i64 (by omega))
 unfold maxLen at ws
 have ws':(s.size:Int)≤9223372036854775807:=by omega
 obtain ⟨⟨hqC,hqn,hqc⟩,hqe,hql,hqm⟩:=hq
 obtain ⟨g1,g2⟩:=z0z w #[.int .u8 (z:Int),.int .u8 y] #[.int .i64 qe,.slice qo qL.length qc] 80 24
 have hb0:Below w.heap.size w ((w.alloc (.cells #[.int .u8 (z:Int),.int .u8 y] 80)).alloc (.cells #[.int .i64 qe,.slice qo qL.length qc] 24)):=((Below.refl _ _).alloc (Nat.le_refl _) _).alloc (by simp) _
 have hz0:((w.alloc (.cells #[.int .u8 (z:Int),.int .u8 y] 80)).alloc (.cells #[.int .i64 qe,.slice qo qL.length qc] 24)).heap.size=w.heap.size+2:=by simp
 have HB0:=Lh hb0
 have HW:=Lh (fun W (hb:Bx (w.heap.size+2) ((w.alloc (.cells #[.int .u8 (z:Int),.int .u8 y] 80)).alloc (.cells #[.int .i64 qe,.slice qo qL.length qc] 24)) W)=>show Below w.heap.size w W from hb0.trans (hb.1.mono (by omega)))
 have CQ:=Lh (fun W (hb:Bx (w.heap.size+2) ((w.alloc (.cells #[.int .u8 (z:Int),.int .u8 y] 80)).alloc (.cells #[.int .i64 qe,.slice qo qL.length qc] 24)) W)=>show CL W qo qL from hqC.below (HW.out W hb))
 have LQ:=Lh (fun W (hb:Bx (w.heap.size+2) ((w.alloc (.cells #[.int .u8 (z:Int),.int .u8 y] 80)).alloc (.cells #[.int .i64 qe,.slice qo qL.length qc] 24)) W)=>large_any qe qo qc qL W (CQ.out W hb) hql hqm)
 have HPC:=Lh (fun W (hb:Bx (w.heap.size+2) ((w.alloc (.cells #[.int .u8 (z:Int),.int .u8 y] 80)).alloc (.cells #[.int .i64 qe,.slice qo qL.length qc] 24)) W)=>show W.cell? ⟨w.heap.size,0,none⟩=some (.int .u8 (z:Int))∧W.cell? ⟨w.heap.size,1,none⟩=some (.int .u8 y)∧W.cell? ⟨w.heap.size+1,0,none⟩=some (.int .i64 qe)∧W.cell? ⟨w.heap.size+1,1,none⟩=some (.slice qo qL.length qc)∧w.heap.size < W.heap.size∧w.heap.size+1 < W.heap.size from by
  have e:W.heap[w.heap.size]?=_:=(hb.1.block w.heap.size (by omega)).trans g1
  have e2:W.heap[w.heap.size+1]?=_:=(hb.1.block (w.heap.size+1) (by omega)).trans g2
  exact ⟨z02 e 0,z02 e 1,z02 e2 0,z02 e2 1,lt_of_block e,lt_of_block e2⟩)
 have HQN:=Lh hqn
 have HQC:=Lh hqc
 have DS:=Lh (show Bx (w.heap.size+2) ((w.alloc (.cells #[.int .u8 (z:Int),.int .u8 y] 80)).alloc (.cells #[.int .i64 qe,.slice qo qL.length qc] 24)) ((w.alloc (.cells #[.int .u8 (z:Int),.int .u8 y] 80)).alloc (.cells #[.int .i64 qe,.slice qo qL.length qc] 24)) from ⟨Below.refl _ _,by omega⟩)
 have D0:=Lh DS.out.drew
 have CO:=Lh old18_any
 clear hqC hqn hqc hqe hql hqm g1 g2 hb0 hz0
 generalize hW0:((w.alloc (.cells #[.int .u8 (z:Int),.int .u8 y] 80)).alloc (.cells #[.int .i64 qe,.slice qo qL.length qc] 24))=W0 at *
 by_cases h5:500 < s.size
 ·have c5:(500:Int) < (s.size:Int):=by omega
  clear h5
  go_enter Tryz.func5,Tryz.ntmps5
  go_wp2_with fail
  try rw [hW0]
  obtain ⟨d0,d1,d2,d3,dl,dm⟩:=HPC.out _ D0.out
  go_quiet (fail)
  go_wp2_with (go_at_call 9;refine (CW.out _).mono ?_;rintro e w30 ⟨rfl,hb30⟩;have D30:=Lh ((DS.out.on (below_drewN (Below.refl _ _) nq)).on hb30);clear hb30)
  go_ret
  exact ⟨rfl,HB0.out.trans (D30.out.1.mono (by omega))⟩
 have c5:¬ (500:Int) < (s.size:Int):=by omega
 have b5:decide ((500:Int) < (s.size:Int))=false:=decide_eq_false c5
 rcases Bool.eq_false_or_eq_true (largeB qL) with hlq | hlq
 ·rw [hlq] at LQ
  clear hlq
  go_enter Tryz.func5,Tryz.ntmps5
  go_wp2_with fail
  try rw [hW0]
  obtain ⟨d0,d1,d2,d3,dl,dm⟩:=HPC.out _ D0.out
  go_region_with (first
    | (go_at_call 8;(with_reducible refine (LQ.out _ D0.out).mono ?_);rintro e w2 ⟨rfl,hb2⟩;have D2:=Lh (D0.out.on hb2);clear d0 d1 d2 d3 dl dm;obtain ⟨d0,d1,d2,d3,dl,dm⟩:=HPC.out _ D2.out;clear hb2))
  all_goals
   clear d0 d1 d2 d3 dl dm
   go_wp2_with (go_at_call 9;refine (CW.out _).mono ?_;rintro e w30 ⟨rfl,hb30⟩;have D30:=Lh (D2.out.on hb30);clear hb30)
   go_ret
   exact ⟨rfl,HB0.out.trans (D30.out.1.mono (by omega))⟩
 rw [hlq] at LQ
 have q50:=largeB_no hlq
 have HFQ:=Lh (show fewL qL from ⟨by omega,fun c hc=>Nat.le_trans (q50.2 c hc) (by decide)⟩)
 have NXQ:=Lh (fun (W:World) (ao:Option Addr) (h:CL W ao oL) (hb:Bx (w.heap.size+2) W0 W)=>show Calls Tryz.prog 23 #[.agg #[.int .i64 0,.slice ao 2 2],.agg #[.int .i64 qe,.slice qo qL.length qc]] W (fun e w'=>e=.returned (.bool (nextB 0 oL qe qL))∧Below W.heap.size W w') from rnext_any 0 ao 2 oL qe qo qc qL W h (CQ.out W hb) ⟨by decide,by decide⟩ HFQ.out)
 clear q50 hlq
 cases hnq:nextB 0 oL qe qL
 ·rw [hnq] at NXQ
  clear hnq
  go_enter Tryz.func5,Tryz.ntmps5
  go_wp2_with fail
  try rw [hW0]
  obtain ⟨d0,d1,d2,d3,dl,dm⟩:=HPC.out _ D0.out
  go_region_with (first
    | (go_at_call 8;(with_reducible refine (LQ.out _ D0.out).mono ?_);rintro e w2 ⟨rfl,hb2⟩;have D2:=Lh (D0.out.on hb2);clear d0 d1 d2 d3 dl dm;obtain ⟨d0,d1,d2,d3,dl,dm⟩:=HPC.out _ D2.out;clear hb2)
    | (go_at_call 24;(with_reducible refine (CO.out w2).mono ?_);rintro e w3 ⟨ao3,rfl,hC3,hb3⟩;have O3:=Lh (z1e hC3);have D3:=Lh (D2.out.on hb3);clear d0 d1 d2 d3 dl dm;obtain ⟨d0,d1,d2,d3,dl,dm⟩:=HPC.out _ D3.out;clear hC3 hb3)
    | (go_at_call 23;(with_reducible refine (NXQ.out w3 ao3 O3.out D3.out).mono ?_);rintro e w4 ⟨rfl,hb4⟩;have D4:=Lh (D3.out.on hb4);clear d0 d1 d2 d3 dl dm;obtain ⟨d0,d1,d2,d3,dl,dm⟩:=HPC.out _ D4.out;clear hb4))
  all_goals
   clear d0 d1 d2 d3 dl dm
   go_wp2_with (go_at_call 9;refine (CW.out _).mono ?_;rintro e w30 ⟨rfl,hb30⟩;have D30:=Lh (D4.out.on hb30);clear hb30)
   go_ret
   exact ⟨rfl,HB0.out.trans (D30.out.1.mono (by omega))⟩
 rw [hnq] at NXQ
 have HNQ:=Lh hnq
 have HS5:=Lh (show s.size≤500 by omega)
 have HZ:=Lh (show ((⟨#[120]⟩:ByteArray) ++ s).size≤4096 from by
  rw [ByteArray.size_append,show (⟨#[120]⟩:ByteArray).size=1 from rfl]
  omega)
 have HGQ:=Lh (show goodB qe qL=true from (nextB_iff.1 hnq).2.1)
 have hqlt:0 < qe:=by have:=(nextB_iff.1 hnq).2.2.1;omega
 have HLT:=Lh hqlt
 clear hnq h5 hqlt
 go_enter Tryz.func5,Tryz.ntmps5
 go_wp2_with fail
 try rw [hW0]
 obtain ⟨d0,d1,d2,d3,dl,dm⟩:=HPC.out _ D0.out
 go_cut [53] from 41 to 53 (fun c wx=>c=.bool false∧Hid (Bx (w.heap.size+2) W0 wx))
 case first =>
  go_region_with (first
   | (go_at_call 8;(with_reducible refine (LQ.out _ D0.out).mono ?_);rintro e w2 ⟨rfl,hb2⟩;have D2:=Lh (D0.out.on hb2);clear d0 d1 d2 d3 dl dm;obtain ⟨d0,d1,d2,d3,dl,dm⟩:=HPC.out _ D2.out;clear hb2)
   | (go_at_call 24;(with_reducible refine (CO.out w2).mono ?_);rintro e w3 ⟨ao3,rfl,hC3,hb3⟩;have O3:=Lh (z1e hC3);have D3:=Lh (D2.out.on hb3);clear d0 d1 d2 d3 dl dm;obtain ⟨d0,d1,d2,d3,dl,dm⟩:=HPC.out _ D3.out;clear hC3 hb3)
   | (go_at_call 23;(with_reducible refine (NXQ.out w3 ao3 O3.out D3.out).mono ?_);rintro e w4 ⟨rfl,hb4⟩;have D4:=Lh (D3.out.on hb4);clear d0 d1 d2 d3 dl dm;obtain ⟨d0,d1,d2,d3,dl,dm⟩:=HPC.out _ D4.out;clear hb4))
  all_goals
   clear d0 d1 d2 d3 dl dm
   go_wp2_with fail
   go_meet
   exact ⟨rfl,D4⟩
 case rest =>
  obtain ⟨rfl,HX0⟩:=hcut
  clear d0 d1 d2 d3 dl dm D0 LQ NXQ b5
  have ND:=Lh (fun (F:Nat→Prop) (W:World) (ao:Option Addr) (h:CG F W (.slice ao 2 2) oL)=>show CL W ao oL∧(ao=none→2=0) from ⟨z1e h,by
   obtain ⟨a2,c2,hv,h2,_⟩:=h
   obtain ⟨rfl,_,rfl⟩:=Value.slice.inj hv
   exact h2⟩)
  have hcc:¬ 9223372036854775807 < (⟨#[120]⟩:ByteArray).size+s.size:=by
   rw [show (⟨#[120]⟩:ByteArray).size=1 from rfl]
   have:=HS5.out
   omega
  have CM:=Lh (fun ao w hC=>made18 HS ao 100 w hC ⟨by decide,by decide⟩ (fun _=>((⟨#[120]⟩:ByteArray) ++ s)))
  go_wp2_with (first
   | (go_at_call 38;refine (sa_new AS (TT.out b nb) S7.out C7.out ⟨by decide,by decide⟩ N7.out (Nat.le_refl _) (ZZ.out 0 (by omega)) (Nat.le_trans HZ.out (by decide))).mono ?_;rintro e w8 ⟨ba,rfl,hs,hb⟩;have S8:=Lh hs;have D8:=Lh (D7.out.on hb);clear hs hb)
   | (go_at_call 24;refine (CO.out w6).mono ?_;rintro e w7 ⟨ao7,rfl,hC,hb⟩;have D7:=Lh (D6.out.on hb);have S7:=Lh (S6.out.below (TT.out b nb) hb);have C7:=Lh (ND.out _ _ _ hC).1;have N7:=Lh (ND.out _ _ _ hC).2;clear hC hb)
   | (go_at_call 25;refine (CM.out ao5 w5 C5.out).mono ?_;rintro e w6 ⟨b,nb,p,h6,rfl,hr,hs,hb⟩;have R6:=Lh hr;have S6:=Lh (hs.less (fun k hk=>Nat.lt_of_lt_of_le hk D5.out.2));have D6:=Lh (D5.out.on hb);clear hr hs hb)
   | (go_at_call 24;refine (CO.out wc).mono ?_;rintro e w5 ⟨ao5,rfl,hC,hb⟩;have D5:=Lh (HX0.out.on hb);have C5:=Lh (z1e hC);clear hC hb))
  clear CM D5 C5 HX0 S7 C7 N7 D7 D6 S6
  have HP0:=Lh (show PutR 0 oL h6.n 0 from R6.out.put (by decide))
  have HU6:=Lh (show h6.n.l.used.length≤100000 from by have:=R6.out.used;omega)
  have HPL:=Lh (show PlR 0 oL h6.n 0 ((⟨#[120]⟩:ByteArray) ++ s) h6.n (newAp 0 oL ((⟨#[120]⟩:ByteArray) ++ s)) 5 from .inr (.inr (.inl ⟨by unfold newAp;rw [if_neg (by rw [oL_good];decide),if_neg (by have:=HZ.out;omega)];exact ⟨rfl,rfl,rfl,rfl,rfl⟩,Nat.le_refl _⟩)))
  go_loopw [11] (fun i wr=>∃ (k:Nat) (h:Hd) (a:Ap) (d:Nat),i=.int .i64 k∧k≤N∧d≤5∧Hid (PlR 0 oL h6.n 0 ((⟨#[120]⟩:ByteArray) ++ s) h.n a d)∧Hid (Side (HG b nb) (AG ba) (fun k=>k < (w.heap.size+2)) wr h a)∧Hid (Bx (w.heap.size+2) W0 wr)) (fun i _=>N - (intOf i).toNat)
  case atStart=>exact ⟨0,h6,_,5,rfl,Nat.zero_le _,Nat.le_refl _,HPL,S8,D8⟩
  case round =>
   clear S8 D8 HPL
   obtain ⟨k,h,a,d,rfl,hk,hd5,HV,HT,HD⟩:=hrel
   obtain ⟨d0,d1,d2,d3,dl,dm⟩:=HPC.out _ HD.out
   by_cases hlt:k < N
   ·have k0:(k:Int) < (N:Int):=by omega
    by_cases h6a:a.at_=6
    ·have HAS:=Lh (show a.asks=false from decide_eq_false (fun g=>g h6a))
     clear h6a
     go_wp2_with (go_at_call 39;refine (sa_ask AS (TT.out b nb) HT.out).mono ?_;rw [HAS.out];rintro e v1 ⟨kd,un,ke,pg,qs,hq1,rfl,hs1,hk1⟩;have T1:=Lh (hs1.below (TT.out b nb) (TA.out ba) (z00 v1 (.cells #[.int .i64 kd,.int .i64 un,.int .i64 ke,.int .i64 pg,.int .i64 0,.int .i64 0,.string qs,.int .i64 0,.slice none 0 0] 34)));have V1:=Lh ((HD.out.kept hk1 (fun k h=>h)).on (z00 v1 (.cells #[.int .i64 kd,.int .i64 un,.int .i64 ke,.int .i64 pg,.int .i64 0,.int .i64 0,.string qs,.int .i64 0,.slice none 0 0] 34)));clear hq1 hs1 hk1)
     exact ⟨⟨k+1,h,a,d,by go_num,by omega,hd5,HV,T1,V1⟩,by simp [intOf];omega⟩
    ·have HAS:=Lh (show a.asks=true from decide_eq_true h6a)
     obtain ⟨g1,g2,g3,g4,g5⟩:=HV.out.stepH HP0.out HZ.out HU6.out h6a
     clear h6a
     obtain ⟨xc,xn,xd,pe,xL,xm,xz,xe,hx⟩:∃ xc xn xd pe xL xm xz xe,h.heard a.ask 0=⟨xc,xn,xd,pe,xL,xm,xz,xe⟩:=⟨_,_,_,_,_,_,_,_,rfl⟩
     rw [hx] at g1 g4
     have HTN:=Lh g1
     have HFX:=Lh g4
     have HSQ:=Lh g3
     have HU:=Lh g5
     have HXX:=Lh hx
     clear hx g1 g3 g4 g5
     go_wp2_with (first
      | (go_at_call 40;refine (sa_hearL AS (TT.out b nb) T2.out HFX.out HC2.out (fun k h=>.inr h)).mono ?_;rintro e v3 ⟨rfl,hs3,hk3⟩;have T3:=Lh hs3;have V3:=Lh (V2.out.kept hk3 (fun k h=>.inl h));clear hs3 hk3)
      | (go_at_call 41;refine (hs_tell HS (TA.out ba) T1.out (fate:=0) SQ.out.kind SQ.out.unit SQ.out.epoch SQ.out.page SQ.out.data HU.out (ZZ.out 0 (by omega)) HX1.out).mono ?_;rintro e v2 ⟨vo,vc,C,rfl,hC,hs2,hk2⟩;have HC2:=Lh hC;have T2:=Lh hs2;have V2:=Lh (V1.out.kept hk2 (fun k h=>h));clear hs2 hk2 hC)
      | (go_at_call 39;refine (sa_ask AS (TT.out b nb) HT.out).mono ?_;rw [HAS.out];rintro e v1 ⟨kd,un,ke,pg,qs,hq1,rfl,hs1,hk1⟩;have HQ1:=Lh hq1;have SQ:=Lh (show SmQ (akN kd un ke pg qs) from hq1 ▸ HSQ.out);have HX1:=Lh (show h.heard (akN kd un ke pg qs) 0=⟨xc,xn,xd,pe,xL,xm,xz,xe⟩ from hq1 ▸ HXX.out);have T1:=Lh (hs1.below (TT.out b nb) (TA.out ba) (z00 v1 (.cells #[.int .i64 kd,.int .i64 un,.int .i64 ke,.int .i64 pg,.int .i64 0,.int .i64 0,.string qs,.int .i64 0,.slice none 0 0] 34)));have V1:=Lh ((HD.out.kept hk1 (fun k h=>h)).on (z00 v1 (.cells #[.int .i64 kd,.int .i64 un,.int .i64 ke,.int .i64 pg,.int .i64 0,.int .i64 0,.string qs,.int .i64 0,.slice none 0 0] 34)));clear hq1 hs1 hk1))
     refine ⟨⟨k+1,_,_,d - 1,by go_num,by omega,by omega,HTN,Lh ?_,V3⟩,by simp [intOf];omega⟩
     rw [HQ1.out]
     exact T3.out.less (fun k h=>.inl h)
   ·obtain rfl:k=N:=by omega
    have k0:¬ (k:Int) < (k:Int):=by omega
    clear hlt hk
    obtain ⟨i,HA0,HB1⟩:=HalfA.of R6.out HV.out hd5
    have HAA:=Lh HA0
    have HHB:=Lh HB1
    obtain ⟨G,hG,hsG,hXG⟩:=HT.out.part (TA.out ba)
    have HG0:=Lh hG
    have HSG:=Lh hsG
    have HXG:=Lh hXG
    have HGL:=Lh (fun k (hk:G k)=>(TA.out ba).lt HG0.out k hk)
    have HRD:=Lh (HB1.ready HNQ.out)
    have HUL:=Lh (show h.n.l.used.length≤1000 from by rw [HB1.lu];exact Nat.le_trans (z26 oL_good) (by decide))
    clear HA0 HB1 hG hsG hXG HV HT
    obtain ⟨w9,hw9⟩:∃ w9,w9=wr:=⟨wr,rfl⟩
    subst hw9
    obtain ⟨m,hm⟩:∃ m:Nat,m=(if i=0 then 0 else 1):=⟨_,rfl⟩
    have HM:=Lh hm
    have hm1:m≤1:=by rw [hm];split <;> omega
    clear hm
    have CCH:=Lh (chg_any HS RS b nb (fun k=>k < (w.heap.size+2)∨G k) w9 h HSG.out qe qL HRD.out HUL.out qo qc (CQ.out _ HD.out) HQN.out HQC.out none 0 [] (by decide) (fun W _=>Row.nil _ _ _ _) (fun x hx=>by cases hx))
    have HX2:=Lh (fun k (h:k < (w.heap.size+2))=>show (fun k=>k < (w.heap.size+2)∨G k) k from .inl h)
    go_upto_region 16 with (go_at_call 32;refine CCH.out.mono ?_;rintro e w14 ⟨rfl,h13,K,hC,hs,hk⟩;have C13:=Lh hC;have Q13:=Lh (show HalfQ oL qe qL ((⟨#[120]⟩:ByteArray) ++ s) m h13.n from by rw [HM.out];exact HHB.out.changed HNQ.out hC);have S14:=Lh hs;have K14:=Lh hk;have D14:=Lh (HD.out.kept hk HX2.out);clear hC hs hk)
    have D15:=Lh ((D14.out.on (z00 w14 (.cells (kindsC 0 0) 85))).on (z00 (w14.alloc (.cells (kindsC 0 0) 85)) (.cells (textsC 0 ⟨#[]⟩) 86)))
    have S15:=Lh (((S14.out.beside (TT.out b nb) (.cells (kindsC 0 0) 85)).beside (TT.out b nb) (.cells (textsC 0 ⟨#[]⟩) 86)).less (Y:=(fun k=>(k < (w.heap.size+2)∨G k)∨k=w14.heap.size∨k=w14.heap.size+1)) (fun k h=>by
     rcases h with h | h | h
     ·exact .inl (.inl h)
     ·exact .inl (.inr h)
     ·exact .inr (by rw [h];simp)))
    have K15:=Lh (K14.out.below (((Below.refl w14.heap.size w14).alloc (Nat.le_refl _) (.cells (kindsC 0 0) 85)).alloc (by simp) (.cells (textsC 0 ⟨#[]⟩) 86)))
    obtain ⟨g1,g2⟩:=z0z w14 (kindsC 0 0) (textsC 0 ⟨#[]⟩) 85 86
    have H15:=Lh g1
    have I15:=Lh g2
    have HSZ:=Lh K14.out.size
    clear g1 g2 d0 d1 d2 d3 dl dm K14 S14 CCH HSG
    obtain ⟨d0,d1,d2,d3,dl,dm⟩:=HPC.out _ D14.out
    have CSE:=Lh (seeN_any HS TS b nb (fun k=>(k < (w.heap.size+2)∨G k)∨k=w14.heap.size∨k=w14.heap.size+1) ((w14.alloc (.cells (kindsC 0 0) 85)).alloc (.cells (textsC 0 ⟨#[]⟩) 86)) h13 S15.out qe qL m (Q13.out.see HGQ.out) qe qL HGQ.out qo qc (CQ.out _ D15.out) HQN.out HQC.out)
    have HYN:=Lh (show ¬ (fun k=>k < (w.heap.size+2)∨G k) w14.heap.size∧¬ (fun k=>k < (w.heap.size+2)∨G k) (w14.heap.size+1) from by
     have h1:=D14.out.2
     have h2:=K15.out.size
     have h3:∀ k,G k→k < w14.heap.size:=fun k hk=>Nat.lt_of_lt_of_le (HGL.out k hk) HSZ.out
     exact ⟨fun g=>by rcases g with g | g;(· omega);(· have:=h3 _ g;omega),fun g=>by rcases g with g | g;(· omega);(· have:=h3 _ g;omega)⟩)
    go_wp2_with (go_at_call 33;refine CSE.out.mono ?_;rintro e w16 ⟨rfl,h16,hn16,hs,hk⟩;have S16:=Lh hs;have K16:=Lh (K15.out.trans (hk.mono (fun k h=>.inl h)));have H16:=Lh (hk.heap (.inr (.inl rfl)) H15.out);have I16:=Lh (hk.heap (.inr (.inr rfl)) I15.out);have N16:=Lh hn16;clear hs hk hn16)
    have Q16:=Lh (show HalfQ oL qe qL ((⟨#[120]⟩:ByteArray) ++ s) m h16.n∧GK qe qL h16.n 0 0=GK qe qL h13.n 0 0 from by rw [N16.out];exact ⟨Q13.out,rfl⟩)
    clear S15 K15 H15 I15 CSE d0 d1 d2 d3 dl dm
    go_loopw [21] (fun i wr=>∃ (k:Nat) (V:Int) (h:Hd),i=.int .i64 k∧k≤m∧Hid (k < m→HalfQ oL qe qL ((⟨#[120]⟩:ByteArray) ++ s) m h.n∧GK qe qL h.n 0 0=GK qe qL h13.n 0 0)∧Hid (k=m→HalfR oL qe qL ((⟨#[120]⟩:ByteArray) ++ s) m V h.n)∧Hid (k=m→m=1→GK qe qL h13.n 0 0=1→V=1)∧Hid (wr.heap[w14.heap.size]?=some (.cells (kindsC k V) 85 (0,0)))∧Hid (wr.heap[w14.heap.size+1]?=some (.cells (textsC k (foundG V ((⟨#[120]⟩:ByteArray) ++ s))) 86 (0,0)))∧Hid (Solo (HG b nb) (fun k=>(k < (w.heap.size+2)∨G k)∨k=w14.heap.size∨k=w14.heap.size+1) wr h)∧Hid (Kept (fun k=>k < (w.heap.size+2)∨G k) w9 wr)) (fun i _=>m - (intOf i).toNat)
    case atStart =>
     exact ⟨0,2,h16,rfl,Nat.zero_le _,Lh (fun _=>Q16.out),Lh (fun e=>by
      have g:=Q16.out.1
      rw [← e] at g ⊢
      exact g.none_ HGQ.out),Lh (fun e e1=>by omega),H16,I16,S16,K16⟩
    case round =>
     clear S16 K16 H16 I16 Q16 N16
     obtain ⟨k,V,h,rfl,hk,HQ2,HR2,HV2,HH,HI,HS2,HK2⟩:=hrel
     have DW:=Lh (HD.out.kept HK2.out HX2.out)
     obtain ⟨d0,d1,d2,d3,dl,dm⟩:=HPC.out _ DW.out
     have k8:(k:Int) < 8:=by omega
     by_cases hlt:k < m
     ·have k0:(k:Int) < (m:Int):=by omega
      have k1:(0:Int)≤(k:Int):=by omega
      have hkz:k=0:=by omega
      have hmo:m=1:=by omega
      have HKZ:=Lh hkz
      have HMO:=Lh hmo
      have CGH:=Lh (show Calls Tryz.prog 37 #[.pointer (some ⟨b,0,none⟩),.agg #[.int .i64 qe,.slice qo qL.length qc],.int .i64 (k:Int),.bool true,.slice none 0 0] wr fun e w'=>∃ V:Int,e=.returned (.tuple #[.int .i64 V,.string (foundG V ((⟨#[120]⟩:ByteArray) ++ s)),.int .i64 0,.bool true])∧∃ h':Hd,HalfR oL qe qL ((⟨#[120]⟩:ByteArray) ++ s) m V h'.n∧(GK qe qL h.n 0 0=1→V=1)∧Solo (HG b nb) (fun k=>(k < (w.heap.size+2)∨G k)∨k=w14.heap.size∨k=w14.heap.size+1) w' h'∧Kept (fun k=>(k < (w.heap.size+2)∨G k)∨k=w14.heap.size∨k=w14.heap.size+1) wr w' from by
       rw [show (k:Int)=0 by omega,hmo]
       have g:=(HQ2.out hlt).1
       rw [hmo] at g
       exact get_half HS FS b nb (fun k=>(k < (w.heap.size+2)∨G k)∨k=w14.heap.size∨k=w14.heap.size+1) wr h HS2.out HZ.out g HGQ.out qo qc (CQ.out _ DW.out) HQN.out HQC.out)
      have HGE:=Lh (HQ2.out hlt).2
      clear hkz hmo
      go_wp2_with (go_at_call 37;refine CGH.out.mono ?_;rintro e w20 ⟨V2,rfl,h20,hR,hV1,hs,hk⟩;have R20:=Lh hR;have V20:=Lh hV1;have S20:=Lh hs;have H20:=Lh (hk.heap (.inr (.inl rfl)) HH.out);have I20:=Lh (hk.heap (.inr (.inr rfl)) HI.out);have K20:=Lh (HK2.out.trans (hk.mono (fun k h=>.inl h)));obtain ⟨y0,y1,yl⟩:=kinds_cell HKZ.out H20.out;obtain ⟨u0,u1,ul⟩:=texts_cell HKZ.out I20.out;clear hR hV1 hs hk)
      exact ⟨⟨k+1,V2,h20,by go_num,by omega,Lh (fun e=>absurd e (by have:=HMO.out;omega)),Lh (fun _=>R20.out),Lh (fun _ _ e=>V20.out (HGE.out.trans e)),Lh (((Kept.refl (fun j=>j≠w14.heap.size+1) _).setCell (p:=⟨w14.heap.size+1,k,none⟩) (fun h=>h rfl) _).heap (by simp) (kinds_put HKZ.out H20.out V2)),Lh (texts_put HKZ.out (((Kept.refl (fun j=>j≠w14.heap.size) _).setCell (p:=⟨w14.heap.size,k,none⟩) (fun h=>h rfl) _).heap (by simp) I20.out) _),Lh ((S20.out.stored (TT.out b nb) (.inr (.inl rfl)) _).stored (TT.out b nb) (.inr (.inr rfl)) _),Lh ((K20.out.setCell (p:=⟨w14.heap.size,k,none⟩) HYN.out.1 _).setCell (p:=⟨w14.heap.size+1,k,none⟩) HYN.out.2 _)⟩,by simp [intOf];omega⟩
     ·obtain rfl:k=m:=by omega
      have k0:¬ (k:Int) < (k:Int):=by omega
      have HR3:=Lh (HR2.out rfl)
      have HV3:=Lh (HV2.out rfl)
      clear hlt hk HR2 HV2 HQ2
      obtain ⟨h3,hh3⟩:∃ h3,h3=h:=⟨h,rfl⟩
      subst hh3
      obtain ⟨w21,hw21⟩:∃ w21,w21=wr:=⟨wr,rfl⟩
      subst hw21
      have T3:=Lh (Side.join (Y:=(fun k=>k < (w.heap.size+2)∨k=w14.heap.size∨k=w14.heap.size+1)) (TA.out ba) HG0.out (fun k h=>.inl h) (fun j hj hg=>by
       have h1:=HGL.out j hg
       have h2:=HSZ.out
       rcases hj with hj | hj | hj
       ·exact HXG.out j hj hg
       ·omega
       ·omega) (HS2.out.less (fun j hj=>by
       rcases hj with (hj | hj) | hj
       ·exact .inl (.inl hj)
       ·exact .inr hj
       ·exact .inl (.inr hj))) (HK2.out.mono (fun j hj=>.inr hj)))
      have HPL:=Lh (show PlR qe qL h3.n (k:Int) ((⟨#[120]⟩:ByteArray) ++ s) h3.n a 7∨(a.at_=6∧a.e=0∧a.addr=0∧i=lenG 0 oL 0) from by
       have g:=HR3.out
       rw [HM.out] at g ⊢
       exact HAA.out.on HZ.out oL_good HLT.out g)
      have HRP:=Lh HR3.out.put
      have HRU:=Lh (show h3.n.l.used.length≤100000 from by have:=HR3.out.q.used;omega)
      go_wp2_with fail
      go_loopw [26] (fun i2 wr=>∃ (j:Nat) (h:Hd) (a:Ap),i2=.int .i64 j∧j≤30∧Hid ((∃ d,PlR qe qL h3.n (k:Int) ((⟨#[120]⟩:ByteArray) ++ s) h.n a d∧d+j≤30)∨(a.at_=6∧a.e=0∧a.addr=0∧h.n=h3.n∧i=lenG 0 oL 0))∧Hid (Side (HG b nb) (AG ba) (fun k=>k < (w.heap.size+2)∨k=w14.heap.size∨k=w14.heap.size+1) wr h a)∧Hid (Kept (fun k=>k < (w.heap.size+2)∨k=w14.heap.size∨k=w14.heap.size+1) w21 wr)) (fun i2 _=>30 - (intOf i2).toNat)
      case atStart=>exact ⟨0,h3,a,rfl,Nat.zero_le _,Lh (HPL.out.imp (fun g=>⟨7,g,by omega⟩) (fun g=>⟨g.1,g.2.1,g.2.2.1,rfl,g.2.2.2⟩)),T3,Lh (Kept.refl _ _)⟩
      case round =>
       clear T3 HPL d0 d1 d2 d3 dl dm
       obtain ⟨j,h,a,rfl,hj,HV,HT,HK3⟩:=hrel
       by_cases hlt:j < 30
       ·have k0:(j:Int) < 30:=by omega
        by_cases h6a:a.at_=6
        ·have HAS:=Lh (show a.asks=false from decide_eq_false (fun g=>g h6a))
         have HVN:=Lh (show (∃ d,PlR qe qL h3.n (k:Int) ((⟨#[120]⟩:ByteArray) ++ s) h.n a d∧d+(j+1)≤30)∨(a.at_=6∧a.e=0∧a.addr=0∧h.n=h3.n∧i=lenG 0 oL 0) from HV.out.imp (fun ⟨d,g,_⟩=>⟨0,g.rest0 h6a,by omega⟩) id)
         clear h6a
         go_wp2_with (go_at_call 39;refine (sa_ask AS (TT.out b nb) HT.out).mono ?_;rw [HAS.out];rintro e v1 ⟨kd,un,ke,pg,qs,hq1,rfl,hs1,hk1⟩;have T1:=Lh (hs1.below (TT.out b nb) (TA.out ba) (z00 v1 (.cells #[.int .i64 kd,.int .i64 un,.int .i64 ke,.int .i64 pg,.int .i64 0,.int .i64 0,.string qs,.int .i64 0,.slice none 0 0] 34)));have V1:=Lh ((HK3.out.trans hk1).below (z00 v1 (.cells #[.int .i64 kd,.int .i64 un,.int .i64 ke,.int .i64 pg,.int .i64 0,.int .i64 0,.string qs,.int .i64 0,.slice none 0 0] 34)));clear hq1 hs1 hk1)
         exact ⟨⟨j+1,h,a,by go_num,by omega,HVN,T1,V1⟩,by simp [intOf];omega⟩
        ·have HAS:=Lh (show a.asks=true from decide_eq_true h6a)
         obtain ⟨d,hp,hdj⟩:∃ d,PlR qe qL h3.n (k:Int) ((⟨#[120]⟩:ByteArray) ++ s) h.n a d∧d+j≤30:=HV.out.elim id (fun g=>absurd g.1 h6a)
         obtain ⟨g1,g2,g3,g4,g5⟩:=hp.stepH HRP.out HZ.out HRU.out h6a
         clear h6a hp
         obtain ⟨xc,xn,xd,pe,xL,xm,xz,xe,hx⟩:∃ xc xn xd pe xL xm xz xe,h.heard a.ask 0=⟨xc,xn,xd,pe,xL,xm,xz,xe⟩:=⟨_,_,_,_,_,_,_,_,rfl⟩
         rw [hx] at g1 g4
         have HTN:=Lh g1
         have HFX:=Lh g4
         have HSQ:=Lh g3
         have HU:=Lh g5
         have HXX:=Lh hx
         clear hx g1 g3 g4 g5
         go_wp2_with (first
          | (go_at_call 40;refine (sa_hearL AS (TT.out b nb) T2.out HFX.out HC2.out (fun k h=>.inr h)).mono ?_;rintro e v3 ⟨rfl,hs3,hk3⟩;have T3:=Lh hs3;have V3:=Lh (V2.out.trans (hk3.mono (fun k h=>.inl h)));clear hs3 hk3)
          | (go_at_call 41;refine (hs_tell HS (TA.out ba) T1.out (fate:=0) SQ.out.kind SQ.out.unit SQ.out.epoch SQ.out.page SQ.out.data HU.out (ZZ.out 0 (by omega)) HX1.out).mono ?_;rintro e v2 ⟨vo,vc,C,rfl,hC,hs2,hk2⟩;have HC2:=Lh hC;have T2:=Lh hs2;have V2:=Lh (V1.out.trans hk2);clear hs2 hk2 hC)
          | (go_at_call 39;refine (sa_ask AS (TT.out b nb) HT.out).mono ?_;rw [HAS.out];rintro e v1 ⟨kd,un,ke,pg,qs,hq1,rfl,hs1,hk1⟩;have HQ1:=Lh hq1;have SQ:=Lh (show SmQ (akN kd un ke pg qs) from hq1 ▸ HSQ.out);have HX1:=Lh (show h.heard (akN kd un ke pg qs) 0=⟨xc,xn,xd,pe,xL,xm,xz,xe⟩ from hq1 ▸ HXX.out);have T1:=Lh (hs1.below (TT.out b nb) (TA.out ba) (z00 v1 (.cells #[.int .i64 kd,.int .i64 un,.int .i64 ke,.int .i64 pg,.int .i64 0,.int .i64 0,.string qs,.int .i64 0,.slice none 0 0] 34)));have V1:=Lh ((HK3.out.trans hk1).below (z00 v1 (.cells #[.int .i64 kd,.int .i64 un,.int .i64 ke,.int .i64 pg,.int .i64 0,.int .i64 0,.string qs,.int .i64 0,.slice none 0 0] 34)));clear hq1 hs1 hk1))
         refine ⟨⟨j+1,_,_,by go_num,by omega,Lh (.inl ⟨d - 1,HTN.out,by omega⟩),Lh ?_,V3⟩,by simp [intOf];omega⟩
         rw [HQ1.out]
         exact T3.out.less (fun k h=>.inl h)
       ·obtain rfl:j=30:=by omega
        obtain ⟨A,o1,o2,o3,hZ⟩:=half_ends HNQ.out HHB.out C13.out HM.out HR3.out HV3.out HV.out
        have HZZ:=Lh hZ
        have OA:=Lh (show a.overA=(A:Int) from (show a.overA=a.addr from if_pos ⟨o1,o2⟩).trans o3)
        have OE:=Lh (show a.overE=0 from (if_pos o1:a.overE=a.e).trans o2)
        have OB:=Lh (show a.overB=true from decide_eq_true o1)
        have DX:=Lh ((HD.out.kept HK2.out HX2.out).kept HK3.out (fun k h=>.inl h))
        have HH3:=Lh (HK3.out.heap (.inr (.inl rfl)) HH.out)
        have HI3:=Lh (HK3.out.heap (.inr (.inr rfl)) HI.out)
        clear o1 o2 o3 hZ hlt hj HV
        go_wp2_with (go_at_call 42;refine (sa_over AS (TT.out b nb) HT.out).mono ?_;rw [OB.out,OE.out,OA.out];rintro e w24 ⟨rfl,hs4,hb4⟩;have S24:=Lh hs4.left;have D24:=Lh (DX.out.on hb4);have H24:=Lh (z01 hb4 HH3.out);have I24:=Lh (z01 hb4 HI3.out);clear hs4 hb4)
        have HX3:=Lh (fun k (h:k < (w.heap.size+2))=>show (fun k=>k < (w.heap.size+2)∨k=w14.heap.size∨k=w14.heap.size+1) k from .inl h)
        go_loopw [32] (fun i2 wr=>∃ (j:Nat) (h:Hd),i2=.int .i64 j∧j≤k∧Hid (HalfZ qe qL ((⟨#[120]⟩:ByteArray) ++ s) k V A h.n)∧Hid (Solo (HG b nb) (fun k=>k < (w.heap.size+2)∨k=w14.heap.size∨k=w14.heap.size+1) wr h)∧Hid (Kept (fun k=>k < (w.heap.size+2)∨k=w14.heap.size∨k=w14.heap.size+1) w24 wr)) (fun i2 _=>k - (intOf i2).toNat)
        case atStart=>exact ⟨0,h,rfl,Nat.zero_le _,HZZ,S24,Lh (Kept.refl _ _)⟩
        case round =>
         clear S24 HZZ
         obtain ⟨j,h,rfl,hj,HZ4,HS4,HK4⟩:=hrel
         have D4:=Lh (D24.out.kept HK4.out HX3.out)
         obtain ⟨d0,d1,d2,d3,dl,dm⟩:=HPC.out _ D4.out
         have j8:(j:Int) < 8:=by omega
         by_cases hlt:j < k
         ·have k0:(j:Int) < (k:Int):=by omega
          have k1:(0:Int)≤(j:Int):=by omega
          have hkz:j=0:=by omega
          have hmo:k=1:=by omega
          have HKZ:=Lh hkz
          have HMO:=Lh hmo
          have CGF:=Lh (get_full HS FS b nb (fun k=>k < (w.heap.size+2)∨k=w14.heap.size∨k=w14.heap.size+1) wr h HS4.out HZ.out HZ4.out j (by omega) HZ4.out.v (show Full qe qL h.n (j:Int) V ((⟨#[120]⟩:ByteArray) ++ s) from by rw [show (j:Int)=0 by omega];exact HZ4.out.got hmo) qo qc (CQ.out _ D4.out) HQN.out HQC.out)
          clear hkz hmo
          go_wp2_with (go_at_call 37;refine CGF.out.mono ?_;rintro e w25 ⟨rfl,h25,hZ,hs,hk⟩;have Z25:=Lh hZ;have S25:=Lh hs;have K25:=Lh (HK4.out.trans hk);obtain ⟨y0,yl⟩:=kinds_at (j:=j) HKZ.out HMO.out (K25.out.heap (.inr (.inl rfl)) H24.out);obtain ⟨u0,ul⟩:=texts_at (j:=j) HKZ.out HMO.out (K25.out.heap (.inr (.inr rfl)) I24.out);clear hZ hs hk)
          exact ⟨⟨j+1,h25,by go_num,by omega,Z25,S25,K25⟩,by simp [intOf];omega⟩
         ·obtain rfl:j=k:=by omega
          have k0:¬ (j:Int) < (j:Int):=by omega
          clear hlt hj
          have CGE:=Lh (get_full HS FS b nb (fun k=>k < (w.heap.size+2)∨k=w14.heap.size∨k=w14.heap.size+1) wr h HS4.out HZ.out HZ4.out A HZ4.out.a1 (.inl rfl) HZ4.out.rec_ qo qc (CQ.out _ D4.out) HQN.out HQC.out)
          rw [foundG_one] at CGE
          go_wp2_with (first
           | (go_at_call 37;refine CGE.out.mono ?_;rintro e w26 ⟨rfl,h26,hZ,hs,hk⟩;have D26:=Lh (D4.out.kept hk HX3.out);clear hZ hs hk)
           | (go_at_call 9;refine (CW.out _).mono ?_;rintro e w30 ⟨rfl,hb30⟩;have D30:=Lh (D26.out.on hb30);clear hb30))
          go_ret
          exact ⟨rfl,HB0.out.trans (D30.out.1.mono (by omega))⟩
set_option maxRecDepth 100000 in
theorem reformHalf_lifted (os:Os) (started:os.Started) (H:Type) (enc:TypeId × Value→H) :
  ReturnsInHanded {} Tryz.checked os 5 .any (Rows.reformHalfSpec.pre6 enc Tryz.prog Tryz.f5 Rows.reformHalfRow.domain false) (Rows.reformHalfSpec.post enc Tryz.prog Tryz.f5 false true false false):=by
 refine returnsInHanded_of_change (C:=Tryz.checked) own started (by kernel_rfl) Tryz.func5
  (ChangeSpec.witness6 (enc:=enc) (C:=Tryz.checked) false ⟨#[],#[.string ByteArray.empty,.agg #[.int .u8 0,.int .u8 0],.agg #[.int .i64 0,.slice none 0 0]],[]⟩ 8 (by kernel_rfl) (by kernel_rfl) (by kernel_rfl) (by kernel_rfl)) ?_
 intro W base args ds gs before hval0 hW hcnd _
 have hval:∀ (j:Nat) t v,Tryz.f5.params[j]?=some t→args[j]?=some v→Value.okWide Tryz.prog W .any base t v:=hval0
 have hW':=hW
 obtain ⟨p,q,hA0,hV,rfl,hfz,hnd⟩:=hW
 have hA:DataW.TrodAll enc Tryz.prog W 0 (fun _=>true) true Tryz.f5.params.toList args.toList ds p:=hA0
 rw [Tryz.params5] at hA hval
 obtain ⟨v0,vs0,d0,ds0,p0,q0,hargs,rfl,rfl,h0,r0⟩:=trodAll_cons hA
 obtain ⟨v1,vs1,d1,ds1,p1,q1,rfl,rfl,rfl,h1,r1⟩:=trodAll_cons r0
 obtain ⟨v2,vs2,d2,ds2,p2,q2,rfl,rfl,rfl,h2,r2⟩:=trodAll_cons r1
 obtain ⟨rfl,rfl,rfl⟩:=trodAll_nil r2
 obtain rfl:args=#[v0,v1,v2]:=by cases args;simp_all
 obtain ⟨rfl,rfl⟩:=trodVars_none hV
 have k0:=h0
 have lt0:∀ x ∈ p0,x.block < W.heap.size:=by obtain ⟨m,hm⟩:=k0;exact DataW.trod_lt m _ _ _ hm
 have k1:=h1
 have lt1:∀ x ∈ p1,x.block < W.heap.size:=by obtain ⟨m,hm⟩:=k1;exact DataW.trod_lt m _ _ _ hm
 have k2:=h2
 have lt2:∀ x ∈ p2,x.block < W.heap.size:=by obtain ⟨m,hm⟩:=k2;exact DataW.trod_lt m _ _ _ hm
 obtain ⟨a0,rfl,rfl,rfl,w0⟩:=open_string Tryz.underlying9 (hval 0 9 v0 rfl rfl) h0
 obtain ⟨ns1,rfl,hl1,hw1⟩:=open_arr (k:=.u8) Tryz.underlying80 Tryz.underlying5 (by kernel_rfl) (by kernel_rfl) (hval 1 80 v1 rfl rfl) h1
 obtain ⟨x1_0,x1_1,rfl⟩:=two_of hl1
 have w1_0:=hw1 x1_0 (by simp)
 have w1_1:=hw1 x1_1 (by simp)
 obtain ⟨ep2,ao2,cap2,L2,rfl,wf2,hC2,hn2,hc2,hl2,hm2⟩:=open_proj Tryz.underlying24 (by kernel_rfl) rfl rfl (by kernel_rfl) (by kernel_rfl) Tryz.underlying3 Tryz.underlying22 Tryz.underlying65 (by kernel_rfl) (hval 2 24 v2 rfl rfl) h2
 have hF2:PIn W ep2 ao2 cap2 L2:=⟨⟨hC2,hn2,hc2⟩,i64_of_wf wf2,hl2,fun c hcm=>by obtain ⟨i,hi,rfl⟩:=List.getElem_of_mem hcm;exact hm2 i hi⟩
 clear hA0 hval0
 refine (reformHalf_walk handSays appSays fetchSays tailSays rfmSays a0 x1_0 x1_1 ep2 ao2 cap2 L2 w0 w1_0 w1_1 W hF2).mono fun e W' ⟨he,bel⟩=>?_
 subst he
 exact ⟨_,rfl,_,_,_,[],_,[],hW',trodAll_mk1 (shut_bool Tryz.underlying4 _),(trodAll_cons_mk (Below.trod z1q (by kernel_rfl) (of_decide_eq_true (by kernel_rfl)) k0 bel lt0) (trodAll_cons_mk (Below.trod z1q (by kernel_rfl) (of_decide_eq_true (by kernel_rfl)) k1 bel lt1) (trodAll_cons_mk (Below.trod z1q (by kernel_rfl) (of_decide_eq_true (by kernel_rfl)) k2 bel lt2) trodAll_mk0))),rfl,bel.frame _,fun h=>by cases h⟩
theorem reformHalf_over:Rows.reformHalfRow.holds Tryz.pinned (OpenSpec.ofChange Rows.reformHalfSpec) :=
 OpenClaim.holds_of_wide 5 Tryz.f5 rfl rfl rfl rfl rfl rfl rfl ⟨rfl,rfl,rfl,rfl,rfl⟩ rfl rfl rfl rfl rfl (by kernel_rfl) Tryz.func5 (by kernel_rfl)
  (of_decide_eq_true (by kernel_rfl)) (by unfold Func.isWrapper;first | (rw [if_pos (by decide +kernel)];kernel_rfl) | (rw [if_neg (by decide +kernel)];exact ⟨rfl,rfl⟩))
  (fun os started H enc _=>reformHalf_lifted os started H enc)
theorem reformHalf_holds:Rows.ReformHalfSaid:=reformHalf_over
end Go.Proofs.YtkefpbcifcjibaaGreat
