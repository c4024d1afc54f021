/- Joined texts. -/
import Derived.BigQuiet
import Derived.Deep.RegionHeld3
import Derived.Test.YtkefpbcifcjibaaGreatG22b
import Derived.Test.YtkefpbcifcjibaaGreatG04a
import Derived.Test.YtkefpbcifcjibaaGreatG17a
import Derived.Test.YtkefpbcifcjibaaGreatG02a
import Derived.Test.YtkefpbcifcjibaaGreatG22a
import Derived.Test.YtkefpbcifcjibaaGreatG09a
import Derived.Test.YtkefpbcifcjibaaGreatG21a
import Derived.Test.YtkefpbcifcjibaaGreatG20a
import Derived.Test.YtkefpbcifcjibaaGreatG19a
import Derived.Test.YtkefpbcifcjibaaGreatG08a
import Derived.Test.YtkefpbcifcjibaaGreatG10a
import Derived.Test.YtkefpbcifcjibaaGreatH00
set_option linter.unusedVariables false
set_option maxRecDepth 20000
set_option maxHeartbeats 16000000
namespace Go.Proofs.YtkefpbcifcjibaaGreat
open Go.RowKit
theorem z1k (b:Nat) (G:Nat→Prop) (w:World) (q:Qf) (h:FQ b G w q) :
  Calls Tryz.prog 103 #[ptrP b] w fun e w'=>e=.returned (.bool (decide (q.at_=6)))∧w=w':=by
 obtain ⟨ao,cap,h1,_⟩:=h.open
 obtain ⟨⟨c0,c1,c2,c3,c4,c5,c6,c7,c8,c9⟩,_⟩:=ten_of h1
 have hb:=lt_of_block h1
 clear h h1
 unfold ptrP
 generalize q.at_=m at *
 by_cases h5:m=6
 ·subst h5
  go_enter Tryz.func103,Tryz.ntmps103
  go_wp2_with fail
  go_ret
  exact ⟨rfl,rfl⟩
 ·have d5:decide (m=6)=false:=decide_eq_false h5
  go_enter Tryz.func103,Tryz.ntmps103
  go_wp2_with fail
  go_ret
  exact ⟨rfl,rfl⟩
theorem fp_isOver_nil (w:World):Calls Tryz.prog 103 #[.pointer none] w fun e w'=>e=.returned (.bool true)∧w=w':=by
 go_enter Tryz.func103,Tryz.ntmps103
 go_wp2_with fail
 go_ret
 exact ⟨rfl,rfl⟩
theorem fp_asks (b:Nat) (G:Nat→Prop) (w:World) (q:Qf) (h:FQ b G w q) :
  Calls Tryz.prog 104 #[ptrP b] w fun e w'=>e=.returned (.bool (decide (q.at_=0∨q.at_=1)))∧w=w':=by
 obtain ⟨ao,cap,h1,_⟩:=h.open
 obtain ⟨⟨c0,c1,c2,c3,c4,c5,c6,c7,c8,c9⟩,_⟩:=ten_of h1
 have hb:=lt_of_block h1
 clear h h1
 unfold ptrP
 generalize q.at_=m at *
 by_cases h0:m=0
 ·subst h0
  go_enter Tryz.func104,Tryz.ntmps104
  go_wp2_with fail
  go_ret
  exact ⟨rfl,rfl⟩
 ·by_cases h1:m=1
  ·subst h1
   go_enter Tryz.func104,Tryz.ntmps104
   go_wp2_with fail
   go_ret
   exact ⟨rfl,rfl⟩
  ·rw [decide_eq_false (show ¬ (m=0∨m=1) by omega)]
   have d0:(m == 0)=false:=by simpa using h0
   have d1:(m == 1)=false:=by simpa using h1
   go_enter Tryz.func104,Tryz.ntmps104
   go_wp2_with fail
   go_ret
   exact ⟨rfl,rfl⟩
theorem fp_end (b:Nat) (G:Nat→Prop) (w:World) (q:Qf) (k:Int) (s:ByteArray) (y:Int) (h:FQ b G w q) :
  Calls Tryz.prog 102 #[ptrP b,.agg #[.int .i64 k,.string s],.int .i64 y] w fun e w'=>e=.returned (.tuple #[])∧Leaves (FQ b) G w w' (q.ends k s y):=by
 have HG:=Lh (fun j hj=>(z0p b).lt h j hj)
 have HB:=Lh (z00 w (.cells #[.int .i64 k,.string s] 178))
 have hw1:=lt_of_block (heap_alloc_new w (.cells #[.int .i64 k,.string s] 178))
 obtain ⟨x0,x1,_,_⟩:=z05 (heap_alloc_new w (.cells #[.int .i64 k,.string s] 178))
 obtain ⟨ao,cap,h1,_,h3⟩:=(h.below HB.out).open
 obtain ⟨⟨c0,c1,c2,c3,c4,c5,c6,c7,c8,c9⟩,f0,f1,f2,f3,f4,f5,f6,f7,f8,f9⟩:=ten_of h1
 have H3:=Lh h3
 have H1:=Lh h1
 have hb:=lt_of_block h1
 have hbw:=h.small
 clear h h1 h3
 unfold ptrP
 go_enter Tryz.func102,Tryz.ntmps102
 go_wp2_with fail
 generalize w.alloc _=w1 at *
 go_region
 go_wp2_with fail
 go_end0
 exact ⟨rfl,(H3.out _ (q.ends k s y) (((((Kept.refl _ w1).setCell (p:=⟨b,4,none⟩) (fun h=>h rfl) (.int .i64 6)).setCell (p:=⟨b,7,none⟩) (fun h=>h rfl) (.int .i64 k)).setCell (p:=⟨b,8,none⟩) (fun h=>h rfl) (.string s)).setCell (p:=⟨b,9,none⟩) (fun h=>h rfl) (.int .i64 y)).drew rfl (show (World.drew _).heap[b]?=_ from tset9 (tset8 (tset7 (tset4 H1.out _) _) _) _)).ahead HG.out HB.out⟩
theorem fp_units (b:Nat) (G:Nat→Prop) (w:World) (q:Qf) (h:FQ b G w q) (hf:fewL q.L) :
  Calls Tryz.prog 122 #[ptrP b] w fun e w'=>e=.returned (.int .i64 q.len)∧Below w.heap.size w w':=by
 obtain ⟨ao,cap,h1,hc,_⟩:=h.open
 have HC:=Lh (hc.below (Below.refl w.heap.size w).drew)
 have H1:=Lh h1
 have CH:=Lh (fun W (hC:CL W ao q.L)=>pChain_any q.ep ao cap q.L q.addr W hC hf)
 obtain ⟨⟨c0,c1,c2,c3,c4,c5,c6,c7,c8,c9⟩,_⟩:=ten_of h1
 have hb:=lt_of_block h1
 clear h h1 hc hf
 unfold ptrP Qf.len
 generalize (chainR q.ep q.L q.addr).length=n at *
 go_enter Tryz.func122,Tryz.ntmps122
 go_wp2_with fail
 go_region_held3 (fun W=>W.cell? ⟨b,0,none⟩=some (.int .i64 q.ep)∧W.cell? ⟨b,1,none⟩=some (.slice ao q.L.length cap)∧W.cell? ⟨b,2,none⟩=some (.int .i64 q.addr))
  (first | exact ⟨c0,c1,c2⟩ | assumption | exact ⟨z02 HR.out 0,z02 HR.out 1,z02 HR.out 2⟩)
  (first | (go_at_call 109;refine (CH.out _ HC.out).mono ?_;rintro e w6 ⟨bo,cb,rfl,_,hb6⟩;have HB6:=Lh (z0c (w1:=w) hb6 (Below.refl _ _).drew);have HR:=Lh (z01 HB6.out H1.out);clear hb6))
 go_wp2_with fail
 go_ret
 exact ⟨rfl,HB6.out⟩
theorem fp_over (b:Nat) (G:Nat→Prop) (w:World) (q:Qf) (h:FQ b G w q) (hs:q.at_=6→q.txt.size≤1000000) :
  Calls Tryz.prog 69 #[ptrP b] w fun e w'=>e=.returned (.tuple #[.int .i64 (if q.at_=6 then q.kind else 0),.string (if q.at_=6 then q.txt else noS),.int .i64 (if q.at_=6 then q.err else 0),.bool (decide (q.at_=6))])∧Below w.heap.size w w':=by
 have C:=Lh (z1k b G w q h)
 obtain ⟨ao,cap,h1,_⟩:=h.open
 have H1:=Lh h1
 obtain ⟨⟨c0,c1,c2,c3,c4,c5,c6,c7,c8,c9⟩,_⟩:=ten_of h1
 have hb:=lt_of_block h1
 clear h h1
 unfold ptrP at *
 by_cases h5:q.at_=6
 ·rw [decide_eq_true h5,if_pos h5,if_pos h5,if_pos h5]
  rw [decide_eq_true h5] at C
  have CK:=Lh (fun w=>clone_any q.txt w (by have:=hs h5;omega))
  clear h5 c4 hs
  go_enter Tryz.func69,Tryz.ntmps69
  go_wp2_with (go_at_call 103;refine C.out.mono ?_;rintro e w1 ⟨rfl,rfl⟩)
  go_region_held3 (fun W=>W.cell? ⟨b,7,none⟩=some (.int .i64 q.kind)∧W.cell? ⟨b,8,none⟩=some (.string q.txt)∧W.cell? ⟨b,9,none⟩=some (.int .i64 q.err))
   (first | exact ⟨c7,c8,c9⟩ | assumption | exact ⟨z02 HR.out 7,z02 HR.out 8,z02 HR.out 9⟩)
   (first | (go_at_call 71;refine (CK.out _).mono ?_;rintro e w3 ⟨rfl,hb3⟩;have HB3:=Lh (z0c (w1:=w) hb3 (Below.refl _ _).drew);have HR:=Lh (z01 HB3.out H1.out);clear hb3))
  go_wp2_with fail
  (try simp only [Exit.inBlock,Exit.then])
  refine bodyPost_ret (results_tmp4 rfl _ _ _) rfl ?_
  exact ⟨rfl,HB3.out⟩
 ·rw [decide_eq_false h5,if_neg h5,if_neg h5,if_neg h5]
  rw [decide_eq_false h5] at C
  clear h5 c4 hs
  go_enter Tryz.func69,Tryz.ntmps69
  go_wp2_with (go_at_call 103;refine C.out.mono ?_;rintro e w1 ⟨rfl,rfl⟩)
  (try simp only [Exit.inBlock,Exit.then])
  refine bodyPost_ret (results_tmp4 rfl _ _ _) rfl ?_
  exact ⟨rfl,Below.refl _ _⟩
theorem sf_hearL {α:Type} {T:(Nat→Prop)→World→α→Prop} {X:Nat→Prop} {w:World} {bf:Nat} {f:Fe} {t:α} {FG:Nat→(Nat→Prop)→World→Fe→Prop} (FS:FetchSays FG) (hT:Thing T) (hs:Side T (FG bf) X w t f) {xc xn pe xm xz xe:Int} {xd:ByteArray} {L:List (List Int)} {vo:Option Addr} {vc:Nat} {c:Bool} (hf:FewX ⟨xc,xn,xd,pe,L,xm,xz,xe⟩) {C:Nat→Prop} (hC:CG C w (.slice vo L.length vc) L) (hX:∀ k,C k→X k) :
  Calls Tryz.prog 68 #[.pointer (some ⟨bf,0,none⟩),.agg #[.int .i64 xc,.int .i64 xn,.string xd,.int .i64 pe,.slice vo L.length vc,.int .i64 xm,.int .i64 xz,.int .i64 xe],.bool c] w fun e w'=>e=.returned (.tuple #[])∧Side T (FG bf) X w' t (f.hear ⟨xc,xn,xd,pe,L,xm,xz,xe⟩ c)∧Kept X w w' :=
 side_rightX (R:=fun e=>e=.returned (.tuple #[])) hT hs (fun G hG hX2=>FS.hear bf G w f ⟨xc,xn,xd,pe,L,xm,xz,xe⟩ vo vc c hG hf.L hf.pe hf.data (fun W hW=>z1e (hC.keep hW (fun k hk=>hX2 k (hX k hk)))))
structure RunGet (n:Nat) (Inv:Nat→Hd→Fe→Prop):Prop where
 more:∀ k h f,Inv k h f→k < n+30
 used:∀ k h f,Inv k h f→h.n.l.used.length≤100000
 small:∀ k h f,Inv k h f→f.at_≠7→SmQ f.ask∧∀ m,FewX (h.heard f.ask m)
 step:∀ k h f (m:Int),Inv k h f→f.at_≠7→(¬ k < n→m=0)→Inv (k+1) (h.asked f.ask m) (f.hear (h.heard f.ask m) (decide (m=0)))
theorem get_run {UG:Nat→Nat→(Nat→Prop)→World→Us→Prop} {OG:Nat→(Nat→Prop)→World→Od→Prop} {LG:Nat→(Nat→Prop)→World→Ly→Prop} {NG:Nat→(Nat→Prop)→World→Nd→Prop} {HG:Nat→Nat→(Nat→Prop)→World→Hd→Prop} {FG:Nat→(Nat→Prop)→World→Fe→Prop} (HS:HandSays UG OG LG NG HG) (FS:FetchSays FG)
  (b nb:Nat) (X:Nat→Prop) (w:World) (h0:Hd) (hs:Solo (HG b nb) X w h0) (ep:Int) (he:i64w ep) (L:List (List Int)) (hF:fewL L) (a:Int) (ha:i64w a) (fill:Bool)
  (ao:Option Addr) (cap:Nat) (hC:CL w ao L) (hn:ao=none→cap=0) (hc:L.length≤cap) (fo:Option Addr) (fc:Nat) (fl:List Int) (hl:fl.length≤60) (hR:∀ W,Kept X w W→Row W fo 1 byteC fl) (hK:∀ x ∈ fl,0≤x∧x < 256)
  (Inv:Nat→Hd→Fe→Prop) (hI:RunGet fl.length Inv) (h0I:Inv 0 h0 (newFe ep L a fill)) :
  Calls Tryz.prog 37 #[.pointer (some ⟨b,0,none⟩),.agg #[.int .i64 ep,.slice ao L.length cap],.int .i64 a,.bool fill,.slice fo fl.length fc] w fun e w'=>∃ (k:Nat) (h':Hd) (f':Fe),Inv k h' f'∧f'.at_=7∧e=.returned (.tuple #[.int .i64 f'.kind,.string f'.s,.int .i64 f'.e,.bool true])∧Solo (HG b nb) X w' h'∧Kept X w w':=by
 have ZZ:=Lh (fun (x:Int) (h:0≤x∧x≤300)=>show i64w x from WalkArith.wf_i64 (by omega))
 have TT:=Lh (fun b nb=>HS.thing b nb)
 have TA:=Lh (fun b=>FS.thing b)
 have HB:=Lh (z00 w (.cells #[.int .i64 ep,.slice ao L.length cap] 24))
 have HP:=Lh (heap_alloc_new w (.cells #[.int .i64 ep,.slice ao L.length cap] 24))
 have HC:=Lh (hC.below HB.out)
 have S1:=Lh (hs.below (TT.out b nb) HB.out)
 have HI:=Lh hI
 have H0:=Lh h0I
 have HF:=Lh hF
 have HR:=Lh hR
 have HK:=Lh hK
 have HNC:=Lh hn
 have HCP:=Lh hc
 have HA:=Lh ha
 have HE:=Lh he
 obtain ⟨p0,p1,_,_⟩:=z05 HP.out
 have hl':(fl.length:Int)≤60:=by omega
 have k41:IntKind.i64.wrap ((fl.length:Int)+30)=(fl.length:Int)+30:=IntWalk.i64_in _ (by omega)
 clear hs hI h0I hF hC hn hc hR hK ha he
 go_enter Tryz.func37,Tryz.ntmps37
 go_wp2_with (first
  | (go_at_call 66;refine (sf_new FS (TT.out b nb) S1.out HC.out HF.out HNC.out HCP.out HE.out HA.out).mono ?_;rintro e w2 ⟨bf,rfl,hs2,hb2⟩;have S2:=Lh hs2;have K2:=Lh (Kept.ofBelow (HB.out.trans (hb2.mono HB.out.size)) X);clear hs2 hb2))
 clear p0 p1
 go_loopw [15] (fun i wr=>∃ (k:Nat) (h:Hd) (f:Fe),i=.int .i64 k∧Hid (Inv k h f)∧Hid (Side (HG b nb) (FG bf) X wr h f)∧Hid (Kept X w wr)) (fun i _=>fl.length+30 - (intOf i).toNat)
 case atStart=>exact ⟨0,h0,newFe ep L a fill,rfl,H0,S2,K2⟩
 case round =>
  clear S1 S2 K2 H0
  obtain ⟨k,h,f,rfl,HV,HT,HB⟩:=hrel
  have hmo:=HI.out.more k h f HV.out
  have k40:(k:Int) < (fl.length:Int)+30:=by omega
  by_cases h7:f.at_=7
  ·have HAS:=Lh (show f.asks=false from decide_eq_false (fun g=>g h7))
   have H7:=Lh h7
   have OK:=Lh (show f.overK=f.kind from if_pos h7)
   have OS:=Lh (show f.overS=f.s from if_pos h7)
   have OE:=Lh (show f.overE=f.e from if_pos h7)
   have OB:=Lh (show f.overB=true from decide_eq_true h7)
   clear h7
   go_wp2_with (first
    | (go_at_call 69;refine (sf_over FS (TT.out b nb) T1.out).mono ?_;rw [OK.out,OS.out,OE.out,OB.out];rintro e w4 ⟨rfl,hs4,hb4⟩;have T4:=Lh hs4;have V4:=Lh (V1.out.below hb4);clear hs4 hb4)
    | (go_at_call 67;refine (sf_ask FS (TT.out b nb) HT.out).mono ?_;rw [HAS.out];rintro e v1 ⟨kd,un,qe,pg,qs,hq1,rfl,hs1,hk1⟩;have T1:=Lh (hs1.below (TT.out b nb) (TA.out bf) (z00 v1 (.cells #[.int .i64 kd,.int .i64 un,.int .i64 qe,.int .i64 pg,.int .i64 0,.int .i64 0,.string qs,.int .i64 0,.slice none 0 0] 34)));have V1:=Lh ((HB.out.trans hk1).below (z00 v1 (.cells #[.int .i64 kd,.int .i64 un,.int .i64 qe,.int .i64 pg,.int .i64 0,.int .i64 0,.string qs,.int .i64 0,.slice none 0 0] 34)));clear hq1 hs1 hk1))
   try simp only [Exit.inBlock,Exit.then]
   refine bodyPost_ret (results_tmp4 rfl _ _ _) rfl ?_
   exact ⟨k,h,f,HV.out,H7.out,rfl,T4.out.left,V4.out⟩
  ·have HAS:=Lh (show f.asks=true from decide_eq_true h7)
   have HSQ:=Lh (HI.out.small k h f HV.out h7).1
   have HSH:=Lh (HI.out.small k h f HV.out h7).2
   have HU:=Lh (HI.out.used k h f HV.out)
   have HTN:=Lh (fun m hm=>HI.out.step k h f m HV.out h7 hm)
   clear h7
   by_cases hkl:k < fl.length
   ·have n1:(k:Int) < (fl.length:Int):=by omega
    obtain ⟨bk,off,hao,c0⟩:=byte_at (HR.out _ HB.out) hkl
    have CB:=Lh (fun W (hk:Kept X w W)=>(show ∃ bk2 off2,fo=some ⟨bk2,off2,none⟩∧W.cell? ⟨bk2,off2+k,none⟩=some (.int .u8 fl[k]) from byte_at (HR.out W hk) hkl))
    have hv:=HK.out _ (List.getElem_mem hkl)
    generalize fl[k]=v at *
    subst hao
    obtain ⟨v0,v1⟩:=hv
    obtain ⟨m,hm,hm4⟩:∃ m:Nat,v.tmod 4=(m:Int)∧m < 4:=⟨(v % 4).toNat,by rw [Int.tmod_eq_emod_of_nonneg v0];omega,by omega⟩
    have hm0:(0:Int)≤(m:Int)∧(m:Int)≤300:=by omega
    obtain ⟨xc,xn,xd,pe,xL,xm,xz,xe,hx⟩:∃ xc xn xd pe xL xm xz xe,h.heard f.ask (m:Int)=⟨xc,xn,xd,pe,xL,xm,xz,xe⟩:=⟨_,_,_,_,_,_,_,_,rfl⟩
    have HFX:=Lh (show FewX ⟨xc,xn,xd,pe,xL,xm,xz,xe⟩ from hx ▸ HSH.out (m:Int))
    have HN2:=Lh (HTN.out (m:Int) (fun g=>absurd hkl g))
    rw [hx,show decide ((m:Int)=0)=decide (m=0) from by simp] at HN2
    have HX:=Lh hx
    clear hx
    go_wp2_with (first
     | (go_at_call 68;refine (sf_hearL FS (TT.out b nb) T2.out HFX.out HC2.out (fun k h=>.inr h)).mono ?_;rintro e v3 ⟨rfl,hs3,hk3⟩;have T3:=Lh hs3;have V3:=Lh (V2.out.trans (hk3.mono (fun k h=>.inl h)));clear hs3 hk3)
     | (go_at_call 41;refine (hs_tell HS (TA.out bf) T1.out (fate:=(m:Int)) SQ.out.kind SQ.out.unit SQ.out.epoch SQ.out.page SQ.out.data HU.out (ZZ.out (m:Int) (by omega)) HX1.out).mono ?_;rintro e v2 ⟨vo,vc,C,rfl,hC,hs2,hk2⟩;have HC2:=Lh hC;have T2:=Lh hs2;have V2:=Lh (V1.out.trans hk2);clear hs2 hk2 hC)
     | (go_at_call 67;refine (sf_ask FS (TT.out b nb) HT.out).mono ?_;rw [HAS.out];rintro e v1 ⟨kd,un,qe,pg,qs,hq1,rfl,hs1,hk1⟩;have HQ1:=Lh hq1;have SQ:=Lh (show SmQ (akN kd un qe pg qs) from hq1 ▸ HSQ.out);have HX1:=Lh (show h.heard (akN kd un qe pg qs) (m:Int)=⟨xc,xn,xd,pe,xL,xm,xz,xe⟩ from hq1 ▸ HX.out);have T1:=Lh (hs1.below (TT.out b nb) (TA.out bf) (z00 v1 (.cells #[.int .i64 kd,.int .i64 un,.int .i64 qe,.int .i64 pg,.int .i64 0,.int .i64 0,.string qs,.int .i64 0,.slice none 0 0] 34)));have V1:=Lh ((HB.out.trans hk1).below (z00 v1 (.cells #[.int .i64 kd,.int .i64 un,.int .i64 qe,.int .i64 pg,.int .i64 0,.int .i64 0,.string qs,.int .i64 0,.slice none 0 0] 34)));obtain ⟨bk2,off2,hao2,c9⟩:=CB.out _ V1.out;obtain ⟨rfl,rfl⟩:bk2=bk∧off2=off:=(by simpa using hao2.symm);have hbk:=block_lt_of_cell c9;clear hq1 hs1 hk1))
    refine ⟨⟨k+1,_,_,by go_num,HN2,Lh ?_,V3⟩,by simp [intOf];omega⟩
    rw [HQ1.out]
    exact T3.out.less (fun k h=>.inl h)
   ·have n1:¬ (k:Int) < (fl.length:Int):=by omega
    obtain ⟨xc,xn,xd,pe,xL,xm,xz,xe,hx⟩:∃ xc xn xd pe xL xm xz xe,h.heard f.ask 0=⟨xc,xn,xd,pe,xL,xm,xz,xe⟩:=⟨_,_,_,_,_,_,_,_,rfl⟩
    have HFX:=Lh (show FewX ⟨xc,xn,xd,pe,xL,xm,xz,xe⟩ from hx ▸ HSH.out 0)
    have HN2:=Lh (HTN.out 0 (fun _=>rfl))
    rw [hx] at HN2
    have HX:=Lh hx
    clear hx
    go_wp2_with (first
     | (go_at_call 68;refine (sf_hearL FS (TT.out b nb) T2.out HFX.out HC2.out (fun k h=>.inr h)).mono ?_;rintro e v3 ⟨rfl,hs3,hk3⟩;have T3:=Lh hs3;have V3:=Lh (V2.out.trans (hk3.mono (fun k h=>.inl h)));clear hs3 hk3)
     | (go_at_call 41;refine (hs_tell HS (TA.out bf) T1.out (fate:=0) SQ.out.kind SQ.out.unit SQ.out.epoch SQ.out.page SQ.out.data HU.out (ZZ.out 0 (by omega)) HX1.out).mono ?_;rintro e v2 ⟨vo,vc,C,rfl,hC,hs2,hk2⟩;have HC2:=Lh hC;have T2:=Lh hs2;have V2:=Lh (V1.out.trans hk2);clear hs2 hk2 hC)
     | (go_at_call 67;refine (sf_ask FS (TT.out b nb) HT.out).mono ?_;rw [HAS.out];rintro e v1 ⟨kd,un,qe,pg,qs,hq1,rfl,hs1,hk1⟩;have HQ1:=Lh hq1;have SQ:=Lh (show SmQ (akN kd un qe pg qs) from hq1 ▸ HSQ.out);have HX1:=Lh (show h.heard (akN kd un qe pg qs) 0=⟨xc,xn,xd,pe,xL,xm,xz,xe⟩ from hq1 ▸ HX.out);have T1:=Lh (hs1.below (TT.out b nb) (TA.out bf) (z00 v1 (.cells #[.int .i64 kd,.int .i64 un,.int .i64 qe,.int .i64 pg,.int .i64 0,.int .i64 0,.string qs,.int .i64 0,.slice none 0 0] 34)));have V1:=Lh ((HB.out.trans hk1).below (z00 v1 (.cells #[.int .i64 kd,.int .i64 un,.int .i64 qe,.int .i64 pg,.int .i64 0,.int .i64 0,.string qs,.int .i64 0,.slice none 0 0] 34)));clear hq1 hs1 hk1))
    refine ⟨⟨k+1,_,_,by go_num,HN2,Lh ?_,V3⟩,by simp [intOf];omega⟩
    rw [HQ1.out]
    exact T3.out.less (fun k h=>.inl h)
theorem over_heap {w:World} {g o:Nat} {cur:Array Value} {t:TypeId} (h:w.heap[g]?=some (.cells cur t (0,0))) (u0 u1 u2 u3 u4 u5 u6 u7 u8:Value) :
  ∃ cur2,(World.setCell (World.setCell (World.setCell (World.setCell (World.setCell (World.setCell (World.setCell (World.setCell (World.setCell (w) ⟨g,o,none⟩ u0) ⟨g,o+1,none⟩ u1) ⟨g,o+2,none⟩ u2) ⟨g,o+3,none⟩ u3) ⟨g,o+4,none⟩ u4) ⟨g,o+5,none⟩ u5) ⟨g,o+6,none⟩ u6) ⟨g,o+7,none⟩ u7) ⟨g,o+8,none⟩ u8).heap[g]?=some (.cells cur2 t (0,0))∧cur2.size=cur.size∧∀ j,(j < o∨o+9≤j)→cur2[j]?=cur[j]?:=by
 refine ⟨_,heap_setCell_same _ g (o+8) _ t u8 (heap_setCell_same _ g (o+7) _ t u7 (heap_setCell_same _ g (o+6) _ t u6 (heap_setCell_same _ g (o+5) _ t u5 (heap_setCell_same _ g (o+4) _ t u4 (heap_setCell_same _ g (o+3) _ t u3 (heap_setCell_same _ g (o+2) _ t u2 (heap_setCell_same _ g (o+1) _ t u1 (heap_setCell_same _ g o _ t u0 h)))))))),by simp,fun j hj=>?_⟩
 rw [Array.getElem?_setIfInBounds_ne (by omega),Array.getElem?_setIfInBounds_ne (by omega),Array.getElem?_setIfInBounds_ne (by omega),Array.getElem?_setIfInBounds_ne (by omega),Array.getElem?_setIfInBounds_ne (by omega),Array.getElem?_setIfInBounds_ne (by omega),Array.getElem?_setIfInBounds_ne (by omega),Array.getElem?_setIfInBounds_ne (by omega),Array.getElem?_setIfInBounds_ne (by omega)]
theorem over_kept (w:World) (g o:Nat) (u0 u1 u2 u3 u4 u5 u6 u7 u8:Value):Kept (fun k=>k≠g) w (World.setCell (World.setCell (World.setCell (World.setCell (World.setCell (World.setCell (World.setCell (World.setCell (World.setCell (w) ⟨g,o,none⟩ u0) ⟨g,o+1,none⟩ u1) ⟨g,o+2,none⟩ u2) ⟨g,o+3,none⟩ u3) ⟨g,o+4,none⟩ u4) ⟨g,o+5,none⟩ u5) ⟨g,o+6,none⟩ u6) ⟨g,o+7,none⟩ u7) ⟨g,o+8,none⟩ u8):=((((((((((Kept.refl _ w).setCell (p:=⟨g,o,none⟩) (fun h=>h rfl) u0).setCell (p:=⟨g,o+1,none⟩) (fun h=>h rfl) u1).setCell (p:=⟨g,o+2,none⟩) (fun h=>h rfl) u2).setCell (p:=⟨g,o+3,none⟩) (fun h=>h rfl) u3).setCell (p:=⟨g,o+4,none⟩) (fun h=>h rfl) u4).setCell (p:=⟨g,o+5,none⟩) (fun h=>h rfl) u5).setCell (p:=⟨g,o+6,none⟩) (fun h=>h rfl) u6).setCell (p:=⟨g,o+7,none⟩) (fun h=>h rfl) u7).setCell (p:=⟨g,o+8,none⟩) (fun h=>h rfl) u8)
section
variable {w w':World} {l:List Ak} {g k:Nat} {cur cur2:Array Value} {t:TypeId}
theorem over_head (h3:cur.toList.take (l.length * 9)=l.flatMap askC) (hk:k < l.length) (he:∀ j,(j < k * 9∨k * 9+9≤j)→cur2[j]?=cur[j]?):cur2.toList.take (k * 9)=(l.take k).flatMap askC:=by
 have e1:(l.take k).flatMap askC=(l.flatMap askC).take (k * 9):=by
  have h1:l.flatMap askC=(l.take k).flatMap askC ++ (l.drop k).flatMap askC:=by rw [← List.flatMap_append,List.take_append_drop]
  have h2:=ask_rows.flat_len (l.take k)
  rw [List.length_take,Nat.min_eq_left (Nat.le_of_lt hk)] at h2
  rw [h1,← h2,List.take_left]
 rw [e1,← h3,List.take_take,Nat.min_eq_left (by omega)]
 apply List.ext_getElem?
 intro j
 rw [List.getElem?_take,List.getElem?_take]
 by_cases hj:j < k * 9
 ·rw [if_pos hj,if_pos hj,Array.getElem?_toList,Array.getElem?_toList]
  exact he j (.inl hj)
 ·rw [if_neg hj,if_neg hj]
theorem over_tail (h:w.heap[g]?=some (.cells cur t (0,0))) (h2:w'.heap[g]?=some (.cells cur2 t (0,0))) (h3:cur.toList.take (l.length * 9)=l.flatMap askC) (he:∀ j,(j < k * 9∨k * 9+9≤j)→cur2[j]?=cur[j]?):Row w' (some ⟨g,(k+1) * 9,none⟩) 9 askC (l.drop (k+1)):=by
 intro i hi
 obtain ⟨bk,off,e,h1⟩:=(head_row h h3).drop (k+1) i hi
 cases e
 refine ⟨g,(k+1) * 9,rfl,fun j v hv=>?_⟩
 have h4:=h1 j v hv
 rw [Nat.zero_add,z02 h] at h4
 rw [z02 h2,he _ (.inr (by omega))]
 exact h4
theorem row_at (h:w.heap[g]?=some (.cells cur t (0,0))) (h3:cur.toList.take (l.length * 9)=l.flatMap askC) (hk:k < l.length) (j:Nat) (hj:j < 9):w.cell? ⟨g,k * 9+j,none⟩=(askC l[k])[j]?:=by
 obtain ⟨bk,off,e,h1⟩:=head_row h h3 k hk
 cases e
 have:=h1 j ((askC l[k])[j]'hj) (List.getElem?_eq_getElem hj)
 rw [Nat.zero_add] at this
 rw [this,List.getElem?_eq_getElem hj]
end
section
variable {NG:Nat→(Nat→Prop)→World→Nd→Prop} {Z:List Ak} {b nb:Nat} {G:Nat→Prop} {w:World} {h:Hd}
def zeroQ:Ak:=⟨0,0,0,0,0,0,⟨#[]⟩,0,[],none,0⟩
theorem take_nil (k:Int) (w:World):Calls Tryz.prog 163 #[.pointer none,.int .i64 k] w fun e w'=>e=.returned (.tuple #[askV zeroQ,.bool false])∧Below w.heap.size w w':=by
 have HQ:=Lh (heap_alloc_new w (.cells #[.int .i64 0,.int .i64 0,.int .i64 0,.int .i64 0,.int .i64 0,.int .i64 0,.string ⟨#[]⟩,.int .i64 0,.slice none 0 0] 34))
 obtain ⟨⟨y0,y1,y2,y3,y4,y5,y6,y7,y8⟩,z0,z1,z2,z3,z4,z5,z6,z7,z8⟩:=z0g HQ.out
 have hb:=z00 w (.cells #[.int .i64 0,.int .i64 0,.int .i64 0,.int .i64 0,.int .i64 0,.int .i64 0,.string ⟨#[]⟩,.int .i64 0,.slice none 0 0] 34)
 go_enter Tryz.func163,Tryz.ntmps163
 go_wp2_with fail
 exact z0o (x:=zeroQ) (c:=false) rfl HQ.out rfl rfl rfl ⟨rfl,hb⟩
theorem take_no (b nb:Nat) (G:Nat→Prop) (w:World) (h:Hd) (k:Int) (hh:HMz NG Z b nb G w h) (hk:¬ (0≤k∧k < h.held.length)) :
  Calls Tryz.prog 163 #[.pointer (some ⟨b,0,none⟩),.int .i64 k] w fun e w'=>e=.returned (.tuple #[askV zeroQ,.bool false])∧Below w.heap.size w w':=by
 have HQ:=Lh (heap_alloc_new w (.cells #[.int .i64 0,.int .i64 0,.int .i64 0,.int .i64 0,.int .i64 0,.int .i64 0,.string ⟨#[]⟩,.int .i64 0,.slice none 0 0] 34))
 obtain ⟨⟨y0,y1,y2,y3,y4,y5,y6,y7,y8⟩,z0,z1,z2,z3,z4,z5,z6,z7,z8⟩:=z0g HQ.out
 have HB:=Lh (z00 w (.cells #[.int .i64 0,.int .i64 0,.int .i64 0,.int .i64 0,.int .i64 0,.int .i64 0,.string ⟨#[]⟩,.int .i64 0,.slice none 0 0] 34))
 obtain ⟨v,l,hc,hR,hm,_⟩:=hh.cells
 obtain ⟨vo,vc,rfl,_,_,_,_,_⟩:=hR.form
 obtain ⟨c0,c1,_,_⟩:=z05 hc
 have hb:=hh.small
 rw [← hm,List.length_map] at hk
 have hl64:(l.length:Int)≤64:=by have:=hh.1;rw [← hm,List.length_map] at this;omega
 clear hh hc hR hm
 by_cases h0:k < 0
 ·clear hk
  go_enter Tryz.func163,Tryz.ntmps163
  go_wp2_with fail
  exact z0o (x:=zeroQ) (c:=false) rfl HQ.out rfl rfl rfl ⟨rfl,HB.out⟩
 ·have h1:(l.length:Int)≤k:=by omega
  have h2:0≤k:=by omega
  clear hk h0
  go_enter Tryz.func163,Tryz.ntmps163
  go_wp2_with fail
  exact z0o (x:=zeroQ) (c:=false) rfl HQ.out rfl rfl rfl ⟨rfl,HB.out⟩
end
theorem sa_hearL {α:Type} {T:(Nat→Prop)→World→α→Prop} {X:Nat→Prop} {w:World} {ba:Nat} {a:Ap} {t:α} {AG:Nat→(Nat→Prop)→World→Ap→Prop} (AS:AppSays AG) (hT:Thing T) (hs:Side T (AG ba) X w t a) {xc xn pe xm xz xe:Int} {xd:ByteArray} {L:List (List Int)} {vo:Option Addr} {vc:Nat} {c:Bool} (hf:FewX ⟨xc,xn,xd,pe,L,xm,xz,xe⟩) {C:Nat→Prop} (hC:CG C w (.slice vo L.length vc) L) (hX:∀ k,C k→X k) :
  Calls Tryz.prog 40 #[.pointer (some ⟨ba,0,none⟩),.agg #[.int .i64 xc,.int .i64 xn,.string xd,.int .i64 pe,.slice vo L.length vc,.int .i64 xm,.int .i64 xz,.int .i64 xe],.bool c] w fun e w'=>e=.returned (.tuple #[])∧Side T (AG ba) X w' t (a.hear ⟨xc,xn,xd,pe,L,xm,xz,xe⟩ c)∧Kept X w w' :=
 side_rightX (R:=fun e=>e=.returned (.tuple #[])) hT hs (fun G hG hX2=>AS.hear ba G w a ⟨xc,xn,xd,pe,L,xm,xz,xe⟩ vo vc c hG hf.L hf.pe (fun W hW=>z1e (hC.keep hW (fun k hk=>hX2 k (hX k hk)))))
structure RunPut (Inv:Nat→Hd→Ap→Prop):Prop where
 more:∀ k h a,Inv k h a→k≤60∧(a.at_≠6→k < 60)
 used:∀ k h a,Inv k h a→h.n.l.used.length≤100000
 small:∀ k h a,Inv k h a→a.at_≠6→SmQ a.ask∧FewX (h.heard a.ask 0)
 step:∀ k h a,Inv k h a→a.at_≠6→Inv (k+1) (h.asked a.ask 0) (a.hear (h.heard a.ask 0) true)
theorem put_run {UG:Nat→Nat→(Nat→Prop)→World→Us→Prop} {OG:Nat→(Nat→Prop)→World→Od→Prop} {LG:Nat→(Nat→Prop)→World→Ly→Prop} {NG:Nat→(Nat→Prop)→World→Nd→Prop} {HG:Nat→Nat→(Nat→Prop)→World→Hd→Prop} {AG:Nat→(Nat→Prop)→World→Ap→Prop} (HS:HandSays UG OG LG NG HG) (AS:AppSays AG)
  (b nb:Nat) (X:Nat→Prop) (w:World) (h0:Hd) (hs:Solo (HG b nb) X w h0) (ep:Int) (he:i64w ep) (L:List (List Int)) (hF:fewL L) (rc:ByteArray) (hr:rc.size≤1000000)
  (ao:Option Addr) (cap:Nat) (hC:CL w ao L) (hn:ao=none→cap=0) (hc:L.length≤cap) (Inv:Nat→Hd→Ap→Prop) (hI:RunPut Inv) (h0I:Inv 0 h0 (newAp ep L rc)) :
  Calls Tryz.prog 26 #[.pointer (some ⟨b,0,none⟩),.agg #[.int .i64 ep,.slice ao L.length cap],.string rc] w fun e w'=>∃ (k:Nat) (h':Hd) (a':Ap),Inv k h' a'∧a'.at_=6∧e=.returned (.int .i64 (if a'.e=0 then a'.addr else -1))∧Solo (HG b nb) X w' h'∧Kept X w w':=by
 have ZZ:=Lh (fun (x:Int) (h:0≤x∧x≤300)=>show i64w x from WalkArith.wf_i64 (by omega))
 have TT:=Lh (fun b nb=>HS.thing b nb)
 have TA:=Lh (fun b=>AS.thing b)
 have HB:=Lh (z00 w (.cells #[.int .i64 ep,.slice ao L.length cap] 24))
 have HP:=Lh (heap_alloc_new w (.cells #[.int .i64 ep,.slice ao L.length cap] 24))
 have HC:=Lh (hC.below HB.out)
 have S1:=Lh (hs.below (TT.out b nb) HB.out)
 have HI:=Lh hI
 have H0:=Lh h0I
 have HF:=Lh hF
 have HNC:=Lh hn
 have HCP:=Lh hc
 have HE:=Lh he
 have HRC:=Lh hr
 obtain ⟨p0,p1,_,_⟩:=z05 HP.out
 clear hs hI h0I hF hC hn hc he hr
 go_enter Tryz.func26,Tryz.ntmps26
 go_wp2_with (first
  | (go_at_call 38;refine (sa_new AS (TT.out b nb) S1.out HC.out HF.out HNC.out HCP.out HE.out HRC.out).mono ?_;rintro e w2 ⟨ba,rfl,hs2,hb2⟩;have S2:=Lh hs2;have K2:=Lh (Kept.ofBelow (HB.out.trans (hb2.mono HB.out.size)) X);clear hs2 hb2))
 clear p0 p1
 go_loopw [8] (fun i wr=>∃ (k:Nat) (h:Hd) (a:Ap),i=.int .i64 k∧Hid (Inv k h a)∧Hid (Side (HG b nb) (AG ba) X wr h a)∧Hid (Kept X w wr)) (fun i _=>60 - (intOf i).toNat)
 case atStart=>exact ⟨0,h0,newAp ep L rc,rfl,H0,S2,K2⟩
 case round =>
  clear S1 S2 K2 H0
  obtain ⟨k,h,a,rfl,HV,HT,HB⟩:=hrel
  have hmo:=(HI.out.more k h a HV.out).1
  by_cases h6:a.at_=6
  ·have HAS:=Lh (show a.asks=false from decide_eq_false (fun g=>g h6))
   have H6:=Lh h6
   have OB:=Lh (show a.overB=true from decide_eq_true h6)
   have OE:=Lh (show a.overE=a.e from if_pos h6)
   clear h6
   by_cases he0:a.e=0
   ·have OA:=Lh (show a.overA=a.addr from if_pos ⟨H6.out,he0⟩)
    have HE0:=Lh he0
    clear he0
    by_cases hkl:k < 60
    ·have n1:(k:Int) < 60:=by omega
     go_wp2_with (first
      | (go_at_call 42;refine (sa_over AS (TT.out b nb) T1.out).mono ?_;rw [OB.out,OE.out,OA.out,HE0.out];rintro e w4 ⟨rfl,hs4,hb4⟩;have T4:=Lh hs4;have V4:=Lh (V1.out.below hb4);clear hs4 hb4)
      | (go_at_call 39;refine (sa_ask AS (TT.out b nb) HT.out).mono ?_;rw [HAS.out];rintro e v1 ⟨kd,un,qe,pg,qs,hq1,rfl,hs1,hk1⟩;have T1:=Lh (hs1.below (TT.out b nb) (TA.out ba) (z00 v1 (.cells #[.int .i64 kd,.int .i64 un,.int .i64 qe,.int .i64 pg,.int .i64 0,.int .i64 0,.string qs,.int .i64 0,.slice none 0 0] 34)));have V1:=Lh ((HB.out.trans hk1).below (z00 v1 (.cells #[.int .i64 kd,.int .i64 un,.int .i64 qe,.int .i64 pg,.int .i64 0,.int .i64 0,.string qs,.int .i64 0,.slice none 0 0] 34)));clear hq1 hs1 hk1))
     go_ret
     refine ⟨k,h,a,HV.out,H6.out,by rw [if_pos HE0.out];rfl,T4.out.left,V4.out⟩
    ·have n1:¬ (k:Int) < 60:=by omega
     go_wp2_with (first
      | (go_at_call 42;refine (sa_over AS (TT.out b nb) HT.out).mono ?_;rw [OB.out,OE.out,OA.out,HE0.out];rintro e w4 ⟨rfl,hs4,hb4⟩;have T4:=Lh hs4;have V4:=Lh (HB.out.below hb4);clear hs4 hb4))
     go_ret
     refine ⟨k,h,a,HV.out,H6.out,by rw [if_pos HE0.out];rfl,T4.out.left,V4.out⟩
   ·have n2:(a.e == 0)=false:=by simpa using he0
    have HE0:=Lh he0
    clear he0
    by_cases hkl:k < 60
    ·have n1:(k:Int) < 60:=by omega
     go_wp2_with (first
      | (go_at_call 42;refine (sa_over AS (TT.out b nb) T1.out).mono ?_;rw [OB.out,OE.out];rintro e w4 ⟨rfl,hs4,hb4⟩;have T4:=Lh hs4;have V4:=Lh (V1.out.below hb4);clear hs4 hb4)
      | (go_at_call 39;refine (sa_ask AS (TT.out b nb) HT.out).mono ?_;rw [HAS.out];rintro e v1 ⟨kd,un,qe,pg,qs,hq1,rfl,hs1,hk1⟩;have T1:=Lh (hs1.below (TT.out b nb) (TA.out ba) (z00 v1 (.cells #[.int .i64 kd,.int .i64 un,.int .i64 qe,.int .i64 pg,.int .i64 0,.int .i64 0,.string qs,.int .i64 0,.slice none 0 0] 34)));have V1:=Lh ((HB.out.trans hk1).below (z00 v1 (.cells #[.int .i64 kd,.int .i64 un,.int .i64 qe,.int .i64 pg,.int .i64 0,.int .i64 0,.string qs,.int .i64 0,.slice none 0 0] 34)));clear hq1 hs1 hk1))
     go_ret
     refine ⟨k,h,a,HV.out,H6.out,by rw [if_neg HE0.out];rfl,T4.out.left,V4.out⟩
    ·have n1:¬ (k:Int) < 60:=by omega
     go_wp2_with (first
      | (go_at_call 42;refine (sa_over AS (TT.out b nb) HT.out).mono ?_;rw [OB.out,OE.out];rintro e w4 ⟨rfl,hs4,hb4⟩;have T4:=Lh hs4;have V4:=Lh (HB.out.below hb4);clear hs4 hb4))
     go_ret
     refine ⟨k,h,a,HV.out,H6.out,by rw [if_neg HE0.out];rfl,T4.out.left,V4.out⟩
  ·have HAS:=Lh (show a.asks=true from decide_eq_true h6)
   have hkl:=(HI.out.more k h a HV.out).2 h6
   have n1:(k:Int) < 60:=by omega
   have HSQ:=Lh (HI.out.small k h a HV.out h6).1
   have HFX:=Lh (HI.out.small k h a HV.out h6).2
   have HU:=Lh (HI.out.used k h a HV.out)
   have HTN:=Lh (HI.out.step k h a HV.out h6)
   clear h6
   obtain ⟨xc,xn,xd,pe,xL,xm,xz,xe,hx⟩:∃ xc xn xd pe xL xm xz xe,h.heard a.ask 0=⟨xc,xn,xd,pe,xL,xm,xz,xe⟩:=⟨_,_,_,_,_,_,_,_,rfl⟩
   rw [hx] at HFX HTN
   have HX:=Lh hx
   clear hx
   go_wp2_with (first
    | (go_at_call 40;refine (sa_hearL AS (TT.out b nb) T2.out HFX.out HC2.out (fun k h=>.inr h)).mono ?_;rintro e v3 ⟨rfl,hs3,hk3⟩;have T3:=Lh hs3;have V3:=Lh (V2.out.trans (hk3.mono (fun k h=>.inl h)));clear hs3 hk3)
    | (go_at_call 41;refine (hs_tell HS (TA.out ba) T1.out (fate:=0) SQ.out.kind SQ.out.unit SQ.out.epoch SQ.out.page SQ.out.data HU.out (ZZ.out 0 (by omega)) HX1.out).mono ?_;rintro e v2 ⟨vo,vc,C,rfl,hC,hs2,hk2⟩;have HC2:=Lh hC;have T2:=Lh hs2;have V2:=Lh (V1.out.trans hk2);clear hs2 hk2 hC)
    | (go_at_call 39;refine (sa_ask AS (TT.out b nb) HT.out).mono ?_;rw [HAS.out];rintro e v1 ⟨kd,un,qe,pg,qs,hq1,rfl,hs1,hk1⟩;have HQ1:=Lh hq1;have SQ:=Lh (show SmQ (akN kd un qe pg qs) from hq1 ▸ HSQ.out);have HX1:=Lh (show h.heard (akN kd un qe pg qs) 0=⟨xc,xn,xd,pe,xL,xm,xz,xe⟩ from hq1 ▸ HX.out);have T1:=Lh (hs1.below (TT.out b nb) (TA.out ba) (z00 v1 (.cells #[.int .i64 kd,.int .i64 un,.int .i64 qe,.int .i64 pg,.int .i64 0,.int .i64 0,.string qs,.int .i64 0,.slice none 0 0] 34)));have V1:=Lh ((HB.out.trans hk1).below (z00 v1 (.cells #[.int .i64 kd,.int .i64 un,.int .i64 qe,.int .i64 pg,.int .i64 0,.int .i64 0,.string qs,.int .i64 0,.slice none 0 0] 34)));clear hq1 hs1 hk1))
   refine ⟨⟨k+1,_,_,by go_num,HTN,Lh ?_,V3⟩,by simp [intOf];omega⟩
   rw [HQ1.out]
   exact T3.out.less (fun k h=>.inl h)
theorem made17_two {UG:Nat→Nat→(Nat→Prop)→World→Us→Prop} {OG:Nat→(Nat→Prop)→World→Od→Prop} {LG:Nat→(Nat→Prop)→World→Ly→Prop} {NG:Nat→(Nat→Prop)→World→Nd→Prop} {HG:Nat→Nat→(Nat→Prop)→World→Hd→Prop} (HS:HandSays UG OG LG NG HG) (ao:Option Addr) (L:List (List Int)) (n:Nat) (hL:L.length=n) (room:Int) (w:World) (hC:CL w ao L) (hf:fewL L) (hg:goodB 0 L=true) (hr:1≤room∧room≤4096) :
  Calls Tryz.prog 25 #[.agg #[.int .i64 0,.slice ao n n],.int .i64 room] w fun e w'=>∃ b nb:Nat,∃ p:Value,e=.returned (.tuple #[.pointer (some ⟨b,0,none⟩),p,.bool true])∧Solo (HG b nb) (fun k=>k < w.heap.size) w' ⟨newN 0 L room,[]⟩∧Below w.heap.size w w':=by
 subst hL
 refine (made14_yes HS 0 ao L.length L room w hC hf hg hr (z04 (x:=0) (by omega))).mono ?_
 rintro e w' ⟨b,nb,r,rn,he,hs,hb⟩
 exact ⟨b,nb,_,he,hs.left,hb⟩
end Go.Proofs.YtkefpbcifcjibaaGreat
