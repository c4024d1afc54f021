/- The law ReformHears: any answers and skips, one behind the other: the program's reform asks, and is over, as the document's. Conditions: none. (Written by gen/genreformhears.py.) -/
import Derived.Deep.RegionHeld3
import Derived.Deep.RegionHeldLaw
import Derived.Test.YtkefpbcifcjibaaGreatG27b
import Derived.Test.YtkefpbcifcjibaaGreatG33a
import Derived.Test.YtkefpbcifcjibaaGreatG31a
import Derived.Test.YtkefpbcifcjibaaGreatG32a
import Derived.Test.YtkefpbcifcjibaaGreatX10
import Derived.Test.YtkefpbcifcjibaaGreatG30a
import Derived.Test.YtkefpbcifcjibaaGreatG06a
import Derived.Test.YtkefpbcifcjibaaGreatX04
import Derived.Test.YtkefpbcifcjibaaGreatG04a
import Derived.Test.YtkefpbcifcjibaaGreatX06
import Derived.Test.YtkefpbcifcjibaaGreatG08a
import Derived.Test.YtkefpbcifcjibaaGreatX02
import Derived.Test.YtkefpbcifcjibaaGreatG21a
import Derived.Test.YtkefpbcifcjibaaGreatH00
set_option linter.unusedVariables false
set_option maxRecDepth 20000
set_option maxHeartbeats 16000000
namespace Go.Proofs.YtkefpbcifcjibaaGreat
open Go.ChangeShapes Go.WideShapes Go.ChangeAt Go.RowKit
open Go.ChangeMaps (open_string shut_string)
theorem reformHears_walk {UG:Nat→Nat→(Nat→Prop)→World→Us→Prop} {OG:Nat→(Nat→Prop)→World→Od→Prop} {LG:Nat→(Nat→Prop)→World→Ly→Prop} {NG:Nat→(Nat→Prop)→World→Nd→Prop} {HG:Nat→Nat→(Nat→Prop)→World→Hd→Prop} {AG:Nat→(Nat→Prop)→World→Ap→Prop} {FG:Nat→(Nat→Prop)→World→Fe→Prop} {RG:Nat→(Nat→Prop)→World→Rf→Prop} (HS:HandSays UG OG LG NG HG) (AS:AppSays AG) (FS:FetchSays FG) (RS:RfmSays RG) (ep:Int) (ao:Option Addr) (cap:Nat) (L:List (List Int)) (ro:Option Addr) (rc:Nat) (l:List Rs) (hl:l.length≤maxLen) (w:World) (hP:PIn w ep ao cap L) (hR:Row w ro 10 rstepC l) (hK:∀ s ∈ l,RsIn w s) :
  Calls Tryz.prog 3 #[.agg #[.int .i64 ep,.slice ao L.length cap],.slice ro l.length rc] w fun e w'=>e=.returned (.bool true)∧Below w.heap.size w w':=by
 have CW:=Lh (fun w=>wakes18_any HS AS FS RS w)
 have hl3:(l.length:Int)≤9223372036854775807:=by unfold maxLen at hl;omega
 have TR:=Lh (fun b=>RS.thing b)
 have HB0:=Lh (z00 w (.cells #[.int .i64 ep,.slice ao L.length cap] 24))
 have HX0:=Lh (heap_alloc_new w (.cells #[.int .i64 ep,.slice ao L.length cap] 24))
 have HC:=Lh (hP.1.1.below HB0.out)
 have HEP:=Lh (show i64w ep from WalkArith.wf_i64 hP.2.1)
 have CL1:=Lh (large_any ep ao cap L _ HC.out hP.2.2.1 hP.2.2.2)
 have HF:=Lh hR
 have HK:=Lh hK
 clear hR hK hP hl
 obtain ⟨p0,p1,_⟩:=z05 HX0.out
 by_cases h60:l.length≤60
 case neg =>
  have n60:(60:Int) < (l.length:Int):=by omega
  cases hlg:largeB L
  all_goals
   rw [hlg] at CL1
   go_enter Tryz.func3,Tryz.ntmps3
   go_wp2_with (first
    | (go_at_call 8;refine CL1.out.mono ?_;rintro e w1 ⟨rfl,hb1⟩;have B1:=Lh (HB0.out.trans (hb1.mono HB0.out.size));clear hb1)
    | (go_at_call 9;refine (CW.out _).mono ?_;rintro e w6 ⟨rfl,hb6⟩))
   go_ret
   exact ⟨rfl,B1.out.trans (hb6.mono B1.out.size)⟩
 case pos =>
 have n60:decide ((60:Int) < (l.length:Int))=false:=decide_eq_false (by omega)
 cases hlg:largeB L
 case true =>
  rw [hlg] at CL1
  go_enter Tryz.func3,Tryz.ntmps3
  go_wp2_with (first
   | (go_at_call 8;refine CL1.out.mono ?_;rintro e w1 ⟨rfl,hb1⟩;have B1:=Lh (HB0.out.trans (hb1.mono HB0.out.size));clear hb1)
   | (go_at_call 9;refine (CW.out _).mono ?_;rintro e w6 ⟨rfl,hb6⟩))
  go_ret
  exact ⟨rfl,B1.out.trans (hb6.mono B1.out.size)⟩
 case false =>
 rw [hlg] at CL1
 have hno:=largeB_no hlg
 have HFL:=Lh (show fewL L from ⟨by omega,fun c hc=>by have:=hno.2 c hc;omega⟩)
 have CC:=Lh (fun W (hC:CL W ao L)=>z1d ep ao cap L W hC ⟨by omega,fun c hc=>by have:=hno.2 c hc;omega⟩)
 have CD:=Lh (fun W (hC:CL W ao L)=>rr_new ep ao cap L W hC HFL.out)
 have CP:=Lh (fun W vo vc (hC:CL W vo L) (hn:vo=none→vc=0) (hc:L.length≤vc)=>RS.new ep vo vc L W hC HFL.out hn hc HEP.out)
 unfold ptrP at CP
 clear hno hlg
 go_enter Tryz.func3,Tryz.ntmps3
 go_wp2_with (go_at_call 8;refine CL1.out.mono ?_;rintro e w1 ⟨rfl,hb1⟩;have B1:=Lh (HB0.out.trans (hb1.mono HB0.out.size));have C1:=Lh (HC.out.below hb1);have X1:=Lh (z01 hb1 HX0.out);clear hb1)
 obtain ⟨q0,q1,_⟩:=z05 X1.out
 have Z1:=Lh (show w.heap.size < w1.heap.size from lt_of_block X1.out)
 have S1d:=Lh (show w1.drew.cell? ⟨w.heap.size,0,none⟩=some (.int .i64 ep)∧w1.drew.cell? ⟨w.heap.size,1,none⟩=some (.slice ao L.length cap) from ⟨q0,q1⟩)
 go_region_held3 (fun W=>W.cell? ⟨w.heap.size,0,none⟩=some (.int .i64 ep)∧W.cell? ⟨w.heap.size,1,none⟩=some (.slice ao L.length cap))
  (first | with_reducible exact S1d.out | with_reducible exact S2.out | with_reducible exact S3.out | with_reducible exact S4.out | with_reducible assumption)
  (first
   | (go_at_call 11;refine (CC.out _ (C1.out.below (Below.refl _ _).drew)).mono ?_;rintro e w2 ⟨v,rfl,hO,hb2⟩;obtain ⟨vo,vc,rfl,hcl,hn2,hc2,_⟩:=hO.form;have B2:=Lh (z0c (w1:=w1) hb2 (Below.refl _ _).drew);have V2:=Lh (And.intro hcl (And.intro hn2 hc2));have S2:=Lh (show w2.cell? ⟨w.heap.size,0,none⟩=some (.int .i64 ep)∧w2.cell? ⟨w.heap.size,1,none⟩=some (.slice ao L.length cap) from ⟨z02 (z01 B2.out X1.out) 0,z02 (z01 B2.out X1.out) 1⟩);clear hO hcl hn2 hc2 hb2)
   | (go_at_call 10;refine (CP.out _ vo vc V2.out.1 V2.out.2.1 V2.out.2.2).mono ?_;rintro e w3 ⟨br,G3,rfl,hu3,hg3,hb3⟩;have B3:=Lh (B2.out.trans (hb3.mono B2.out.size));have U3:=Lh (Solo.of (X:=fun k=>k < w.heap.size) hu3 (fun k hk hg=>by have h1:=hg3 k hg;have h2:=B2.out.size;have h3:=Z1.out;omega) (fun k hk=>by have h2:=B3.out.size;have h3:=Z1.out;omega));have S3:=Lh (show w3.cell? ⟨w.heap.size,0,none⟩=some (.int .i64 ep)∧w3.cell? ⟨w.heap.size,1,none⟩=some (.slice ao L.length cap) from ⟨z02 (z01 B3.out X1.out) 0,z02 (z01 B3.out X1.out) 1⟩);clear hu3 hg3 hb3)
   | (go_at_call 12;refine (CD.out _ (C1.out.below B3.out)).mono ?_;rintro e w4 ⟨rr,G4,rfl,hu4,hg4,hb4⟩;have B4:=Lh (B3.out.trans (hb4.mono B3.out.size));have D4:=Lh ((Side.made (TR.out br) U3.out hb4 hu4 hg4).swap);have S4:=Lh (show w4.cell? ⟨w.heap.size,0,none⟩=some (.int .i64 ep)∧w4.cell? ⟨w.heap.size,1,none⟩=some (.slice ao L.length cap) from ⟨z02 (z01 B4.out X1.out) 0,z02 (z01 B4.out X1.out) 1⟩);clear hu4 hg4 hb4))
 all_goals
  go_wp2_with fail
  have HBW:=Lh (B1.out.trans (B4.out.mono B1.out.size))
  go_loopw [7] (fun i wr=>∃ (n:Nat) (r:Rf),i=.int .i64 n∧n≤l.length∧Hid r.Tidy∧Hid (LookR RG w rr br r wr)) (fun i _=>l.length+1 - (intOf i).toNat)
  case atStart=>exact ⟨0,newRf ep L,rfl,Nat.zero_le _,Lh (tidy_new ep L),Lh ⟨D4.out,HBW.out,HBW.out.size⟩⟩
  case round =>
   clear D4 HBW B4 S4 S3 S2 U3 B3 B2 V2 CC CD CP
   obtain ⟨n,r,rfl,hn,HTY,HL⟩:=hrel
   have n0:(n:Int)≤(l.length:Int):=by omega
   obtain ⟨kd,un,qe,pg,pe,kL,hq⟩:=ask_openD r
   have HQ:=Lh hq
   have HL0:=Lh HL.out.1
   have HKL:=Lh (show kL.length≤1000000∧∀ c ∈ kL,c.length≤1000000 from by have h1:=ask_few HL.out.1;rw [hq] at h1;exact ⟨Nat.le_trans h1.1 (by decide),fun c hc=>Nat.le_trans (h1.2 c hc) (by decide)⟩)
   have dA:(r.asks != r.asks)=false:=bne_self_eq_false _
   have dO:(r.overB != r.overB)=false:=bne_self_eq_false _
   have dE:(r.overE != r.overE)=false:=bne_self_eq_false _
   clear hq
   by_cases hlt:n < l.length
   case neg =>
    have n1:((n:Int) == (l.length:Int))=true:=beq_iff_eq.2 (by omega)
    go_wp2_with (first
     | (go_at_call 13;refine (sr_ask RS (z0j rr) HL0.out HQ.out).mono ?_;rintro e v1 ⟨vo1,vc1,C1,rfl,hC1,hs1,hk1⟩;have V1:=Lh (show LookR RG w rr br r (v1.alloc (.cells #[.int .i64 kd,.int .i64 un,.int .i64 qe,.int .i64 pg,.int .i64 0,.int .i64 0,.string ⟨#[]⟩,.int .i64 pe,.slice vo1 kL.length vc1] 34)) from LookR.on RS ⟨hs1.less (fun k h=>.inl h),HL.out.2.1.trans (hk1.toBelow HL.out.2.2 (fun k h=>h)),Nat.le_trans HL.out.2.2 hk1.size⟩ (z00 v1 (.cells #[.int .i64 kd,.int .i64 un,.int .i64 qe,.int .i64 pg,.int .i64 0,.int .i64 0,.string ⟨#[]⟩,.int .i64 pe,.slice vo1 kL.length vc1] 34)));have G1:=Lh ((z1e hC1).below (z00 v1 (.cells #[.int .i64 kd,.int .i64 un,.int .i64 qe,.int .i64 pg,.int .i64 0,.int .i64 0,.string ⟨#[]⟩,.int .i64 pe,.slice vo1 kL.length vc1] 34)));have A1:=Lh (heap_alloc_new v1 (.cells #[.int .i64 kd,.int .i64 un,.int .i64 qe,.int .i64 pg,.int .i64 0,.int .i64 0,.string ⟨#[]⟩,.int .i64 pe,.slice vo1 kL.length vc1] 34));clear hC1 hs1 hk1)
     | (go_at_call 14;refine (sd_ask V1.out.1 HQ.out).mono ?_;rintro e v2 ⟨ao2,cap2,rfl,hC2,hb2⟩;have V2:=Lh ((V1.out.on RS hb2).on RS (z00 v2 (.cells #[.int .i64 kd,.int .i64 un,.int .i64 qe,.int .i64 pg,.int .i64 0,.int .i64 0,.string ⟨#[]⟩,.int .i64 pe,.slice ao2 kL.length cap2,.bool r.asks] 38)));have E2:=Lh (hb2.alloc hb2.size (.cells #[.int .i64 kd,.int .i64 un,.int .i64 qe,.int .i64 pg,.int .i64 0,.int .i64 0,.string ⟨#[]⟩,.int .i64 pe,.slice ao2 kL.length cap2,.bool r.asks] 38));have G2:=Lh (hC2.below (z00 v2 (.cells #[.int .i64 kd,.int .i64 un,.int .i64 qe,.int .i64 pg,.int .i64 0,.int .i64 0,.string ⟨#[]⟩,.int .i64 pe,.slice ao2 kL.length cap2,.bool r.asks] 38)));have D2:=Lh (heap_alloc_new v2 (.cells #[.int .i64 kd,.int .i64 un,.int .i64 qe,.int .i64 pg,.int .i64 0,.int .i64 0,.string ⟨#[]⟩,.int .i64 pe,.slice ao2 kL.length cap2,.bool r.asks] 38));clear hC2 hb2)
     | (go_at_call 15;refine (sr_over RS (z0j rr) V2.out.1).mono ?_;rintro e v3 ⟨rfl,hs3,hb3⟩;have V3:=Lh (V2.out.on RS hb3);have E3:=Lh hb3;clear hs3 hb3)
     | (go_at_call 16;refine (sd_over V3.out.1).mono ?_;rintro e v4 ⟨rfl,hb4⟩;have V4:=Lh ((V3.out.on RS hb4).on RS (z00 v4 (.cells #[.int .i64 r.overE,.bool r.overB] 44)));have E4:=Lh (E3.out.trans ((hb4.alloc hb4.size (.cells #[.int .i64 r.overE,.bool r.overB] 44)).mono E3.out.size));have D4:=Lh (z01 E4.out D2.out);have A4:=Lh (z01 E4.out (z01 E2.out A1.out));have G4:=Lh (And.intro ((G1.out.below E2.out).below E4.out) (G2.out.below E4.out));obtain ⟨⟨a0,a1,a2,a3,a4,a5,a6,a7,a8⟩,_⟩:=z0g A4.out;obtain ⟨⟨d0,d1,d2,d3,d4,d5,d6,d7,d8,d9⟩,_⟩:=tn_of D4.out;have ya:=lt_of_block A4.out;have yd:=lt_of_block D4.out;obtain ⟨o0,o1,_⟩:=z05 (heap_alloc_new v4 (.cells #[.int .i64 r.overE,.bool r.overB] 44));have yo:=lt_of_block (heap_alloc_new v4 (.cells #[.int .i64 r.overE,.bool r.overB] 44));clear hb4)
     | (go_at_call 17;refine (ask_same ⟨kd,un,qe,pg,0,0,⟨#[]⟩,pe,kL,none,0⟩ vo1 ao2 vc1 cap2 _ G4.out.1 G4.out.2 HKL.out).mono ?_;rintro e w7 ⟨rfl,hb7⟩;have L7:=Lh (V4.out.on RS hb7);obtain ⟨o0,o1,_⟩:=z05 (z01 hb7 (heap_alloc_new v4 (.cells #[.int .i64 r.overE,.bool r.overB] 44)));obtain ⟨⟨d0,d1,d2,d3,d4,d5,d6,d7,d8,d9⟩,_⟩:=tn_of (z01 hb7 D4.out);clear hb7)
     | (go_at_call 9;refine (CW.out _).mono ?_;rintro e w9 ⟨rfl,hb9⟩;have L9:=Lh (L7.out.2.1.trans (hb9.mono L7.out.2.2));clear hb9))
    go_ret
    exact ⟨rfl,L9.out⟩
   case pos =>
   have n1:((n:Int) == (l.length:Int))=false:=beq_eq_false_iff_ne.2 (by omega)
   have n2:(n:Int) < (l.length:Int):=by omega
   have hn60:n≤60:=by omega
   have HIN:=Lh (HK.out _ (List.getElem_mem hlt))
   obtain ⟨bk,off,hao,_⟩:=rstep_at HF.out hlt
   subst hao
   have N9:=Lh (fun (W:World) (h:Below w.heap.size w W)=>(by obtain ⟨b2,o2,e,h1⟩:=rstep_at (HF.out.below h) hlt;cases e;exact h1:W.cell? ⟨bk,off+n * 10,none⟩=some (.int .i64 l[n].x.code)∧W.cell? ⟨bk,off+n * 10+1,none⟩=some (.int .i64 l[n].x.n)∧W.cell? ⟨bk,off+n * 10+2,none⟩=some (.string l[n].x.data)∧W.cell? ⟨bk,off+n * 10+3,none⟩=some (.int .i64 l[n].x.pe)∧W.cell? ⟨bk,off+n * 10+4,none⟩=some (.slice l[n].ao l[n].x.L.length l[n].cap)∧W.cell? ⟨bk,off+n * 10+5,none⟩=some (.int .i64 l[n].x.mark)∧W.cell? ⟨bk,off+n * 10+6,none⟩=some (.int .i64 l[n].x.size)∧W.cell? ⟨bk,off+n * 10+7,none⟩=some (.int .i64 l[n].x.epoch)∧W.cell? ⟨bk,off+n * 10+8,none⟩=some (.bool l[n].c)∧W.cell? ⟨bk,off+n * 10+9,none⟩=some (.bool l[n].k)))
   unfold RsIn at HIN
   generalize l[n]=s at *
   obtain ⟨⟨xc,xn,xd,xe,xL,xm,xs,xy⟩,xo,xp,c,k⟩:=s
   simp only at HIN N9
   have CLA:=Lh (fun W (h:Below w.heap.size w W)=>largeAns_any ⟨xc,xn,xd,xe,xL,xm,xs,xy⟩ xo xp W (HIN.out.below h))
   have hans:ansV ⟨xc,xn,xd,xe,xL,xm,xs,xy⟩ xo xp=.agg #[.int .i64 xc,.int .i64 xn,.string xd,.int .i64 xe,.slice xo xL.length xp,.int .i64 xm,.int .i64 xs,.int .i64 xy]:=rfl
   rw [hans] at CLA
   clear hans
   cases hlx:largeX ⟨xc,xn,xd,xe,xL,xm,xs,xy⟩
   case true =>
    rw [hlx] at CLA
    go_wp2_with (first
     | (go_at_call 13;refine (sr_ask RS (z0j rr) HL0.out HQ.out).mono ?_;rintro e v1 ⟨vo1,vc1,C1,rfl,hC1,hs1,hk1⟩;have V1:=Lh (show LookR RG w rr br r (v1.alloc (.cells #[.int .i64 kd,.int .i64 un,.int .i64 qe,.int .i64 pg,.int .i64 0,.int .i64 0,.string ⟨#[]⟩,.int .i64 pe,.slice vo1 kL.length vc1] 34)) from LookR.on RS ⟨hs1.less (fun k h=>.inl h),HL.out.2.1.trans (hk1.toBelow HL.out.2.2 (fun k h=>h)),Nat.le_trans HL.out.2.2 hk1.size⟩ (z00 v1 (.cells #[.int .i64 kd,.int .i64 un,.int .i64 qe,.int .i64 pg,.int .i64 0,.int .i64 0,.string ⟨#[]⟩,.int .i64 pe,.slice vo1 kL.length vc1] 34)));have G1:=Lh ((z1e hC1).below (z00 v1 (.cells #[.int .i64 kd,.int .i64 un,.int .i64 qe,.int .i64 pg,.int .i64 0,.int .i64 0,.string ⟨#[]⟩,.int .i64 pe,.slice vo1 kL.length vc1] 34)));have A1:=Lh (heap_alloc_new v1 (.cells #[.int .i64 kd,.int .i64 un,.int .i64 qe,.int .i64 pg,.int .i64 0,.int .i64 0,.string ⟨#[]⟩,.int .i64 pe,.slice vo1 kL.length vc1] 34));clear hC1 hs1 hk1)
     | (go_at_call 14;refine (sd_ask V1.out.1 HQ.out).mono ?_;rintro e v2 ⟨ao2,cap2,rfl,hC2,hb2⟩;have V2:=Lh ((V1.out.on RS hb2).on RS (z00 v2 (.cells #[.int .i64 kd,.int .i64 un,.int .i64 qe,.int .i64 pg,.int .i64 0,.int .i64 0,.string ⟨#[]⟩,.int .i64 pe,.slice ao2 kL.length cap2,.bool r.asks] 38)));have E2:=Lh (hb2.alloc hb2.size (.cells #[.int .i64 kd,.int .i64 un,.int .i64 qe,.int .i64 pg,.int .i64 0,.int .i64 0,.string ⟨#[]⟩,.int .i64 pe,.slice ao2 kL.length cap2,.bool r.asks] 38));have G2:=Lh (hC2.below (z00 v2 (.cells #[.int .i64 kd,.int .i64 un,.int .i64 qe,.int .i64 pg,.int .i64 0,.int .i64 0,.string ⟨#[]⟩,.int .i64 pe,.slice ao2 kL.length cap2,.bool r.asks] 38)));have D2:=Lh (heap_alloc_new v2 (.cells #[.int .i64 kd,.int .i64 un,.int .i64 qe,.int .i64 pg,.int .i64 0,.int .i64 0,.string ⟨#[]⟩,.int .i64 pe,.slice ao2 kL.length cap2,.bool r.asks] 38));clear hC2 hb2)
     | (go_at_call 15;refine (sr_over RS (z0j rr) V2.out.1).mono ?_;rintro e v3 ⟨rfl,hs3,hb3⟩;have V3:=Lh (V2.out.on RS hb3);have E3:=Lh hb3;clear hs3 hb3)
     | (go_at_call 16;refine (sd_over V3.out.1).mono ?_;rintro e v4 ⟨rfl,hb4⟩;have V4:=Lh ((V3.out.on RS hb4).on RS (z00 v4 (.cells #[.int .i64 r.overE,.bool r.overB] 44)));have E4:=Lh (E3.out.trans ((hb4.alloc hb4.size (.cells #[.int .i64 r.overE,.bool r.overB] 44)).mono E3.out.size));have D4:=Lh (z01 E4.out D2.out);have A4:=Lh (z01 E4.out (z01 E2.out A1.out));have G4:=Lh (And.intro ((G1.out.below E2.out).below E4.out) (G2.out.below E4.out));obtain ⟨⟨a0,a1,a2,a3,a4,a5,a6,a7,a8⟩,_⟩:=z0g A4.out;obtain ⟨⟨d0,d1,d2,d3,d4,d5,d6,d7,d8,d9⟩,_⟩:=tn_of D4.out;have ya:=lt_of_block A4.out;have yd:=lt_of_block D4.out;obtain ⟨o0,o1,_⟩:=z05 (heap_alloc_new v4 (.cells #[.int .i64 r.overE,.bool r.overB] 44));have yo:=lt_of_block (heap_alloc_new v4 (.cells #[.int .i64 r.overE,.bool r.overB] 44));clear hb4)
     | (go_at_call 17;refine (ask_same ⟨kd,un,qe,pg,0,0,⟨#[]⟩,pe,kL,none,0⟩ vo1 ao2 vc1 cap2 _ G4.out.1 G4.out.2 HKL.out).mono ?_;rintro e w7 ⟨rfl,hb7⟩;have L7:=Lh (V4.out.on RS hb7);obtain ⟨o0,o1,_⟩:=z05 (z01 hb7 (heap_alloc_new v4 (.cells #[.int .i64 r.overE,.bool r.overB] 44)));obtain ⟨⟨d0,d1,d2,d3,d4,d5,d6,d7,d8,d9⟩,_⟩:=tn_of (z01 hb7 D4.out);obtain ⟨i0,i1,i2,i3,i4,i5,i6,i7,i8,i9⟩:=N9.out _ L7.out.2.1;clear hb7)
     | (go_at_call 18;refine (CLA.out _ L7.out.2.1).mono ?_;rintro e w8 ⟨rfl,hb8⟩;have L8:=Lh (L7.out.on RS hb8);clear hb8)
     | (go_at_call 9;refine (CW.out _).mono ?_;rintro e w9 ⟨rfl,hb9⟩;have L9:=Lh (L8.out.2.1.trans (hb9.mono L8.out.2.2));clear hb9))
    go_ret
    exact ⟨rfl,L9.out⟩
   case false =>
   rw [hlx] at CLA
   have HFX:=Lh (show fewL xL from by have:=largeX_no hlx;exact ⟨Nat.le_trans this.2.1 (by decide),fun c hc=>Nat.le_trans (this.2.2 c hc) (by decide)⟩)
   clear hlx
   cases k
   case true =>
    have dM:(r.mays != r.mays)=false:=bne_self_eq_false _
    go_wp2_with (first
     | (go_at_call 13;refine (sr_ask RS (z0j rr) HL0.out HQ.out).mono ?_;rintro e v1 ⟨vo1,vc1,C1,rfl,hC1,hs1,hk1⟩;have V1:=Lh (show LookR RG w rr br r (v1.alloc (.cells #[.int .i64 kd,.int .i64 un,.int .i64 qe,.int .i64 pg,.int .i64 0,.int .i64 0,.string ⟨#[]⟩,.int .i64 pe,.slice vo1 kL.length vc1] 34)) from LookR.on RS ⟨hs1.less (fun k h=>.inl h),HL.out.2.1.trans (hk1.toBelow HL.out.2.2 (fun k h=>h)),Nat.le_trans HL.out.2.2 hk1.size⟩ (z00 v1 (.cells #[.int .i64 kd,.int .i64 un,.int .i64 qe,.int .i64 pg,.int .i64 0,.int .i64 0,.string ⟨#[]⟩,.int .i64 pe,.slice vo1 kL.length vc1] 34)));have G1:=Lh ((z1e hC1).below (z00 v1 (.cells #[.int .i64 kd,.int .i64 un,.int .i64 qe,.int .i64 pg,.int .i64 0,.int .i64 0,.string ⟨#[]⟩,.int .i64 pe,.slice vo1 kL.length vc1] 34)));have A1:=Lh (heap_alloc_new v1 (.cells #[.int .i64 kd,.int .i64 un,.int .i64 qe,.int .i64 pg,.int .i64 0,.int .i64 0,.string ⟨#[]⟩,.int .i64 pe,.slice vo1 kL.length vc1] 34));clear hC1 hs1 hk1)
     | (go_at_call 14;refine (sd_ask V1.out.1 HQ.out).mono ?_;rintro e v2 ⟨ao2,cap2,rfl,hC2,hb2⟩;have V2:=Lh ((V1.out.on RS hb2).on RS (z00 v2 (.cells #[.int .i64 kd,.int .i64 un,.int .i64 qe,.int .i64 pg,.int .i64 0,.int .i64 0,.string ⟨#[]⟩,.int .i64 pe,.slice ao2 kL.length cap2,.bool r.asks] 38)));have E2:=Lh (hb2.alloc hb2.size (.cells #[.int .i64 kd,.int .i64 un,.int .i64 qe,.int .i64 pg,.int .i64 0,.int .i64 0,.string ⟨#[]⟩,.int .i64 pe,.slice ao2 kL.length cap2,.bool r.asks] 38));have G2:=Lh (hC2.below (z00 v2 (.cells #[.int .i64 kd,.int .i64 un,.int .i64 qe,.int .i64 pg,.int .i64 0,.int .i64 0,.string ⟨#[]⟩,.int .i64 pe,.slice ao2 kL.length cap2,.bool r.asks] 38)));have D2:=Lh (heap_alloc_new v2 (.cells #[.int .i64 kd,.int .i64 un,.int .i64 qe,.int .i64 pg,.int .i64 0,.int .i64 0,.string ⟨#[]⟩,.int .i64 pe,.slice ao2 kL.length cap2,.bool r.asks] 38));clear hC2 hb2)
     | (go_at_call 15;refine (sr_over RS (z0j rr) V2.out.1).mono ?_;rintro e v3 ⟨rfl,hs3,hb3⟩;have V3:=Lh (V2.out.on RS hb3);have E3:=Lh hb3;clear hs3 hb3)
     | (go_at_call 16;refine (sd_over V3.out.1).mono ?_;rintro e v4 ⟨rfl,hb4⟩;have V4:=Lh ((V3.out.on RS hb4).on RS (z00 v4 (.cells #[.int .i64 r.overE,.bool r.overB] 44)));have E4:=Lh (E3.out.trans ((hb4.alloc hb4.size (.cells #[.int .i64 r.overE,.bool r.overB] 44)).mono E3.out.size));have D4:=Lh (z01 E4.out D2.out);have A4:=Lh (z01 E4.out (z01 E2.out A1.out));have G4:=Lh (And.intro ((G1.out.below E2.out).below E4.out) (G2.out.below E4.out));obtain ⟨⟨a0,a1,a2,a3,a4,a5,a6,a7,a8⟩,_⟩:=z0g A4.out;obtain ⟨⟨d0,d1,d2,d3,d4,d5,d6,d7,d8,d9⟩,_⟩:=tn_of D4.out;have ya:=lt_of_block A4.out;have yd:=lt_of_block D4.out;obtain ⟨o0,o1,_⟩:=z05 (heap_alloc_new v4 (.cells #[.int .i64 r.overE,.bool r.overB] 44));have yo:=lt_of_block (heap_alloc_new v4 (.cells #[.int .i64 r.overE,.bool r.overB] 44));clear hb4)
     | (go_at_call 17;refine (ask_same ⟨kd,un,qe,pg,0,0,⟨#[]⟩,pe,kL,none,0⟩ vo1 ao2 vc1 cap2 _ G4.out.1 G4.out.2 HKL.out).mono ?_;rintro e w7 ⟨rfl,hb7⟩;have L7:=Lh (V4.out.on RS hb7);obtain ⟨o0,o1,_⟩:=z05 (z01 hb7 (heap_alloc_new v4 (.cells #[.int .i64 r.overE,.bool r.overB] 44)));obtain ⟨⟨d0,d1,d2,d3,d4,d5,d6,d7,d8,d9⟩,_⟩:=tn_of (z01 hb7 D4.out);obtain ⟨i0,i1,i2,i3,i4,i5,i6,i7,i8,i9⟩:=N9.out _ L7.out.2.1;clear hb7)
     | (go_at_call 18;refine (CLA.out _ L7.out.2.1).mono ?_;rintro e w8 ⟨rfl,hb8⟩;have L8:=Lh (L7.out.on RS hb8);have I8:=Lh (N9.out _ L8.out.2.1);obtain ⟨i0,i1,i2,i3,i4,i5,i6,i7,i8,i9⟩:=I8.out;clear hb8)
     | (go_at_call 19;refine (sr_skip RS (z0j rr) L8.out.1).mono ?_;rintro e w9 ⟨rfl,hs9,hk9⟩;have D9:=Lh hs9;have K9:=Lh hk9;clear hs9 hk9)
     | (go_at_call 20;refine (sd_skip RS D9.out).mono ?_;rintro e w10 ⟨rfl,hs10,hk10⟩;have L10:=Lh (show LookR RG w rr br r.skip w10 from ⟨hs10,L8.out.2.1.trans ((K9.out.trans hk10).toBelow L8.out.2.2 (fun k h=>h)),Nat.le_trans L8.out.2.2 (K9.out.trans hk10).size⟩);clear hs10 hk10))
    exact ⟨⟨n+1,r.skip,by go_num,by omega,Lh HTY.out.skip,L10⟩,by simp [intOf];omega⟩
   case false =>
    go_wp2_with (first
     | (go_at_call 13;refine (sr_ask RS (z0j rr) HL0.out HQ.out).mono ?_;rintro e v1 ⟨vo1,vc1,C1,rfl,hC1,hs1,hk1⟩;have V1:=Lh (show LookR RG w rr br r (v1.alloc (.cells #[.int .i64 kd,.int .i64 un,.int .i64 qe,.int .i64 pg,.int .i64 0,.int .i64 0,.string ⟨#[]⟩,.int .i64 pe,.slice vo1 kL.length vc1] 34)) from LookR.on RS ⟨hs1.less (fun k h=>.inl h),HL.out.2.1.trans (hk1.toBelow HL.out.2.2 (fun k h=>h)),Nat.le_trans HL.out.2.2 hk1.size⟩ (z00 v1 (.cells #[.int .i64 kd,.int .i64 un,.int .i64 qe,.int .i64 pg,.int .i64 0,.int .i64 0,.string ⟨#[]⟩,.int .i64 pe,.slice vo1 kL.length vc1] 34)));have G1:=Lh ((z1e hC1).below (z00 v1 (.cells #[.int .i64 kd,.int .i64 un,.int .i64 qe,.int .i64 pg,.int .i64 0,.int .i64 0,.string ⟨#[]⟩,.int .i64 pe,.slice vo1 kL.length vc1] 34)));have A1:=Lh (heap_alloc_new v1 (.cells #[.int .i64 kd,.int .i64 un,.int .i64 qe,.int .i64 pg,.int .i64 0,.int .i64 0,.string ⟨#[]⟩,.int .i64 pe,.slice vo1 kL.length vc1] 34));clear hC1 hs1 hk1)
     | (go_at_call 14;refine (sd_ask V1.out.1 HQ.out).mono ?_;rintro e v2 ⟨ao2,cap2,rfl,hC2,hb2⟩;have V2:=Lh ((V1.out.on RS hb2).on RS (z00 v2 (.cells #[.int .i64 kd,.int .i64 un,.int .i64 qe,.int .i64 pg,.int .i64 0,.int .i64 0,.string ⟨#[]⟩,.int .i64 pe,.slice ao2 kL.length cap2,.bool r.asks] 38)));have E2:=Lh (hb2.alloc hb2.size (.cells #[.int .i64 kd,.int .i64 un,.int .i64 qe,.int .i64 pg,.int .i64 0,.int .i64 0,.string ⟨#[]⟩,.int .i64 pe,.slice ao2 kL.length cap2,.bool r.asks] 38));have G2:=Lh (hC2.below (z00 v2 (.cells #[.int .i64 kd,.int .i64 un,.int .i64 qe,.int .i64 pg,.int .i64 0,.int .i64 0,.string ⟨#[]⟩,.int .i64 pe,.slice ao2 kL.length cap2,.bool r.asks] 38)));have D2:=Lh (heap_alloc_new v2 (.cells #[.int .i64 kd,.int .i64 un,.int .i64 qe,.int .i64 pg,.int .i64 0,.int .i64 0,.string ⟨#[]⟩,.int .i64 pe,.slice ao2 kL.length cap2,.bool r.asks] 38));clear hC2 hb2)
     | (go_at_call 15;refine (sr_over RS (z0j rr) V2.out.1).mono ?_;rintro e v3 ⟨rfl,hs3,hb3⟩;have V3:=Lh (V2.out.on RS hb3);have E3:=Lh hb3;clear hs3 hb3)
     | (go_at_call 16;refine (sd_over V3.out.1).mono ?_;rintro e v4 ⟨rfl,hb4⟩;have V4:=Lh ((V3.out.on RS hb4).on RS (z00 v4 (.cells #[.int .i64 r.overE,.bool r.overB] 44)));have E4:=Lh (E3.out.trans ((hb4.alloc hb4.size (.cells #[.int .i64 r.overE,.bool r.overB] 44)).mono E3.out.size));have D4:=Lh (z01 E4.out D2.out);have A4:=Lh (z01 E4.out (z01 E2.out A1.out));have G4:=Lh (And.intro ((G1.out.below E2.out).below E4.out) (G2.out.below E4.out));obtain ⟨⟨a0,a1,a2,a3,a4,a5,a6,a7,a8⟩,_⟩:=z0g A4.out;obtain ⟨⟨d0,d1,d2,d3,d4,d5,d6,d7,d8,d9⟩,_⟩:=tn_of D4.out;have ya:=lt_of_block A4.out;have yd:=lt_of_block D4.out;obtain ⟨o0,o1,_⟩:=z05 (heap_alloc_new v4 (.cells #[.int .i64 r.overE,.bool r.overB] 44));have yo:=lt_of_block (heap_alloc_new v4 (.cells #[.int .i64 r.overE,.bool r.overB] 44));clear hb4)
     | (go_at_call 17;refine (ask_same ⟨kd,un,qe,pg,0,0,⟨#[]⟩,pe,kL,none,0⟩ vo1 ao2 vc1 cap2 _ G4.out.1 G4.out.2 HKL.out).mono ?_;rintro e w7 ⟨rfl,hb7⟩;have L7:=Lh (V4.out.on RS hb7);obtain ⟨o0,o1,_⟩:=z05 (z01 hb7 (heap_alloc_new v4 (.cells #[.int .i64 r.overE,.bool r.overB] 44)));obtain ⟨⟨d0,d1,d2,d3,d4,d5,d6,d7,d8,d9⟩,_⟩:=tn_of (z01 hb7 D4.out);obtain ⟨i0,i1,i2,i3,i4,i5,i6,i7,i8,i9⟩:=N9.out _ L7.out.2.1;clear hb7)
     | (go_at_call 18;refine (CLA.out _ L7.out.2.1).mono ?_;rintro e w8 ⟨rfl,hb8⟩;have L8:=Lh (L7.out.on RS hb8);have I8:=Lh (N9.out _ L8.out.2.1);obtain ⟨i0,i1,i2,i3,i4,i5,i6,i7,i8,i9⟩:=I8.out;clear hb8))
    have L8d:=Lh (L8.out.on RS (Below.refl _ _).drew)
    have S8:=Lh (show w8.drew.cell? ⟨bk,off+n * 10,none⟩=some (.int .i64 xc)∧w8.drew.cell? ⟨bk,off+n * 10+1,none⟩=some (.int .i64 xn)∧w8.drew.cell? ⟨bk,off+n * 10+2,none⟩=some (.string xd)∧w8.drew.cell? ⟨bk,off+n * 10+3,none⟩=some (.int .i64 xe)∧w8.drew.cell? ⟨bk,off+n * 10+4,none⟩=some (.slice xo xL.length xp)∧w8.drew.cell? ⟨bk,off+n * 10+5,none⟩=some (.int .i64 xm)∧w8.drew.cell? ⟨bk,off+n * 10+6,none⟩=some (.int .i64 xs)∧w8.drew.cell? ⟨bk,off+n * 10+7,none⟩=some (.int .i64 xy)∧w8.drew.cell? ⟨bk,off+n * 10+8,none⟩=some (.bool c) from ⟨i0,i1,i2,i3,i4,i5,i6,i7,i8⟩)
    clear i0 i1 i2 i3 i4 i5 i6 i7 i8 i9 d0 d1 d2 d3 d4 d5 d6 d7 d8 d9 o0 o1 a0 a1 a2 a3 a4 a5 a6 a7 a8
    go_region_held3 (fun W=>W.cell? ⟨bk,off+n * 10,none⟩=some (.int .i64 xc)∧W.cell? ⟨bk,off+n * 10+1,none⟩=some (.int .i64 xn)∧W.cell? ⟨bk,off+n * 10+2,none⟩=some (.string xd)∧W.cell? ⟨bk,off+n * 10+3,none⟩=some (.int .i64 xe)∧W.cell? ⟨bk,off+n * 10+4,none⟩=some (.slice xo xL.length xp)∧W.cell? ⟨bk,off+n * 10+5,none⟩=some (.int .i64 xm)∧W.cell? ⟨bk,off+n * 10+6,none⟩=some (.int .i64 xs)∧W.cell? ⟨bk,off+n * 10+7,none⟩=some (.int .i64 xy)∧W.cell? ⟨bk,off+n * 10+8,none⟩=some (.bool c))
     (first | with_reducible exact S8.out | with_reducible exact S9.out | with_reducible assumption)
     (first
      | (go_at_call 21;refine (sp_hear RS L8d.out.1 HFX.out HIN.out.n HIN.out.pe HIN.out.here L8d.out.2.1 L8d.out.2.2 (fun k h=>h)).mono ?_;rintro e w9 ⟨rfl,hs9,hk9⟩;have B9:=Lh (show Below w.heap.size w w9 from L8d.out.2.1.trans (hk9.toBelow L8d.out.2.2 (fun k h=>h)));have Z9:=Lh (Nat.le_trans L8d.out.2.2 hk9.size);have D9:=Lh hs9;obtain ⟨j0,j1,j2,j3,j4,j5,j6,j7,j8,j9⟩:=N9.out _ B9.out;have S9:=Lh (show w9.cell? ⟨bk,off+n * 10,none⟩=some (.int .i64 xc)∧w9.cell? ⟨bk,off+n * 10+1,none⟩=some (.int .i64 xn)∧w9.cell? ⟨bk,off+n * 10+2,none⟩=some (.string xd)∧w9.cell? ⟨bk,off+n * 10+3,none⟩=some (.int .i64 xe)∧w9.cell? ⟨bk,off+n * 10+4,none⟩=some (.slice xo xL.length xp)∧w9.cell? ⟨bk,off+n * 10+5,none⟩=some (.int .i64 xm)∧w9.cell? ⟨bk,off+n * 10+6,none⟩=some (.int .i64 xs)∧w9.cell? ⟨bk,off+n * 10+7,none⟩=some (.int .i64 xy)∧w9.cell? ⟨bk,off+n * 10+8,none⟩=some (.bool c) from ⟨j0,j1,j2,j3,j4,j5,j6,j7,j8⟩);clear hs9 hk9))
    all_goals
     go_wp2_with fail
     have S9d:=Lh (show w9.drew.cell? ⟨bk,off+n * 10,none⟩=some (.int .i64 xc)∧w9.drew.cell? ⟨bk,off+n * 10+1,none⟩=some (.int .i64 xn)∧w9.drew.cell? ⟨bk,off+n * 10+2,none⟩=some (.string xd)∧w9.drew.cell? ⟨bk,off+n * 10+3,none⟩=some (.int .i64 xe)∧w9.drew.cell? ⟨bk,off+n * 10+4,none⟩=some (.slice xo xL.length xp)∧w9.drew.cell? ⟨bk,off+n * 10+5,none⟩=some (.int .i64 xm)∧w9.drew.cell? ⟨bk,off+n * 10+6,none⟩=some (.int .i64 xs)∧w9.drew.cell? ⟨bk,off+n * 10+7,none⟩=some (.int .i64 xy)∧w9.drew.cell? ⟨bk,off+n * 10+8,none⟩=some (.bool c) from S9.out)
     have D9d:=Lh (D9.out.below (z0j rr) (TR.out br) (w':=w9.drew) (Below.refl _ _).drew)
     go_region_held3 (fun W=>W.cell? ⟨bk,off+n * 10,none⟩=some (.int .i64 xc)∧W.cell? ⟨bk,off+n * 10+1,none⟩=some (.int .i64 xn)∧W.cell? ⟨bk,off+n * 10+2,none⟩=some (.string xd)∧W.cell? ⟨bk,off+n * 10+3,none⟩=some (.int .i64 xe)∧W.cell? ⟨bk,off+n * 10+4,none⟩=some (.slice xo xL.length xp)∧W.cell? ⟨bk,off+n * 10+5,none⟩=some (.int .i64 xm)∧W.cell? ⟨bk,off+n * 10+6,none⟩=some (.int .i64 xs)∧W.cell? ⟨bk,off+n * 10+7,none⟩=some (.int .i64 xy)∧W.cell? ⟨bk,off+n * 10+8,none⟩=some (.bool c))
      (first | with_reducible exact S9d.out | with_reducible exact S10.out | with_reducible assumption)
      (first
       | (go_at_call 22;refine (sd_hear RS D9d.out HTY.out HFX.out HIN.out.n (HIN.out.here.below (B9.out.trans ((Below.refl _ _).drew.mono Z9.out)))).mono ?_;rintro e w10 ⟨rfl,hs10,hk10⟩;have L10:=Lh (show LookR RG w rr br (r.hear ⟨xc,xn,xd,xe,xL,xm,xs,xy⟩ c) w10 from ⟨hs10,(B9.out.trans ((Below.refl _ _).drew.mono Z9.out)).trans (hk10.toBelow Z9.out (fun k h=>h)),Nat.le_trans Z9.out hk10.size⟩);have S10:=Lh (show w10.cell? ⟨bk,off+n * 10,none⟩=some (.int .i64 xc)∧w10.cell? ⟨bk,off+n * 10+1,none⟩=some (.int .i64 xn)∧w10.cell? ⟨bk,off+n * 10+2,none⟩=some (.string xd)∧w10.cell? ⟨bk,off+n * 10+3,none⟩=some (.int .i64 xe)∧w10.cell? ⟨bk,off+n * 10+4,none⟩=some (.slice xo xL.length xp)∧w10.cell? ⟨bk,off+n * 10+5,none⟩=some (.int .i64 xm)∧w10.cell? ⟨bk,off+n * 10+6,none⟩=some (.int .i64 xs)∧w10.cell? ⟨bk,off+n * 10+7,none⟩=some (.int .i64 xy)∧w10.cell? ⟨bk,off+n * 10+8,none⟩=some (.bool c) from (by obtain ⟨j0,j1,j2,j3,j4,j5,j6,j7,j8,j9⟩:=N9.out _ L10.out.2.1;exact ⟨j0,j1,j2,j3,j4,j5,j6,j7,j8⟩));clear hs10 hk10))
     all_goals
      go_wp2_with fail
      exact ⟨⟨n+1,r.hear ⟨xc,xn,xd,xe,xL,xm,xs,xy⟩ c,by go_num,by omega,Lh (HTY.out.hear _ _),L10⟩,by simp [intOf];omega⟩
set_option maxRecDepth 100000 in
theorem reformHears_lifted (os:Os) (started:os.Started) (H:Type) (enc:TypeId × Value→H) :
  ReturnsInHanded {} Tryz.checked os 3 .any (Rows.reformHearsSpec.pre6 enc Tryz.prog Tryz.f3 Rows.reformHearsRow.domain false) (Rows.reformHearsSpec.post enc Tryz.prog Tryz.f3 false true false false):=by
 refine returnsInHanded_of_change (C:=Tryz.checked) own started (by kernel_rfl) Tryz.func3
  (ChangeSpec.witness6 (enc:=enc) (C:=Tryz.checked) false ⟨#[],#[.agg #[.int .i64 0,.slice none 0 0],.slice none 0 0],[]⟩ 8 (by kernel_rfl) (by kernel_rfl) (by kernel_rfl) (by kernel_rfl)) ?_
 intro W base args ds gs before hval0 hW hcnd _
 have hval:∀ (j:Nat) t v,Tryz.f3.params[j]?=some t→args[j]?=some v→Value.okWide Tryz.prog W .any base t v:=hval0
 have hW':=hW
 obtain ⟨p,q,hA0,hV,rfl,hfz,hnd⟩:=hW
 have hA:DataW.TrodAll enc Tryz.prog W 0 (fun _=>true) true Tryz.f3.params.toList args.toList ds p:=hA0
 rw [Tryz.params3] at hA hval
 obtain ⟨v0,vs0,d0,ds0,p0,q0,hargs,rfl,rfl,h0,r0⟩:=trodAll_cons hA
 obtain ⟨v1,vs1,d1,ds1,p1,q1,rfl,rfl,rfl,h1,r1⟩:=trodAll_cons r0
 obtain ⟨rfl,rfl,rfl⟩:=trodAll_nil r1
 obtain rfl:args=#[v0,v1]:=by cases args;simp_all
 obtain ⟨rfl,rfl⟩:=trodVars_none hV
 have k0:=h0
 have lt0:∀ x ∈ p0,x.block < W.heap.size:=by obtain ⟨m,hm⟩:=k0;exact DataW.trod_lt m _ _ _ hm
 have k1:=h1
 have lt1:∀ x ∈ p1,x.block < W.heap.size:=by obtain ⟨m,hm⟩:=k1;exact DataW.trod_lt m _ _ _ hm
 obtain ⟨ep0,ao0,cap0,L0,rfl,wf0,hC0,hn0,hc0,hl0,hm0⟩:=open_proj Tryz.underlying24 (by kernel_rfl) rfl rfl (by kernel_rfl) (by kernel_rfl) Tryz.underlying3 Tryz.underlying22 Tryz.underlying65 (by kernel_rfl) (hval 0 24 v0 rfl rfl) h0
 have hF0:PIn W ep0 ao0 cap0 L0:=⟨⟨hC0,hn0,hc0⟩,i64_of_wf wf0,hl0,fun c hcm=>by obtain ⟨i,hi,rfl⟩:=List.getElem_of_mem hcm;exact hm0 i hi⟩
 obtain ⟨ao1,cap1,L1,rfl,w1,hR1,hK1,hn1,hc1⟩:=open_rows (f:=rstepC) (ok:=RsIn) (n:=9) Tryz.underlying25 (by kernel_rfl) (fun m cs y hl hf=>rstep_cs ansT Tryz.underlying53 rfl rfl Tryz.underlying51 rfl rfl Tryz.underlying4 (by kernel_rfl) (by kernel_rfl) hl hf) (hval 1 25 v1 rfl rfl) h1
 clear hA0 hval0
 refine (reformHears_walk handSays appSays fetchSays rfmSays ep0 ao0 cap0 L0 ao1 cap1 L1 w1 W hF0 hR1 hK1).mono fun e W' ⟨he,bel⟩=>?_
 subst he
 exact ⟨_,rfl,_,_,_,[],_,[],hW',trodAll_mk1 (shut_bool Tryz.underlying4 _),(trodAll_cons_mk (Below.trod z1q (by kernel_rfl) (of_decide_eq_true (by kernel_rfl)) k0 bel lt0) (trodAll_cons_mk (Below.trod z1q (by kernel_rfl) (of_decide_eq_true (by kernel_rfl)) k1 bel lt1) trodAll_mk0)),rfl,bel.frame _,fun h=>by cases h⟩
theorem reformHears_over:Rows.reformHearsRow.holds Tryz.pinned (OpenSpec.ofChange Rows.reformHearsSpec) :=
 OpenClaim.holds_of_wide 3 Tryz.f3 rfl rfl rfl rfl rfl rfl rfl ⟨rfl,rfl,rfl,rfl,rfl⟩ rfl rfl rfl rfl rfl (by kernel_rfl) Tryz.func3 (by kernel_rfl)
  (of_decide_eq_true (by kernel_rfl)) (by unfold Func.isWrapper;first | (rw [if_pos (by decide +kernel)];kernel_rfl) | (rw [if_neg (by decide +kernel)];exact ⟨rfl,rfl⟩))
  (fun os started H enc _=>reformHears_lifted os started H enc)
theorem reformHears_holds:Rows.ReformHearsSaid:=reformHears_over
end Go.Proofs.YtkefpbcifcjibaaGreat
