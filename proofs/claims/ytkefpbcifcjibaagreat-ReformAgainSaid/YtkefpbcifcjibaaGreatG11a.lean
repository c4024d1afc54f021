/- Joined texts. -/
import Derived.Test.YtkefpbcifcjibaaGreatG10a
import Derived.Test.YtkefpbcifcjibaaGreatG08a
import Derived.Deep.RegionWith
import Derived.Maps.Own
import Derived.Maps.OwnOps
import Derived.Maps.OwnSet
import Derived.Maps.Views
import Derived.DeepKeys4
import Derived.Test.YtkefpbcifcjibaaGreatH00
set_option linter.unusedVariables false
set_option maxRecDepth 20000
set_option maxHeartbeats 16000000
namespace Go.Proofs.YtkefpbcifcjibaaGreat
open Go.RowKit
theorem goodB_ep {ep:Int} {L:List (List Int)} (h:ep < 0∨2147483647 < ep):goodB ep L=false:=by
 rw [Bool.eq_false_iff];intro e;have:=(goodB_iff.1 e).1;omega
theorem goodB_len {ep:Int} {L:List (List Int)} (h:L.length < 1∨4 < L.length):goodB ep L=false:=by
 rw [Bool.eq_false_iff];intro e;have:=(goodB_iff.1 e).2.1;omega
theorem goodB_chain {ep:Int} {L:List (List Int)} {k:Nat} (hk:k < L.length) (h:L[k].length < 1∨4 < L[k].length):goodB ep L=false:=by
 rw [Bool.eq_false_iff];intro e
 have:=(chainB_iff.1 ((goodB_iff.1 e).2.2.1 _ (List.getElem_mem hk))).1
 omega
theorem goodB_unit {ep:Int} {L:List (List Int)} {k j:Nat} (hk:k < L.length) (hj:j < L[k].length) (h:L[k][j] < 0∨15 < L[k][j]):goodB ep L=false:=by
 rw [Bool.eq_false_iff];intro e
 have:=(chainB_iff.1 ((goodB_iff.1 e).2.2.1 _ (List.getElem_mem hk))).2 _ (List.getElem_mem hj)
 omega
theorem goodB_end {ep:Int} {L:List (List Int)} (h0:0≤ep∧ep≤2147483647) (h1:1≤L.length∧L.length≤4) (h:∀ c ∈ L.take L.length,chainB c=true):goodB ep L=decide ((unitsR L).length=(L.take L.length).flatten.length):=by
 rw [List.take_of_length_le (Nat.le_refl _)] at *
 rw [Bool.eq_iff_iff,goodB_iff,decide_eq_true_eq,unitsR_length]
 exact ⟨fun e=>e.2.2.2,fun e=>⟨h0,h1,h,e⟩⟩
theorem flat_succ {L:List (List Int)} {k:Nat} (hk:k < L.length):(L.take (k+1)).flatten.length=(L.take k).flatten.length+L[k].length:=by
 rw [List.take_succ_eq_append_getElem hk,List.flatten_append,List.length_append]
 simp
theorem flat_four {L:List (List Int)} {k:Nat} (hl:L.length≤4) (h:∀ c ∈ L.take k,chainB c=true):(L.take k).flatten.length≤16:=by
 have h1:=flat_le (L.take k) 4 (fun c hc=>(chainB_iff.1 (h c hc)).1.2)
 have h2:(L.take k).length≤4:=by rw [List.length_take];omega
 omega
theorem z2a (ep:Int) (ao:Option Addr) (cap:Nat) (L:List (List Int)) (w:World) (h:CL w ao L) (hl:L.length≤255∧∀ c ∈ L,c.length≤255) :
  Calls Tryz.prog 43 #[.agg #[.int .i64 ep,.slice ao L.length cap]] w fun e w'=>e=.returned (.bool (goodB ep L))∧Below w.heap.size w w':=by
 have HB0:=Lh ((Below.refl w.heap.size w).alloc (Nat.le_refl _) (.cells #[.int .i64 ep,.slice ao L.length cap] 24))
 have HC:=Lh (h.below HB0.out)
 have hl':(L.length:Int)≤255:=by omega
 have HM:=Lh hl
 clear h hl
 by_cases he:ep < 0∨2147483647 < ep
 ·rw [goodB_ep he]
  by_cases h0:ep < 0
  ·clear he
   go_enter Tryz.func43,Tryz.ntmps43
   go_wp2_with fail
   go_ret
   exact ⟨rfl,HB0.out⟩
  ·have h1:2147483647 < ep:=by omega
   clear he
   go_enter Tryz.func43,Tryz.ntmps43
   go_wp2_with fail
   go_ret
   exact ⟨rfl,HB0.out⟩
 have e0:0≤ep:=by omega
 have e1:ep≤2147483647:=by omega
 clear he
 by_cases hn:L.length < 1∨4 < L.length
 ·rw [goodB_len hn]
  by_cases h0:L.length < 1
  ·have h2:(L.length:Int) < 1:=by omega
   clear hn
   go_enter Tryz.func43,Tryz.ntmps43
   go_wp2_with fail
   go_ret
   exact ⟨rfl,HB0.out⟩
  ·have h1:(4:Int) < (L.length:Int):=by omega
   have h2:(1:Int)≤(L.length:Int):=by omega
   clear hn
   go_enter Tryz.func43,Tryz.ntmps43
   go_wp2_with fail
   go_ret
   exact ⟨rfl,HB0.out⟩
 have n1:(1:Int)≤(L.length:Int):=by omega
 have n4:(L.length:Int)≤4:=by omega
 have HN4:=Lh (show L.length≤4 by omega)
 have HE:=Lh (@goodB_end ep L ⟨e0,e1⟩ (by omega))
 have HCH:=Lh (fun k hk=>@goodB_chain ep L k hk)
 have HU:=Lh (fun k j hk hj=>@goodB_unit ep L k j hk hj)
 clear hn hl'
 generalize goodB ep L=R at *
 go_enter Tryz.func43,Tryz.ntmps43
 go_wp2_with fail
 go_loop [3,4] (fun s i=>∃ n m:Nat,i=.int .i64 n∧s=.int .i64 m∧n≤L.length∧m≤16∧Hid (m=(L.take n).flatten.length∧∀ c ∈ L.take n,chainB c=true)) (fun _ i=>L.length - (intOf i).toNat)
 case atStart=>exact ⟨0,0,rfl,rfl,Nat.zero_le _,Nat.zero_le _,Lh ⟨rfl,by simp⟩⟩
 case round =>
  obtain ⟨n,m,rfl,rfl,hn,hm,HA⟩:=hrel
  by_cases hlt:n < L.length
  ·obtain ⟨bk,off,ai,ci,hao,c0,hN⟩:=HC.out n hlt
   subst hao
   have k0:(n:Int) < (L.length:Int):=by omega
   by_cases hc:L[n].length < 1∨4 < L[n].length
   ·have HX:=Lh (HCH.out n hlt hc)
    have m0:=HM.out.2 _ (List.getElem_mem hlt)
    by_cases h0:L[n].length < 1
    ·have h1:(L[n].length:Int) < 1:=by omega
     clear hc
     go_wp2_with fail
     go_ret
     rw [HX.out]
     exact ⟨rfl,HB0.out⟩
    ·have h1:(4:Int) < (L[n].length:Int):=by omega
     have h2:(1:Int)≤(L[n].length:Int):=by omega
     clear hc
     go_wp2_with fail
     go_ret
     rw [HX.out]
     exact ⟨rfl,HB0.out⟩
   ·have h1:(1:Int)≤(L[n].length:Int):=by omega
    have h2:(L[n].length:Int)≤4:=by omega
    have HL:=Lh (show 1≤L[n].length∧L[n].length≤4 by omega)
    have HNN:=Lh hN
    clear hc hN
    go_wp2_with fail
    go_loop [5] (fun k=>∃ j:Nat,k=.int .i64 j∧j≤L[n].length∧Hid (∀ u ∈ L[n].take j,0≤u∧u≤15)) (fun k=>L[n].length - (intOf k).toNat)
    case atStart=>exact ⟨0,rfl,Nat.zero_le _,Lh (by simp)⟩
    case round =>
     obtain ⟨j,rfl,hj,HJ⟩:=hrel
     by_cases hjt:j < L[n].length
     ·obtain ⟨b5,o5,hai,c5⟩:=HNN.out.at j hjt
      subst hai
      have k5:(j:Int) < (L[n].length:Int):=by omega
      by_cases hu:L[n][j] < 0∨15 < L[n][j]
      ·have HX:=Lh (HU.out n j hlt hjt hu)
       generalize L[n][j]=u at *
       by_cases h0:u < 0
       ·clear hu
        go_wp2_with fail
        go_ret
        rw [HX.out]
        exact ⟨rfl,HB0.out⟩
       ·have h3:15 < u:=by omega
        have h4:0≤u:=by omega
        clear hu
        go_wp2_with fail
        go_ret
        rw [HX.out]
        exact ⟨rfl,HB0.out⟩
      ·have h3:0≤L[n][j]:=by omega
       have h4:L[n][j]≤15:=by omega
       have HJ2:=Lh (all_take_succ hjt HJ.out ⟨h3,h4⟩)
       generalize L[n][j]=u at *
       clear hu
       go_wp2_with fail
       go_round
       case rel=>exact ⟨j+1,by go_num,by omega,HJ2⟩
       case measure=>simp [intOf];omega
     ·obtain rfl:j=L[n].length:=by omega
      have HC2:=Lh (show chainB L[n]=true from chainB_iff.2 ⟨HL.out,by have:=HJ.out;rwa [List.take_of_length_le (Nat.le_refl _)] at this⟩)
      have HA2:=Lh (all_take_succ hlt HA.out.2 HC2.out)
      have HF:=Lh (show m+L[n].length=(L.take (n+1)).flatten.length by rw [flat_succ hlt,HA.out.1])
      have h16:=flat_four HN4.out HA2.out
      rw [← HF.out] at h16
      go_wp2_with fail
      go_round
      case rel=>exact ⟨n+1,m+L[n].length,by go_num,by go_num,by omega,h16,Lh ⟨HF.out,HA2.out⟩⟩
      case measure=>simp [intOf];omega
  ·obtain rfl:n=L.length:=by omega
   have HX:=Lh (HE.out HA.out.2)
   rw [← HA.out.1] at HX
   by_cases hq:(unitsR L).length=m
   ·have HR:=Lh (show R=true from by rw [HX.out];exact decide_eq_true hq)
    have q1:(((unitsR L).length:Int) == (m:Int))=true:=beq_iff_eq.2 (by omega)
    have q2:((unitsR L).length == m)=true:=beq_iff_eq.2 hq
    clear hq
    go_wp2_with (go_at_call 27;refine (z1p ep ao cap L _ HC.out HM.out).mono ?_;rintro e w1 ⟨bo,cb,rfl,_,hb1⟩)
    go_ret
    rw [HR.out]
    exact ⟨rfl,HB0.out.trans (hb1.mono HB0.out.size)⟩
   ·have HR:=Lh (show R=false from by rw [HX.out];exact decide_eq_false hq)
    have q1:(((unitsR L).length:Int) == (m:Int))=false:=beq_eq_false_iff_ne.2 (by omega)
    have q2:((unitsR L).length == m)=false:=beq_eq_false_iff_ne.2 hq
    clear hq
    go_wp2_with (go_at_call 27;refine (z1p ep ao cap L _ HC.out HM.out).mono ?_;rintro e w1 ⟨bo,cb,rfl,_,hb1⟩)
    go_ret
    rw [HR.out]
    exact ⟨rfl,HB0.out.trans (hb1.mono HB0.out.size)⟩
theorem OC.ofCP {w:World} {B:Nat} {v:Value} {vs:List Value} {L:List (List Int)} (h:CP w B v vs L):OC w B v L:=by
 refine ⟨vs,h.1,fun i hi=>?_⟩
 have hv:i < vs.length:=by rw [h.2.1];exact hi
 obtain ⟨h1,h2⟩:=h.2.2.1 i hi vs[i] (List.getElem?_eq_getElem hv)
 obtain ⟨ao,cap,e,hN,hA,ho⟩:=h1.form
 exact ⟨ao,cap,by rw [List.getElem?_eq_getElem hv,e],hN,fun a ea=>⟨(hA a ea).1,(hA a ea).2,h2 a.block (by rw [ho,ea];rfl)⟩⟩
theorem z14 (ep:Int) (ao:Option Addr) (cap:Nat) (L:List (List Int)) (w:World) (hT:CL w ao L) (hS:L.length≤255∧∀ c ∈ L,c.length≤255) :
  Calls Tryz.prog 46 #[.agg #[.int .i64 ep,.slice ao L.length cap]] w fun e w'=>∃ v,e=.returned (.agg #[.int .i64 ep,v])∧OC w' w.heap.size v L∧Below w.heap.size w w':=by
 have HB0:=Lh ((((Below.refl w.heap.size w).alloc (Nat.le_refl _) (.cells #[.int .i64 ep,.slice ao L.length cap] 24)).alloc (by simp) (.cells #[.int .i64 0,.slice none 0 0] 24)).alloc (by simp;omega) (.cells #[.int .i64 ep,.slice none 0 0] 24))
 have hl':(L.length:Int)≤255:=by have:=hS.1;omega
 have HT:=Lh hT
 have HM:=Lh hS
 have HRES:=Lh (show ((((w.alloc (.cells #[.int .i64 ep,.slice ao L.length cap] 24)).alloc (.cells #[.int .i64 0,.slice none 0 0] 24)).alloc (.cells #[.int .i64 ep,.slice none 0 0] 24))).heap[w.heap.size+1]?=some (.cells #[.int .i64 0,.slice none 0 0] 24 (0,0)) from by
  have h:=heap_alloc_new (w.alloc (.cells #[.int .i64 ep,.slice ao L.length cap] 24)) (.cells #[.int .i64 0,.slice none 0 0] 24)
  have h2:=z01 ((Below.refl _ _).alloc (Nat.le_refl _) (.cells #[.int .i64 ep,.slice none 0 0] 24)) h
  simpa using h2)
 have HQ0:=Lh (show ((((w.alloc (.cells #[.int .i64 ep,.slice ao L.length cap] 24)).alloc (.cells #[.int .i64 0,.slice none 0 0] 24)).alloc (.cells #[.int .i64 ep,.slice none 0 0] 24))).heap[w.heap.size+2]?=some (.cells #[.int .i64 ep,.slice none 0 0] 24 (0,0)) from by
  have h:=heap_alloc_new ((w.alloc (.cells #[.int .i64 ep,.slice ao L.length cap] 24)).alloc (.cells #[.int .i64 0,.slice none 0 0] 24)) (.cells #[.int .i64 ep,.slice none 0 0] 24)
  simpa using h)
 have HSZ:=Lh (show ((((w.alloc (.cells #[.int .i64 ep,.slice ao L.length cap] 24)).alloc (.cells #[.int .i64 0,.slice none 0 0] 24)).alloc (.cells #[.int .i64 ep,.slice none 0 0] 24))).heap.size=w.heap.size+3 from by simp)
 clear hT hS
 go_enter Tryz.func46,Tryz.ntmps46
 go_wp2_with fail
 generalize hW0:World.alloc (World.alloc _ _) _=W0 at *
 go_loopw [12] (fun i wr=>∃ (n:Nat) (v:Value) (vs:List Value),i=.int .i64 n∧n≤L.length∧Hid (wr.heap[w.heap.size+2]?=some (.cells #[.int .i64 ep,v] 24 (0,0)))∧Hid (CP wr (w.heap.size+3) v vs (L.take n))∧Hid (Kept (fun k=>k < w.heap.size+3∧k≠w.heap.size+2) W0 wr)) (fun i _=>L.length - (intOf i).toNat)
 case atStart=>exact ⟨0,_,[],rfl,Nat.zero_le _,HQ0,Lh (by rw [List.take_zero];exact CP.nil _ _),Lh (Kept.refl _ _)⟩
 case round =>
  obtain ⟨n,v,vs,rfl,hn,HP,HC,HK⟩:=hrel
  have HWB:=Lh (HB0.out.trans (HK.out.toBelow (by rw [HSZ.out];omega) (fun k h=>⟨by omega,by omega⟩)))
  have hszr:w.heap.size+3≤wr.heap.size:=by have:=HK.out.size;have:=HSZ.out;omega
  by_cases hlt:n < L.length
  ·obtain ⟨bk,off,ai,ci,hao,c0w,hN⟩:=HT.out n hlt
   subst hao
   have cA:wr.cell? ⟨bk,off+n,none⟩=some (.slice ai L[n].length ci):=z0s HWB.out (block_lt_of_cell c0w) c0w
   have HNN:=Lh (show NLI wr.drew ai ci L[n] from (hN.below HWB.out).drew)
   have k0:(n:Int) < (L.length:Int):=by omega
   have m0:=HM.out.2 _ (List.getElem_mem hlt)
   have m0':(L[n].length:Int)≤255:=by omega
   have hLn:=HM.out.1
   have HLT:=Lh (show (L.take n).length+1≤1000000 from by rw [List.length_take];omega)
   obtain ⟨c0,c1,f0,f1⟩:=z05 HP.out
   have HTK:=Lh (fun (w':World) (v':Value) (vs':List Value) h=>@CP.take w' (w.heap.size+3) v' vs' L n hlt h)
   have hqr:w.heap.size+2 < wr.heap.size:=by omega
   clear c0w hN
   go_wp2_with fail
   clear cA
   go_region_law (first
    | (refine z0d rfl (.const (.slice none 0 0)) (.tmp 18) rfl (B:=wr.heap.size) (v:=.slice none 0 0) (D:=[]) rfl (OI.nil _ _) (ao:=ai) (cap:=ci) (l:=L[n]) rfl rfl HNN.out (by simp;omega) (Nat.le_refl _) ?_;intro v1 w1 hI hg _;rw [List.nil_append] at hI;have hb1:Below wr.heap.size wr w1:=(Below.refl wr.heap.size wr).drew.grown hg (Nat.le_refl _) (fun k e=>by cases e);obtain ⟨a1,cc1,hv1,_,_,_⟩:=hI.form;subst hv1;have HC1:=Lh (HC.out.below hb1);have HF1:=Lh (HC.out.fresh hI);have HI1:=Lh (hI.lower hszr);have HB1:=Lh hb1;have hsz1:w.heap.size+3≤w1.heap.size:=Nat.le_trans hszr hb1.size;have hq1:w.heap.size+2 < w1.heap.size:=hsz1;have HP1:=Lh (z01 hb1 HP.out);obtain ⟨d0,d1,g0,g1⟩:=z05 HP1.out;clear hI hg hb1)
    | (refine step_app_copy rfl (.tmp 17) (.tmp 20) rfl (w:=w1) (B:=w.heap.size+3) (v:=v) (vs:=vs) (L:=L.take n) rfl HC1.out (y:=.slice a1 L[n].length cc1) (l:=L[n]) rfl HI1.out HF1.out HLT.out hsz1 ?_;intro v2 w2 hC2 hb2;obtain ⟨b8,n8,c8,hv8⟩:∃ b8 n8 c8,v2=.slice b8 n8 c8:=(by obtain ⟨x,y,e⟩:=hC2.form;exact ⟨x,_,y,e⟩);subst hv8;have HC2:=Lh (HTK.out _ _ _ hC2);have HP2:=Lh ((below_kept hb2 hsz1).heap (b:=w.heap.size+2) (by omega) HP1.out);obtain ⟨x0,x1,y0,y1⟩:=z05 HP2.out;have HK2:=Lh ((HK.out.below HB1.out).trans ((below_kept hb2 hsz1).mono (fun k h=>h.1)));clear hC2 hb2))
   all_goals
    go_wp2_with fail
    go_roundw
    case rel =>
     refine ⟨n+1,.slice b8 n8 c8,vs ++ [.slice a1 L[n].length cc1],by go_num,by omega,Lh (z27 HP2.out (.slice b8 n8 c8)),Lh ?_,Lh ?_⟩
     ·exact HC2.out.keep ((Kept.refl (fun k=>w.heap.size+3≤k) w2).setCell (p:=⟨w.heap.size+2,1,none⟩) (by simp) (.slice b8 n8 c8)) (fun k h _=>h)
     ·exact HK2.out.setCell (p:=⟨w.heap.size+2,1,none⟩) (by simp) (.slice b8 n8 c8)
    case measure=>simp [intOf];omega
  ·obtain rfl:n=L.length:=by omega
   rw [List.take_of_length_le (Nat.le_refl _)] at HC
   obtain ⟨bo1,cb1,hv1⟩:=HC.out.form
   subst hv1
   have HR:=Lh (HK.out.heap (b:=w.heap.size+1) ⟨by omega,by omega⟩ HRES.out)
   obtain ⟨c0,c1,f0,f1⟩:=z05 HP.out
   obtain ⟨t0,t1,g0,g1⟩:=z05 HR.out
   have hszp:w.heap.size+2 < wr.heap.size:=by omega
   go_wp2_with fail
   have hK:=((Kept.refl (fun k=>w.heap.size+3≤k) wr).setCell (p:=⟨w.heap.size+1,0,none⟩) (by simp) (.int .i64 ep)).setCell (p:=⟨w.heap.size+1,1,none⟩) (by simp) (.slice bo1 L.length cb1)
   exact proj_ret rfl (z27 (two_set0 HR.out (.int .i64 ep)) (.slice bo1 L.length cb1)) rfl rfl ⟨.slice bo1 L.length cb1,rfl,(OC.ofCP (HC.out.keep hK (fun _ h _=>h))).lower (by omega),(HWB.out.setCell (by simp) _).setCell (by simp) _⟩
theorem on_refuse (b:Nat) (G:Nat→Prop) (w:World) (o:Od) (a:Ak) (h:OM b G w o) :
  Calls Tryz.prog 138 #[ptrO b,askV a] w fun e w'=>e=.returned (anW 1 0 noT 0)∧Leaves (OM b) G w w' o:=by
 obtain ⟨k,un,ep,pg,sz,n,s,pe,L,ao,cap⟩:=a
 have CC:=Lh z18
 have HS:=Lh (z0e (z07 b) h #[.int .i64 k,.int .i64 un,.int .i64 ep,.int .i64 pg,.int .i64 sz,.int .i64 n,.string s,.int .i64 pe,.slice ao L.length cap])
 unfold zeroAn at HS
 clear h
 show Calls _ _ #[.pointer (some ⟨b,0,none⟩),.agg #[.int .i64 k,.int .i64 un,.int .i64 ep,.int .i64 pg,.int .i64 sz,.int .i64 n,.string s,.int .i64 pe,.slice ao L.length cap]] w _
 go_enter Tryz.func138,Tryz.ntmps138
 go_wp2_with (go_at_call 119;refine (CC.out _ _).mono ?_;rintro e w3 ⟨rfl,hb3⟩;have HT3:=Lh (HS.out.below (z07 b) hb3);clear hb3;obtain ⟨nl1,nl2⟩:=HT3.out.small;obtain ⟨⟨ny0,ny1,ny2,ny3,ny4,ny5,ny6,ny7⟩,nfy0,nfy1,nfy2,nfy3,nfy4,nfy5,nfy6,nfy7⟩:=z03 HT3.out.ans)
 exact z0k (x:=anP 1 0 noT 0) (ao:=none) (cap:=0) rfl (HT3.out.fin (z07 b)).1 rfl rfl ⟨rfl,(HT3.out.fin (z07 b)).2⟩
theorem on_look_other (b:Nat) (G:Nat→Prop) (w:World) (o:Od) (a:Ak) (h:OM b G w o) (he:a.epoch≠o.epoch) :
  Calls Tryz.prog 137 #[ptrO b,askV a] w fun e w'=>e=.returned (anW 40 0 noT 0)∧Leaves (OM b) G w w' o:=by
 obtain ⟨k,un,ep,pg,sz,n,s,pe,L,ao,cap⟩:=a
 obtain ⟨oe,ot,ok⟩:=o
 simp only at *
 have de:(ep != oe)=true:=bne_iff_ne.2 he
 clear he
 have CC:=Lh z18
 have HS:=Lh (z0e (z07 b) h #[.int .i64 k,.int .i64 un,.int .i64 ep,.int .i64 pg,.int .i64 sz,.int .i64 n,.string s,.int .i64 pe,.slice ao L.length cap])
 unfold zeroAn at HS
 clear h
 show Calls _ _ #[.pointer (some ⟨b,0,none⟩),.agg #[.int .i64 k,.int .i64 un,.int .i64 ep,.int .i64 pg,.int .i64 sz,.int .i64 n,.string s,.int .i64 pe,.slice ao L.length cap]] w _
 go_enter Tryz.func137,Tryz.ntmps137
 go_wp2_with fail
 generalize hW0:((w.alloc (.cells #[.int .i64 k,.int .i64 un,.int .i64 ep,.int .i64 pg,.int .i64 sz,.int .i64 n,.string s,.int .i64 pe,.slice ao L.length cap] 34)).alloc (.cells #[.int .i64 0,.int .i64 0,.string ⟨#[]⟩,.int .i64 0,.slice none 0 0,.int .i64 0,.int .i64 0,.int .i64 0] 49))=W0 at *
 clear hW0
 obtain ⟨l1,l2⟩:=HS.out.small
 obtain ⟨H,hH,_⟩:=HS.out.use
 have x2:W0.cell? ⟨w.heap.size,2,none⟩=some (.int .i64 ep):=z02 HS.out.ask 2
 obtain ⟨t,_,hc⟩:=hH.cells
 obtain ⟨c0,c1,c2,_⟩:=z09 hc
 have hb:=hH.small
 clear hH hc
 go_quiet (fail)
 have HT2:=Lh (HS.out.drewN (z07 b) nq)
 generalize hW2:World.drewN W0 nq=w2 at *
 clear hW2 x2 c0 c1 c2 hb l1 l2
 obtain ⟨l1,l2⟩:=HT2.out.small
 go_wp2_with (go_at_call 119;refine (CC.out _ _).mono ?_;rintro e w3 ⟨rfl,hb3⟩;have HT3:=Lh (HT2.out.below (z07 b) hb3);clear hb3;obtain ⟨nl1,nl2⟩:=HT3.out.small;obtain ⟨⟨ny0,ny1,ny2,ny3,ny4,ny5,ny6,ny7⟩,nfy0,nfy1,nfy2,nfy3,nfy4,nfy5,nfy6,nfy7⟩:=z03 HT3.out.ans)
 exact z0k (x:=anP 40 0 noT 0) (ao:=none) (cap:=0) rfl (HT3.out.fin (z07 b)).1 rfl rfl ⟨rfl,(HT3.out.fin (z07 b)).2⟩
theorem on_look_dumb (b:Nat) (G:Nat→Prop) (w:World) (o:Od) (a:Ak) (h:OM b G w o) (he:a.epoch=o.epoch) (hn:o.knows=false) :
  Calls Tryz.prog 137 #[ptrO b,askV a] w fun e w'=>e=.returned (anW 47 0 noT 0)∧Leaves (OM b) G w w' o:=by
 obtain ⟨k,un,ep,pg,sz,n,s,pe,L,ao,cap⟩:=a
 obtain ⟨oe,ot,ok⟩:=o
 simp only at *
 have de:(ep != oe)=false:=bne_eq_false_iff_eq.2 he
 clear he
 subst hn
 have CC:=Lh z18
 have HS:=Lh (z0e (z07 b) h #[.int .i64 k,.int .i64 un,.int .i64 ep,.int .i64 pg,.int .i64 sz,.int .i64 n,.string s,.int .i64 pe,.slice ao L.length cap])
 unfold zeroAn at HS
 clear h
 show Calls _ _ #[.pointer (some ⟨b,0,none⟩),.agg #[.int .i64 k,.int .i64 un,.int .i64 ep,.int .i64 pg,.int .i64 sz,.int .i64 n,.string s,.int .i64 pe,.slice ao L.length cap]] w _
 go_enter Tryz.func137,Tryz.ntmps137
 go_wp2_with fail
 generalize hW0:((w.alloc (.cells #[.int .i64 k,.int .i64 un,.int .i64 ep,.int .i64 pg,.int .i64 sz,.int .i64 n,.string s,.int .i64 pe,.slice ao L.length cap] 34)).alloc (.cells #[.int .i64 0,.int .i64 0,.string ⟨#[]⟩,.int .i64 0,.slice none 0 0,.int .i64 0,.int .i64 0,.int .i64 0] 49))=W0 at *
 clear hW0
 obtain ⟨l1,l2⟩:=HS.out.small
 obtain ⟨H,hH,_⟩:=HS.out.use
 have x2:W0.cell? ⟨w.heap.size,2,none⟩=some (.int .i64 ep):=z02 HS.out.ask 2
 obtain ⟨t,_,hc⟩:=hH.cells
 obtain ⟨c0,c1,c2,_⟩:=z09 hc
 have hb:=hH.small
 clear hH hc
 go_quiet (fail)
 have HT2:=Lh (HS.out.drewN (z07 b) nq)
 generalize hW2:World.drewN W0 nq=w2 at *
 clear hW2 x2 c0 c1 c2 hb l1 l2
 obtain ⟨l1,l2⟩:=HT2.out.small
 obtain ⟨H,hH,_⟩:=HT2.out.use
 obtain ⟨t2,_,hc⟩:=hH.cells
 obtain ⟨c0,c1,c2,_⟩:=z09 hc
 have hb:=hH.small
 clear hH hc
 go_wp2_with (go_at_call 119;refine (CC.out _ _).mono ?_;rintro e w3 ⟨rfl,hb3⟩;have HT3:=Lh (HT2.out.below (z07 b) hb3);clear hb3;obtain ⟨nl1,nl2⟩:=HT3.out.small;obtain ⟨⟨ny0,ny1,ny2,ny3,ny4,ny5,ny6,ny7⟩,nfy0,nfy1,nfy2,nfy3,nfy4,nfy5,nfy6,nfy7⟩:=z03 HT3.out.ans)
 exact z0k (x:=anP 47 0 noT 0) (ao:=none) (cap:=0) rfl (HT3.out.fin (z07 b)).1 rfl rfl ⟨rfl,(HT3.out.fin (z07 b)).2⟩
theorem on_look (b:Nat) (G:Nat→Prop) (w:World) (o:Od) (a:Ak) (h:OM b G w o) (he:a.epoch=o.epoch) (hn:o.knows=true) :
  Calls Tryz.prog 137 #[ptrO b,askV a] w fun e w'=>e=.returned (anW 0 o.tail noT 0)∧Leaves (OM b) G w w' o:=by
 obtain ⟨k,un,ep,pg,sz,n,s,pe,L,ao,cap⟩:=a
 obtain ⟨oe,ot,ok⟩:=o
 simp only at *
 have de:(ep != oe)=false:=bne_eq_false_iff_eq.2 he
 clear he
 subst hn
 have HS:=Lh (z0e (z07 b) h #[.int .i64 k,.int .i64 un,.int .i64 ep,.int .i64 pg,.int .i64 sz,.int .i64 n,.string s,.int .i64 pe,.slice ao L.length cap])
 unfold zeroAn at HS
 clear h
 show Calls _ _ #[.pointer (some ⟨b,0,none⟩),.agg #[.int .i64 k,.int .i64 un,.int .i64 ep,.int .i64 pg,.int .i64 sz,.int .i64 n,.string s,.int .i64 pe,.slice ao L.length cap]] w _
 go_enter Tryz.func137,Tryz.ntmps137
 go_wp2_with fail
 generalize hW0:((w.alloc (.cells #[.int .i64 k,.int .i64 un,.int .i64 ep,.int .i64 pg,.int .i64 sz,.int .i64 n,.string s,.int .i64 pe,.slice ao L.length cap] 34)).alloc (.cells #[.int .i64 0,.int .i64 0,.string ⟨#[]⟩,.int .i64 0,.slice none 0 0,.int .i64 0,.int .i64 0,.int .i64 0] 49))=W0 at *
 clear hW0
 obtain ⟨l1,l2⟩:=HS.out.small
 obtain ⟨H,hH,_⟩:=HS.out.use
 have x2:W0.cell? ⟨w.heap.size,2,none⟩=some (.int .i64 ep):=z02 HS.out.ask 2
 obtain ⟨t,_,hc⟩:=hH.cells
 obtain ⟨c0,c1,c2,_⟩:=z09 hc
 have hb:=hH.small
 clear hH hc
 go_quiet (fail)
 have HT2:=Lh (HS.out.drewN (z07 b) nq)
 generalize hW2:World.drewN W0 nq=w2 at *
 clear hW2 x2 c0 c1 c2 hb l1 l2
 obtain ⟨l1,l2⟩:=HT2.out.small
 obtain ⟨H,hH,_⟩:=HT2.out.use
 obtain ⟨t2,ht2,hc⟩:=hH.cells
 have et:t2=ot:=ht2 rfl
 clear ht2
 subst et
 obtain ⟨c0,c1,c2,_⟩:=z09 hc
 have hb:=hH.small
 clear hH hc
 obtain ⟨⟨ny0,ny1,ny2,ny3,ny4,ny5,ny6,ny7⟩,nfy0,nfy1,nfy2,nfy3,nfy4,nfy5,nfy6,nfy7⟩:=z03 HT2.out.ans
 go_wp2_with fail
 exact z0k (x:=anP 0 t2 noT 0) (ao:=none) (cap:=0) rfl (HT2.out.fin (z07 b)).1 rfl rfl ⟨rfl,(HT2.out.fin (z07 b)).2⟩
structure Fe where
 ep:Int
 L:List (List Int)
 addr:Int
 fill:Bool
 at_:Int
 was:Int
 i:Nat
 kind:Int
 s:ByteArray
 e:Int
def newFe (ep:Int) (L:List (List Int)) (addr:Int) (fill:Bool):Fe:=if ofB ep L addr=true then ⟨ep,L,addr,fill,2,0,0,0,noS,0⟩ else ⟨ep,L,addr,fill,7,0,0,0,noS,1⟩
def Fe.chain (f:Fe):List Int:=chainR f.ep f.L f.addr
def Fe.unitK (f:Fe) (kind:Int) (i:Nat) (s:ByteArray):Ak:=⟨kind,f.chain.getD i 0,f.ep,ofP f.ep f.L f.addr,0,0,s,0,[],none,0⟩
def Fe.asks (f:Fe):Bool:=decide (f.at_≠7)
def Fe.ask (f:Fe):Ak :=
 if f.at_=1∨f.at_=6 then layK else if f.at_=2 then f.unitK 3 (f.chain.length - 1) ⟨#[]⟩ else if f.at_=3 then f.unitK 3 0 ⟨#[]⟩ else if f.at_=4 then f.unitK 2 0 ⟨#[]⟩
 else if f.at_=5 then (if f.kind=1 then f.unitK 1 f.i f.s else f.unitK 2 f.i ⟨#[]⟩) else zeroK
def Fe.to (f:Fe) (m:Int):Fe:={ f with at_:=m }
def Fe.ends (f:Fe) (kind:Int) (s:ByteArray) (e:Int):Fe:={ f with at_:=7,kind:=kind,s:=s,e:=e }
def Fe.found (f:Fe) (kind:Int) (s:ByteArray):Fe:={ f with kind:=kind,s:=s }
def Fe.mend (f:Fe) (i:Nat):Fe:=if i=f.chain.length then { f with at_:=7,i:=i,e:=0 } else { f with at_:=5,i:=i }
def Fe.first (f:Fe) (x:An):Fe :=
 if x.code=0 then (f.found 1 x.data).mend 1 else if x.code=46 then (f.found 2 noS).mend 1 else if x.code=43 then f.ends 3 noS 0
 else if x.code=42 then (if f.fill=true then f.to 4 else f.ends 0 noS 0) else f.ends 0 noS x.code
def Fe.learns (f:Fe) (x:An):Fe:={ f with ep:=x.pe,L:=x.L,at_:=2,kind:=0,s:=noS }
def Fe.hear (f:Fe) (x:An) (heard:Bool):Fe :=
 if f.at_=7∨heard=false then f
 else if x.code=45 then (if f.at_≠1∧f.at_≠6 then { f with at_:=6,was:=f.at_ } else f)
 else if x.code=40 then f.to 1
 else if f.at_=1 then (if x.code=0∧goodB x.pe x.L=true then f.learns x else f)
 else if f.at_=6 then (if x.code=0∧goodB x.pe x.L=true∧x.pe≠f.ep then f.learns x else f.to f.was)
 else if f.at_=2 then (if x.code=0 then f.ends 1 x.data 0 else if x.code=46 then f.ends 2 noS 0 else if x.code=43 then f.ends 3 noS 0 else if x.code=42 then (if f.chain.length=1 then f.first x else f.to 3) else f.ends 0 noS x.code)
 else if f.at_=3 then f.first x
 else if f.at_=4 then (if x.code=0 then (f.found 2 noS).mend 1 else if x.code=41 then f.to 3 else if x.code=43 then f.ends 3 noS 0 else f.ends 0 noS x.code)
 else (if x.code=0∨x.code=41 then f.mend (f.i+1) else if x.code=43 then f.ends 3 noS 0 else f.ends 0 noS x.code)
def Fe.overK (f:Fe):Int:=if f.at_=7 then f.kind else 0
def Fe.overS (f:Fe):ByteArray:=if f.at_=7 then f.s else noS
def Fe.overE (f:Fe):Int:=if f.at_=7 then f.e else 0
def Fe.overB (f:Fe):Bool:=decide (f.at_=7)
structure Rf where
 qe:Int
 qL:List (List Int)
 oe:Int
 oL:List (List Int)
 at_:Int
 i:Nat
 tails:List (Int × Int)
 e:Int
def newRf (qe:Int) (qL:List (List Int)):Rf:=if goodB qe qL=true then ⟨qe,qL,0,[],1,0,[],0⟩ else ⟨qe,qL,0,[],5,0,[],11⟩
def Rf.unit (r:Rf):Int:=(unitsR r.oL).getD r.i 0
def sealK (u e:Int):Ak:=⟨5,u,e,0,0,0,⟨#[]⟩,0,[],none,0⟩
def chgK (e:Int) (L:List (List Int)):Ak:=⟨10,0,0,0,0,0,⟨#[]⟩,e,L,none,0⟩
def startK (e t:Int):Ak:=⟨8,0,e,t,0,0,⟨#[]⟩,0,[],none,0⟩
def Rf.ask (r:Rf):Ak :=
 if r.at_=1 then layK else if r.at_=2 then sealK r.unit r.qe else if r.at_=3 then chgK r.qe r.qL else if r.at_=4 then startK r.qe (tailR r.oe r.oL r.tails) else zeroK
def Rf.asks (r:Rf):Bool:=decide (r.at_≠5)
def Rf.ends (r:Rf) (e:Int):Rf:=⟨r.qe,r.qL,r.oe,r.oL,5,r.i,r.tails,e⟩
def Rf.to (r:Rf) (m:Int):Rf:=⟨r.qe,r.qL,r.oe,r.oL,m,r.i,r.tails,r.e⟩
def Rf.next (r:Rf) (K:List (Int × Int)):Rf:=⟨r.qe,r.qL,r.oe,r.oL,if r.i+1=(unitsR r.oL).length then 3 else 2,r.i+1,K,r.e⟩
def Rf.hear (r:Rf) (x:An) (heard:Bool):Rf :=
 if r.at_=5∨heard=false∨x.code=45 then r
 else if r.at_=1 then (if x.code≠0 then r.ends x.code else if nextB x.pe x.L r.qe r.qL=true then ⟨r.qe,r.qL,x.pe,x.L,2,r.i,r.tails,r.e⟩ else r.ends 48)
 else if r.at_=2 then (if x.code≠0 then r.ends x.code else r.next (r.tails ++ [(r.unit,x.n)]))
 else if r.at_=3 then (if x.code=0∨(x.code=48∧sameP x.pe x.L r.qe r.qL=true) then r.to 4 else r.ends x.code)
 else (if x.code=0∨(x.code=40∧x.epoch=r.qe) then r.ends 0 else r.ends x.code)
def Rf.mays (r:Rf):Bool:=decide (r.at_=2) && !decide (r.unit ∈ unitsR r.qL)
def Rf.skip (r:Rf):Rf:=if r.mays=true then r.next r.tails else r
def Rf.overE (r:Rf):Int:=if r.at_=5 then r.e else 0
def Rf.overB (r:Rf):Bool:=decide (r.at_=5)
theorem nodup_short (n:Nat):∀ l:List Int,l.Nodup→(∀ x ∈ l,0≤x∧x < n)→l.length≤n:=by
 induction n with
 | zero =>
  intro l _ h
  cases l with
  | nil=>exact Nat.le_refl _
  | cons x l=>have:=h x List.mem_cons_self;omega
 | succ n ih =>
  intro l h1 h2
  have h3:(l.erase (n:Int)).length≤n:=ih _ (h1.erase _) (fun x hx=>by
   have h4:=(h1.mem_erase_iff).1 hx
   have h5:=h2 x h4.2
   have h6:=h4.1
   omega)
  rw [List.length_erase] at h3
  split at h3 <;> omega
section
variable {s:ByteArray} {u:Us} {q:Int} {k:Ak}
end
section
variable {s:ByteArray} {t:Int} {n:Nd} {k:Ak}
theorem putU_same (n:Nd) (i:Nat):n.putU i (n.u i)=n:=by
 unfold Nd.putU
 have:(fun j=>if j=i then n.u i else n.u j)=n.u:=by
  funext j
  split
  ·next e=>rw [e]
  ·rfl
 rw [this]
end
section
variable {s:ByteArray} {t:Int} {n n':Nd} {a:Ap}
end
end Go.Proofs.YtkefpbcifcjibaaGreat
namespace Go.Proofs.YtkefpbcifcjibaaGreat
open Go.RowKit Go.Maps
theorem left_same {G:Nat→Prop} {w:World} {b:Nat} {p:Ps} (h:PGm G w b p):Left PGm G w w b p:=⟨G,h,Kept.refl _ w,fun k hk=>.inl hk⟩
theorem left_drawn {G:Nat→Prop} {w w':World} {b:Nat} {p:Ps} (h:PGm G w b p) (hb:Below w.heap.size w w'):Left PGm G w w' b p:=⟨G,h.below hb,Kept.ofBelow hb _,fun k hk=>.inl hk⟩
theorem put_ready {G:Nat→Prop} {w w1:World} {b mb:Nat} {p:Ps} {x:Pg} (h1:w.heap[b]?=some (.cells #[.int .i64 p.room,.int .i64 p.edge,.map (some mb)] 234 (0,0))) (h2:Tp w mb p.l) (h3:mb≠b) (h4:G b) (h5:G mb) (h6:∀ k,G k→k < w.heap.size)
  (hb:Below w.heap.size w w1) (hx:(Lit.int .i64 x.at_).wf=true) (hn:x.at_ ∉ p.l.map (·.at_)) (hl:p.l.length≤100000) :
  ∃ w2,(Instr.mapUpdate 232 (.map (some mb)) (.agg #[.int .i64 x.at_]) (.agg #[.int .i64 x.kind,.string x.s])).run Tryz.prog w1=.ok () w2∧Left PGm G w w2 b (p.add x):=by
 obtain ⟨w2,hr,hT,hg⟩:=(h2.below hb).put hx hn hl
 have hbl:b < w1.heap.size:=Nat.lt_of_lt_of_le (h6 b h4) hb.size
 refine ⟨w2,hr,G,⟨mb,(hg.block b hbl (fun e=>h3 (Option.some.inj e).symm)).trans (z01 hb h1),hT,h3,h4,h5,fun k hk=>Nat.lt_of_lt_of_le (h6 k hk) (Nat.le_trans hb.size hg.size)⟩,(Kept.ofBelow hb _).grown hg (fun k e=>by cases e;exact fun hn=>hn h5),fun k hk=>.inl hk⟩
theorem put_any (G:Nat→Prop) (w:World) (b:Nat) (p:Ps) (a kd:Int) (s:ByteArray) (h:PGm G w b p) (ht:thereB a=true) (hn:a ∉ p.l.map (·.at_)) (hs:s.size≤1000000) (hl:p.l.length≤100000) :
  Calls Tryz.prog 194 #[.pointer (some ⟨b,0,none⟩),.int .i64 a,.int .i64 kd,.string s] w fun e w'=>e=.returned (.int .i64 (if p.room≤p.l.length then 44 else 0))∧Left PGm G w w' b (if p.room≤p.l.length then p else p.add ⟨a,kd,s⟩):=by
 have HP:=Lh h
 obtain ⟨mb,h1,h2,h3,h4,h5,h6⟩:=h
 obtain ⟨c0,c1,c2,_⟩:=z09 h1
 have hc:=fun (n:Nat) (ty:TypeId)=>h2.count ty (w.drewN n) rfl
 by_cases hr:p.room≤p.l.length
 ·have HL:=Lh (fun n=>left_drawn HP.out (below_drewN (Below.refl w.heap.size w) n))
  rw [if_pos hr,if_pos hr]
  have hd:decide (p.room≤(p.l.length:Int))=true:=decide_eq_true hr
  clear h1 h2 h3 h4 h5 h6 hn ht hr HP
  go_enter Tryz.func194,Tryz.ntmps194
  go_wp2_with fail
  go_quiet (fail)
  go_wp2_with fail
  go_ret
  exact ⟨rfl,HL.out _⟩
 ·have hd:decide (p.room≤(p.l.length:Int))=false:=decide_eq_false hr
  have HR:=Lh (fun w1 hb=>@put_ready G w w1 b mb p ⟨a,kd,s⟩ h1 h2 h3 h4 h5 h6 hb (there_wf ht) hn hl)
  rw [if_neg hr,if_neg hr]
  have HC:=Lh (fun w1 (hb:Below w.heap.size w w1)=>(z09 (z01 hb h1)).2.2.1)
  have HB:=Lh (fun n=>below_drewN (Below.refl w.heap.size w) n)
  have HS:=Lh (show s.size≤1099511627776 by omega)
  clear h1 h2 h3 h4 h5 h6 hn ht hr HP
  generalize p.add ⟨a,kd,s⟩=p2 at *
  go_enter Tryz.func194,Tryz.ntmps194
  go_wp2_with fail
  go_quiet (fail)
  go_wp2_with fail
  have HBQ:=Lh ((HB.out nq).drew)
  have e2:=HC.out _ (HB.out nq)
  clear c0 c1 c2 hc hd
  generalize w.drewN nq=wq at *
  go_region_with (go_at_call 71;refine (clone_any s _ HS.out).mono ?_;rintro e w1 ⟨rfl,hb1⟩;have hb2:=HBQ.out.trans (hb1.mono HBQ.out.size);have d2:=HC.out _ hb2;obtain ⟨w2,hup,hlf⟩:=HR.out _ hb2;have HLF:=Lh hlf;clear hb1 hb2 hlf)
  all_goals
   go_wp2_with fail
   go_ret
   exact ⟨rfl,HLF.out⟩
theorem int_law:Keyed Tryz.prog 3:=int_keyed Tryz.underlying3
theorem int_key {u:Int} (hu:(Lit.int .i64 u).wf=true):keyOf Tryz.prog 3 (.int .i64 u)=some (.int .i64 u):=by
 simp [keyOf,Tryz.underlying3,mapKey,hu]
structure MK (D:DataW Unit) (K:List (Int × Int)):Prop where
 tidy:Tidy D
 hs:∀ u,(Lit.int .i64 u).wf=true→Maps.has D (.int .i64 u)=decide (u ∈ K.map (·.1))
 size:Maps.size D=K.length
 at_:∀ e ∈ K,∀ z,D.atKey (.int .i64 e.1) z=.lit (.int .i64 e.2)
 once:(K.map (·.1)).Nodup
theorem MK.nil:MK (.map []) []:=⟨tidy_empty,fun _ _=>rfl,rfl,fun e he=>(by cases he),List.Pairwise.nil⟩
theorem MK.put {D:DataW Unit} {K:List (Int × Int)} (h:MK D K) {u v:Int} (hu:(Lit.int .i64 u).wf=true) (hn:u ∉ K.map (·.1)):MK (D.put (.int .i64 u) (.lit (.int .i64 v))) (K ++ [(u,v)]):=by
 have hk:WideAt.IsKeyLit (.int .i64 u):=int_law.key (int_key hu)
 refine ⟨h.tidy.put hk _,fun x hx=>?_,?_,fun e he z=>?_,?_⟩
 ·by_cases e:x=u
  ·subst e
   rw [has_put_same h.tidy.isMap hk]
   exact (decide_eq_true (by simp)).symm
  ·rw [has_put_other (fun e2=>e (by injection e2)),h.hs x hx]
   simp [e]
 ·rw [size_put h.tidy,h.hs u hu,h.size,decide_eq_false hn]
  simp
 ·by_cases e2:e.1=u
  ·have e3:e=(u,v):=by
    rcases List.mem_append.1 he with h1 | h1
    ·exact absurd (e2 ▸ List.mem_map.2 ⟨e,h1,rfl⟩) hn
    ·exact List.mem_singleton.1 h1
   subst e3
   exact atKey_put_same h.tidy.isMap hk _ _
  ·rw [atKey_put_other (fun e3=>e2 (by injection e3))]
   rcases List.mem_append.1 he with h1 | h1
   ·exact h.at_ e h1 z
   ·exact absurd (by rw [List.mem_singleton.1 h1]) e2
 ·rw [List.map_append,List.nodup_append]
  refine ⟨h.once,by simp,fun a ha b hb e=>?_⟩
  rw [List.map_singleton,List.mem_singleton] at hb
  subst hb
  exact hn (e ▸ ha)
def Tm (w:World) (b:Nat) (K:List (Int × Int)):Prop:=∃ D,w.ownsMap Tryz.prog 3 (plainElem Tryz.prog 3) b K.length D∧MK D K
theorem Tm.made (w:World):Tm (w.alloc (.map #[] 0)) w.heap.size []:=⟨_,World.ownsMap_made _ _ _ _,MK.nil⟩
theorem Tm.below {w w':World} {b:Nat} {K:List (Int × Int)} (h:Tm w b K) (hb:Below w.heap.size w w'):Tm w' b K:=by
 obtain ⟨D,⟨es,clock,h1,h2⟩,h3⟩:=h
 exact ⟨D,⟨es,clock,z01 hb h1,h2⟩,h3⟩
theorem Tm.lt {w:World} {b:Nat} {K:List (Int × Int)} (h:Tm w b K):b < w.heap.size:=by
 obtain ⟨D,h1,_⟩:=h
 exact h1.lt
theorem Tm.block {w:World} {b:Nat} {K:List (Int × Int)} (h:Tm w b K):∃ es clock,w.heap[b]?=some (.map es clock)∧es.size=K.length:=by
 obtain ⟨D,⟨es,clock,h1,_,_,rfl⟩,h3⟩:=h
 refine ⟨es,clock,h1,?_⟩
 rw [← h3.size,size_eq,length_sorted]
 simp
theorem Tm.put {w:World} {b:Nat} {K:List (Int × Int)} (h:Tm w b K) {u v:Int} (hu:(Lit.int .i64 u).wf=true) (hv:(Lit.int .i64 v).wf=true) (hn:u ∉ K.map (·.1)) (hk:K.length≤1000) :
  ∃ w',(Instr.mapUpdate 91 (.map (some b)) (.int .i64 u) (.int .i64 v)).run Tryz.prog w=.ok () w'∧Tm w' b (K ++ [(u,v)])∧w.grownBy w' (some b):=by
 obtain ⟨D,h1,h2⟩:=h
 obtain ⟨w',hr,h3,hg⟩:=h1.update int_law Tryz.underlying91 (by unfold maxLen;omega) (int_key hu) (plainElem_int Tryz.underlying3 hv)
 exact ⟨w',hr,⟨_,by rw [List.length_append];exact h3,h2.put hu hn⟩,hg⟩
end Go.Proofs.YtkefpbcifcjibaaGreat
