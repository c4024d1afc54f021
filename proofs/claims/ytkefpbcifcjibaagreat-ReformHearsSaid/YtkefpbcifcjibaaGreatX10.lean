/- Joined texts. -/
import Derived.Test.YtkefpbcifcjibaaGreatX01
import Derived.Test.YtkefpbcifcjibaaGreatX02
import Derived.Test.YtkefpbcifcjibaaGreatX04
import Derived.Test.YtkefpbcifcjibaaGreatX06
import Derived.Test.YtkefpbcifcjibaaGreatG02b
import Derived.Test.YtkefpbcifcjibaaGreatG03b
import Derived.Test.YtkefpbcifcjibaaGreatG10a
import Derived.Lib.MinMax
import Derived.Test.YtkefpbcifcjibaaGreatG12a
import Derived.Deep.RegionHeld3
import Derived.Deep.RegionHeldLaw
import Derived.Deep.RegionLaw
import Derived.Test.YtkefpbcifcjibaaGreatG14a
import Derived.Test.YtkefpbcifcjibaaGreatG11a
import Derived.Test.YtkefpbcifcjibaaGreatG16a
import Derived.Test.YtkefpbcifcjibaaGreatG07a
import Derived.Test.YtkefpbcifcjibaaGreatG03a
import Derived.Test.YtkefpbcifcjibaaGreatG17a
import Derived.Test.YtkefpbcifcjibaaGreatG02a
import Derived.Laws.ResultCell
import Derived.Laws.Rows
import Derived.Test.YtkefpbcifcjibaaGreatG04a
import Derived.Test.YtkefpbcifcjibaaGreatG08a
import Derived.Test.YtkefpbcifcjibaaGreatG09a
import Derived.BigQuiet
import Derived.Deep.RegionWith
import Derived.Test.YtkefpbcifcjibaaGreatG06a
import Derived.Test.YtkefpbcifcjibaaGreatG19a
import Derived.Test.YtkefpbcifcjibaaGreatG18a
import Derived.Test.YtkefpbcifcjibaaGreatG23b
import Derived.Test.YtkefpbcifcjibaaGreatH00
set_option linter.unusedVariables false
set_option maxRecDepth 20000
set_option maxHeartbeats 16000000
namespace Go.Proofs.YtkefpbcifcjibaaGreat
open Go.RowKit
theorem tailJ_snoc (n i u:Int) (K:List (Int × Int)) (e:Int × Int) (t:Int):tailJ n i u (K ++ [e]) t=if e.1=u then max (tailJ n i u K t) (gain n i e.2) else tailJ n i u K t:=by
 unfold tailJ
 rw [List.foldl_append]
 rfl
theorem tailK_snoc (n i:Int) (K:List (Int × Int)) (c:List Int) (u t:Int):tailK n i K (c ++ [u]) t=tailJ n i u K (tailK n i K c t):=by
 unfold tailK
 rw [List.foldl_append]
 rfl
theorem gain_step {n i t:Int} {k:Nat} (hn:1≤n∧n≤4) (hi:0≤i∧i < n) (hk:k < 4096) (v:Int) (hv:v=k):max (max t (gain n i v)) ((k:Int) * n+i+1)=max t (gain n i (v+1))∧(k:Int) * n+i < 16384:=by
 subst hv
 unfold gain
 rcases z0y hn with rfl | rfl | rfl | rfl <;> split <;> split <;> omega
theorem gain_most {n i v:Int}:gain n i v=gain n i (max 0 (min v 4096)):=by
 unfold gain
 by_cases h:v≤0
 ·rw [if_pos h,if_pos (by omega)]
 ·rw [if_neg h,if_neg (by omega),show min (max 0 (min v 4096)) 4096=min v 4096 by omega]
end Go.Proofs.YtkefpbcifcjibaaGreat
namespace Go.Proofs.YtkefpbcifcjibaaGreat
open Go.ChangeShapes Go.WideShapes Go.ChangeAt Go.RowKit
def PL (w:World) (ao:Option Addr) (K:List (Int × Int)):Prop :=
 ∀ i (h:i < K.length),∃ bk off,ao=some ⟨bk,off,none⟩∧w.cell? ⟨bk,off+i * 2,none⟩=some (.int .i64 K[i].1)∧w.cell? ⟨bk,off+i * 2+1,none⟩=some (.int .i64 K[i].2)∧(Lit.int .i64 K[i].1).wf=true∧(Lit.int .i64 K[i].2).wf=true
theorem PL.nil (w:World) (ao:Option Addr):PL w ao []:=fun i h=>absurd h (Nat.not_lt_zero i)
theorem PL.below {w w':World} {ao:Option Addr} {K:List (Int × Int)} (h:PL w ao K) (hb:Below w.heap.size w w'):PL w' ao K:=by
 intro i hi
 obtain ⟨bk,off,h1,h2,h3,h4⟩:=h i hi
 exact ⟨bk,off,h1,z0s hb (block_lt_of_cell h2) h2,z0s hb (block_lt_of_cell h3) h3,h4⟩
section
variable {H:Type} {enc:TypeId × Value→H} {P:Program} {w:World} {base:Nat} {spare:Nat→Bool} {held:Bool}
end
def cellsK (K:List (Int × Int)):List Value:=K.flatMap (fun e=>[.int .i64 e.1,.int .i64 e.2])
theorem cellsK_length (K:List (Int × Int)):(cellsK K).length=K.length * 2:=by
 induction K with
 | nil=>rfl
 | cons e K ih =>
  show (_ :: _ :: cellsK K).length=_
  simp [ih]
  omega
theorem cellsK_snoc (K:List (Int × Int)) (e:Int × Int):cellsK (K ++ [e])=cellsK K ++ [.int .i64 e.1,.int .i64 e.2]:=by simp [cellsK]
theorem cellsK_at (K:List (Int × Int)) (i:Nat) (h:i < K.length):(cellsK K)[i * 2]?=some (.int .i64 K[i].1)∧(cellsK K)[i * 2+1]?=some (.int .i64 K[i].2):=by
 induction K generalizing i with
 | nil=>cases h
 | cons e K ih =>
  have hc:cellsK (e :: K)=.int .i64 e.1 :: .int .i64 e.2 :: cellsK K:=rfl
  rw [hc]
  cases i with
  | zero=>exact ⟨rfl,rfl⟩
  | succ i =>
   have:=ih i (by simpa using h)
   rw [show (i+1) * 2=i * 2+1+1 by omega]
   simpa using this
def OP (w:World) (B:Nat) (v:Value) (K:List (Int × Int)):Prop:=w.ownsRow B 103 2 v K.length (cellsK K)∧∀ e ∈ K,(Lit.int .i64 e.1).wf=true∧(Lit.int .i64 e.2).wf=true
theorem OP.below {w w':World} {B:Nat} {v:Value} {K:List (Int × Int)} (h:OP w B v K) (hb:Below w.heap.size w w'):OP w' B v K :=
 ⟨(Kept.ofBelow hb (fun _=>True)).owns h.1 (fun _ _=>trivial),h.2⟩
theorem OP.form {w:World} {B:Nat} {v:Value} {K:List (Int × Int)} (h:OP w B v K):∃ ao cap,v=.slice ao K.length cap∧PL w ao K:=by
 rcases h.1.2 with ⟨rfl,h0⟩ | ⟨g,cap,cur,rfl,hbg,hh,hnc,_,hcs,ht⟩
 ·have:K=[]:=List.eq_nil_of_length_eq_zero h0
  subst this
  exact ⟨none,0,rfl,PL.nil w none⟩
 ·refine ⟨some ⟨g,0,none⟩,cap,rfl,fun i hi=>?_⟩
  obtain ⟨h1,h2⟩:=cellsK_at K i hi
  rw [← ht,List.getElem?_take,if_pos (by omega)] at h1 h2
  have h1':cur[i * 2]?=some (.int .i64 K[i].1):=by simpa using h1
  have h2':cur[i * 2+1]?=some (.int .i64 K[i].2):=by simpa using h2
  refine ⟨g,0,rfl,?_,?_,h.2 _ (List.getElem_mem hi)⟩
  ·rw [Nat.zero_add,← h1']
   simp [World.cell?,hh]
  ·rw [Nat.zero_add,← h2']
   simp [World.cell?,hh]
theorem count_info:(Tryz.prog.info? 103).map (fun i=>(i.zero,i.size,i.bytes))=some (some (.agg #[.int .i64 0,.int .i64 0]),2,16):=by kernel_rfl
theorem made_pair (w:World) (x y:Value) (t:TypeId):∀ (j:Nat) (u:Value),[x,y][j]?=some u→(w.alloc (.cells #[x,y] t)).cell? ((⟨w.heap.size,0,none⟩:Addr).add j)=some u:=by
 intro j u hj
 match j,hj with
 | 0,hj=>cases hj;rw [show ((⟨w.heap.size,0,none⟩:Addr).add 0)=⟨w.heap.size,0,none⟩ from rfl,World.cell?_alloc_new];rfl
 | 1,hj=>cases hj;rw [addr_plus,World.cell?_alloc_new];rfl
 | j+2,hj=>simp at hj
theorem run_app_pair (w:World) (ty:TypeId) {B:Nat} {v:Value} {K:List (Int × Int)} (h:OP w B v K) {x y:Int} (hx:(Lit.int .i64 x).wf=true) (hy:(Lit.int .i64 y).wf=true) (hz:K.length+1≤1000000) (hB:B≤w.heap.size) :
  ∃ v' w',(Builtin.append_ #[95,95] ty #[v,.slice (some ⟨w.heap.size,0,none⟩) 1 1]).run Tryz.prog (w.alloc (.cells #[.int .i64 x,.int .i64 y] 103))=.ok v' w'∧OP w' B v' (K ++ [(x,y)])∧Below B w w':=by
 obtain ⟨i0,hi,hz0,hz1,hz2⟩:=info_parts count_info
 have hb1:Below w.heap.size w (w.alloc (.cells #[.int .i64 x,.int .i64 y] 103)):=(Below.refl _ _).alloc (Nat.le_refl _) _
 obtain ⟨h1,h2⟩:=h.below hb1
 obtain ⟨v',w',hr,h5,hg,_,hat⟩:=run_append_own_at (P:=Tryz.prog) (w.alloc (.cells #[.int .i64 x,.int .i64 y] 103)) B 95 ty 103 i0 (.agg #[.int .i64 0,.int .i64 0]) 2 16 Tryz.underlying95 hi hz0 hz1 hz2 rfl (by decide) v K.length (cellsK K) h1 ⟨w.heap.size,0,none⟩ 1 1 [.int .i64 x,.int .i64 y] rfl (made_pair w _ _ _) (fun u hu=>by
  rcases List.mem_cons.1 hu with rfl | hu
  ·rfl
  ·rw [List.mem_singleton.1 hu];rfl) (by unfold maxLen;omega) (by omega) (Nat.le_trans hB hb1.size)
 refine ⟨v',w',hr,⟨by rw [List.length_append,cellsK_snoc];exact h5,fun e he=>?_⟩,(hb1.mono hB).grown hg (Nat.le_trans hB hb1.size) (fun k hk=>(h.1.lt k hk).1)⟩
 rcases List.mem_append.1 he with he | he
 ·exact h2 e he
 ·rw [List.mem_singleton.1 he];exact ⟨hx,hy⟩
end Go.Proofs.YtkefpbcifcjibaaGreat
namespace Go.Proofs.YtkefpbcifcjibaaGreat
open Go.RowKit
theorem most_eq (v:Int):∃ (m1:Int) (m2:Nat),min v 4096=m1∧max 0 m1=(m2:Int)∧(m2:Int)=max 0 (min v 4096)∧m2≤4096:=by
 refine ⟨_,(max 0 (min v 4096)).toNat,rfl,?_,?_,?_⟩
 ·omega
 ·omega
 ·omega
theorem tailK_zero (n i:Int) (K:List (Int × Int)) (c:List Int) (t:Int):tailK n i K (c.take 0) t=t:=rfl
theorem tailJ_zero (n i u:Int) (K:List (Int × Int)) (t:Int):tailJ n i u (K.take 0) t=t:=rfl
theorem tailJ_next (n i u:Int) {K:List (Int × Int)} {j:Nat} (h:j < K.length) (t:Int):tailJ n i u (K.take (j+1)) t=if K[j].1=u then max (tailJ n i u (K.take j) t) (gain n i K[j].2) else tailJ n i u (K.take j) t:=by
 rw [List.take_succ_eq_append_getElem h,tailJ_snoc]
theorem tailK_next (n i:Int) (K:List (Int × Int)) {c:List Int} {k:Nat} (h:k < c.length) (t:Int):tailK n i K (c.take (k+1)) t=tailJ n i c[k] (K.take K.length) (tailK n i K (c.take k) t):=by
 rw [List.take_succ_eq_append_getElem h,tailK_snoc,List.take_of_length_le (Nat.le_refl _)]
theorem tailN_next {L:List (List Int)} (K:List (Int × Int)) {i:Nat} (h:i < L.length):tailN L K (i+1)=tailK L.length i K (L[i].take L[i].length) (tailN L K i):=by
 rw [tailN_succ,List.take_of_length_le (Nat.le_refl _)]
 simp [h]
theorem max_gain {n i t v:Int} (hn:1≤n∧n≤4) (hi:0≤i∧i < n) (ht:0≤t∧t≤16384):0≤max t (gain n i v)∧max t (gain n i v)≤16384:=by
 have:=gain_range (v:=v) hn hi
 omega
theorem refTail_any (ep:Int) (ao:Option Addr) (cap:Nat) (L:List (List Int)) (bo:Option Addr) (cb:Nat) (K:List (Int × Int)) (w:World) (h:CL w ao L) (hl:L.length≤255∧∀ c ∈ L,c.length≤255) (hK:PL w bo K) (kl:K.length≤1000) :
  Calls Tryz.prog 50 #[.agg #[.int .i64 ep,.slice ao L.length cap],.slice bo K.length cb] w fun e w'=>e=.returned (.int .i64 (tailR ep L K))∧Below w.heap.size w w':=by
 have HB0:=Lh ((Below.refl w.heap.size w).alloc (Nat.le_refl _) (.cells #[.int .i64 ep,.slice ao L.length cap] 24))
 have HC:=Lh (h.below HB0.out)
 have HK:=Lh (hK.below HB0.out)
 have HP:=Lh (show PB (w.alloc (.cells #[.int .i64 ep,.slice ao L.length cap] 24)) w.heap.size ep ao L.length cap from heap_alloc_new _ _)
 have CG:=Lh (z2a ep ao cap L _ HC.out hl)
 have hl':(L.length:Int)≤255:=by have:=hl.1;omega
 have kl':(K.length:Int)≤1000:=by omega
 have HM:=Lh hl.2
 clear h hl hK
 by_cases hg:goodB ep L=true
 ·rw [hg] at CG
  have HR:=Lh (show tailR ep L K=tailN L K L.length from if_pos hg)
  obtain ⟨n1,n4⟩:=z0v hg
  have HN:=Lh (show (1:Int)≤L.length∧(L.length:Int)≤4 from ⟨by omega,by omega⟩)
  have HT0:=Lh (show (0:Int)=tailN L K 0 from rfl)
  have HTN:=Lh (fun (i:Nat) (hi:i < L.length)=>tailN_next K hi)
  clear hg
  go_enter Tryz.func50,Tryz.ntmps50
  go_wp2_with (go_at_call 43;refine CG.out.mono ?_;rintro e w1 ⟨rfl,hb1⟩;have HB1:=Lh (HB0.out.trans (hb1.mono HB0.out.size));obtain ⟨b0,b1⟩:=(HP.out.below hb1).cells;have HC1:=Lh (HC.out.below hb1);have HK1:=Lh (HK.out.below hb1);clear hb1)
  clear CG HP HC HK
  go_loopw [6,7] (fun tl ii wr=>∃ (i q:Nat) (t:Int),ii=.int .i64 i∧tl=.int .i64 t∧i≤L.length∧wr=w1.drewN q∧0≤t∧t≤16384∧Hid (t=tailN L K i)) (fun _ ii _=>L.length - (intOf ii).toNat)
  case atStart=>exact ⟨0,0,0,rfl,rfl,Nat.zero_le _,rfl,by omega,by omega,HT0⟩
  case round =>
   obtain ⟨i,q,t,rfl,rfl,hi,rfl,t0,t1,HT⟩:=hrel
   by_cases hlt:i < L.length
   ·obtain ⟨bk,off,ai,ci,hao,c0,hN⟩:=HC1.out i hlt
    subst hao
    have k0:(i:Int) < (L.length:Int):=by omega
    have HI:=Lh (show (0:Int)≤i∧(i:Int) < L.length from ⟨by omega,k0⟩)
    have mo:=HM.out _ (List.getElem_mem hlt)
    have HNN:=Lh hN
    have HX:=Lh (HTN.out i hlt)
    rw [← HT.out] at HX
    have HKZ:=Lh (tailK_zero L.length i K L[i] t).symm
    have HKN:=Lh (fun (k:Nat) (hk:k < L[i].length)=>tailK_next L.length i K hk t)
    clear hN HT
    generalize hLi:L[i]=c at *
    have mo':(c.length:Int)≤255:=by omega
    go_wp2_with fail
    go_loopw [6,8] (fun tl kk wr=>∃ (k q:Nat) (t2:Int),kk=.int .i64 k∧tl=.int .i64 t2∧k≤c.length∧wr=w1.drewN q∧0≤t2∧t2≤16384∧Hid (t2=tailK L.length i K (c.take k) t)) (fun _ kk _=>c.length - (intOf kk).toNat)
    case atStart=>exact ⟨0,q,t,rfl,rfl,Nat.zero_le _,rfl,t0,t1,HKZ⟩
    case round =>
     obtain ⟨k,q2,t2,rfl,rfl,hk,rfl,t20,t21,HT2⟩:=hrel
     by_cases hkt:k < c.length
     ·obtain ⟨b5,o5,hai,c5⟩:=HNN.out.at k hkt
      subst hai
      have k1:(k:Int) < (c.length:Int):=by omega
      have HX2:=Lh (HKN.out k hkt)
      rw [← HT2.out] at HX2
      have HJZ:=Lh (tailJ_zero L.length i c[k] K t2).symm
      have HJN:=Lh (fun (j:Nat) (hj:j < K.length)=>tailJ_next L.length i c[k] hj t2)
      clear HT2
      generalize c[k]=u at *
      go_wp2_with fail
      go_loopw [6,9] (fun tl jj wr=>∃ (j q:Nat) (t3:Int),jj=.int .i64 j∧tl=.int .i64 t3∧j≤K.length∧wr=w1.drewN q∧0≤t3∧t3≤16384∧Hid (t3=tailJ L.length i u (K.take j) t2)) (fun _ jj _=>K.length - (intOf jj).toNat)
      case atStart=>exact ⟨0,q2,t2,rfl,rfl,Nat.zero_le _,rfl,t20,t21,HJZ⟩
      case round =>
       obtain ⟨j,q3,t3,rfl,rfl,hj,rfl,t30,t31,HT3⟩:=hrel
       by_cases hjt:j < K.length
       ·obtain ⟨b6,o6,hbo,c6,c7,wf6,wf7⟩:=HK1.out j hjt
        subst hbo
        have k2:(j:Int) < (K.length:Int):=by omega
        have HX3:=Lh (HJN.out j hjt)
        rw [← HT3.out] at HX3
        clear HT3
        by_cases hu:K[j].1=u
        ·rw [if_pos hu] at HX3
         have d1:(K[j].1 != u)=false:=bne_eq_false_iff_eq.2 hu
         clear hu
         generalize K[j].1=x at *
         generalize K[j].2=v at *
         obtain ⟨m1,m2,e1,e2,e3,e4⟩:=most_eq v
         have HGM:=Lh (show gain L.length i v=gain L.length i m2 from by rw [gain_most,e3])
         have HGS:=Lh (fun (p:Nat) (hp:p < m2)=>gain_step (n:=L.length) (i:=i) (t:=t3) (k:=p) HN.out HI.out (by omega) p rfl)
         have HGR:=Lh (fun v=>max_gain (n:=L.length) (i:=i) (t:=t3) (v:=v) HN.out HI.out ⟨t30,t31⟩)
         have HG0:=Lh (show t3=max t3 (gain L.length i ((0:Nat):Int)) from by have:=gain_zero L.length i;simp only [Int.natCast_zero] at *;omega)
         clear e3
         go_wp2_with fail
         go_quiet (fail)
         go_wp2_with fail
         go_loopw [6,11] (fun tl pp wr=>∃ (p q:Nat) (t4:Int),pp=.int .i64 p∧tl=.int .i64 t4∧p≤m2∧wr=w1.drewN q∧0≤t4∧t4≤16384∧Hid (t4=max t3 (gain L.length i p))) (fun _ pp _=>m2 - (intOf pp).toNat)
         case atStart=>exact ⟨0,q3+nq,t3,rfl,rfl,Nat.zero_le _,by first | rfl | simp,t30,t31,HG0⟩
         case round =>
          obtain ⟨p,q4,t4,rfl,rfl,hp,rfl,t40,t41,HT4⟩:=hrel
          by_cases hpt:p < m2
          ·have k3:(p:Int) < (m2:Int):=by omega
           obtain ⟨g1,g2⟩:=HGS.out p hpt
           rw [← HT4.out] at g1
           have g3:=HGR.out ((p:Int)+1)
           rw [← g1] at g3
           have g4:=mul_small (p:=p) (n:=L.length) ⟨by omega,by omega⟩ HN.out
           generalize hq:(p:Int) * (L.length:Int)=P at *
           obtain ⟨t5,ht5⟩:∃ t5,max t4 (P+i+1)=t5:=⟨_,rfl⟩
           have h5:max t4 (P+i+1)=t5:=ht5
           rw [h5] at g1 g3
           have HG1:=Lh g1
           obtain ⟨g5,g6⟩:=g3
           clear g1 h5
           go_wp2_with fail
           go_roundw
           case rel=>exact ⟨p+1,q4,t5,by go_num,rfl,by omega,rfl,g5,g6,HG1⟩
           case measure=>simp [intOf];omega
          ·obtain rfl:p=m2:=by omega
           have HX4:=Lh (show t4=tailJ L.length i u (K.take (j+1)) t2 from by rw [HX3.out,HGM.out,← HT4.out])
           go_wp2_with fail
           go_roundw
           case rel=>exact ⟨j+1,q4,t4,by go_num,rfl,by omega,rfl,t40,t41,HX4⟩
           case measure=>simp [intOf];omega
        ·rw [if_neg hu] at HX3
         have d1:(K[j].1 != u)=true:=bne_iff_ne.2 hu
         have HX4:=Lh HX3.out.symm
         clear hu
         go_wp2_with fail
         go_quiet (fail)
         go_wp2_with fail
         go_roundw
         case rel=>exact ⟨j+1,q3+nq,t3,by go_num,rfl,by omega,by first | rfl | simp,t30,t31,HX4⟩
         case measure=>simp [intOf];omega
       ·obtain rfl:j=K.length:=by omega
        have HX4:=Lh (HT3.out.trans HX2.out.symm)
        go_wp2_with fail
        go_roundw
        case rel=>exact ⟨k+1,q3,t3,by go_num,rfl,by omega,rfl,t30,t31,HX4⟩
        case measure=>simp [intOf];omega
     ·obtain rfl:k=c.length:=by omega
      have HX4:=Lh (HT2.out.trans HX.out.symm)
      go_wp2_with fail
      go_roundw
      case rel=>exact ⟨i+1,q2,t2,by go_num,rfl,by omega,rfl,t20,t21,HX4⟩
      case measure=>simp [intOf];omega
   ·obtain rfl:i=L.length:=by omega
    go_wp2_with fail
    go_ret
    rw [HR.out,← HT.out]
    exact ⟨rfl,below_drewN HB1.out q⟩
 ·rw [show tailR ep L K=0 from if_neg hg]
  rw [Bool.eq_false_iff.2 hg] at CG
  clear hg
  go_enter Tryz.func50,Tryz.ntmps50
  go_wp2_with (go_at_call 43;refine CG.out.mono ?_;rintro e w1 ⟨rfl,hb1⟩;have HB1:=Lh (HB0.out.trans (hb1.mono HB0.out.size));clear hb1)
  go_ret
  exact ⟨rfl,HB1.out⟩
end Go.Proofs.YtkefpbcifcjibaaGreat
namespace Go.Proofs.YtkefpbcifcjibaaGreat
section
variable {P:Program} {ops:Array Oper} {Q:Exit→Act→World→Prop} {md:Region.Mode} {T1 T2:World→Prop}
theorem wpAnyH_mono (hS:∀ W,T2 W→T1 W):∀ (fuel:Nat) (listed:Array Bool) (a:Act) (w:World),wpAnyH P md ops Q T2 fuel listed a w→wpAnyH P md ops Q T1 fuel listed a w
 | 0,_,_,_,h=>h
 | fuel+1,_,_,_,h=>⟨h.1,fun i hi=>wpOp_mono (fun a' w' ⟨h1,h2⟩=>⟨hS w' h1,wpAnyH_mono hS fuel _ a' w' h2⟩) (h.2 i hi)⟩
theorem held_swap (T2:World→Prop) (hS:∀ W,T2 W→T1 W) {fuel:Nat} {listed:Array Bool} {K':Act→World→Prop} (h:Shut (∀ a w,T1 w→(T1 w→wpAnyH P md ops Q T1 fuel listed a w)→K' a w)) :
  Shut (∀ a w,T1 w→(T1 w→wpAnyH P md ops Q T1 fuel listed a w)→K' a w)=Shut (∀ a w,T2 w→(T2 w→wpAnyH P md ops Q T2 fuel listed a w)→K' a w) :=
 propext ⟨fun h a w h2 hw=>h a w (hS w h2) (fun _=>wpAnyH_mono hS _ _ _ _ (hw h2)),fun _=>h⟩
end
end Go.Proofs.YtkefpbcifcjibaaGreat
namespace Go.Proofs.YtkefpbcifcjibaaGreat
open Go.RowKit
theorem step_app_pair {ops:Array Oper} {o:Oper} {a:Act} {w:World} {K:Act→World→Prop} {Q:Exit→Act→World→Prop} {E:Prop} (hgd:o.guard=none) (s x:Operand)
  (ho:o.op=Op.call { callee:=Callee.builtin Builtin.append,args:=#[s,x],argTypes:=#[95,95] }) {B:Nat} {v:Value} {J:List (Int × Int)} (hs:a.eval s=v) (h:OP w B v J)
  {y z:Int} (hx:a.eval x=.slice (some ⟨w.heap.size,0,none⟩) 1 1) (hy:(Lit.int .i64 y).wf=true) (hz:(Lit.int .i64 z).wf=true) (hl:J.length+1≤1000000) (hB:B≤w.heap.size)
  (hK:∀ v' w',OP w' B v' (J ++ [(y,z)])→Below B w w'→K (a.put o.dst v') w') :
  if Region.wanted o (yielded ops a.tmps)=true then Oper.wp Tryz.prog o a (w.alloc (.cells #[.int .i64 y,.int .i64 z] 103)) K Q else E:=by
 have hw:Region.wanted o (yielded ops a.tmps)=true:=by simp [Region.wanted,hgd]
 rw [if_pos hw]
 obtain ⟨v',w',hr,h2,h3⟩:=run_app_pair w o.type h hy hz hl hB
 unfold Oper.wp
 simp [execOp,ho,resolve,invoke,builtin,hs,hx,hr,Result.andThen]
 exact hK v' w' h2 h3
def PG (F:Nat→Prop) (w:World) (v:Value) (K:List (Int × Int)):Prop:=∃ bo cap,v=.slice bo K.length cap∧PL w bo K∧(bo=none→cap=0)∧K.length≤cap∧∀ a,bo=some a→F a.block∧a.block < w.heap.size
theorem Kept.cell18 {S:Nat→Prop} {w w':World} (h:Kept S w w') {a:Addr} {v:Value} (hb:S a.block) (hx:w.cell? a=some v):w'.cell? a=some v:=by
 have hl:=block_lt_of_cell hx
 unfold World.cell? at *
 rw [h.block a.block hb hl]
 exact hx
theorem PL.keep {S:Nat→Prop} {w w':World} {ao:Option Addr} {K:List (Int × Int)} (h:PL w ao K) (hk:Kept S w w') (hS:∀ a,ao=some a→S a.block):PL w' ao K:=by
 intro i hi
 obtain ⟨bk,off,h1,h2,h3,h4⟩:=h i hi
 exact ⟨bk,off,h1,hk.cell18 (show S bk from hS _ h1) h2,hk.cell18 (show S bk from hS _ h1) h3,h4⟩
theorem PG.keep {F S:Nat→Prop} {w w':World} {v:Value} {K:List (Int × Int)} (h:PG F w v K) (hk:Kept S w w') (hS:∀ k,F k→S k):PG F w' v K:=by
 obtain ⟨bo,cap,h1,h2,h3,h4,h5⟩:=h
 exact ⟨bo,cap,h1,h2.keep hk (fun a e=>hS _ (h5 a e).1),h3,h4,fun a e=>⟨(h5 a e).1,Nat.lt_of_lt_of_le (h5 a e).2 hk.size⟩⟩
theorem PG.mono {F F':Nat→Prop} {w:World} {v:Value} {K:List (Int × Int)} (h:PG F w v K) (hF:∀ k,F k→F' k):PG F' w v K:=by
 obtain ⟨bo,cap,h1,h2,h3,h4,h5⟩:=h
 exact ⟨bo,cap,h1,h2,h3,h4,fun a e=>⟨hF _ (h5 a e).1,(h5 a e).2⟩⟩
theorem PG.of {w:World} {B:Nat} {v:Value} {K:List (Int × Int)} (h:OP w B v K):PG (fun k=>B≤k∧k < w.heap.size) w v K:=by
 obtain ⟨ao,cap,e,hp⟩:=h.form
 rcases h.1.2 with ⟨e2,h0⟩ | ⟨g,cap2,cur,e2,hbg,hh,hnc,_,_,_⟩
 ·rw [e] at e2
  obtain ⟨q1,q2,q3⟩:=Value.slice.inj e2
  subst q1 q3
  exact ⟨none,0,by rw [e],hp,fun _=>rfl,by omega,fun a e=>by cases e⟩
 ·rw [e] at e2
  obtain ⟨q1,q2,q3⟩:=Value.slice.inj e2
  subst q1 q3
  exact ⟨_,cap,e,hp,(fun e=>by cases e),hnc,fun a e=>by cases e;exact ⟨⟨hbg,lt_of_block hh⟩,lt_of_block hh⟩⟩
structure RfOk (r:Rf):Prop where
 range:1≤r.at_∧r.at_≤5
 qf:fewL r.qL
 of_:fewL r.oL
 two:r.at_=2→r.i < (unitsR r.oL).length
 few:(unitsR r.oL).length≤16
 tl:r.tails.length≤17
 i16:r.i≤16
 one:r.at_=1→r.i=0∧r.tails=[]
def RR (b:Nat) (G:Nat→Prop) (w:World) (r:Rf):Prop :=
 RfOk r∧G b∧∃ (v1 v2 vt:Value) (F:Nat→Prop),w.heap[b]?=some (.cells #[.int .i64 r.qe,v1,.int .i64 r.oe,v2,.int .i64 r.at_,.int .i64 r.i,vt,.int .i64 r.e] 97 (0,0))∧CG F w v1 r.qL∧CG F w v2 r.oL∧PG F w vt r.tails∧(∀ k,F k→G k∧k≠b)∧∀ k,G k→k < w.heap.size
theorem z0j (b:Nat):Thing (RR b) where
 lt:=by
  rintro G w r ⟨_,_,_,_,_,_,_,_,_,_,_,h⟩ k hk
  exact h k hk
 keep:=by
  rintro G S w w' r ⟨h0,h1,v1,v2,vt,F,h2,h3,h4,h5,h6,h7⟩ hk hS
  exact ⟨h0,h1,v1,v2,vt,F,hk.heap (hS b h1) h2,h3.keep hk (fun k hf=>hS k (h6 k hf).1),h4.keep hk (fun k hf=>hS k (h6 k hf).1),h5.keep hk (fun k hf=>hS k (h6 k hf).1),h6,fun k hg=>Nat.lt_of_lt_of_le (h7 k hg) hk.size⟩
section
variable {w W W2:World} {b:Nat} {G:Nat→Prop} {r r':Rf}
theorem RR.ok (h:RR b G w r):RfOk r:=h.1
theorem RR.below (h:RR b G w r) (hb:Below w.heap.size w W):RR b G W r:=(z0j b).keep h (Kept.ofBelow hb (fun _=>True)) (fun _ _=>trivial)
theorem RR.open (h:RR b G w r):∃ (a1:Option Addr) (c1:Nat) (a2:Option Addr) (c2:Nat) (bt:Option Addr) (ct:Nat),w.heap[b]?=some (.cells #[.int .i64 r.qe,.slice a1 r.qL.length c1,.int .i64 r.oe,.slice a2 r.oL.length c2,.int .i64 r.at_,.int .i64 r.i,.slice bt r.tails.length ct,.int .i64 r.e] 97 (0,0))∧(∀ W,Kept (fun k=>k≠b) w W→CL W a1 r.qL∧CL W a2 r.oL∧PL W bt r.tails)∧
  ((a1=none→c1=0)∧r.qL.length≤c1∧(a2=none→c2=0)∧r.oL.length≤c2)∧
  ∀ (W:World) (r':Rf),Kept (fun k=>k≠b) w W→RfOk r'→r'.qL=r.qL→r'.oL=r.oL→r'.tails=r.tails→W.heap[b]?=some (.cells #[.int .i64 r'.qe,.slice a1 r.qL.length c1,.int .i64 r'.oe,.slice a2 r.oL.length c2,.int .i64 r'.at_,.int .i64 r'.i,.slice bt r.tails.length ct,.int .i64 r'.e] 97 (0,0))→Leaves (RR b) G w W r':=by
 obtain ⟨h0,h1,v1,v2,vt,F,h2,h3,h4,h5,h6,h7⟩:=h
 obtain ⟨a1,c1,rfl,g1,k1,k2⟩:=h3.cl
 obtain ⟨a2,c2,rfl,g2,k3,k4⟩:=h4.cl
 obtain ⟨bt,ct,rfl,g3,_,_,g4⟩:=id h5
 refine ⟨a1,c1,a2,c2,bt,ct,h2,fun W hk=>⟨?_,?_,g3.keep hk (fun a e=>(h6 _ (g4 a e).1).2)⟩,⟨k1,k2,k3,k4⟩,fun W r' hk hr e1 e2 e3 hW=>⟨G,⟨hr,h1,_,_,_,F,hW,?_,?_,?_,h6,fun k hg=>Nat.lt_of_lt_of_le (h7 k hg) hk.size⟩,hk.mono (fun k hn e=>hn (e ▸ h1)),fun k hk=>.inl hk⟩⟩
 ·obtain ⟨a,c,e,g,_⟩:=(h3.keep hk (fun k hf=>(h6 k hf).2)).cl
  obtain ⟨rfl,_,_⟩:=Value.slice.inj e
  exact g
 ·obtain ⟨a,c,e,g,_⟩:=(h4.keep hk (fun k hf=>(h6 k hf).2)).cl
  obtain ⟨rfl,_,_⟩:=Value.slice.inj e
  exact g
 ·rw [e1];exact h3.keep hk (fun k hf=>(h6 k hf).2)
 ·rw [e2];exact h4.keep hk (fun k hf=>(h6 k hf).2)
 ·rw [e3];exact h5.keep hk (fun k hf=>(h6 k hf).2)
theorem RR.parts (h:RR b G w r):∃ (v1 v2 vt:Value) (F:Nat→Prop),w.heap[b]?=some (.cells #[.int .i64 r.qe,v1,.int .i64 r.oe,v2,.int .i64 r.at_,.int .i64 r.i,vt,.int .i64 r.e] 97 (0,0))∧CG F w v1 r.qL∧CG F w v2 r.oL∧PG F w vt r.tails∧(∀ k,F k→G k∧k≠b)∧(∀ k,G k→k < w.heap.size)∧G b:=by
 obtain ⟨_,h1,v1,v2,vt,F,h2,h3,h4,h5,h6,h7⟩:=h
 exact ⟨v1,v2,vt,F,h2,h3,h4,h5,h6,h7,h1⟩
theorem rr_lay {F:Nat→Prop} {v1 v2 vt:Value} (hF:∀ k,F k→G k∧k≠b) (hG:∀ k,G k→k < w.heap.size) (hGb:G b) (hb:Below w.heap.size w W) (hk:Kept (fun k=>k≠b) W W2) (hr:RfOk r')
  (c1:CG (fun k=>F k∨(w.heap.size≤k∧k < W.heap.size)) W v1 r'.qL) (c2:CG (fun k=>F k∨(w.heap.size≤k∧k < W.heap.size)) W v2 r'.oL) (c3:PG (fun k=>F k∨(w.heap.size≤k∧k < W.heap.size)) W vt r'.tails)
  (hW:W2.heap[b]?=some (.cells #[.int .i64 r'.qe,v1,.int .i64 r'.oe,v2,.int .i64 r'.at_,.int .i64 r'.i,vt,.int .i64 r'.e] 97 (0,0))):Leaves (RR b) G w W2 r':=by
 have hbs:=hG b hGb
 have hn:∀ k,(F k∨(w.heap.size≤k∧k < W.heap.size))→k≠b:=fun k h=>by
  rcases h with h | h
  ·exact (hF k h).2
  ·omega
 have hs:=hk.size
 refine ⟨fun k=>G k∨(w.heap.size≤k∧k < W.heap.size),⟨hr,.inl hGb,v1,v2,vt,_,hW,c1.keep hk hn,c2.keep hk hn,c3.keep hk hn,fun k h=>⟨h.imp (fun h=>(hF k h).1) id,hn k h⟩,fun k h=>?_⟩,(Kept.ofBelow hb _).trans (hk.mono (fun k hg e=>hg (e ▸ hGb))),fun k h=>h.imp id (fun h=>h.1)⟩
 rcases h with h | h
 ·exact Nat.lt_of_lt_of_le (hG k h) (Nat.le_trans hb.size hs)
 ·omega
end
theorem row_ret {P:Program} {fn:Func} {p:Tmp} {ty:TypeId} (h:fn.results=#[.cell p ty]) {a:Act} {w:World} {g:Nat} {t:TypeId} {cs:Array Value} {d:TypeDesc} {R:Ending→World→Prop}
  (hg:w.heap[g]?=some (.cells cs t (0,0))) (hp:a.tmps.getD p undef=.pointer (some ⟨g,0,none⟩)) (hdf:a.defers=[])
  (hu:P.underlying ty=some d) (hd:(match d with | .struct _ | .array _ _=>true | _=>false)=true) (hi:(P.info? ty).map (·.size)=some cs.size)
  (hR:R (.returned (.agg cs)) w):bodyPost P fn R .ret a w :=
 bodyPost_ret (results_cell_row h a.tmps w g t cs (0,0) d hp hg hu hd hi) hdf hR
theorem RfOk.ends {r:Rf} (h:RfOk r) (e:Int):RfOk (r.ends e):=⟨⟨(by decide:(1:Int)≤5),(by decide:(5:Int)≤5)⟩,h.qf,h.of_,fun g=>absurd g (by decide:¬ (5:Int)=2),h.few,h.tl,h.i16,fun g=>absurd g (by decide:¬ (5:Int)=1)⟩
theorem rr_end (b:Nat) (G:Nat→Prop) (w:World) (r:Rf) (y:Int) (h:RR b G w r) :
  Calls Tryz.prog 47 #[.pointer (some ⟨b,0,none⟩),.int .i64 y] w fun e w'=>e=.returned (.tuple #[])∧Leaves (RR b) G w w' (r.ends y):=by
 have hok:=h.ok
 obtain ⟨a1,n1,a2,n2,bt,nt,h1,hcw,hnn,h3⟩:=h.open
 obtain ⟨⟨c0,c1,c2,c3,c4,c5,c6,c7⟩,f0,f1,f2,f3,f4,f5,f6,f7⟩:=z03 h1
 have hb:=lt_of_block h1
 have H3:=Lh h3
 have H1:=Lh h1
 clear h h1 h3 hcw hnn
 go_enter Tryz.func47,Tryz.ntmps47
 go_wp2_with fail
 go_end0
 exact ⟨rfl,H3.out _ (r.ends y) (((Kept.refl _ w).setCell (p:=⟨b,4,none⟩) (fun h=>h rfl) _).setCell (p:=⟨b,7,none⟩) (fun h=>h rfl) _) (hok.ends y) rfl rfl rfl (z22 (z0x H1.out _) _)⟩
theorem rr_over (b:Nat) (G:Nat→Prop) (w:World) (r:Rf) (h:RR b G w r) :
  Calls Tryz.prog 16 #[.pointer (some ⟨b,0,none⟩)] w fun e w'=>e=.returned (.agg #[.int .i64 r.overE,.bool r.overB])∧Below w.heap.size w w':=by
 have HB:=Lh (fun x=>z00 w x)
 obtain ⟨a1,n1,a2,n2,bt,nt,h1,hcw,hnn,h3⟩:=h.open
 obtain ⟨⟨c0,c1,c2,c3,c4,c5,c6,c7⟩,f0,f1,f2,f3,f4,f5,f6,f7⟩:=z03 h1
 have hb:=lt_of_block h1
 clear h h1 h3 hcw hnn
 unfold Rf.overE Rf.overB
 generalize r.at_=m at *
 by_cases h5:m=5
 ·subst h5
  rw [if_pos rfl,show decide ((5:Int)=5)=true from rfl]
  go_enter Tryz.func16,Tryz.ntmps16
  go_wp2_with fail
  exact row_ret rfl (heap_alloc_new w (.cells #[.int .i64 r.e,.bool true] 44)) rfl rfl Tryz.underlying44 rfl (by kernel_rfl) ⟨rfl,HB.out _⟩
 ·have d5:(m != 5)=true:=by simpa using h5
  rw [if_neg h5,decide_eq_false h5]
  go_enter Tryz.func16,Tryz.ntmps16
  go_wp2_with fail
  exact row_ret rfl (heap_alloc_new w (.cells #[.int .i64 0,.bool false] 44)) rfl rfl Tryz.underlying44 rfl (by kernel_rfl) ⟨rfl,HB.out _⟩
theorem rr_next (b:Nat) (G:Nat→Prop) (w:World) (r:Rf) (h:RR b G w r) (h2:r.at_=2) (K:List (Int × Int)) (hK:r.tails=K) :
  Calls Tryz.prog 54 #[.pointer (some ⟨b,0,none⟩)] w fun e w'=>e=.returned (.tuple #[])∧(RfOk (r.next K)→Leaves (RR b) G w w' (r.next K)):=by
 have hok:=h.ok
 have hi:=hok.two h2
 have h16:=hok.few
 have HG:=Lh (fun k hk=>(z0j b).lt h k hk)
 have HA:=Lh h
 obtain ⟨a1,n1,a2,n2,bt,nt,h1,hcw,hnn,h3⟩:=h.open
 obtain ⟨⟨c0,c1,c2,c3,c4,c5,c6,c7⟩,f0,f1,f2,f3,f4,f5,f6,f7⟩:=z03 h1
 have hb:=lt_of_block h1
 have HCW:=Lh hcw
 have H3:=Lh h3
 have CU:=Lh (fun W (hC:CL W a2 r.oL)=>z1p r.oe a2 n2 r.oL W hC hok.of_)
 have hw:IntKind.i64.wrap ((r.i:Int)+1)=(r.i:Int)+1:=IntWalk.i64_in _ (by omega)
 rw [h2] at c4
 have K5:=Lh ((Kept.refl (fun k=>k≠b) w).setCell (p:=⟨b,5,none⟩) (fun h=>h rfl) (.int .i64 ((r.i:Int)+1)))
 have H5:=Lh (z1a h1 (.int .i64 ((r.i:Int)+1)))
 rw [h2] at H5
 clear h h1 h3 hcw hnn
 go_enter Tryz.func54,Tryz.ntmps54
 go_wp2_with fail
 generalize World.setCell w _ _=w5 at *
 clear c0 c1 c2 c3 c4 c5 c6 c7 f0 f1 f2 f3 f4 f5 f6 f7 hb
 obtain ⟨⟨c0,c1,c2,c3,c4,c5,c6,c7⟩,_⟩:=z03 H5.out
 have hb:=lt_of_block H5.out
 have S5:=Lh (show w5.cell? ⟨b,5,none⟩=some (.int .i64 ((r.i:Int)+1))∧w5.cell? ⟨b,2,none⟩=some (.int .i64 r.oe)∧w5.cell? ⟨b,3,none⟩=some (.slice a2 r.oL.length n2) from ⟨c5,c2,c3⟩)
 have hUL:((unitsR r.oL).length:Int)≤16:=by omega
 have HE:=Lh (show ((r.i:Int)+1=((unitsR r.oL).length:Int))↔r.i+1=(unitsR r.oL).length from by omega)
 clear hi h16
 go_region_held3 (fun W=>W.cell? ⟨b,5,none⟩=some (.int .i64 ((r.i:Int)+1))∧W.cell? ⟨b,2,none⟩=some (.int .i64 r.oe)∧W.cell? ⟨b,3,none⟩=some (.slice a2 r.oL.length n2))
  (first | exact S5.out | exact S6.out | assumption)
  (first | (go_at_call 27;refine (CU.out _ (HCW.out _ (K5.out.drew)).2.1).mono ?_;rintro e w6 ⟨bo,cb,rfl,_,hb6⟩;have B6:=Lh (z0c (w1:=w5) hb6 (Below.refl _ _).drew);have H6:=Lh (z01 B6.out H5.out);have S6:=Lh (show w6.cell? ⟨b,5,none⟩=some (.int .i64 ((r.i:Int)+1))∧w6.cell? ⟨b,2,none⟩=some (.int .i64 r.oe)∧w6.cell? ⟨b,3,none⟩=some (.slice a2 r.oL.length n2) from ⟨z02 H6.out 5,z02 H6.out 2,z02 H6.out 3⟩);clear hb6))
 all_goals
  clear c0 c1 c2 c3 c4 c5 c6 c7 hb
  obtain ⟨_,_,_,_,_,f4,_⟩:=z03 H6.out
  have hb:=lt_of_block H6.out
  by_cases he:r.i+1=(unitsR r.oL).length
  ·have e9:((r.i:Int)+1 == ((unitsR r.oL).length:Int))=true:=by simpa using HE.out.2 he
   have EN:=Lh (show r.next K=⟨r.qe,r.qL,r.oe,r.oL,3,r.i+1,K,r.e⟩ from by unfold Rf.next;rw [if_pos he])
   clear he
   go_wp2_with fail
   go_end0
   refine ⟨rfl,fun hr=>H3.out _ _ ((K5.out.below B6.out).setCell (p:=⟨b,4,none⟩) (fun h=>h rfl) _) hr (by rw [EN.out]) (by rw [EN.out]) (by rw [EN.out,hK]) ?_⟩
   rw [EN.out]
   exact z0x H6.out _
  ·have e9:((r.i:Int)+1 == ((unitsR r.oL).length:Int))=false:=by simpa using fun g=>he (HE.out.1 g)
   have EN:=Lh (show r.next K=⟨r.qe,r.qL,r.oe,r.oL,2,r.i+1,K,r.e⟩ from by unfold Rf.next;rw [if_neg he])
   clear he
   go_wp2_with fail
   go_end0
   refine ⟨rfl,fun hr=>H3.out _ _ (K5.out.below B6.out) hr (by rw [EN.out]) (by rw [EN.out]) (by rw [EN.out,hK]) ?_⟩
   rw [EN.out]
   exact H6.out
theorem rfok_new {ep:Int} {L:List (List Int)} (hf:fewL L) (m e:Int) (hm:m=1∨m=5):RfOk ⟨ep,L,0,[],m,0,[],e⟩:=⟨by show 1≤m∧m≤5;omega,hf,⟨Nat.zero_le _,fun c h=>(by cases h)⟩,fun g=>by have g:m=2:=g;omega,(show (unitsR []).length≤16 by decide),Nat.zero_le _,Nat.zero_le _,fun _=>⟨rfl,rfl⟩⟩
def NewD (w:World) (r:Rf) (e:Ending) (w':World):Prop:=∃ (b:Nat) (G:Nat→Prop),e=.returned (.pointer (some ⟨b,0,none⟩))∧RR b G w' r∧(∀ k,G k→w.heap.size≤k)∧Below w.heap.size w w'
theorem newd_ended {w w4 w5:World} {b:Nat} {G:Nat→Prop} {r:Rf} (hB:∀ k,G k→w.heap.size≤k) (hb:Below w.heap.size w w4) (hl:Leaves (RR b) G w4 w5 r):NewD w r (.returned (.pointer (some ⟨b,0,none⟩))) w5:=by
 obtain ⟨G',r1,r2,r3⟩:=hl
 refine ⟨b,G',rfl,r1,fun k hk=>?_,hb.trans (kept_low r2 (fun k hk hg=>by have:=hB k hg;omega) hb.size)⟩
 rcases r3 k hk with h | h
 ·exact hB k h
 ·exact Nat.le_trans hb.size h
theorem rr_laid {w3:World} {B:Nat} {v:Value} {ep:Int} {L:List (List Int)} (hO:OC w3 B v L) (hf:fewL L) (hs:B≤w3.heap.size) :
  RR w3.heap.size (fun k=>B≤k∧k≤w3.heap.size) (w3.alloc (.cells #[.int .i64 ep,v,.int .i64 0,.slice none 0 0,.int .i64 1,.int .i64 0,.slice none 0 0,.int .i64 0] 97)) ⟨ep,L,0,[],1,0,[],0⟩ :=
 ⟨rfok_new hf 1 0 (.inl rfl),⟨hs,Nat.le_refl _⟩,v,_,_,fun k=>B≤k∧k < w3.heap.size,heap_alloc_new w3 _,(CG.of hO).keep (Kept.ofBelow (z00 w3 _) (fun _=>True)) (fun _ _=>trivial),⟨none,0,rfl,fun _=>rfl,Nat.le_refl _,fun a e=>(by cases e),fun i hi=>absurd hi (Nat.not_lt_zero i)⟩,⟨none,0,rfl,PL.nil _ _,fun _=>rfl,Nat.le_refl _,fun a e=>(by cases e)⟩,fun k hk=>⟨⟨hk.1,Nat.le_of_lt hk.2⟩,Nat.ne_of_lt hk.2⟩,fun k hk=>Nat.lt_of_le_of_lt hk.2 (lt_of_block (heap_alloc_new w3 (.cells #[.int .i64 ep,v,.int .i64 0,.slice none 0 0,.int .i64 1,.int .i64 0,.slice none 0 0,.int .i64 0] 97)))⟩
theorem rr_new (ep:Int) (ao:Option Addr) (cap:Nat) (L:List (List Int)) (w:World) (hc:CL w ao L) (hf:fewL L) :
  Calls Tryz.prog 12 #[.agg #[.int .i64 ep,.slice ao L.length cap]] w (NewD w (newRf ep L)):=by
 have HB:=Lh (z00 w (.cells #[.int .i64 ep,.slice ao L.length cap] 24))
 have HC:=Lh (hc.below HB.out)
 have HX:=Lh (heap_alloc_new w (.cells #[.int .i64 ep,.slice ao L.length cap] 24))
 obtain ⟨x0,x1,_⟩:=z05 HX.out
 have hs1:(w.alloc (.cells #[.int .i64 ep,.slice ao L.length cap] 24)).heap.size=w.heap.size+1:=by simp
 have CC:=Lh (fun W (hC:CL W ao L)=>z1d ep ao cap L W hC ⟨Nat.le_trans hf.1 (by decide),fun c h=>Nat.le_trans (hf.2 c h) (by decide)⟩)
 have CGD:=Lh (fun W (hC:CL W ao L)=>z2a ep ao cap L W hC hf)
 have HF:=Lh hf
 unfold newRf
 have HS:=Lh (show w.heap.size≤(w.alloc (.cells #[.int .i64 ep,.slice ao L.length cap] 24)).heap.size from by omega)
 clear hc hf hs1
 cases hg:goodB ep L with
 | true =>
  rw [if_pos rfl]
  rw [hg] at CGD
  go_enter Tryz.func12,Tryz.ntmps12
  go_wp2_with (first | (go_at_call 11;refine (CC.out _ HC.out).mono ?_;rintro e w3 ⟨v,rfl,hO,hb3⟩;obtain ⟨vo,vc,hv,_⟩:=hO.form;subst hv;have HT:=Lh (rr_laid (ep:=ep) hO HF.out hb3.size);have HBT:=Lh ((HB.out.trans (hb3.mono HB.out.size)).trans ((z00 w3 (.cells #[.int .i64 ep,.slice vo L.length vc,.int .i64 0,.slice none 0 0,.int .i64 1,.int .i64 0,.slice none 0 0,.int .i64 0] 97)).mono (HB.out.trans (hb3.mono HB.out.size)).size));have HC3:=Lh ((HC.out.below hb3).below (z00 w3 (.cells #[.int .i64 ep,.slice vo L.length vc,.int .i64 0,.slice none 0 0,.int .i64 1,.int .i64 0,.slice none 0 0,.int .i64 0] 97)));have HX3:=Lh (z01 (z00 w3 (.cells #[.int .i64 ep,.slice vo L.length vc,.int .i64 0,.slice none 0 0,.int .i64 1,.int .i64 0,.slice none 0 0,.int .i64 0] 97)) (z01 hb3 HX.out));obtain ⟨y0,y1,_⟩:=z05 HX3.out;clear hO hb3) | (go_at_call 43;refine (CGD.out _ HC3.out).mono ?_;rintro e w5 ⟨rfl,hb5⟩;have HB5:=Lh hb5;have HT5:=Lh (HT.out.below hb5);have HBU:=Lh (HBT.out.trans (hb5.mono HBT.out.size));clear hb5))
  go_ret
  exact newd_ended (fun k hk=>Nat.le_trans HS.out hk.1) HBT.out (Leaves.same (z0j _) HT.out HB5.out)
 | false =>
  rw [if_neg Bool.noConfusion]
  rw [hg] at CGD
  go_enter Tryz.func12,Tryz.ntmps12
  go_wp2_with (first | (go_at_call 11;refine (CC.out _ HC.out).mono ?_;rintro e w3 ⟨v,rfl,hO,hb3⟩;obtain ⟨vo,vc,hv,_⟩:=hO.form;subst hv;have HT:=Lh (rr_laid (ep:=ep) hO HF.out hb3.size);have HBT:=Lh ((HB.out.trans (hb3.mono HB.out.size)).trans ((z00 w3 (.cells #[.int .i64 ep,.slice vo L.length vc,.int .i64 0,.slice none 0 0,.int .i64 1,.int .i64 0,.slice none 0 0,.int .i64 0] 97)).mono (HB.out.trans (hb3.mono HB.out.size)).size));have HC3:=Lh ((HC.out.below hb3).below (z00 w3 (.cells #[.int .i64 ep,.slice vo L.length vc,.int .i64 0,.slice none 0 0,.int .i64 1,.int .i64 0,.slice none 0 0,.int .i64 0] 97)));have HX3:=Lh (z01 (z00 w3 (.cells #[.int .i64 ep,.slice vo L.length vc,.int .i64 0,.slice none 0 0,.int .i64 1,.int .i64 0,.slice none 0 0,.int .i64 0] 97)) (z01 hb3 HX.out));obtain ⟨y0,y1,_⟩:=z05 HX3.out;clear hO hb3) | (go_at_call 43;refine (CGD.out _ HC3.out).mono ?_;rintro e w5 ⟨rfl,hb5⟩;have HB5:=Lh hb5;have HT5:=Lh (HT.out.below hb5);have HBU:=Lh (HBT.out.trans (hb5.mono HBT.out.size));clear hb5) | (go_at_call 47;refine (rr_end _ _ _ _ _ HT5.out).mono ?_;rintro e w9 ⟨rfl,hl⟩;have HL9:=Lh hl;clear hl))
  go_ret
  exact newd_ended (fun k hk=>Nat.le_trans HS.out hk.1) HBU.out HL9.out
theorem tn_of {w:World} {b:Nat} {t:TypeId} {v0 v1 v2 v3 v4 v5 v6 v7 v8 v9:Value} (h:w.heap[b]?=some (.cells #[v0,v1,v2,v3,v4,v5,v6,v7,v8,v9] t (0,0))):(w.cell? ⟨b,0,none⟩=some v0∧w.cell? ⟨b,1,none⟩=some v1∧w.cell? ⟨b,2,none⟩=some v2∧w.cell? ⟨b,3,none⟩=some v3∧w.cell? ⟨b,4,none⟩=some v4∧w.cell? ⟨b,5,none⟩=some v5∧w.cell? ⟨b,6,none⟩=some v6∧w.cell? ⟨b,7,none⟩=some v7∧w.cell? ⟨b,8,none⟩=some v8∧w.cell? ⟨b,9,none⟩=some v9)∧w.frozen? ⟨b,0,none⟩=false∧w.frozen? ⟨b,1,none⟩=false∧w.frozen? ⟨b,2,none⟩=false∧w.frozen? ⟨b,3,none⟩=false∧w.frozen? ⟨b,4,none⟩=false∧w.frozen? ⟨b,5,none⟩=false∧w.frozen? ⟨b,6,none⟩=false∧w.frozen? ⟨b,7,none⟩=false∧w.frozen? ⟨b,8,none⟩=false∧w.frozen? ⟨b,9,none⟩=false :=
 ⟨⟨z02 h 0,z02 h 1,z02 h 2,z02 h 3,z02 h 4,z02 h 5,z02 h 6,z02 h 7,z02 h 8,z02 h 9⟩,z0a h 0,z0a h 1,z0a h 2,z0a h 3,z0a h 4,z0a h 5,z0a h 6,z0a h 7,z0a h 8,z0a h 9⟩
theorem tn_put {w:World} {g:Nat} {t:TypeId} {v0 v1 v2 v3 v4 v5 v6 v7 v8 v9:Value} (h:w.heap[g]?=some (.cells #[v0,v1,v2,v3,v4,v5,v6,v7,v8,v9] t (0,0))) (u0 u1 u2 u3 u4 u5 u6 u7 u8 u9:Value):(World.setCell (World.setCell (World.setCell (World.setCell (World.setCell (World.setCell (World.setCell (World.setCell (World.setCell (World.setCell w ⟨g,0,none⟩ u0) ⟨g,1,none⟩ u1) ⟨g,2,none⟩ u2) ⟨g,3,none⟩ u3) ⟨g,4,none⟩ u4) ⟨g,5,none⟩ u5) ⟨g,6,none⟩ u6) ⟨g,7,none⟩ u7) ⟨g,8,none⟩ u8) ⟨g,9,none⟩ u9).heap[g]?=some (.cells #[u0,u1,u2,u3,u4,u5,u6,u7,u8,u9] t (0,0)) :=
 (heap_setCell_same _ g 9 #[u0,u1,u2,u3,u4,u5,u6,u7,u8,v9] t u9 (heap_setCell_same _ g 8 #[u0,u1,u2,u3,u4,u5,u6,u7,v8,v9] t u8 (heap_setCell_same _ g 7 #[u0,u1,u2,u3,u4,u5,u6,v7,v8,v9] t u7 (heap_setCell_same _ g 6 #[u0,u1,u2,u3,u4,u5,v6,v7,v8,v9] t u6 (heap_setCell_same _ g 5 #[u0,u1,u2,u3,u4,v5,v6,v7,v8,v9] t u5 (heap_setCell_same _ g 4 #[u0,u1,u2,u3,v4,v5,v6,v7,v8,v9] t u4 (heap_setCell_same _ g 3 #[u0,u1,u2,v3,v4,v5,v6,v7,v8,v9] t u3 (heap_setCell_same _ g 2 #[u0,u1,v2,v3,v4,v5,v6,v7,v8,v9] t u2 (heap_setCell_same _ g 1 #[u0,v1,v2,v3,v4,v5,v6,v7,v8,v9] t u1 (heap_setCell_same _ g 0 #[v0,v1,v2,v3,v4,v5,v6,v7,v8,v9] t u0 h))))))))))
theorem tn_kept (w:World) (g:Nat) (u0 u1 u2 u3 u4 u5 u6 u7 u8 u9:Value):Kept (fun k=>k≠g) w (World.setCell (World.setCell (World.setCell (World.setCell (World.setCell (World.setCell (World.setCell (World.setCell (World.setCell (World.setCell w ⟨g,0,none⟩ u0) ⟨g,1,none⟩ u1) ⟨g,2,none⟩ u2) ⟨g,3,none⟩ u3) ⟨g,4,none⟩ u4) ⟨g,5,none⟩ u5) ⟨g,6,none⟩ u6) ⟨g,7,none⟩ u7) ⟨g,8,none⟩ u8) ⟨g,9,none⟩ u9):=(((((((((((Kept.refl _ w).setCell (p:=⟨g,0,none⟩) (fun h=>h rfl) u0).setCell (p:=⟨g,1,none⟩) (fun h=>h rfl) u1).setCell (p:=⟨g,2,none⟩) (fun h=>h rfl) u2).setCell (p:=⟨g,3,none⟩) (fun h=>h rfl) u3).setCell (p:=⟨g,4,none⟩) (fun h=>h rfl) u4).setCell (p:=⟨g,5,none⟩) (fun h=>h rfl) u5).setCell (p:=⟨g,6,none⟩) (fun h=>h rfl) u6).setCell (p:=⟨g,7,none⟩) (fun h=>h rfl) u7).setCell (p:=⟨g,8,none⟩) (fun h=>h rfl) u8).setCell (p:=⟨g,9,none⟩) (fun h=>h rfl) u9)
theorem tn_below {B g:Nat} {w0 w:World} (h:Below B w0 w) (hg:B≤g) (u0 u1 u2 u3 u4 u5 u6 u7 u8 u9:Value):Below B w0 (World.setCell (World.setCell (World.setCell (World.setCell (World.setCell (World.setCell (World.setCell (World.setCell (World.setCell (World.setCell w ⟨g,0,none⟩ u0) ⟨g,1,none⟩ u1) ⟨g,2,none⟩ u2) ⟨g,3,none⟩ u3) ⟨g,4,none⟩ u4) ⟨g,5,none⟩ u5) ⟨g,6,none⟩ u6) ⟨g,7,none⟩ u7) ⟨g,8,none⟩ u8) ⟨g,9,none⟩ u9):=((((((((((h.setCell (p:=⟨g,0,none⟩) hg u0).setCell (p:=⟨g,1,none⟩) hg u1).setCell (p:=⟨g,2,none⟩) hg u2).setCell (p:=⟨g,3,none⟩) hg u3).setCell (p:=⟨g,4,none⟩) hg u4).setCell (p:=⟨g,5,none⟩) hg u5).setCell (p:=⟨g,6,none⟩) hg u6).setCell (p:=⟨g,7,none⟩) hg u7).setCell (p:=⟨g,8,none⟩) hg u8).setCell (p:=⟨g,9,none⟩) hg u9)
def AskDoc (r:Rf) (w:World) (e:Ending) (w':World):Prop:=∃ (ao:Option Addr) (cap:Nat),e=.returned (.agg #[.int .i64 r.ask.kind,.int .i64 r.ask.unit,.int .i64 r.ask.epoch,.int .i64 r.ask.page,.int .i64 0,.int .i64 0,.string ⟨#[]⟩,.int .i64 r.ask.pe,.slice ao r.ask.L.length cap,.bool r.asks])∧CL w' ao r.ask.L∧(ao=none→cap=0)∧r.ask.L.length≤cap∧Below w.heap.size w w'
theorem rr_ask_over (b:Nat) (G:Nat→Prop) (w:World) (r:Rf) (h:RR b G w r) (ha:r.at_=5) :
  Calls Tryz.prog 14 #[.pointer (some ⟨b,0,none⟩)] w (AskDoc r w):=by
 have HQ:=Lh (show r.ask=zeroK∧r.asks=false from by unfold Rf.ask Rf.asks;rw [ha];exact ⟨rfl,rfl⟩)
 obtain ⟨a1,n1,a2,n2,bt,nt,h1,hcw,hnn,h3⟩:=h.open
 obtain ⟨⟨c0,c1,c2,c3,c4,c5,c6,c7⟩,_⟩:=z03 h1
 have hb:=lt_of_block h1
 rw [ha] at c4
 clear h h1 hcw hnn h3
 go_enter Tryz.func14,Tryz.ntmps14
 go_wp2_with fail
 refine row_ret rfl (heap_alloc_new w (.cells #[.int .i64 0,.int .i64 0,.int .i64 0,.int .i64 0,.int .i64 0,.int .i64 0,.string ⟨#[]⟩,.int .i64 0,.slice none 0 0,.bool false] 38)) rfl rfl Tryz.underlying38 rfl (by kernel_rfl) ?_
 unfold AskDoc
 rw [HQ.out.1,HQ.out.2]
 exact ⟨none,0,rfl,CL.nil _ _,fun _=>rfl,Nat.le_refl _,z00 w _⟩
theorem rr_ask_lay (b:Nat) (G:Nat→Prop) (w:World) (r:Rf) (h:RR b G w r) (ha:r.at_=1) :
  Calls Tryz.prog 14 #[.pointer (some ⟨b,0,none⟩)] w (AskDoc r w):=by
 have HQ:=Lh (show r.ask=layK∧r.asks=true from by unfold Rf.ask Rf.asks;rw [ha];exact ⟨rfl,rfl⟩)
 obtain ⟨a1,n1,a2,n2,bt,nt,h1,hcw,hnn,h3⟩:=h.open
 obtain ⟨⟨c0,c1,c2,c3,c4,c5,c6,c7⟩,_⟩:=z03 h1
 have hb:=lt_of_block h1
 rw [ha] at c4
 clear h h1 hcw hnn h3
 go_enter Tryz.func14,Tryz.ntmps14
 go_wp2_with fail
 refine row_ret rfl (heap_alloc_new w (.cells #[.int .i64 9,.int .i64 0,.int .i64 0,.int .i64 0,.int .i64 0,.int .i64 0,.string ⟨#[]⟩,.int .i64 0,.slice none 0 0,.bool true] 38)) rfl rfl Tryz.underlying38 rfl (by kernel_rfl) ?_
 unfold AskDoc
 rw [HQ.out.1,HQ.out.2]
 exact ⟨none,0,rfl,CL.nil _ _,fun _=>rfl,Nat.le_refl _,z00 w _⟩
theorem rr_ask_chg (b:Nat) (G:Nat→Prop) (w:World) (r:Rf) (h:RR b G w r) (ha:r.at_=3) :
  Calls Tryz.prog 14 #[.pointer (some ⟨b,0,none⟩)] w (AskDoc r w):=by
 have hok:=h.ok
 have HQ:=Lh (show r.ask=chgK r.qe r.qL∧r.asks=true from by unfold Rf.ask Rf.asks;rw [ha];exact ⟨rfl,rfl⟩)
 have HB:=Lh (z00 w (.cells #[.int .i64 0,.int .i64 0,.int .i64 0,.int .i64 0,.int .i64 0,.int .i64 0,.string ⟨#[]⟩,.int .i64 0,.slice none 0 0,.bool false] 38))
 have HZ:=Lh (heap_alloc_new w (.cells #[.int .i64 0,.int .i64 0,.int .i64 0,.int .i64 0,.int .i64 0,.int .i64 0,.string ⟨#[]⟩,.int .i64 0,.slice none 0 0,.bool false] 38))
 have hs1:(w.alloc (.cells #[.int .i64 0,.int .i64 0,.int .i64 0,.int .i64 0,.int .i64 0,.int .i64 0,.string ⟨#[]⟩,.int .i64 0,.slice none 0 0,.bool false] 38)).heap.size=w.heap.size+1:=by simp
 have HS1:=Lh hs1
 clear hs1
 obtain ⟨a1,n1,a2,n2,bt,nt,h1,hcw,hnn,h3⟩:=h.open
 obtain ⟨⟨c0,c1,c2,c3,c4,c5,c6,c7⟩,_⟩:=z03 h1
 have hb:=lt_of_block h1
 have HC:=Lh (hcw _ (Kept.ofBelow HB.out _)).1
 have CC:=Lh (fun W (hC:CL W a1 r.qL)=>z1d r.qe a1 n1 r.qL W hC ⟨Nat.le_trans hok.qf.1 (by decide),fun c h=>Nat.le_trans (hok.qf.2 c h) (by decide)⟩)
 rw [ha] at c4
 clear h h1 hcw hnn h3
 go_enter Tryz.func14,Tryz.ntmps14
 go_wp2_with (go_at_call 11;refine (CC.out _ HC.out).mono ?_;rintro e w3 ⟨v,rfl,hO,hb3⟩;obtain ⟨vo,vc,hv,_⟩:=hO.form;subst hv;have HO:=Lh hO;have HB3:=Lh (HB.out.trans (hb3.mono HB.out.size));have HR:=Lh (z01 hb3 HZ.out);obtain ⟨⟨z0,z1,z2,z3,z4,z5,z6,z7,z8,z9⟩,g0,g1,g2,g3,g4,g5,g6,g7,g8,g9⟩:=tn_of HR.out;have hb:=lt_of_block HR.out;clear hO hb3)
 obtain ⟨ao2,cap2,e2,hcl,k1,k2⟩:=((CG.of HO.out).keep (tn_kept w3 w.heap.size (.int .i64 10) (.int .i64 0) (.int .i64 0) (.int .i64 0) (.int .i64 0) (.int .i64 0) (.string ⟨#[]⟩) (.int .i64 r.qe) (.slice vo r.qL.length vc) (.bool true)) (fun k hk=>by have h1:=hk.1;rw [HS1.out] at h1;omega)).cl
 injection e2 with q1 q2 q3
 subst q1 q3
 refine row_ret rfl (tn_put HR.out (.int .i64 10) (.int .i64 0) (.int .i64 0) (.int .i64 0) (.int .i64 0) (.int .i64 0) (.string ⟨#[]⟩) (.int .i64 r.qe) (.slice vo r.qL.length vc) (.bool true)) rfl rfl Tryz.underlying38 rfl (by kernel_rfl) ?_
 unfold AskDoc
 rw [HQ.out.1,HQ.out.2]
 exact ⟨vo,vc,rfl,hcl,k1,k2,tn_below HB3.out (Nat.le_refl _) _ _ _ _ _ _ _ _ _ _⟩
theorem sseal_keep {W W2:World} {b g:Nat} {y0 y2 y3 y5:Value} (hne:b≠g) (h:W.cell? ⟨b,0,none⟩=some y0∧W.cell? ⟨b,2,none⟩=some y2∧W.cell? ⟨b,3,none⟩=some y3∧W.cell? ⟨b,5,none⟩=some y5) (hk:Kept (fun k=>k≠g) W W2):W2.cell? ⟨b,0,none⟩=some y0∧W2.cell? ⟨b,2,none⟩=some y2∧W2.cell? ⟨b,3,none⟩=some y3∧W2.cell? ⟨b,5,none⟩=some y5 :=
 ⟨hk.cell18 (show b≠g from hne) h.1,hk.cell18 (show b≠g from hne) h.2.1,hk.cell18 (show b≠g from hne) h.2.2.1,hk.cell18 (show b≠g from hne) h.2.2.2⟩
theorem rr_ask_seal (b:Nat) (G:Nat→Prop) (w:World) (r:Rf) (h:RR b G w r) (ha:r.at_=2) :
  Calls Tryz.prog 14 #[.pointer (some ⟨b,0,none⟩)] w (AskDoc r w):=by
 have hok:=h.ok
 have HQ:=Lh (show r.ask=sealK r.unit r.qe∧r.asks=true from by unfold Rf.ask Rf.asks;rw [ha];exact ⟨rfl,rfl⟩)
 have HB:=Lh (z00 w (.cells #[.int .i64 0,.int .i64 0,.int .i64 0,.int .i64 0,.int .i64 0,.int .i64 0,.string ⟨#[]⟩,.int .i64 0,.slice none 0 0,.bool false] 38))
 have HZ:=Lh (heap_alloc_new w (.cells #[.int .i64 0,.int .i64 0,.int .i64 0,.int .i64 0,.int .i64 0,.int .i64 0,.string ⟨#[]⟩,.int .i64 0,.slice none 0 0,.bool false] 38))
 have hbw:b < w.heap.size:=(z0j b).lt h b h.2.1
 have HNE:=Lh (show b≠w.heap.size by omega)
 have HA:=Lh (h.below HB.out)
 obtain ⟨a1,n1,a2,n2,bt,nt,h1,hcw,hnn,h3⟩:=HA.out.open
 obtain ⟨⟨c0,c1,c2,c3,c4,c5,c6,c7⟩,_⟩:=z03 h1
 have hb:=lt_of_block h1
 rw [ha] at c4
 have hi:=hok.two ha
 have HU:=Lh (show (unitsR r.oL)[r.i]=r.unit from by unfold Rf.unit;simp [hi])
 have CU:=Lh (fun W (hC:CL W a2 r.oL)=>(z1h r.oe a2 n2 r.oL W hC ⟨hok.of_.1,fun c h=>Nat.le_trans (hok.of_.2 c h) (by decide)⟩))
 have hi0:(0:Int)≤(r.i:Int):=by omega
 have hi1:(r.i:Int) < ((unitsR r.oL).length:Int):=by omega
 have HCW:=Lh hcw
 have H1:=Lh h1
 clear h hcw hnn h3 hbw
 go_enter Tryz.func14,Tryz.ntmps14
 go_wp2_with fail
 generalize w.alloc _=w1 at *
 have HZ1:=Lh (lt_of_block HZ.out)
 have S1:=Lh (show w1.cell? ⟨b,0,none⟩=some (.int .i64 r.qe)∧w1.cell? ⟨b,2,none⟩=some (.int .i64 r.oe)∧w1.cell? ⟨b,3,none⟩=some (.slice a2 r.oL.length n2)∧w1.cell? ⟨b,5,none⟩=some (.int .i64 r.i) from ⟨c0,c2,c3,c5⟩)
 have S1d:=Lh (show w1.drew.cell? ⟨b,0,none⟩=some (.int .i64 r.qe)∧w1.drew.cell? ⟨b,2,none⟩=some (.int .i64 r.oe)∧w1.drew.cell? ⟨b,3,none⟩=some (.slice a2 r.oL.length n2)∧w1.drew.cell? ⟨b,5,none⟩=some (.int .i64 r.i) from ⟨c0,c2,c3,c5⟩)
 go_region_held3 (fun W=>W.cell? ⟨b,0,none⟩=some (.int .i64 r.qe)∧W.cell? ⟨b,2,none⟩=some (.int .i64 r.oe)∧W.cell? ⟨b,3,none⟩=some (.slice a2 r.oL.length n2)∧W.cell? ⟨b,5,none⟩=some (.int .i64 r.i))
  (first | with_reducible exact S1d.out | with_reducible exact S6.out | with_reducible exact S1.out | with_reducible exact sseal_keep HNE.out S6.out (tn_kept w6 w.heap.size _ _ _ _ _ _ _ _ _ _) | with_reducible exact ⟨sseal_keep HNE.out S6.out.1 (tn_kept w6 w.heap.size _ _ _ _ _ _ _ _ _ _),(tn_kept w6 w.heap.size _ _ _ _ _ _ _ _ _ _).cell18 (show bk≠w.heap.size from HNK.out) S6.out.2⟩ | assumption)
  (first | (go_at_call 27;refine (CU.out _ (HCW.out _ (Kept.refl _ _).drew).2.1).mono ?_;rintro e w6 ⟨v,rfl,hO,hb6⟩;obtain ⟨bk,cb,rfl,hbk1,hbk,_,cu⟩:=hO.spotK hi;rw [HU.out,Nat.zero_add] at cu;have HB6:=Lh (HB.out.trans ((z0c (w1:=w1) hb6 (Below.refl _ _).drew).mono HB.out.size));have B6:=Lh (z0c (w1:=w1) hb6 (Below.refl _ _).drew);have HR:=Lh (z01 B6.out HZ.out);obtain ⟨⟨z0,z1,z2,z3,z4,z5,z6,z7,z8,z9⟩,g0,g1,g2,g3,g4,g5,g6,g7,g8,g9⟩:=tn_of HR.out;have hg:=lt_of_block HR.out;have H6:=Lh (z01 B6.out H1.out);have S6:=Lh (show (w6.cell? ⟨b,0,none⟩=some (.int .i64 r.qe)∧w6.cell? ⟨b,2,none⟩=some (.int .i64 r.oe)∧w6.cell? ⟨b,3,none⟩=some (.slice a2 r.oL.length n2)∧w6.cell? ⟨b,5,none⟩=some (.int .i64 r.i))∧w6.cell? ⟨bk,r.i,none⟩=some (.int .i64 r.unit) from ⟨⟨z02 H6.out 0,z02 H6.out 2,z02 H6.out 3,z02 H6.out 5⟩,cu⟩);have HNK:=Lh (show bk≠w.heap.size from by have h1:=HZ1.out;have h2:w1.heap.size≤bk:=hbk1;omega);clear hO hb6 hbk1;rw [held_swap (T1:=fun W=>W.cell? ⟨b,0,none⟩=some (.int .i64 r.qe)∧W.cell? ⟨b,2,none⟩=some (.int .i64 r.oe)∧W.cell? ⟨b,3,none⟩=some (.slice a2 r.oL.length n2)∧W.cell? ⟨b,5,none⟩=some (.int .i64 r.i)) (fun W=>(W.cell? ⟨b,0,none⟩=some (.int .i64 r.qe)∧W.cell? ⟨b,2,none⟩=some (.int .i64 r.oe)∧W.cell? ⟨b,3,none⟩=some (.slice a2 r.oL.length n2)∧W.cell? ⟨b,5,none⟩=some (.int .i64 r.i))∧W.cell? ⟨bk,r.i,none⟩=some (.int .i64 r.unit)) (fun W h=>h.1) (by assumption)] at *))
 all_goals
  go_wp2_with fail
  refine row_ret rfl (tn_put HR.out (.int .i64 5) (.int .i64 r.unit) (.int .i64 r.qe) (.int .i64 0) (.int .i64 0) (.int .i64 0) (.string ⟨#[]⟩) (.int .i64 0) (.slice none 0 0) (.bool true)) rfl rfl Tryz.underlying38 rfl (by kernel_rfl) ?_
  unfold AskDoc
  rw [HQ.out.1,HQ.out.2]
  exact ⟨none,0,rfl,CL.nil _ _,fun _=>rfl,Nat.le_refl _,tn_below HB6.out (Nat.le_refl _) _ _ _ _ _ _ _ _ _ _⟩
theorem sstart_keep {W W2:World} {b g:Nat} {y0 y2 y3 y6:Value} (hne:b≠g) (h:W.cell? ⟨b,0,none⟩=some y0∧W.cell? ⟨b,2,none⟩=some y2∧W.cell? ⟨b,3,none⟩=some y3∧W.cell? ⟨b,6,none⟩=some y6) (hk:Kept (fun k=>k≠g) W W2):W2.cell? ⟨b,0,none⟩=some y0∧W2.cell? ⟨b,2,none⟩=some y2∧W2.cell? ⟨b,3,none⟩=some y3∧W2.cell? ⟨b,6,none⟩=some y6 :=
 ⟨hk.cell18 (show b≠g from hne) h.1,hk.cell18 (show b≠g from hne) h.2.1,hk.cell18 (show b≠g from hne) h.2.2.1,hk.cell18 (show b≠g from hne) h.2.2.2⟩
theorem rr_ask_start (b:Nat) (G:Nat→Prop) (w:World) (r:Rf) (h:RR b G w r) (ha:r.at_=4) :
  Calls Tryz.prog 14 #[.pointer (some ⟨b,0,none⟩)] w (AskDoc r w):=by
 have hok:=h.ok
 have HQ:=Lh (show r.ask=startK r.qe (tailR r.oe r.oL r.tails)∧r.asks=true from by unfold Rf.ask Rf.asks;rw [ha];exact ⟨rfl,rfl⟩)
 have HB:=Lh (z00 w (.cells #[.int .i64 0,.int .i64 0,.int .i64 0,.int .i64 0,.int .i64 0,.int .i64 0,.string ⟨#[]⟩,.int .i64 0,.slice none 0 0,.bool false] 38))
 have HZ:=Lh (heap_alloc_new w (.cells #[.int .i64 0,.int .i64 0,.int .i64 0,.int .i64 0,.int .i64 0,.int .i64 0,.string ⟨#[]⟩,.int .i64 0,.slice none 0 0,.bool false] 38))
 have hbw:b < w.heap.size:=(z0j b).lt h b h.2.1
 have HNE:=Lh (show b≠w.heap.size by omega)
 have HA:=Lh (h.below HB.out)
 obtain ⟨a1,n1,a2,n2,bt,nt,h1,hcw,hnn,h3⟩:=HA.out.open
 obtain ⟨⟨c0,c1,c2,c3,c4,c5,c6,c7⟩,_⟩:=z03 h1
 have hb:=lt_of_block h1
 rw [ha] at c4
 have CT:=Lh (fun W (hC:CL W a2 r.oL) (hK:PL W bt r.tails)=>refTail_any r.oe a2 n2 r.oL bt nt r.tails W hC hok.of_ hK (Nat.le_trans hok.tl (by decide)))
 have HCW:=Lh hcw
 have H1:=Lh h1
 clear h hcw hnn h3 hbw
 go_enter Tryz.func14,Tryz.ntmps14
 go_wp2_with fail
 generalize w.alloc _=w1 at *
 have HZ1:=Lh (lt_of_block HZ.out)
 have S1:=Lh (show w1.cell? ⟨b,0,none⟩=some (.int .i64 r.qe)∧w1.cell? ⟨b,2,none⟩=some (.int .i64 r.oe)∧w1.cell? ⟨b,3,none⟩=some (.slice a2 r.oL.length n2)∧w1.cell? ⟨b,6,none⟩=some (.slice bt r.tails.length nt) from ⟨c0,c2,c3,c6⟩)
 have S1d:=Lh (show w1.drew.cell? ⟨b,0,none⟩=some (.int .i64 r.qe)∧w1.drew.cell? ⟨b,2,none⟩=some (.int .i64 r.oe)∧w1.drew.cell? ⟨b,3,none⟩=some (.slice a2 r.oL.length n2)∧w1.drew.cell? ⟨b,6,none⟩=some (.slice bt r.tails.length nt) from ⟨c0,c2,c3,c6⟩)
 go_region_held3 (fun W=>W.cell? ⟨b,0,none⟩=some (.int .i64 r.qe)∧W.cell? ⟨b,2,none⟩=some (.int .i64 r.oe)∧W.cell? ⟨b,3,none⟩=some (.slice a2 r.oL.length n2)∧W.cell? ⟨b,6,none⟩=some (.slice bt r.tails.length nt))
  (first | with_reducible exact S1d.out | with_reducible exact S6.out | with_reducible exact S1.out | with_reducible exact sstart_keep HNE.out S6.out (tn_kept w6 w.heap.size _ _ _ _ _ _ _ _ _ _) | assumption)
  (first | (go_at_call 50;refine (CT.out _ (HCW.out _ (Kept.refl _ _).drew).2.1 (HCW.out _ (Kept.refl _ _).drew).2.2).mono ?_;rintro e w6 ⟨rfl,hb6⟩;have HB6:=Lh (HB.out.trans ((z0c (w1:=w1) hb6 (Below.refl _ _).drew).mono HB.out.size));have B6:=Lh (z0c (w1:=w1) hb6 (Below.refl _ _).drew);have HR:=Lh (z01 B6.out HZ.out);obtain ⟨⟨z0,z1,z2,z3,z4,z5,z6,z7,z8,z9⟩,g0,g1,g2,g3,g4,g5,g6,g7,g8,g9⟩:=tn_of HR.out;have hg:=lt_of_block HR.out;have H6:=Lh (z01 B6.out H1.out);have S6:=Lh (show w6.cell? ⟨b,0,none⟩=some (.int .i64 r.qe)∧w6.cell? ⟨b,2,none⟩=some (.int .i64 r.oe)∧w6.cell? ⟨b,3,none⟩=some (.slice a2 r.oL.length n2)∧w6.cell? ⟨b,6,none⟩=some (.slice bt r.tails.length nt) from ⟨z02 H6.out 0,z02 H6.out 2,z02 H6.out 3,z02 H6.out 6⟩);clear hb6))
 all_goals
  go_wp2_with fail
  refine row_ret rfl (tn_put HR.out (.int .i64 8) (.int .i64 0) (.int .i64 r.qe) (.int .i64 (tailR r.oe r.oL r.tails)) (.int .i64 0) (.int .i64 0) (.string ⟨#[]⟩) (.int .i64 0) (.slice none 0 0) (.bool true)) rfl rfl Tryz.underlying38 rfl (by kernel_rfl) ?_
  unfold AskDoc
  rw [HQ.out.1,HQ.out.2]
  exact ⟨none,0,rfl,CL.nil _ _,fun _=>rfl,Nat.le_refl _,tn_below HB6.out (Nat.le_refl _) _ _ _ _ _ _ _ _ _ _⟩
theorem rr_ask (b:Nat) (G:Nat→Prop) (w:World) (r:Rf) (h:RR b G w r) :
  Calls Tryz.prog 14 #[.pointer (some ⟨b,0,none⟩)] w (AskDoc r w):=by
 have hr:=h.ok.range
 have hc:r.at_=1∨r.at_=2∨r.at_=3∨r.at_=4∨r.at_=5:=by omega
 rcases hc with e | e | e | e | e
 ·exact rr_ask_lay b G w r h e
 ·exact rr_ask_seal b G w r h e
 ·exact rr_ask_chg b G w r h e
 ·exact rr_ask_start b G w r h e
 ·exact rr_ask_over b G w r h e
theorem RfOk.next {r:Rf} (h:RfOk r) (h2:r.at_=2) (K:List (Int × Int)) (hK:K.length≤17):RfOk (r.next K):=by
 have hi:=h.two h2
 have h16:=h.few
 unfold Rf.next
 by_cases e:r.i+1=(unitsR r.oL).length
 ·rw [if_pos e]
  exact ⟨⟨(by decide:(1:Int)≤3),(by decide:(3:Int)≤5)⟩,h.qf,h.of_,fun g=>absurd g (by decide:¬ (3:Int)=2),h.few,hK,by show r.i+1≤16;omega,fun g=>absurd g (by decide:¬ (3:Int)=1)⟩
 ·rw [if_neg e]
  exact ⟨⟨(by decide:(1:Int)≤2),(by decide:(2:Int)≤5)⟩,h.qf,h.of_,fun _=>by show r.i+1 < (unitsR r.oL).length;omega,h.few,hK,by show r.i+1≤16;omega,fun g=>absurd g (by decide:¬ (2:Int)=1)⟩
theorem rr_skip_no (b:Nat) (G:Nat→Prop) (w:World) (r:Rf) (h:RR b G w r) (ha:¬ r.at_=2) :
  Calls Tryz.prog 20 #[.pointer (some ⟨b,0,none⟩)] w fun e w'=>e=.returned (.bool false)∧Leaves (RR b) G w w' r:=by
 have HA:=Lh h
 obtain ⟨a1,n1,a2,n2,bt,nt,h1,hcw,hnn,h3⟩:=h.open
 obtain ⟨⟨c0,c1,c2,c3,c4,c5,c6,c7⟩,_⟩:=z03 h1
 have hb:=lt_of_block h1
 have e2:(r.at_ != 2)=true:=by simpa using ha
 clear h h1 hcw hnn h3 ha
 generalize hm:r.at_=m at c4 e2
 go_enter Tryz.func20,Tryz.ntmps20
 go_wp2_with fail
 go_quiet (fail)
 go_wp2_with fail
 go_ret
 exact ⟨rfl,Leaves.same (z0j b) HA.out (below_drewN (Below.refl _ _) nq)⟩
theorem rr_skip_stands (b:Nat) (G:Nat→Prop) (w:World) (r:Rf) (h:RR b G w r) (ha:r.at_=2) (hh:hasB (unitsR r.qL) r.unit=true) :
  Calls Tryz.prog 20 #[.pointer (some ⟨b,0,none⟩)] w fun e w'=>e=.returned (.bool false)∧Leaves (RR b) G w w' r:=by
 have hok:=h.ok
 have hi:=hok.two ha
 have HA:=Lh h
 have HHS:=Lh hh
 obtain ⟨a1,n1,a2,n2,bt,nt,h1,hcw,hnn,h3⟩:=h.open
 rw [ha] at h1
 obtain ⟨⟨c0,c1,c2,c3,c4,c5,c6,c7⟩,_⟩:=z03 h1
 have hb:=lt_of_block h1
 have HCW:=Lh hcw
 have H1:=Lh h1
 have HU:=Lh (show (unitsR r.oL)[r.i]=r.unit from by unfold Rf.unit;simp [hi])
 have HUL:=Lh (show (unitsR r.qL).length≤1000000 from Nat.le_trans (units_few hok.qf) (by decide))
 have CUQ:=Lh (fun W (hC:CL W a1 r.qL)=>z1p r.qe a1 n1 r.qL W hC hok.qf)
 have CUO:=Lh (fun W (hC:CL W a2 r.oL)=>z1h r.oe a2 n2 r.oL W hC ⟨hok.of_.1,fun c h=>Nat.le_trans (hok.of_.2 c h) (by decide)⟩)
 have hi0:(0:Int)≤(r.i:Int):=by omega
 have hi1:(r.i:Int) < ((unitsR r.oL).length:Int):=by omega
 have HOK:=Lh (hok.next ha r.tails hok.tl)
 have HN:=Lh (fun G W (h:RR b G W r)=>rr_next b G W r h ha r.tails rfl)
 clear h h1 hcw hnn h3 ha hh
 go_enter Tryz.func20,Tryz.ntmps20
 go_wp2_with fail
 have S1d:=Lh (show w.drew.cell? ⟨b,0,none⟩=some (.int .i64 r.qe)∧w.drew.cell? ⟨b,1,none⟩=some (.slice a1 r.qL.length n1)∧w.drew.cell? ⟨b,2,none⟩=some (.int .i64 r.oe)∧w.drew.cell? ⟨b,3,none⟩=some (.slice a2 r.oL.length n2)∧w.drew.cell? ⟨b,4,none⟩=some (.int .i64 2)∧w.drew.cell? ⟨b,5,none⟩=some (.int .i64 r.i) from ⟨c0,c1,c2,c3,c4,c5⟩)
 go_region_held3 (fun W=>W.cell? ⟨b,0,none⟩=some (.int .i64 r.qe)∧W.cell? ⟨b,1,none⟩=some (.slice a1 r.qL.length n1)∧W.cell? ⟨b,2,none⟩=some (.int .i64 r.oe)∧W.cell? ⟨b,3,none⟩=some (.slice a2 r.oL.length n2)∧W.cell? ⟨b,4,none⟩=some (.int .i64 2)∧W.cell? ⟨b,5,none⟩=some (.int .i64 r.i))
  (first | with_reducible exact S1d.out | with_reducible exact S8.out | with_reducible exact S9.out | with_reducible exact S7.out | with_reducible exact S6.out | assumption)
  (first
  | (go_at_call 28;(with_reducible refine (z17 (unitsR r.qL) r.unit bo cb w8 N8.out HUL.out).mono ?_);rw [HHS.out];rintro e w20 ⟨rfl,rfl⟩)
  | (go_at_call 28;(with_reducible refine (z17 (unitsR r.qL) r.unit bo cb w9 N9.out HUL.out).mono ?_);rw [HHS.out];rintro e w20 ⟨rfl,rfl⟩)
  | (go_at_call 27;(with_reducible refine (CUO.out w7 (HCW.out _ (Kept.ofBelow B7.out _)).2.1).mono ?_);rintro e w8 ⟨v,rfl,hO,hb⟩;obtain ⟨bk,cu,rfl,_,hbk,_,hR⟩:=hO.spotK hi;rw [HU.out,Nat.zero_add] at hR;have R8:=Lh hR;have B8:=Lh (B7.out.trans (hb.mono B7.out.size));have H8:=Lh (z01 B8.out H1.out);have S8:=Lh (show (w8.cell? ⟨b,0,none⟩=some (.int .i64 r.qe)∧w8.cell? ⟨b,1,none⟩=some (.slice a1 r.qL.length n1)∧w8.cell? ⟨b,2,none⟩=some (.int .i64 r.oe)∧w8.cell? ⟨b,3,none⟩=some (.slice a2 r.oL.length n2)∧w8.cell? ⟨b,4,none⟩=some (.int .i64 2)∧w8.cell? ⟨b,5,none⟩=some (.int .i64 r.i))∧w8.cell? ⟨bk,r.i,none⟩=some (.int .i64 r.unit) from ⟨⟨z02 H8.out 0,z02 H8.out 1,z02 H8.out 2,z02 H8.out 3,z02 H8.out 4,z02 H8.out 5⟩,hR⟩);have N8:=Lh (N7.out.below hb);clear hO hb hR hbk;rw [held_swap (T1:=fun W=>W.cell? ⟨b,0,none⟩=some (.int .i64 r.qe)∧W.cell? ⟨b,1,none⟩=some (.slice a1 r.qL.length n1)∧W.cell? ⟨b,2,none⟩=some (.int .i64 r.oe)∧W.cell? ⟨b,3,none⟩=some (.slice a2 r.oL.length n2)∧W.cell? ⟨b,4,none⟩=some (.int .i64 2)∧W.cell? ⟨b,5,none⟩=some (.int .i64 r.i)) (fun W=>(W.cell? ⟨b,0,none⟩=some (.int .i64 r.qe)∧W.cell? ⟨b,1,none⟩=some (.slice a1 r.qL.length n1)∧W.cell? ⟨b,2,none⟩=some (.int .i64 r.oe)∧W.cell? ⟨b,3,none⟩=some (.slice a2 r.oL.length n2)∧W.cell? ⟨b,4,none⟩=some (.int .i64 2)∧W.cell? ⟨b,5,none⟩=some (.int .i64 r.i))∧W.cell? ⟨bk,r.i,none⟩=some (.int .i64 r.unit)) (fun W h=>h.1) (by assumption)] at *)
  | (go_at_call 27;(with_reducible refine (CUQ.out w6 (HCW.out _ (Kept.ofBelow B6.out _)).1).mono ?_);rintro e w9 ⟨bo,cb,rfl,hN,hb⟩;have B9:=Lh (B6.out.trans (hb.mono B6.out.size));have H9:=Lh (z01 B9.out H1.out);have N9:=Lh hN;have R9:=Lh (show w9.cell? ⟨bk,r.i,none⟩=some (.int .i64 r.unit) from z0s hb (block_lt_of_cell R6.out) R6.out);have S9:=Lh (show (w9.cell? ⟨b,0,none⟩=some (.int .i64 r.qe)∧w9.cell? ⟨b,1,none⟩=some (.slice a1 r.qL.length n1)∧w9.cell? ⟨b,2,none⟩=some (.int .i64 r.oe)∧w9.cell? ⟨b,3,none⟩=some (.slice a2 r.oL.length n2)∧w9.cell? ⟨b,4,none⟩=some (.int .i64 2)∧w9.cell? ⟨b,5,none⟩=some (.int .i64 r.i))∧w9.cell? ⟨bk,r.i,none⟩=some (.int .i64 r.unit) from ⟨⟨z02 H9.out 0,z02 H9.out 1,z02 H9.out 2,z02 H9.out 3,z02 H9.out 4,z02 H9.out 5⟩,R9.out⟩);clear hN hb)
  | (go_at_call 27;(with_reducible refine (CUQ.out w.drew (HCW.out _ (Kept.refl _ _).drew).1).mono ?_);rintro e w7 ⟨bo,cb,rfl,hN,hb⟩;have B7:=Lh (z0c (w1:=w) hb (Below.refl _ _).drew);have H7:=Lh (z01 B7.out H1.out);have N7:=Lh hN;have S7:=Lh (show w7.cell? ⟨b,0,none⟩=some (.int .i64 r.qe)∧w7.cell? ⟨b,1,none⟩=some (.slice a1 r.qL.length n1)∧w7.cell? ⟨b,2,none⟩=some (.int .i64 r.oe)∧w7.cell? ⟨b,3,none⟩=some (.slice a2 r.oL.length n2)∧w7.cell? ⟨b,4,none⟩=some (.int .i64 2)∧w7.cell? ⟨b,5,none⟩=some (.int .i64 r.i) from ⟨z02 H7.out 0,z02 H7.out 1,z02 H7.out 2,z02 H7.out 3,z02 H7.out 4,z02 H7.out 5⟩);clear hN hb)
  | (go_at_call 27;(with_reducible refine (CUO.out w.drew (HCW.out _ (Kept.refl _ _).drew).2.1).mono ?_);rintro e w6 ⟨v,rfl,hO,hb⟩;obtain ⟨bk,cu,rfl,_,hbk,_,hR⟩:=hO.spotK hi;rw [HU.out,Nat.zero_add] at hR;have R6:=Lh hR;have B6:=Lh (z0c (w1:=w) hb (Below.refl _ _).drew);have H6:=Lh (z01 B6.out H1.out);have S6:=Lh (show (w6.cell? ⟨b,0,none⟩=some (.int .i64 r.qe)∧w6.cell? ⟨b,1,none⟩=some (.slice a1 r.qL.length n1)∧w6.cell? ⟨b,2,none⟩=some (.int .i64 r.oe)∧w6.cell? ⟨b,3,none⟩=some (.slice a2 r.oL.length n2)∧w6.cell? ⟨b,4,none⟩=some (.int .i64 2)∧w6.cell? ⟨b,5,none⟩=some (.int .i64 r.i))∧w6.cell? ⟨bk,r.i,none⟩=some (.int .i64 r.unit) from ⟨⟨z02 H6.out 0,z02 H6.out 1,z02 H6.out 2,z02 H6.out 3,z02 H6.out 4,z02 H6.out 5⟩,hR⟩);clear hO hb hR hbk;rw [held_swap (T1:=fun W=>W.cell? ⟨b,0,none⟩=some (.int .i64 r.qe)∧W.cell? ⟨b,1,none⟩=some (.slice a1 r.qL.length n1)∧W.cell? ⟨b,2,none⟩=some (.int .i64 r.oe)∧W.cell? ⟨b,3,none⟩=some (.slice a2 r.oL.length n2)∧W.cell? ⟨b,4,none⟩=some (.int .i64 2)∧W.cell? ⟨b,5,none⟩=some (.int .i64 r.i)) (fun W=>(W.cell? ⟨b,0,none⟩=some (.int .i64 r.qe)∧W.cell? ⟨b,1,none⟩=some (.slice a1 r.qL.length n1)∧W.cell? ⟨b,2,none⟩=some (.int .i64 r.oe)∧W.cell? ⟨b,3,none⟩=some (.slice a2 r.oL.length n2)∧W.cell? ⟨b,4,none⟩=some (.int .i64 2)∧W.cell? ⟨b,5,none⟩=some (.int .i64 r.i))∧W.cell? ⟨bk,r.i,none⟩=some (.int .i64 r.unit)) (fun W h=>h.1) (by assumption)] at *))
 all_goals
  first
  | (have B20:=Lh B8.out)
  | (have B20:=Lh B9.out)
  go_wp2_with fail
  go_ret
  exact ⟨rfl,Leaves.same (z0j b) HA.out B20.out⟩
theorem rr_skip_goes (b:Nat) (G:Nat→Prop) (w:World) (r:Rf) (h:RR b G w r) (ha:r.at_=2) (hh:hasB (unitsR r.qL) r.unit=false) :
  Calls Tryz.prog 20 #[.pointer (some ⟨b,0,none⟩)] w fun e w'=>e=.returned (.bool true)∧Leaves (RR b) G w w' (r.next r.tails):=by
 have hok:=h.ok
 have hi:=hok.two ha
 have HA:=Lh h
 have HHS:=Lh hh
 obtain ⟨a1,n1,a2,n2,bt,nt,h1,hcw,hnn,h3⟩:=h.open
 rw [ha] at h1
 obtain ⟨⟨c0,c1,c2,c3,c4,c5,c6,c7⟩,_⟩:=z03 h1
 have hb:=lt_of_block h1
 have HCW:=Lh hcw
 have H1:=Lh h1
 have HU:=Lh (show (unitsR r.oL)[r.i]=r.unit from by unfold Rf.unit;simp [hi])
 have HUL:=Lh (show (unitsR r.qL).length≤1000000 from Nat.le_trans (units_few hok.qf) (by decide))
 have CUQ:=Lh (fun W (hC:CL W a1 r.qL)=>z1p r.qe a1 n1 r.qL W hC hok.qf)
 have CUO:=Lh (fun W (hC:CL W a2 r.oL)=>z1h r.oe a2 n2 r.oL W hC ⟨hok.of_.1,fun c h=>Nat.le_trans (hok.of_.2 c h) (by decide)⟩)
 have hi0:(0:Int)≤(r.i:Int):=by omega
 have hi1:(r.i:Int) < ((unitsR r.oL).length:Int):=by omega
 have HOK:=Lh (hok.next ha r.tails hok.tl)
 have HN:=Lh (fun G W (h:RR b G W r)=>rr_next b G W r h ha r.tails rfl)
 clear h h1 hcw hnn h3 ha hh
 go_enter Tryz.func20,Tryz.ntmps20
 go_wp2_with fail
 have S1d:=Lh (show w.drew.cell? ⟨b,0,none⟩=some (.int .i64 r.qe)∧w.drew.cell? ⟨b,1,none⟩=some (.slice a1 r.qL.length n1)∧w.drew.cell? ⟨b,2,none⟩=some (.int .i64 r.oe)∧w.drew.cell? ⟨b,3,none⟩=some (.slice a2 r.oL.length n2)∧w.drew.cell? ⟨b,4,none⟩=some (.int .i64 2)∧w.drew.cell? ⟨b,5,none⟩=some (.int .i64 r.i) from ⟨c0,c1,c2,c3,c4,c5⟩)
 go_region_held3 (fun W=>W.cell? ⟨b,0,none⟩=some (.int .i64 r.qe)∧W.cell? ⟨b,1,none⟩=some (.slice a1 r.qL.length n1)∧W.cell? ⟨b,2,none⟩=some (.int .i64 r.oe)∧W.cell? ⟨b,3,none⟩=some (.slice a2 r.oL.length n2)∧W.cell? ⟨b,4,none⟩=some (.int .i64 2)∧W.cell? ⟨b,5,none⟩=some (.int .i64 r.i))
  (first | with_reducible exact S1d.out | with_reducible exact S8.out | with_reducible exact S9.out | with_reducible exact S7.out | with_reducible exact S6.out | assumption)
  (first
  | (go_at_call 28;(with_reducible refine (z17 (unitsR r.qL) r.unit bo cb w8 N8.out HUL.out).mono ?_);rw [HHS.out];rintro e w20 ⟨rfl,rfl⟩)
  | (go_at_call 28;(with_reducible refine (z17 (unitsR r.qL) r.unit bo cb w9 N9.out HUL.out).mono ?_);rw [HHS.out];rintro e w20 ⟨rfl,rfl⟩)
  | (go_at_call 27;(with_reducible refine (CUO.out w7 (HCW.out _ (Kept.ofBelow B7.out _)).2.1).mono ?_);rintro e w8 ⟨v,rfl,hO,hb⟩;obtain ⟨bk,cu,rfl,_,hbk,_,hR⟩:=hO.spotK hi;rw [HU.out,Nat.zero_add] at hR;have R8:=Lh hR;have B8:=Lh (B7.out.trans (hb.mono B7.out.size));have H8:=Lh (z01 B8.out H1.out);have S8:=Lh (show (w8.cell? ⟨b,0,none⟩=some (.int .i64 r.qe)∧w8.cell? ⟨b,1,none⟩=some (.slice a1 r.qL.length n1)∧w8.cell? ⟨b,2,none⟩=some (.int .i64 r.oe)∧w8.cell? ⟨b,3,none⟩=some (.slice a2 r.oL.length n2)∧w8.cell? ⟨b,4,none⟩=some (.int .i64 2)∧w8.cell? ⟨b,5,none⟩=some (.int .i64 r.i))∧w8.cell? ⟨bk,r.i,none⟩=some (.int .i64 r.unit) from ⟨⟨z02 H8.out 0,z02 H8.out 1,z02 H8.out 2,z02 H8.out 3,z02 H8.out 4,z02 H8.out 5⟩,hR⟩);have N8:=Lh (N7.out.below hb);clear hO hb hR hbk;rw [held_swap (T1:=fun W=>W.cell? ⟨b,0,none⟩=some (.int .i64 r.qe)∧W.cell? ⟨b,1,none⟩=some (.slice a1 r.qL.length n1)∧W.cell? ⟨b,2,none⟩=some (.int .i64 r.oe)∧W.cell? ⟨b,3,none⟩=some (.slice a2 r.oL.length n2)∧W.cell? ⟨b,4,none⟩=some (.int .i64 2)∧W.cell? ⟨b,5,none⟩=some (.int .i64 r.i)) (fun W=>(W.cell? ⟨b,0,none⟩=some (.int .i64 r.qe)∧W.cell? ⟨b,1,none⟩=some (.slice a1 r.qL.length n1)∧W.cell? ⟨b,2,none⟩=some (.int .i64 r.oe)∧W.cell? ⟨b,3,none⟩=some (.slice a2 r.oL.length n2)∧W.cell? ⟨b,4,none⟩=some (.int .i64 2)∧W.cell? ⟨b,5,none⟩=some (.int .i64 r.i))∧W.cell? ⟨bk,r.i,none⟩=some (.int .i64 r.unit)) (fun W h=>h.1) (by assumption)] at *)
  | (go_at_call 27;(with_reducible refine (CUQ.out w6 (HCW.out _ (Kept.ofBelow B6.out _)).1).mono ?_);rintro e w9 ⟨bo,cb,rfl,hN,hb⟩;have B9:=Lh (B6.out.trans (hb.mono B6.out.size));have H9:=Lh (z01 B9.out H1.out);have N9:=Lh hN;have R9:=Lh (show w9.cell? ⟨bk,r.i,none⟩=some (.int .i64 r.unit) from z0s hb (block_lt_of_cell R6.out) R6.out);have S9:=Lh (show (w9.cell? ⟨b,0,none⟩=some (.int .i64 r.qe)∧w9.cell? ⟨b,1,none⟩=some (.slice a1 r.qL.length n1)∧w9.cell? ⟨b,2,none⟩=some (.int .i64 r.oe)∧w9.cell? ⟨b,3,none⟩=some (.slice a2 r.oL.length n2)∧w9.cell? ⟨b,4,none⟩=some (.int .i64 2)∧w9.cell? ⟨b,5,none⟩=some (.int .i64 r.i))∧w9.cell? ⟨bk,r.i,none⟩=some (.int .i64 r.unit) from ⟨⟨z02 H9.out 0,z02 H9.out 1,z02 H9.out 2,z02 H9.out 3,z02 H9.out 4,z02 H9.out 5⟩,R9.out⟩);clear hN hb)
  | (go_at_call 27;(with_reducible refine (CUQ.out w.drew (HCW.out _ (Kept.refl _ _).drew).1).mono ?_);rintro e w7 ⟨bo,cb,rfl,hN,hb⟩;have B7:=Lh (z0c (w1:=w) hb (Below.refl _ _).drew);have H7:=Lh (z01 B7.out H1.out);have N7:=Lh hN;have S7:=Lh (show w7.cell? ⟨b,0,none⟩=some (.int .i64 r.qe)∧w7.cell? ⟨b,1,none⟩=some (.slice a1 r.qL.length n1)∧w7.cell? ⟨b,2,none⟩=some (.int .i64 r.oe)∧w7.cell? ⟨b,3,none⟩=some (.slice a2 r.oL.length n2)∧w7.cell? ⟨b,4,none⟩=some (.int .i64 2)∧w7.cell? ⟨b,5,none⟩=some (.int .i64 r.i) from ⟨z02 H7.out 0,z02 H7.out 1,z02 H7.out 2,z02 H7.out 3,z02 H7.out 4,z02 H7.out 5⟩);clear hN hb)
  | (go_at_call 27;(with_reducible refine (CUO.out w.drew (HCW.out _ (Kept.refl _ _).drew).2.1).mono ?_);rintro e w6 ⟨v,rfl,hO,hb⟩;obtain ⟨bk,cu,rfl,_,hbk,_,hR⟩:=hO.spotK hi;rw [HU.out,Nat.zero_add] at hR;have R6:=Lh hR;have B6:=Lh (z0c (w1:=w) hb (Below.refl _ _).drew);have H6:=Lh (z01 B6.out H1.out);have S6:=Lh (show (w6.cell? ⟨b,0,none⟩=some (.int .i64 r.qe)∧w6.cell? ⟨b,1,none⟩=some (.slice a1 r.qL.length n1)∧w6.cell? ⟨b,2,none⟩=some (.int .i64 r.oe)∧w6.cell? ⟨b,3,none⟩=some (.slice a2 r.oL.length n2)∧w6.cell? ⟨b,4,none⟩=some (.int .i64 2)∧w6.cell? ⟨b,5,none⟩=some (.int .i64 r.i))∧w6.cell? ⟨bk,r.i,none⟩=some (.int .i64 r.unit) from ⟨⟨z02 H6.out 0,z02 H6.out 1,z02 H6.out 2,z02 H6.out 3,z02 H6.out 4,z02 H6.out 5⟩,hR⟩);clear hO hb hR hbk;rw [held_swap (T1:=fun W=>W.cell? ⟨b,0,none⟩=some (.int .i64 r.qe)∧W.cell? ⟨b,1,none⟩=some (.slice a1 r.qL.length n1)∧W.cell? ⟨b,2,none⟩=some (.int .i64 r.oe)∧W.cell? ⟨b,3,none⟩=some (.slice a2 r.oL.length n2)∧W.cell? ⟨b,4,none⟩=some (.int .i64 2)∧W.cell? ⟨b,5,none⟩=some (.int .i64 r.i)) (fun W=>(W.cell? ⟨b,0,none⟩=some (.int .i64 r.qe)∧W.cell? ⟨b,1,none⟩=some (.slice a1 r.qL.length n1)∧W.cell? ⟨b,2,none⟩=some (.int .i64 r.oe)∧W.cell? ⟨b,3,none⟩=some (.slice a2 r.oL.length n2)∧W.cell? ⟨b,4,none⟩=some (.int .i64 2)∧W.cell? ⟨b,5,none⟩=some (.int .i64 r.i))∧W.cell? ⟨bk,r.i,none⟩=some (.int .i64 r.unit)) (fun W h=>h.1) (by assumption)] at *))
 all_goals
  first
  | (have B20:=Lh B8.out)
  | (have B20:=Lh B9.out)
  go_wp2_with (go_at_call 54;refine (HN.out G _ (HA.out.below B20.out)).mono ?_;rintro e w21 ⟨rfl,hl⟩;have HL:=Lh (hl HOK.out);clear hl)
  go_ret
  exact ⟨rfl,HL.out.ahead (fun k hk=>(z0j b).lt HA.out k hk) B20.out⟩
theorem rr_skip (b:Nat) (G:Nat→Prop) (w:World) (r:Rf) (h:RR b G w r) :
  Calls Tryz.prog 20 #[.pointer (some ⟨b,0,none⟩)] w fun e w'=>e=.returned (.bool r.mays)∧Leaves (RR b) G w w' r.skip:=by
 unfold Rf.skip
 by_cases h2:r.at_=2
 ·cases hh:hasB (unitsR r.qL) r.unit with
  | true =>
   have hm:r.mays=false:=by unfold Rf.mays;rw [show decide (r.unit ∈ unitsR r.qL)=true from hh];simp
   rw [hm,if_neg Bool.noConfusion]
   exact rr_skip_stands b G w r h h2 hh
  | false =>
   have hm:r.mays=true:=by unfold Rf.mays;rw [show decide (r.unit ∈ unitsR r.qL)=false from hh,decide_eq_true h2];rfl
   rw [hm,if_pos rfl]
   exact rr_skip_goes b G w r h h2 hh
 ·have hm:r.mays=false:=by unfold Rf.mays;rw [decide_eq_false h2];rfl
  rw [hm,if_neg Bool.noConfusion]
  exact rr_skip_no b G w r h h2
theorem rh_no (b:Nat) (G:Nat→Prop) (w:World) (r:Rf) (xc xn:Int) (xd:ByteArray) (xe:Int) (xL:List (List Int)) (xm xs xy:Int) (xo:Option Addr) (xp:Nat) (h:RR b G w r) :
  Calls Tryz.prog 22 #[.pointer (some ⟨b,0,none⟩),.agg #[.int .i64 xc,.int .i64 xn,.string xd,.int .i64 xe,.slice xo xL.length xp,.int .i64 xm,.int .i64 xs,.int .i64 xy],.bool false] w fun e w'=>e=.returned (.tuple #[])∧Leaves (RR b) G w w' (r):=by
 have hok:=h.ok
 have HG:=Lh (fun k hk=>(z0j b).lt h k hk)
 have HB:=Lh (z00 w (.cells #[.int .i64 xc,.int .i64 xn,.string xd,.int .i64 xe,.slice xo xL.length xp,.int .i64 xm,.int .i64 xs,.int .i64 xy] 49))
 have HX:=Lh (heap_alloc_new w (.cells #[.int .i64 xc,.int .i64 xn,.string xd,.int .i64 xe,.slice xo xL.length xp,.int .i64 xm,.int .i64 xs,.int .i64 xy] 49))
 have HA:=Lh (h.below HB.out)
 obtain ⟨⟨x0,x1,x2,x3,x4,x5,x6,x7⟩,_⟩:=z03 HX.out
 obtain ⟨a1,n1,a2,n2,bt,nt,h1,hcw,hnn,h3⟩:=HA.out.open
 obtain ⟨⟨c0,c1,c2,c3,c4,c5,c6,c7⟩,f0,f1,f2,f3,f4,f5,f6,f7⟩:=z03 h1
 have hb:=lt_of_block h1
 have H3:=Lh h3
 have H1:=Lh h1
 have HCW:=Lh hcw
 clear h h1 hcw hnn h3 H3
 by_cases h5:r.at_=5
 ·rw [h5] at c4
  go_enter Tryz.func22,Tryz.ntmps22
  go_wp2_with fail
  first | go_end0 | refine bodyPost_ret (results_none rfl _ _ _) rfl ?_
  exact ⟨rfl,(Leaves.same (z0j b) HA.out (Below.refl _ _)).ahead HG.out HB.out⟩
 ·have e5:(r.at_ == 5)=false:=by simpa using h5
  generalize r.at_=m at c4 e5
  go_enter Tryz.func22,Tryz.ntmps22
  go_wp2_with fail
  first | go_end0 | refine bodyPost_ret (results_none rfl _ _ _) rfl ?_
  exact ⟨rfl,(Leaves.same (z0j b) HA.out (Below.refl _ _)).ahead HG.out HB.out⟩
theorem rh_over (b:Nat) (G:Nat→Prop) (w:World) (r:Rf) (xc xn:Int) (xd:ByteArray) (xe:Int) (xL:List (List Int)) (xm xs xy:Int) (xo:Option Addr) (xp:Nat) (h:RR b G w r) (ha:r.at_=5) :
  Calls Tryz.prog 22 #[.pointer (some ⟨b,0,none⟩),.agg #[.int .i64 xc,.int .i64 xn,.string xd,.int .i64 xe,.slice xo xL.length xp,.int .i64 xm,.int .i64 xs,.int .i64 xy],.bool true] w fun e w'=>e=.returned (.tuple #[])∧Leaves (RR b) G w w' (r):=by
 have hok:=h.ok
 have HG:=Lh (fun k hk=>(z0j b).lt h k hk)
 have HB:=Lh (z00 w (.cells #[.int .i64 xc,.int .i64 xn,.string xd,.int .i64 xe,.slice xo xL.length xp,.int .i64 xm,.int .i64 xs,.int .i64 xy] 49))
 have HX:=Lh (heap_alloc_new w (.cells #[.int .i64 xc,.int .i64 xn,.string xd,.int .i64 xe,.slice xo xL.length xp,.int .i64 xm,.int .i64 xs,.int .i64 xy] 49))
 have HA:=Lh (h.below HB.out)
 obtain ⟨⟨x0,x1,x2,x3,x4,x5,x6,x7⟩,_⟩:=z03 HX.out
 obtain ⟨a1,n1,a2,n2,bt,nt,h1,hcw,hnn,h3⟩:=HA.out.open
 have h10:=h1
 rw [ha] at h1
 obtain ⟨⟨c0,c1,c2,c3,c4,c5,c6,c7⟩,f0,f1,f2,f3,f4,f5,f6,f7⟩:=z03 h1
 have hb:=lt_of_block h1
 have H3:=Lh h3
 have H1:=Lh h1
 have HCW:=Lh hcw
 clear h h1 hcw hnn h3
 go_enter Tryz.func22,Tryz.ntmps22
 go_wp2_with fail
 first | go_end0 | refine bodyPost_ret (results_none rfl _ _ _) rfl ?_
 exact ⟨rfl,(Leaves.same (z0j b) HA.out (Below.refl _ _)).ahead HG.out HB.out⟩
theorem rh_down (b:Nat) (G:Nat→Prop) (w:World) (r:Rf) (xc xn:Int) (xd:ByteArray) (xe:Int) (xL:List (List Int)) (xm xs xy:Int) (xo:Option Addr) (xp:Nat) (h:RR b G w r) (ha:¬ r.at_=5) :
  Calls Tryz.prog 22 #[.pointer (some ⟨b,0,none⟩),.agg #[.int .i64 45,.int .i64 xn,.string xd,.int .i64 xe,.slice xo xL.length xp,.int .i64 xm,.int .i64 xs,.int .i64 xy],.bool true] w fun e w'=>e=.returned (.tuple #[])∧Leaves (RR b) G w w' (r):=by
 have hok:=h.ok
 have HG:=Lh (fun k hk=>(z0j b).lt h k hk)
 have HB:=Lh (z00 w (.cells #[.int .i64 45,.int .i64 xn,.string xd,.int .i64 xe,.slice xo xL.length xp,.int .i64 xm,.int .i64 xs,.int .i64 xy] 49))
 have HX:=Lh (heap_alloc_new w (.cells #[.int .i64 45,.int .i64 xn,.string xd,.int .i64 xe,.slice xo xL.length xp,.int .i64 xm,.int .i64 xs,.int .i64 xy] 49))
 have HA:=Lh (h.below HB.out)
 obtain ⟨⟨x0,x1,x2,x3,x4,x5,x6,x7⟩,_⟩:=z03 HX.out
 obtain ⟨a1,n1,a2,n2,bt,nt,h1,hcw,hnn,h3⟩:=HA.out.open
 obtain ⟨⟨c0,c1,c2,c3,c4,c5,c6,c7⟩,f0,f1,f2,f3,f4,f5,f6,f7⟩:=z03 h1
 have hb:=lt_of_block h1
 have H3:=Lh h3
 have H1:=Lh h1
 have HCW:=Lh hcw
 have e5:(r.at_ == 5)=false:=by simpa using ha
 clear H3
 clear h h1 hcw hnn h3
 generalize r.at_=m at c4 e5
 go_enter Tryz.func22,Tryz.ntmps22
 go_wp2_with fail
 first | go_end0 | refine bodyPost_ret (results_none rfl _ _ _) rfl ?_
 exact ⟨rfl,(Leaves.same (z0j b) HA.out (Below.refl _ _)).ahead HG.out HB.out⟩
theorem rh_lay_err (b:Nat) (G:Nat→Prop) (w:World) (r:Rf) (xc xn:Int) (xd:ByteArray) (xe:Int) (xL:List (List Int)) (xm xs xy:Int) (xo:Option Addr) (xp:Nat) (h:RR b G w r) (ha:r.at_=1) (n45:¬ xc=45) (n0:¬ xc=0) :
  Calls Tryz.prog 22 #[.pointer (some ⟨b,0,none⟩),.agg #[.int .i64 xc,.int .i64 xn,.string xd,.int .i64 xe,.slice xo xL.length xp,.int .i64 xm,.int .i64 xs,.int .i64 xy],.bool true] w fun e w'=>e=.returned (.tuple #[])∧Leaves (RR b) G w w' (r.ends xc):=by
 have hok:=h.ok
 have HG:=Lh (fun k hk=>(z0j b).lt h k hk)
 have HB:=Lh (z00 w (.cells #[.int .i64 xc,.int .i64 xn,.string xd,.int .i64 xe,.slice xo xL.length xp,.int .i64 xm,.int .i64 xs,.int .i64 xy] 49))
 have HX:=Lh (heap_alloc_new w (.cells #[.int .i64 xc,.int .i64 xn,.string xd,.int .i64 xe,.slice xo xL.length xp,.int .i64 xm,.int .i64 xs,.int .i64 xy] 49))
 have HA:=Lh (h.below HB.out)
 obtain ⟨⟨x0,x1,x2,x3,x4,x5,x6,x7⟩,_⟩:=z03 HX.out
 obtain ⟨a1,n1,a2,n2,bt,nt,h1,hcw,hnn,h3⟩:=HA.out.open
 have h10:=h1
 rw [ha] at h1
 obtain ⟨⟨c0,c1,c2,c3,c4,c5,c6,c7⟩,f0,f1,f2,f3,f4,f5,f6,f7⟩:=z03 h1
 have hb:=lt_of_block h1
 have H3:=Lh h3
 have H1:=Lh h1
 have HCW:=Lh hcw
 have e45:(xc == 45)=false:=by simpa using n45
 have d45:(xc != 45)=true:=by simpa using n45
 have e0:(xc == 0)=false:=by simpa using n0
 have d0:(xc != 0)=true:=by simpa using n0
 clear h h1 hcw hnn h3
 go_enter Tryz.func22,Tryz.ntmps22
 go_wp2_with fail
 generalize w.alloc _=w1 at *
 go_wp2_with (go_at_call 47;refine (rr_end b _ _ r xc (HA.out)).mono ?_;rintro e w9 ⟨rfl,hl⟩;have HL:=Lh hl;clear hl)
 first | go_end0 | refine bodyPost_ret (results_none rfl _ _ _) rfl ?_
 exact ⟨rfl,HL.out.ahead HG.out HB.out⟩
theorem rh_seal_err (b:Nat) (G:Nat→Prop) (w:World) (r:Rf) (xc xn:Int) (xd:ByteArray) (xe:Int) (xL:List (List Int)) (xm xs xy:Int) (xo:Option Addr) (xp:Nat) (h:RR b G w r) (ha:r.at_=2) (n45:¬ xc=45) (n0:¬ xc=0) :
  Calls Tryz.prog 22 #[.pointer (some ⟨b,0,none⟩),.agg #[.int .i64 xc,.int .i64 xn,.string xd,.int .i64 xe,.slice xo xL.length xp,.int .i64 xm,.int .i64 xs,.int .i64 xy],.bool true] w fun e w'=>e=.returned (.tuple #[])∧Leaves (RR b) G w w' (r.ends xc):=by
 have hok:=h.ok
 have HG:=Lh (fun k hk=>(z0j b).lt h k hk)
 have HB:=Lh (z00 w (.cells #[.int .i64 xc,.int .i64 xn,.string xd,.int .i64 xe,.slice xo xL.length xp,.int .i64 xm,.int .i64 xs,.int .i64 xy] 49))
 have HX:=Lh (heap_alloc_new w (.cells #[.int .i64 xc,.int .i64 xn,.string xd,.int .i64 xe,.slice xo xL.length xp,.int .i64 xm,.int .i64 xs,.int .i64 xy] 49))
 have HA:=Lh (h.below HB.out)
 obtain ⟨⟨x0,x1,x2,x3,x4,x5,x6,x7⟩,_⟩:=z03 HX.out
 obtain ⟨a1,n1,a2,n2,bt,nt,h1,hcw,hnn,h3⟩:=HA.out.open
 have h10:=h1
 rw [ha] at h1
 obtain ⟨⟨c0,c1,c2,c3,c4,c5,c6,c7⟩,f0,f1,f2,f3,f4,f5,f6,f7⟩:=z03 h1
 have hb:=lt_of_block h1
 have H3:=Lh h3
 have H1:=Lh h1
 have HCW:=Lh hcw
 have e45:(xc == 45)=false:=by simpa using n45
 have d45:(xc != 45)=true:=by simpa using n45
 have e0:(xc == 0)=false:=by simpa using n0
 have d0:(xc != 0)=true:=by simpa using n0
 clear h h1 hcw hnn h3
 go_enter Tryz.func22,Tryz.ntmps22
 go_wp2_with fail
 generalize w.alloc _=w1 at *
 go_wp2_with (go_at_call 47;refine (rr_end b _ _ r xc (HA.out)).mono ?_;rintro e w9 ⟨rfl,hl⟩;have HL:=Lh hl;clear hl)
 first | go_end0 | refine bodyPost_ret (results_none rfl _ _ _) rfl ?_
 exact ⟨rfl,HL.out.ahead HG.out HB.out⟩
theorem rh_chg_err (b:Nat) (G:Nat→Prop) (w:World) (r:Rf) (xc xn:Int) (xd:ByteArray) (xe:Int) (xL:List (List Int)) (xm xs xy:Int) (xo:Option Addr) (xp:Nat) (h:RR b G w r) (ha:r.at_=3) (n45:¬ xc=45) (n0:¬ xc=0) (n48:¬ xc=48) :
  Calls Tryz.prog 22 #[.pointer (some ⟨b,0,none⟩),.agg #[.int .i64 xc,.int .i64 xn,.string xd,.int .i64 xe,.slice xo xL.length xp,.int .i64 xm,.int .i64 xs,.int .i64 xy],.bool true] w fun e w'=>e=.returned (.tuple #[])∧Leaves (RR b) G w w' (r.ends xc):=by
 have hok:=h.ok
 have HG:=Lh (fun k hk=>(z0j b).lt h k hk)
 have HB:=Lh (z00 w (.cells #[.int .i64 xc,.int .i64 xn,.string xd,.int .i64 xe,.slice xo xL.length xp,.int .i64 xm,.int .i64 xs,.int .i64 xy] 49))
 have HX:=Lh (heap_alloc_new w (.cells #[.int .i64 xc,.int .i64 xn,.string xd,.int .i64 xe,.slice xo xL.length xp,.int .i64 xm,.int .i64 xs,.int .i64 xy] 49))
 have HA:=Lh (h.below HB.out)
 obtain ⟨⟨x0,x1,x2,x3,x4,x5,x6,x7⟩,_⟩:=z03 HX.out
 obtain ⟨a1,n1,a2,n2,bt,nt,h1,hcw,hnn,h3⟩:=HA.out.open
 have h10:=h1
 rw [ha] at h1
 obtain ⟨⟨c0,c1,c2,c3,c4,c5,c6,c7⟩,f0,f1,f2,f3,f4,f5,f6,f7⟩:=z03 h1
 have hb:=lt_of_block h1
 have H3:=Lh h3
 have H1:=Lh h1
 have HCW:=Lh hcw
 have e45:(xc == 45)=false:=by simpa using n45
 have d45:(xc != 45)=true:=by simpa using n45
 have e0:(xc == 0)=false:=by simpa using n0
 have d0:(xc != 0)=true:=by simpa using n0
 have e48:(xc == 48)=false:=by simpa using n48
 have d48:(xc != 48)=true:=by simpa using n48
 clear h h1 hcw hnn h3
 go_enter Tryz.func22,Tryz.ntmps22
 go_wp2_with fail
 generalize w.alloc _=w1 at *
 go_quiet (fail)
 go_wp2_with (go_at_call 47;refine (rr_end b _ _ r xc (HA.out.below (below_drewN (Below.refl _ _) nq))).mono ?_;rintro e w9 ⟨rfl,hl⟩;have HL:=Lh hl;clear hl)
 first | go_end0 | refine bodyPost_ret (results_none rfl _ _ _) rfl ?_
 exact ⟨rfl,HL.out.ahead HG.out (below_drewN HB.out nq)⟩
theorem rh_start_err (b:Nat) (G:Nat→Prop) (w:World) (r:Rf) (xc xn:Int) (xd:ByteArray) (xe:Int) (xL:List (List Int)) (xm xs xy:Int) (xo:Option Addr) (xp:Nat) (h:RR b G w r) (ha:r.at_=4) (n45:¬ xc=45) (n0:¬ xc=0) (n40:¬ xc=40) :
  Calls Tryz.prog 22 #[.pointer (some ⟨b,0,none⟩),.agg #[.int .i64 xc,.int .i64 xn,.string xd,.int .i64 xe,.slice xo xL.length xp,.int .i64 xm,.int .i64 xs,.int .i64 xy],.bool true] w fun e w'=>e=.returned (.tuple #[])∧Leaves (RR b) G w w' (r.ends xc):=by
 have hok:=h.ok
 have HG:=Lh (fun k hk=>(z0j b).lt h k hk)
 have HB:=Lh (z00 w (.cells #[.int .i64 xc,.int .i64 xn,.string xd,.int .i64 xe,.slice xo xL.length xp,.int .i64 xm,.int .i64 xs,.int .i64 xy] 49))
 have HX:=Lh (heap_alloc_new w (.cells #[.int .i64 xc,.int .i64 xn,.string xd,.int .i64 xe,.slice xo xL.length xp,.int .i64 xm,.int .i64 xs,.int .i64 xy] 49))
 have HA:=Lh (h.below HB.out)
 obtain ⟨⟨x0,x1,x2,x3,x4,x5,x6,x7⟩,_⟩:=z03 HX.out
 obtain ⟨a1,n1,a2,n2,bt,nt,h1,hcw,hnn,h3⟩:=HA.out.open
 have h10:=h1
 rw [ha] at h1
 obtain ⟨⟨c0,c1,c2,c3,c4,c5,c6,c7⟩,f0,f1,f2,f3,f4,f5,f6,f7⟩:=z03 h1
 have hb:=lt_of_block h1
 have H3:=Lh h3
 have H1:=Lh h1
 have HCW:=Lh hcw
 have e45:(xc == 45)=false:=by simpa using n45
 have d45:(xc != 45)=true:=by simpa using n45
 have e0:(xc == 0)=false:=by simpa using n0
 have d0:(xc != 0)=true:=by simpa using n0
 have e40:(xc == 40)=false:=by simpa using n40
 have d40:(xc != 40)=true:=by simpa using n40
 clear h h1 hcw hnn h3
 go_enter Tryz.func22,Tryz.ntmps22
 go_wp2_with fail
 generalize w.alloc _=w1 at *
 go_quiet (fail)
 go_wp2_with (go_at_call 47;refine (rr_end b _ _ r xc (HA.out.below (below_drewN (Below.refl _ _) nq))).mono ?_;rintro e w9 ⟨rfl,hl⟩;have HL:=Lh hl;clear hl)
 first | go_end0 | refine bodyPost_ret (results_none rfl _ _ _) rfl ?_
 exact ⟨rfl,HL.out.ahead HG.out (below_drewN HB.out nq)⟩
theorem rh_start_ok (b:Nat) (G:Nat→Prop) (w:World) (r:Rf) (xc xn:Int) (xd:ByteArray) (xe:Int) (xL:List (List Int)) (xm xs xy:Int) (xo:Option Addr) (xp:Nat) (h:RR b G w r) (ha:r.at_=4) :
  Calls Tryz.prog 22 #[.pointer (some ⟨b,0,none⟩),.agg #[.int .i64 0,.int .i64 xn,.string xd,.int .i64 xe,.slice xo xL.length xp,.int .i64 xm,.int .i64 xs,.int .i64 xy],.bool true] w fun e w'=>e=.returned (.tuple #[])∧Leaves (RR b) G w w' (r.ends 0):=by
 have hok:=h.ok
 have HG:=Lh (fun k hk=>(z0j b).lt h k hk)
 have HB:=Lh (z00 w (.cells #[.int .i64 0,.int .i64 xn,.string xd,.int .i64 xe,.slice xo xL.length xp,.int .i64 xm,.int .i64 xs,.int .i64 xy] 49))
 have HX:=Lh (heap_alloc_new w (.cells #[.int .i64 0,.int .i64 xn,.string xd,.int .i64 xe,.slice xo xL.length xp,.int .i64 xm,.int .i64 xs,.int .i64 xy] 49))
 have HA:=Lh (h.below HB.out)
 obtain ⟨⟨x0,x1,x2,x3,x4,x5,x6,x7⟩,_⟩:=z03 HX.out
 obtain ⟨a1,n1,a2,n2,bt,nt,h1,hcw,hnn,h3⟩:=HA.out.open
 have h10:=h1
 rw [ha] at h1
 obtain ⟨⟨c0,c1,c2,c3,c4,c5,c6,c7⟩,f0,f1,f2,f3,f4,f5,f6,f7⟩:=z03 h1
 have hb:=lt_of_block h1
 have H3:=Lh h3
 have H1:=Lh h1
 have HCW:=Lh hcw
 clear h h1 hcw hnn h3
 go_enter Tryz.func22,Tryz.ntmps22
 go_wp2_with fail
 generalize w.alloc _=w1 at *
 go_quiet (fail)
 go_wp2_with (go_at_call 47;refine (rr_end b _ _ r 0 (HA.out.below (below_drewN (Below.refl _ _) nq))).mono ?_;rintro e w9 ⟨rfl,hl⟩;have HL:=Lh hl;clear hl)
 first | go_end0 | refine bodyPost_ret (results_none rfl _ _ _) rfl ?_
 exact ⟨rfl,HL.out.ahead HG.out (below_drewN HB.out nq)⟩
theorem rh_start_same (b:Nat) (G:Nat→Prop) (w:World) (r:Rf) (xc xn:Int) (xd:ByteArray) (xe:Int) (xL:List (List Int)) (xm xs xy:Int) (xo:Option Addr) (xp:Nat) (h:RR b G w r) (ha:r.at_=4) (he:xy=r.qe) :
  Calls Tryz.prog 22 #[.pointer (some ⟨b,0,none⟩),.agg #[.int .i64 40,.int .i64 xn,.string xd,.int .i64 xe,.slice xo xL.length xp,.int .i64 xm,.int .i64 xs,.int .i64 xy],.bool true] w fun e w'=>e=.returned (.tuple #[])∧Leaves (RR b) G w w' (r.ends 0):=by
 subst he
 have hok:=h.ok
 have HG:=Lh (fun k hk=>(z0j b).lt h k hk)
 have HB:=Lh (z00 w (.cells #[.int .i64 40,.int .i64 xn,.string xd,.int .i64 xe,.slice xo xL.length xp,.int .i64 xm,.int .i64 xs,.int .i64 r.qe] 49))
 have HX:=Lh (heap_alloc_new w (.cells #[.int .i64 40,.int .i64 xn,.string xd,.int .i64 xe,.slice xo xL.length xp,.int .i64 xm,.int .i64 xs,.int .i64 r.qe] 49))
 have HA:=Lh (h.below HB.out)
 obtain ⟨⟨x0,x1,x2,x3,x4,x5,x6,x7⟩,_⟩:=z03 HX.out
 obtain ⟨a1,n1,a2,n2,bt,nt,h1,hcw,hnn,h3⟩:=HA.out.open
 have h10:=h1
 rw [ha] at h1
 obtain ⟨⟨c0,c1,c2,c3,c4,c5,c6,c7⟩,f0,f1,f2,f3,f4,f5,f6,f7⟩:=z03 h1
 have hb:=lt_of_block h1
 have H3:=Lh h3
 have H1:=Lh h1
 have HCW:=Lh hcw
 clear h h1 hcw hnn h3
 go_enter Tryz.func22,Tryz.ntmps22
 go_wp2_with fail
 generalize w.alloc _=w1 at *
 go_quiet (fail)
 go_wp2_with (go_at_call 47;refine (rr_end b _ _ r 0 (HA.out.below (below_drewN (Below.refl _ _) nq))).mono ?_;rintro e w9 ⟨rfl,hl⟩;have HL:=Lh hl;clear hl)
 first | go_end0 | refine bodyPost_ret (results_none rfl _ _ _) rfl ?_
 exact ⟨rfl,HL.out.ahead HG.out (below_drewN HB.out nq)⟩
theorem rh_start_not (b:Nat) (G:Nat→Prop) (w:World) (r:Rf) (xc xn:Int) (xd:ByteArray) (xe:Int) (xL:List (List Int)) (xm xs xy:Int) (xo:Option Addr) (xp:Nat) (h:RR b G w r) (ha:r.at_=4) (he:¬ xy=r.qe) :
  Calls Tryz.prog 22 #[.pointer (some ⟨b,0,none⟩),.agg #[.int .i64 40,.int .i64 xn,.string xd,.int .i64 xe,.slice xo xL.length xp,.int .i64 xm,.int .i64 xs,.int .i64 xy],.bool true] w fun e w'=>e=.returned (.tuple #[])∧Leaves (RR b) G w w' (r.ends 40):=by
 have hok:=h.ok
 have HG:=Lh (fun k hk=>(z0j b).lt h k hk)
 have HB:=Lh (z00 w (.cells #[.int .i64 40,.int .i64 xn,.string xd,.int .i64 xe,.slice xo xL.length xp,.int .i64 xm,.int .i64 xs,.int .i64 xy] 49))
 have HX:=Lh (heap_alloc_new w (.cells #[.int .i64 40,.int .i64 xn,.string xd,.int .i64 xe,.slice xo xL.length xp,.int .i64 xm,.int .i64 xs,.int .i64 xy] 49))
 have HA:=Lh (h.below HB.out)
 obtain ⟨⟨x0,x1,x2,x3,x4,x5,x6,x7⟩,_⟩:=z03 HX.out
 obtain ⟨a1,n1,a2,n2,bt,nt,h1,hcw,hnn,h3⟩:=HA.out.open
 have h10:=h1
 rw [ha] at h1
 obtain ⟨⟨c0,c1,c2,c3,c4,c5,c6,c7⟩,f0,f1,f2,f3,f4,f5,f6,f7⟩:=z03 h1
 have hb:=lt_of_block h1
 have H3:=Lh h3
 have H1:=Lh h1
 have HCW:=Lh hcw
 have e9:(xy == r.qe)=false:=by simpa using he
 clear h h1 hcw hnn h3
 go_enter Tryz.func22,Tryz.ntmps22
 go_wp2_with fail
 generalize w.alloc _=w1 at *
 go_quiet (fail)
 go_wp2_with (go_at_call 47;refine (rr_end b _ _ r 40 (HA.out.below (below_drewN (Below.refl _ _) nq))).mono ?_;rintro e w9 ⟨rfl,hl⟩;have HL:=Lh hl;clear hl)
 first | go_end0 | refine bodyPost_ret (results_none rfl _ _ _) rfl ?_
 exact ⟨rfl,HL.out.ahead HG.out (below_drewN HB.out nq)⟩
theorem rh_chg_ok (b:Nat) (G:Nat→Prop) (w:World) (r:Rf) (xc xn:Int) (xd:ByteArray) (xe:Int) (xL:List (List Int)) (xm xs xy:Int) (xo:Option Addr) (xp:Nat) (h:RR b G w r) (ha:r.at_=3) :
  Calls Tryz.prog 22 #[.pointer (some ⟨b,0,none⟩),.agg #[.int .i64 0,.int .i64 xn,.string xd,.int .i64 xe,.slice xo xL.length xp,.int .i64 xm,.int .i64 xs,.int .i64 xy],.bool true] w fun e w'=>e=.returned (.tuple #[])∧Leaves (RR b) G w w' (r.to 4):=by
 have hok:=h.ok
 have HG:=Lh (fun k hk=>(z0j b).lt h k hk)
 have HB:=Lh (z00 w (.cells #[.int .i64 0,.int .i64 xn,.string xd,.int .i64 xe,.slice xo xL.length xp,.int .i64 xm,.int .i64 xs,.int .i64 xy] 49))
 have HX:=Lh (heap_alloc_new w (.cells #[.int .i64 0,.int .i64 xn,.string xd,.int .i64 xe,.slice xo xL.length xp,.int .i64 xm,.int .i64 xs,.int .i64 xy] 49))
 have HA:=Lh (h.below HB.out)
 obtain ⟨⟨x0,x1,x2,x3,x4,x5,x6,x7⟩,_⟩:=z03 HX.out
 obtain ⟨a1,n1,a2,n2,bt,nt,h1,hcw,hnn,h3⟩:=HA.out.open
 have h10:=h1
 rw [ha] at h1
 obtain ⟨⟨c0,c1,c2,c3,c4,c5,c6,c7⟩,f0,f1,f2,f3,f4,f5,f6,f7⟩:=z03 h1
 have hb:=lt_of_block h1
 have H3:=Lh h3
 have H1:=Lh h1
 have HCW:=Lh hcw
 have HTO:=Lh (show RfOk (r.to 4) from ⟨⟨(by decide:(1:Int)≤4),(by decide:(4:Int)≤5)⟩,hok.qf,hok.of_,fun g=>absurd g (by decide:¬ (4:Int)=2),hok.few,hok.tl,hok.i16,fun g=>absurd g (by decide:¬ (4:Int)=1)⟩)
 clear h h1 hcw hnn h3
 go_enter Tryz.func22,Tryz.ntmps22
 go_wp2_with fail
 generalize w.alloc _=w1 at *
 go_quiet (fail)
 go_wp2_with fail
 first | go_end0 | refine bodyPost_ret (results_none rfl _ _ _) rfl ?_
 exact ⟨rfl,(H3.out _ (r.to 4) ((Kept.ofBelow (below_drewN (Below.refl _ _) nq) _).setCell (p:=⟨b,4,none⟩) (fun h=>h rfl) _) HTO.out rfl rfl rfl (z0x (show (World.drewN w1 nq).heap[b]?=_ from H1.out) _)).ahead HG.out HB.out⟩
theorem rh_chg_same (b:Nat) (G:Nat→Prop) (w:World) (r:Rf) (xc xn:Int) (xd:ByteArray) (xe:Int) (xL:List (List Int)) (xm xs xy:Int) (xo:Option Addr) (xp:Nat) (h:RR b G w r) (ha:r.at_=3) (hs:sameP xe xL r.qe r.qL=true) (hf:fewL xL) (hx:CL w xo xL) :
  Calls Tryz.prog 22 #[.pointer (some ⟨b,0,none⟩),.agg #[.int .i64 48,.int .i64 xn,.string xd,.int .i64 xe,.slice xo xL.length xp,.int .i64 xm,.int .i64 xs,.int .i64 xy],.bool true] w fun e w'=>e=.returned (.tuple #[])∧Leaves (RR b) G w w' (r.to 4):=by
 have hok:=h.ok
 have HG:=Lh (fun k hk=>(z0j b).lt h k hk)
 have HB:=Lh (z00 w (.cells #[.int .i64 48,.int .i64 xn,.string xd,.int .i64 xe,.slice xo xL.length xp,.int .i64 xm,.int .i64 xs,.int .i64 xy] 49))
 have HX:=Lh (heap_alloc_new w (.cells #[.int .i64 48,.int .i64 xn,.string xd,.int .i64 xe,.slice xo xL.length xp,.int .i64 xm,.int .i64 xs,.int .i64 xy] 49))
 have HA:=Lh (h.below HB.out)
 obtain ⟨⟨x0,x1,x2,x3,x4,x5,x6,x7⟩,_⟩:=z03 HX.out
 obtain ⟨a1,n1,a2,n2,bt,nt,h1,hcw,hnn,h3⟩:=HA.out.open
 have h10:=h1
 rw [ha] at h1
 obtain ⟨⟨c0,c1,c2,c3,c4,c5,c6,c7⟩,f0,f1,f2,f3,f4,f5,f6,f7⟩:=z03 h1
 have hb:=lt_of_block h1
 have H3:=Lh h3
 have H1:=Lh h1
 have HCW:=Lh hcw
 have HTO:=Lh (show RfOk (r.to 4) from ⟨⟨(by decide:(1:Int)≤4),(by decide:(4:Int)≤5)⟩,hok.qf,hok.of_,fun g=>absurd g (by decide:¬ (4:Int)=2),hok.few,hok.tl,hok.i16,fun g=>absurd g (by decide:¬ (4:Int)=1)⟩)
 have CK:=Lh (fun W (hC:CL W xo xL) (hQ:CL W a1 r.qL)=>z20 xe xo xp xL r.qe a1 n1 r.qL W hC hQ ⟨Nat.le_trans hf.1 (by decide),fun c h=>Nat.le_trans (hf.2 c h) (by decide)⟩ ⟨Nat.le_trans hok.qf.1 (by decide),fun c h=>Nat.le_trans (hok.qf.2 c h) (by decide)⟩)
 rw [hs] at CK
 have HC:=Lh (hx.below HB.out)
 clear h h1 hcw hnn h3
 go_enter Tryz.func22,Tryz.ntmps22
 go_wp2_with fail
 generalize w.alloc _=w1 at *
 have S1d:=Lh (show w1.drew.cell? ⟨w.heap.size,0,none⟩=some (.int .i64 48)∧w1.drew.cell? ⟨w.heap.size,3,none⟩=some (.int .i64 xe)∧w1.drew.cell? ⟨w.heap.size,4,none⟩=some (.slice xo xL.length xp)∧w1.drew.cell? ⟨b,0,none⟩=some (.int .i64 r.qe)∧w1.drew.cell? ⟨b,1,none⟩=some (.slice a1 r.qL.length n1) from ⟨x0,x3,x4,c0,c1⟩)
 go_region_held3 (fun W=>W.cell? ⟨w.heap.size,0,none⟩=some (.int .i64 48)∧W.cell? ⟨w.heap.size,3,none⟩=some (.int .i64 xe)∧W.cell? ⟨w.heap.size,4,none⟩=some (.slice xo xL.length xp)∧W.cell? ⟨b,0,none⟩=some (.int .i64 r.qe)∧W.cell? ⟨b,1,none⟩=some (.slice a1 r.qL.length n1))
  (first | with_reducible exact S1d.out | with_reducible exact S6.out | assumption)
  (first | (go_at_call 34;refine (CK.out _ (HC.out.below (Below.refl _ _).drew) (HCW.out _ (Kept.refl _ _).drew).1).mono ?_;rintro e w6 ⟨rfl,hb6⟩;have B6:=Lh (z0c (w1:=w1) hb6 (Below.refl _ _).drew);have H6:=Lh (z01 B6.out H1.out);have X6:=Lh (z01 B6.out HX.out);have S6:=Lh (show w6.cell? ⟨w.heap.size,0,none⟩=some (.int .i64 48)∧w6.cell? ⟨w.heap.size,3,none⟩=some (.int .i64 xe)∧w6.cell? ⟨w.heap.size,4,none⟩=some (.slice xo xL.length xp)∧w6.cell? ⟨b,0,none⟩=some (.int .i64 r.qe)∧w6.cell? ⟨b,1,none⟩=some (.slice a1 r.qL.length n1) from ⟨z02 X6.out 0,z02 X6.out 3,z02 X6.out 4,z02 H6.out 0,z02 H6.out 1⟩);clear hb6))
 all_goals
  clear c0 c1 c2 c3 c4 c5 c6 c7 f0 f1 f2 f3 f4 f5 f6 f7
  obtain ⟨⟨c0,c1,c2,c3,c4,c5,c6,c7⟩,f0,f1,f2,f3,f4,f5,f6,f7⟩:=z03 H6.out
  obtain ⟨⟨y0,y1,y2,y3,y4,y5,y6,y7⟩,_⟩:=z03 X6.out
  have hb:=lt_of_block H6.out
  go_wp2_with fail
  first | go_end0 | refine bodyPost_ret (results_none rfl _ _ _) rfl ?_
  exact ⟨rfl,(H3.out _ (r.to 4) ((Kept.ofBelow B6.out _).setCell (p:=⟨b,4,none⟩) (fun h=>h rfl) _) HTO.out rfl rfl rfl (z0x H6.out _)).ahead HG.out HB.out⟩
theorem rh_chg_not (b:Nat) (G:Nat→Prop) (w:World) (r:Rf) (xc xn:Int) (xd:ByteArray) (xe:Int) (xL:List (List Int)) (xm xs xy:Int) (xo:Option Addr) (xp:Nat) (h:RR b G w r) (ha:r.at_=3) (hs:sameP xe xL r.qe r.qL=false) (hf:fewL xL) (hx:CL w xo xL) :
  Calls Tryz.prog 22 #[.pointer (some ⟨b,0,none⟩),.agg #[.int .i64 48,.int .i64 xn,.string xd,.int .i64 xe,.slice xo xL.length xp,.int .i64 xm,.int .i64 xs,.int .i64 xy],.bool true] w fun e w'=>e=.returned (.tuple #[])∧Leaves (RR b) G w w' (r.ends 48):=by
 have hok:=h.ok
 have HG:=Lh (fun k hk=>(z0j b).lt h k hk)
 have HB:=Lh (z00 w (.cells #[.int .i64 48,.int .i64 xn,.string xd,.int .i64 xe,.slice xo xL.length xp,.int .i64 xm,.int .i64 xs,.int .i64 xy] 49))
 have HX:=Lh (heap_alloc_new w (.cells #[.int .i64 48,.int .i64 xn,.string xd,.int .i64 xe,.slice xo xL.length xp,.int .i64 xm,.int .i64 xs,.int .i64 xy] 49))
 have HA:=Lh (h.below HB.out)
 obtain ⟨⟨x0,x1,x2,x3,x4,x5,x6,x7⟩,_⟩:=z03 HX.out
 obtain ⟨a1,n1,a2,n2,bt,nt,h1,hcw,hnn,h3⟩:=HA.out.open
 have h10:=h1
 rw [ha] at h1
 obtain ⟨⟨c0,c1,c2,c3,c4,c5,c6,c7⟩,f0,f1,f2,f3,f4,f5,f6,f7⟩:=z03 h1
 have hb:=lt_of_block h1
 have H3:=Lh h3
 have H1:=Lh h1
 have HCW:=Lh hcw
 have CK:=Lh (fun W (hC:CL W xo xL) (hQ:CL W a1 r.qL)=>z20 xe xo xp xL r.qe a1 n1 r.qL W hC hQ ⟨Nat.le_trans hf.1 (by decide),fun c h=>Nat.le_trans (hf.2 c h) (by decide)⟩ ⟨Nat.le_trans hok.qf.1 (by decide),fun c h=>Nat.le_trans (hok.qf.2 c h) (by decide)⟩)
 rw [hs] at CK
 have HC:=Lh (hx.below HB.out)
 clear h h1 hcw hnn h3
 go_enter Tryz.func22,Tryz.ntmps22
 go_wp2_with fail
 generalize w.alloc _=w1 at *
 have S1d:=Lh (show w1.drew.cell? ⟨w.heap.size,0,none⟩=some (.int .i64 48)∧w1.drew.cell? ⟨w.heap.size,3,none⟩=some (.int .i64 xe)∧w1.drew.cell? ⟨w.heap.size,4,none⟩=some (.slice xo xL.length xp)∧w1.drew.cell? ⟨b,0,none⟩=some (.int .i64 r.qe)∧w1.drew.cell? ⟨b,1,none⟩=some (.slice a1 r.qL.length n1) from ⟨x0,x3,x4,c0,c1⟩)
 go_region_held3 (fun W=>W.cell? ⟨w.heap.size,0,none⟩=some (.int .i64 48)∧W.cell? ⟨w.heap.size,3,none⟩=some (.int .i64 xe)∧W.cell? ⟨w.heap.size,4,none⟩=some (.slice xo xL.length xp)∧W.cell? ⟨b,0,none⟩=some (.int .i64 r.qe)∧W.cell? ⟨b,1,none⟩=some (.slice a1 r.qL.length n1))
  (first | with_reducible exact S1d.out | with_reducible exact S6.out | assumption)
  (first | (go_at_call 34;refine (CK.out _ (HC.out.below (Below.refl _ _).drew) (HCW.out _ (Kept.refl _ _).drew).1).mono ?_;rintro e w6 ⟨rfl,hb6⟩;have B6:=Lh (z0c (w1:=w1) hb6 (Below.refl _ _).drew);have H6:=Lh (z01 B6.out H1.out);have X6:=Lh (z01 B6.out HX.out);have S6:=Lh (show w6.cell? ⟨w.heap.size,0,none⟩=some (.int .i64 48)∧w6.cell? ⟨w.heap.size,3,none⟩=some (.int .i64 xe)∧w6.cell? ⟨w.heap.size,4,none⟩=some (.slice xo xL.length xp)∧w6.cell? ⟨b,0,none⟩=some (.int .i64 r.qe)∧w6.cell? ⟨b,1,none⟩=some (.slice a1 r.qL.length n1) from ⟨z02 X6.out 0,z02 X6.out 3,z02 X6.out 4,z02 H6.out 0,z02 H6.out 1⟩);clear hb6))
 all_goals
  clear c0 c1 c2 c3 c4 c5 c6 c7 f0 f1 f2 f3 f4 f5 f6 f7
  obtain ⟨⟨c0,c1,c2,c3,c4,c5,c6,c7⟩,f0,f1,f2,f3,f4,f5,f6,f7⟩:=z03 H6.out
  obtain ⟨⟨y0,y1,y2,y3,y4,y5,y6,y7⟩,_⟩:=z03 X6.out
  have hb:=lt_of_block H6.out
  go_wp2_with (go_at_call 47;refine (rr_end b _ _ r 48 (HA.out.below B6.out)).mono ?_;rintro e w9 ⟨rfl,hl⟩;have HL:=Lh hl;clear hl)
  first | go_end0 | refine bodyPost_ret (results_none rfl _ _ _) rfl ?_
  exact ⟨rfl,HL.out.ahead HG.out (HB.out.trans (B6.out.mono HB.out.size))⟩
theorem rh_lay_no (b:Nat) (G:Nat→Prop) (w:World) (r:Rf) (xc xn:Int) (xd:ByteArray) (xe:Int) (xL:List (List Int)) (xm xs xy:Int) (xo:Option Addr) (xp:Nat) (h:RR b G w r) (ha:r.at_=1) (hs:nextB xe xL r.qe r.qL=false) (hf:fewL xL) (hx:CL w xo xL) :
  Calls Tryz.prog 22 #[.pointer (some ⟨b,0,none⟩),.agg #[.int .i64 0,.int .i64 xn,.string xd,.int .i64 xe,.slice xo xL.length xp,.int .i64 xm,.int .i64 xs,.int .i64 xy],.bool true] w fun e w'=>e=.returned (.tuple #[])∧Leaves (RR b) G w w' (r.ends 48):=by
 have hok:=h.ok
 have HG:=Lh (fun k hk=>(z0j b).lt h k hk)
 have HB:=Lh (z00 w (.cells #[.int .i64 0,.int .i64 xn,.string xd,.int .i64 xe,.slice xo xL.length xp,.int .i64 xm,.int .i64 xs,.int .i64 xy] 49))
 have HX:=Lh (heap_alloc_new w (.cells #[.int .i64 0,.int .i64 xn,.string xd,.int .i64 xe,.slice xo xL.length xp,.int .i64 xm,.int .i64 xs,.int .i64 xy] 49))
 have HA:=Lh (h.below HB.out)
 obtain ⟨⟨x0,x1,x2,x3,x4,x5,x6,x7⟩,_⟩:=z03 HX.out
 obtain ⟨a1,n1,a2,n2,bt,nt,h1,hcw,hnn,h3⟩:=HA.out.open
 have h10:=h1
 rw [ha] at h1
 obtain ⟨⟨c0,c1,c2,c3,c4,c5,c6,c7⟩,f0,f1,f2,f3,f4,f5,f6,f7⟩:=z03 h1
 have hb:=lt_of_block h1
 have H3:=Lh h3
 have H1:=Lh h1
 have HCW:=Lh hcw
 have CK:=Lh (fun W (hC:CL W xo xL) (hQ:CL W a1 r.qL)=>rnext_any xe xo xp xL r.qe a1 n1 r.qL W hC hQ hf hok.qf)
 rw [hs] at CK
 have HC:=Lh (hx.below HB.out)
 clear h h1 hcw hnn h3
 go_enter Tryz.func22,Tryz.ntmps22
 go_wp2_with fail
 generalize w.alloc _=w1 at *
 have S1d:=Lh (show w1.drew.cell? ⟨w.heap.size,3,none⟩=some (.int .i64 xe)∧w1.drew.cell? ⟨w.heap.size,4,none⟩=some (.slice xo xL.length xp)∧w1.drew.cell? ⟨b,0,none⟩=some (.int .i64 r.qe)∧w1.drew.cell? ⟨b,1,none⟩=some (.slice a1 r.qL.length n1) from ⟨x3,x4,c0,c1⟩)
 go_region_held3 (fun W=>W.cell? ⟨w.heap.size,3,none⟩=some (.int .i64 xe)∧W.cell? ⟨w.heap.size,4,none⟩=some (.slice xo xL.length xp)∧W.cell? ⟨b,0,none⟩=some (.int .i64 r.qe)∧W.cell? ⟨b,1,none⟩=some (.slice a1 r.qL.length n1))
  (first | with_reducible exact S1d.out | with_reducible exact S6.out | assumption)
  (first | (go_at_call 23;refine (CK.out _ (HC.out.below (Below.refl _ _).drew) (HCW.out _ (Kept.refl _ _).drew).1).mono ?_;rintro e w6 ⟨rfl,hb6⟩;have B6:=Lh (z0c (w1:=w1) hb6 (Below.refl _ _).drew);have H6:=Lh (z01 B6.out H1.out);have X6:=Lh (z01 B6.out HX.out);have S6:=Lh (show w6.cell? ⟨w.heap.size,3,none⟩=some (.int .i64 xe)∧w6.cell? ⟨w.heap.size,4,none⟩=some (.slice xo xL.length xp)∧w6.cell? ⟨b,0,none⟩=some (.int .i64 r.qe)∧w6.cell? ⟨b,1,none⟩=some (.slice a1 r.qL.length n1) from ⟨z02 X6.out 3,z02 X6.out 4,z02 H6.out 0,z02 H6.out 1⟩);clear hb6))
 all_goals
  clear c0 c1 c2 c3 c4 c5 c6 c7 f0 f1 f2 f3 f4 f5 f6 f7
  obtain ⟨⟨c0,c1,c2,c3,c4,c5,c6,c7⟩,f0,f1,f2,f3,f4,f5,f6,f7⟩:=z03 H6.out
  obtain ⟨⟨y0,y1,y2,y3,y4,y5,y6,y7⟩,_⟩:=z03 X6.out
  have hb:=lt_of_block H6.out
  go_wp2_with (go_at_call 47;refine (rr_end b _ _ r 48 (HA.out.below B6.out)).mono ?_;rintro e w9 ⟨rfl,hl⟩;have HL:=Lh hl;clear hl)
  first | go_end0 | refine bodyPost_ret (results_none rfl _ _ _) rfl ?_
  exact ⟨rfl,HL.out.ahead HG.out (HB.out.trans (B6.out.mono HB.out.size))⟩
theorem rh_lay_yes (b:Nat) (G:Nat→Prop) (w:World) (r:Rf) (xc xn:Int) (xd:ByteArray) (xe:Int) (xL:List (List Int)) (xm xs xy:Int) (xo:Option Addr) (xp:Nat) (h:RR b G w r) (ha:r.at_=1) (hs:nextB xe xL r.qe r.qL=true) (hf:fewL xL) (hx:CL w xo xL) :
  Calls Tryz.prog 22 #[.pointer (some ⟨b,0,none⟩),.agg #[.int .i64 0,.int .i64 xn,.string xd,.int .i64 xe,.slice xo xL.length xp,.int .i64 xm,.int .i64 xs,.int .i64 xy],.bool true] w fun e w'=>e=.returned (.tuple #[])∧Leaves (RR b) G w w' (⟨r.qe,r.qL,xe,xL,2,r.i,r.tails,r.e⟩):=by
 have hok:=h.ok
 have HG:=Lh (fun k hk=>(z0j b).lt h k hk)
 have HB:=Lh (z00 w (.cells #[.int .i64 0,.int .i64 xn,.string xd,.int .i64 xe,.slice xo xL.length xp,.int .i64 xm,.int .i64 xs,.int .i64 xy] 49))
 have HX:=Lh (heap_alloc_new w (.cells #[.int .i64 0,.int .i64 xn,.string xd,.int .i64 xe,.slice xo xL.length xp,.int .i64 xm,.int .i64 xs,.int .i64 xy] 49))
 have HA:=Lh (h.below HB.out)
 obtain ⟨⟨x0,x1,x2,x3,x4,x5,x6,x7⟩,_⟩:=z03 HX.out
 obtain ⟨v1,v2,vt,F,h1,p1,p2,p3,hF,hGs,hGb⟩:=(id h).parts
 obtain ⟨a1,n1,rfl,q1,_,_⟩:=(id p1).cl
 obtain ⟨a2,n2,rfl,_,_,_⟩:=(id p2).cl
 obtain ⟨bt,nt,rfl,_,_,_,_⟩:=id p3
 have P1:=Lh (And.intro p1 (And.intro p2 p3))
 have HFG:=Lh (And.intro hF (And.intro hGs hGb))
 have hbw:=lt_of_block h1
 have h1:=z01 HB.out h1
 have h10:=h1
 rw [ha] at h1
 obtain ⟨⟨c0,c1,c2,c3,c4,c5,c6,c7⟩,f0,f1,f2,f3,f4,f5,f6,f7⟩:=z03 h1
 have hb:=lt_of_block h1
 have H1:=Lh h1
 have HQ:=Lh (fun W (hk:Below w.heap.size w W)=>q1.below hk)
 have hg:=(nextB_iff.mp hs).1
 have h1i:=hok.one ha
 have HTO:=Lh (show RfOk ⟨r.qe,r.qL,xe,xL,2,r.i,r.tails,r.e⟩ from ⟨⟨(by decide:(1:Int)≤2),(by decide:(2:Int)≤5)⟩,hok.qf,hf,fun _=>by have:=units_some hg;have:=h1i.1;show r.i < (unitsR xL).length;omega,z26 hg,hok.tl,hok.i16,fun g=>absurd g (by decide:¬ (2:Int)=1)⟩)
 have CK:=Lh (fun W (hC:CL W xo xL) (hQ:CL W a1 r.qL)=>rnext_any xe xo xp xL r.qe a1 n1 r.qL W hC hQ hf hok.qf)
 rw [hs] at CK
 have CC:=Lh (fun W (hC:CL W xo xL)=>z1d xe xo xp xL W hC ⟨Nat.le_trans hf.1 (by decide),fun c h=>Nat.le_trans (hf.2 c h) (by decide)⟩)
 have HC:=Lh (hx.below HB.out)
 clear h h1 p1 p2 p3 hF hGs hGb q1
 go_enter Tryz.func22,Tryz.ntmps22
 go_wp2_with fail
 generalize w.alloc _=w1 at *
 have S1d:=Lh (show w1.drew.cell? ⟨w.heap.size,3,none⟩=some (.int .i64 xe)∧w1.drew.cell? ⟨w.heap.size,4,none⟩=some (.slice xo xL.length xp)∧w1.drew.cell? ⟨b,0,none⟩=some (.int .i64 r.qe)∧w1.drew.cell? ⟨b,1,none⟩=some (.slice a1 r.qL.length n1) from ⟨x3,x4,c0,c1⟩)
 go_region_held3 (fun W=>W.cell? ⟨w.heap.size,3,none⟩=some (.int .i64 xe)∧W.cell? ⟨w.heap.size,4,none⟩=some (.slice xo xL.length xp)∧W.cell? ⟨b,0,none⟩=some (.int .i64 r.qe)∧W.cell? ⟨b,1,none⟩=some (.slice a1 r.qL.length n1))
  (first | with_reducible exact S1d.out | with_reducible exact S6.out | assumption)
  (first | (go_at_call 23;refine (CK.out _ (HC.out.below (Below.refl _ _).drew) (HQ.out _ (below_drewN HB.out 1))).mono ?_;rintro e w6 ⟨rfl,hb6⟩;have B6:=Lh (z0c (w1:=w1) hb6 (Below.refl _ _).drew);have H6:=Lh (z01 B6.out H1.out);have X6:=Lh (z01 B6.out HX.out);have S6:=Lh (show w6.cell? ⟨w.heap.size,3,none⟩=some (.int .i64 xe)∧w6.cell? ⟨w.heap.size,4,none⟩=some (.slice xo xL.length xp)∧w6.cell? ⟨b,0,none⟩=some (.int .i64 r.qe)∧w6.cell? ⟨b,1,none⟩=some (.slice a1 r.qL.length n1) from ⟨z02 X6.out 3,z02 X6.out 4,z02 H6.out 0,z02 H6.out 1⟩);clear hb6))
 all_goals
  clear c0 c1 c2 c3 c4 c5 c6 c7 f0 f1 f2 f3 f4 f5 f6 f7
  obtain ⟨⟨c0,c1,c2,c3,c4,c5,c6,c7⟩,f0,f1,f2,f3,f4,f5,f6,f7⟩:=z03 H6.out
  obtain ⟨⟨y0,y1,y2,y3,y4,y5,y6,y7⟩,_⟩:=z03 X6.out
  have hb:=lt_of_block H6.out
  go_wp2_with (go_at_call 11;refine (CC.out _ (HC.out.below B6.out)).mono ?_;rintro e w8 ⟨v,rfl,hO,hb8⟩;have B8:=Lh (B6.out.trans (hb8.mono B6.out.size));have O8:=Lh hO;have H8:=Lh (z01 B8.out H1.out);obtain ⟨a8,n8,rfl⟩:∃ a n,v=.slice a xL.length n:=(by obtain ⟨a,n,e,_⟩:=(CG.of hO).cl;exact ⟨a,n,e⟩);clear hO hb8;obtain ⟨⟨z0,z1,z2,z3,z4,z5,z6,z7⟩,g0,g1,g2,g3,g4,g5,g6,g7⟩:=z03 H8.out;have hb8:=lt_of_block H8.out)
  first | go_end0 | refine bodyPost_ret (results_none rfl _ _ _) rfl ?_
  have HW:=HB.out.trans (B8.out.mono HB.out.size)
  have hs1:=HB.out.size
  have hs6:=B6.out.size
  have KW:=Kept.ofBelow HW (fun _=>True)
  exact ⟨rfl,rr_lay HFG.out.1 HFG.out.2.1 HFG.out.2.2 HW ((((Kept.refl _ w8).setCell (p:=⟨b,2,none⟩) (fun h=>h rfl) _).setCell (p:=⟨b,3,none⟩) (fun h=>h rfl) _).setCell (p:=⟨b,4,none⟩) (fun h=>h rfl) _) HTO.out ((P1.out.1.keep KW (fun _ _=>trivial)).mono (fun k h=>.inl h)) ((CG.of O8.out).mono (fun k h=>.inr ⟨by have:=h.1;omega,h.2⟩)) ((P1.out.2.2.keep KW (fun _ _=>trivial)).mono (fun k h=>.inl h)) (z0x (z1t (z1u H8.out _) _) _)⟩
theorem cellsK_app (D K:List (Int × Int)):cellsK (D ++ K)=cellsK D ++ cellsK K:=by simp [cellsK]
theorem PL.news {w:World} {ad:Addr} {K:List (Int × Int)} (h:PL w (some ad) K):∀ (j:Nat) (u:Value),(cellsK K)[j]?=some u→w.cell? (ad.add j)=some u:=by
 intro j u hj
 have hlt:j < (cellsK K).length:=by
  rcases Nat.lt_or_ge j (cellsK K).length with q | q
  ·exact q
  ·rw [List.getElem?_eq_none q] at hj;cases hj
 rw [cellsK_length] at hlt
 obtain ⟨bk,off,e,h1,h2,_⟩:=h (j / 2) (by omega)
 cases e
 obtain ⟨g1,g2⟩:=cellsK_at K (j / 2) (by omega)
 rw [addr_plus]
 rcases Nat.mod_two_eq_zero_or_one j with q | q
 ·have e:j / 2 * 2=j:=by omega
  rw [e] at h1 g1
  rw [hj] at g1
  cases g1
  exact h1
 ·have e:j / 2 * 2+1=j:=by omega
  rw [e] at g2
  rw [Nat.add_assoc,e] at h2
  rw [hj] at g2
  cases g2
  exact h2
theorem pairs_one (K:List (Int × Int)):∀ u ∈ cellsK K,u.oneCell'=true:=by
 intro u hu
 obtain ⟨e,_,h⟩:=List.mem_flatMap.1 hu
 rcases List.mem_cons.1 h with rfl | h
 ·rfl
 ·rw [List.mem_singleton.1 h];rfl
theorem PL.wf {w:World} {ao:Option Addr} {K:List (Int × Int)} (h:PL w ao K):∀ e ∈ K,(Lit.int .i64 e.1).wf=true∧(Lit.int .i64 e.2).wf=true:=by
 intro e he
 obtain ⟨i,hi,rfl⟩:=List.getElem_of_mem he
 obtain ⟨_,_,_,_,_,h4⟩:=h i hi
 exact h4
theorem OP.made (w:World) {B:Nat} (hB:B≤w.heap.size):OP (w.alloc (.cells #[] 103)) B (.slice (some ⟨w.heap.size,0,none⟩) 0 0) [] :=
 ⟨World.ownsRow_made w #[] 0 hB (Nat.zero_le _) rfl,fun e h=>by cases h⟩
theorem run_app_pairs (w:World) (ty:TypeId) {B:Nat} {v:Value} {D:List (Int × Int)} (hown:OP w B v D) {ao:Option Addr} {cap:Nat} {l:List (Int × Int)} (hN:PL w ao l) (hn:ao=none→cap=0) (hc:l.length≤cap) (hz:D.length+l.length≤1000000) (hB:B≤w.heap.size) :
  ∃ v' w',(Builtin.append_ #[95,95] ty #[v,.slice ao l.length cap]).run Tryz.prog w=.ok v' w'∧OP w' B v' (D ++ l)∧w.grownBy w' v.ownBlock∧(v'.ownBlock=v.ownBlock∨v'.ownBlock=some w.heap.size):=by
 obtain ⟨i0,hi,hz0,hz1,hz2⟩:=info_parts count_info
 cases ao with
 | none =>
  have h0:=hn rfl
  subst h0
  have:l=[]:=List.eq_nil_of_length_eq_zero (by omega)
  subst this
  refine ⟨v,w,run_append_owned_none (P:=Tryz.prog) (w:=w) B 95 ty 103 i0 2 Tryz.underlying95 hi v _ _ hown.1,by rw [List.append_nil];exact hown,⟨rfl,rfl,rfl,Nat.le_refl _,fun _ _ _=>rfl⟩,.inl rfl⟩
 | some ad =>
  obtain ⟨v',w',hr,h1,h2,_,h4⟩:=run_append_own_at (P:=Tryz.prog) w B 95 ty 103 i0 (.agg #[.int .i64 0,.int .i64 0]) 2 16 Tryz.underlying95 hi hz0 hz1 hz2 rfl (by decide) v D.length (cellsK D) hown.1 ad l.length cap (cellsK l) (cellsK_length l) hN.news (pairs_one l) (by unfold maxLen;omega) (by omega) hB
  exact ⟨v',w',hr,⟨by rw [List.length_append,cellsK_app];exact h1,fun e he=>(List.mem_append.1 he).elim (hown.2 e) (hN.wf e)⟩,h2,h4⟩
theorem step_app_pairs {ops:Array Oper} {o:Oper} {a:Act} {w:World} {K:Act→World→Prop} {Q:Exit→Act→World→Prop} {E:Prop} (hgd:o.guard=none) (s x:Operand)
  (ho:o.op=Op.call { callee:=Callee.builtin Builtin.append,args:=#[s,x],argTypes:=#[95,95] }) {B:Nat} {v:Value} {D:List (Int × Int)} (hs:a.eval s=v) (hown:OP w B v D)
  {ao:Option Addr} {cap:Nat} {l:List (Int × Int)} {m:Nat} (hm:l.length=m) (hx:a.eval x=.slice ao m cap) (hN:PL w ao l) (hn:ao=none→cap=0) (hc:l.length≤cap) (hz:D.length+l.length≤1000000) (hB:B≤w.heap.size)
  (h:∀ v' w',OP w' B v' (D ++ l)→w.grownBy w' v.ownBlock→(v'.ownBlock=v.ownBlock∨v'.ownBlock=some w.heap.size)→K (a.put o.dst v') w') :
  if Region.wanted o (yielded ops a.tmps)=true then Oper.wp Tryz.prog o a w K Q else E:=by
 have hw:Region.wanted o (yielded ops a.tmps)=true:=by simp [Region.wanted,hgd]
 rw [if_pos hw]
 subst hm
 obtain ⟨v',w',hr,h2,h3,h4⟩:=run_app_pairs w o.type hown hN hn hc hz hB
 unfold Oper.wp
 simp [execOp,ho,resolve,invoke,builtin,hs,hx,hr,Result.andThen]
 exact h v' w' h2 h3 h4
theorem Leaves.on {T:(Nat→Prop)→World→Rf→Prop} {G H:Nat→Prop} {w W W2:World} {a:Rf} (h:Leaves T H W W2 a) (hG:∀ k,G k→k < w.heap.size) (h2:Kept (fun k=>¬ G k) w W) (h3:∀ k,H k→G k∨w.heap.size≤k):Leaves T G w W2 a:=by
 obtain ⟨H',r1,r2,r3⟩:=h
 refine ⟨H',r1,?_,fun k hk=>?_⟩
 ·refine ⟨r2.os.trans h2.os,r2.tape.trans h2.tape,r2.output.trans h2.output,Nat.le_trans h2.size r2.size,fun k hk hl=>?_⟩
  exact (r2.block k (fun hH=>(h3 k hH).elim hk (fun q=>by omega)) (Nat.lt_of_lt_of_le hl h2.size)).trans (h2.block k hk hl)
 ·rcases r3 k hk with q | q
  ·exact h3 k q
  ·exact .inr (Nat.le_trans h2.size q)
abbrev laterOp (o:Op):Op:=o
theorem s4_alloc {W:World} {k1 k2 k3 k4 o1 o2 o3 o4:Nat} {v1 v2 v3 v4:Value} {x:Obj} (h:W.cell? ⟨k1,o1,none⟩=some v1∧W.cell? ⟨k2,o2,none⟩=some v2∧W.cell? ⟨k3,o3,none⟩=some v3∧W.cell? ⟨k4,o4,none⟩=some v4):(W.alloc x).cell? ⟨k1,o1,none⟩=some v1∧(W.alloc x).cell? ⟨k2,o2,none⟩=some v2∧(W.alloc x).cell? ⟨k3,o3,none⟩=some v3∧(W.alloc x).cell? ⟨k4,o4,none⟩=some v4 :=
 have hb:Below W.heap.size W (W.alloc x):=(Below.refl _ _).alloc (Nat.le_refl _) _
 ⟨z0s hb (block_lt_of_cell h.1) h.1,z0s hb (block_lt_of_cell h.2.1) h.2.1,z0s hb (block_lt_of_cell h.2.2.1) h.2.2.1,z0s hb (block_lt_of_cell h.2.2.2) h.2.2.2⟩
theorem rh_seal_ok (b:Nat) (G:Nat→Prop) (w:World) (r:Rf) (xc xn:Int) (xd:ByteArray) (xe:Int) (xL:List (List Int)) (xm xs xy:Int) (xo:Option Addr) (xp:Nat) (h:RR b G w r) (ha:r.at_=2) (ht:r.tails.length≤r.i) (hn:(Lit.int .i64 xn).wf=true) :
  Calls Tryz.prog 22 #[.pointer (some ⟨b,0,none⟩),.agg #[.int .i64 0,.int .i64 xn,.string xd,.int .i64 xe,.slice xo xL.length xp,.int .i64 xm,.int .i64 xs,.int .i64 xy],.bool true] w fun e w'=>e=.returned (.tuple #[])∧Leaves (RR b) G w w' (r.next (r.tails ++ [(r.unit,xn)])):=by
 have hok:=h.ok
 have HG:=Lh (fun k hk=>(z0j b).lt h k hk)
 have HB:=Lh (z00 w (.cells #[.int .i64 0,.int .i64 xn,.string xd,.int .i64 xe,.slice xo xL.length xp,.int .i64 xm,.int .i64 xs,.int .i64 xy] 49))
 have HX:=Lh (heap_alloc_new w (.cells #[.int .i64 0,.int .i64 xn,.string xd,.int .i64 xe,.slice xo xL.length xp,.int .i64 xm,.int .i64 xs,.int .i64 xy] 49))
 have HA:=Lh (h.below HB.out)
 obtain ⟨⟨x0,x1,x2,x3,x4,x5,x6,x7⟩,_⟩:=z03 HX.out
 obtain ⟨v1,v2,vt,F,h1,p1,p2,p3,hF,hGs,hGb⟩:=(id h).parts
 obtain ⟨a1,n1,rfl,_,_,_⟩:=(id p1).cl
 obtain ⟨a2,n2,rfl,q1,_,_⟩:=(id p2).cl
 obtain ⟨bt,nt,rfl,q3,q4,q5,_⟩:=id p3
 have P1:=Lh (And.intro p1 (And.intro p2 p3))
 have HFG:=Lh (And.intro hF (And.intro hGs hGb))
 have hbw:=lt_of_block h1
 have h1:=z01 HB.out h1
 have h10:=h1
 rw [ha] at h1
 obtain ⟨⟨c0,c1,c2,c3,c4,c5,c6,c7⟩,f0,f1,f2,f3,f4,f5,f6,f7⟩:=z03 h1
 have hb:=lt_of_block h1
 have H1:=Lh h1
 have HQ:=Lh (fun W (hk:Below w.heap.size w W)=>q1.below hk)
 have HP:=Lh (fun W (hk:Below w.heap.size w W)=>q3.below hk)
 have HN0:=Lh q4
 have HN1:=Lh q5
 have HTL:=Lh hok.tl
 have hi:=hok.two ha
 have h16:=hok.few
 have HU:=Lh (show (unitsR r.oL)[r.i]=r.unit from by unfold Rf.unit;simp [hi])
 have CUO:=Lh (fun W (hC:CL W a2 r.oL)=>z1h r.oe a2 n2 r.oL W hC ⟨hok.of_.1,fun c h=>Nat.le_trans (hok.of_.2 c h) (by decide)⟩)
 have hi0:(0:Int)≤(r.i:Int):=by omega
 have hi1:(r.i:Int) < ((unitsR r.oL).length:Int):=by omega
 have HR2:=Lh (show RfOk ⟨r.qe,r.qL,r.oe,r.oL,2,r.i,(r.tails ++ [(r.unit,xn)]),r.e⟩ from ⟨⟨(by decide:(1:Int)≤2),(by decide:(2:Int)≤5)⟩,hok.qf,hok.of_,fun _=>hi,hok.few,by show (r.tails ++ _).length≤17;rw [List.length_append];simp;omega,hok.i16,fun g=>absurd g (by decide:¬ (2:Int)=1)⟩)
 have HOK:=Lh (hok.next ha (r.tails ++ [(r.unit,xn)]) (by rw [List.length_append];simp;omega))
 have HTL2:=Lh (show r.tails.length≤16 by omega)
 have HWN:=Lh hn
 have l1:=lt_of_block HX.out
 have hnb:w.heap.size≠b:=by omega
 clear h h1 p1 p2 p3 hF hGs hGb q1 q3 q4 q5
 go_enter Tryz.func22,Tryz.ntmps22
 go_wp2_with fail
 generalize w.alloc _=w1 at *
 have S1d:=Lh (show World.cell? (w1.drew) ⟨b,2,none⟩=some (.int .i64 r.oe)∧World.cell? (w1.drew) ⟨b,3,none⟩=some (.slice a2 r.oL.length n2)∧World.cell? (w1.drew) ⟨b,5,none⟩=some (.int .i64 (r.i:Int))∧World.cell? (w1.drew) ⟨w.heap.size,1,none⟩=some (.int .i64 xn) from ⟨c2,c3,c5,x1⟩)
 rw [show Op.load 95 (.tmp 65)=laterOp (Op.load 95 (.tmp 65)) from rfl,show Op.load 3 (.tmp 77)=laterOp (Op.load 3 (.tmp 77)) from rfl]
 go_region_held3 (fun W=>World.cell? (W) ⟨b,2,none⟩=some (.int .i64 r.oe)∧World.cell? (W) ⟨b,3,none⟩=some (.slice a2 r.oL.length n2)∧World.cell? (W) ⟨b,5,none⟩=some (.int .i64 (r.i:Int))∧World.cell? (W) ⟨w.heap.size,1,none⟩=some (.int .i64 xn))
  (first | with_reducible exact S1d.out | with_reducible exact S5.out | with_reducible exact S4.out | with_reducible exact S3.out | assumption | exact s4_alloc (by assumption) | exact s4_alloc S1d.out | exact s4_alloc S4.out | exact (s4_alloc (by assumption)) | exact ⟨z02 (z19 H5.out _) 2,z02 (z19 H5.out _) 3,z02 (z19 H5.out _) 5,(((Kept.refl (fun k=>k≠b) w5).setCell (p:=⟨b,6,none⟩) (fun h=>h rfl) _).cell18 (show w.heap.size≠b from hnb) S5.out.2.2.2)⟩)
  (first
  | (refine step_app_pairs rfl (.tmp 62) (.tmp 66) rfl (B:=w1.heap.size) (v:=.slice (some ⟨w1.heap.size,0,none⟩) 0 0) (D:=[]) rfl (OP.made w1.drew (Nat.le_refl _)) (ao:=bt) (cap:=nt) (l:=r.tails) rfl rfl (HP.out _ (HB.out.trans (((Below.refl _ _).drew.alloc (Nat.le_refl _) _).mono HB.out.size))) HN0.out HN1.out (by have:=HTL.out;simp;omega) (by simp) ?_;intro v3 w3 hI hg _;rw [List.nil_append] at hI;have hb3:Below w1.heap.size w1 w3:=((Below.refl _ _).drew.alloc (Nat.le_refl _) _).grown hg (by simp) (fun k e=>by cases e;exact Nat.le_refl _);obtain ⟨a3,k3,hv3,_⟩:=hI.form;subst hv3;obtain ⟨⟨y0,y1,y2,y3,y4,y5,y6,y7⟩,_⟩:=z03 (z01 hb3 H1.out);have y9:=z0s hb3 l1 x1;have l3:=Nat.lt_of_lt_of_le l1 hb3.size;have m3:=Nat.lt_of_lt_of_le hb hb3.size;have HI3:=Lh hI;have HB3:=Lh hb3;have S3:=Lh (show World.cell? (w3) ⟨b,2,none⟩=some (.int .i64 r.oe)∧World.cell? (w3) ⟨b,3,none⟩=some (.slice a2 r.oL.length n2)∧World.cell? (w3) ⟨b,5,none⟩=some (.int .i64 (r.i:Int))∧World.cell? (w3) ⟨w.heap.size,1,none⟩=some (.int .i64 xn) from ⟨y2,y3,y5,y9⟩);clear hI hg hb3)
  | (refine step_app_pairs rfl (.tmp 62) (.tmp 66) rfl (B:=w1.heap.size) (v:=.slice (some ⟨w1.heap.size,0,none⟩) 0 0) (D:=[]) rfl ((OP.made w1 (Nat.le_refl _)).drew) (ao:=bt) (cap:=nt) (l:=r.tails) rfl rfl (HP.out _ (HB.out.trans (((Below.refl _ _).alloc (Nat.le_refl _) _).drew.mono HB.out.size))) HN0.out HN1.out (by have:=HTL.out;simp;omega) (by simp) ?_;intro v3 w3 hI hg _;rw [List.nil_append] at hI;have hb3:Below w1.heap.size w1 w3:=((Below.refl _ _).alloc (Nat.le_refl _) _).drew.grown hg (by simp) (fun k e=>by cases e;exact Nat.le_refl _);obtain ⟨a3,k3,hv3,_⟩:=hI.form;subst hv3;obtain ⟨⟨y0,y1,y2,y3,y4,y5,y6,y7⟩,_⟩:=z03 (z01 hb3 H1.out);have y9:=z0s hb3 l1 x1;have l3:=Nat.lt_of_lt_of_le l1 hb3.size;have m3:=Nat.lt_of_lt_of_le hb hb3.size;have HI3:=Lh hI;have HB3:=Lh hb3;have S3:=Lh (show World.cell? (w3) ⟨b,2,none⟩=some (.int .i64 r.oe)∧World.cell? (w3) ⟨b,3,none⟩=some (.slice a2 r.oL.length n2)∧World.cell? (w3) ⟨b,5,none⟩=some (.int .i64 (r.i:Int))∧World.cell? (w3) ⟨w.heap.size,1,none⟩=some (.int .i64 xn) from ⟨y2,y3,y5,y9⟩);clear hI hg hb3)
  | (refine step_app_pair rfl (.tmp 67) (.tmp 82) rfl (B:=w1.heap.size) (J:=r.tails) rfl HI4.out rfl HWU.out HWN.out (by have:=HTL2.out;omega) HB4.out.size ?_;intro v5 w5 hI hb5x;have hb5:Below w1.heap.size w1 w5:=HB4.out.trans hb5x;obtain ⟨a5,k5,hv5,_⟩:=hI.form;simp only [List.length_append,List.length_singleton] at hv5;subst hv5;have H5:=Lh (z01 hb5 H1.out);have HI5:=Lh hI;have HB5:=Lh hb5;have q6:=z02 (z01 hb5 H1.out) 6;have qf:=z0a (z01 hb5 H1.out) 6;have qr:=Nat.lt_of_lt_of_le hb hb5.size;have S5:=Lh (show World.cell? (w5) ⟨b,2,none⟩=some (.int .i64 r.oe)∧World.cell? (w5) ⟨b,3,none⟩=some (.slice a2 r.oL.length n2)∧World.cell? (w5) ⟨b,5,none⟩=some (.int .i64 (r.i:Int))∧World.cell? (w5) ⟨w.heap.size,1,none⟩=some (.int .i64 xn) from ⟨z02 (z01 hb5 H1.out) 2,z02 (z01 hb5 H1.out) 3,z02 (z01 hb5 H1.out) 5,z0s hb5 l1 x1⟩);clear hI hb5 hb5x)
  | (go_simp;go_at_call 27;refine (CUO.out _ (HQ.out _ (HB.out.trans (HB3.out.mono HB.out.size)))).mono ?_;rintro e w4 ⟨v,rfl,hO,hb4⟩;obtain ⟨bk,cu,rfl,_,hbk,_,hR⟩:=hO.spotK hi;have HWU:=Lh (hO.2 _ (List.getElem_mem hi));rw [HU.out,Nat.zero_add] at hR;rw [HU.out] at HWU;have HB4:=Lh (HB3.out.trans (hb4.mono HB3.out.size));have HI4:=Lh (HI3.out.below hb4);obtain ⟨⟨z0,z1,z2,z3,z4,z5,z6,z7⟩,_⟩:=z03 (z01 HB4.out H1.out);have z9:=z0s HB4.out l1 x1;have l4:=Nat.lt_of_lt_of_le l1 HB4.out.size;have m4:=Nat.lt_of_lt_of_le hb HB4.out.size;have S4:=Lh (show World.cell? (w4) ⟨b,2,none⟩=some (.int .i64 r.oe)∧World.cell? (w4) ⟨b,3,none⟩=some (.slice a2 r.oL.length n2)∧World.cell? (w4) ⟨b,5,none⟩=some (.int .i64 (r.i:Int))∧World.cell? (w4) ⟨w.heap.size,1,none⟩=some (.int .i64 xn) from ⟨z2,z3,z5,z9⟩);clear hO hb4;try go_wp2_with fail))
 all_goals
  have HW:=HB.out.trans (HB5.out.mono HB.out.size)
  have hs1:=HB.out.size
  have KW:=Kept.ofBelow HW (fun _=>True)
  obtain ⟨G2,hR2,hK2,hG2⟩:=rr_lay HFG.out.1 HFG.out.2.1 HFG.out.2.2 HW ((Kept.refl _ w5).setCell (p:=⟨b,6,none⟩) (fun h=>h rfl) (.slice a5 (r.tails.length+1) k5)) HR2.out ((P1.out.1.keep KW (fun _ _=>trivial)).mono (fun k h=>.inl h)) ((P1.out.2.1.keep KW (fun _ _=>trivial)).mono (fun k h=>.inl h)) ((PG.of HI5.out).mono (fun k h=>.inr ⟨by have:=h.1;omega,h.2⟩)) (z19 H5.out _)
  have HN:=Lh (rr_next b G2 _ _ hR2 rfl _ rfl)
  have HKG:=Lh (And.intro hK2 hG2)
  clear hR2 hK2 hG2 HI5 H5 S5 q6 qf qr
  generalize World.setCell w5 _ _=W8 at *
  go_wp2_with (go_at_call 54;refine HN.out.mono ?_;rintro e w9 ⟨rfl,hl⟩;have HL:=Lh (hl HOK.out);clear hl)
  first | go_end0 | refine bodyPost_ret (results_none rfl _ _ _) rfl ?_
  exact ⟨rfl,HL.out.on HG.out HKG.out.1 HKG.out.2⟩
def Rf.Tidy (r:Rf):Prop:=r.tails.length≤r.i
theorem tidy_new (ep:Int) (L:List (List Int)):(newRf ep L).Tidy:=by
 unfold newRf
 split <;> exact Nat.le_refl _
theorem Rf.Tidy.skip {r:Rf} (h:r.Tidy):r.skip.Tidy:=by
 unfold Rf.skip
 split
 ·exact Nat.le_succ_of_le h
 ·exact h
theorem Rf.Tidy.hear {r:Rf} (h:r.Tidy) (x:An) (c:Bool):(r.hear x c).Tidy:=by
 unfold Rf.hear
 split
 ·exact h
 split
 ·split
  ·exact h
  split <;> exact h
 split
 ·split
  ·exact h
  ·show (r.tails ++ _).length≤r.i+1
   rw [List.length_append]
   exact Nat.succ_le_succ h
 split
 ·split <;> exact h
 ·split <;> exact h
theorem rr_hear (b:Nat) (G:Nat→Prop) (w:World) (r:Rf) (x:An) (xo:Option Addr) (xp:Nat) (c:Bool) (h:RR b G w r) (ht:r.Tidy) (hf:fewL x.L) (hn:i64w x.n) (hx:CL w xo x.L) :
  Calls Tryz.prog 22 #[.pointer (some ⟨b,0,none⟩),ansV x xo xp,.bool c] w fun e w'=>e=.returned (.tuple #[])∧Leaves (RR b) G w w' (r.hear x c):=by
 obtain ⟨xc,xn,xd,xe,xL,xm,xs,xy⟩:=x
 show Calls _ _ #[.pointer (some ⟨b,0,none⟩),.agg #[.int .i64 xc,.int .i64 xn,.string xd,.int .i64 xe,.slice xo xL.length xp,.int .i64 xm,.int .i64 xs,.int .i64 xy],.bool c] w _
 unfold Rf.hear
 dsimp only at *
 cases c with
 | false =>
  rw [if_pos (.inr (.inl rfl))]
  exact rh_no b G w r xc xn xd xe xL xm xs xy xo xp h
 | true =>
  by_cases a5:r.at_=5
  ·rw [if_pos (.inl a5)]
   exact rh_over b G w r xc xn xd xe xL xm xs xy xo xp h a5
  ·have hr:=h.ok.range
   by_cases c45:xc=45
   ·subst c45
    rw [if_pos (.inr (.inr rfl))]
    exact rh_down b G w r 0 xn xd xe xL xm xs xy xo xp h a5
   ·rw [if_neg (fun e=>e.elim a5 (fun e=>e.elim Bool.noConfusion c45))]
    by_cases a1:r.at_=1
    ·rw [if_pos a1]
     by_cases c0:xc=0
     ·subst c0
      rw [if_neg (fun e=>e rfl)]
      cases hs:nextB xe xL r.qe r.qL with
      | true=>rw [if_pos rfl];exact rh_lay_yes b G w r 0 xn xd xe xL xm xs xy xo xp h a1 hs hf hx
      | false=>rw [if_neg Bool.noConfusion];exact rh_lay_no b G w r 0 xn xd xe xL xm xs xy xo xp h a1 hs hf hx
     ·rw [if_pos c0]
      exact rh_lay_err b G w r xc xn xd xe xL xm xs xy xo xp h a1 c45 c0
    ·rw [if_neg a1]
     by_cases a2:r.at_=2
     ·rw [if_pos a2]
      by_cases c0:xc=0
      ·subst c0
       rw [if_neg (fun e=>e rfl)]
       exact rh_seal_ok b G w r 0 xn xd xe xL xm xs xy xo xp h a2 ht hn
      ·rw [if_pos c0]
       exact rh_seal_err b G w r xc xn xd xe xL xm xs xy xo xp h a2 c45 c0
     ·rw [if_neg a2]
      by_cases a3:r.at_=3
      ·rw [if_pos a3]
       by_cases c0:xc=0
       ·subst c0
        rw [if_pos (.inl rfl)]
        exact rh_chg_ok b G w r 0 xn xd xe xL xm xs xy xo xp h a3
       ·by_cases c48:xc=48
        ·subst c48
         cases hs:sameP xe xL r.qe r.qL with
         | true=>rw [if_pos (.inr ⟨rfl,rfl⟩)];exact rh_chg_same b G w r 0 xn xd xe xL xm xs xy xo xp h a3 hs hf hx
         | false=>rw [if_neg (fun e=>e.elim c0 (fun e=>Bool.noConfusion e.2))];exact rh_chg_not b G w r 0 xn xd xe xL xm xs xy xo xp h a3 hs hf hx
        ·rw [if_neg (fun e=>e.elim c0 (fun e=>c48 e.1))]
         exact rh_chg_err b G w r xc xn xd xe xL xm xs xy xo xp h a3 c45 c0 c48
      ·rw [if_neg a3]
       have a4:r.at_=4:=by omega
       by_cases c0:xc=0
       ·subst c0
        rw [if_pos (.inl rfl)]
        exact rh_start_ok b G w r 0 xn xd xe xL xm xs xy xo xp h a4
       ·by_cases c40:xc=40
        ·subst c40
         by_cases he:xy=r.qe
         ·rw [if_pos (.inr ⟨rfl,he⟩)]
          exact rh_start_same b G w r 0 xn xd xe xL xm xs xy xo xp h a4 he
         ·rw [if_neg (fun e=>e.elim c0 (fun e=>he e.2))]
          exact rh_start_not b G w r 0 xn xd xe xL xm xs xy xo xp h a4 he
        ·rw [if_neg (fun e=>e.elim c0 (fun e=>c40 e.1))]
         exact rh_start_err b G w r xc xn xd xe xL xm xs xy xo xp h a4 c45 c0 c40
end Go.Proofs.YtkefpbcifcjibaaGreat
namespace Go.Proofs.YtkefpbcifcjibaaGreat
open Go.ChangeShapes Go.WideShapes Go.ChangeAt Go.RowKit
section
variable {H:Type} {enc:TypeId × Value→H} {P:Program} {w:World} {base:Nat} {spare:Nat→Bool} {held:Bool}
end
theorem largeX_no {x:An} (h:largeX x=false):x.data.size≤6000∧x.L.length≤50∧∀ c ∈ x.L,c.length≤50:=by
 unfold largeX at h
 rw [Bool.or_eq_false_iff] at h
 have h1:=of_decide_eq_false h.1
 exact ⟨by omega,largeB_no h.2⟩
structure Rs where
 x:An
 ao:Option Addr
 cap:Nat
 c:Bool
 k:Bool
instance:Inhabited Rs:=⟨⟨⟨0,0,⟨#[]⟩,0,[],0,0,0⟩,none,0,false,false⟩⟩
def rstepC (s:Rs):List Value:=ansC s.x s.ao s.cap ++ [.bool s.c,.bool s.k]
def RsIn (w:World) (s:Rs):Prop:=AnIn w s.x s.ao s.cap
section
variable {H:Type} {enc:TypeId × Value→H} {P:Program} {w:World} {base:Nat} {spare:Nat→Bool} {held:Bool}
theorem rstep_cs {n:Nat} {cs:List Value} {y:DataW H × List MemPlace} {e h tb t ti ts tp tc te:TypeId} {g0 g1 f0 f1:Field} (T:AnsT P t ti ts tp tc te) (he:P.underlying e=some (.struct #[g0,g1])) (h0:(g0.offset,g0.type)=(0,h)) (h1:(g1.offset,g1.type)=(9,tb))
  (hh:P.underlying h=some (.struct #[f0,f1])) (k0:(f0.offset,f0.type)=(0,t)) (k1:(f1.offset,f1.type)=(8,tb)) (ub:P.underlying tb=some .bool) (cb:P.cellsOf tb=1) (ch:P.cellsOf h=9) (hl:cs.length=10)
  (hf:DataW.trod enc P w base spare held n e cs=some y):∃ s:Rs,cs=rstepC s∧RsIn w s:=by
 obtain ⟨xs,m,_,_,_,hxl,hg⟩:=DataW.trod_struct he hf
 have hxl2:xs.length=2:=hxl
 simp only [Prod.mk.injEq] at h0 h1 k0 k1
 have a0:=hg 0 g0 rfl
 have a1:=hg 1 g1 rfl
 rw [h0.1,h0.2,ch,List.getElem?_eq_getElem (by omega)] at a0
 rw [h1.1,h1.2,cb,List.getElem?_eq_getElem (by omega)] at a1
 obtain ⟨k,e1,_⟩:=DataW.trod_bool ub a1
 obtain ⟨zs,m2,_,_,_,hzl,hz⟩:=DataW.trod_struct hh a0
 have hzl2:zs.length=2:=hzl
 have b0:=hz 0 f0 rfl
 have b1:=hz 1 f1 rfl
 rw [k0.1,k0.2,T.cells,List.getElem?_eq_getElem (by omega)] at b0
 rw [k1.1,k1.2,cb,List.getElem?_eq_getElem (by omega)] at b1
 obtain ⟨c,e2,_⟩:=DataW.trod_bool ub b1
 obtain ⟨x,ao,cap,e3,h3⟩:=ans_cs T (by rw [List.length_take,List.length_drop,List.length_take,List.length_drop];omega) b0
 refine ⟨⟨x,ao,cap,c,k⟩,?_,h3⟩
 match cs,hl with
 | [x0,x1,x2,x3,x4,x5,x6,x7,x8,x9],_ =>
  simp at e1 e2 e3
  unfold rstepC
  rw [← e3,e1,e2]
  rfl
end
theorem rstep_at {w:World} {ao:Option Addr} {l:List Rs} (h:Row w ao 10 rstepC l) {i:Nat} (hi:i < l.length):∃ bk off,ao=some ⟨bk,off,none⟩∧
  w.cell? ⟨bk,off+i * 10,none⟩=some (.int .i64 l[i].x.code)∧w.cell? ⟨bk,off+i * 10+1,none⟩=some (.int .i64 l[i].x.n)∧w.cell? ⟨bk,off+i * 10+2,none⟩=some (.string l[i].x.data)∧w.cell? ⟨bk,off+i * 10+3,none⟩=some (.int .i64 l[i].x.pe)∧w.cell? ⟨bk,off+i * 10+4,none⟩=some (.slice l[i].ao l[i].x.L.length l[i].cap)∧
  w.cell? ⟨bk,off+i * 10+5,none⟩=some (.int .i64 l[i].x.mark)∧w.cell? ⟨bk,off+i * 10+6,none⟩=some (.int .i64 l[i].x.size)∧w.cell? ⟨bk,off+i * 10+7,none⟩=some (.int .i64 l[i].x.epoch)∧w.cell? ⟨bk,off+i * 10+8,none⟩=some (.bool l[i].c)∧w.cell? ⟨bk,off+i * 10+9,none⟩=some (.bool l[i].k):=by
 obtain ⟨bk,off,h1,h2⟩:=h i hi
 exact ⟨bk,off,h1,h2 0 _ rfl,h2 1 _ rfl,h2 2 _ rfl,h2 3 _ rfl,h2 4 _ rfl,h2 5 _ rfl,h2 6 _ rfl,h2 7 _ rfl,h2 8 _ rfl,h2 9 _ rfl⟩
section
variable {H:Type} {enc:TypeId × Value→H} {P:Program} {w:World} {base:Nat} {spare:Nat→Bool} {held:Bool}
end
theorem ask_same (x:Ak) (ao bo:Option Addr) (ca cb:Nat) (w:World) (hA:CL w ao x.L) (hB:CL w bo x.L) (hl:x.L.length≤1000000∧∀ c ∈ x.L,c.length≤1000000) :
  Calls Tryz.prog 17 #[askV ⟨x.kind,x.unit,x.epoch,x.page,x.size,x.n,x.data,x.pe,x.L,ao,ca⟩,askV ⟨x.kind,x.unit,x.epoch,x.page,x.size,x.n,x.data,x.pe,x.L,bo,cb⟩] w fun e w'=>e=.returned (.bool true)∧Below w.heap.size w w':=by
 obtain ⟨k,u,ep,pg,sz,n,s,pe,L,xo,xc⟩:=x
 simp only at hA hB hl
 have HB0:=Lh (((Below.refl w.heap.size w).alloc (Nat.le_refl _) (.cells #[.int .i64 k,.int .i64 u,.int .i64 ep,.int .i64 pg,.int .i64 sz,.int .i64 n,.string s,.int .i64 pe,.slice ao L.length ca] 34)).alloc (by simp) (.cells #[.int .i64 k,.int .i64 u,.int .i64 ep,.int .i64 pg,.int .i64 sz,.int .i64 n,.string s,.int .i64 pe,.slice bo L.length cb] 34))
 have CP:=Lh (z20 pe ao ca L pe bo cb L _ (hA.below HB0.out) (hB.below HB0.out) hl hl)
 have HS:=Lh (show sameP pe L pe L=true from decide_eq_true ⟨rfl,rfl⟩)
 rw [HS.out] at CP
 clear hA hB hl
 show Calls _ _ #[.agg #[.int .i64 k,.int .i64 u,.int .i64 ep,.int .i64 pg,.int .i64 sz,.int .i64 n,.string s,.int .i64 pe,.slice ao L.length ca],.agg #[.int .i64 k,.int .i64 u,.int .i64 ep,.int .i64 pg,.int .i64 sz,.int .i64 n,.string s,.int .i64 pe,.slice bo L.length cb]] w _
 go_enter Tryz.func17,Tryz.ntmps17
 go_wp2_with (go_at_call 34;refine CP.out.mono ?_;rintro e w1 ⟨rfl,hb1⟩;have HB1:=Lh (HB0.out.trans (hb1.mono HB0.out.size));clear hb1)
 go_ret
 exact ⟨rfl,HB1.out⟩
end Go.Proofs.YtkefpbcifcjibaaGreat
namespace Go.Proofs.YtkefpbcifcjibaaGreat
open Go.RowKit
theorem ask_openD (r:Rf):∃ (kd un qe pg pe:Int) (L:List (List Int)),r.ask=⟨kd,un,qe,pg,0,0,⟨#[]⟩,pe,L,none,0⟩:=by
 unfold Rf.ask
 repeat' split
 all_goals exact ⟨_,_,_,_,_,_,rfl⟩
section
variable {RG:Nat→(Nat→Prop)→World→Rf→Prop} {X:Nat→Prop} {w0 w w':World} {rr br:Nat} {r r2:Rf}
theorem ask_few (hs:Side (RR rr) (RG br) X w r r2):fewL r.ask.L:=by
 obtain ⟨_,F,G,hF,_⟩:=hs
 have hok:=hF.ok
 unfold Rf.ask
 repeat' split
 all_goals first | exact hok.qf | exact ⟨Nat.zero_le _,fun c hc=>absurd hc List.not_mem_nil⟩
theorem sd_ask (hs:Side (RR rr) (RG br) X w r r2) {kd un qe pg pe:Int} {L:List (List Int)} (hq:r.ask=⟨kd,un,qe,pg,0,0,⟨#[]⟩,pe,L,none,0⟩) :
  Calls Tryz.prog 14 #[.pointer (some ⟨rr,0,none⟩)] w fun e w'=>∃ (ao:Option Addr) (cap:Nat),e=.returned (.agg #[.int .i64 kd,.int .i64 un,.int .i64 qe,.int .i64 pg,.int .i64 0,.int .i64 0,.string ⟨#[]⟩,.int .i64 pe,.slice ao L.length cap,.bool r.asks])∧CL w' ao L∧Below w.heap.size w w':=by
 obtain ⟨_,F,G,hF,_⟩:=hs
 refine (rr_ask rr F w r hF).mono ?_
 rintro e w' ⟨ao,cap,rfl,h1,_,_,h2⟩
 rw [hq] at h1 ⊢
 exact ⟨ao,cap,rfl,h1,h2⟩
theorem sd_over (hs:Side (RR rr) (RG br) X w r r2) :
  Calls Tryz.prog 16 #[.pointer (some ⟨rr,0,none⟩)] w fun e w'=>e=.returned (.agg #[.int .i64 r.overE,.bool r.overB])∧Below w.heap.size w w':=by
 obtain ⟨_,F,G,hF,_⟩:=hs
 exact rr_over rr F w r hF
theorem sd_skip (RS:RfmSays RG) (hs:Side (RR rr) (RG br) X w r r2) :
  Calls Tryz.prog 20 #[.pointer (some ⟨rr,0,none⟩)] w fun e w'=>e=.returned (.bool r.mays)∧Side (RR rr) (RG br) X w' r.skip r2∧Kept X w w' :=
 side_left (R:=fun e=>e=.returned (.bool r.mays)) (z0j rr) (RS.thing br) hs (fun F hF=>rr_skip rr F w r hF)
theorem sd_hear (RS:RfmSays RG) (hs:Side (RR rr) (RG br) X w r r2) (ht:r.Tidy) {xc xn xe xm xs xy:Int} {xd:ByteArray} {xL:List (List Int)} {xo:Option Addr} {xp:Nat} {c:Bool} (hf:fewL xL) (hn:i64w xn) (hx:CL w xo xL) :
  Calls Tryz.prog 22 #[.pointer (some ⟨rr,0,none⟩),.agg #[.int .i64 xc,.int .i64 xn,.string xd,.int .i64 xe,.slice xo xL.length xp,.int .i64 xm,.int .i64 xs,.int .i64 xy],.bool c] w fun e w'=>e=.returned (.tuple #[])∧Side (RR rr) (RG br) X w' (r.hear ⟨xc,xn,xd,xe,xL,xm,xs,xy⟩ c) r2∧Kept X w w' :=
 side_left (R:=fun e=>e=.returned (.tuple #[])) (z0j rr) (RS.thing br) hs (fun F hF=>rr_hear rr F w r ⟨xc,xn,xd,xe,xL,xm,xs,xy⟩ xo xp c hF ht hf hn hx)
theorem sp_hear (RS:RfmSays RG) (hs:Side (RR rr) (RG br) X w r r2) {xc xn xe xm xs xy:Int} {xd:ByteArray} {xL:List (List Int)} {xo:Option Addr} {xp:Nat} {c:Bool} (hf:fewL xL) (hn:i64w xn) (he:i64w xe) (hx:CL w0 xo xL) (hB:Below w0.heap.size w0 w) (hz:w0.heap.size≤w.heap.size) (hX:∀ k,k < w0.heap.size→X k) :
  Calls Tryz.prog 21 #[.pointer (some ⟨br,0,none⟩),.agg #[.int .i64 xc,.int .i64 xn,.string xd,.int .i64 xe,.slice xo xL.length xp,.int .i64 xm,.int .i64 xs,.int .i64 xy],.bool c] w fun e w'=>e=.returned (.tuple #[])∧Side (RR rr) (RG br) X w' r (r2.hear ⟨xc,xn,xd,xe,xL,xm,xs,xy⟩ c)∧Kept X w w' :=
 side_rightX (R:=fun e=>e=.returned (.tuple #[])) (z0j rr) hs (fun G hG hX2=>RS.hear br G w r2 ⟨xc,xn,xd,xe,xL,xm,xs,xy⟩ xo xp c hG hf he (fun _=>hn) (fun W hW=>hx.below (hB.trans (hW.toBelow hz (fun k hk=>hX2 k (hX k hk))))))
def LookR (RG:Nat→(Nat→Prop)→World→Rf→Prop) (w:World) (rr br:Nat) (r:Rf) (W:World):Prop:=Side (RR rr) (RG br) (fun k=>k < w.heap.size) W r r∧Below w.heap.size w W∧w.heap.size≤W.heap.size
theorem LookR.on (RS:RfmSays RG) (h:LookR RG w0 rr br r w) (hb:Below w.heap.size w w'):LookR RG w0 rr br r w' :=
 ⟨h.1.below (z0j rr) (RS.thing br) hb,h.2.1.trans (hb.mono h.2.2),Nat.le_trans h.2.2 hb.size⟩
end
end Go.Proofs.YtkefpbcifcjibaaGreat
