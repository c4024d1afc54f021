/- Joined texts. -/
import Derived.Deep.RegionHeldLaw
import Derived.Test.YtkefpbcifcjibaaGreatG21a
import Derived.Test.YtkefpbcifcjibaaGreatG18a
import Derived.Test.YtkefpbcifcjibaaGreatG20a
import Derived.Test.YtkefpbcifcjibaaGreatG11a
import Derived.Test.YtkefpbcifcjibaaGreatG03a
import Derived.Deep.RegionHeld3
import Derived.BigQuiet
import Derived.Test.YtkefpbcifcjibaaGreatG04a
import Derived.Test.YtkefpbcifcjibaaGreatG12a
import Derived.Test.YtkefpbcifcjibaaGreatG07a
import Derived.Test.YtkefpbcifcjibaaGreatG17a
import Derived.Test.YtkefpbcifcjibaaGreatH00
set_option linter.unusedVariables false
set_option maxRecDepth 20000
set_option maxHeartbeats 16000000
namespace Go.Proofs.YtkefpbcifcjibaaGreat
open Go.RowKit
section
variable {NG:Nat→(Nat→Prop)→World→Nd→Prop} {Z:List Ak} {b nb:Nat} {G:Nat→Prop} {w:World} {h:Hd}
theorem hold_no (b nb:Nat) (G:Nat→Prop) (w:World) (h:Hd) (a:Ak) (hh:HMz NG Z b nb G w h) (hl:¬ h.held.length < 64) :
  Calls Tryz.prog 78 #[.pointer (some ⟨b,0,none⟩),askV a] w fun e w'=>e=.returned (.tuple #[])∧Below w.heap.size w w':=by
 obtain ⟨v,l,hc,hR,hm,_⟩:=hh.cells
 obtain ⟨vo,vc,rfl,_,_,_,_,_⟩:=hR.form
 obtain ⟨c0,c1,_,_⟩:=z05 hc
 have hb:=hh.small
 have k0:(64:Int)≤(l.length:Int):=by rw [← hm,List.length_map] at hl;omega
 clear hh hc hR hm hl
 obtain ⟨k,un,ep,pg,sz,nn,s,pe,L,ao,cap⟩:=a
 show Calls _ _ #[.pointer (some ⟨b,0,none⟩),.agg #[.int .i64 k,.int .i64 un,.int .i64 ep,.int .i64 pg,.int .i64 sz,.int .i64 nn,.string s,.int .i64 pe,.slice ao L.length cap]] w _
 go_enter Tryz.func78,Tryz.ntmps78
 go_wp2_with fail
 go_end0
 exact ⟨rfl,(Below.refl _ _).alloc (Nat.le_refl _) _⟩
theorem hold_yes (hN:∀ b,Thing (NG b)) (b nb:Nat) (G:Nat→Prop) (w:World) (h:Hd) (a:Ak) (hh:HMz NG [] b nb G w h) (ha:HeldOk a) (hC:∀ W,Kept (fun k=>¬ G k) w W→CL W a.ao a.L) (hl:h.held.length < 64) :
  Calls Tryz.prog 78 #[.pointer (some ⟨b,0,none⟩),askV a] w fun e w'=>e=.returned (.tuple #[])∧Leaves (HMz NG [] b nb) G w w' ⟨h.n,h.held ++ [a.plain]⟩:=by
 have hb0:=z00 w (.cells (askC a).toArray 34)
 have hh0:=(z0t hN [] b nb).keep hh (Kept.ofBelow hb0 (fun _=>True)) (fun _ _=>trivial)
 have hq:=heap_alloc_new w (.cells (askC a).toArray 34)
 have hlt:=(z0t hN [] b nb).lt hh
 generalize hW0:w.alloc (.cells (askC a).toArray 34)=W0 at *
 obtain ⟨v,l,hc,hR,hm,hok,hGv,hlay⟩:=hh0.opened hN
 have hml:l.length=h.held.length:=by rw [← hm,List.length_map]
 have hb:=hh0.small
 have hbv:v.ownBlock≠some b:=fun e=>(hGv b e).2 rfl
 have hqv:v.ownBlock≠some w.heap.size:=fun e=>by have:=hlt _ (hGv _ e).1;omega
 have hql:=lt_of_block hq
 have HL:=Lh (fun (w2:World) (a2:Ak) (v2:Value) (D:Nat→Prop) (e2:a2.plain=a.plain) (hk:Kept (fun k=>v.ownBlock≠some k) W0 w2) (hO:OR 34 9 askC w2 0 v2 (l ++ [a2])) (hv:∀ k,v2.ownBlock=some k→v.ownBlock=some k∨W0.heap.size≤k) (hD:∀ k,D k→W0.heap.size≤k∧k < w2.heap.size∧v2.ownBlock≠some k) (ho:HeldOk a2∧CK D w2 a2)=>show Leaves (HMz NG [] b nb) G w (w2.setCell ⟨b,1,none⟩ v2) ⟨h.n,h.held ++ [a.plain]⟩ from by
  have r:=hlay W0 (Below.refl _ _) w2 v2 (l ++ [a2]) [] D hk (.inl hO) hv hD (by rw [List.length_append,hml];simp;omega) (fun x hx=>by
   rcases hx with hx | hx
   ·rcases List.mem_append.1 hx with hx | hx
    ·exact .inl hx
    ·obtain rfl:=List.mem_singleton.1 hx
     exact .inr (.inr ho)
   ·cases hx)
  rw [List.map_append,hm,List.map_singleton,e2] at r
  exact r.ahead hlt hb0)
 have HC:=Lh (fun W (hk:Kept (fun k=>v.ownBlock≠some k) W0 W)=>hC W (((Kept.ofBelow hb0 _).trans (hk.mono (fun k hg e=>hg (hGv k e).1)))))
 have HA:=Lh ha
 have HR:=Lh hR
 have HB:=Lh hc
 obtain ⟨vo,vc,hv,_,_,_,_,_⟩:=hR.form
 have c1:=z02 hc 1
 obtain ⟨c2,_⟩:=z05 hc
 have k0:(l.length:Int) < 64:=by omega
 have hl64:=Lh (show l.length+1≤1000000 from by omega)
 clear hh hh0 hc hR hm hok hlay hC ha hlt hb0 hl hml
 obtain ⟨k,un,ep,pg,sz,nn,s,pe,L,ao,cap⟩:=a
 obtain ⟨⟨q0,q1,q2,q3,q4,q5,q6,q7,q8⟩,_⟩:=z0g hq
 subst hv
 have eW:w.alloc (.cells #[.int .i64 k,.int .i64 un,.int .i64 ep,.int .i64 pg,.int .i64 sz,.int .i64 nn,.string s,.int .i64 pe,.slice ao L.length cap] 34)=W0:=hW0
 have cw:(w.alloc (.cells #[.int .i64 k,.int .i64 un,.int .i64 ep,.int .i64 pg,.int .i64 sz,.int .i64 nn,.string s,.int .i64 pe,.slice ao L.length cap] 34)).cell? ⟨b,1,none⟩=some (.slice vo l.length vc):=by rw [eW];exact c1
 have EW:=Lh eW
 clear hq hW0 eW
 show Calls _ _ #[.pointer (some ⟨b,0,none⟩),.agg #[.int .i64 k,.int .i64 un,.int .i64 ep,.int .i64 pg,.int .i64 sz,.int .i64 nn,.string s,.int .i64 pe,.slice ao L.length cap]] w _
 go_enter Tryz.func78,Tryz.ntmps78
 go_wp2_with fail
 rw [EW.out]
 clear cw EW
 go_region_law (first
  | (refine step_app_held rfl (.tmp 14) (.tmp 17) rfl rfl (HR.out.keep (Kept.ofBelow (HB1.out.trans ((z00 w1 _).mono HB1.out.size)) (fun _=>True)) (fun _ _=>trivial)) (N:=[(⟨k,un,ep,pg,sz,nn,s,pe,L,a1,n1⟩:Ak)]) (m:=1) (ad:=⟨w1.heap.size,0,none⟩) (cap:=1) rfl rfl hone (by decide) (Nat.le_refl _) hl64.out ?_;intro v2 w2 hI hg2 hv2;obtain ⟨a2,k2,hw2,_,_,_,_,_,_⟩:=hI.form ask_rows;rw [List.length_append,List.length_singleton] at hw2;subst hw2;have HI2:=Lh hI;have HV2:=Lh hv2;have HK2:=Lh (show Kept (fun k=>(Value.slice vo l.length vc).ownBlock≠some k) w1 w2 from ((Kept.refl _ w1).alloc _).grown hg2 (fun k e h=>h e));have qf:=z0a (HK2.out.heap hbv (z01 HB1.out HB.out)) 1;have qc:=(z05 (HK2.out.heap hbv (z01 HB1.out HB.out))).2.1;have qr:=Nat.lt_of_lt_of_le db HK2.out.size;clear hI hv2)
  | (go_simp;go_at_call 112;refine (apart_any ⟨k,un,ep,pg,sz,nn,s,pe,L,ao,cap⟩ _ HA.out (HC.out _ (Kept.refl _ W0).drew)).mono ?_;rintro e w1 ⟨a1,n1,he,ho1,hk1,hb1⟩;obtain rfl:e=.returned (.agg #[.int .i64 k,.int .i64 un,.int .i64 ep,.int .i64 pg,.int .i64 sz,.int .i64 nn,.string s,.int .i64 pe,.slice a1 L.length n1]):=he;have HB1:=Lh (show Below W0.heap.size W0 w1 from (Below.refl W0.heap.size W0).drew.trans hb1);have HC1:=Lh (show CK (fun k=>W0.heap.size≤k∧k < w1.heap.size) w1 (⟨k,un,ep,pg,sz,nn,s,pe,L,a1,n1⟩:Ak) from hk1);have HO1:=Lh ho1;have hone:=Row.one (f:=askC) (n:=9) (x:=(⟨k,un,ep,pg,sz,nn,s,pe,L,a1,n1⟩:Ak)) (heap_alloc_new w1 (.cells #[.int .i64 k,.int .i64 un,.int .i64 ep,.int .i64 pg,.int .i64 sz,.int .i64 nn,.string s,.int .i64 pe,.slice a1 L.length n1] 34));have d1:=z0s HB1.out hb (show W0.cell? ⟨b,1,none⟩=some (.slice vo l.length vc) from c1);have db:=Nat.lt_of_lt_of_le hb HB1.out.size;clear ho1 hk1))
 all_goals
  go_wp2_with fail
  go_end0
  refine ⟨rfl,HL.out w2 ⟨k,un,ep,pg,sz,nn,s,pe,L,a1,n1⟩ _ (fun k=>W0.heap.size≤k∧k < w1.heap.size) rfl ((Kept.ofBelow HB1.out _).trans HK2.out) HI2.out (fun j e=>?_) (fun j hj=>⟨hj.1,Nat.lt_of_lt_of_le hj.2 HK2.out.size,fun e=>?_⟩) ⟨HO1.out,HC1.out.keep HK2.out (fun j hj e=>?_)⟩⟩
  ·rcases HV2.out j e with h | h
   ·exact .inl h
   ·have:=HB1.out.size;simp at h;exact .inr (by omega)
  ·rcases HV2.out j e with h | h
   ·have:=HR.out.lt j h;omega
   ·have:=hj.2;simp at h;omega
  ·have:=HR.out.lt j e;have:=hj.1;omega
end
def apC (q:Qa) (v:Value):Array Value:=#[.int .i64 q.ep,v,.string q.txt,.int .i64 q.at_,.int .i64 q.was,.int .i64 q.addr,.int .i64 q.unit,.bool q.may,.int .i64 q.err]
def AQ (b:Nat) (G:Nat→Prop) (w:World) (q:Qa):Prop :=
 ∃ (v:Value) (F:Nat→Prop),w.heap[b]?=some (.cells (apC q v) 134 (0,0))∧CG F w v q.L∧G b∧(∀ k,F k→G k∧k≠b)∧∀ k,G k→k < w.heap.size
theorem z1f (b:Nat):Thing (AQ b) where
 lt:=by
  rintro G w q ⟨v,F,_,_,_,_,h⟩ k hk
  exact h k hk
 keep:=by
  rintro G S w w' q ⟨v,F,h1,h2,h3,h4,h5⟩ hk hS
  exact ⟨v,F,hk.heap (hS b h3) h1,h2.keep hk (fun k hf=>hS k (h4 k hf).1),h3,h4,fun k hg=>Nat.lt_of_lt_of_le (h5 k hg) hk.size⟩
def AM (b:Nat) (G:Nat→Prop) (w:World) (a:Ap):Prop:=∃ q,SimA q a∧AQ b G w q
theorem am_thing (b:Nat):Thing (AM b) where
 lt:=by
  rintro G w a ⟨q,_,h⟩ k hk
  exact (z1f b).lt h k hk
 keep:=by
  rintro G S w w' a ⟨q,h0,h⟩ hk hS
  exact ⟨q,h0,(z1f b).keep h hk hS⟩
section
variable {w W W2:World} {b:Nat} {G H:Nat→Prop} {q q':Qa}
theorem AQ.small (h:AQ b G w q):b < w.heap.size:=by
 obtain ⟨_,_,h1,_⟩:=h
 exact lt_of_block h1
theorem AQ.below (h:AQ b G w q) {w':World} (hb:Below w.heap.size w w'):AQ b G w' q:=(z1f b).keep h (Kept.ofBelow hb (fun _=>True)) (fun _ _=>trivial)
theorem AQ.open (h:AQ b G w q):∃ ao cap,w.heap[b]?=some (.cells #[.int .i64 q.ep,.slice ao q.L.length cap,.string q.txt,.int .i64 q.at_,.int .i64 q.was,.int .i64 q.addr,.int .i64 q.unit,.bool q.may,.int .i64 q.err] 134 (0,0))∧CL w ao q.L∧
  ∀ (W:World) (q':Qa),Kept (fun k=>k≠b) w W→q'.L=q.L→W.heap[b]?=some (.cells #[.int .i64 q'.ep,.slice ao q.L.length cap,.string q'.txt,.int .i64 q'.at_,.int .i64 q'.was,.int .i64 q'.addr,.int .i64 q'.unit,.bool q'.may,.int .i64 q'.err] 134 (0,0))→Leaves (AQ b) G w W q':=by
 obtain ⟨v,F,h1,h2,h3,h4,h5⟩:=h
 obtain ⟨ao,cap,rfl,h9,_⟩:=h2.cl
 refine ⟨ao,cap,h1,h9,fun W q' hk hL hW=>⟨G,⟨_,F,hW,?_,h3,h4,fun k hg=>Nat.lt_of_lt_of_le (h5 k hg) hk.size⟩,hk.mono (fun k hn e=>hn (e ▸ h3)),fun k hk=>.inl hk⟩⟩
 rw [hL]
 exact h2.keep hk (fun k hf=>(h4 k hf).2)
theorem AQ.chains (h:AQ b G w q) (hb:Below w.heap.size w W) {e:Int} {v:Value} {L:List (List Int)} (hO:OC W w.heap.size v L) (hk:Kept (fun k=>k≠b) W W2)
  (hW:W2.heap[b]?=some (.cells #[.int .i64 e,v,.string q.txt,.int .i64 2,.int .i64 q.was,.int .i64 q.addr,.int .i64 q.unit,.bool q.may,.int .i64 q.err] 134 (0,0))):Leaves (AQ b) G w W2 (q.proj e L):=by
 obtain ⟨v0,F,h1,h2,h3,h4,h5⟩:=h
 have hr:=lt_of_block h1
 have hs:=hk.size
 refine ⟨fun k=>G k∨(w.heap.size≤k∧k < W.heap.size),⟨v,fun k=>w.heap.size≤k∧k < W.heap.size,hW,?_,.inl h3,fun k hk2=>⟨.inr hk2,by omega⟩,fun k hk2=>?_⟩,(Kept.ofBelow hb _).trans (hk.mono (fun k hn e=>hn (e ▸ h3))),fun k hk2=>hk2.imp id (fun h=>h.1)⟩
 ·exact (CG.of hO).keep hk (fun k hk=>by omega)
 ·rcases hk2 with hk2 | hk2
  ·exact Nat.lt_of_lt_of_le (h5 k hk2) (Nat.le_trans hb.size hs)
  ·omega
end
def MG (F:Nat→Prop) (w:World) (v:Value) (K:List (Int × Int)):Prop:=∃ mb,v=.map (some mb)∧Tm w mb K∧F mb
theorem Tm.keepK {S:Nat→Prop} {w w':World} {b:Nat} {K:List (Int × Int)} (h:Tm w b K) (hk:Kept S w w') (hb:S b):Tm w' b K:=by
 obtain ⟨D,⟨es,clock,h1,h2⟩,h3⟩:=h
 exact ⟨D,⟨es,clock,hk.heap hb h1,h2⟩,h3⟩
theorem MG.keep {F S:Nat→Prop} {w w':World} {v:Value} {K:List (Int × Int)} (h:MG F w v K) (hk:Kept S w w') (hS:∀ k,F k→S k):MG F w' v K:=by
 obtain ⟨mb,h1,h2,h3⟩:=h
 exact ⟨mb,h1,h2.keepK hk (hS _ h3),h3⟩
theorem MG.mono {F F':Nat→Prop} {w:World} {v:Value} {K:List (Int × Int)} (h:MG F w v K) (hF:∀ k,F k→F' k):MG F' w v K:=by
 obtain ⟨mb,h1,h2,h3⟩:=h
 exact ⟨mb,h1,h2,hF _ h3⟩
theorem nli_tail {w:World} {bk off off2 cap:Nat} {u:Int} {us:List Int} (h:NLI w (some ⟨bk,off,none⟩) cap (u :: us)) (h2:off2=off+1∨us=[]):NLI w (some ⟨bk,off2,none⟩) (cap - 1) us:=by
 refine ⟨fun i hi=>?_,(fun e=>by cases e),by have:=h.2.2;simp at this;omega⟩
 rcases h2 with rfl | rfl
 ·obtain ⟨⟨b2,o2,e,h2⟩,h3⟩:=h.1 (i+1) (by simp;omega)
  obtain ⟨rfl,rfl,_⟩:=Addr.mk.inj (Option.some.inj e)
  refine ⟨⟨bk,off+1,rfl,?_⟩,h3⟩
  rw [show off+1+i=off+(i+1) by omega]
  exact h2
 ·exact absurd hi (Nat.not_lt_zero _)
theorem nli_keep {S:Nat→Prop} {w w':World} {bk off cap:Nat} {l:List Int} (h:NLI w (some ⟨bk,off,none⟩) cap l) (hk:Kept S w w') (hS:S bk):NLI w' (some ⟨bk,off,none⟩) cap l:=by
 refine ⟨fun i hi=>?_,h.2.1,h.2.2⟩
 obtain ⟨⟨b2,o2,e,h2⟩,h3⟩:=h.1 i hi
 obtain ⟨rfl,rfl,_⟩:=Addr.mk.inj (Option.some.inj e)
 refine ⟨⟨bk,off,rfl,?_⟩,h3⟩
 have hl:=block_lt_of_cell h2
 unfold World.cell? at *
 rw [hk.block bk hS hl]
 exact h2
structure RmOk (r:Rf):Prop where
 range:1≤r.at_∧r.at_≤4
 qf:fewL r.qL
 of_:fewL r.oL
 one:r.at_=1→r.oL=[]∧r.i=0∧r.tails=[]
 two:r.at_=2→r.i < (unitsR r.oL).length
 few:∀ u ∈ unitsR r.oL,0≤u∧u≤15
 once:(unitsR r.oL).Nodup
 len:(unitsR r.oL).length≤16
 tl:∀ x ∈ r.tails,x.1 ∈ (unitsR r.oL).take r.i
 tn:r.tails.length≤r.i
structure RmP (F:Nat→Prop) (w:World) (r:Rf) (v1 v2 v3:Value):Prop where
 q:CG F w v1 r.qL
 o:CG F w v2 r.oL
 l:UG1 F w v3 ((unitsR r.oL).drop r.i)
theorem RmP.keep {F S:Nat→Prop} {w w':World} {r:Rf} {v1 v2 v3:Value} (h:RmP F w r v1 v2 v3) (hk:Kept S w w') (hS:∀ k,F k→S k):RmP F w' r v1 v2 v3 :=
 ⟨h.q.keep hk hS,h.o.keep hk hS,h.l.keep hk hS⟩
def MapP (M:Nat→Prop) (w:World) (r:Rf) (v4:Value):Prop:=(r.at_=1∧v4=.map none)∨(r.at_≠1∧MG M w v4 r.tails)
theorem MapP.keep {M S:Nat→Prop} {w w':World} {r:Rf} {v4:Value} (h:MapP M w r v4) (hk:Kept S w w') (hS:∀ k,M k→S k):MapP M w' r v4:=h.imp id (fun ⟨h1,h2⟩=>⟨h1,h2.keep hk hS⟩)
def RfM (b:Nat) (G:Nat→Prop) (w:World) (r:Rf):Prop :=
 G b∧(∀ k,G k→k < w.heap.size)∧
 ((r.at_=5∧w.heap[b]?=some (.cells #[.int .i64 0,.slice none 0 0,.int .i64 0,.slice none 0 0,.int .i64 4,.slice none 0 0,.map none,.int .i64 r.e] 93 (0,0)))∨
  (r.at_≠5∧RmOk r∧∃ (v1 v2 v3 v4:Value) (F:Nat→Prop),w.heap[b]?=some (.cells #[.int .i64 r.qe,v1,.int .i64 r.oe,v2,.int .i64 (r.at_ - 1),v3,v4,.int .i64 0] 93 (0,0))∧RmP F w r v1 v2 v3∧MapP (fun k=>G k∧k≠b∧¬ F k) w r v4∧∀ k,F k→G k∧k≠b))
theorem z1v (b:Nat):Thing (RfM b) where
 lt:=by
  rintro G w r ⟨_,h,_⟩ k hk
  exact h k hk
 keep:=by
  rintro G S w w' r ⟨h1,h2,h3⟩ hk hS
  refine ⟨h1,fun k hg=>Nat.lt_of_lt_of_le (h2 k hg) hk.size,?_⟩
  rcases h3 with ⟨h3,h4⟩ | ⟨h3,h4,v1,v2,v3,v4,F,h5,h6,hm,h7⟩
  ·exact .inl ⟨h3,hk.heap (hS b h1) h4⟩
  ·exact .inr ⟨h3,h4,v1,v2,v3,v4,F,hk.heap (hS b h1) h5,h6.keep hk (fun k hf=>hS k (h7 k hf).1),hm.keep hk (fun k hf=>hS k hf.1),h7⟩
section
variable {w W W2:World} {b:Nat} {G:Nat→Prop} {r r':Rf}
theorem RfM.below (h:RfM b G w r) (hb:Below w.heap.size w W):RfM b G W r:=(z1v b).keep h (Kept.ofBelow hb (fun _=>True)) (fun _ _=>trivial)
theorem RfM.small (h:RfM b G w r):b < w.heap.size:=h.2.1 b h.1
theorem RfM.shut (h:RfM b G w r) (h5:r.at_=5):w.heap[b]?=some (.cells #[.int .i64 0,.slice none 0 0,.int .i64 0,.slice none 0 0,.int .i64 4,.slice none 0 0,.map none,.int .i64 r.e] 93 (0,0)):=by
 rcases h.2.2 with ⟨_,h⟩ | ⟨h,_⟩
 ·exact h
 ·exact absurd h5 h
theorem RfM.open (h:RfM b G w r) (h5:r.at_≠5):RmOk r∧∃ (v1 v2 v3 v4:Value) (F:Nat→Prop),w.heap[b]?=some (.cells #[.int .i64 r.qe,v1,.int .i64 r.oe,v2,.int .i64 (r.at_ - 1),v3,v4,.int .i64 0] 93 (0,0))∧RmP F w r v1 v2 v3∧MapP (fun k=>G k∧k≠b∧¬ F k) w r v4∧∀ k,F k→G k∧k≠b:=by
 rcases h.2.2 with ⟨h,_⟩ | ⟨_,h⟩
 ·exact absurd h h5
 ·exact h
theorem RfM.cell4 (h:RfM b G w r):w.cell? ⟨b,4,none⟩=some (.int .i64 (r.at_ - 1)):=by
 rcases h.2.2 with ⟨e,h⟩ | ⟨_,_,v1,v2,v3,v4,F,h,_⟩
 ·rw [e]
  exact z02 h 4
 ·exact z02 h 4
theorem RfM.shuts (h:RfM b G w r) (hk:Kept (fun k=>k≠b) w W) (h5:r'.at_=5) (hW:W.heap[b]?=some (.cells #[.int .i64 0,.slice none 0 0,.int .i64 0,.slice none 0 0,.int .i64 4,.slice none 0 0,.map none,.int .i64 r'.e] 93 (0,0))):Leaves (RfM b) G w W r' :=
 ⟨G,⟨h.1,fun k hg=>Nat.lt_of_lt_of_le (h.2.1 k hg) hk.size,.inl ⟨h5,hW⟩⟩,hk.mono (fun k hn e=>hn (e ▸ h.1)),fun k hk=>.inl hk⟩
theorem RfM.lay (h:RfM b G w r) {D:Nat→Prop} {v1 v2 v3 v4:Value} (hD:∀ k,D k→(G k∨(w.heap.size≤k∧k < W.heap.size))∧k≠b) (hk:Kept (fun k=>¬ G k) w W) (h5:r'.at_≠5) (hr:RmOk r')
  (hp:RmP D W r' v1 v2 v3) (hm:MapP (fun k=>(G k∨(w.heap.size≤k∧k < W.heap.size))∧k≠b∧¬ D k) W r' v4)
  (hW:W.heap[b]?=some (.cells #[.int .i64 r'.qe,v1,.int .i64 r'.oe,v2,.int .i64 (r'.at_ - 1),v3,v4,.int .i64 0] 93 (0,0))):Leaves (RfM b) G w W r':=by
 refine ⟨fun k=>G k∨(w.heap.size≤k∧k < W.heap.size),⟨.inl h.1,fun k hk2=>?_,.inr ⟨h5,hr,v1,v2,v3,v4,D,hW,hp,hm,hD⟩⟩,hk,fun k h=>h.imp id (fun h=>h.1)⟩
 rcases hk2 with hk2 | hk2
 ·exact Nat.lt_of_lt_of_le (h.2.1 k hk2) hk.size
 ·exact hk2.2
theorem RfM.seal (h:RfM b G w r) (e:r.at_=2):∃ (a1:Option Addr) (c1:Nat) (a2:Option Addr) (c2:Nat) (bk off lc:Nat) (us:List Int) (mb:Nat),
  w.heap[b]?=some (.cells #[.int .i64 r.qe,.slice a1 r.qL.length c1,.int .i64 r.oe,.slice a2 r.oL.length c2,.int .i64 1,.slice (some ⟨bk,off,none⟩) (us.length+1) lc,.map (some mb),.int .i64 0] 93 (0,0))∧
  NLI w (some ⟨bk,off,none⟩) lc (r.unit :: us)∧us.length≤1000∧CL w a1 r.qL∧Tm w mb r.tails∧mb≠b∧G mb∧RmOk r∧
  ∀ (W:World) (K:List (Int × Int)) (off2:Nat),(off2=off+1∨us=[])→Kept (fun k=>k≠b∧k≠mb) w W→Tm W mb K→(∀ x ∈ K,x ∈ r.tails∨x.1=r.unit)→K.length≤r.i+1→
   W.heap[b]?=some (.cells #[.int .i64 r.qe,.slice a1 r.qL.length c1,.int .i64 r.oe,.slice a2 r.oL.length c2,.int .i64 (if us=[] then 2 else 1),.slice (some ⟨bk,off2,none⟩) us.length (lc - 1),.map (some mb),.int .i64 0] 93 (0,0))→Leaves (RfM b) G w W (r.next K):=by
 obtain ⟨hok,v1,v2,v3,v4,F,h1,⟨hq,ho,hl⟩,hm,hF⟩:=h.open (by omega)
 obtain ⟨a1,c1,rfl,q1,_,_⟩:=(id hq).cl
 obtain ⟨a2,c2,rfl,_,_,_⟩:=(id ho).cl
 have hi:=hok.two e
 have hd:(unitsR r.oL).drop r.i=r.unit :: (unitsR r.oL).drop (r.i+1):=by
  rw [List.drop_eq_getElem_cons hi]
  congr 1
  unfold Rf.unit
  simp [hi]
 have hul:=List.length_drop (i:=r.i+1) (l:=unitsR r.oL)
 generalize hus:(unitsR r.oL).drop (r.i+1)=us at *
 rw [hd] at hl
 obtain ⟨lo,lc,rfl,l1,l2⟩:=hl
 obtain ⟨bk,off,rfl,_⟩:=l1.at 0 (by simp)
 rcases hm with ⟨g,_⟩ | ⟨_,mb,rfl,m1,m2,m3,m4⟩
 ·omega
 rw [e] at h1
 have h16:=hok.len
 refine ⟨a1,c1,a2,c2,bk,off,lc,us,mb,h1,l1,by omega,q1,m1,m3,m2,hok,fun W K off2 ho2 hk hT hK hKl hW=>?_⟩
 have hS:∀ k,F k→k≠b∧k≠mb:=fun k hf=>⟨(hF k hf).2,fun e=>m4 (e ▸ hf)⟩
 have hus0:(us=[])↔r.i+1=(unitsR r.oL).length:=by
  constructor
  ·intro g;rw [g] at hul;simp at hul;omega
  ·intro g;exact List.eq_nil_of_length_eq_zero (by omega)
 have hat:(r.next K).at_ - 1=if us=[] then 2 else 1:=by
  show (if r.i+1=(unitsR r.oL).length then (3:Int) else 2) - 1=_
  by_cases g:us=[]
  ·rw [if_pos g,if_pos (hus0.1 g)];rfl
  ·rw [if_neg g,if_neg (fun g2=>g (hus0.2 g2))];rfl
 have hat2:(r.next K).at_=2∨(r.next K).at_=3:=by
  show (if r.i+1=(unitsR r.oL).length then (3:Int) else 2)=2∨(if r.i+1=(unitsR r.oL).length then (3:Int) else 2)=3
  split
  ·exact .inr rfl
  ·exact .inl rfl
 have htk:(unitsR r.oL).take (r.i+1)=(unitsR r.oL).take r.i ++ [r.unit]:=by
  rw [List.take_succ_eq_append_getElem hi]
  congr 2
  unfold Rf.unit
  simp [hi]
 refine h.lay (r':=r.next K) (D:=F) (fun k hf=>⟨.inl (hF k hf).1,(hF k hf).2⟩) (hk.mono (fun k hg=>⟨fun e=>hg (e ▸ h.1),fun e=>hg (e ▸ m2)⟩)) (by omega) ⟨⟨by omega,by omega⟩,hok.qf,hok.of_,fun g=>by omega,fun g=>?_,hok.few,hok.once,hok.len,fun x hx=>?_,hKl⟩ ⟨hq.keep hk hS,ho.keep hk hS,?_⟩ (.inr ⟨by omega,mb,rfl,hT,.inl m2,m3,m4⟩) (by rw [hat];exact hW)
 ·show r.i+1 < (unitsR r.oL).length
  have g2:(if r.i+1=(unitsR r.oL).length then (3:Int) else 2)=2:=g
  split at g2
  ·omega
  ·omega
 ·show x.1 ∈ (unitsR r.oL).take (r.i+1)
  rw [htk,List.mem_append]
  rcases hK x hx with g | g
  ·exact .inl (hok.tl x g)
  ·exact .inr (List.mem_singleton.2 g)
 ·show UG1 F W _ ((unitsR r.oL).drop (r.i+1))
  rw [hus]
  refine ⟨_,_,rfl,?_,fun a e=>by cases e;exact ⟨(l2 _ rfl).1,Nat.lt_of_lt_of_le (l2 _ rfl).2 hk.size⟩⟩
  exact nli_tail (nli_keep l1 hk (hS _ (l2 _ rfl).1)) ho2
end
section
variable {α:Type} {T:(Nat→Prop)→World→α→Prop} {X:Nat→Prop} {w w':World} {a:α}
theorem side_rightX {β:Type} {U:(Nat→Prop)→World→β→Prop} {b b':β} {P:Program} {fn:FuncId} {args:Array Value} {R:Ending→Prop} (hT:Thing T) (h:Side T U X w a b) (hc:∀ G:Nat→Prop,U G w b→(∀ k,X k→¬ G k)→Calls P fn args w fun e w'=>R e∧Leaves U G w w' b') :
  Calls P fn args w fun e w'=>R e∧Side T U X w' a b'∧Kept X w w':=by
 obtain ⟨h1,F,G,h2,h3,h4,h5⟩:=h
 refine (hc G h3 (fun k hk=>(h4 k hk).2)).mono ?_
 rintro e w' ⟨he,G',r1,r2,r3⟩
 refine ⟨he,⟨fun k hk=>Nat.lt_of_lt_of_le (h1 k hk) r2.size,F,G',hT.keep h2 r2 (fun k hf hg=>h5 k hf hg),r1,fun k hk=>⟨(h4 k hk).1,fun hg=>?_⟩,fun k hf hg=>?_⟩,r2.mono (fun k hk=>(h4 k hk).2)⟩
 ·rcases r3 k hg with h | h
  ·exact (h4 k hk).2 h
  ·have:=h1 k hk;omega
 ·rcases r3 k hg with h | h
  ·exact h5 k hf h
  ·have:=hT.lt h2 k hf;omega
theorem z1e {F:Nat→Prop} {W:World} {ao:Option Addr} {n cap:Nat} {L:List (List Int)} (h:CG F W (.slice ao n cap) L):CL W ao L:=by
 obtain ⟨a2,c2,hv,h2,_⟩:=h.cl
 rw [(Value.slice.inj hv).1]
 exact h2
end
section
variable {UG:Nat→Nat→(Nat→Prop)→World→Us→Prop} {OG:Nat→(Nat→Prop)→World→Od→Prop} {LG:Nat→(Nat→Prop)→World→Ly→Prop} {NG:Nat→(Nat→Prop)→World→Nd→Prop} {HG:Nat→Nat→(Nat→Prop)→World→Hd→Prop} {X:Nat→Prop} {w:World} {b nb:Nat} {h:Hd}
theorem hs_tell {β:Type} {U:(Nat→Prop)→World→β→Prop} {u:β} (HS:HandSays UG OG LG NG HG) (hU:Thing U) (hs:Side (HG b nb) U X w h u) {k un e p fate:Int} {s:ByteArray} (hk:i64w k) (hu:i64w un) (he:i64w e) (hp:i64w p) (hd:s.size≤1000000) (hl:h.n.l.used.length≤100000) (hf:i64w fate)
  {xc xn pe xm xz xe:Int} {xd:ByteArray} {L:List (List Int)} (hx:h.heard (akN k un e p s) fate=⟨xc,xn,xd,pe,L,xm,xz,xe⟩) :
  Calls Tryz.prog 41 #[.pointer (some ⟨b,0,none⟩),.agg #[.int .i64 k,.int .i64 un,.int .i64 e,.int .i64 p,.int .i64 0,.int .i64 0,.string s,.int .i64 0,.slice none 0 0],.int .i64 fate] w fun e2 w'=>∃ (vo:Option Addr) (vc:Nat) (C:Nat→Prop),
   e2=.returned (.tuple #[.agg #[.int .i64 xc,.int .i64 xn,.string xd,.int .i64 pe,.slice vo L.length vc,.int .i64 xm,.int .i64 xz,.int .i64 xe],.bool (decide (fate=0))])∧CG C w' (.slice vo L.length vc) L∧Side (HG b nb) U (fun k=>X k∨C k) w' (h.asked (akN k un e p s) fate) u∧Kept X w w':=by
 have ho:AkOk (akN k un e p s):=akN_ok hk hu he hp hd
 refine (side_told (mk:=heardT (h.heard (akN k un e p s) fate) (decide (fate=0))) (x:=h.heard (akN k un e p s) fate) (a':=h.asked (akN k un e p s) fate) (HS.thing b nb) hU hs (fun F hF hX=>HS.ask b nb F w h (akN k un e p s) fate hF ho few_nil hd hl hf (fun W _=>CL.nil _ _))).mono ?_
 rintro e2 w' ⟨ao,cap,C,rfl,h1,h2,h3⟩
 rw [hx] at h1 ⊢
 exact ⟨ao,cap,C,rfl,h1,h2,h3⟩
theorem hs_brings {β:Type} {U:(Nat→Prop)→World→β→Prop} {u:β} (HS:HandSays UG OG LG NG HG) (hU:Thing U) (hs:Side (HG b nb) U X w h u) {a:Ak} {fate:Int} (ho:AkOk a) (hL:fewL a.L) (hd:a.data.size≤1000000) (hl:h.n.l.used.length≤100000) (hf:i64w fate) {C:Nat→Prop} (hC:CG C w (.slice a.ao a.L.length a.cap) a.L) (hX:∀ k,C k→X k)
  {xc xn pe xm xz xe:Int} {xd:ByteArray} {L:List (List Int)} (hx:h.heard a fate=⟨xc,xn,xd,pe,L,xm,xz,xe⟩) :
  Calls Tryz.prog 41 #[.pointer (some ⟨b,0,none⟩),askV a,.int .i64 fate] w fun e2 w'=>∃ (vo:Option Addr) (vc:Nat) (D:Nat→Prop),
   e2=.returned (.tuple #[.agg #[.int .i64 xc,.int .i64 xn,.string xd,.int .i64 pe,.slice vo L.length vc,.int .i64 xm,.int .i64 xz,.int .i64 xe],.bool (decide (fate=0))])∧CG D w' (.slice vo L.length vc) L∧Side (HG b nb) U (fun k=>X k∨D k) w' (h.asked a.plain fate) u∧Kept X w w':=by
 refine (side_told (mk:=heardT (h.heard a fate) (decide (fate=0))) (x:=h.heard a fate) (a':=h.asked a.plain fate) (HS.thing b nb) hU hs (fun F hF hX2=>HS.ask b nb F w h a fate hF ho hL hd hl hf (fun W hW=>z1e (hC.keep hW (fun k hk=>hX2 k (hX k hk)))))).mono ?_
 rintro e2 w' ⟨ao,cap,D,rfl,h1,h2,h3⟩
 rw [hx] at h1 ⊢
 exact ⟨ao,cap,D,rfl,h1,h2,h3⟩
end
structure SmQ (k:Ak):Prop where
 kind:i64w k.kind
 unit:i64w k.unit
 epoch:i64w k.epoch
 page:i64w k.page
 data:k.data.size≤1000000
structure FewX (x:An):Prop where
 L:fewL x.L
 pe:i64w x.pe
 data:x.data.size≤1000000
theorem ten_of {w:World} {b:Nat} {t:TypeId} {v0 v1 v2 v3 v4 v5 v6 v7 v8 v9:Value} (h:w.heap[b]?=some (.cells #[v0,v1,v2,v3,v4,v5,v6,v7,v8,v9] t (0,0))) :
  (w.cell? ⟨b,0,none⟩=some v0∧w.cell? ⟨b,1,none⟩=some v1∧w.cell? ⟨b,2,none⟩=some v2∧w.cell? ⟨b,3,none⟩=some v3∧w.cell? ⟨b,4,none⟩=some v4∧w.cell? ⟨b,5,none⟩=some v5∧w.cell? ⟨b,6,none⟩=some v6∧w.cell? ⟨b,7,none⟩=some v7∧w.cell? ⟨b,8,none⟩=some v8∧w.cell? ⟨b,9,none⟩=some v9)∧
  w.frozen? ⟨b,0,none⟩=false∧w.frozen? ⟨b,1,none⟩=false∧w.frozen? ⟨b,2,none⟩=false∧w.frozen? ⟨b,3,none⟩=false∧w.frozen? ⟨b,4,none⟩=false∧w.frozen? ⟨b,5,none⟩=false∧w.frozen? ⟨b,6,none⟩=false∧w.frozen? ⟨b,7,none⟩=false∧w.frozen? ⟨b,8,none⟩=false∧w.frozen? ⟨b,9,none⟩=false :=
 ⟨⟨z02 h 0,z02 h 1,z02 h 2,z02 h 3,z02 h 4,z02 h 5,z02 h 6,z02 h 7,z02 h 8,z02 h 9⟩,z0a h 0,z0a h 1,z0a h 2,z0a h 3,z0a h 4,z0a h 5,z0a h 6,z0a h 7,z0a h 8,z0a h 9⟩
theorem tset0 {w:World} {b:Nat} {v0 v1 v2 v3 v4 v5 v6 v7 v8 v9:Value} {t:TypeId} (h:w.heap[b]?=some (.cells #[v0,v1,v2,v3,v4,v5,v6,v7,v8,v9] t (0,0))) (u:Value):(w.setCell ⟨b,0,none⟩ u).heap[b]?=some (.cells #[u,v1,v2,v3,v4,v5,v6,v7,v8,v9] t (0,0)):=heap_setCell_same w b 0 _ t u h
theorem tset1 {w:World} {b:Nat} {v0 v1 v2 v3 v4 v5 v6 v7 v8 v9:Value} {t:TypeId} (h:w.heap[b]?=some (.cells #[v0,v1,v2,v3,v4,v5,v6,v7,v8,v9] t (0,0))) (u:Value):(w.setCell ⟨b,1,none⟩ u).heap[b]?=some (.cells #[v0,u,v2,v3,v4,v5,v6,v7,v8,v9] t (0,0)):=heap_setCell_same w b 1 _ t u h
theorem tset4 {w:World} {b:Nat} {v0 v1 v2 v3 v4 v5 v6 v7 v8 v9:Value} {t:TypeId} (h:w.heap[b]?=some (.cells #[v0,v1,v2,v3,v4,v5,v6,v7,v8,v9] t (0,0))) (u:Value):(w.setCell ⟨b,4,none⟩ u).heap[b]?=some (.cells #[v0,v1,v2,v3,u,v5,v6,v7,v8,v9] t (0,0)):=heap_setCell_same w b 4 _ t u h
theorem tset5 {w:World} {b:Nat} {v0 v1 v2 v3 v4 v5 v6 v7 v8 v9:Value} {t:TypeId} (h:w.heap[b]?=some (.cells #[v0,v1,v2,v3,v4,v5,v6,v7,v8,v9] t (0,0))) (u:Value):(w.setCell ⟨b,5,none⟩ u).heap[b]?=some (.cells #[v0,v1,v2,v3,v4,u,v6,v7,v8,v9] t (0,0)):=heap_setCell_same w b 5 _ t u h
theorem tset6 {w:World} {b:Nat} {v0 v1 v2 v3 v4 v5 v6 v7 v8 v9:Value} {t:TypeId} (h:w.heap[b]?=some (.cells #[v0,v1,v2,v3,v4,v5,v6,v7,v8,v9] t (0,0))) (u:Value):(w.setCell ⟨b,6,none⟩ u).heap[b]?=some (.cells #[v0,v1,v2,v3,v4,v5,u,v7,v8,v9] t (0,0)):=heap_setCell_same w b 6 _ t u h
theorem tset7 {w:World} {b:Nat} {v0 v1 v2 v3 v4 v5 v6 v7 v8 v9:Value} {t:TypeId} (h:w.heap[b]?=some (.cells #[v0,v1,v2,v3,v4,v5,v6,v7,v8,v9] t (0,0))) (u:Value):(w.setCell ⟨b,7,none⟩ u).heap[b]?=some (.cells #[v0,v1,v2,v3,v4,v5,v6,u,v8,v9] t (0,0)):=heap_setCell_same w b 7 _ t u h
theorem tset8 {w:World} {b:Nat} {v0 v1 v2 v3 v4 v5 v6 v7 v8 v9:Value} {t:TypeId} (h:w.heap[b]?=some (.cells #[v0,v1,v2,v3,v4,v5,v6,v7,v8,v9] t (0,0))) (u:Value):(w.setCell ⟨b,8,none⟩ u).heap[b]?=some (.cells #[v0,v1,v2,v3,v4,v5,v6,v7,u,v9] t (0,0)):=heap_setCell_same w b 8 _ t u h
theorem tset9 {w:World} {b:Nat} {v0 v1 v2 v3 v4 v5 v6 v7 v8 v9:Value} {t:TypeId} (h:w.heap[b]?=some (.cells #[v0,v1,v2,v3,v4,v5,v6,v7,v8,v9] t (0,0))) (u:Value):(w.setCell ⟨b,9,none⟩ u).heap[b]?=some (.cells #[v0,v1,v2,v3,v4,v5,v6,v7,v8,u] t (0,0)):=heap_setCell_same w b 9 _ t u h
def FQ (b:Nat) (G:Nat→Prop) (w:World) (q:Qf):Prop :=
 ∃ (v:Value) (F:Nat→Prop),w.heap[b]?=some (.cells #[.int .i64 q.ep,v,.int .i64 q.addr,.bool q.fill,.int .i64 q.at_,.int .i64 q.was,.int .i64 q.unit,.int .i64 q.kind,.string q.txt,.int .i64 q.err] 180 (0,0))∧CG F w v q.L∧G b∧(∀ k,F k→G k∧k≠b)∧∀ k,G k→k < w.heap.size
theorem z0p (b:Nat):Thing (FQ b) where
 lt:=by
  rintro G w q ⟨v,F,_,_,_,_,h⟩ k hk
  exact h k hk
 keep:=by
  rintro G S w w' q ⟨v,F,h1,h2,h3,h4,h5⟩ hk hS
  exact ⟨v,F,hk.heap (hS b h3) h1,h2.keep hk (fun k hf=>hS k (h4 k hf).1),h3,h4,fun k hg=>Nat.lt_of_lt_of_le (h5 k hg) hk.size⟩
def FM (b:Nat) (G:Nat→Prop) (w:World) (f:Fe):Prop:=∃ q,SimF q f∧FQ b G w q
theorem fm_thing (b:Nat):Thing (FM b) where
 lt:=by
  rintro G w f ⟨q,_,h⟩ k hk
  exact (z0p b).lt h k hk
 keep:=by
  rintro G S w w' f ⟨q,h0,h⟩ hk hS
  exact ⟨q,h0,(z0p b).keep h hk hS⟩
section
variable {w W W2:World} {b:Nat} {G H:Nat→Prop} {q q':Qf}
theorem FQ.small (h:FQ b G w q):b < w.heap.size:=by
 obtain ⟨_,_,h1,_⟩:=h
 exact lt_of_block h1
theorem FQ.below (h:FQ b G w q) {w':World} (hb:Below w.heap.size w w'):FQ b G w' q:=(z0p b).keep h (Kept.ofBelow hb (fun _=>True)) (fun _ _=>trivial)
theorem FQ.open (h:FQ b G w q):∃ ao cap,w.heap[b]?=some (.cells #[.int .i64 q.ep,.slice ao q.L.length cap,.int .i64 q.addr,.bool q.fill,.int .i64 q.at_,.int .i64 q.was,.int .i64 q.unit,.int .i64 q.kind,.string q.txt,.int .i64 q.err] 180 (0,0))∧CL w ao q.L∧
  ∀ (W:World) (q':Qf),Kept (fun k=>k≠b) w W→q'.L=q.L→W.heap[b]?=some (.cells #[.int .i64 q'.ep,.slice ao q.L.length cap,.int .i64 q'.addr,.bool q'.fill,.int .i64 q'.at_,.int .i64 q'.was,.int .i64 q'.unit,.int .i64 q'.kind,.string q'.txt,.int .i64 q'.err] 180 (0,0))→Leaves (FQ b) G w W q':=by
 obtain ⟨v,F,h1,h2,h3,h4,h5⟩:=h
 obtain ⟨ao,cap,rfl,h9,_⟩:=h2.cl
 refine ⟨ao,cap,h1,h9,fun W q' hk hL hW=>⟨G,⟨_,F,hW,?_,h3,h4,fun k hg=>Nat.lt_of_lt_of_le (h5 k hg) hk.size⟩,hk.mono (fun k hn e=>hn (e ▸ h3)),fun k hk=>.inl hk⟩⟩
 rw [hL]
 exact h2.keep hk (fun k hf=>(h4 k hf).2)
theorem FQ.chains (h:FQ b G w q) (hb:Below w.heap.size w W) {v:Value} (hO:OC W w.heap.size v q'.L) (hk:Kept (fun k=>k≠b) W W2)
  (hW:W2.heap[b]?=some (.cells #[.int .i64 q'.ep,v,.int .i64 q'.addr,.bool q'.fill,.int .i64 q'.at_,.int .i64 q'.was,.int .i64 q'.unit,.int .i64 q'.kind,.string q'.txt,.int .i64 q'.err] 180 (0,0))):Leaves (FQ b) G w W2 q':=by
 obtain ⟨v0,F,h1,h2,h3,h4,h5⟩:=h
 have hr:=lt_of_block h1
 have hs:=hk.size
 refine ⟨fun k=>G k∨(w.heap.size≤k∧k < W.heap.size),⟨v,fun k=>w.heap.size≤k∧k < W.heap.size,hW,?_,.inl h3,fun k hk2=>⟨.inr hk2,by omega⟩,fun k hk2=>?_⟩,(Kept.ofBelow hb _).trans (hk.mono (fun k hn e=>hn (e ▸ h3))),fun k hk2=>hk2.imp id (fun h=>h.1)⟩
 ·exact (CG.of hO).keep hk (fun k hk=>by omega)
 ·rcases hk2 with hk2 | hk2
  ·exact Nat.lt_of_lt_of_le (h5 k hk2) (Nat.le_trans hb.size hs)
  ·omega
end
end Go.Proofs.YtkefpbcifcjibaaGreat
namespace Go.Proofs.YtkefpbcifcjibaaGreat
open Go.RowKit Go.Maps
theorem lp_new_no (ep:Int) (ao:Option Addr) (cap:Nat) (L:List (List Int)) (w:World) (h:CL w ao L) (hl:L.length≤255∧∀ c ∈ L,c.length≤255) (hg:goodB ep L=false) :
  Calls Tryz.prog 90 #[.agg #[.int .i64 ep,.slice ao L.length cap]] w fun e w'=>e=.returned (.tuple #[.pointer none,.int .i64 11])∧Below w.heap.size w w':=by
 have HB0:=Lh (z00 w (.cells #[.int .i64 ep,.slice ao L.length cap] 24))
 have CGD:=Lh (z0m ep ao cap L _ (h.below HB0.out) hl)
 rw [hg] at CGD
 clear h hl hg
 go_enter Tryz.func90,Tryz.ntmps90
 go_wp2_with (go_at_call 44;refine CGD.out.mono ?_;rintro e w1 ⟨rfl,hb1⟩;have HB1:=Lh (HB0.out.trans (hb1.mono HB0.out.size));clear hb1)
 go_ret2
 exact ⟨rfl,HB1.out⟩
theorem lb_new (w:World):LB (w.heap.size+1) (fun k=>w.heap.size≤k∧k < w.heap.size+2) ((w.alloc (.map #[] 0)).alloc (.cells #[.int .i64 0,.slice none 0 0,.map (some w.heap.size),.int .i64 (-1),.int .i64 0,.int .i64 (-1)] 129)) ⟨0,[],[],-1,0,-1⟩:=by
 have h1:=heap_alloc_new (w.alloc (.map #[] 0)) (.cells #[.int .i64 0,.slice none 0 0,.map (some w.heap.size),.int .i64 (-1),.int .i64 0,.int .i64 (-1)] 129)
 rw [show (w.alloc (.map #[] 0)).heap.size=w.heap.size+1 from by simp] at h1
 exact ⟨.slice none 0 0,w.heap.size,fun _=>False,h1,CG.no _ _,(Usd.made w).below (z00 _ _),by omega,⟨by omega,by omega⟩,⟨by omega,by omega⟩,fun k hk=>hk.elim,fun k hk=>by simp;omega⟩
theorem lp_new_yes (ep:Int) (ao:Option Addr) (cap:Nat) (L:List (List Int)) (w:World) (h:CL w ao L) (hl:L.length≤255∧∀ c ∈ L,c.length≤255) (hg:goodB ep L=true) :
  Calls Tryz.prog 90 #[.agg #[.int .i64 ep,.slice ao L.length cap]] w fun e w'=>∃ (b:Nat) (G:Nat→Prop),e=.returned (.tuple #[ptrL b,.int .i64 0])∧LM b G w' (newL ep L)∧(∀ k,G k→w.heap.size≤k)∧Below w.heap.size w w':=by
 have HB0:=Lh (z00 w (.cells #[.int .i64 ep,.slice ao L.length cap] 24))
 have HP:=Lh (show PB (w.alloc (.cells #[.int .i64 ep,.slice ao L.length cap] 24)) w.heap.size ep ao L.length cap from heap_alloc_new _ _)
 have CGD:=Lh (z0m ep ao cap L _ (h.below HB0.out) hl)
 have HGD:=Lh hg
 have HC:=Lh h
 have HL:=Lh hl
 rw [hg] at CGD
 have hmm:=@run_makeMap Tryz.prog
 clear h hl hg
 go_enter Tryz.func90,Tryz.ntmps90
 go_wp2_with (first
  | (go_at_call 44;refine CGD.out.mono ?_;rintro e w1 ⟨rfl,hb1⟩;have HB1:=Lh (HB0.out.trans (hb1.mono HB0.out.size));obtain ⟨p0,p1⟩:=(HP.out.below hb1).cells;have hpz:=block_lt_of_cell p0;clear hb1)
  | (go_at_call 117;have HBN:=Lh (show Below w.heap.size w ((w1.alloc (.map #[] 0)).alloc (.cells #[.int .i64 0,.slice none 0 0,.map (some w1.heap.size),.int .i64 (-1),.int .i64 0,.int .i64 (-1)] 129)) from (HB1.out.alloc HB1.out.size _).alloc (by have:=HB1.out.size;simp;omega) _);have CQ:=lp_count (w1.heap.size+1) _ _ _ (lb_new w1) ep ao cap L (fun W hk=>HC.out.below (HBN.out.trans (hk.toBelow HBN.out.size (fun k h1 h2=>by have:=HB1.out.size;omega)))) HL.out (Nat.zero_le _);unfold ptrL at CQ;refine CQ.mono ?_;rintro e w2 ⟨rfl,hl⟩;have HLV:=Lh hl;clear hl CQ))
 go_ret2
 obtain ⟨G',r1,r2,r3⟩:=HLV.out
 have hz:=HB1.out.size
 have hy:=HBN.out.size
 exact ⟨w1.heap.size+1,G',rfl,⟨HGD.out,r1⟩,fun k hk=>(r3 k hk).elim (fun h=>by omega) (fun h=>by omega),HBN.out.trans (r2.toBelow hy (fun k h1 h2=>by omega))⟩
theorem lp_ask (b:Nat) (G:Nat→Prop) (w:World) (y:Ly) (a:Ak) (h:LM b G w y) (hL:a.L.length≤255∧∀ c ∈ a.L,c.length≤255) (hu:y.used.length≤100000) (hA:∀ W,Kept (fun k=>¬ G k) w W→CL W a.ao a.L) :
  Calls Tryz.prog 195 #[ptrL b,askV a] w fun e w'=>Tells (LM b) G w (y.done a) (y.ans a) e w':=by
 obtain ⟨hg,h⟩:=h
 have hy:=good_small hg
 suffices hs:Calls Tryz.prog 195 #[ptrL b,askV a] w fun e w'=>Tells (LB b) G w (y.done a) (y.ans a) e w' from hs.mono (fun e w' ht=>ht.to (fun H W hb=>⟨done_good hg a,hb⟩))
 by_cases h9:a.kind=9
 ·have ha:y.ans a=⟨0,y.n,noL,y.ep,y.L,y.mark,y.size,0⟩:=if_pos h9
  have hd:y.done a=y:=by
   unfold Ly.done
   rw [if_neg (by omega),if_neg (fun h=>by have:=h.1;omega)]
  rw [ha,hd]
  exact lp_do_tell b G w y a h hy h9
 by_cases h10:a.kind=10
 ·cases hm:y.may a.pe a.L
  ·have ha:y.ans a=anL 48 y.ep y.L:=by
    unfold Ly.ans
    rw [if_neg h9,if_pos h10,if_neg (by rw [hm];decide)]
   have hd:y.done a=y:=by
    unfold Ly.done
    rw [if_pos h10,if_neg (by rw [hm];decide)]
   rw [ha,hd]
   exact lp_do_change b G w y y a h hA h10 48 y.ep y.L (fun H W h1 h2=>lp_stay b H W y h1 hy a.pe a.ao a.cap a.L h2 hL hm)
  ·have ha:y.ans a=anL 0 a.pe a.L:=by
    unfold Ly.ans
    rw [if_neg h9,if_pos h10,if_pos hm]
   have hd:y.done a=⟨a.pe,a.L,y.used ++ unitsR a.L,y.mark,y.size,y.n⟩:=by
    unfold Ly.done
    rw [if_pos h10,if_pos hm]
   rw [ha,hd]
   exact lp_do_change b G w y _ a h hA h10 0 a.pe a.L (fun H W h1 h2=>lp_turn b H W y h1 hy a.pe a.ao a.cap a.L h2 hL hu hm)
 by_cases h11:a.kind=11
 ·by_cases hb:badM a
  ·have ha:y.ans a=anP 1 0 noL 0:=by
    unfold Ly.ans
    rw [if_neg h9,if_neg h10,if_pos h11,if_pos hb]
   have hd:y.done a=y:=by
    unfold Ly.done
    rw [if_neg h10,if_neg (fun h=>h.2.1 hb)]
   rw [ha,hd]
   exact lp_do_mark b G w y y a h h11 1 0 0 0 (fun H W h1=>lp_mark_no b H W y h1 a.page a.size a.n (goodI_no hb))
  by_cases hn:y.n < a.n
  ·have ha:y.ans a=anM a.n a.page a.size:=by
    unfold Ly.ans
    rw [if_neg h9,if_neg h10,if_pos h11,if_neg hb,if_pos hn]
   have hd:y.done a=⟨y.ep,y.L,y.used,a.page,a.size,a.n⟩:=by
    unfold Ly.done
    rw [if_neg h10,if_pos ⟨h11,hb,hn⟩]
   rw [ha,hd]
   exact lp_do_mark b G w y _ a h h11 0 a.n a.page a.size (fun H W h1=>lp_mark_new b H W y h1 a.page a.size a.n (goodI_yes hb) hn)
  ·have ha:y.ans a=anM y.n y.mark y.size:=by
    unfold Ly.ans
    rw [if_neg h9,if_neg h10,if_pos h11,if_neg hb,if_neg hn]
   have hd:y.done a=y:=by
    unfold Ly.done
    rw [if_neg h10,if_neg (fun h=>hn h.2.2)]
   rw [ha,hd]
   exact lp_do_mark b G w y y a h h11 0 y.n y.mark y.size (fun H W h1=>lp_mark_old b H W y h1 a.page a.size a.n (goodI_yes hb) hn)
 ·have ha:y.ans a=anP 1 0 noL 0:=by
   unfold Ly.ans
   rw [if_neg h9,if_neg h10,if_neg h11]
  have hd:y.done a=y:=by
   unfold Ly.done
   rw [if_neg h10,if_neg (fun h=>h11 h.1)]
  rw [ha,hd]
  exact lp_do_other b G w y a h h9 h10 h11
theorem laySays:LaySays LM where
 thing:=lm_thing
 good:=fun h=>h.1
 new_no:=fun ep ao cap L w h hl hg=>lp_new_no ep ao cap L w h hl hg
 new_yes:=fun ep ao cap L w h hl hg=>lp_new_yes ep ao cap L w h hl hg
 ask:=fun b G w y a h _ hL hu hA=>lp_ask b G w y a h hL hu hA
 now:=fun b G w y h=>lp_now b G w y h.2 (good_small h.1)
 nil_ask:=fun w a _=>lp_nil_ask w a
 nil_now:=lp_nil_now
end Go.Proofs.YtkefpbcifcjibaaGreat
