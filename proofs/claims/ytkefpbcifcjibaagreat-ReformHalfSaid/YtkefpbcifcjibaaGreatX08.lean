/- Joined texts. -/
import Derived.Test.YtkefpbcifcjibaaGreatX01
import Derived.Test.YtkefpbcifcjibaaGreatX03
import Derived.Test.YtkefpbcifcjibaaGreatX07
import Derived.Test.YtkefpbcifcjibaaGreatRows
import Derived.WalkKit
import Derived.ProofKit
import Derived.OpenShut
import Derived.ShutString
import Derived.ChangeOld
import Derived.Below
import Derived.Carry
import Derived.WalkSmall
import Derived.Test.YtkefpbcifcjibaaGreatG01b
import Derived.Test.YtkefpbcifcjibaaGreatG02a
import Derived.Test.YtkefpbcifcjibaaGreatG03a
import Derived.Test.YtkefpbcifcjibaaGreatG27b
import Derived.Test.YtkefpbcifcjibaaGreatG28a
import Derived.Test.YtkefpbcifcjibaaGreatG30a
import Derived.Test.YtkefpbcifcjibaaGreatG26a
import Derived.Test.YtkefpbcifcjibaaGreatG21a
set_option linter.unusedVariables false
set_option maxRecDepth 20000
set_option maxHeartbeats 16000000
namespace Go.Proofs.YtkefpbcifcjibaaGreat
open Go.ChangeShapes Go.WideShapes Go.ChangeAt Go.RowKit
section
variable {H:Type} {enc:TypeId × Value→H} {P:Program} {w:World} {base:Nat} {spare:Nat→Bool} {held:Bool}
theorem okWide_arr {r:Reach} {b0:Nat} {t e:TypeId} {n:Nat} {v:Value} (ht:P.underlying t=some (.array n e)) (h:Value.okWide P w r b0 t v):∃ cs,v=.agg cs∧cs.size=P.cellsOf t:=by
 simp only [Value.okWide,ht] at h
 obtain ⟨cs,h1,h2,_⟩:=h
 exact ⟨cs,h1,h2⟩
theorem ints_of_cells {k:IntKind}:∀ (l:List Value),(∀ i,i < l.length→∃ m,l[i]?=some (.int k m)∧(Lit.int k m).wf=true)→∃ ns:List Int,l=ns.map (Value.int k)∧∀ m ∈ ns,(Lit.int k m).wf=true
 | [],_=>⟨[],rfl,by simp⟩
 | v :: l,h=>by
  obtain ⟨m,hm,hw⟩:=h 0 (by simp)
  obtain ⟨ns,hns,hall⟩:=ints_of_cells l (fun i hi=>by simpa using h (i+1) (by simpa using hi))
  simp at hm
  exact ⟨m :: ns,by rw [hm,hns];rfl,by intro x hx;rcases List.mem_cons.1 hx with rfl | hx <;> first | exact hw | exact hall x hx⟩
theorem open_arr {r:Reach} {b0:Nat} {t e:TypeId} {n:Nat} {k:IntKind} {v:Value} {d:DataW H} {p:List MemPlace} (ht:P.underlying t=some (.array n e)) (he:P.underlying e=some (.int k)) (hc:P.cellsOf e=1) (hn:P.cellsOf t=n)
  (hv:Value.okWide P w r b0 t v) (h:DataW.Trod enc P w base spare held t v d p):∃ ns:List Int,v=.agg (ns.map (Value.int k)).toArray∧ns.length=n∧∀ m ∈ ns,(Lit.int k m).wf=true:=by
 obtain ⟨cs,rfl,hsz⟩:=okWide_arr ht hv
 obtain ⟨fuel,hf⟩:=h
 obtain ⟨xs,m,_,_,hl,hx,hall⟩:=DataW.trod_array ht hf
 simp only [Value.cells] at hl hall
 have hcs:cs.toList.length=n:=by rw [Array.length_toList,hsz,hn]
 obtain ⟨ns,hns,hw⟩:=ints_of_cells (k:=k) cs.toList (fun i hi=>by
  have h1:=hall i (by omega)
  rw [hc,Nat.mul_one] at h1
  have hxi:i < xs.length:=by omega
  rw [List.getElem?_eq_getElem hxi] at h1
  obtain ⟨y,hy,_,hw⟩:=DataW.trod_int he h1
  refine ⟨y,?_,hw⟩
  have h2:((cs.toList.drop i).take 1)[0]?=some (.int k y):=by rw [hy];rfl
  simpa [List.getElem?_take,List.getElem?_drop] using h2)
 refine ⟨ns,?_,?_,hw⟩
 ·rw [← hns]
 ·rw [← hcs,hns,List.length_map]
end
theorem two_of {ns:List Int} (h:ns.length=2):∃ x y,ns=[x,y]:=by
 match ns,h with
 | [x,y],_=>exact ⟨x,y,rfl⟩
end Go.Proofs.YtkefpbcifcjibaaGreat
namespace Go.Proofs.YtkefpbcifcjibaaGreat
open Go.RowKit
section
variable {α β:Type} {T:(Nat→Prop)→World→α→Prop} {U:(Nat→Prop)→World→β→Prop} {X Y G:Nat→Prop} {w w':World} {a a':α} {b b':β}
theorem Solo.beside (hT:Thing T) (h:Solo T X w a) (x:Obj):Solo T (fun k=>X k∨k=w.heap.size) (w.alloc x) a:=by
 have hb:Below w.heap.size w (w.alloc x):=(Below.refl _ _).alloc (Nat.le_refl _) x
 obtain ⟨h1,F,h2,h3⟩:=h
 refine ⟨fun k hk=>?_,F,hT.keep h2 (Kept.ofBelow hb (fun _=>True)) (fun _ _=>trivial),fun k hk hf=>?_⟩
 ·rcases hk with hk | hk
  ·exact Nat.lt_of_lt_of_le (h1 k hk) hb.size
  ·rw [hk];simp
 ·rcases hk with hk | hk
  ·exact h3 k hk hf
  ·rw [hk] at hf;exact Nat.lt_irrefl _ (hT.lt h2 _ hf)
section
variable {P:Program} {fn:FuncId} {args:Array Value} {R:Ending→Prop}
end
end
theorem top_of {E:Int} {M:List (List Int)} {n:Nd} {m:Nat} (hg:goodB E M=true) (hb:Base n) (hm:m≤14) {K:List (Int × Int)} (h1:∀ x ∈ K,x.1 ∈ unitsR M∧x.2=(n.u x.1.toNat).p.tail)
  (page:∀ i (hi:i < M.length),∀ u ∈ M[i],∀ p,0≤p∧p < 4096→(n.u u.toNat).p.kind p=0∨((n.u u.toNat).p.kind p=1∧p * M.length+i < m))
  (h2:m=0∨∃ i,∃ hi:i < M.length,∃ u ∈ M[i],∃ p:Int,(0≤p∧p < 4095)∧p * M.length+i+1=m∧(n.u u.toNat).p.kind p=1∧(u,(n.u u.toNat).p.tail) ∈ K):tailR E M K=m:=by
 obtain ⟨n1,n4⟩:=z0v hg
 obtain ⟨s1,s2,s3⟩:=tailN_spec M K M.length
 unfold tailR
 rw [if_pos hg]
 have least:(m:Int)≤tailN M K M.length:=by
  rcases h2 with e | ⟨i,hi,u,hu,p,hp,ha,hk,hK⟩
  ·omega
  ·have ht:p+1≤(n.u u.toNat).p.tail:=by
    unfold Ps.kind at hk
    rw [if_pos (thereB_iff.2 ⟨hp.1,by omega⟩)] at hk
    split at hk
    ·cases hk
    ·split at hk
     ·next x hx =>
      obtain ⟨x1,x2⟩:=z21 hx
      have:=(tailP_spec (n.u u.toNat).p.l (n.u u.toNat).p.edge).2.2 x x1
      unfold Ps.tail
      omega
     ·cases hk
   have hgn:=s3 i hi u (by simp [hi];exact hu) _ hK rfl
   refine Int.le_trans ?_ hgn
   show (m:Int)≤gain M.length i (n.u u.toNat).p.tail
   unfold gain
   rw [if_neg (by omega)]
   rcases z0y (n:=M.length) ⟨by omega,by omega⟩ with g | g | g | g <;> rw [g] at ha ⊢ <;> omega
 have most:tailN M K M.length≤m:=by
  rcases s1 with e | ⟨i,hi,u,hu,e,he,hf,hgn⟩
  ·omega
  ·have hu':u ∈ M[i]:=by simpa [hi] using hu
   obtain ⟨_,k2⟩:=h1 e he
   rw [hf] at k2
   have hok:=(hb.each u.toNat).1
   have k0:=page i hi u hu' 0 (by omega)
   have hed:=edge_zero hok (by rcases k0 with g | ⟨g,_⟩ <;> (rw [g];decide))
   have ht:=(tailP_spec (n.u u.toNat).p.l (n.u u.toNat).p.edge).1
   rw [hgn,k2]
   unfold Ps.tail
   rcases ht with ht | ⟨x,hx,ht⟩
   ·rw [ht,hed,gain_zero]
    omega
   ·have hx2:=(hok.each x hx).1
    have hk:=page i hi u hu' x.at_ (by omega)
    have kx:(n.u u.toNat).p.kind x.at_≠0:=by
     unfold Ps.kind
     rw [if_pos (thereB_iff.2 (by omega)),if_neg (by omega)]
     cases hc:findP (n.u u.toNat).p.l x.at_ with
     | none=>exact absurd rfl (findP_none.1 hc x hx)
     | some y =>
      have:=(hok.each y (z21 hc).1).2.1
      show y.kind≠0
      omega
    have ham:x.at_ * (M.length:Int)+i < m:=by
     rcases hk with g | ⟨_,g⟩
     ·exact absurd g kx
     ·exact g
    rw [ht]
    unfold gain
    rw [if_neg (by omega)]
    rcases z0y (n:=M.length) ⟨by omega,by omega⟩ with g | g | g | g <;> rw [g] at ham ⊢ <;> omega
 omega
section
variable {E:Int} {M:List (List Int)} {n0:Nd} {t:Int} {S:ByteArray} {a:Ap}
theorem PlR.turnedA (h0:PutR E M n0 t) (hS:S.size≤4096) (htx:a.txt=S) (hg:goodB a.ep a.L=true) (he:a.ep≠E)
  (hat:a.at_=2∨(a.at_=3∧ofB a.ep a.L a.addr=true∧a.i < lenG a.ep a.L a.addr∧(n0.u (unG a.ep a.L a.addr a.i)).down=false∧a.ep < (n0.u (unG a.ep a.L a.addr a.i)).epoch)):PlR E M n0 t S n0 a 7:=by
 have hx:=(goodB_iff.1 hg).1
 have z0:i64w 0:=z04 (by omega)
 refine .inl ⟨?_,Nat.le_refl _⟩
 rcases hat with h2 | ⟨h3,hb,hi,hd,hlt⟩
 ·have ea:a.ask=nextK a.ep:=by unfold Ap.ask;rw [if_neg (by omega),if_pos h2]
  obtain ⟨e1,e2⟩:=nd_ord n0 (a:=nextK a.ep) ⟨of_decide_eq_true rfl,of_decide_eq_true rfl⟩
  have e3:n0.o.done (nextK a.ep)=n0.o:=by
   unfold Od.done
   rw [h0.o,if_neg (fun g=>absurd g.1 (show ¬ (6:Int)=8 by decide)),if_neg (fun g=>he g.2.1)]
  have e4:(n0.o.ans (nextK a.ep)).code=40:=by
   unfold Od.ans
   rw [if_neg (show ¬ (nextK a.ep).kind=8 from (by decide:¬ (6:Int)=8)),if_pos (show (nextK a.ep).kind=6∨(nextK a.ep).kind=7 from .inl rfl),h0.o,if_pos (show (nextK a.ep).epoch≠E from he)]
   rfl
  rw [ea,e1,e2,e3]
  exact ⟨by omega,htx,rfl,e4,rfl,⟨z04 (x:=6) (by omega),z0,z04 (by show -1000000000000≤a.ep∧a.ep≤1000000000000;omega),z0,Nat.zero_le _⟩,show (6:Int)≠3 by decide,show (6:Int)≠10 by decide⟩
 ·have hu:=unG_is hb hi
  obtain ⟨_,_,_,_,q1,q2,_⟩:=z12 hb
  have hatt:=(ofB_iff.1 hb).2
  obtain ⟨n1,n4⟩:=z0v hg
  have q3:a.addr / (a.L.length:Int) < 16384:=(of_range (n:=a.L.length) ⟨by omega,by omega⟩ hatt).2.1.2
  have ea:a.ask=⟨1,(unG a.ep a.L a.addr a.i:Int),a.ep,ofP a.ep a.L a.addr,0,0,S,0,[],none,0⟩:=by
   unfold Ap.ask
   rw [if_neg (by omega),if_neg (by omega),if_pos h3]
   unfold Ap.unitK
   rw [htx,hu.1]
  generalize hk:(⟨1,(unG a.ep a.L a.addr a.i:Int),a.ep,ofP a.ep a.L a.addr,0,0,S,0,[],none,0⟩:Ak)=k at ea
  have k1:k.kind=1:=by rw [← hk]
  have k2:k.unit=(unG a.ep a.L a.addr a.i:Int):=by rw [← hk]
  have k3:k.epoch=a.ep:=by rw [← hk]
  have k4:k.page=ofP a.ep a.L a.addr:=by rw [← hk]
  have k5:k.data=S:=by rw [← hk]
  have kt:k.unit.toNat=unG a.ep a.L a.addr a.i:=by omega
  have ex:(n0.ans k).code=40:=by
   unfold Nd.ans
   rw [if_pos (by omega),if_pos (by omega),kt]
   unfold Us.ans
   rw [if_neg (by rw [hd];decide),if_neg (by omega),if_pos (by rw [k3];exact hlt)]
   rfl
  have ed:n0.done k=n0:=by
   unfold Nd.done
   rw [if_pos (by omega),if_pos (by omega),kt]
   have:(n0.u (unG a.ep a.L a.addr a.i)).done k=n0.u (unG a.ep a.L a.addr a.i):=by
    unfold Us.done
    rw [if_pos (.inr (.inr (by rw [k3];exact hlt)))]
   rw [this,putU_same]
  rw [ea]
  exact ⟨by omega,htx,rfl,ex,ed,⟨z04 (by omega),z04 (by omega),z04 (by omega),z04 (by omega),by rw [k5];omega⟩,by omega,by omega⟩
end
structure HalfB (E:Int) (M:List (List Int)) (S:ByteArray) (n:Nd) (i:Nat):Prop where
 good:goodB E M=true
 base:Base n
 ep:∀ u,(n.u u).epoch≤E
 up:∀ u,(n.u u).down=false
 oe:n.o.epoch=E
 le:n.l.ep=E
 lL:n.l.L=M
 lu:n.l.used=unitsR M
 got:∀ j,j < lenG E M 0→j < i→GK E M n 0 j=1∧GX E M n 0 j=S
 none_:∀ j,j < lenG E M 0→i≤j→GK E M n 0 j=0
 free:∀ a,ofB E M a=true→a≠0→∀ j,j < lenG E M a→GK E M n a j=0
 out:∀ u:Nat,(u:Int) ∉ unitsR M→∀ q,(n.u u).p.kind q=0
structure HalfQ (oM:List (List Int)) (qe:Int) (qL:List (List Int)) (S:ByteArray) (m:Nat) (n:Nd):Prop where
 gt:GtN qe qL n
 le:n.l.ep=qe
 lL:n.l.L=qL
 used:n.l.used.length≤1000
 o:n.o=⟨qe,m,true⟩
 m1:m≤1
 shut:∀ u ∈ unitsR oM,(n.u u.toNat).down=false∧(n.u u.toNat).epoch=qe
 pre:PreG qe qL n 0
 has:GK qe qL n 0 0=0∨(GK qe qL n 0 0=1∧GX qe qL n 0 0=S)
 free:∀ a,ofB qe qL a=true→(m:Int)≤a→∀ j,j < lenG qe qL a→GK qe qL n a j=0
def Full (qe:Int) (qL:List (List Int)) (n:Nd) (a V:Int) (S:ByteArray):Prop:=∀ j,j < lenG qe qL a→GK qe qL n a j=V∧(V=1→GX qe qL n a j=S)
structure NQ (qe:Int) (qL:List (List Int)) (n:Nd):Prop where
 good:goodB qe qL=true
 gt:GtN qe qL n
 le:n.l.ep=qe
 lL:n.l.L=qL
 used:n.l.used.length≤1000
structure HalfR (oM:List (List Int)) (qe:Int) (qL:List (List Int)) (S:ByteArray) (m:Nat) (V:Int) (n:Nd):Prop where
 q:NQ qe qL n
 o:n.o=⟨qe,m,true⟩
 m1:m≤1
 shut:∀ u ∈ unitsR oM,(n.u u.toNat).down=false∧(n.u u.toNat).epoch=qe
 v:V=1∨V=2
 got:m=1→Full qe qL n 0 V S
 free:∀ a,ofB qe qL a=true→(m:Int)≤a→∀ j,j < lenG qe qL a→GK qe qL n a j=0
structure HalfZ (qe:Int) (qL:List (List Int)) (S:ByteArray) (m:Nat) (V:Int) (A:Nat) (n:Nd):Prop where
 q:NQ qe qL n
 a1:A≤1
 v:V=1∨V=2
 got:m=1→Full qe qL n 0 V S
 rec_:Full qe qL n A 1 S
section
variable {txt:Nat→ByteArray} {E:Int} {M:List (List Int)} {n0 n n2:Nd} {qe:Int} {qL:List (List Int)} {S:ByteArray} {i m:Nat} {V:Int}
theorem of_zero (hg:goodB E M=true):ofB E M 0=true:=ofB_iff.2 ⟨hg,by omega,by omega⟩
theorem page_zero (hg:goodB E M=true):ofP E M 0=0:=by
 obtain ⟨_,_,_,_,q1,_⟩:=z12 (of_zero hg)
 rw [q1]
 simp
theorem NQ.ad (Q:NQ qe qL n) {a:Nat} (ha:a≤1):AdG qe qL a:=by
 have ho:ofB qe qL (a:Int)=true:=ofB_iff.2 ⟨Q.good,by omega,by omega⟩
 refine ⟨ho,?_⟩
 obtain ⟨_,_,_,_,q1,_⟩:=z12 ho
 obtain ⟨n1,n4⟩:=z0v Q.good
 rw [q1]
 rcases z0y (n:=qL.length) ⟨by omega,by omega⟩ with e | e | e | e <;> rw [e] <;> omega
theorem HalfB.zero (h:RecN E M n 0 txt):HalfB E M S n 0 :=
 ⟨h.good,h.base,h.ep,h.up,by rw [h.o],h.le,h.lL,h.lu,fun j _ hj=>absurd hj (Nat.not_lt_zero j),fun j hj _=>h.free 0 (of_zero h.good) (Int.le_refl _) j hj,fun a ha hn j hj=>h.free a ha (by have:=(ofB_iff.1 ha).2.1;omega) j hj,h.out⟩
theorem HalfB.some (h:RecN E M n0 0 txt) (hp:PutN E M n0 0 S n i):HalfB E M S n i:=by
 have had:=of_zero h.good
 have key:∀ u,(∃ j,j < lenG E M 0∧u=unG E M 0 j)∨n.u u=n0.u u:=fun u=>by
  by_cases e:∃ j,j < lenG E M 0∧u=unG E M 0 j
  ·exact .inl e
  ·exact .inr (hp.rest u (fun j hj hu=>e ⟨j,hj,hu⟩))
 have gt:=fun j hj=>hp.ft.u 0 j had hj
 refine ⟨h.good,⟨fun u=>?_⟩,fun u=>?_,fun u=>?_,by rw [hp.o],by rw [hp.l];exact h.le,by rw [hp.l];exact h.lL,by rw [hp.l];exact h.lu,hp.got,hp.free,fun a ha hn j hj=>?_,fun u hu q=>?_⟩
 ·rcases key u with ⟨j,hj,rfl⟩ | e
  ·exact ⟨(gt j hj).ok,(gt j hj).room,(gt j hj).low⟩
  ·rw [e];exact h.base.each u
 ·rw [hp.epoch];exact h.ep u
 ·rcases key u with ⟨j,hj,rfl⟩ | e
  ·exact (gt j hj).up
  ·rw [e];exact h.up u
 ·rw [(hp.off a j ha hj hn).1]
  exact h.free a ha (by have:=(ofB_iff.1 ha).2.1;omega) j hj
 ·rcases key u with ⟨j,hj,rfl⟩ | e
  ·exact absurd (unG_mem had hj) hu
  ·rw [e];exact h.out u hu q
theorem HalfB.ready (h:HalfB E M S n i) (hx:nextB E M qe qL=true):Ready n qe qL:=by
 obtain ⟨_,_,h3,_,_⟩:=nextB_iff.1 hx
 refine ⟨?_,?_,fun u=>?_,fun u hu hq=>h.up _,?_,fun i=>(h.base.each i).1⟩
 ·unfold Ly.may
  rw [h.le,h.lL,hx,h.lu,Bool.true_and]
  rw [List.all_eq_true]
  intro u hu
  by_cases e:u ∈ unitsR M
  ·simp [e]
  ·simp [e]
 ·rw [h.le,h.lL];exact h.good
 ·have:=h.ep u
  omega
 ·rw [h.oe]
  omega
theorem HalfB.turned (h:HalfB E M S n i) (hx:nextB E M qe qL=true) (hS:Same n n2 qe):Turned E M n qe qL n2:=by
 obtain ⟨_,hq,h3,_,_⟩:=nextB_iff.1 hx
 refine ⟨hx,hS,h.base,fun u=>?_,fun u hu=>h.up _,fun u hu hn q=>?_⟩
 ·have:=h.ep u
  omega
 ·have hr:=units_16r hq hu
  exact h.out u.toNat (by rw [Int.toNat_of_nonneg hr.1];exact hn) q
theorem HalfB.top (h:HalfB E M S n i) {K:List (Int × Int)} (T:Tails n K (unitsR n.l.L).length):tailR E M K=((if i=0 then 0 else 1:Nat):Int):=by
 have hK1:=T.of
 have hK2:=T.all
 rw [h.lL] at hK1 hK2
 obtain ⟨n1,n4⟩:=z0v h.good
 have kd:∀ k (hk:k < M.length),∀ u ∈ M[k],∀ p,0≤p∧p < 4096→(n.u u.toNat).p.kind p=0∨((n.u u.toNat).p.kind p=1∧p * (M.length:Int)+k=0∧i≠0):=fun k hk u hu p hp=>by
  obtain ⟨a1,a2,j,a3,a4⟩:=addr_unit h.good hk hu hp
  have e:GK E M n (p * M.length+k) j=(n.u u.toNat).p.kind p:=by unfold GK;rw [a4,a2]
  by_cases e0:p * (M.length:Int)+k=0
  ·rw [e0] at e a3
   rcases Nat.lt_or_ge j i with g | g
   ·exact .inr ⟨by rw [← e];exact (h.got j a3 g).1,e0,by omega⟩
   ·exact .inl (by rw [← e];exact h.none_ j a3 g)
  ·exact .inl (by rw [← e];exact h.free _ a1 e0 j a3)
 refine top_of h.good h.base (by split <;> omega) hK1 (fun k hk u hu p hp=>?_) ?_
 ·rcases kd k hk u hu p hp with g | ⟨g1,g2,g3⟩
  ·exact .inl g
  ·exact .inr ⟨g1,by rw [if_neg g3,g2];decide⟩
 ·by_cases e:i=0
  ·exact .inl (if_pos e)
  ·refine .inr ⟨0,by omega,?_⟩
   have hz:=of_zero h.good
   obtain ⟨k,hk,m1,e1,p1,_,hcb⟩:=z12 hz
   obtain rfl:k=0:=by simpa using m1.symm
   have hl:=z1b hz
   have hl2:0 < M[0].length:=by unfold lenG at hl;rw [e1] at hl;omega
   have hu:M[0][0] ∈ M[0]:=List.getElem_mem hl2
   have hun:unG E M 0 0=(M[0][0]).toNat:=by unfold unG;rw [e1];congr 1;simp [hl2]
   have hm:M[0][0] ∈ unitsR M:=by
    rw [z1z,List.mem_flatten]
    exact ⟨_,List.getElem_mem hk,hu⟩
   obtain ⟨j,hj,ej⟩:=List.getElem_of_mem hm
   have hk2:=hK2 j hj hj (h.up _)
   rw [ej] at hk2
   refine ⟨M[0][0],hu,0,⟨by omega,by omega⟩,by rw [if_neg e];simp,?_,hk2⟩
   have g:=(h.got 0 (by omega) (by omega)).1
   unfold GK at g
   rw [hun,page_zero h.good] at g
   exact g
theorem HalfB.changed (h:HalfB E M S n i) (hx:nextB E M qe qL=true) {K:List (Int × Int)} (C:ChgN n qe qL K n2):HalfQ M qe qL S (if i=0 then 0 else 1) n2:=by
 obtain ⟨_,hq,h3,h4,_⟩:=nextB_iff.1 hx
 have T:=h.turned hx C.same
 have hcl:=C.closed
 have ho:=C.o
 rw [h.lL] at hcl ho
 rw [h.le] at ho
 have up:=z26 h.good
 have uq:=z26 hq
 have hz:=of_zero hq
 have hzE:=of_zero h.good
 have hp:PreG E M n 0:=fun j hj h0=>by
  rcases Nat.lt_or_ge (j+1) i with g | g
  ·obtain ⟨g1,g2⟩:=h.got j (by omega) (by omega)
   obtain ⟨g3,g4⟩:=h.got (j+1) hj g
   rw [g1,g2,g3,g4]
   exact ⟨rfl,fun _=>rfl⟩
  ·exact absurd (h.none_ (j+1) hj g) h0
 obtain ⟨t,σ,s1,s2,s3,s4,s5⟩:=T.have hz
 obtain ⟨a1,a2,a3⟩:=s3 0 (by omega)
 refine ⟨T.gt,by rw [C.l];rfl,by rw [C.l];rfl,?_,by rw [ho,h.top C.tails],by split <;> omega,fun u hu=>?_,T.pre hz hp,?_,fun a ha ham j hj=>?_⟩
 ·rw [C.l]
  show (n.l.used ++ unitsR qL).length≤1000
  rw [List.length_append,h.lu]
  omega
 ·rcases hcl u hu with g | g
  ·exact g
  ·have:=C.same.down u.toNat
   rw [h.up,g.1] at this
   cases this
 ·rw [a2,a3]
  rcases Nat.lt_or_ge (σ 0) i with g | g
  ·exact .inr (h.got _ a1 g)
  ·exact .inl (h.none_ _ a1 g)
 ·have hb:=T.of.1.1 ha
  obtain ⟨t,σ,s1,s2,s3,s4,s5⟩:=T.have ha
  rcases Nat.lt_or_ge j t with g | g
  ·obtain ⟨a1,a2,a3⟩:=s3 j g
   rw [a2]
   by_cases e:a=0
   ·subst e
    have hi:i=0:=by
     by_cases e:i=0
     ·exact e
     ·rw [if_neg e] at ham
      exact absurd ham (by decide)
    exact h.none_ _ a1 (by omega)
   ·exact h.free a hb e _ a1
  ·exact s5 j g hj
theorem HalfQ.nq (Q:HalfQ M qe qL S m n) (hq:goodB qe qL=true):NQ qe qL n:=⟨hq,Q.gt,Q.le,Q.lL,Q.used⟩
theorem HalfQ.see (Q:HalfQ M qe qL S m n) (hq:goodB qe qL=true):SeN qe qL m n:=⟨hq,Q.le,Q.lL,Q.o,by have:=Q.m1;omega,by have:=Q.used;omega⟩
theorem HalfQ.none_ (Q:HalfQ M qe qL S 0 n) (hq:goodB qe qL=true):HalfR M qe qL S 0 2 n:=⟨Q.nq hq,Q.o,by omega,Q.shut,.inr rfl,fun e=>by omega,Q.free⟩
theorem HalfQ.get (Q:HalfQ M qe qL S m n) (hq:goodB qe qL=true):∃ V,(V=1∨V=2)∧GNod qe qL n V (GX qe qL n 0 0) 0 true n∧(V=1→GX qe qL n 0 0=S):=by
 have had:AdG qe qL 0:=(Q.nq hq).ad (a:=0) (by omega)
 have g:=GNod.start Q.gt had Q.pre (by rcases Q.has with e | ⟨e,_⟩ <;> (rw [e];decide))
 rcases Q.has with e | ⟨e,e2⟩
 ·rw [e,if_pos rfl] at g
  exact ⟨2,.inr rfl,g,fun e=>absurd e (by decide)⟩
 ·rw [e,if_neg (by decide)] at g
  exact ⟨1,.inl rfl,g,fun _=>e2⟩
theorem gnod_down (Q:NQ qe qL n) {n':Nd} {a V:Int} {X:ByteArray} (ha:ofB qe qL a=true) (G:GNod qe qL n V X a true n') {u:Nat} (h:(n.u u).down=false):(n'.u u).down=false:=by
 by_cases e:∃ j,j < lenG qe qL a∧u=unG qe qL a j
 ·obtain ⟨j,hj,rfl⟩:=e
  exact (G.ft.u a j ha hj).up
 ·rw [G.rest u (fun j hj hn=>e ⟨j,hj,hn⟩)]
  exact h
theorem NQ.got (Q:NQ qe qL n) {n':Nd} {a V:Int} {X:ByteArray} (G:GNod qe qL n V X a true n'):NQ qe qL n':=⟨Q.good,G.ft,by rw [G.l];exact Q.le,by rw [G.l];exact Q.lL,by rw [G.l];exact Q.used⟩
theorem full_of {n':Nd} {a:Int} {X:ByteArray} (hV:V=1∨V=2) (G:GNod qe qL n V X a true n') (hall:∀ j,j < lenG qe qL a→GK qe qL n' a j=V) (hS:V=1→X=S):Full qe qL n' a V S:=fun j hj=>by
 refine ⟨hall j hj,fun e=>?_⟩
 rcases G.each j hj with g | g
 ·have:=hall j hj
  omega
 ·rw [g.2 e,hS e]
theorem HalfQ.read (Q:HalfQ M qe qL S 1 n) (hq:goodB qe qL=true) {n':Nd} {X:ByteArray} (hV:V=1∨V=2) (G:GNod qe qL n V X 0 true n') (hall:∀ j,j < lenG qe qL 0→GK qe qL n' 0 j=V) (hS:V=1→X=S):HalfR M qe qL S 1 V n':=by
 have hz:=of_zero hq
 refine ⟨(Q.nq hq).got G,G.o.trans Q.o,by omega,fun u hu=>?_,hV,fun _=>full_of hV G hall hS,fun a ha ham j hj=>?_⟩
 ·obtain ⟨g1,g2⟩:=Q.shut u hu
  exact ⟨gnod_down (Q.nq hq) hz G g1,(G.epoch _).trans g2⟩
 ·rw [(G.off a j ha hj (by omega)).1]
  exact Q.free a ha ham j hj
theorem NQ.full (Q:NQ qe qL n) {a:Nat} (ha:a≤1) (hV:V=1∨V=2) (F:Full qe qL n a V S):GNod qe qL n V S a true n:=by
 have had:=Q.ad ha
 have hl:=z1b had.of
 have hp:PreG qe qL n a:=fun j hj _=>by
  obtain ⟨g1,g2⟩:=F j (by omega)
  obtain ⟨g3,g4⟩:=F (j+1) hj
  rw [g1,g3]
  exact ⟨rfl,fun e=>by rw [g2 e,g4 e]⟩
 obtain ⟨g1,g2⟩:=F 0 (by omega)
 have h:=GNod.start Q.gt had hp (by rcases hV with e | e <;> (rw [g1,e];decide))
 rw [g1,if_neg (by rcases hV with e | e <;> (rw [e];decide))] at h
 rcases hV with e | e
 ·rw [g2 e] at h
  exact h
 ·exact ⟨h.ft,fun j hj=>.inr ⟨(F j hj).1,fun e1=>by omega⟩,h.kind,h.one,h.two,h.nil,h.trim,h.pre,h.off,h.rest,h.epoch,h.o,h.l,h.same⟩
theorem full_kept {n':Nd} {a b:Int} {V2:Int} {S2:ByteArray} (hV:V=1∨V=2) (G:GNod qe qL n V S a true n') (hall:∀ j,j < lenG qe qL a→GK qe qL n' a j=V) (F:Full qe qL n a V S) (hb:ofB qe qL b=true) (F2:Full qe qL n b V2 S2):Full qe qL n' b V2 S2:=by
 by_cases e:b=a
 ·subst e
  have hl:=z1b hb
  have ev:V2=V:=(F2 0 (by omega)).1.symm.trans (F 0 (by omega)).1
  subst ev
  intro j hj
  refine ⟨hall j hj,fun e1=>?_⟩
  rcases G.each j hj with g | g
  ·have:=hall j hj
   omega
  ·rw [g.2 e1,← (F j hj).2 e1,(F2 j hj).2 e1]
 ·intro j hj
  obtain ⟨g1,g2⟩:=G.off b j hb hj e
  rw [g1,g2]
  exact F2 j hj
theorem HalfR.put (R:HalfR M qe qL S m V n):PutR qe qL n m:=⟨R.q.gt,R.q.ad R.m1,R.o,R.q.le,R.q.lL,fun j hj=>R.free m (R.q.ad R.m1).of (Int.le_refl _) j hj⟩
theorem HalfR.early (R:HalfR M qe qL S 1 1 n):HalfZ qe qL S 1 1 0 n:=⟨R.q,by omega,.inl rfl,R.got,R.got rfl⟩
theorem HalfR.late (R:HalfR M qe qL S m V n) {n':Nd} (P:PutN qe qL n m S n' (lenG qe qL m)):HalfZ qe qL S m V m n':=by
 have hz:=of_zero R.q.good
 refine ⟨⟨R.q.good,P.ft,by rw [P.l];exact R.q.le,by rw [P.l];exact R.q.lL,by rw [P.l];exact R.q.used⟩,R.m1,R.v,fun e=>?_,fun j hj=>?_⟩
 ·intro j hj
  obtain ⟨g1,g2⟩:=P.off 0 j hz hj (by omega)
  rw [g1,g2]
  exact R.got e j hj
 ·obtain ⟨g1,g2⟩:=P.got j hj hj
  exact ⟨g1,fun _=>g2⟩
theorem HalfZ.read {A a:Nat} {W:Int} (Z:HalfZ qe qL S m V A n) (ha:a≤1) (hW:W=1∨W=2) (F:Full qe qL n a W S) {n':Nd} (G:GNod qe qL n W S a true n') (hall:∀ j,j < lenG qe qL a→GK qe qL n' a j=W):HalfZ qe qL S m V A n' :=
 ⟨Z.q.got G,Z.a1,Z.v,fun e=>full_kept hW G hall F (of_zero Z.q.good) (Z.got e),full_kept hW G hall F (Z.q.ad Z.a1).of Z.rec_⟩
def HalfA (E:Int) (M:List (List Int)) (S:ByteArray) (a:Ap) (i:Nat):Prop :=
 (a.at_=2∧a.txt=S∧a.ep=E∧a.L=M∧i=0)∨(a.at_=3∧a.txt=S∧a.ep=E∧a.L=M∧a.addr=0∧a.i=i∧i < lenG E M 0)∨(a.at_=6∧a.e=0∧a.addr=0∧i=lenG E M 0)
theorem HalfA.of {a:Ap} {d:Nat} (h:RecN E M n0 0 txt) (H:PlR E M n0 0 S n a d) (hd:d≤5):∃ i,HalfA E M S a i∧HalfB E M S n i:=by
 rcases H with ⟨_,h7⟩ | ⟨_,h6⟩ | ⟨⟨h1,h2,h3,h4,rfl⟩,_⟩ | ⟨⟨h1,h2,h3,h4,h5,h6,h7⟩,_⟩ | ⟨h1,h2,h3,h4⟩
 ·omega
 ·omega
 ·exact ⟨0,.inl ⟨h1,h2,h3,h4,rfl⟩,HalfB.zero h⟩
 ·exact ⟨a.i,.inr (.inl ⟨h1,h2,h3,h4,h5,rfl,h6⟩),HalfB.some h h7⟩
 ·exact ⟨_,.inr (.inr ⟨h1,h2,h3,rfl⟩),HalfB.some h h4⟩
theorem HalfA.on {a:Ap} (H:HalfA E M S a i) (hS:S.size≤4096) (hg:goodB E M=true) (hne:E < qe) (R:HalfR M qe qL S (if i=0 then 0 else 1) V n):PlR qe qL n ((if i=0 then 0 else 1:Nat):Int) S n a 7∨(a.at_=6∧a.e=0∧a.addr=0∧i=lenG E M 0):=by
 rcases H with ⟨h1,h2,h3,h4,rfl⟩ | ⟨h1,h2,h3,h4,h5,h6,h7⟩ | h
 ·exact .inl (PlR.turnedA R.put hS h2 (by rw [h3,h4];exact hg) (by omega) (.inl h1))
 ·refine .inl (PlR.turnedA R.put hS h2 (by rw [h3,h4];exact hg) (by omega) (.inr ⟨h1,?_⟩))
  have hz:=of_zero hg
  obtain ⟨g1,g2⟩:=R.shut _ (unG_mem hz h7)
  rw [Int.toNat_natCast] at g1 g2
  rw [h3,h4,h5,h6]
  exact ⟨hz,h7,g1,by rw [g2];exact hne⟩
 ·exact .inr h
theorem HalfA.over (hq:nextB E M qe qL=true) (h:HalfB E M S n i) (hi:i=lenG E M 0) {K:List (Int × Int)} (C:ChgN n qe qL K n2):GK qe qL n2 0 0=1:=by
 have T:=h.turned hq C.same
 obtain ⟨_,hg,_,_,_⟩:=nextB_iff.1 hq
 obtain ⟨t,σ,s1,s2,s3,s4,s5⟩:=T.have (of_zero hg)
 obtain ⟨a1,a2,a3⟩:=s3 0 (by omega)
 rw [a2]
 exact (h.got _ a1 (by omega)).1
end
section
variable {α β:Type} {T:(Nat→Prop)→World→α→Prop} {U:(Nat→Prop)→World→β→Prop} {X Y:Nat→Prop} {w W:World} {a t:α} {u:β}
theorem Side.part (hU:Thing U) (hs:Side T U X w a u):∃ G:Nat→Prop,U G w u∧Solo T (fun k=>X k∨G k) w a∧∀ k,X k→¬ G k:=by
 obtain ⟨h1,F,G,h2,h3,h4,h5⟩:=hs
 refine ⟨G,h3,⟨fun k hk=>hk.elim (h1 k) (hU.lt h3 k),F,h2,fun k hk hf=>?_⟩,fun k hk=>(h4 k hk).2⟩
 rcases hk with hk | hk
 ·exact (h4 k hk).1 hf
 ·exact h5 k hf hk
theorem Side.join {G:Nat→Prop} (hU:Thing U) (hG:U G w u) (hX:∀ k,Y k→X k∨G k) (hY:∀ k,Y k→¬ G k) (hs:Solo T (fun k=>X k∨G k) W t) (hk:Kept (fun k=>G k) w W):Side T U Y W t u:=by
 obtain ⟨h1,F,h2,h3⟩:=hs
 exact ⟨fun k hk=>h1 k (hX k hk),F,G,h2,hU.keep hG hk (fun k hg=>hg),fun k hk=>⟨h3 k (hX k hk),hY k hk⟩,fun k hf hg=>h3 k (.inr hg) hf⟩
theorem Solo.stored (hT:Thing T) (h:Solo T X w a) {q o:Nat} (hq:X q) (v:Value):Solo T X (w.setCell ⟨q,o,none⟩ v) a:=by
 obtain ⟨h1,F,h2,h3⟩:=h
 have hk:Kept (fun k=>k≠q) w (w.setCell ⟨q,o,none⟩ v):=(Kept.refl _ w).setCell (p:=⟨q,o,none⟩) (fun h=>h rfl) v
 exact ⟨fun k hk2=>Nat.lt_of_lt_of_le (h1 k hk2) hk.size,F,hT.keep h2 hk (fun k hf e=>h3 q hq (e ▸ hf)),h3⟩
end
section
variable {E:Int} {M:List (List Int)} {n0:Nd} {t:Int} {S:ByteArray} {a:Ap} {d:Nat}
theorem PlR.stepH (h0:PutR E M n0 t) (hS:S.size≤4096) (hu:n0.l.used.length≤100000) {h:Hd} (H:PlR E M n0 t S h.n a d) (h6:a.at_≠6) :
  PlR E M n0 t S (h.asked a.ask 0).n (a.hear (h.heard a.ask 0) true) (d - 1)∧1≤d∧SmQ a.ask∧FewX (h.heard a.ask 0)∧h.n.l.used.length≤100000:=by
 obtain ⟨g1,g2,g3,g4,g5⟩:=H.step h0 hS h6
 have en:(h.asked a.ask 0).n=h.n.done a.ask:=by
  rcases asked_n h a.ask 0 with ⟨_,g⟩ | ⟨g,_⟩
  ·exact g
  ·exact absurd rfl g
 have eh:h.heard a.ask 0=h.n.ans a.ask:=if_pos rfl
 exact ⟨by rw [en,eh];exact g1,g2,g3,fewX_heard h a.ask 0 (by rw [H.l,h0.ep,h0.L];exact h0.good) (fun e=>absurd e g4) (fun e=>absurd e g5),by rw [H.l];exact hu⟩
end
section
variable {E:Int} {M:List (List Int)} {n0 n:Nd} {t:Int} {S:ByteArray} {a:Ap} {d:Nat}
theorem PlR.rest0 (H:PlR E M n0 t S n a d) (h6:a.at_=6):PlR E M n0 t S n a 0:=by
 rcases H with ⟨⟨p,_⟩,_⟩ | ⟨⟨p,_⟩,_⟩ | ⟨⟨p,_⟩,_⟩ | ⟨⟨p,_⟩,_⟩ | p
 ·exact absurd h6 p
 all_goals first | omega | exact .inr (.inr (.inr (.inr p)))
theorem PlR.zero (h0:PutR E M n0 t) (H:PlR E M n0 t S n a 0):a.at_=6∧a.e=0∧a.addr=t∧PutN E M n0 t S n (lenG E M t):=by
 have hl:=z1b h0.ad.of
 rcases H with ⟨_,p⟩ | ⟨_,p⟩ | ⟨_,p⟩ | ⟨⟨_,_,_,_,_,p1,_⟩,p⟩ | p
 ·omega
 ·omega
 ·omega
 ·omega
 ·exact p
theorem half_ends {qe:Int} {qL:List (List Int)} {m i:Nat} {V:Int} {n1 n2 n3:Nd} {K:List (Int × Int)} {oe:Int} {oM:List (List Int)} (hx:nextB oe oM qe qL=true) (hB:HalfB oe oM S n1 i) (C:ChgN n1 qe qL K n2) (hm:m=if i=0 then 0 else 1) (R:HalfR oM qe qL S m V n3) (hV:m=1→GK qe qL n2 0 0=1→V=1)
  (H:(∃ d,PlR qe qL n3 (m:Int) S n a d∧d+30≤30)∨(a.at_=6∧a.e=0∧a.addr=0∧n=n3∧i=lenG oe oM 0)):∃ A:Nat,a.at_=6∧a.e=0∧a.addr=(A:Int)∧HalfZ qe qL S m V A n:=by
 rcases H with ⟨d,H,hd⟩ | ⟨h6,he,ha,rfl,hi⟩
 ·obtain rfl:d=0:=by omega
  obtain ⟨g1,g2,g3,g4⟩:=H.zero R.put
  exact ⟨m,g1,g2,g3,R.late g4⟩
 ·have hl:=z1b (of_zero hB.good)
  obtain rfl:m=1:=by rw [hm,if_neg (by omega)]
  obtain rfl:V=1:=hV rfl (HalfA.over hx hB hi C)
  exact ⟨0,h6,he,ha,R.early⟩
end
section
variable {UG:Nat→Nat→(Nat→Prop)→World→Us→Prop} {OG:Nat→(Nat→Prop)→World→Od→Prop} {LG:Nat→(Nat→Prop)→World→Ly→Prop} {NG:Nat→(Nat→Prop)→World→Nd→Prop} {HG:Nat→Nat→(Nat→Prop)→World→Hd→Prop} {FG:Nat→(Nat→Prop)→World→Fe→Prop}
theorem foundG_eq {V:Int} {X S:ByteArray} (h:V=1→X=S):foundG V X=foundG V S:=by
 unfold foundG
 by_cases e:V=1
 ·rw [if_pos e,if_pos e,h e]
 ·rw [if_neg e,if_neg e]
theorem get_half (HS:HandSays UG OG LG NG HG) (FS:FetchSays FG) (b nb:Nat) (X:Nat→Prop) (w:World) (h0:Hd) (hs:Solo (HG b nb) X w h0) {M:List (List Int)} {qe:Int} {qL:List (List Int)} {S:ByteArray} (hz:S.size≤4096) (Q:HalfQ M qe qL S 1 h0.n) (hq:goodB qe qL=true)
  (ao:Option Addr) (cap:Nat) (hC:CL w ao qL) (hn:ao=none→cap=0) (hc:qL.length≤cap) :
  Calls Tryz.prog 37 #[.pointer (some ⟨b,0,none⟩),.agg #[.int .i64 qe,.slice ao qL.length cap],.int .i64 0,.bool true,.slice none 0 0] w fun e w'=>∃ V:Int,e=.returned (.tuple #[.int .i64 V,.string (foundG V S),.int .i64 0,.bool true])∧∃ h':Hd,HalfR M qe qL S 1 V h'.n∧(GK qe qL h0.n 0 0=1→V=1)∧Solo (HG b nb) X w' h'∧Kept X w w':=by
 obtain ⟨V,hV,G0,hX⟩:=Q.get hq
 have had:AdG qe qL 0:=(Q.nq hq).ad (a:=0) (by omega)
 refine (get_any HS FS b nb X w h0 hs qe qL V (GX qe qL h0.n 0 0) 0 true G0 had Q.le Q.lL (fun e=>by rw [hX e];exact hz) (by have:=Q.used;omega) qe qL (.inl ⟨rfl,rfl⟩) ao cap hC hn hc none 0).mono ?_
 rintro e w' ⟨he,h',⟨hN,hall⟩,h7,h8⟩
 refine ⟨V,by rw [he,foundG_eq hX],h',Q.read hq hV hN hall hX,fun e=>?_,h7,h8⟩
 rcases hV with g | g
 ·exact g
 ·rcases G0.two g with g2 | g2
  ·have:=hall 0 (by have:=z1b had.of;omega)
   rcases G0.each 0 (by have:=z1b had.of;omega) with g3 | ⟨g3,_⟩
   ·omega
   ·omega
  ·omega
theorem get_full (HS:HandSays UG OG LG NG HG) (FS:FetchSays FG) (b nb:Nat) (X:Nat→Prop) (w:World) (h0:Hd) (hs:Solo (HG b nb) X w h0) {qe:Int} {qL:List (List Int)} {S:ByteArray} {m A:Nat} {V:Int} (hz:S.size≤4096) (Z:HalfZ qe qL S m V A h0.n) (a:Nat) (ha:a≤1) {W:Int} (hW:W=1∨W=2) (F:Full qe qL h0.n a W S)
  (ao:Option Addr) (cap:Nat) (hC:CL w ao qL) (hn:ao=none→cap=0) (hc:qL.length≤cap) :
  Calls Tryz.prog 37 #[.pointer (some ⟨b,0,none⟩),.agg #[.int .i64 qe,.slice ao qL.length cap],.int .i64 a,.bool true,.slice none 0 0] w fun e w'=>e=.returned (.tuple #[.int .i64 W,.string (foundG W S),.int .i64 0,.bool true])∧∃ h':Hd,HalfZ qe qL S m V A h'.n∧Solo (HG b nb) X w' h'∧Kept X w w':=by
 have had:=Z.q.ad ha
 refine (get_any HS FS b nb X w h0 hs qe qL W S a true (Z.q.full ha hW F) had Z.q.le Z.q.lL (fun _=>hz) (by have:=Z.q.used;omega) qe qL (.inl ⟨rfl,rfl⟩) ao cap hC hn hc none 0).mono ?_
 rintro e w' ⟨he,h',⟨hN,hall⟩,h7,h8⟩
 exact ⟨he,h',Z.read ha hW F hN hall,h7,h8⟩
end
end Go.Proofs.YtkefpbcifcjibaaGreat
