/- Joined texts. -/
import Derived.Test.YtkefpbcifcjibaaGreatX01
import Derived.Test.YtkefpbcifcjibaaGreatX02
import Derived.Test.YtkefpbcifcjibaaGreatX03
import Derived.Test.YtkefpbcifcjibaaGreatX05
import Derived.Test.YtkefpbcifcjibaaGreatG30a
set_option linter.unusedVariables false
set_option maxRecDepth 20000
set_option maxHeartbeats 16000000
namespace Go.Proofs.YtkefpbcifcjibaaGreat
open Go.RowKit
section
variable {n0 n:Nd} {qe:Int} {qL:List (List Int)} {r:Rf}
theorem RunR.heardR (h0:Ready n0 qe qL) (H:RunR n0 n qe qL r) (h5:r.at_≠5):RunR n0 (n.done r.ask) qe qL (r.hear (n.ans r.ask) true):=by
 obtain ⟨r1,r2⟩:=H.range
 have hc:r.at_=1∨r.at_=2∨r.at_=3∨r.at_=4:=by omega
 rcases hc with e | e | e | e
 ·obtain ⟨d1,d2,_⟩:=H.lay1 h0 e
  rw [d1]
  exact d2
 ·obtain ⟨d1,d2⟩:=H.seal2 h0 e
  rcases d2 with ⟨c,_⟩ | ⟨_,d3,_⟩
  ·have:r.hear (n.ans r.ask) true=r:=by
    unfold Rf.hear
    rw [if_pos (.inr (.inr c))]
   rw [this]
   exact d1
  ·exact d3
 ·exact (H.chg3 h0 e).2.2.1
 ·exact (H.start4 h0 e).2.2.1
theorem RunR.again {E:Int} {M:List (List Int)} {m:Nat} {txt:Nat→ByteArray} (hR:RecN E M n0 m txt) (hx:nextB E M qe qL=true) {rL:List (List Int)} (hr:nextB E M qe rL=true) (H:RunR n0 n qe qL r):(n.l=n0.l∧Ready n qe rL)∨(n.l=chgL n0.l qe qL∧n.l.ep=qe):=by
 rcases H.lay with e | ⟨e,_⟩
 ·left
  obtain ⟨_,_,h3,_,_⟩:=nextB_iff.1 hr
  have hord:n.o=n0.o:=by
   rcases H.ord with o | ⟨_,o⟩
   ·exact o
   ·have:=H.four o
    rw [e] at this
    have hep:n0.l.ep=qe:=by rw [this];rfl
    rw [hR.le] at hep
    omega
  have R0:=hR.ready hr (Fell.refl n0 rL)
  refine ⟨e,by rw [e];exact R0.may,by rw [e];exact R0.good,fun i=>?_,fun u hu hq=>?_,by rw [hord];exact R0.order,fun i=>by rw [H.same.p];exact R0.pok i⟩
  ·rcases H.same.epoch i with g | g
   ·rw [g];exact R0.epoch i
   ·exact .inr g
  ·rw [H.same.down]
   rw [e] at hu
   exact R0.up u hu hq
 ·exact .inr ⟨e,by rw [e];rfl⟩
end
theorem chg48_any {UG:Nat→Nat→(Nat→Prop)→World→Us→Prop} {OG:Nat→(Nat→Prop)→World→Od→Prop} {LG:Nat→(Nat→Prop)→World→Ly→Prop} {NG:Nat→(Nat→Prop)→World→Nd→Prop} {HG:Nat→Nat→(Nat→Prop)→World→Hd→Prop} {RG:Nat→(Nat→Prop)→World→Rf→Prop} (HS:HandSays UG OG LG NG HG) (RS:RfmSays RG)
  (b nb:Nat) (X:Nat→Prop) (w:World) (h0:Hd) (hs:Solo (HG b nb) X w h0) (qe:Int) (qL:List (List Int)) (hq:goodB qe qL=true) (hg:goodB h0.n.l.ep h0.n.l.L=true) (hx:nextB h0.n.l.ep h0.n.l.L qe qL=false) (hu:h0.n.l.used.length≤1000)
  (ao:Option Addr) (cap:Nat) (hC:CL w ao qL) (hn:ao=none→cap=0) (hc:qL.length≤cap) :
  Calls Tryz.prog 32 #[.pointer (some ⟨b,0,none⟩),.agg #[.int .i64 qe,.slice ao qL.length cap],.slice none 0 0] w fun e w'=>e=.returned (.tuple #[.int .i64 48,.bool true])∧∃ h':Hd,h'.n=h0.n∧Solo (HG b nb) X w' h'∧Kept X w w':=by
 have z0:i64w 0:=z04 (by omega)
 have zs:(0:Nat)≤1000000:=by omega
 have en:newRf qe qL=⟨qe,qL,0,[],1,0,[],0⟩:=if_pos hq
 refine (chg_run HS RS b nb X w h0 hs qe (z16 hq).2 qL (z16 hq).1 ao cap hC hn hc none 0 [] (Nat.zero_le _) (fun W _=>Row.nil _ _ _ _) (fun x hx=>(by cases hx)) (fun k h r=>h.n=h0.n∧((k=0∧r=newRf qe qL)∨(k=1∧r.at_=5∧r.e=48))) ⟨fun k h r H=>?_,fun k h r H=>?_,fun k h r H h5=>?_,fun k h r m H h5 hm=>?_⟩ ⟨rfl,.inl ⟨rfl,rfl⟩⟩).mono ?_
 ·obtain ⟨_,⟨rfl,_⟩ | ⟨rfl,_⟩⟩:=H
  ·exact ⟨Nat.zero_le _,fun _=>by simp⟩
  ·exact ⟨by simp,fun _=>by simp⟩
 ·rw [H.1]
  omega
 ·obtain ⟨hn,⟨rfl,rfl⟩ | ⟨_,g,_⟩⟩:=H
  ·rw [en]
   have ea:(⟨qe,qL,0,[],1,0,[],0⟩:Rf).ask=layK:=rfl
   rw [ea]
   exact ⟨⟨⟨z04 (x:=9) (by omega),z0,z0,z0,zs⟩,z0,few_nil⟩,fun m=>⟨fewX_heard h layK m (by rw [hn];exact hg) (fun e=>absurd e (show (9:Int)≠3 by decide)) (fun e=>absurd e (show (9:Int)≠10 by decide)),fun e=>absurd e (show (1:Int)≠2 by decide)⟩⟩
  ·exact absurd g h5
 ·obtain ⟨hn,⟨rfl,rfl⟩ | ⟨_,g,_⟩⟩:=H
  ·obtain rfl:m=0:=hm (Nat.lt_irrefl 0)
   rw [en]
   have ea:(⟨qe,qL,0,[],1,0,[],0⟩:Rf).ask=layK:=rfl
   rw [ea]
   obtain ⟨e1,e2⟩:=nd_lay h.n (a:=layK) ⟨of_decide_eq_true rfl,of_decide_eq_true rfl⟩
   have e3:h.n.l.done layK=h.n.l:=by
    unfold Ly.done
    rw [if_neg (by decide),if_neg (fun e=>absurd e.1 (by decide))]
   have e4:h.n.l.ans layK=⟨0,h.n.l.n,noL,h.n.l.ep,h.n.l.L,h.n.l.mark,h.n.l.size,0⟩:=by
    unfold Ly.ans
    rw [if_pos (by decide)]
   have en2:(h.asked layK 0).n=h0.n:=by
    rcases asked_n h layK 0 with ⟨_,g⟩ | ⟨g,_⟩
    ·rw [g,e1,e3]
     exact hn
    ·exact absurd rfl g
   have eh:h.heard layK 0=⟨0,h.n.l.n,noL,h.n.l.ep,h.n.l.L,h.n.l.mark,h.n.l.size,0⟩:=by
    rw [show h.heard layK 0=h.n.ans layK from if_pos rfl,e2,e4]
   refine ⟨en2,.inr ⟨rfl,?_⟩⟩
   rw [eh,hn]
   unfold Rf.turn Rf.hear
   rw [if_neg (fun g=>absurd g.2.1 (show ¬ (0:Int)=45 by decide)),if_neg (fun g=>g.elim (show ¬ (1:Int)=5 by decide) (fun g=>g.elim (by decide) (show ¬ (0:Int)=45 by decide))),if_pos rfl,if_neg (show ¬ (0:Int)≠0 by decide),if_neg (by show ¬ nextB h0.n.l.ep h0.n.l.L qe qL=true;rw [hx];decide)]
   exact ⟨rfl,rfl⟩
  ·exact absurd g h5
 ·rintro e w' ⟨k,h',r',⟨hn,H⟩,h5,he,h7,h8⟩
  rcases H with ⟨_,rfl⟩ | ⟨_,_,g⟩
  ·rw [en] at h5
   exact absurd h5 (show ¬ (1:Int)=5 by decide)
  ·rw [g] at he
   exact ⟨he,h',hn,h7,h8⟩
end Go.Proofs.YtkefpbcifcjibaaGreat
