/- Joined texts. -/
import Derived.Test.YtkefpbcifcjibaaGreatG31a
import Derived.Test.YtkefpbcifcjibaaGreatG24a
import Derived.Test.YtkefpbcifcjibaaGreatG19a
import Derived.Test.YtkefpbcifcjibaaGreatG13a
import Derived.Test.YtkefpbcifcjibaaGreatH00
set_option linter.unusedVariables false
set_option maxRecDepth 20000
set_option maxHeartbeats 16000000
namespace Go.Proofs.YtkefpbcifcjibaaGreat
open Go.RowKit
theorem aq_made {W w2:World} {v:Value} {L:List (List Int)} (hO:OC w2 W.heap.size v L) (hb:Below W.heap.size W w2) (q:Qa) (hL:q.L=L) :
  AQ w2.heap.size (fun k=>W.heap.size≤k∧k≤w2.heap.size) (w2.alloc (.cells #[.int .i64 q.ep,v,.string q.txt,.int .i64 q.at_,.int .i64 q.was,.int .i64 q.addr,.int .i64 q.unit,.bool q.may,.int .i64 q.err] 134)) q:=by
 refine ⟨v,fun k=>W.heap.size≤k∧k < w2.heap.size,heap_alloc_new _ _,?_,⟨hb.size,Nat.le_refl _⟩,fun k hk=>⟨⟨hk.1,by omega⟩,by omega⟩,fun k hk=>by simp;omega⟩
 rw [hL]
 exact (CG.of hO).keep (Kept.ofBelow (z00 w2 _) (fun _=>True)) (fun _ _=>trivial)
def NewQ (w:World) (q:Qa) (e:Ending) (w':World):Prop:=∃ (b:Nat) (G:Nat→Prop),e=.returned (ptrP b)∧AQ b G w' q∧(∀ k,G k→w.heap.size≤k)∧Below w.heap.size w w'
theorem new_ended {w w1 w4 w5:World} {b:Nat} {G:Nat→Prop} {q:Qa} (hG:∀ k,G k→w1.heap.size≤k) (hb:Below w.heap.size w w4) (h1:w.heap.size≤w1.heap.size) (hl:Leaves (AQ b) G w4 w5 q):NewQ w q (.returned (.pointer (some ⟨b,0,none⟩))) w5:=by
 obtain ⟨G',r1,r2,r3⟩:=hl
 refine ⟨b,G',rfl,r1,fun k hk=>?_,hb.trans (kept_low r2 (fun k hk hg=>by have:=hG k hg;omega) hb.size)⟩
 rcases r3 k hk with h | h
 ·exact Nat.le_trans h1 (hG k h)
 ·exact Nat.le_trans hb.size h
theorem new_bad (ep:Int) (ao:Option Addr) (cap:Nat) (L:List (List Int)) (rec:ByteArray) (w:World) (hc:CL w ao L) (hf:fewL L) (hg:goodB ep L=false) :
  Calls Tryz.prog 38 #[.agg #[.int .i64 ep,.slice ao L.length cap],.string rec] w (NewQ w ⟨ep,L,noS,5,0,0,0,false,1⟩):=by
 have HB:=Lh (z00 w (.cells #[.int .i64 ep,.slice ao L.length cap] 24))
 have HC:=Lh (hc.below HB.out)
 have HX:=Lh (heap_alloc_new w (.cells #[.int .i64 ep,.slice ao L.length cap] 24))
 have CC:=Lh (fun W (hC:CL W ao L)=>z14 ep ao cap L W hC hf)
 have CG:=Lh (fun W (hC:CL W ao L)=>z0m ep ao cap L W hC hf)
 rw [hg] at CG
 obtain ⟨c0,c1,_⟩:=z05 HX.out
 clear hc hf hg
 go_enter Tryz.func38,Tryz.ntmps38
 go_wp2_with (first
  | (go_at_call 46;refine (CC.out _ HC.out).mono ?_;rintro e w2 ⟨v,rfl,hO,hb2⟩;obtain ⟨vo,vc,hv,_⟩:=hO.form;subst hv;have HQ:=Lh (aq_made hO hb2 ⟨ep,L,noS,2,0,0,0,false,0⟩ rfl);have HB3:=Lh ((HB.out.trans (hb2.mono HB.out.size)).trans ((z00 w2 (.cells #[.int .i64 ep,.slice vo L.length vc,.string ⟨#[]⟩,.int .i64 2,.int .i64 0,.int .i64 0,.int .i64 0,.bool false,.int .i64 0] 134)).mono (HB.out.trans (hb2.mono HB.out.size)).size));have HC3:=Lh ((HC.out.below hb2).below (z00 w2 (.cells #[.int .i64 ep,.slice vo L.length vc,.string ⟨#[]⟩,.int .i64 2,.int .i64 0,.int .i64 0,.int .i64 0,.bool false,.int .i64 0] 134)));obtain ⟨e0,e1,_⟩:=z05 (z01 (z00 w2 (.cells #[.int .i64 ep,.slice vo L.length vc,.string ⟨#[]⟩,.int .i64 2,.int .i64 0,.int .i64 0,.int .i64 0,.bool false,.int .i64 0] 134)) (z01 hb2 HX.out));clear hO hb2)
  | (go_at_call 44;refine (CG.out _ HC3.out).mono ?_;rintro e w4 ⟨rfl,hb4⟩;have HQ4:=Lh (HQ.out.below hb4);have HB4:=Lh (HB3.out.trans (hb4.mono HB3.out.size));clear hb4)
  | (go_at_call 70;refine (ap_end _ _ _ ⟨ep,L,noS,2,0,0,0,false,0⟩ 0 1 HQ4.out).mono ?_;rintro e w5 ⟨rfl,hl5⟩;have HL:=Lh hl5;clear hl5))
 go_ret
 exact new_ended (fun k hk=>hk.1) HB4.out HB.out.size HL.out
theorem new_long (ep:Int) (ao:Option Addr) (cap:Nat) (L:List (List Int)) (rec:ByteArray) (w:World) (hc:CL w ao L) (hf:fewL L) (hg:goodB ep L=true) (hr:4096 < rec.size) (hz:rec.size≤1000000) :
  Calls Tryz.prog 38 #[.agg #[.int .i64 ep,.slice ao L.length cap],.string rec] w (NewQ w ⟨ep,L,noS,5,0,0,0,false,2⟩):=by
 have HB:=Lh (z00 w (.cells #[.int .i64 ep,.slice ao L.length cap] 24))
 have HC:=Lh (hc.below HB.out)
 have HX:=Lh (heap_alloc_new w (.cells #[.int .i64 ep,.slice ao L.length cap] 24))
 have CC:=Lh (fun W (hC:CL W ao L)=>z14 ep ao cap L W hC hf)
 have CG:=Lh (fun W (hC:CL W ao L)=>z0m ep ao cap L W hC hf)
 rw [hg] at CG
 obtain ⟨c0,c1,_⟩:=z05 HX.out
 have hl:((rec.size:Nat):Int)≤1000000:=by omega
 clear hc hf hg
 go_enter Tryz.func38,Tryz.ntmps38
 go_wp2_with (first
  | (go_at_call 46;refine (CC.out _ HC.out).mono ?_;rintro e w2 ⟨v,rfl,hO,hb2⟩;obtain ⟨vo,vc,hv,_⟩:=hO.form;subst hv;have HQ:=Lh (aq_made hO hb2 ⟨ep,L,noS,2,0,0,0,false,0⟩ rfl);have HB3:=Lh ((HB.out.trans (hb2.mono HB.out.size)).trans ((z00 w2 (.cells #[.int .i64 ep,.slice vo L.length vc,.string ⟨#[]⟩,.int .i64 2,.int .i64 0,.int .i64 0,.int .i64 0,.bool false,.int .i64 0] 134)).mono (HB.out.trans (hb2.mono HB.out.size)).size));have HC3:=Lh ((HC.out.below hb2).below (z00 w2 (.cells #[.int .i64 ep,.slice vo L.length vc,.string ⟨#[]⟩,.int .i64 2,.int .i64 0,.int .i64 0,.int .i64 0,.bool false,.int .i64 0] 134)));obtain ⟨e0,e1,_⟩:=z05 (z01 (z00 w2 (.cells #[.int .i64 ep,.slice vo L.length vc,.string ⟨#[]⟩,.int .i64 2,.int .i64 0,.int .i64 0,.int .i64 0,.bool false,.int .i64 0] 134)) (z01 hb2 HX.out));clear hO hb2)
  | (go_at_call 44;refine (CG.out _ HC3.out).mono ?_;rintro e w4 ⟨rfl,hb4⟩;have HQ4:=Lh (HQ.out.below hb4);have HB4:=Lh (HB3.out.trans (hb4.mono HB3.out.size));clear hb4)
  | (go_at_call 70;refine (ap_end _ _ _ ⟨ep,L,noS,2,0,0,0,false,0⟩ 0 2 HQ4.out).mono ?_;rintro e w5 ⟨rfl,hl5⟩;have HL:=Lh hl5;clear hl5))
 go_ret
 exact new_ended (fun k hk=>hk.1) HB4.out HB.out.size HL.out
theorem new_ok (ep:Int) (ao:Option Addr) (cap:Nat) (L:List (List Int)) (rec:ByteArray) (w:World) (hc:CL w ao L) (hf:fewL L) (hg:goodB ep L=true) (hr:¬ 4096 < rec.size) :
  Calls Tryz.prog 38 #[.agg #[.int .i64 ep,.slice ao L.length cap],.string rec] w (NewQ w ⟨ep,L,rec,2,0,0,0,false,0⟩):=by
 have HB:=Lh (z00 w (.cells #[.int .i64 ep,.slice ao L.length cap] 24))
 have HC:=Lh (hc.below HB.out)
 have HX:=Lh (heap_alloc_new w (.cells #[.int .i64 ep,.slice ao L.length cap] 24))
 have CC:=Lh (fun W (hC:CL W ao L)=>z14 ep ao cap L W hC hf)
 have CG:=Lh (fun W (hC:CL W ao L)=>z0m ep ao cap L W hC hf)
 rw [hg] at CG
 obtain ⟨c0,c1,_⟩:=z05 HX.out
 have hl:((rec.size:Nat):Int)≤1000000:=by omega
 have CK:=Lh (fun w=>clone_any rec w (by omega))
 clear hc hf hg
 go_enter Tryz.func38,Tryz.ntmps38
 go_wp2_with (first
  | (go_at_call 46;refine (CC.out _ HC.out).mono ?_;rintro e w2 ⟨v,rfl,hO,hb2⟩;obtain ⟨vo,vc,hv,_⟩:=hO.form;subst hv;have HQ:=Lh (aq_made hO hb2 ⟨ep,L,noS,2,0,0,0,false,0⟩ rfl);have HB3:=Lh ((HB.out.trans (hb2.mono HB.out.size)).trans ((z00 w2 (.cells #[.int .i64 ep,.slice vo L.length vc,.string ⟨#[]⟩,.int .i64 2,.int .i64 0,.int .i64 0,.int .i64 0,.bool false,.int .i64 0] 134)).mono (HB.out.trans (hb2.mono HB.out.size)).size));have HC3:=Lh ((HC.out.below hb2).below (z00 w2 (.cells #[.int .i64 ep,.slice vo L.length vc,.string ⟨#[]⟩,.int .i64 2,.int .i64 0,.int .i64 0,.int .i64 0,.bool false,.int .i64 0] 134)));obtain ⟨e0,e1,_⟩:=z05 (z01 (z00 w2 (.cells #[.int .i64 ep,.slice vo L.length vc,.string ⟨#[]⟩,.int .i64 2,.int .i64 0,.int .i64 0,.int .i64 0,.bool false,.int .i64 0] 134)) (z01 hb2 HX.out));clear hO hb2)
  | (go_at_call 44;refine (CG.out _ HC3.out).mono ?_;rintro e w4 ⟨rfl,hb4⟩;have HQ4:=Lh (HQ.out.below hb4);have HB4:=Lh (HB3.out.trans (hb4.mono HB3.out.size));clear hb4))
 go_at_call 71
 refine (CK.out _).mono ?_
 rintro e w5 ⟨rfl,hb5⟩
 have HQ5:=Lh (HQ4.out.below hb5)
 have HB5:=Lh (HB4.out.trans (hb5.mono HB4.out.size))
 obtain ⟨a5,k5,h1,_,h3⟩:=HQ5.out.open
 obtain ⟨_,f0,f1,f2,_⟩:=z0g h1
 have hb:=lt_of_block h1
 have H1:=Lh h1
 have H3:=Lh h3
 clear h1 h3 hb5
 go_wp2_with fail
 go_ret
 exact new_ended (fun k hk=>hk.1) HB5.out HB.out.size (H3.out _ ⟨ep,L,rec,2,0,0,0,false,0⟩ ((Kept.refl _ w5).setCell (p:=⟨w2.heap.size,2,none⟩) (fun h=>h rfl) _) rfl (nset2 H1.out _))
theorem mp_hear (b:Nat) (G:Nat→Prop) (w:World) (r:Rf) (x:An) (xo:Option Addr) (xp:Nat) (c:Bool) (h:RfM b G w r) (hf:fewL x.L) (hn:r.at_=2→i64w x.n) (hx:CL w xo x.L) :
  Calls Tryz.prog 21 #[ptrP b,ansV x xo xp,.bool c] w fun e w'=>e=.returned (.tuple #[])∧Leaves (RfM b) G w w' (r.hear x c):=by
 obtain ⟨xc,xn,xd,xe,xL,xm,xs,xy⟩:=x
 show Calls _ _ #[ptrP b,.agg #[.int .i64 xc,.int .i64 xn,.string xd,.int .i64 xe,.slice xo xL.length xp,.int .i64 xm,.int .i64 xs,.int .i64 xy],.bool c] w _
 unfold Rf.hear
 dsimp only at *
 cases c with
 | false =>
  rw [if_pos (.inr (.inl rfl))]
  exact mh_no b G w r xc xn xd xe xL xm xs xy xo xp h
 | true =>
  by_cases a5:r.at_=5
  ·rw [if_pos (.inl a5)]
   exact mh_over b G w r xc xn xd xe xL xm xs xy xo xp h a5
  ·have hr:=(h.open a5).1.range
   by_cases c45:xc=45
   ·subst c45
    rw [if_pos (.inr (.inr rfl))]
    exact mh_down b G w r 0 xn xd xe xL xm xs xy xo xp h a5
   ·rw [if_neg (fun e=>e.elim a5 (fun e=>e.elim Bool.noConfusion c45))]
    by_cases a1:r.at_=1
    ·rw [if_pos a1]
     by_cases c0:xc=0
     ·subst c0
      rw [if_neg (fun e=>e rfl)]
      cases hs:nextB xe xL r.qe r.qL with
      | true=>rw [if_pos rfl];exact mh_lay_yes b G w r 0 xn xd xe xL xm xs xy xo xp h a1 hf hx hs
      | false=>rw [if_neg Bool.noConfusion];exact mh_lay_no b G w r 0 xn xd xe xL xm xs xy xo xp h a1 hf hx hs
     ·rw [if_pos c0]
      exact mh_lay_err b G w r xc xn xd xe xL xm xs xy xo xp h a1 c45 c0
    ·rw [if_neg a1]
     by_cases a2:r.at_=2
     ·rw [if_pos a2]
      by_cases c0:xc=0
      ·subst c0
       rw [if_neg (fun e=>e rfl)]
       exact mh_seal_ok b G w r 0 xn xd xe xL xm xs xy xo xp h a2 (hn a2)
      ·rw [if_pos c0]
       exact mh_seal_err b G w r xc xn xd xe xL xm xs xy xo xp h a2 c45 c0
     ·rw [if_neg a2]
      by_cases a3:r.at_=3
      ·rw [if_pos a3]
       by_cases c0:xc=0
       ·subst c0
        rw [if_pos (.inl rfl)]
        exact mh_chg_ok b G w r 0 xn xd xe xL xm xs xy xo xp h a3
       ·by_cases c48:xc=48
        ·subst c48
         cases hs:sameP xe xL r.qe r.qL with
         | true=>rw [if_pos (.inr ⟨rfl,rfl⟩)];exact mh_chg_same b G w r 0 xn xd xe xL xm xs xy xo xp h a3 hf hx hs
         | false=>rw [if_neg (fun e=>e.elim c0 (fun e=>Bool.noConfusion e.2))];exact mh_chg_not b G w r 0 xn xd xe xL xm xs xy xo xp h a3 hf hx hs
        ·rw [if_neg (fun e=>e.elim c0 (fun e=>c48 e.1))]
         exact mh_chg_err b G w r xc xn xd xe xL xm xs xy xo xp h a3 c45 c0 c48
      ·rw [if_neg a3]
       have a4:r.at_=4:=by omega
       by_cases c0:xc=0
       ·subst c0
        rw [if_pos (.inl rfl)]
        exact mh_start_ok b G w r 0 xn xd xe xL xm xs xy xo xp h a4
       ·by_cases c40:xc=40
        ·subst c40
         by_cases he:xy=r.qe
         ·rw [if_pos (.inr ⟨rfl,he⟩)]
          exact mh_start_same b G w r 0 xn xd xe xL xm xs xy xo xp h a4 he
         ·rw [if_neg (fun e=>e.elim c0 (fun e=>he e.2))]
          exact mh_start_not b G w r 0 xn xd xe xL xm xs xy xo xp h a4 he
        ·rw [if_neg (fun e=>e.elim c0 (fun e=>c40 e.1))]
         exact mh_start_err b G w r xc xn xd xe xL xm xs xy xo xp h a4 c45 c0 c40
theorem rfmSays:RfmSays RfM where
 thing:=z1v
 new:=fun ep ao cap L w hc hf _ _ _=>mp_new ep ao cap L w hc hf
 ask:=me_ask
 hear:=fun b G w r x ao cap c h hf _ hn hx=>mp_hear b G w r x ao cap c h hf hn (hx w (Kept.refl _ _))
 over:=mp_over
 skip:=me_skip
 nil_ask:=mp_nil_ask
 nil_hear:=mp_nil_hear
 nil_over:=mp_nil_over
 nil_skip:=mp_nil_skip
end Go.Proofs.YtkefpbcifcjibaaGreat
