/- Joined texts. -/
import Derived.Test.YtkefpbcifcjibaaGreatG32a
set_option linter.unusedVariables false
set_option maxRecDepth 20000
set_option maxHeartbeats 16000000
namespace Go.Proofs.YtkefpbcifcjibaaGreat
open Go.RowKit
theorem ap_hear (b:Nat) (G:Nat→Prop) (w:World) (q:Qa) (x:An) (xo:Option Addr) (xp:Nat) (c:Bool) (h:AQ b G w q) (hr:0≤q.at_∧q.at_≤5) (hq:fewL q.L) (hub:q.at_=3∨q.at_=4→0≤q.unit∧q.unit≤100) (hf:fewL x.L) (hx:CL w xo x.L) :
  Calls Tryz.prog 40 #[ptrP b,ansV x xo xp,.bool c] w fun e w'=>e=.returned (.tuple #[])∧Leaves (AQ b) G w w' (q.hear x c):=by
 obtain ⟨xc,xn,xd,xe,xL,xm,xs,xy⟩:=x
 show Calls _ _ #[ptrP b,.agg #[.int .i64 xc,.int .i64 xn,.string xd,.int .i64 xe,.slice xo xL.length xp,.int .i64 xm,.int .i64 xs,.int .i64 xy],.bool c] w _
 unfold Qa.hear Qa.heard
 dsimp only
 by_cases a5:q.at_=5
 ·rw [if_pos a5]
  exact hr_over c b G w q xc xn xd xe xL xm xs xy xo xp h hf hx hq a5
 ·rw [if_neg a5]
  cases c with
  | false =>
   rw [if_pos (.inl rfl)]
   by_cases a3:q.at_=3
   ·rw [if_pos ⟨a3,.inl rfl⟩]
    exact hr_s1 b G w q xc xn xd xe xL xm xs xy xo xp h hf hx hq a3
   ·rw [if_neg (fun e=>a3 e.1)]
    exact hr_n1 b G w q xc xn xd xe xL xm xs xy xo xp h hf hx hq a3 a5
  | true =>
   have nf:¬ true=false:=Bool.noConfusion
   cases hw:q.waits xc with
   | true =>
    rw [if_pos (.inr rfl)]
    by_cases a3:q.at_=3
    ·have n0:¬ xc=0:=fun e=>by
      subst e
      exact Bool.noConfusion (hw.symm.trans (by unfold Qa.waits;rfl:q.waits 0=false))
     rw [if_neg (fun e=>e.2.elim nf n0)]
     exact hr_n2a b G w q xc xn xd xe xL xm xs xy xo xp h hf hx hq a3 n0 hw
    ·rw [if_neg (fun e=>a3 e.1)]
     exact hr_n2b b G w q xc xn xd xe xL xm xs xy xo xp h hf hx hq a3 a5 hw
   | false =>
    rw [if_neg (fun e=>e.elim nf Bool.noConfusion)]
    by_cases c40:xc=40
    ·subst c40
     rw [if_pos rfl,if_neg (fun e=>e.2.elim nf (by decide))]
     by_cases a3:q.at_=3
     ·exact hr_n3a b G w q 0 xn xd xe xL xm xs xy xo xp h hf hx hq a3 hw
     ·exact hr_n3b b G w q 0 xn xd xe xL xm xs xy xo xp h hf hx hq a3 a5 hw
    ·rw [if_neg c40]
     by_cases c45:xc=45
     ·subst c45
      rw [if_pos rfl,if_neg (fun e=>e.2.elim nf (by decide))]
      by_cases a3:q.at_=3
      ·exact hr_n4a b G w q 0 xn xd xe xL xm xs xy xo xp h hf hx hq a3 hw
      ·exact hr_n4b b G w q 0 xn xd xe xL xm xs xy xo xp h hf hx hq a3 a5 hw
     ·rw [if_neg c45]
      by_cases a01:q.at_=0∨q.at_=1
      ·rw [if_pos a01,if_neg (fun e=>by omega)]
       rcases a01 with a0 | a1
       ·exact hr_n5 b G w q xc xn xd xe xL xm xs xy xo xp h hf hx hq a0 c40 c45 hw
       ·exact hr_n6 b G w q xc xn xd xe xL xm xs xy xo xp h hf hx hq a1 c40 c45 hw
      ·rw [if_neg a01]
       have hat:q.at_=2∨q.at_=3∨q.at_=4:=by omega
       have hu:q.at_≠2→0≤q.unit∧q.unit≤100:=fun e=>hub (by omega)
       by_cases a3:q.at_=3
       ·by_cases c0:xc=0
        ·subst c0
         rw [if_pos ⟨a3,.inr rfl⟩]
         exact hr_s2 b G w q 0 xn xd xe xL xm xs xy xo xp h hf hx hq a3 hat hu hw
        ·rw [if_neg (fun e=>e.2.elim nf c0)]
         exact hr_n7a b G w q xc xn xd xe xL xm xs xy xo xp h hf hx hq a3 c0 c40 c45 hat hu hw
       ·rw [if_neg (fun e=>a3 e.1)]
        exact hr_n7b b G w q xc xn xd xe xL xm xs xy xo xp h hf hx hq a3 c40 c45 hat hu hw
theorem am_ask (b:Nat) (G:Nat→Prop) (w:World) (a:Ap) (h:AM b G w a) :
  Calls Tryz.prog 39 #[ptrP b] w fun e w'=>e=.returned (.tuple #[askV a.ask,.bool a.asks])∧Leaves (AM b) G w w' a:=by
 have HL:=fun w' (hb:Below w.heap.size w w')=>Leaves.same (am_thing b) h hb
 obtain ⟨q,hs,hq⟩:=h
 obtain ⟨i6,i1,i5,i2,i3,i4⟩:=hs.at_iff
 have hr:=hs.range
 unfold Ap.ask Ap.asks
 by_cases a6:a.at_=6
 ·rw [if_neg (by omega),if_neg (by omega),if_neg (by omega),if_neg (by omega),decide_eq_false (fun e=>e a6)]
  exact (ap_ask_over b G w q (i6.2 a6) hq).mono fun e w' ⟨h1,h2⟩=>⟨h1,HL w' h2⟩
 ·rw [decide_eq_true a6]
  obtain ⟨g1,g2,g3,g4⟩:=hs.here a6
  by_cases a15:a.at_=1∨a.at_=5
  ·rw [if_pos a15]
   exact (ap_ask_lay b G w q (by omega) (by omega) (by omega) (by omega) hq).mono fun e w' ⟨h1,h2⟩=>⟨h1,HL w' h2⟩
  ·rw [if_neg a15]
   by_cases a2:a.at_=2
   ·rw [if_pos a2,← hs.ep]
    exact (ap_ask_token b G w q (i2.2 a2) hq).mono fun e w' ⟨h1,h2⟩=>⟨h1,HL w' h2⟩
   ·rw [if_neg a2]
    obtain ⟨u1,u2,u3,u4⟩:=hs.unit (by omega)
    have hf:=hs.few
    unfold Ap.unitK
    rw [← hs.ep,← hs.chains,← u1] at u3 u4 ⊢
    rw [← hs.chains] at hf
    by_cases a3:a.at_=3
    ·rw [if_pos a3,← g3]
     exact (ap_ask_write b G w q (i3.2 a3) (by rw [g3];exact g2) hf u3 a.i u2 u4 hq).mono fun e w' ⟨h1,h2⟩=>⟨h1,HL w' h2⟩
    ·rw [if_neg a3,if_pos (show a.at_=4 by omega)]
     exact (ap_ask_look b G w q (i4.2 (by omega)) hf u3 a.i u2 u4 hq).mono fun e w' ⟨h1,h2⟩=>⟨h1,HL w' h2⟩
theorem am_over (b:Nat) (G:Nat→Prop) (w:World) (a:Ap) (h:AM b G w a) :
  Calls Tryz.prog 42 #[ptrP b] w fun e w'=>e=.returned (.tuple #[.int .i64 a.overA,.int .i64 a.overE,.bool a.overB])∧Below w.heap.size w w':=by
 obtain ⟨q,hs,hq⟩:=h
 obtain ⟨i6,_⟩:=hs.at_iff
 have C:=ap_over b G w q hq
 unfold Ap.overE Ap.overB
 by_cases a6:a.at_=6
 ·obtain ⟨o1,o2⟩:=hs.over a6
  rw [if_pos (i6.2 a6),if_pos (i6.2 a6),decide_eq_true (i6.2 a6),o1,o2] at C
  rw [if_pos a6,decide_eq_true a6]
  exact C
 ·have n5:¬ q.at_=5:=fun e=>a6 (i6.1 e)
  rw [if_neg n5,if_neg n5,decide_eq_false n5] at C
  rw [if_neg a6,decide_eq_false a6,show a.overA=0 from if_neg (fun e=>a6 e.1)]
  exact C
theorem am_hear (b:Nat) (G:Nat→Prop) (w:World) (a:Ap) (x:An) (ao:Option Addr) (cap:Nat) (c:Bool) (h:AM b G w a) (hf:fewL x.L) (he:i64w x.pe) (hx:CL w ao x.L) :
  Calls Tryz.prog 40 #[ptrP b,ansV x ao cap,.bool c] w fun e w'=>e=.returned (.tuple #[])∧Leaves (AM b) G w w' (a.hear x c):=by
 obtain ⟨q,hs,hq⟩:=h
 obtain ⟨i6,i1,i5,i2,i3,i4⟩:=hs.at_iff
 have hr:=hs.range
 refine (ap_hear b G w q x ao cap c hq (by omega) (by rw [hs.chains];exact hs.few) (fun e=>?_) hf hx).mono fun e w' ⟨h1,G',a1,a2,a3⟩=>⟨h1,G',⟨_,sim_hear hs x c hf he,a1⟩,a2,a3⟩
 obtain ⟨u1,u2,u3,u4⟩:=hs.unit (by omega)
 have:=chain_some u3
 omega
theorem am_new (ep:Int) (ao:Option Addr) (cap:Nat) (L:List (List Int)) (rec:ByteArray) (w:World) (hc:CL w ao L) (hf:fewL L) (he:i64w ep) (hz:rec.size≤1000000) :
  Calls Tryz.prog 38 #[.agg #[.int .i64 ep,.slice ao L.length cap],.string rec] w fun e w'=>∃ (b:Nat) (G:Nat→Prop),e=.returned (ptrP b)∧AM b G w' (newAp ep L rec)∧(∀ k,G k→w.heap.size≤k)∧Below w.heap.size w w':=by
 have key:Calls Tryz.prog 38 #[.agg #[.int .i64 ep,.slice ao L.length cap],.string rec] w (NewQ w (newQ ep L rec)):=by
  unfold newQ
  cases hg:goodB ep L with
  | false =>
   rw [if_pos rfl]
   exact new_bad ep ao cap L rec w hc hf hg
  | true =>
   rw [if_neg Bool.noConfusion]
   by_cases hr:4096 < rec.size
   ·rw [if_pos hr]
    exact new_long ep ao cap L rec w hc hf hg hr hz
   ·rw [if_neg hr]
    exact new_ok ep ao cap L rec w hc hf hg hr
 exact key.mono fun e w' ⟨b,G,h1,h2,h3⟩=>⟨b,G,h1,⟨_,sim_new ep L rec hf he,h2⟩,h3⟩
theorem appSays:AppSays AM where
 thing:=am_thing
 new:=fun ep ao cap L rec w hc hf _ _ he hz=>am_new ep ao cap L rec w hc hf he hz
 ask:=am_ask
 hear:=fun b G w a x ao cap c h hf he hx=>am_hear b G w a x ao cap c h hf he (hx w (Kept.refl _ _))
 over:=am_over
 nil_ask:=ap_nil_ask
 nil_hear:=ap_nil_hear
 nil_over:=ap_nil_over
end Go.Proofs.YtkefpbcifcjibaaGreat
