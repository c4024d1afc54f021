/- Joined texts. -/
import Derived.Test.YtkefpbcifcjibaaGreatX01
import Derived.Test.YtkefpbcifcjibaaGreatX03
import Derived.Test.YtkefpbcifcjibaaGreatG10a
import Derived.Test.YtkefpbcifcjibaaGreatG19a
import Derived.Test.YtkefpbcifcjibaaGreatG08a
import Derived.Deep.RegionHeld3
import Derived.BigQuiet
import Derived.Test.YtkefpbcifcjibaaGreatG11a
import Derived.Test.YtkefpbcifcjibaaGreatG21a
import Derived.Test.YtkefpbcifcjibaaGreatG04a
import Derived.Test.YtkefpbcifcjibaaGreatG14a
import Derived.Test.YtkefpbcifcjibaaGreatG22b
import Derived.Test.YtkefpbcifcjibaaGreatG20a
import Derived.Test.YtkefpbcifcjibaaGreatG09a
import Derived.Test.YtkefpbcifcjibaaGreatG25a
import Derived.Test.YtkefpbcifcjibaaGreatH00
set_option linter.unusedVariables false
set_option maxRecDepth 20000
set_option maxHeartbeats 16000000
namespace Go.Proofs.YtkefpbcifcjibaaGreat
open Go.RowKit
structure Tl where
 ep:Int
 L:List (List Int)
 at_:Int
 n:Int
 e:Int
def newTl (ep:Int) (L:List (List Int)):Tl:=if goodB ep L=true then ⟨ep,L,2,0,0⟩ else ⟨ep,L,3,0,1⟩
def askTl (ep:Int):Ak:=⟨7,0,ep,0,0,0,⟨#[]⟩,0,[],none,0⟩
def Tl.ask (t:Tl):Ak:=if t.at_=1 then layK else if t.at_=2 then askTl t.ep else zeroK
def Tl.asks (t:Tl):Bool:=decide (t.at_≠3)
def Tl.ends (t:Tl) (n e:Int):Tl:=⟨t.ep,t.L,3,n,e⟩
def Tl.hear (t:Tl) (x:An) (heard:Bool):Tl :=
 if t.at_=3∨heard=false∨x.code=45∨x.code=47 then t
 else if x.code=40 then ⟨t.ep,t.L,1,t.n,t.e⟩
 else if t.at_=1 then (if x.code=0∧goodB x.pe x.L=true then ⟨x.pe,x.L,2,t.n,t.e⟩ else t)
 else if x.code=0 then (if 0≤x.n∧x.n≤16384 then t.ends x.n 0 else t.ends 0 1) else t.ends 0 x.code
def Tl.overN (t:Tl):Int:=if t.at_=3 then t.n else 0
def Tl.overE (t:Tl):Int:=if t.at_=3 then t.e else 0
def Tl.overB (t:Tl):Bool:=decide (t.at_=3)
theorem ask_akT (t:Tl):t.ask=⟨t.ask.kind,t.ask.unit,t.ask.epoch,t.ask.page,0,0,t.ask.data,0,[],none,0⟩:=by
 unfold Tl.ask
 repeat' split
 all_goals rfl
structure TailSays (TG:Nat→(Nat→Prop)→World→Tl→Prop):Prop where
 thing:∀ b,Thing (TG b)
 new:∀ (ep:Int) (ao:Option Addr) (cap:Nat) (L:List (List Int)) (w:World),CL w ao L→fewL L→(ao=none→cap=0)→L.length≤cap→i64w ep→Calls Tryz.prog 61 #[.agg #[.int .i64 ep,.slice ao L.length cap]] w fun e w'=>∃ (b:Nat) (G:Nat→Prop),e=.returned (ptrP b)∧TG b G w' (newTl ep L)∧(∀ k,G k→w.heap.size≤k)∧Below w.heap.size w w'
 ask:∀ (b:Nat) (G:Nat→Prop) (w:World) (t:Tl),TG b G w t→Calls Tryz.prog 62 #[ptrP b] w fun e w'=>e=.returned (.tuple #[askV t.ask,.bool t.asks])∧Leaves (TG b) G w w' t
 hear:∀ (b:Nat) (G:Nat→Prop) (w:World) (t:Tl) (x:An) (ao:Option Addr) (cap:Nat) (c:Bool),TG b G w t→fewL x.L→i64w x.pe→(∀ W,Kept (fun k=>¬ G k) w W→CL W ao x.L)→Calls Tryz.prog 63 #[ptrP b,ansV x ao cap,.bool c] w fun e w'=>e=.returned (.tuple #[])∧Leaves (TG b) G w w' (t.hear x c)
 over:∀ (b:Nat) (G:Nat→Prop) (w:World) (t:Tl),TG b G w t→Calls Tryz.prog 64 #[ptrP b] w fun e w'=>e=.returned (.tuple #[.int .i64 t.overN,.int .i64 t.overE,.bool t.overB])∧Below w.heap.size w w'
 nil_ask:∀ (w:World),Calls Tryz.prog 62 #[.pointer none] w fun e w'=>e=.returned (.tuple #[askV zeroK,.bool false])∧Below w.heap.size w w'
 nil_hear:∀ (x:An) (ao:Option Addr) (cap:Nat) (c:Bool) (w:World),Calls Tryz.prog 63 #[.pointer none,ansV x ao cap,.bool c] w fun e w'=>e=.returned (.tuple #[])∧Below w.heap.size w w'
 nil_over:∀ (w:World),Calls Tryz.prog 64 #[.pointer none] w fun e w'=>e=.returned (.tuple #[.int .i64 0,.int .i64 1,.bool true])∧Below w.heap.size w w'
theorem fv_of {w:World} {b:Nat} {t:TypeId} {v0 v1 v2 v3 v4:Value} (h:w.heap[b]?=some (.cells #[v0,v1,v2,v3,v4] t (0,0))) :
  (w.cell? ⟨b,0,none⟩=some v0∧w.cell? ⟨b,1,none⟩=some v1∧w.cell? ⟨b,2,none⟩=some v2∧w.cell? ⟨b,3,none⟩=some v3∧w.cell? ⟨b,4,none⟩=some v4)∧
  w.frozen? ⟨b,0,none⟩=false∧w.frozen? ⟨b,1,none⟩=false∧w.frozen? ⟨b,2,none⟩=false∧w.frozen? ⟨b,3,none⟩=false∧w.frozen? ⟨b,4,none⟩=false :=
 ⟨⟨z02 h 0,z02 h 1,z02 h 2,z02 h 3,z02 h 4⟩,z0a h 0,z0a h 1,z0a h 2,z0a h 3,z0a h 4⟩
theorem fvset0 {w:World} {b:Nat} {v0 v1 v2 v3 v4:Value} {t:TypeId} (h:w.heap[b]?=some (.cells #[v0,v1,v2,v3,v4] t (0,0))) (u:Value):(w.setCell ⟨b,0,none⟩ u).heap[b]?=some (.cells #[u,v1,v2,v3,v4] t (0,0)):=heap_setCell_same w b 0 _ t u h
theorem fvset1 {w:World} {b:Nat} {v0 v1 v2 v3 v4:Value} {t:TypeId} (h:w.heap[b]?=some (.cells #[v0,v1,v2,v3,v4] t (0,0))) (u:Value):(w.setCell ⟨b,1,none⟩ u).heap[b]?=some (.cells #[v0,u,v2,v3,v4] t (0,0)):=heap_setCell_same w b 1 _ t u h
theorem fvset2 {w:World} {b:Nat} {v0 v1 v2 v3 v4:Value} {t:TypeId} (h:w.heap[b]?=some (.cells #[v0,v1,v2,v3,v4] t (0,0))) (u:Value):(w.setCell ⟨b,2,none⟩ u).heap[b]?=some (.cells #[v0,v1,u,v3,v4] t (0,0)):=heap_setCell_same w b 2 _ t u h
theorem fvset3 {w:World} {b:Nat} {v0 v1 v2 v3 v4:Value} {t:TypeId} (h:w.heap[b]?=some (.cells #[v0,v1,v2,v3,v4] t (0,0))) (u:Value):(w.setCell ⟨b,3,none⟩ u).heap[b]?=some (.cells #[v0,v1,v2,u,v4] t (0,0)):=heap_setCell_same w b 3 _ t u h
theorem fvset4 {w:World} {b:Nat} {v0 v1 v2 v3 v4:Value} {t:TypeId} (h:w.heap[b]?=some (.cells #[v0,v1,v2,v3,v4] t (0,0))) (u:Value):(w.setCell ⟨b,4,none⟩ u).heap[b]?=some (.cells #[v0,v1,v2,v3,u] t (0,0)):=heap_setCell_same w b 4 _ t u h
def Tl.ok (t:Tl):Prop:=1≤t.at_∧t.at_≤3∧fewL t.L
def TM (b:Nat) (G:Nat→Prop) (w:World) (t:Tl):Prop :=
 ∃ (v:Value) (F:Nat→Prop),w.heap[b]?=some (.cells #[.int .i64 t.ep,v,.int .i64 (t.at_ - 1),.int .i64 t.n,.int .i64 t.e] 176 (0,0))∧CG F w v t.L∧t.ok∧G b∧(∀ k,F k→G k∧k≠b)∧∀ k,G k→k < w.heap.size
theorem tm_thing (b:Nat):Thing (TM b) where
 lt:=by
  rintro G w t ⟨v,F,_,_,_,_,_,h⟩ k hk
  exact h k hk
 keep:=by
  rintro G S w w' t ⟨v,F,h1,h2,h0,h3,h4,h5⟩ hk hS
  exact ⟨v,F,hk.heap (hS b h3) h1,h2.keep hk (fun k hf=>hS k (h4 k hf).1),h0,h3,h4,fun k hg=>Nat.lt_of_lt_of_le (h5 k hg) hk.size⟩
section
variable {w W W2:World} {b:Nat} {G H:Nat→Prop} {t t':Tl}
theorem TM.ok (h:TM b G w t):t.ok:=by
 obtain ⟨_,_,_,_,h,_⟩:=h
 exact h
theorem TM.below (h:TM b G w t) {w':World} (hb:Below w.heap.size w w'):TM b G w' t:=(tm_thing b).keep h (Kept.ofBelow hb (fun _=>True)) (fun _ _=>trivial)
theorem TM.open (h:TM b G w t):∃ ao cap,w.heap[b]?=some (.cells #[.int .i64 t.ep,.slice ao t.L.length cap,.int .i64 (t.at_ - 1),.int .i64 t.n,.int .i64 t.e] 176 (0,0))∧CL w ao t.L∧
  ∀ (W:World) (t':Tl),Kept (fun k=>k≠b) w W→t'.L=t.L→t'.ok→W.heap[b]?=some (.cells #[.int .i64 t'.ep,.slice ao t.L.length cap,.int .i64 (t'.at_ - 1),.int .i64 t'.n,.int .i64 t'.e] 176 (0,0))→Leaves (TM b) G w W t':=by
 obtain ⟨v,F,h1,h2,_,h3,h4,h5⟩:=h
 obtain ⟨ao,cap,rfl,h9,_⟩:=h2.cl
 refine ⟨ao,cap,h1,h9,fun W t' hk hL h0 hW=>⟨G,⟨_,F,hW,?_,h0,h3,h4,fun k hg=>Nat.lt_of_lt_of_le (h5 k hg) hk.size⟩,hk.mono (fun k hn e=>hn (e ▸ h3)),fun k hk=>.inl hk⟩⟩
 rw [hL]
 exact h2.keep hk (fun k hf=>(h4 k hf).2)
theorem TM.chains (h:TM b G w t) (hb:Below w.heap.size w W) {v:Value} (hO:OC W w.heap.size v t'.L) (hk:Kept (fun k=>k≠b) W W2) (h0:t'.ok)
  (hW:W2.heap[b]?=some (.cells #[.int .i64 t'.ep,v,.int .i64 (t'.at_ - 1),.int .i64 t'.n,.int .i64 t'.e] 176 (0,0))):Leaves (TM b) G w W2 t':=by
 obtain ⟨v0,F,h1,h2,_,h3,h4,h5⟩:=h
 have hr:=lt_of_block h1
 have hs:=hk.size
 refine ⟨fun k=>G k∨(w.heap.size≤k∧k < W.heap.size),⟨v,fun k=>w.heap.size≤k∧k < W.heap.size,hW,?_,h0,.inl h3,fun k hk2=>⟨.inr hk2,by omega⟩,fun k hk2=>?_⟩,(Kept.ofBelow hb _).trans (hk.mono (fun k hn e=>hn (e ▸ h3))),fun k hk2=>hk2.imp id (fun h=>h.1)⟩
 ·exact (CG.of hO).keep hk (fun k hk=>by omega)
 ·rcases hk2 with hk2 | hk2
  ·exact Nat.lt_of_lt_of_le (h5 k hk2) (Nat.le_trans hb.size hs)
  ·omega
end
section
variable {TG:Nat→(Nat→Prop)→World→Tl→Prop} {α:Type} {T:(Nat→Prop)→World→α→Prop} {X:Nat→Prop} {w w':World} {bt:Nat} {t:Tl} {a:α}
theorem st_new (TS:TailSays TG) (hT:Thing T) (hs:Solo T X w a) {ep:Int} {ao:Option Addr} {cap:Nat} {L:List (List Int)} (hC:CL w ao L) (hf:fewL L) (hn:ao=none→cap=0) (hc:L.length≤cap) (he:i64w ep) :
  Calls Tryz.prog 61 #[.agg #[.int .i64 ep,.slice ao L.length cap]] w fun e w'=>∃ bt:Nat,e=.returned (.pointer (some ⟨bt,0,none⟩))∧Side T (TG bt) X w' a (newTl ep L)∧Below w.heap.size w w':=by
 refine (TS.new ep ao cap L w hC hf hn hc he).mono ?_
 rintro e w' ⟨bt,G,h1,h2,h3,h4⟩
 exact ⟨bt,h1,Side.made hT hs h4 h2 h3,h4⟩
theorem st_ask (TS:TailSays TG) (hT:Thing T) (hs:Side T (TG bt) X w a t) :
  Calls Tryz.prog 62 #[.pointer (some ⟨bt,0,none⟩)] w fun e w'=>∃ (kd un ep pg:Int) (s:ByteArray),t.ask=akN kd un ep pg s∧e=.returned (.tuple #[.agg #[.int .i64 kd,.int .i64 un,.int .i64 ep,.int .i64 pg,.int .i64 0,.int .i64 0,.string s,.int .i64 0,.slice none 0 0],.bool t.asks])∧Side T (TG bt) X w' a t∧Kept X w w':=by
 refine (side_right (R:=fun e=>e=.returned (.tuple #[askV t.ask,.bool t.asks])) hT (TS.thing bt) hs (fun G hG=>TS.ask bt G w t hG)).mono ?_
 rintro e w' ⟨he,h1,h2⟩
 exact ⟨_,_,_,_,_,ask_akT t,by rw [he,ask_akT t];rfl,h1,h2⟩
theorem st_hearL (TS:TailSays TG) (hT:Thing T) (hs:Side T (TG bt) X w a t) {x:An} {vo:Option Addr} {vc:Nat} {c:Bool} (hf:fewL x.L) (he:i64w x.pe) {C:Nat→Prop} (hC:CG C w (.slice vo x.L.length vc) x.L) (hX:∀ k,C k→X k) :
  Calls Tryz.prog 63 #[.pointer (some ⟨bt,0,none⟩),ansV x vo vc,.bool c] w fun e w'=>e=.returned (.tuple #[])∧Side T (TG bt) X w' a (t.hear x c)∧Kept X w w' :=
 side_rightX (R:=fun e=>e=.returned (.tuple #[])) hT hs (fun G hG hX2=>TS.hear bt G w t x vo vc c hG hf he (fun W hW=>z1e (hC.keep hW (fun k hk=>hX2 k (hX k hk)))))
theorem st_over (TS:TailSays TG) (hT:Thing T) (hs:Side T (TG bt) X w a t) :
  Calls Tryz.prog 64 #[.pointer (some ⟨bt,0,none⟩)] w fun e w'=>e=.returned (.tuple #[.int .i64 t.overN,.int .i64 t.overE,.bool t.overB])∧Side T (TG bt) X w' a t∧Below w.heap.size w w':=by
 obtain ⟨_,F,G,_,hG,_⟩:=id hs
 exact (TS.over bt G w t hG).mono fun e w' ⟨he,hb⟩=>⟨he,hs.below hT (TS.thing bt) hb,hb⟩
end
section
variable {UG:Nat→Nat→(Nat→Prop)→World→Us→Prop} {OG:Nat→(Nat→Prop)→World→Od→Prop} {LG:Nat→(Nat→Prop)→World→Ly→Prop} {NG:Nat→(Nat→Prop)→World→Nd→Prop} {HG:Nat→Nat→(Nat→Prop)→World→Hd→Prop} {X:Nat→Prop} {w:World} {b nb:Nat} {h:Hd}
end
theorem od_tail_done (o:Od) (e:Int):o.done (askTl e)=o:=by
 unfold Od.done
 rw [if_neg (fun h=>absurd h.1 (show ¬ (7:Int)=8 by decide)),if_neg (fun h=>absurd h.1 (show ¬ (7:Int)=6 by decide))]
theorem nd_tail_done (n:Nd) (e:Int):n.done (askTl e)=n:=by
 unfold Nd.done
 rw [if_neg (show ¬ (1≤(askTl e).kind∧(askTl e).kind≤5) from fun h=>absurd h.2 (show ¬ (7:Int)≤5 by decide)),if_pos (show 6≤(askTl e).kind∧(askTl e).kind≤8 from ⟨of_decide_eq_true rfl,of_decide_eq_true rfl⟩),od_tail_done]
 rfl
theorem nd_tail_ans (n:Nd) (e:Int):n.ans (askTl e)=(if e≠n.o.epoch then anP 40 0 noT n.o.epoch else if n.o.knows=false then anP 47 0 noT n.o.epoch else anP 0 n.o.tail noT n.o.epoch):=by
 unfold Nd.ans
 rw [if_neg (show ¬ (1≤(askTl e).kind∧(askTl e).kind≤5) from fun h=>absurd h.2 (show ¬ (7:Int)≤5 by decide)),if_pos (show 6≤(askTl e).kind∧(askTl e).kind≤8 from ⟨of_decide_eq_true rfl,of_decide_eq_true rfl⟩)]
 unfold Od.ans
 rw [if_neg (show ¬ (askTl e).kind=8 from show ¬ (7:Int)=8 by decide),if_pos (show (askTl e).kind=6∨(askTl e).kind=7 from .inr rfl)]
 show (if e≠n.o.epoch then _ else _)=_
 rw [if_pos (show (askTl e).kind=7 from rfl)]
theorem nd_lay_done (n:Nd):n.done layK=n∧n.ans layK=⟨0,n.l.n,noL,n.l.ep,n.l.L,n.l.mark,n.l.size,0⟩:=by
 refine ⟨?_,?_⟩
 ·unfold Nd.done
  rw [if_neg (by decide),if_neg (by decide),if_pos (by decide)]
  have:n.l.done layK=n.l:=by
   unfold Ly.done
   rw [if_neg (by decide),if_neg (fun e=>absurd e.1 (by decide))]
  rw [this]
  rfl
 ·unfold Nd.ans
  rw [if_neg (by decide),if_neg (by decide),if_pos (by decide)]
  unfold Ly.ans
  rw [if_pos (by decide)]
theorem z1j (b:Nat) (G:Nat→Prop) (w:World) (t:Tl) (h:TM b G w t) :
  Calls Tryz.prog 99 #[ptrP b] w fun e w'=>e=.returned (.bool (decide (t.at_=3)))∧w=w':=by
 obtain ⟨ao,cap,h1,hc,h3⟩:=h.open
 obtain ⟨⟨c0,c1,c2,c3,c4⟩,_⟩:=fv_of h1
 have hb:=lt_of_block h1
 rw [show decide (t.at_=3)=decide (t.at_ - 1=2) from decide_eq_decide.2 (by omega)]
 clear h h1 hc h3
 unfold ptrP
 generalize t.at_ - 1=m at *
 by_cases h5:m=2
 ·subst h5
  go_enter Tryz.func99,Tryz.ntmps99
  go_wp2_with fail
  go_ret
  exact ⟨rfl,rfl⟩
 ·have d5:decide (m=2)=false:=decide_eq_false h5
  go_enter Tryz.func99,Tryz.ntmps99
  go_wp2_with fail
  go_ret
  exact ⟨rfl,rfl⟩
theorem tp_isOver_nil (w:World):Calls Tryz.prog 99 #[.pointer none] w fun e w'=>e=.returned (.bool true)∧w=w':=by
 go_enter Tryz.func99,Tryz.ntmps99
 go_wp2_with fail
 go_ret
 exact ⟨rfl,rfl⟩
theorem te_ok (b:Nat) (G:Nat→Prop) (w:World) (t:Tl) (n y:Int) (r1:0≤n) (r2:n≤16384) (h:TM b G w t) :
  Calls Tryz.prog 98 #[ptrP b,.int .i64 n,.int .i64 0] w fun e w'=>e=.returned (.tuple #[])∧Leaves (TM b) G w w' (t.ends n 0):=by
 have h0:=h.ok
 obtain ⟨ao,cap,h1,hc,h3⟩:=h.open
 obtain ⟨⟨c0,c1,c2,c3,c4⟩,f0,f1,f2,f3,f4⟩:=fv_of h1
 have hb:=lt_of_block h1
 have H3:=Lh h3
 have H1:=Lh h1
 have d1:decide (n < 0)=false:=decide_eq_false (by omega)
 have d2:decide (16384 < n)=false:=decide_eq_false (by omega)
 clear h h1 h3 hc
 unfold ptrP
 go_enter Tryz.func98,Tryz.ntmps98
 go_wp2_with fail
 go_end0
 exact ⟨rfl,H3.out _ (t.ends n 0) ((((Kept.refl _ _).setCell (p:=⟨b,2,none⟩) (fun h=>h rfl) _).setCell (p:=⟨b,3,none⟩) (fun h=>h rfl) _).setCell (p:=⟨b,4,none⟩) (fun h=>h rfl) _) rfl ⟨(by decide:(1:Int)≤3),(by decide:(3:Int)≤3),h0.2.2⟩ (fvset4 (fvset3 (fvset2 H1.out _) _) _)⟩
theorem te_low (b:Nat) (G:Nat→Prop) (w:World) (t:Tl) (n y:Int) (r1:n < 0) (h:TM b G w t) :
  Calls Tryz.prog 98 #[ptrP b,.int .i64 n,.int .i64 0] w fun e w'=>e=.returned (.tuple #[])∧Leaves (TM b) G w w' (t.ends 0 1):=by
 have h0:=h.ok
 obtain ⟨ao,cap,h1,hc,h3⟩:=h.open
 obtain ⟨⟨c0,c1,c2,c3,c4⟩,f0,f1,f2,f3,f4⟩:=fv_of h1
 have hb:=lt_of_block h1
 have H3:=Lh h3
 have H1:=Lh h1
 have d1:decide (n < 0)=true:=decide_eq_true r1
 clear h h1 h3 hc
 unfold ptrP
 go_enter Tryz.func98,Tryz.ntmps98
 go_wp2_with fail
 go_end0
 exact ⟨rfl,H3.out _ (t.ends 0 1) ((((Kept.refl _ _).setCell (p:=⟨b,2,none⟩) (fun h=>h rfl) _).setCell (p:=⟨b,3,none⟩) (fun h=>h rfl) _).setCell (p:=⟨b,4,none⟩) (fun h=>h rfl) _) rfl ⟨(by decide:(1:Int)≤3),(by decide:(3:Int)≤3),h0.2.2⟩ (fvset4 (fvset3 (fvset2 H1.out _) _) _)⟩
theorem te_high (b:Nat) (G:Nat→Prop) (w:World) (t:Tl) (n y:Int) (r2:16384 < n) (h:TM b G w t) :
  Calls Tryz.prog 98 #[ptrP b,.int .i64 n,.int .i64 0] w fun e w'=>e=.returned (.tuple #[])∧Leaves (TM b) G w w' (t.ends 0 1):=by
 have h0:=h.ok
 obtain ⟨ao,cap,h1,hc,h3⟩:=h.open
 obtain ⟨⟨c0,c1,c2,c3,c4⟩,f0,f1,f2,f3,f4⟩:=fv_of h1
 have hb:=lt_of_block h1
 have H3:=Lh h3
 have H1:=Lh h1
 have d1:decide (n < 0)=false:=decide_eq_false (by omega)
 have d2:decide (16384 < n)=true:=decide_eq_true r2
 clear h h1 h3 hc
 unfold ptrP
 go_enter Tryz.func98,Tryz.ntmps98
 go_wp2_with fail
 go_end0
 exact ⟨rfl,H3.out _ (t.ends 0 1) ((((Kept.refl _ _).setCell (p:=⟨b,2,none⟩) (fun h=>h rfl) _).setCell (p:=⟨b,3,none⟩) (fun h=>h rfl) _).setCell (p:=⟨b,4,none⟩) (fun h=>h rfl) _) rfl ⟨(by decide:(1:Int)≤3),(by decide:(3:Int)≤3),h0.2.2⟩ (fvset4 (fvset3 (fvset2 H1.out _) _) _)⟩
theorem te_err (b:Nat) (G:Nat→Prop) (w:World) (t:Tl) (n y:Int) (e1:¬ y=0) (h:TM b G w t) :
  Calls Tryz.prog 98 #[ptrP b,.int .i64 n,.int .i64 y] w fun e w'=>e=.returned (.tuple #[])∧Leaves (TM b) G w w' (t.ends 0 y):=by
 have h0:=h.ok
 obtain ⟨ao,cap,h1,hc,h3⟩:=h.open
 obtain ⟨⟨c0,c1,c2,c3,c4⟩,f0,f1,f2,f3,f4⟩:=fv_of h1
 have hb:=lt_of_block h1
 have H3:=Lh h3
 have H1:=Lh h1
 have d1:(y == 0)=false:=by simpa using e1
 have d2:(y != 0)=true:=by simpa using e1
 clear h h1 h3 hc
 unfold ptrP
 go_enter Tryz.func98,Tryz.ntmps98
 go_wp2_with fail
 go_end0
 exact ⟨rfl,H3.out _ (t.ends 0 y) ((((Kept.refl _ _).setCell (p:=⟨b,2,none⟩) (fun h=>h rfl) _).setCell (p:=⟨b,3,none⟩) (fun h=>h rfl) _).setCell (p:=⟨b,4,none⟩) (fun h=>h rfl) _) rfl ⟨(by decide:(1:Int)≤3),(by decide:(3:Int)≤3),h0.2.2⟩ (fvset4 (fvset3 (fvset2 H1.out _) _) _)⟩
def Tl.fin (t:Tl) (n y:Int):Tl:=if y=0 then (if 0≤n∧n≤16384 then t.ends n 0 else t.ends 0 1) else t.ends 0 y
theorem tp_end (b:Nat) (G:Nat→Prop) (w:World) (t:Tl) (n y:Int) (h:TM b G w t) :
  Calls Tryz.prog 98 #[ptrP b,.int .i64 n,.int .i64 y] w fun e w'=>e=.returned (.tuple #[])∧Leaves (TM b) G w w' (t.fin n y):=by
 unfold Tl.fin
 by_cases hy:y=0
 ·subst hy
  rw [if_pos rfl]
  by_cases hn:0≤n∧n≤16384
  ·rw [if_pos hn]
   exact te_ok b G w t n 0 hn.1 hn.2 h
  ·rw [if_neg hn]
   by_cases h1:n < 0
   ·exact te_low b G w t n 0 h1 h
   ·exact te_high b G w t n 0 (by omega) h
 ·rw [if_neg hy]
  exact te_err b G w t n y hy h
theorem tp_ask_over (b:Nat) (G:Nat→Prop) (w:World) (t:Tl) (ha:t.at_=3) (h:TM b G w t) :
  Calls Tryz.prog 62 #[ptrP b] w fun e w'=>e=.returned (.tuple #[askV (zeroK),.bool false])∧Below w.heap.size w w':=by
 have C:=Lh (fun w (h:TM b G w t)=>z1j b G w t h)
 rw [decide_eq_true ha] at C
 have HB:=Lh (z00 w (.cells #[.int .i64 0,.int .i64 0,.int .i64 0,.int .i64 0,.int .i64 0,.int .i64 0,.string ⟨#[]⟩,.int .i64 0,.slice none 0 0] 34))
 have HZ:=Lh (heap_alloc_new w (.cells #[.int .i64 0,.int .i64 0,.int .i64 0,.int .i64 0,.int .i64 0,.int .i64 0,.string ⟨#[]⟩,.int .i64 0,.slice none 0 0] 34))
 have HA:=Lh (h.below HB.out)
 obtain ⟨ao,cap,h1,hc,h3⟩:=HA.out.open
 obtain ⟨⟨c0,c1,c2,c3,c4⟩,_⟩:=fv_of h1
 have hb:=lt_of_block h1
 rw [ha] at c2
 clear h h1 hc h3
 unfold ptrP at *
 go_enter Tryz.func62,Tryz.ntmps62
 go_wp2_with (go_at_call 99;refine (C.out _ HA.out).mono ?_;rintro e w1 ⟨rfl,rfl⟩)
 exact z0o (x:=zeroK) rfl HZ.out rfl rfl rfl ⟨rfl,HB.out⟩
theorem tp_ask_lay (b:Nat) (G:Nat→Prop) (w:World) (t:Tl) (ha:t.at_=1) (h:TM b G w t) :
  Calls Tryz.prog 62 #[ptrP b] w fun e w'=>e=.returned (.tuple #[askV (layK),.bool true])∧Below w.heap.size w w':=by
 have C:=Lh (fun w (h:TM b G w t)=>z1j b G w t h)
 rw [decide_eq_false (p:=t.at_=3) (by omega)] at C
 have HB:=Lh (z00 w (.cells #[.int .i64 0,.int .i64 0,.int .i64 0,.int .i64 0,.int .i64 0,.int .i64 0,.string ⟨#[]⟩,.int .i64 0,.slice none 0 0] 34))
 have HZ:=Lh (heap_alloc_new w (.cells #[.int .i64 0,.int .i64 0,.int .i64 0,.int .i64 0,.int .i64 0,.int .i64 0,.string ⟨#[]⟩,.int .i64 0,.slice none 0 0] 34))
 have HA:=Lh (h.below HB.out)
 obtain ⟨ao,cap,h1,hc,h3⟩:=HA.out.open
 obtain ⟨⟨c0,c1,c2,c3,c4⟩,_⟩:=fv_of h1
 have hb:=lt_of_block h1
 rw [ha] at c2
 clear h h1 hc h3
 unfold ptrP at *
 go_enter Tryz.func62,Tryz.ntmps62
 go_wp2_with (go_at_call 99;refine (C.out _ HA.out).mono ?_;rintro e w1 ⟨rfl,rfl⟩)
 exact z0o (x:=layK) rfl (heap_alloc_new w (.cells #[.int .i64 9,.int .i64 0,.int .i64 0,.int .i64 0,.int .i64 0,.int .i64 0,.string ⟨#[]⟩,.int .i64 0,.slice none 0 0] 34)) rfl rfl rfl ⟨rfl,z00 w _⟩
theorem tp_ask_tail (b:Nat) (G:Nat→Prop) (w:World) (t:Tl) (ha:t.at_=2) (h:TM b G w t) :
  Calls Tryz.prog 62 #[ptrP b] w fun e w'=>e=.returned (.tuple #[askV (askTl t.ep),.bool true])∧Below w.heap.size w w':=by
 have C:=Lh (fun w (h:TM b G w t)=>z1j b G w t h)
 rw [decide_eq_false (p:=t.at_=3) (by omega)] at C
 have HB:=Lh (z00 w (.cells #[.int .i64 0,.int .i64 0,.int .i64 0,.int .i64 0,.int .i64 0,.int .i64 0,.string ⟨#[]⟩,.int .i64 0,.slice none 0 0] 34))
 have HZ:=Lh (heap_alloc_new w (.cells #[.int .i64 0,.int .i64 0,.int .i64 0,.int .i64 0,.int .i64 0,.int .i64 0,.string ⟨#[]⟩,.int .i64 0,.slice none 0 0] 34))
 have HA:=Lh (h.below HB.out)
 obtain ⟨ao,cap,h1,hc,h3⟩:=HA.out.open
 obtain ⟨⟨c0,c1,c2,c3,c4⟩,_⟩:=fv_of h1
 have hb:=lt_of_block h1
 rw [ha] at c2
 clear h h1 hc h3
 unfold ptrP at *
 go_enter Tryz.func62,Tryz.ntmps62
 go_wp2_with (go_at_call 99;refine (C.out _ HA.out).mono ?_;rintro e w1 ⟨rfl,rfl⟩)
 exact z0o (x:=askTl t.ep) rfl (heap_alloc_new w (.cells #[.int .i64 7,.int .i64 0,.int .i64 t.ep,.int .i64 0,.int .i64 0,.int .i64 0,.string ⟨#[]⟩,.int .i64 0,.slice none 0 0] 34)) rfl rfl rfl ⟨rfl,z00 w _⟩
theorem tp_over (b:Nat) (G:Nat→Prop) (w:World) (t:Tl) (h:TM b G w t) :
  Calls Tryz.prog 64 #[ptrP b] w fun e w'=>e=.returned (.tuple #[.int .i64 t.overN,.int .i64 t.overE,.bool t.overB])∧Below w.heap.size w w':=by
 have C:=Lh (fun w (h:TM b G w t)=>z1j b G w t h)
 have HA:=Lh h
 obtain ⟨ao,cap,h1,hc,h3⟩:=HA.out.open
 obtain ⟨⟨c0,c1,c2,c3,c4⟩,_⟩:=fv_of h1
 have hb:=lt_of_block h1
 clear h h1 hc h3
 unfold ptrP at *
 unfold Tl.overN Tl.overE Tl.overB
 by_cases ha:t.at_=3
 ·rw [if_pos ha,if_pos ha,decide_eq_true ha]
  rw [decide_eq_true ha] at C
  clear ha c2
  go_enter Tryz.func64,Tryz.ntmps64
  go_wp2_with (go_at_call 99;refine (C.out _ HA.out).mono ?_;rintro e w1 ⟨rfl,rfl⟩)
  go_quiet (fail)
  go_wp2_with fail
  go_ret3
  exact ⟨rfl,below_drewN (Below.refl _ _) nq⟩
 ·rw [if_neg ha,if_neg ha,decide_eq_false ha]
  rw [decide_eq_false ha] at C
  clear ha c2
  go_enter Tryz.func64,Tryz.ntmps64
  go_wp2_with (go_at_call 99;refine (C.out _ HA.out).mono ?_;rintro e w1 ⟨rfl,rfl⟩)
  go_ret3
  exact ⟨rfl,Below.refl _ _⟩
theorem tp_nil_over (w:World):Calls Tryz.prog 64 #[.pointer none] w fun e w'=>e=.returned (.tuple #[.int .i64 0,.int .i64 1,.bool true])∧Below w.heap.size w w':=by
 go_enter Tryz.func64,Tryz.ntmps64
 go_wp2_with fail
 go_ret3
 exact ⟨rfl,Below.refl _ _⟩
theorem tp_nil_ask (w:World):Calls Tryz.prog 62 #[.pointer none] w fun e w'=>e=.returned (.tuple #[askV zeroK,.bool false])∧Below w.heap.size w w':=by
 have C:=Lh (fun w=>tp_isOver_nil w)
 have HR:=heap_alloc_new w (.cells #[.int .i64 0,.int .i64 0,.int .i64 0,.int .i64 0,.int .i64 0,.int .i64 0,.string ⟨#[]⟩,.int .i64 0,.slice none 0 0] 34)
 have HB:=Lh (z00 w (.cells #[.int .i64 0,.int .i64 0,.int .i64 0,.int .i64 0,.int .i64 0,.int .i64 0,.string ⟨#[]⟩,.int .i64 0,.slice none 0 0] 34))
 go_enter Tryz.func62,Tryz.ntmps62
 go_wp2_with (go_at_call 99;refine (C.out _).mono ?_;rintro e w1 ⟨rfl,rfl⟩)
 exact z0o (x:=zeroK) rfl HR rfl rfl rfl ⟨rfl,HB.out⟩
theorem tp_nil_hear (x:An) (ao:Option Addr) (cap:Nat) (c:Bool) (w:World):Calls Tryz.prog 63 #[.pointer none,ansV x ao cap,.bool c] w fun e w'=>e=.returned (.tuple #[])∧Below w.heap.size w w':=by
 have C:=Lh (fun w=>tp_isOver_nil w)
 obtain ⟨xc,xn,xd,xe,xL,xm,xs,xp⟩:=x
 show Calls _ _ #[.pointer none,.agg #[.int .i64 xc,.int .i64 xn,.string xd,.int .i64 xe,.slice ao xL.length cap,.int .i64 xm,.int .i64 xs,.int .i64 xp],.bool c] w _
 have HB:=Lh (z00 w (.cells #[.int .i64 xc,.int .i64 xn,.string xd,.int .i64 xe,.slice ao xL.length cap,.int .i64 xm,.int .i64 xs,.int .i64 xp] 49))
 cases c
 all_goals
  go_enter Tryz.func63,Tryz.ntmps63
  go_wp2_with fail
  generalize w.alloc _=w1 at *
  refine wp_scope_straight ?_
  go_wp2_with (go_at_call 99;refine (C.out _).mono ?_;rintro e w2 ⟨rfl,rfl⟩)
  rw [Exit.noGoto_ret]
  exact bodyPost_ret (results_none rfl _ _ _) rfl ⟨rfl,HB.out⟩
theorem z28 {b:Nat} {G:Nat→Prop} {w:World} {t:Tl} (h:TM b G w t) (xc xn:Int) (xd:ByteArray) (xe:Int) (xo:Option Addr) (n xp:Nat) (xm xs xy:Int) {w1:World} (hw:w.alloc (.cells #[.int .i64 xc,.int .i64 xn,.string xd,.int .i64 xe,.slice xo n xp,.int .i64 xm,.int .i64 xs,.int .i64 xy] 49)=w1) :
  Hid (∀ k,G k→k < w.heap.size)∧Hid (Below w.heap.size w w1)∧Hid (w1.heap[w.heap.size]?=some (.cells #[.int .i64 xc,.int .i64 xn,.string xd,.int .i64 xe,.slice xo n xp,.int .i64 xm,.int .i64 xs,.int .i64 xy] 49 (0,0)))∧Hid (TM b G w1 t)∧
  (w1.cell? ⟨w.heap.size,0,none⟩=some (.int .i64 xc)∧w1.cell? ⟨w.heap.size,1,none⟩=some (.int .i64 xn)∧w1.cell? ⟨w.heap.size,2,none⟩=some (.string xd)∧w1.cell? ⟨w.heap.size,3,none⟩=some (.int .i64 xe)∧w1.cell? ⟨w.heap.size,4,none⟩=some (.slice xo n xp)∧w1.cell? ⟨w.heap.size,5,none⟩=some (.int .i64 xm)∧w1.cell? ⟨w.heap.size,6,none⟩=some (.int .i64 xs)∧w1.cell? ⟨w.heap.size,7,none⟩=some (.int .i64 xy))∧
  ∃ ao cap,(w1.cell? ⟨b,0,none⟩=some (.int .i64 t.ep)∧w1.cell? ⟨b,1,none⟩=some (.slice ao t.L.length cap)∧w1.cell? ⟨b,2,none⟩=some (.int .i64 (t.at_ - 1))∧w1.cell? ⟨b,3,none⟩=some (.int .i64 t.n)∧w1.cell? ⟨b,4,none⟩=some (.int .i64 t.e))∧(w1.frozen? ⟨b,0,none⟩=false∧w1.frozen? ⟨b,1,none⟩=false∧w1.frozen? ⟨b,2,none⟩=false∧w1.frozen? ⟨b,3,none⟩=false∧w1.frozen? ⟨b,4,none⟩=false)∧b < w1.heap.size∧Hid (CL w1 ao t.L)∧Hid (w1.heap[b]?=some (.cells #[.int .i64 t.ep,.slice ao t.L.length cap,.int .i64 (t.at_ - 1),.int .i64 t.n,.int .i64 t.e] 176 (0,0)))∧
  Hid (∀ (W:World) (t':Tl),Kept (fun k=>k≠b) w1 W→t'.L=t.L→t'.ok→W.heap[b]?=some (.cells #[.int .i64 t'.ep,.slice ao t.L.length cap,.int .i64 (t'.at_ - 1),.int .i64 t'.n,.int .i64 t'.e] 176 (0,0))→Leaves (TM b) G w1 W t'):=by
 subst hw
 have HB:=z00 w (.cells #[.int .i64 xc,.int .i64 xn,.string xd,.int .i64 xe,.slice xo n xp,.int .i64 xm,.int .i64 xs,.int .i64 xy] 49)
 have HX:=heap_alloc_new w (.cells #[.int .i64 xc,.int .i64 xn,.string xd,.int .i64 xe,.slice xo n xp,.int .i64 xm,.int .i64 xs,.int .i64 xy] 49)
 have HA:=h.below HB
 obtain ⟨ao,cap,h1,hc1,h3⟩:=HA.open
 obtain ⟨k1,k2⟩:=fv_of h1
 exact ⟨Lh (fun k hk=>(tm_thing b).lt h k hk),Lh HB,Lh HX,Lh HA,(z03 HX).1,ao,cap,k1,k2,lt_of_block h1,Lh hc1,Lh h1,Lh h3⟩
theorem tns_open {b:Nat} {G:Nat→Prop} {w1:World} {t:Tl} (h:TM b G w1 t) :
  ∃ ao cap,(w1.cell? ⟨b,0,none⟩=some (.int .i64 t.ep)∧w1.cell? ⟨b,1,none⟩=some (.slice ao t.L.length cap)∧w1.cell? ⟨b,2,none⟩=some (.int .i64 (t.at_ - 1))∧w1.cell? ⟨b,3,none⟩=some (.int .i64 t.n)∧w1.cell? ⟨b,4,none⟩=some (.int .i64 t.e))∧(w1.frozen? ⟨b,0,none⟩=false∧w1.frozen? ⟨b,1,none⟩=false∧w1.frozen? ⟨b,2,none⟩=false∧w1.frozen? ⟨b,3,none⟩=false∧w1.frozen? ⟨b,4,none⟩=false)∧b < w1.heap.size∧Hid (CL w1 ao t.L)∧Hid (w1.heap[b]?=some (.cells #[.int .i64 t.ep,.slice ao t.L.length cap,.int .i64 (t.at_ - 1),.int .i64 t.n,.int .i64 t.e] 176 (0,0)))∧
  Hid (∀ (W:World) (t':Tl),Kept (fun k=>k≠b) w1 W→t'.L=t.L→t'.ok→W.heap[b]?=some (.cells #[.int .i64 t'.ep,.slice ao t.L.length cap,.int .i64 (t'.at_ - 1),.int .i64 t'.n,.int .i64 t'.e] 176 (0,0))→Leaves (TM b) G w1 W t'):=by
 obtain ⟨ao,cap,h1,hc1,h3⟩:=h.open
 obtain ⟨k1,k2⟩:=fv_of h1
 exact ⟨ao,cap,k1,k2,lt_of_block h1,Lh hc1,Lh h1,Lh h3⟩
theorem th_no (b:Nat) (G:Nat→Prop) (w:World) (t:Tl) (xc xn:Int) (xd:ByteArray) (xe:Int) (xL:List (List Int)) (xm xs xy:Int) (xo:Option Addr) (xp:Nat) (h:TM b G w t) :
  Calls Tryz.prog 63 #[ptrP b,.agg #[.int .i64 xc,.int .i64 xn,.string xd,.int .i64 xe,.slice xo xL.length xp,.int .i64 xm,.int .i64 xs,.int .i64 xy],.bool false] w fun e w'=>e=.returned (.tuple #[])∧Leaves (TM b) G w w' (t):=by
 have h0:=h.ok
 obtain ⟨HG,HB,HX,HA,⟨x0,x1,x2,x3,x4,x5,x6,x7⟩,ao,cap,⟨c0,c1,c2,c3,c4⟩,⟨f0,f1,f2,f3,f4⟩,hb,HC1,H1,H3⟩:=z28 h xc xn xd xe xo xL.length xp xm xs xy rfl
 clear h
 unfold ptrP at *
 go_enter Tryz.func63,Tryz.ntmps63
 go_wp2_with fail
 generalize w.alloc _=w1 at *
 refine wp_scope_straight ?_
 go_wp2_with fail
 rw [Exit.noGoto_ret]
 exact bodyPost_ret (results_none rfl _ _ _) rfl ⟨rfl,(Leaves.same (tm_thing b) HA.out (Below.refl _ _)).ahead HG.out HB.out⟩
theorem th_over (b:Nat) (G:Nat→Prop) (w:World) (t:Tl) (xc xn:Int) (xd:ByteArray) (xe:Int) (xL:List (List Int)) (xm xs xy:Int) (xo:Option Addr) (xp:Nat) (h:TM b G w t) (ha:t.at_=3) :
  Calls Tryz.prog 63 #[ptrP b,.agg #[.int .i64 xc,.int .i64 xn,.string xd,.int .i64 xe,.slice xo xL.length xp,.int .i64 xm,.int .i64 xs,.int .i64 xy],.bool true] w fun e w'=>e=.returned (.tuple #[])∧Leaves (TM b) G w w' (t):=by
 have h0:=h.ok
 obtain ⟨HG,HB,HX,HA,⟨x0,x1,x2,x3,x4,x5,x6,x7⟩,ao,cap,⟨c0,c1,c2,c3,c4⟩,⟨f0,f1,f2,f3,f4⟩,hb,HC1,H1,H3⟩:=z28 h xc xn xd xe xo xL.length xp xm xs xy rfl
 have C:=Lh (fun w (h:TM b G w t)=>z1j b G w t h)
 rw [decide_eq_true ha] at C
 clear h
 unfold ptrP at *
 go_enter Tryz.func63,Tryz.ntmps63
 go_wp2_with fail
 generalize w.alloc _=w1 at *
 refine wp_scope_straight ?_
 go_wp2_with (go_at_call 99;refine (C.out _ HA.out).mono ?_;rintro e w9 ⟨rfl,rfl⟩)
 rw [Exit.noGoto_ret]
 exact bodyPost_ret (results_none rfl _ _ _) rfl ⟨rfl,(Leaves.same (tm_thing b) HA.out (Below.refl _ _)).ahead HG.out HB.out⟩
theorem th_stay45 (b:Nat) (G:Nat→Prop) (w:World) (t:Tl) (xc xn:Int) (xd:ByteArray) (xe:Int) (xL:List (List Int)) (xm xs xy:Int) (xo:Option Addr) (xp:Nat) (h:TM b G w t) (ha:¬ t.at_=3) :
  Calls Tryz.prog 63 #[ptrP b,.agg #[.int .i64 45,.int .i64 xn,.string xd,.int .i64 xe,.slice xo xL.length xp,.int .i64 xm,.int .i64 xs,.int .i64 xy],.bool true] w fun e w'=>e=.returned (.tuple #[])∧Leaves (TM b) G w w' (t):=by
 have h0:=h.ok
 obtain ⟨HG,HB,HX,HA,⟨x0,x1,x2,x3,x4,x5,x6,x7⟩,ao,cap,⟨c0,c1,c2,c3,c4⟩,⟨f0,f1,f2,f3,f4⟩,hb,HC1,H1,H3⟩:=z28 h 45 xn xd xe xo xL.length xp xm xs xy rfl
 have C:=Lh (fun w (h:TM b G w t)=>z1j b G w t h)
 rw [decide_eq_false (p:=t.at_=3) (by omega)] at C
 clear h
 unfold ptrP at *
 go_enter Tryz.func63,Tryz.ntmps63
 go_wp2_with fail
 generalize w.alloc _=w1 at *
 refine wp_scope_straight ?_
 go_wp2_with (go_at_call 99;refine (C.out _ HA.out).mono ?_;rintro e w9 ⟨rfl,rfl⟩)
 rw [Exit.noGoto_ret]
 exact bodyPost_ret (results_none rfl _ _ _) rfl ⟨rfl,(Leaves.same (tm_thing b) HA.out (Below.refl _ _)).ahead HG.out HB.out⟩
theorem th_stay47 (b:Nat) (G:Nat→Prop) (w:World) (t:Tl) (xc xn:Int) (xd:ByteArray) (xe:Int) (xL:List (List Int)) (xm xs xy:Int) (xo:Option Addr) (xp:Nat) (h:TM b G w t) (ha:¬ t.at_=3) :
  Calls Tryz.prog 63 #[ptrP b,.agg #[.int .i64 47,.int .i64 xn,.string xd,.int .i64 xe,.slice xo xL.length xp,.int .i64 xm,.int .i64 xs,.int .i64 xy],.bool true] w fun e w'=>e=.returned (.tuple #[])∧Leaves (TM b) G w w' (t):=by
 have h0:=h.ok
 obtain ⟨HG,HB,HX,HA,⟨x0,x1,x2,x3,x4,x5,x6,x7⟩,ao,cap,⟨c0,c1,c2,c3,c4⟩,⟨f0,f1,f2,f3,f4⟩,hb,HC1,H1,H3⟩:=z28 h 47 xn xd xe xo xL.length xp xm xs xy rfl
 have C:=Lh (fun w (h:TM b G w t)=>z1j b G w t h)
 rw [decide_eq_false (p:=t.at_=3) (by omega)] at C
 clear h
 unfold ptrP at *
 go_enter Tryz.func63,Tryz.ntmps63
 go_wp2_with fail
 generalize w.alloc _=w1 at *
 refine wp_scope_straight ?_
 go_wp2_with (go_at_call 99;refine (C.out _ HA.out).mono ?_;rintro e w9 ⟨rfl,rfl⟩)
 rw [Exit.noGoto_ret]
 exact bodyPost_ret (results_none rfl _ _ _) rfl ⟨rfl,(Leaves.same (tm_thing b) HA.out (Below.refl _ _)).ahead HG.out HB.out⟩
theorem th_seal (b:Nat) (G:Nat→Prop) (w:World) (t:Tl) (xc xn:Int) (xd:ByteArray) (xe:Int) (xL:List (List Int)) (xm xs xy:Int) (xo:Option Addr) (xp:Nat) (h:TM b G w t) (ha:¬ t.at_=3) :
  Calls Tryz.prog 63 #[ptrP b,.agg #[.int .i64 40,.int .i64 xn,.string xd,.int .i64 xe,.slice xo xL.length xp,.int .i64 xm,.int .i64 xs,.int .i64 xy],.bool true] w fun e w'=>e=.returned (.tuple #[])∧Leaves (TM b) G w w' (⟨t.ep,t.L,1,t.n,t.e⟩):=by
 have h0:=h.ok
 obtain ⟨HG,HB,HX,HA,⟨x0,x1,x2,x3,x4,x5,x6,x7⟩,ao,cap,⟨c0,c1,c2,c3,c4⟩,⟨f0,f1,f2,f3,f4⟩,hb,HC1,H1,H3⟩:=z28 h 40 xn xd xe xo xL.length xp xm xs xy rfl
 have C:=Lh (fun w (h:TM b G w t)=>z1j b G w t h)
 rw [decide_eq_false (p:=t.at_=3) (by omega)] at C
 clear h
 unfold ptrP at *
 go_enter Tryz.func63,Tryz.ntmps63
 go_wp2_with fail
 generalize w.alloc _=w1 at *
 refine z06 0 rfl ?_
 generalize hQ:Exit.jump _ _ _=QJ
 go_wp2_with (go_at_call 99;refine (C.out _ HA.out).mono ?_;rintro e w9 ⟨rfl,rfl⟩)
 go_step3
 show QJ (.goto 0) _ _
 rw [← hQ]
 refine z0h ?_
 go_wp2_with fail
 rw [Exit.noGoto_ret]
 exact bodyPost_ret (results_none rfl _ _ _) rfl ⟨rfl,(H3.out _ ⟨t.ep,t.L,1,t.n,t.e⟩ ((Kept.refl _ _).setCell (p:=⟨b,2,none⟩) (fun h=>h rfl) _) rfl ⟨(by decide:(1:Int)≤1),(by decide:(1:Int)≤3),h0.2.2⟩ (fvset2 H1.out _)).ahead HG.out HB.out⟩
theorem th_tail (b:Nat) (G:Nat→Prop) (w:World) (t:Tl) (xc xn:Int) (xd:ByteArray) (xe:Int) (xL:List (List Int)) (xm xs xy:Int) (xo:Option Addr) (xp:Nat) (h:TM b G w t) (ha:t.at_=2) (n45:¬ xc=45) (n47:¬ xc=47) (n40:¬ xc=40) :
  Calls Tryz.prog 63 #[ptrP b,.agg #[.int .i64 xc,.int .i64 xn,.string xd,.int .i64 xe,.slice xo xL.length xp,.int .i64 xm,.int .i64 xs,.int .i64 xy],.bool true] w fun e w'=>e=.returned (.tuple #[])∧Leaves (TM b) G w w' (t.fin xn xc):=by
 have h0:=h.ok
 obtain ⟨HG,HB,HX,HA,⟨x0,x1,x2,x3,x4,x5,x6,x7⟩,ao,cap,⟨c0,c1,c2,c3,c4⟩,⟨f0,f1,f2,f3,f4⟩,hb,HC1,H1,H3⟩:=z28 h xc xn xd xe xo xL.length xp xm xs xy rfl
 have C:=Lh (fun w (h:TM b G w t)=>z1j b G w t h)
 rw [decide_eq_false (p:=t.at_=3) (by omega)] at C
 have e45:(xc == 45)=false:=by simpa using n45
 have e47:(xc == 47)=false:=by simpa using n47
 have e40:(xc == 40)=false:=by simpa using n40
 rw [ha] at c2
 clear h
 unfold ptrP at *
 go_enter Tryz.func63,Tryz.ntmps63
 go_wp2_with fail
 generalize w.alloc _=w1 at *
 refine z06 1 rfl ?_
 generalize hQ:Exit.jump _ _ _=QJ
 go_wp2_with (go_at_call 99;refine (C.out _ HA.out).mono ?_;rintro e w9 ⟨rfl,rfl⟩)
 go_step3
 show QJ (.goto 1) _ _
 rw [← hQ]
 refine z0h ?_
 go_wp2_with (go_at_call 98;refine (tp_end b _ _ t _ _ HA.out).mono ?_;rintro e w9 ⟨rfl,hl⟩;have HL9:=Lh hl;clear hl)
 rw [z0b]
 go_end0
 exact ⟨rfl,HL9.out.ahead HG.out HB.out⟩
theorem th_err (b:Nat) (G:Nat→Prop) (w:World) (t:Tl) (xc xn:Int) (xd:ByteArray) (xe:Int) (xL:List (List Int)) (xm xs xy:Int) (xo:Option Addr) (xp:Nat) (h:TM b G w t) (ha:t.at_=1) (n45:¬ xc=45) (n47:¬ xc=47) (n40:¬ xc=40) (n0:¬ xc=0) :
  Calls Tryz.prog 63 #[ptrP b,.agg #[.int .i64 xc,.int .i64 xn,.string xd,.int .i64 xe,.slice xo xL.length xp,.int .i64 xm,.int .i64 xs,.int .i64 xy],.bool true] w fun e w'=>e=.returned (.tuple #[])∧Leaves (TM b) G w w' (⟨t.ep,t.L,1,t.n,t.e⟩):=by
 have h0:=h.ok
 obtain ⟨HG,HB,HX,HA,⟨x0,x1,x2,x3,x4,x5,x6,x7⟩,ao,cap,⟨c0,c1,c2,c3,c4⟩,⟨f0,f1,f2,f3,f4⟩,hb,HC1,H1,H3⟩:=z28 h xc xn xd xe xo xL.length xp xm xs xy rfl
 have C:=Lh (fun w (h:TM b G w t)=>z1j b G w t h)
 rw [decide_eq_false (p:=t.at_=3) (by omega)] at C
 have e45:(xc == 45)=false:=by simpa using n45
 have e47:(xc == 47)=false:=by simpa using n47
 have e40:(xc == 40)=false:=by simpa using n40
 have e0:(xc == 0)=false:=by simpa using n0
 rw [ha] at c2
 clear h
 unfold ptrP at *
 go_enter Tryz.func63,Tryz.ntmps63
 go_wp2_with fail
 generalize w.alloc _=w1 at *
 refine wp_scope_straight ?_
 go_wp2_with (go_at_call 99;refine (C.out _ HA.out).mono ?_;rintro e w9 ⟨rfl,rfl⟩)
 go_step3
 go_wp2_with fail
 rw [Exit.noGoto_ret]
 exact bodyPost_ret (results_none rfl _ _ _) rfl ⟨rfl,(H3.out _ ⟨t.ep,t.L,1,t.n,t.e⟩ ((Kept.refl _ _).setCell (p:=⟨b,2,none⟩) (fun h=>h rfl) _) rfl ⟨(by decide:(1:Int)≤1),(by decide:(1:Int)≤3),h0.2.2⟩ (fvset2 H1.out _)).ahead HG.out HB.out⟩
theorem th_bad (b:Nat) (G:Nat→Prop) (w:World) (t:Tl) (xc xn:Int) (xd:ByteArray) (xe:Int) (xL:List (List Int)) (xm xs xy:Int) (xo:Option Addr) (xp:Nat) (h:TM b G w t) (ha:t.at_=1) (hg:goodB xe xL=false) (hf:fewL xL) (hx:CL w xo xL) :
  Calls Tryz.prog 63 #[ptrP b,.agg #[.int .i64 0,.int .i64 xn,.string xd,.int .i64 xe,.slice xo xL.length xp,.int .i64 xm,.int .i64 xs,.int .i64 xy],.bool true] w fun e w'=>e=.returned (.tuple #[])∧Leaves (TM b) G w w' (⟨t.ep,t.L,1,t.n,t.e⟩):=by
 have h0:=h.ok
 obtain ⟨HG,HB,HX,HA,⟨x0,x1,x2,x3,x4,x5,x6,x7⟩,ao,cap,⟨c0,c1,c2,c3,c4⟩,⟨f0,f1,f2,f3,f4⟩,hb,HC1,H1,H3⟩:=z28 h 0 xn xd xe xo xL.length xp xm xs xy rfl
 have C:=Lh (fun w (h:TM b G w t)=>z1j b G w t h)
 rw [decide_eq_false (p:=t.at_=3) (by omega)] at C
 have HC:=Lh (hx.below HB.out)
 have CG:=Lh (fun W (hC:CL W xo xL)=>z0m xe xo xp xL W hC hf)
 rw [hg] at CG
 clear hf hx
 rw [ha] at c2
 clear h
 unfold ptrP at *
 go_enter Tryz.func63,Tryz.ntmps63
 go_wp2_with fail
 generalize w.alloc _=w1 at *
 refine wp_scope_straight ?_
 go_wp2_with (first | (go_at_call 99;refine (C.out _ HA.out).mono ?_;rintro e w9 ⟨rfl,rfl⟩) | (go_at_call 44;refine (CG.out _ HC.out).mono ?_;rintro e w2 ⟨rfl,hb2⟩;have HC2:=Lh (HC.out.below hb2);have HB2:=Lh (HB.out.trans (hb2.mono HB.out.size));have HA2:=Lh (HA.out.below hb2);have HX2:=Lh (z01 hb2 HX.out);clear x0 x1 x2 x3 x4 x5 x6 x7 c0 c1 c2 c3 c4 f0 f1 f2 f3 f4 hb HC1 H1 H3;obtain ⟨⟨x0,x1,x2,x3,x4,x5,x6,x7⟩,_⟩:=z03 HX2.out;obtain ⟨ao,cap,⟨c0,c1,c2,c3,c4⟩,⟨f0,f1,f2,f3,f4⟩,hb,HC1,H1,H3⟩:=tns_open HA2.out;rw [ha] at c2;clear hb2))
 go_step3
 go_wp2_with fail
 rw [Exit.noGoto_ret]
 exact bodyPost_ret (results_none rfl _ _ _) rfl ⟨rfl,(H3.out _ ⟨t.ep,t.L,1,t.n,t.e⟩ ((Kept.refl _ _).setCell (p:=⟨b,2,none⟩) (fun h=>h rfl) _) rfl ⟨(by decide:(1:Int)≤1),(by decide:(1:Int)≤3),h0.2.2⟩ (fvset2 H1.out _)).ahead HG.out HB2.out⟩
theorem th_copy (b:Nat) (G:Nat→Prop) (w:World) (t:Tl) (xc xn:Int) (xd:ByteArray) (xe:Int) (xL:List (List Int)) (xm xs xy:Int) (xo:Option Addr) (xp:Nat) (h:TM b G w t) (ha:t.at_=1) (hg:goodB xe xL=true) (hf:fewL xL) (hx:CL w xo xL) :
  Calls Tryz.prog 63 #[ptrP b,.agg #[.int .i64 0,.int .i64 xn,.string xd,.int .i64 xe,.slice xo xL.length xp,.int .i64 xm,.int .i64 xs,.int .i64 xy],.bool true] w fun e w'=>e=.returned (.tuple #[])∧Leaves (TM b) G w w' (⟨xe,xL,2,t.n,t.e⟩):=by
 have h0:=h.ok
 obtain ⟨HG,HB,HX,HA,⟨x0,x1,x2,x3,x4,x5,x6,x7⟩,ao,cap,⟨c0,c1,c2,c3,c4⟩,⟨f0,f1,f2,f3,f4⟩,hb,HC1,H1,H3⟩:=z28 h 0 xn xd xe xo xL.length xp xm xs xy rfl
 have C:=Lh (fun w (h:TM b G w t)=>z1j b G w t h)
 rw [decide_eq_false (p:=t.at_=3) (by omega)] at C
 have HC:=Lh (hx.below HB.out)
 have CG:=Lh (fun W (hC:CL W xo xL)=>z0m xe xo xp xL W hC hf)
 rw [hg] at CG
 have CC:=Lh (fun W (hC:CL W xo xL)=>z14 xe xo xp xL W hC hf)
 have HF:=Lh hf
 clear hf hx
 rw [ha] at c2
 clear h
 unfold ptrP at *
 go_enter Tryz.func63,Tryz.ntmps63
 go_wp2_with fail
 generalize w.alloc _=w1 at *
 refine z06 2 rfl ?_
 generalize hQ:Exit.jump _ _ _=QJ
 go_wp2_with (first | (go_at_call 99;refine (C.out _ HA.out).mono ?_;rintro e w9 ⟨rfl,rfl⟩) | (go_at_call 44;refine (CG.out _ HC.out).mono ?_;rintro e w2 ⟨rfl,hb2⟩;have HC2:=Lh (HC.out.below hb2);have HB2:=Lh (HB.out.trans (hb2.mono HB.out.size));have HA2:=Lh (HA.out.below hb2);have HX2:=Lh (z01 hb2 HX.out);clear x0 x1 x2 x3 x4 x5 x6 x7 c0 c1 c2 c3 c4 f0 f1 f2 f3 f4 hb HC1 H1 H3;obtain ⟨⟨x0,x1,x2,x3,x4,x5,x6,x7⟩,_⟩:=z03 HX2.out;obtain ⟨ao,cap,⟨c0,c1,c2,c3,c4⟩,⟨f0,f1,f2,f3,f4⟩,hb,HC1,H1,H3⟩:=tns_open HA2.out;rw [ha] at c2;clear hb2))
 go_step3
 show QJ (.goto 2) _ _
 rw [← hQ]
 refine z0h ?_
 go_wp2_with (go_at_call 46;refine (CC.out _ HC2.out).mono ?_;rintro e w3 ⟨v,rfl,hO,hb3⟩;obtain ⟨vo,vc,hv,_⟩:=hO.form;subst hv;have HO:=Lh hO;have HB3:=Lh hb3;have HR:=Lh (z01 hb3 H1.out);clear f0 f1 f2 f3 f4;obtain ⟨_,f0,f1,f2,f3,f4⟩:=fv_of HR.out;have hb:=lt_of_block HR.out;clear hO hb3)
 rw [Exit.noGoto_ret]
 exact bodyPost_ret (results_none rfl _ _ _) rfl ⟨rfl,(HA2.out.chains (t':=⟨xe,xL,2,t.n,t.e⟩) HB3.out HO.out ((((Kept.refl _ _).setCell (p:=⟨b,0,none⟩) (fun h=>h rfl) _).setCell (p:=⟨b,1,none⟩) (fun h=>h rfl) _).setCell (p:=⟨b,2,none⟩) (fun h=>h rfl) _) ⟨(by decide:(1:Int)≤2),(by decide:(2:Int)≤3),HF.out⟩ (fvset2 (fvset1 (fvset0 HR.out _) _) _)).ahead HG.out HB2.out⟩
theorem tp_hear (b:Nat) (G:Nat→Prop) (w:World) (t:Tl) (x:An) (xo:Option Addr) (xp:Nat) (c:Bool) (h:TM b G w t) (hf:fewL x.L) (hx:CL w xo x.L) :
  Calls Tryz.prog 63 #[ptrP b,ansV x xo xp,.bool c] w fun e w'=>e=.returned (.tuple #[])∧Leaves (TM b) G w w' (t.hear x c):=by
 obtain ⟨xc,xn,xd,xe,xL,xm,xs,xy⟩:=x
 show Calls _ _ #[ptrP b,.agg #[.int .i64 xc,.int .i64 xn,.string xd,.int .i64 xe,.slice xo xL.length xp,.int .i64 xm,.int .i64 xs,.int .i64 xy],.bool c] w _
 have h0:=h.ok
 have h01:=h0.1
 have h02:=h0.2.1
 unfold Tl.hear
 dsimp only at *
 cases c with
 | false =>
  rw [if_pos (.inr (.inl rfl))]
  exact th_no b G w t xc xn xd xe xL xm xs xy xo xp h
 | true =>
  by_cases a3:t.at_=3
  ·rw [if_pos (.inl a3)]
   exact th_over b G w t xc xn xd xe xL xm xs xy xo xp h a3
  ·by_cases c45:xc=45
   ·subst c45
    rw [if_pos (.inr (.inr (.inl rfl)))]
    exact th_stay45 b G w t 0 xn xd xe xL xm xs xy xo xp h a3
   ·by_cases c47:xc=47
    ·subst c47
     rw [if_pos (.inr (.inr (.inr rfl)))]
     exact th_stay47 b G w t 0 xn xd xe xL xm xs xy xo xp h a3
    ·rw [if_neg (fun e=>e.elim a3 (fun e=>e.elim Bool.noConfusion (fun e=>e.elim c45 c47)))]
     by_cases c40:xc=40
     ·subst c40
      rw [if_pos rfl]
      exact th_seal b G w t 0 xn xd xe xL xm xs xy xo xp h a3
     ·rw [if_neg c40]
      by_cases a1:t.at_=1
      ·rw [if_pos a1]
       have e1:(⟨t.ep,t.L,1,t.n,t.e⟩:Tl)=t:=by cases t;cases a1;rfl
       by_cases c0:xc=0
       ·subst c0
        cases hg:goodB xe xL with
        | true=>rw [if_pos ⟨rfl,rfl⟩];exact th_copy b G w t 0 xn xd xe xL xm xs xy xo xp h a1 hg hf hx
        | false=>rw [if_neg (fun e=>Bool.noConfusion e.2)];have T:=th_bad b G w t 0 xn xd xe xL xm xs xy xo xp h a1 hg hf hx;rw [e1] at T;exact T
       ·rw [if_neg (fun e=>c0 e.1)]
        have T:=th_err b G w t xc xn xd xe xL xm xs xy xo xp h a1 c45 c47 c40 c0
        rw [e1] at T
        exact T
      ·rw [if_neg a1]
       exact th_tail b G w t xc xn xd xe xL xm xs xy xo xp h (by omega) c45 c47 c40
def NewT (w:World) (t:Tl) (e:Ending) (w':World):Prop:=∃ (b:Nat) (G:Nat→Prop),e=.returned (ptrP b)∧TM b G w' t∧(∀ k,G k→w.heap.size≤k)∧Below w.heap.size w w'
theorem newt_ended {w w4 w5:World} {b:Nat} {G:Nat→Prop} {t:Tl} (hB:∀ k,G k→w.heap.size≤k) (hb:Below w.heap.size w w4) (hl:Leaves (TM b) G w4 w5 t):NewT w t (.returned (.pointer (some ⟨b,0,none⟩))) w5:=by
 obtain ⟨G',r1,r2,r3⟩:=hl
 refine ⟨b,G',rfl,r1,fun k hk=>?_,hb.trans (kept_low r2 (fun k hk hg=>by have:=hB k hg;omega) hb.size)⟩
 rcases r3 k hk with h | h
 ·exact hB k h
 ·exact Nat.le_trans hb.size h
theorem tm_laid {w w3:World} {B:Nat} {v:Value} {ep:Int} {L:List (List Int)} (hO:OC w3 B v L) (hf:fewL L) (hB:w.heap.size≤B) (hs:B≤w3.heap.size) :
  TM w3.heap.size (fun k=>B≤k∧k≤w3.heap.size) (w3.alloc (.cells #[.int .i64 ep,v,.int .i64 1,.int .i64 0,.int .i64 0] 176)) ⟨ep,L,2,0,0⟩ :=
 ⟨v,fun k=>B≤k∧k < w3.heap.size,heap_alloc_new w3 _,(CG.of hO).keep (Kept.ofBelow (z00 w3 _) (fun _=>True)) (fun _ _=>trivial),⟨(by decide:(1:Int)≤2),(by decide:(2:Int)≤3),hf⟩,⟨hs,Nat.le_refl _⟩,fun k hk=>⟨⟨hk.1,Nat.le_of_lt hk.2⟩,Nat.ne_of_lt hk.2⟩,fun k hk=>Nat.lt_of_le_of_lt hk.2 (lt_of_block (heap_alloc_new w3 (.cells #[.int .i64 ep,v,.int .i64 1,.int .i64 0,.int .i64 0] 176)))⟩
theorem tm_new (ep:Int) (ao:Option Addr) (cap:Nat) (L:List (List Int)) (w:World) (hc:CL w ao L) (hf:fewL L) :
  Calls Tryz.prog 61 #[.agg #[.int .i64 ep,.slice ao L.length cap]] w (NewT w (newTl ep L)):=by
 have HB:=Lh (z00 w (.cells #[.int .i64 ep,.slice ao L.length cap] 24))
 have HC:=Lh (hc.below HB.out)
 have HX:=Lh (heap_alloc_new w (.cells #[.int .i64 ep,.slice ao L.length cap] 24))
 obtain ⟨x0,x1,_⟩:=z05 HX.out
 have hs1:(w.alloc (.cells #[.int .i64 ep,.slice ao L.length cap] 24)).heap.size=w.heap.size+1:=by simp
 have CC:=Lh (fun W (hC:CL W ao L)=>z14 ep ao cap L W hC hf)
 have CG:=Lh (fun W (hC:CL W ao L)=>z0m ep ao cap L W hC hf)
 have HF:=Lh hf
 unfold newTl
 have HS:=Lh (show w.heap.size≤(w.alloc (.cells #[.int .i64 ep,.slice ao L.length cap] 24)).heap.size from by omega)
 clear hc hf hs1
 cases hg:goodB ep L with
 | true =>
  rw [if_pos rfl]
  rw [hg] at CG
  go_enter Tryz.func61,Tryz.ntmps61
  go_wp2_with (first | (go_at_call 46;refine (CC.out _ HC.out).mono ?_;rintro e w3 ⟨v,rfl,hO,hb3⟩;obtain ⟨vo,vc,hv,_⟩:=hO.form;subst hv;have HT:=Lh (tm_laid (w:=w) (ep:=ep) hO HF.out HS.out hb3.size);have HBT:=Lh ((HB.out.trans (hb3.mono HB.out.size)).trans ((z00 w3 (.cells #[.int .i64 ep,.slice vo L.length vc,.int .i64 1,.int .i64 0,.int .i64 0] 176)).mono (HB.out.trans (hb3.mono HB.out.size)).size));have HC3:=Lh ((HC.out.below hb3).below (z00 w3 (.cells #[.int .i64 ep,.slice vo L.length vc,.int .i64 1,.int .i64 0,.int .i64 0] 176)));have HX3:=Lh (z01 (z00 w3 (.cells #[.int .i64 ep,.slice vo L.length vc,.int .i64 1,.int .i64 0,.int .i64 0] 176)) (z01 hb3 HX.out));obtain ⟨y0,y1,_⟩:=z05 HX3.out;clear hO hb3) | (go_at_call 44;refine (CG.out _ HC3.out).mono ?_;rintro e w5 ⟨rfl,hb5⟩;have HB5:=Lh hb5;have HT5:=Lh (HT.out.below hb5);have HBU:=Lh (HBT.out.trans (hb5.mono HBT.out.size));clear hb5))
  go_ret
  exact newt_ended (fun k hk=>Nat.le_trans HS.out hk.1) HBT.out (Leaves.same (tm_thing _) HT.out HB5.out)
 | false =>
  rw [if_neg Bool.noConfusion]
  rw [hg] at CG
  go_enter Tryz.func61,Tryz.ntmps61
  go_wp2_with (first | (go_at_call 46;refine (CC.out _ HC.out).mono ?_;rintro e w3 ⟨v,rfl,hO,hb3⟩;obtain ⟨vo,vc,hv,_⟩:=hO.form;subst hv;have HT:=Lh (tm_laid (w:=w) (ep:=ep) hO HF.out HS.out hb3.size);have HBT:=Lh ((HB.out.trans (hb3.mono HB.out.size)).trans ((z00 w3 (.cells #[.int .i64 ep,.slice vo L.length vc,.int .i64 1,.int .i64 0,.int .i64 0] 176)).mono (HB.out.trans (hb3.mono HB.out.size)).size));have HC3:=Lh ((HC.out.below hb3).below (z00 w3 (.cells #[.int .i64 ep,.slice vo L.length vc,.int .i64 1,.int .i64 0,.int .i64 0] 176)));have HX3:=Lh (z01 (z00 w3 (.cells #[.int .i64 ep,.slice vo L.length vc,.int .i64 1,.int .i64 0,.int .i64 0] 176)) (z01 hb3 HX.out));obtain ⟨y0,y1,_⟩:=z05 HX3.out;clear hO hb3) | (go_at_call 44;refine (CG.out _ HC3.out).mono ?_;rintro e w5 ⟨rfl,hb5⟩;have HB5:=Lh hb5;have HT5:=Lh (HT.out.below hb5);have HBU:=Lh (HBT.out.trans (hb5.mono HBT.out.size));clear hb5) | (go_at_call 98;refine (tp_end _ _ _ _ _ _ HT5.out).mono ?_;rintro e w9 ⟨rfl,hl⟩;have HL9:=Lh hl;clear hl))
  go_ret
  exact newt_ended (fun k hk=>Nat.le_trans HS.out hk.1) HBU.out HL9.out
theorem tm_ask (b:Nat) (G:Nat→Prop) (w:World) (t:Tl) (h:TM b G w t) :
  Calls Tryz.prog 62 #[ptrP b] w fun e w'=>e=.returned (.tuple #[askV t.ask,.bool t.asks])∧Leaves (TM b) G w w' t:=by
 have HL:=fun w' (hb:Below w.heap.size w w')=>Leaves.same (tm_thing b) h hb
 have h0:=h.ok
 have h01:=h0.1
 have h02:=h0.2.1
 unfold Tl.ask Tl.asks
 by_cases a3:t.at_=3
 ·rw [if_neg (by omega),if_neg (by omega),decide_eq_false (fun e=>e a3)]
  exact (tp_ask_over b G w t a3 h).mono fun e w' ⟨h1,h2⟩=>⟨h1,HL w' h2⟩
 ·rw [decide_eq_true a3]
  by_cases a1:t.at_=1
  ·rw [if_pos a1]
   exact (tp_ask_lay b G w t a1 h).mono fun e w' ⟨h1,h2⟩=>⟨h1,HL w' h2⟩
  ·have a2:t.at_=2:=by omega
   rw [if_neg a1,if_pos a2]
   exact (tp_ask_tail b G w t a2 h).mono fun e w' ⟨h1,h2⟩=>⟨h1,HL w' h2⟩
theorem tailSays:TailSays TM where
 thing:=tm_thing
 new:=fun ep ao cap L w hc hf _ _ _=>tm_new ep ao cap L w hc hf
 ask:=tm_ask
 hear:=fun b G w t x ao cap c h hf _ hx=>tp_hear b G w t x ao cap c h hf (hx w (Kept.refl _ _))
 over:=tp_over
 nil_ask:=tp_nil_ask
 nil_hear:=tp_nil_hear
 nil_over:=tp_nil_over
structure RunSee (n:Nat) (Inv:Nat→Hd→Tl→Prop):Prop where
 more:∀ k h f,Inv k h f→k < n+20
 used:∀ k h f,Inv k h f→h.n.l.used.length≤100000
 small:∀ k h f,Inv k h f→f.at_≠3→SmQ f.ask∧∀ m,FewX (h.heard f.ask m)
 step:∀ k h f (m:Int),Inv k h f→f.at_≠3→(¬ k < n→m=0)→Inv (k+1) (h.asked f.ask m) (f.hear (h.heard f.ask m) (decide (m=0)))
theorem see_run {UG:Nat→Nat→(Nat→Prop)→World→Us→Prop} {OG:Nat→(Nat→Prop)→World→Od→Prop} {LG:Nat→(Nat→Prop)→World→Ly→Prop} {NG:Nat→(Nat→Prop)→World→Nd→Prop} {HG:Nat→Nat→(Nat→Prop)→World→Hd→Prop} {TG:Nat→(Nat→Prop)→World→Tl→Prop} (HS:HandSays UG OG LG NG HG) (TS:TailSays TG)
  (b nb:Nat) (X:Nat→Prop) (w:World) (h0:Hd) (hs:Solo (HG b nb) X w h0) (ep:Int) (he:i64w ep) (L:List (List Int)) (hF:fewL L)
  (ao:Option Addr) (cap:Nat) (hC:CL w ao L) (hn:ao=none→cap=0) (hc:L.length≤cap) (fo:Option Addr) (fc:Nat) (fl:List Int) (hl:fl.length≤60) (hR:∀ W,Kept X w W→Row W fo 1 byteC fl) (hK:∀ x ∈ fl,0≤x∧x < 256)
  (Inv:Nat→Hd→Tl→Prop) (hI:RunSee fl.length Inv) (h0I:Inv 0 h0 (newTl ep L)) :
  Calls Tryz.prog 33 #[.pointer (some ⟨b,0,none⟩),.agg #[.int .i64 ep,.slice ao L.length cap],.slice fo fl.length fc] w fun e w'=>∃ (k:Nat) (h':Hd) (f':Tl),Inv k h' f'∧f'.at_=3∧e=.returned (.tuple #[.int .i64 f'.n,.int .i64 f'.e,.bool true])∧Solo (HG b nb) X w' h'∧Kept X w w':=by
 have ZZ:=Lh (fun (x:Int) (h:0≤x∧x≤300)=>show i64w x from WalkArith.wf_i64 (by omega))
 have TT:=Lh (fun b nb=>HS.thing b nb)
 have TA:=Lh (fun b=>TS.thing b)
 have HB:=Lh (z00 w (.cells #[.int .i64 ep,.slice ao L.length cap] 24))
 have HP:=Lh (heap_alloc_new w (.cells #[.int .i64 ep,.slice ao L.length cap] 24))
 have HC:=Lh (hC.below HB.out)
 have S1:=Lh (hs.below (TT.out b nb) HB.out)
 have HI:=Lh hI
 have H0:=Lh h0I
 have HF:=Lh hF
 have HR:=Lh hR
 have HK:=Lh hK
 have HNC:=Lh hn
 have HCP:=Lh hc
 have HE:=Lh he
 obtain ⟨p0,p1,_,_⟩:=z05 HP.out
 have hl':(fl.length:Int)≤60:=by omega
 have k41:IntKind.i64.wrap ((fl.length:Int)+20)=(fl.length:Int)+20:=IntWalk.i64_in _ (by omega)
 clear hs hI h0I hF hC hn hc hR hK he
 go_enter Tryz.func33,Tryz.ntmps33
 go_wp2_with (first
  | (go_at_call 61;refine (st_new TS (TT.out b nb) S1.out HC.out HF.out HNC.out HCP.out HE.out).mono ?_;rintro e w2 ⟨bf,rfl,hs2,hb2⟩;have S2:=Lh hs2;have K2:=Lh (Kept.ofBelow (HB.out.trans (hb2.mono HB.out.size)) X);clear hs2 hb2))
 clear p0 p1
 go_loopw [10] (fun i wr=>∃ (k:Nat) (h:Hd) (f:Tl),i=.int .i64 k∧Hid (Inv k h f)∧Hid (Side (HG b nb) (TG bf) X wr h f)∧Hid (Kept X w wr)) (fun i _=>fl.length+20 - (intOf i).toNat)
 case atStart=>exact ⟨0,h0,newTl ep L,rfl,H0,S2,K2⟩
 case round =>
  clear S1 S2 K2 H0
  obtain ⟨k,h,f,rfl,HV,HT,HB⟩:=hrel
  have hmo:=HI.out.more k h f HV.out
  have k40:(k:Int) < (fl.length:Int)+20:=by omega
  by_cases h7:f.at_=3
  ·have HAS:=Lh (show f.asks=false from decide_eq_false (fun g=>g h7))
   have H7:=Lh h7
   have OK:=Lh (show f.overN=f.n from if_pos h7)
   have OE:=Lh (show f.overE=f.e from if_pos h7)
   have OB:=Lh (show f.overB=true from decide_eq_true h7)
   clear h7
   go_wp2_with (first
    | (go_at_call 64;refine (st_over TS (TT.out b nb) T1.out).mono ?_;rw [OK.out,OE.out,OB.out];rintro e w4 ⟨rfl,hs4,hb4⟩;have T4:=Lh hs4;have V4:=Lh (V1.out.below hb4);clear hs4 hb4)
    | (go_at_call 62;refine (st_ask TS (TT.out b nb) HT.out).mono ?_;rw [HAS.out];rintro e v1 ⟨kd,un,qe,pg,qs,hq1,rfl,hs1,hk1⟩;have T1:=Lh (hs1.below (TT.out b nb) (TA.out bf) (z00 v1 (.cells #[.int .i64 kd,.int .i64 un,.int .i64 qe,.int .i64 pg,.int .i64 0,.int .i64 0,.string qs,.int .i64 0,.slice none 0 0] 34)));have V1:=Lh ((HB.out.trans hk1).below (z00 v1 (.cells #[.int .i64 kd,.int .i64 un,.int .i64 qe,.int .i64 pg,.int .i64 0,.int .i64 0,.string qs,.int .i64 0,.slice none 0 0] 34)));clear hq1 hs1 hk1))
   go_ret3
   exact ⟨k,h,f,HV.out,H7.out,rfl,T4.out.left,V4.out⟩
  ·have HAS:=Lh (show f.asks=true from decide_eq_true h7)
   have HSQ:=Lh (HI.out.small k h f HV.out h7).1
   have HSH:=Lh (HI.out.small k h f HV.out h7).2
   have HU:=Lh (HI.out.used k h f HV.out)
   have HTN:=Lh (fun m hm=>HI.out.step k h f m HV.out h7 hm)
   clear h7
   by_cases hkl:k < fl.length
   ·have n1:(k:Int) < (fl.length:Int):=by omega
    obtain ⟨bk,off,hao,c0⟩:=byte_at (HR.out _ HB.out) hkl
    have CB:=Lh (fun W (hk:Kept X w W)=>(show ∃ bk2 off2,fo=some ⟨bk2,off2,none⟩∧W.cell? ⟨bk2,off2+k,none⟩=some (.int .u8 fl[k]) from byte_at (HR.out W hk) hkl))
    have hv:=HK.out _ (List.getElem_mem hkl)
    generalize fl[k]=v at *
    subst hao
    obtain ⟨v0,v1⟩:=hv
    obtain ⟨m,hm,hm4⟩:∃ m:Nat,v.tmod 4=(m:Int)∧m < 4:=⟨(v % 4).toNat,by rw [Int.tmod_eq_emod_of_nonneg v0];omega,by omega⟩
    have hm0:(0:Int)≤(m:Int)∧(m:Int)≤300:=by omega
    obtain ⟨xc,xn,xd,pe,xL,xm,xz,xe,hx⟩:∃ xc xn xd pe xL xm xz xe,h.heard f.ask (m:Int)=⟨xc,xn,xd,pe,xL,xm,xz,xe⟩:=⟨_,_,_,_,_,_,_,_,rfl⟩
    have HFX:=Lh (show FewX ⟨xc,xn,xd,pe,xL,xm,xz,xe⟩ from hx ▸ HSH.out (m:Int))
    have HN2:=Lh (HTN.out (m:Int) (fun g=>absurd hkl g))
    rw [hx,show decide ((m:Int)=0)=decide (m=0) from by simp] at HN2
    have HX:=Lh hx
    clear hx
    go_wp2_with (first
     | (go_at_call 63;refine (st_hearL TS (TT.out b nb) T2.out (x:=⟨xc,xn,xd,pe,xL,xm,xz,xe⟩) (vo:=vo) (vc:=vc) HFX.out.L HFX.out.pe HC2.out (fun k h=>.inr h)).mono ?_;rintro e v3 ⟨rfl,hs3,hk3⟩;have T3:=Lh hs3;have V3:=Lh (V2.out.trans (hk3.mono (fun k h=>.inl h)));clear hs3 hk3)
     | (go_at_call 41;refine (hs_tell HS (TA.out bf) T1.out (fate:=(m:Int)) SQ.out.kind SQ.out.unit SQ.out.epoch SQ.out.page SQ.out.data HU.out (ZZ.out (m:Int) (by omega)) HX1.out).mono ?_;rintro e v2 ⟨vo,vc,C,rfl,hC,hs2,hk2⟩;have HC2:=Lh hC;have T2:=Lh hs2;have V2:=Lh (V1.out.trans hk2);clear hs2 hk2 hC)
     | (go_at_call 62;refine (st_ask TS (TT.out b nb) HT.out).mono ?_;rw [HAS.out];rintro e v1 ⟨kd,un,qe,pg,qs,hq1,rfl,hs1,hk1⟩;have HQ1:=Lh hq1;have SQ:=Lh (show SmQ (akN kd un qe pg qs) from hq1 ▸ HSQ.out);have HX1:=Lh (show h.heard (akN kd un qe pg qs) (m:Int)=⟨xc,xn,xd,pe,xL,xm,xz,xe⟩ from hq1 ▸ HX.out);have T1:=Lh (hs1.below (TT.out b nb) (TA.out bf) (z00 v1 (.cells #[.int .i64 kd,.int .i64 un,.int .i64 qe,.int .i64 pg,.int .i64 0,.int .i64 0,.string qs,.int .i64 0,.slice none 0 0] 34)));have V1:=Lh ((HB.out.trans hk1).below (z00 v1 (.cells #[.int .i64 kd,.int .i64 un,.int .i64 qe,.int .i64 pg,.int .i64 0,.int .i64 0,.string qs,.int .i64 0,.slice none 0 0] 34)));obtain ⟨bk2,off2,hao2,c9⟩:=CB.out _ V1.out;obtain ⟨rfl,rfl⟩:bk2=bk∧off2=off:=(by simpa using hao2.symm);have hbk:=block_lt_of_cell c9;clear hq1 hs1 hk1))
    refine ⟨⟨k+1,_,_,by go_num,HN2,Lh ?_,V3⟩,by simp [intOf];omega⟩
    rw [HQ1.out]
    exact T3.out.less (fun k h=>.inl h)
   ·have n1:¬ (k:Int) < (fl.length:Int):=by omega
    obtain ⟨xc,xn,xd,pe,xL,xm,xz,xe,hx⟩:∃ xc xn xd pe xL xm xz xe,h.heard f.ask 0=⟨xc,xn,xd,pe,xL,xm,xz,xe⟩:=⟨_,_,_,_,_,_,_,_,rfl⟩
    have HFX:=Lh (show FewX ⟨xc,xn,xd,pe,xL,xm,xz,xe⟩ from hx ▸ HSH.out 0)
    have HN2:=Lh (HTN.out 0 (fun _=>rfl))
    rw [hx] at HN2
    have HX:=Lh hx
    clear hx
    go_wp2_with (first
     | (go_at_call 63;refine (st_hearL TS (TT.out b nb) T2.out (x:=⟨xc,xn,xd,pe,xL,xm,xz,xe⟩) (vo:=vo) (vc:=vc) HFX.out.L HFX.out.pe HC2.out (fun k h=>.inr h)).mono ?_;rintro e v3 ⟨rfl,hs3,hk3⟩;have T3:=Lh hs3;have V3:=Lh (V2.out.trans (hk3.mono (fun k h=>.inl h)));clear hs3 hk3)
     | (go_at_call 41;refine (hs_tell HS (TA.out bf) T1.out (fate:=0) SQ.out.kind SQ.out.unit SQ.out.epoch SQ.out.page SQ.out.data HU.out (ZZ.out 0 (by omega)) HX1.out).mono ?_;rintro e v2 ⟨vo,vc,C,rfl,hC,hs2,hk2⟩;have HC2:=Lh hC;have T2:=Lh hs2;have V2:=Lh (V1.out.trans hk2);clear hs2 hk2 hC)
     | (go_at_call 62;refine (st_ask TS (TT.out b nb) HT.out).mono ?_;rw [HAS.out];rintro e v1 ⟨kd,un,qe,pg,qs,hq1,rfl,hs1,hk1⟩;have HQ1:=Lh hq1;have SQ:=Lh (show SmQ (akN kd un qe pg qs) from hq1 ▸ HSQ.out);have HX1:=Lh (show h.heard (akN kd un qe pg qs) 0=⟨xc,xn,xd,pe,xL,xm,xz,xe⟩ from hq1 ▸ HX.out);have T1:=Lh (hs1.below (TT.out b nb) (TA.out bf) (z00 v1 (.cells #[.int .i64 kd,.int .i64 un,.int .i64 qe,.int .i64 pg,.int .i64 0,.int .i64 0,.string qs,.int .i64 0,.slice none 0 0] 34)));have V1:=Lh ((HB.out.trans hk1).below (z00 v1 (.cells #[.int .i64 kd,.int .i64 un,.int .i64 qe,.int .i64 pg,.int .i64 0,.int .i64 0,.string qs,.int .i64 0,.slice none 0 0] 34)));clear hq1 hs1 hk1))
    refine ⟨⟨k+1,_,_,by go_num,HN2,Lh ?_,V3⟩,by simp [intOf];omega⟩
    rw [HQ1.out]
    exact T3.out.less (fun k h=>.inl h)
def SeR (E t:Int) (f:Tl) (d:Nat):Prop :=
 (f.at_=2∧f.ep≠E∧i64w f.ep∧4≤d)∨(f.at_=1∧3≤d)∨(f.at_=2∧f.ep=E∧2≤d)∨(f.at_=3∧f.n=t∧f.e=0)
structure SeN (E:Int) (M:List (List Int)) (t:Int) (n:Nd):Prop where
 good:goodB E M=true
 ep:n.l.ep=E
 L:n.l.L=M
 o:n.o=⟨E,t,true⟩
 t_:0≤t∧t≤16384
 used:n.l.used.length≤100000
section
variable {E:Int} {M:List (List Int)} {t:Int} {n:Nd} {f:Tl} {d:Nat}
theorem hearT40 {x:An} (h3:f.at_≠3) (hc:x.code=40):(f.hear x true).at_=1:=by
 unfold Tl.hear
 rw [if_neg (fun g=>g.elim h3 (fun g=>g.elim Bool.noConfusion (fun g=>by omega))),if_pos hc]
theorem hearTlay {x:An} (h1:f.at_=1) (hc:x.code=0) (hg:goodB x.pe x.L=true):(f.hear x true).at_=2∧(f.hear x true).ep=x.pe:=by
 unfold Tl.hear
 rw [if_neg (fun g=>g.elim (by omega) (fun g=>g.elim Bool.noConfusion (fun g=>by omega))),if_neg (by omega),if_pos h1,if_pos ⟨hc,hg⟩]
 exact ⟨rfl,rfl⟩
theorem hearTok {x:An} (h2:f.at_=2) (hc:x.code=0) (hn:0≤x.n∧x.n≤16384):(f.hear x true).at_=3∧(f.hear x true).n=x.n∧(f.hear x true).e=0:=by
 unfold Tl.hear
 rw [if_neg (fun g=>g.elim (by omega) (fun g=>g.elim Bool.noConfusion (fun g=>by omega))),if_neg (by omega),if_neg (by omega),if_pos hc,if_pos hn]
 exact ⟨rfl,rfl,rfl⟩
theorem SeR.step (h0:SeN E M t n) (H:SeR E t f d) (h3:f.at_≠3):n.done f.ask=n∧SeR E t (f.hear (n.ans f.ask) true) (d - 1)∧1≤d∧SmQ f.ask∧f.ask.kind≠3∧f.ask.kind≠10:=by
 have z0:i64w 0:=z04 (by omega)
 have zs:(0:Nat)≤1000000:=by omega
 have hE:=(goodB_iff.1 h0.good).1
 have ht:=h0.t_
 rcases H with ⟨p1,p2,p3,hd⟩ | ⟨p1,hd⟩ | ⟨p1,p2,hd⟩ | ⟨p1,_⟩
 ·have ea:f.ask=askTl f.ep:=by unfold Tl.ask;rw [if_neg (by omega),if_pos p1]
  have ex:(n.ans f.ask).code=40:=by
   rw [ea,nd_tail_ans,h0.o,if_pos (show f.ep≠E from p2)]
   rfl
  refine ⟨by rw [ea];exact nd_tail_done n f.ep,.inr (.inl ⟨hearT40 h3 ex,by omega⟩),by omega,?_⟩
  rw [ea]
  exact ⟨⟨z04 (x:=7) (by omega),z0,p3,z0,zs⟩,show (7:Int)≠3 by decide,show (7:Int)≠10 by decide⟩
 ·have ea:f.ask=layK:=by unfold Tl.ask;rw [if_pos p1]
  obtain ⟨e1,e2⟩:=nd_lay_done n
  rw [ea,e1,e2,h0.ep,h0.L]
  obtain ⟨g1,g2⟩:=hearTlay (f:=f) (x:=⟨0,n.l.n,noL,E,M,n.l.mark,n.l.size,0⟩) p1 rfl h0.good
  exact ⟨rfl,.inr (.inr (.inl ⟨g1,g2,by omega⟩)),by omega,⟨z04 (x:=9) (by omega),z0,z0,z0,zs⟩,show (9:Int)≠3 by decide,show (9:Int)≠10 by decide⟩
 ·have ea:f.ask=askTl E:=by unfold Tl.ask;rw [if_neg (by omega),if_pos p1,p2]
  have ex:n.ans f.ask=anP 0 t noT E:=by
   rw [ea,nd_tail_ans,h0.o,if_neg (fun e=>e rfl),if_neg (fun e=>Bool.noConfusion e)]
  obtain ⟨g1,g2,g3⟩:=hearTok (f:=f) (x:=anP 0 t noT E) p1 rfl ht
  rw [ex]
  refine ⟨by rw [ea];exact nd_tail_done n E,.inr (.inr (.inr ⟨g1,g2,g3⟩)),by omega,?_⟩
  rw [ea]
  exact ⟨⟨z04 (x:=7) (by omega),z0,z04 (by show -1000000000000≤E∧E≤1000000000000;omega),z0,zs⟩,show (7:Int)≠3 by decide,show (7:Int)≠10 by decide⟩
 ·exact absurd p1 h3
def InvS (E t:Int) (n0:Nd) (k:Nat) (h:Hd) (f:Tl):Prop:=h.n=n0∧∃ d,SeR E t f d∧d+k≤19
theorem InvS.run {n0:Nd} (h0:SeN E M t n0):RunSee 0 (InvS E t n0):=by
 refine ⟨fun k h f H=>?_,fun k h f H=>?_,fun k h f H h3=>?_,fun k h f m H h3 hm=>?_⟩
 all_goals obtain ⟨hn,d,h1,h2⟩:=H
 ·omega
 ·rw [hn]
  exact h0.used
 ·obtain ⟨_,_,_,g1,g2,g3⟩:=h1.step h0 h3
  exact ⟨g1,fun m=>fewX_heard h f.ask m (by rw [hn,h0.ep,h0.L];exact h0.good) (fun e=>absurd e g2) (fun e=>absurd e g3)⟩
 ·obtain ⟨g0,g1,g2,_⟩:=h1.step h0 h3
  obtain rfl:m=0:=hm (Nat.not_lt_zero k)
  have en:(h.asked f.ask 0).n=h.n.done f.ask:=by
   rcases asked_n h f.ask 0 with ⟨_,g⟩ | ⟨g,_⟩
   ·exact g
   ·exact absurd rfl g
  have eh:h.heard f.ask 0=h.n.ans f.ask:=if_pos rfl
  refine ⟨by rw [en,hn];exact g0,d - 1,?_,by omega⟩
  rw [eh,hn]
  exact g1
theorem InvS.start {n0:Nd} {e:Int} {L:List (List Int)} (hg:goodB e L=true) {h:Hd} (hn:h.n=n0):InvS E t n0 0 h (newTl e L):=by
 have hx:=(goodB_iff.1 hg).1
 refine ⟨hn,4,?_,by omega⟩
 unfold newTl
 rw [if_pos hg]
 by_cases he:e=E
 ·exact .inr (.inr (.inl ⟨rfl,he,by omega⟩))
 ·exact .inl ⟨rfl,he,z04 (by show -1000000000000≤e∧e≤1000000000000;omega),Nat.le_refl _⟩
end
theorem seeN_any {UG:Nat→Nat→(Nat→Prop)→World→Us→Prop} {OG:Nat→(Nat→Prop)→World→Od→Prop} {LG:Nat→(Nat→Prop)→World→Ly→Prop} {NG:Nat→(Nat→Prop)→World→Nd→Prop} {HG:Nat→Nat→(Nat→Prop)→World→Hd→Prop} {TG:Nat→(Nat→Prop)→World→Tl→Prop} (HS:HandSays UG OG LG NG HG) (TS:TailSays TG)
  (b nb:Nat) (X:Nat→Prop) (w:World) (h0:Hd) (hs:Solo (HG b nb) X w h0) (E:Int) (M:List (List Int)) (t:Int) (hN:SeN E M t h0.n) (ep:Int) (L:List (List Int)) (hg:goodB ep L=true)
  (ao:Option Addr) (cap:Nat) (hC:CL w ao L) (hn:ao=none→cap=0) (hc:L.length≤cap) :
  Calls Tryz.prog 33 #[.pointer (some ⟨b,0,none⟩),.agg #[.int .i64 ep,.slice ao L.length cap],.slice none 0 0] w fun e w'=>e=.returned (.tuple #[.int .i64 t,.int .i64 0,.bool true])∧∃ h':Hd,h'.n=h0.n∧Solo (HG b nb) X w' h'∧Kept X w w':=by
 refine (see_run HS TS b nb X w h0 hs ep (z16 hg).2 L (z16 hg).1 ao cap hC hn hc none 0 [] (Nat.zero_le _) (fun W _=>Row.nil _ _ _ _) (fun x hx=>(by cases hx)) (InvS E t h0.n) (InvS.run hN) (InvS.start hg rfl)).mono ?_
 rintro e w' ⟨k,h',f',⟨g1,d,g2,_⟩,h3,he,h8,h9⟩
 rcases g2 with ⟨p,_⟩ | ⟨p,_⟩ | ⟨p,_⟩ | ⟨_,p2,p3⟩
 ·omega
 ·omega
 ·omega
 ·rw [p2,p3] at he
  exact ⟨he,h',g1,h8,h9⟩
end Go.Proofs.YtkefpbcifcjibaaGreat
