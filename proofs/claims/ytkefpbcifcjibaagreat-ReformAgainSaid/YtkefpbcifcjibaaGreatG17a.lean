/- Joined texts. -/
import Derived.Laws.EntriesVeiled
import Derived.Test.YtkefpbcifcjibaaGreatG16a
import Derived.Lib.SliceRun
import Derived.Test.YtkefpbcifcjibaaGreatG06a
import Derived.Test.YtkefpbcifcjibaaGreatG04a
import Derived.Test.YtkefpbcifcjibaaGreatG08a
import Derived.Test.YtkefpbcifcjibaaGreatG12a
import Derived.Test.YtkefpbcifcjibaaGreatG11a
import Derived.Test.YtkefpbcifcjibaaGreatH00
set_option linter.unusedVariables false
set_option maxRecDepth 20000
set_option maxHeartbeats 16000000
namespace Go.Proofs.YtkefpbcifcjibaaGreat
open Go.RowKit
def fnV (f:FuncId):Value:=.func (.func f) #[] #[]
theorem deed_none (k:Int) (w:World) (hk:k < 1∨5 < k):Calls Tryz.prog 181 #[.int .i64 k] w fun e w'=>e=.returned .nilFunc∧Below w.heap.size w w':=by
 by_cases h0:k=0
 ·subst h0
  clear hk
  go_enter Tryz.func181,Tryz.ntmps181
  go_wp2
  go_ret
  exact ⟨rfl,(Below.refl _ _).alloc (Nat.le_refl _) _⟩
 by_cases h1:k < 0
 ·clear hk h0
  go_enter Tryz.func181,Tryz.ntmps181
  go_wp2
  go_ret
  exact ⟨rfl,(Below.refl _ _).alloc (Nat.le_refl _) _⟩
 have h2:6≤k:=by omega
 have h3:0≤k:=by omega
 clear hk h0 h1
 go_enter Tryz.func181,Tryz.ntmps181
 go_wp2
 go_ret
 exact ⟨rfl,(Below.refl _ _).alloc (Nat.le_refl _) _⟩
theorem deed_1 (w:World):Calls Tryz.prog 181 #[.int .i64 1] w fun e w'=>e=.returned (fnV 182)∧Below w.heap.size w w':=by
 go_enter Tryz.func181,Tryz.ntmps181
 go_wp2
 go_ret
 exact ⟨rfl,(Below.refl _ _).alloc (Nat.le_refl _) _⟩
theorem deed_2 (w:World):Calls Tryz.prog 181 #[.int .i64 2] w fun e w'=>e=.returned (fnV 183)∧Below w.heap.size w w':=by
 go_enter Tryz.func181,Tryz.ntmps181
 go_wp2
 go_ret
 exact ⟨rfl,(Below.refl _ _).alloc (Nat.le_refl _) _⟩
theorem deed_3 (w:World):Calls Tryz.prog 181 #[.int .i64 3] w fun e w'=>e=.returned (fnV 184)∧Below w.heap.size w w':=by
 go_enter Tryz.func181,Tryz.ntmps181
 go_wp2
 go_ret
 exact ⟨rfl,(Below.refl _ _).alloc (Nat.le_refl _) _⟩
theorem deed_4 (w:World):Calls Tryz.prog 181 #[.int .i64 4] w fun e w'=>e=.returned (fnV 185)∧Below w.heap.size w w':=by
 go_enter Tryz.func181,Tryz.ntmps181
 go_wp2
 go_ret
 exact ⟨rfl,(Below.refl _ _).alloc (Nat.le_refl _) _⟩
theorem deed_5 (w:World):Calls Tryz.prog 181 #[.int .i64 5] w fun e w'=>e=.returned (fnV 186)∧Below w.heap.size w w':=by
 go_enter Tryz.func181,Tryz.ntmps181
 go_wp2
 go_ret
 exact ⟨rfl,(Below.refl _ _).alloc (Nat.le_refl _) _⟩
theorem nil_nil (w:World):(binOp .eql 268 .nilFunc .nilFunc).run Tryz.prog w=.ok (.bool true) w:=rfl
theorem answer_none (b q:Nat) (G:Nat→Prop) (w:World) (u:Us) (a:Ak) (h:UM b q G w u) (hk:a.kind < 1∨5 < a.kind) :
  Calls Tryz.prog 180 #[ptrV b,askV a] w fun e w'=>e=.returned (anV 1 0 noS 0)∧Leaves (UM b q) G w w' u:=by
 obtain ⟨k,un,ep,pg,sz,n,s,pe,L,ao,cap⟩:=a
 obtain ⟨p,ue,dn⟩:=u
 simp only at *
 have CC:=Lh z1o
 have HS:=Lh (z0e (z08 b q) h #[.int .i64 k,.int .i64 un,.int .i64 ep,.int .i64 pg,.int .i64 sz,.int .i64 n,.string s,.int .i64 pe,.slice ao L.length cap])
 unfold zeroAn at HS
 have hbw:=h.small
 clear h
 show Calls _ _ #[.pointer (some ⟨b,0,none⟩),.agg #[.int .i64 k,.int .i64 un,.int .i64 ep,.int .i64 pg,.int .i64 sz,.int .i64 n,.string s,.int .i64 pe,.slice ao L.length cap]] w _
 have HD:=Lh (fun w=>deed_none k w hk)
 have hn:=nil_nil
 clear hk
 go_enter Tryz.func180,Tryz.ntmps180
 go_wp2_with (first | (go_at_call 181;refine (HD.out _).mono ?_;rintro e w1 ⟨rfl,hb1⟩;have HT2:=Lh (HS.out.below (z08 b q) hb1);clear hb1) | (go_at_call 179;refine (CC.out _ _).mono ?_;rintro e w3 ⟨rfl,hb3⟩;have HT3:=Lh (HT2.out.below (z08 b q) hb3);clear hb3;obtain ⟨nl1,nl2⟩:=HT3.out.small;obtain ⟨⟨ny0,ny1,ny2,ny3,ny4,ny5,ny6,ny7⟩,nfy0,nfy1,nfy2,nfy3,nfy4,nfy5,nfy6,nfy7⟩:=z03 HT3.out.ans))
 exact z0k (x:=anP (1) (0) noS 0) (ao:=none) (cap:=0) rfl (HT3.out.fin (z08 b q)).1 rfl rfl ⟨rfl,(HT3.out.fin (z08 b q)).2⟩
theorem z2d (b q:Nat) (G:Nat→Prop) (w:World) (u:Us) (a:Ak) (f:FuncId) (h:UM b q G w u) (hd:∀ w,Calls Tryz.prog 181 #[.int .i64 a.kind] w fun e w'=>e=.returned (fnV f)∧Below w.heap.size w w') (he:a.epoch < u.epoch) :
  Calls Tryz.prog 180 #[ptrV b,askV a] w fun e w'=>e=.returned (anV 40 0 noS 0)∧Leaves (UM b q) G w w' u:=by
 obtain ⟨k,un,ep,pg,sz,n,s,pe,L,ao,cap⟩:=a
 obtain ⟨p,ue,dn⟩:=u
 simp only at *
 have CC:=Lh z1o
 have HS:=Lh (z0e (z08 b q) h #[.int .i64 k,.int .i64 un,.int .i64 ep,.int .i64 pg,.int .i64 sz,.int .i64 n,.string s,.int .i64 pe,.slice ao L.length cap])
 unfold zeroAn at HS
 have hbw:=h.small
 clear h
 show Calls _ _ #[.pointer (some ⟨b,0,none⟩),.agg #[.int .i64 k,.int .i64 un,.int .i64 ep,.int .i64 pg,.int .i64 sz,.int .i64 n,.string s,.int .i64 pe,.slice ao L.length cap]] w _
 have HD:=Lh hd
 unfold fnV at HD
 clear hd
 have hn:∀ w:World,(binOp .eql 268 (.func (.func f) #[] #[]) .nilFunc).run Tryz.prog w=.ok (.bool false) w:=fun _=>rfl
 go_enter Tryz.func180,Tryz.ntmps180
 go_wp2_with (go_at_call 181;refine (HD.out _).mono ?_;rintro e w1 ⟨rfl,hb1⟩;have HT1:=Lh (HS.out.below (z08 b q) hb1);clear hb1)
 obtain ⟨l1,l2⟩:=HT1.out.small
 obtain ⟨H,hH,_⟩:=HT1.out.use
 have x2:w1.cell? ⟨w.heap.size,2,none⟩=some (.int .i64 ep):=z02 HT1.out.ask 2
 obtain ⟨c0,c1,c2,_⟩:=z09 hH.cells
 have hb:=hH.small
 clear hH
 go_quiet (fail)
 have HT2:=Lh (HT1.out.drewN (z08 b q) nq)
 generalize hW2:World.drewN w1 nq=w2 at *
 clear hW2 x2 c0 c1 c2 hb l1 l2
 obtain ⟨l1,l2⟩:=HT2.out.small
 go_wp2_with (go_at_call 179;refine (CC.out _ _).mono ?_;rintro e w3 ⟨rfl,hb3⟩;have HT3:=Lh (HT2.out.below (z08 b q) hb3);clear hb3;obtain ⟨nl1,nl2⟩:=HT3.out.small;obtain ⟨⟨ny0,ny1,ny2,ny3,ny4,ny5,ny6,ny7⟩,nfy0,nfy1,nfy2,nfy3,nfy4,nfy5,nfy6,nfy7⟩:=z03 HT3.out.ans)
 exact z0k (x:=anP (40) (0) noS 0) (ao:=none) (cap:=0) rfl (HT3.out.fin (z08 b q)).1 rfl rfl ⟨rfl,(HT3.out.fin (z08 b q)).2⟩
theorem pClone_any (ao:Option Addr) (cap:Nat) (l:List Int) (w:World) (h:NLI w ao cap l) (hl:l.length≤255) :
  Calls Tryz.prog 123 #[.slice ao l.length cap] w fun e w'=>∃ bo cb,e=.returned (.slice bo l.length cb)∧NLI w' bo cb l∧Below w.heap.size w w':=by
 have HN:=Lh h
 have HL:=Lh (show ([]:List Int).length+l.length≤1000000 from by simp;omega)
 have hEq:=fun (w:World) (a:Option Addr) (n c:Nat)=>Lib.run_eql_slice_nil (P:=Tryz.prog) w 65 3 a n c 0 0 Tryz.underlying65
 cases ao with
 | none =>
  obtain ⟨rfl,rfl⟩:=h.of_none
  go_enter Tryz.func123,Tryz.ntmps123
  go_wp2_with fail
  go_ret
  exact ⟨none,0,rfl,NLI.nil _,Below.refl _ _⟩
 | some x =>
  have HMD:=Lh (OI.made w (Nat.le_refl _))
  clear h
  go_enter Tryz.func123,Tryz.ntmps123
  go_wp2_with (refine wpList_app_ints (o:=⟨some 7,_,_,_,_,_⟩) rfl (.tmp 5) (.tmp 6) rfl (B:=w.heap.size) (v:=.slice (some ⟨w.heap.size,0,none⟩) 0 0) (D:=[]) rfl HMD.out (ao:=some x) (cap:=cap) (l:=l) rfl rfl (HN.out.below (below_alloc _ _)) HL.out (by simp) ?_;intro v2 w2 hI hg _;rw [List.nil_append] at hI;obtain ⟨a2,c2,hv2,hN2,_,_⟩:=hI.form;have HB2:=Lh (((Below.refl w.heap.size w).alloc (Nat.le_refl _) _).grown hg (by simp) (fun k e=>by have e2:w.heap.size=k:=Option.some.inj e;omega));have HN2:=Lh hN2;subst hv2;clear hI hg hN2)
  go_ret
  exact ⟨_,_,rfl,HN2.out,HB2.out⟩
theorem pChain_any (ep:Int) (ao:Option Addr) (cap:Nat) (L:List (List Int)) (a:Int) (w:World) (h:CL w ao L) (hl:L.length≤255∧∀ c ∈ L,c.length≤255) :
  Calls Tryz.prog 109 #[.agg #[.int .i64 ep,.slice ao L.length cap],.int .i64 a] w fun e w'=>∃ bo cb,e=.returned (.slice bo (chainR ep L a).length cb)∧NLI w' bo cb (chainR ep L a)∧Below w.heap.size w w':=by
 have HB0:=Lh ((Below.refl w.heap.size w).alloc (Nat.le_refl _) (.cells #[.int .i64 ep,.slice ao L.length cap] 24))
 have HC:=Lh (h.below HB0.out)
 have HP:=Lh (show PB (w.alloc (.cells #[.int .i64 ep,.slice ao L.length cap] 24)) w.heap.size ep ao L.length cap from heap_alloc_new _ _)
 have CO:=Lh (pOf_any ep ao cap L a _ HC.out hl)
 have hl':(L.length:Int)≤255:=by have:=hl.1;omega
 have HM:=Lh hl
 clear h hl
 by_cases ho:ofB ep L a=true
 ·obtain ⟨hg,ha⟩:=ofB_iff.1 ho
  obtain ⟨n1,n4⟩:=z0v hg
  obtain ⟨r1,_,_⟩:=of_range (n:=L.length) ⟨by omega,by omega⟩ ha
  obtain ⟨k,hk⟩:=Int.eq_ofNat_of_zero_le r1.1
  have hkl:k < L.length:=by omega
  have HX:=Lh (chainR_yes ho hkl hk)
  rw [ofV_is ho,hk] at CO
  have mo:=HM.out.2 _ (List.getElem_mem hkl)
  have k0:(k:Int) < (L.length:Int):=by omega
  clear ho hg ha r1 hk
  generalize a / (L.length:Int)=q at *
  go_enter Tryz.func109,Tryz.ntmps109
  go_wp2_with (first
   | (go_at_call 100;refine CO.out.mono ?_;rintro e w1 ⟨rfl,hb1⟩;have HB1:=Lh ((HB0.out.trans (hb1.mono HB0.out.size)).alloc (HB0.out.trans (hb1.mono HB0.out.size)).size (.cells #[.int .i64 k,.int .i64 q] 150));have HP1:=Lh ((HP.out.below hb1).below (below_alloc w1 (.cells #[.int .i64 k,.int .i64 q] 150)));obtain ⟨b0,b1⟩:=(HP.out.below hb1).cells;obtain ⟨bk,off,ai,ci,hao,c0,hN⟩:=(HC.out.below hb1) k hkl;subst hao;have HN:=Lh (hN.below (below_alloc w1 (.cells #[.int .i64 k,.int .i64 q] 150)));have hw1:=block_lt_of_cell b1;have hbk:=block_lt_of_cell c0;clear hb1 hN)
   | (go_at_call 123;refine (pClone_any ai ci L[k] _ HN.out mo).mono ?_;rintro e w2 ⟨bo,cb,rfl,hN2,hb2⟩;have HN2:=Lh hN2;have HB2:=Lh (HB1.out.trans (hb2.mono HB1.out.size));clear hN2 hb2))
  go_ret
  rw [HX.out]
  exact ⟨_,_,rfl,HN2.out,HB2.out⟩
 ·have ho':ofB ep L a=false:=Bool.eq_false_iff.2 ho
  rw [ofV_no ho'] at CO
  rw [chainR_no ho']
  clear ho ho'
  go_enter Tryz.func109,Tryz.ntmps109
  go_wp2_with (go_at_call 100;refine CO.out.mono ?_;rintro e w1 ⟨rfl,hb1⟩;have HB1:=Lh (HB0.out.trans (hb1.mono HB0.out.size));clear hb1)
  go_ret
  exact ⟨none,0,rfl,NLI.nil _,HB1.out.alloc HB1.out.size _⟩
def ToldBy {α:Type} (mk:Option Addr→Nat→Value) (T:(Nat→Prop)→World→α→Prop) (G:Nat→Prop) (w:World) (s':α) (x:An) (e:Ending) (w':World):Prop :=
 ∃ (ao:Option Addr) (cap:Nat) (C:Nat→Prop),e=.returned (mk ao cap)∧(∀ k,C k→w.heap.size≤k)∧Leaves (Chained T C (.slice ao x.L.length cap) x.L) G w w' s'
section
variable {α β:Type} {mk:Option Addr→Nat→Value} {T:(Nat→Prop)→World→α→Prop} {U:(Nat→Prop)→World→β→Prop} {X G:Nat→Prop} {w w':World} {a a':α} {b:β} {x:An} {e:Ending} {P:Program} {fn:FuncId} {args:Array Value}
theorem chained_plain (h:Leaves T G w w' a') (hL:x.L=[]):Leaves (Chained T (fun _=>False) (.slice none x.L.length 0) x.L) G w w' a':=by
 obtain ⟨H,h1,h2,h3⟩:=h
 refine ⟨H,⟨H,h1,by rw [hL];exact CG.no _ _,fun k hk=>hk.elim,fun k hk=>hk.elim,fun k=>⟨.inl,fun h=>h.elim id False.elim⟩⟩,h2,h3⟩
theorem told_plain (h:Leaves T G w w' a') (hL:x.L=[]) (he:e=.returned (mk none 0)):ToldBy mk T G w a' x e w':=⟨none,0,fun _=>False,he,fun k hk=>hk.elim,chained_plain h hL⟩
theorem side_told (hT:Thing T) (hU:Thing U) (h:Side T U X w a b) (hc:∀ F:Nat→Prop,T F w a→(∀ k,X k→¬ F k)→Calls P fn args w fun e w'=>ToldBy mk T F w a' x e w') :
  Calls P fn args w fun e w'=>∃ (ao:Option Addr) (cap:Nat) (C:Nat→Prop),e=.returned (mk ao cap)∧CG C w' (.slice ao x.L.length cap) x.L∧Side T U (fun k=>X k∨C k) w' a' b∧Kept X w w':=by
 obtain ⟨h1,F,G,h2,h3,h4,h5⟩:=h
 refine (hc F h2 (fun k hk=>(h4 k hk).1)).mono ?_
 rintro e w' ⟨ao,cap,C,rfl,hC,H,⟨F',r1,r2,rl,r3,r4⟩,r5,r6⟩
 have r7:∀ k,F' k→F k∨w.heap.size≤k:=fun k hk=>r6 k ((r4 k).2 (.inl hk))
 refine ⟨ao,cap,C,rfl,r2,⟨fun k hk=>?_,F',G,r1,hU.keep h3 r5 (fun k hg hf=>h5 k hf hg),fun k hk=>?_,fun k hk hg=>?_⟩,r5.mono (fun k hk=>(h4 k hk).1)⟩
 ·rcases hk with hk | hk
  ·exact Nat.lt_of_lt_of_le (h1 k hk) r5.size
  ·exact rl k hk
 ·rcases hk with hk | hk
  ·refine ⟨fun hf=>?_,(h4 k hk).2⟩
   rcases r7 k hf with h | h
   ·exact (h4 k hk).1 h
   ·have:=h1 k hk;omega
  ·exact ⟨r3 k hk,fun hg=>by have:=hU.lt h3 k hg;have:=hC k hk;omega⟩
 ·rcases r7 k hk with h | h
  ·exact h5 k h hg
  ·have:=hU.lt h3 k hg;omega
theorem side_told_right (hT:Thing T) (hU:Thing U) {b':β} (h:Side T U X w a b) (hc:∀ F:Nat→Prop,U F w b→(∀ k,X k→¬ F k)→Calls P fn args w fun e w'=>ToldBy mk U F w b' x e w') :
  Calls P fn args w fun e w'=>∃ (ao:Option Addr) (cap:Nat) (C:Nat→Prop),e=.returned (mk ao cap)∧CG C w' (.slice ao x.L.length cap) x.L∧Side T U (fun k=>X k∨C k) w' a b'∧Kept X w w' :=
 (side_told hU hT h.swap hc).mono fun e w' ⟨ao,cap,C,h1,h2,h3,h4⟩=>⟨ao,cap,C,h1,h2,h3.swap,h4⟩
end
structure BoxZ {α:Type} (tz:TypeId) (Z:Array Value) (T:(Nat→Prop)→World→α→Prop) (w W:World) (G:Nat→Prop) (s:α) (A:Array Value):Prop where
 ask:W.heap[w.heap.size]?=some (.cells A 34 (0,0))
 ans:W.heap[w.heap.size+1]?=some (.cells Z tz (0,0))
 th:∃ H:Nat→Prop,T H W s∧∀ k,H k→G k∨w.heap.size+1 < k
 kp:Kept (fun k=>¬ G k) w W
 lt:∀ k,G k→k < w.heap.size
section
variable {α:Type} {tz:TypeId} {Z:Array Value} {T:(Nat→Prop)→World→α→Prop} {w W:World} {G:Nat→Prop} {s s':α} {A:Array Value}
theorem boxz_start (hT:Thing T) (h:T G w s) (A:Array Value):BoxZ tz Z T w ((w.alloc (.cells A 34)).alloc (.cells Z tz)) G s A:=by
 have hb:Below w.heap.size w ((w.alloc (.cells A 34)).alloc (.cells Z tz)):=((Below.refl _ _).alloc (Nat.le_refl _) _).alloc (by simp) _
 obtain ⟨h1,h2⟩:=z0z w A Z 34 tz
 exact ⟨h1,h2,⟨G,hT.keep h (Kept.ofBelow hb (fun _=>True)) (fun _ _=>trivial),fun k hk=>.inl hk⟩,Kept.ofBelow hb _,fun k hk=>hT.lt h k hk⟩
theorem BoxZ.below (hT:Thing T) (h:BoxZ tz Z T w W G s A) {W2:World} (hb:Below W.heap.size W W2):BoxZ tz Z T w W2 G s A:=by
 obtain ⟨H,h1,h2⟩:=h.th
 exact ⟨z01 hb h.ask,z01 hb h.ans,⟨H,hT.keep h1 (Kept.ofBelow hb (fun _=>True)) (fun _ _=>trivial),h2⟩,h.kp.below hb,h.lt⟩
theorem BoxZ.drewN (hT:Thing T) (h:BoxZ tz Z T w W G s A) (n:Nat):BoxZ tz Z T w (W.drewN n) G s A:=h.below hT (below_drewN (Below.refl _ _) n)
theorem BoxZ.small (h:BoxZ tz Z T w W G s A):w.heap.size < W.heap.size∧w.heap.size+1 < W.heap.size:=⟨lt_of_block h.ask,lt_of_block h.ans⟩
theorem BoxZ.use2 (h:BoxZ tz Z T w W G s A):∃ H:Nat→Prop,T H W s∧(∀ W2,Kept (fun k=>¬ H k) W W2→Kept (fun k=>¬ G k) w W2)∧∀ {β:Type} (U:(Nat→Prop)→World→β→Prop) W2 (s':β),Leaves U H W W2 s'→BoxZ tz Z U w W2 G s' A:=by
 obtain ⟨H,h1,h2⟩:=h.th
 obtain ⟨s1,s2⟩:=h.small
 have off:∀ k,k < W.heap.size→¬ G k→k≤w.heap.size+1→¬ H k:=fun k _ hg hk hf=>by
  rcases h2 k hf with h3 | h3
  ·exact hg h3
  ·omega
 have ng:∀ k,w.heap.size≤k→¬ G k:=fun k hk hg=>by have:=h.lt k hg;omega
 have kk:∀ W2,Kept (fun k=>¬ H k) W W2→Kept (fun k=>¬ G k) w W2:=fun W2 r2=>by
  have hk:=h.kp
  refine ⟨r2.os.trans hk.os,r2.tape.trans hk.tape,r2.output.trans hk.output,Nat.le_trans hk.size r2.size,fun k hg hkl=>?_⟩
  rw [r2.block k (off k (Nat.lt_of_lt_of_le hkl hk.size) hg (by omega)) (Nat.lt_of_lt_of_le hkl hk.size)]
  exact hk.block k hg hkl
 refine ⟨H,h1,kk,fun U W2 s' hl=>?_⟩
 obtain ⟨H',r1,r2,r3⟩:=hl
 refine ⟨r2.heap (off _ s1 (ng _ (by omega)) (by omega)) h.ask,r2.heap (off _ s2 (ng _ (by omega)) (by omega)) h.ans,⟨H',r1,fun k hk=>?_⟩,kk W2 r2,h.lt⟩
 rcases r3 k hk with h3 | h3
 ·exact h2 k h3
 ·exact .inr (by omega)
theorem BoxZ.fin (hT:Thing T) (h:BoxZ tz Z T w W G s A) {W2:World} (hk:Kept (fun k=>k≠w.heap.size+1) W W2):Leaves T G w W2 s:=by
 obtain ⟨H,h1,h2⟩:=h.th
 have hw:=h.small
 refine ⟨H,hT.keep h1 hk (fun k hk e=>?_),?_,fun k hk=>(h2 k hk).imp id (fun h=>by omega)⟩
 ·rcases h2 k hk with h3 | h3
  ·have:=h.lt k h3;omega
  ·omega
 ·have hp:=h.kp
  refine ⟨hk.os.trans hp.os,hk.tape.trans hp.tape,hk.output.trans hp.output,Nat.le_trans hp.size hk.size,fun k hg hkl=>?_⟩
  have:=hp.size
  rw [hk.block k (by omega) (by omega)]
  exact hp.block k hg hkl
end
def fewL (L:List (List Int)):Prop:=L.length≤255∧∀ c ∈ L,c.length≤255
structure LaySays (LG:Nat→(Nat→Prop)→World→Ly→Prop):Prop where
 thing:∀ b,Thing (LG b)
 good:∀ {b:Nat} {G:Nat→Prop} {w:World} {y:Ly},LG b G w y→goodB y.ep y.L=true
 new_no:∀ (ep:Int) (ao:Option Addr) (cap:Nat) (L:List (List Int)) (w:World),CL w ao L→fewL L→goodB ep L=false→Calls Tryz.prog 90 #[.agg #[.int .i64 ep,.slice ao L.length cap]] w fun e w'=>e=.returned (.tuple #[.pointer none,.int .i64 11])∧Below w.heap.size w w'
 new_yes:∀ (ep:Int) (ao:Option Addr) (cap:Nat) (L:List (List Int)) (w:World),CL w ao L→fewL L→goodB ep L=true→Calls Tryz.prog 90 #[.agg #[.int .i64 ep,.slice ao L.length cap]] w fun e w'=>∃ (b:Nat) (G:Nat→Prop),e=.returned (.tuple #[ptrL b,.int .i64 0])∧LG b G w' (newL ep L)∧(∀ k,G k→w.heap.size≤k)∧Below w.heap.size w w'
 ask:∀ (b:Nat) (G:Nat→Prop) (w:World) (y:Ly) (a:Ak),LG b G w y→AkOk a→fewL a.L→y.used.length≤100000→(∀ W,Kept (fun k=>¬ G k) w W→CL W a.ao a.L)→Calls Tryz.prog 195 #[ptrL b,askV a] w fun e w'=>Tells (LG b) G w (y.done a) (y.ans a) e w'
 now:∀ (b:Nat) (G:Nat→Prop) (w:World) (y:Ly),LG b G w y→Calls Tryz.prog 36 #[ptrL b] w fun e w'=>∃ v,e=.returned (.agg #[.int .i64 y.ep,v])∧OC w' w.heap.size v y.L∧Below w.heap.size w w'
 nil_ask:∀ (w:World) (a:Ak),AkIn w a→Calls Tryz.prog 195 #[.pointer none,askV a] w fun e w'=>e=.returned (ansV (anP 1 0 noL 0) none 0)∧Below w.heap.size w w'
 nil_now:∀ (w:World),Calls Tryz.prog 36 #[.pointer none] w fun e w'=>∃ ep v,e=.returned (.agg #[.int .i64 ep,v])∧OC w' w.heap.size v []∧Below w.heap.size w w'
section
variable {LG:Nat→(Nat→Prop)→World→Ly→Prop} {X:Nat→Prop} {w:World} {b:Nat} {y:Ly}
end
structure Tab (A:Array Value) (m:Nat) (B:Nat→Nat × Nat) (ro rl:Nat):Prop where
 size:A.size=18
 at_:∀ i,i < m→A[i]?=some (ptrU (B i).1)
 o:A[16]?=some (ptrO ro)
 l:A[17]?=some (ptrL rl)
theorem Tab.put {A:Array Value} {m:Nat} {B:Nat→Nat × Nat} {ro rl:Nat} (h:Tab A m B ro rl) (hm:m < 16) (x:Nat × Nat):Tab (A.setIfInBounds m (ptrU x.1)) (m+1) (fun j=>if j=m then x else B j) ro rl:=by
 have hs:=h.size
 refine ⟨by simp [hs],fun i hi=>?_,?_,?_⟩
 ·by_cases e:i=m
  ·subst e
   simp [hs,show i < 18 by omega]
  ·rw [Array.getElem?_setIfInBounds_ne (fun h=>e h.symm),if_neg e]
   exact h.at_ i (by omega)
 ·rw [Array.getElem?_setIfInBounds_ne (by omega)]
  exact h.o
 ·rw [Array.getElem?_setIfInBounds_ne (by omega)]
  exact h.l
def nodeT (r:Nat) (A:Array Value) (ro rl:Nat) (B:Nat→Nat × Nat) (n:Nd):Nat→(Nat→Prop)→World→Prop
 | 0=>fun F w=>RL rl F w n.l
 | 1=>fun F w=>RO ro F w n.o
 | 2=>fun F w=>w.heap[r]?=some (.cells A 172 (0,0))∧∀ k,F k↔k=r
 | i+3=>fun F w=>RU (B i).1 (B i).2 F w (n.u i)
theorem z1m (r:Nat) (A:Array Value) (ro rl:Nat) (B:Nat→Nat × Nat) (n:Nd):∀ i,Part (nodeT r A ro rl B n i)
 | 0=>(rl_thing rl).part n.l
 | 1=>(ro_thing ro).part n.o
 | 2=>⟨fun h k hk=>by rw [(h.2 k).1 hk];exact lt_of_block h.1,fun h hk hS=>⟨hk.heap (hS r ((h.2 r).2 rfl)) h.1,h.2⟩⟩
 | i+3=>(ru_thing (B i).1 (B i).2).part (n.u i)
def RN (r:Nat) (G:Nat→Prop) (w:World) (n:Nd):Prop:=∃ (A:Array Value) (ro rl:Nat) (B:Nat→Nat × Nat),Tab A 16 B ro rl∧BundG 19 (nodeT r A ro rl B n) G w
theorem rn_thing (r:Nat):Thing (RN r) where
 lt:=by
  rintro G w n ⟨A,ro,rl,B,h1,h2⟩
  exact h2.lt (fun i _=>z1m r A ro rl B n i)
 keep:=by
  rintro G S w w' n ⟨A,ro,rl,B,h1,h2⟩ hk hS
  exact ⟨A,ro,rl,B,h1,h2.keep (fun i _=>z1m r A ro rl B n i) hk hS⟩
section
variable {r:Nat} {A:Array Value} {ro rl:Nat} {B:Nat→Nat × Nat} {n:Nd} {G:Nat→Prop} {w:World}
theorem rn_putO (h1:Tab A 16 B ro rl) {o:Od} {G':Nat→Prop} {W:World} (h:BundG 19 (swapP (nodeT r A ro rl B n) 1 (fun F W=>RO ro F W o)) G' W):RN r G' W (n.putO o) :=
 ⟨A,ro,rl,B,h1,h.same (fun i _ F W hF=>by match i,hF with | 0,hF=>exact hF | 1,hF=>exact hF | 2,hF=>exact hF | j+3,hF=>exact hF)⟩
end
end Go.Proofs.YtkefpbcifcjibaaGreat
namespace Go.Proofs.YtkefpbcifcjibaaGreat
open Go.RowKit Go.Maps
theorem lp_now (b:Nat) (G:Nat→Prop) (w:World) (y:Ly) (h:LB b G w y) (hl:y.L.length≤255∧∀ c ∈ y.L,c.length≤255) :
  Calls Tryz.prog 36 #[ptrL b] w fun e w'=>∃ v,e=.returned (.agg #[.int .i64 y.ep,v])∧OC w' w.heap.size v y.L∧Below w.heap.size w w':=by
 obtain ⟨ao,cap,mb,h1,h2,h3,h4,_⟩:=h.open
 obtain ⟨⟨c0,c1,c2,c3,c4,c5⟩,_⟩:=z29 h1
 have hb:=lt_of_block h1
 have HB:=Lh (z00 w (.cells #[.int .i64 0,.slice none 0 0] 24))
 have CC:=Lh (z14 y.ep ao cap y.L _ (h2.below HB.out) hl)
 clear h h1 h2 h3 hl c2 c3 c4 c5
 unfold ptrL
 go_enter Tryz.func36,Tryz.ntmps36
 go_wp2_with (go_at_call 46;refine CC.out.mono ?_;rintro e w1 ⟨v,rfl,hO,hb1⟩;obtain ⟨vo,vc,hv,_⟩:=hO.form;subst hv;have HO:=Lh hO;have HR:=Lh (z01 hb1 (heap_alloc_new w (.cells #[.int .i64 0,.slice none 0 0] 24)));obtain ⟨t0,t1,g0,g1⟩:=z05 HR.out;have HB1:=Lh (HB.out.trans (hb1.mono HB.out.size));have hsz:w.heap.size < w1.heap.size:=lt_of_block HR.out;clear hO hb1)
 have hK:=((Kept.refl (fun k=>w.heap.size+1≤k) w1).setCell (p:=⟨w.heap.size,0,none⟩) (by simp) (.int .i64 y.ep)).setCell (p:=⟨w.heap.size,1,none⟩) (by simp) (.slice vo y.L.length vc)
 exact proj_ret rfl (z27 (two_set0 HR.out (.int .i64 y.ep)) (.slice vo y.L.length vc)) rfl rfl ⟨_,rfl,(HO.out.keep hK (fun k h _=>by simpa using h)).lower (by simp),(HB1.out.setCell (by simp) _).setCell (by simp) _⟩
theorem lp_nil_now (w:World):Calls Tryz.prog 36 #[.pointer none] w fun e w'=>∃ ep v,e=.returned (.agg #[.int .i64 ep,v])∧OC w' w.heap.size v []∧Below w.heap.size w w':=by
 have HR:=heap_alloc_new w (.cells #[.int .i64 0,.slice none 0 0] 24)
 go_enter Tryz.func36,Tryz.ntmps36
 go_wp2_with fail
 exact proj_ret rfl (heap_alloc_new w (.cells #[.int .i64 0,.slice none 0 0] 24)) rfl rfl ⟨_,_,rfl,OC.nil _ _,z00 _ _⟩
theorem lp_nil_ask (w:World) (a:Ak):Calls Tryz.prog 195 #[.pointer none,askV a] w fun e w'=>e=.returned (ansV (anP 1 0 noL 0) none 0)∧Below w.heap.size w w':=by
 obtain ⟨k,un,ep,pg,sz,n,s,pe,L,ao,cap⟩:=a
 have HW:=Lh (z0z w #[.int .i64 k,.int .i64 un,.int .i64 ep,.int .i64 pg,.int .i64 sz,.int .i64 n,.string s,.int .i64 pe,.slice ao L.length cap] #[.int .i64 0,.int .i64 0,.string ⟨#[]⟩,.int .i64 0,.slice none 0 0,.int .i64 0,.int .i64 0,.int .i64 0] 34 49)
 have HB:=Lh (show Below w.heap.size w ((w.alloc (.cells #[.int .i64 k,.int .i64 un,.int .i64 ep,.int .i64 pg,.int .i64 sz,.int .i64 n,.string s,.int .i64 pe,.slice ao L.length cap] 34)).alloc (.cells #[.int .i64 0,.int .i64 0,.string ⟨#[]⟩,.int .i64 0,.slice none 0 0,.int .i64 0,.int .i64 0,.int .i64 0] 49)) from (z00 _ _).alloc (by simp) _)
 show Calls _ _ #[.pointer none,.agg #[.int .i64 k,.int .i64 un,.int .i64 ep,.int .i64 pg,.int .i64 sz,.int .i64 n,.string s,.int .i64 pe,.slice ao L.length cap]] w _
 go_enter Tryz.func195,Tryz.ntmps195
 go_wp2_with (go_at_call 196;refine (lcoded_any _ _).mono ?_;rintro e w2 ⟨rfl,hb2⟩;have HX:=Lh (z01 hb2 HW.out.2);obtain ⟨⟨x0,x1,x2,x3,x4,x5,x6,x7⟩,f0,f1,f2,f3,f4,f5,f6,f7⟩:=z03 HX.out;have hx:=lt_of_block HX.out;have HB2:=Lh (HB.out.trans (hb2.mono HB.out.size));clear hb2)
 exact z0k (x:=anP 1 0 noL 0) (ao:=none) (cap:=0) rfl (z22 (z19 (z1a (z0x (z1t (z1u (z23 (z24 HX.out _) _) _) _) _) _) _) _) rfl rfl ⟨rfl,((((((((HB2.out.setCell (by simp) _).setCell (by simp) _).setCell (by simp) _).setCell (by simp) _).setCell (by simp) _).setCell (by simp) _).setCell (by simp) _).setCell (by simp) _)⟩
theorem three_cells_at {w:World} {b:Nat} {v0 v1 v2:Value} {t:TypeId} (h:w.heap[b]?=some (.cells #[v0,v1,v2] t (0,0))):w.cell? ⟨b,0,none⟩=some v0∧w.cell? ⟨b,1,none⟩=some v1∧w.cell? ⟨b,2,none⟩=some v2:=⟨z02 h 0,z02 h 1,z02 h 2⟩
theorem z1x {w:World} {b:Nat} {x0 x1 x2 x3 x4 x5 x6 x7:Value} {t:TypeId} (h:w.heap[b]?=some (.cells #[x0,x1,x2,x3,x4,x5,x6,x7] t (0,0))) (v0 v1 v2 v3 v4 v5 v6 v7:Value) :
  ((((((((w.setCell ⟨b,0,none⟩ v0).setCell ⟨b,1,none⟩ v1).setCell ⟨b,2,none⟩ v2).setCell ⟨b,3,none⟩ v3).setCell ⟨b,4,none⟩ v4).setCell ⟨b,5,none⟩ v5).setCell ⟨b,6,none⟩ v6).setCell ⟨b,7,none⟩ v7).heap[b]?=some (.cells #[v0,v1,v2,v3,v4,v5,v6,v7] t (0,0)) :=
 z22 (z19 (z1a (z0x (z1t (z1u (z23 (z24 h v0) v1) v2) v3) v4) v5) v6) v7
theorem z1n (W:World) (b:Nat) (v0 v1 v2 v3 v4 v5 v6 v7:Value):Kept (fun k=>k≠b) W ((((((((W.setCell ⟨b,0,none⟩ v0).setCell ⟨b,1,none⟩ v1).setCell ⟨b,2,none⟩ v2).setCell ⟨b,3,none⟩ v3).setCell ⟨b,4,none⟩ v4).setCell ⟨b,5,none⟩ v5).setCell ⟨b,6,none⟩ v6).setCell ⟨b,7,none⟩ v7) :=
 ((((((((Kept.refl _ W).setCell (p:=⟨b,0,none⟩) (fun h=>h rfl) _).setCell (p:=⟨b,1,none⟩) (fun h=>h rfl) _).setCell (p:=⟨b,2,none⟩) (fun h=>h rfl) _).setCell (p:=⟨b,3,none⟩) (fun h=>h rfl) _).setCell (p:=⟨b,4,none⟩) (fun h=>h rfl) _).setCell (p:=⟨b,5,none⟩) (fun h=>h rfl) _).setCell (p:=⟨b,6,none⟩) (fun h=>h rfl) _).setCell (p:=⟨b,7,none⟩) (fun h=>h rfl) _
def zeroE:Array Value:=#[.int .i64 0,.int .i64 0,.string ⟨#[]⟩,.int .i64 0,.slice none 0 0,.int .i64 0,.int .i64 0,.int .i64 0]
theorem lp_mark_no (b:Nat) (G:Nat→Prop) (w:World) (y:Ly) (h:LB b G w y) (p s n:Int) (hg:goodI p s n=false) :
  Calls Tryz.prog 199 #[ptrL b,.agg #[.int .i64 p,.int .i64 s,.int .i64 n]] w fun e w'=>e=.returned (ansV (anP 1 0 noL 0) none 0)∧Leaves (LB b) G w w' y:=by
 have HS:=Lh (z13 (z0l b) h 127 49 #[.int .i64 p,.int .i64 s,.int .i64 n] zeroE)
 unfold zeroE at HS
 have C1:=Lh (fun w=>lgood_any p s n w)
 rw [hg] at C1
 have hbw:=h.small
 clear h hg
 unfold ptrL
 go_enter Tryz.func199,Tryz.ntmps199
 go_wp2_with (first
  | (go_at_call 201;refine (C1.out _).mono ?_;rintro e w1 ⟨rfl,hb1⟩;have HS1:=Lh (HS.out.below (z0l b) hb1);clear hb1)
  | (go_at_call 196;refine (lcoded_any _ _).mono ?_;rintro e w2 ⟨rfl,hb2⟩;have HS2:=Lh (HS1.out.below (z0l b) hb2);obtain ⟨⟨x0,x1,x2,x3,x4,x5,x6,x7⟩,f0,f1,f2,f3,f4,f5,f6,f7⟩:=z03 HS2.out.ans;obtain ⟨l1,l2⟩:=HS2.out.small;clear hb2))
 exact z0k (x:=anP 1 0 noL 0) (ao:=none) (cap:=0) rfl (z1x HS2.out.ans _ _ _ _ _ _ _ _) rfl rfl ⟨rfl,HS2.out.fin (z0l b) (z1n _ _ _ _ _ _ _ _ _ _)⟩
theorem lp_mark_old (b:Nat) (G:Nat→Prop) (w:World) (y:Ly) (h:LB b G w y) (p s n:Int) (hg:goodI p s n=true) (hn:¬ y.n < n) :
  Calls Tryz.prog 199 #[ptrL b,.agg #[.int .i64 p,.int .i64 s,.int .i64 n]] w fun e w'=>e=.returned (ansV (anM y.n y.mark y.size) none 0)∧Leaves (LB b) G w w' y:=by
 have HS:=Lh (z13 (z0l b) h 127 49 #[.int .i64 p,.int .i64 s,.int .i64 n] zeroE)
 unfold zeroE at HS
 have C1:=Lh (fun w=>lgood_any p s n w)
 rw [hg] at C1
 have C2:=Lh (fun w=>ltold_any y.mark y.size y.n w)
 have hbw:=h.small
 have hd:decide (y.n < n)=false:=decide_eq_false hn
 clear h hg hn
 unfold ptrL
 go_enter Tryz.func199,Tryz.ntmps199
 go_wp2_with (go_at_call 201;refine (C1.out _).mono ?_;rintro e w1 ⟨rfl,hb1⟩;have HS1:=Lh (HS.out.below (z0l b) hb1);obtain ⟨H,hH,_⟩:=HS1.out.use;obtain ⟨ao,cap,mb,h1,_⟩:=hH.open;obtain ⟨⟨c0,c1,c2,c3,c4,c5⟩,_⟩:=z29 h1;obtain ⟨i0,i1,i2⟩:=three_cells_at HS1.out.ask;have hb1':=lt_of_block h1;obtain ⟨l1,l2⟩:=HS1.out.small;clear hb1 hH h1)
 go_quiet (fail)
 go_wp2_with (go_at_call 197;refine (C2.out _).mono ?_;rintro e w2 ⟨rfl,hb2⟩;have HS2:=Lh ((HS1.out.drewN (z0l b) _).below (z0l b) hb2);obtain ⟨⟨x0,x1,x2,x3,x4,x5,x6,x7⟩,f0,f1,f2,f3,f4,f5,f6,f7⟩:=z03 HS2.out.ans;obtain ⟨m1,m2⟩:=HS2.out.small;clear hb2)
 exact z0k (x:=anM y.n y.mark y.size) (ao:=none) (cap:=0) rfl (z1x HS2.out.ans _ _ _ _ _ _ _ _) rfl rfl ⟨rfl,HS2.out.fin (z0l b) (z1n _ _ _ _ _ _ _ _ _ _)⟩
theorem lp_mark_new (b:Nat) (G:Nat→Prop) (w:World) (y:Ly) (h:LB b G w y) (p s n:Int) (hg:goodI p s n=true) (hn:y.n < n) :
  Calls Tryz.prog 199 #[ptrL b,.agg #[.int .i64 p,.int .i64 s,.int .i64 n]] w fun e w'=>e=.returned (ansV (anM n p s) none 0)∧Leaves (LB b) G w w' ⟨y.ep,y.L,y.used,p,s,n⟩:=by
 have HS:=Lh (z13 (z0l b) h 127 49 #[.int .i64 p,.int .i64 s,.int .i64 n] zeroE)
 unfold zeroE at HS
 have C1:=Lh (fun w=>lgood_any p s n w)
 rw [hg] at C1
 have C2:=Lh (fun w=>ltold_any p s n w)
 have hbw:=h.small
 have hd:decide (y.n < n)=true:=decide_eq_true hn
 clear h hg hn
 unfold ptrL
 go_enter Tryz.func199,Tryz.ntmps199
 go_wp2_with (go_at_call 201;refine (C1.out _).mono ?_;rintro e w1 ⟨rfl,hb1⟩;have HS1:=Lh (HS.out.below (z0l b) hb1);obtain ⟨H,hH,_⟩:=HS1.out.use;obtain ⟨ao,cap,mb,h1,_⟩:=hH.open;obtain ⟨⟨c0,c1,c2,c3,c4,c5⟩,g0,g1,g2,g3,g4,g5⟩:=z29 h1;obtain ⟨i0,i1,i2⟩:=three_cells_at HS1.out.ask;have hb1':=lt_of_block h1;obtain ⟨l1,l2⟩:=HS1.out.small;clear hb1 hH h1)
 go_quiet (fail)
 go_wp2_with (go_at_call 197;refine (C2.out _).mono ?_;rintro e w2 ⟨rfl,hb2⟩;have HSQ:=HS1.out.drewN (z0l b) nq;obtain ⟨H2,hH2,_,hU⟩:=HSQ.use2;have HS2:=Lh ((hU (LB b) _ _ (hH2.mark p s n)).below (z0l b) hb2);obtain ⟨⟨x0,x1,x2,x3,x4,x5,x6,x7⟩,f0,f1,f2,f3,f4,f5,f6,f7⟩:=z03 HS2.out.ans;obtain ⟨m1,m2⟩:=HS2.out.small;clear hb2 hH2 hU HSQ)
 exact z0k (x:=anM n p s) (ao:=none) (cap:=0) rfl (z1x HS2.out.ans _ _ _ _ _ _ _ _) rfl rfl ⟨rfl,HS2.out.fin (z0l b) (z1n _ _ _ _ _ _ _ _ _ _)⟩
end Go.Proofs.YtkefpbcifcjibaaGreat
