/- Joined texts. -/
import Derived.StillTailTactics
import Derived.Test.YtkefpbcifcjibaaGreatG18a
import Derived.Test.YtkefpbcifcjibaaGreatG09a
import Derived.Test.YtkefpbcifcjibaaGreatG06a
import Derived.Test.YtkefpbcifcjibaaGreatG04a
import Derived.Test.YtkefpbcifcjibaaGreatG08a
import Derived.Test.YtkefpbcifcjibaaGreatG17a
import Derived.Test.YtkefpbcifcjibaaGreatG15a
import Derived.Lib.MinMax
import Derived.Maps.OwnOps
import Derived.Maps.OwnSet
import Derived.Test.YtkefpbcifcjibaaGreatH00
set_option linter.unusedVariables false
set_option maxRecDepth 20000
set_option maxHeartbeats 16000000
namespace Go.Proofs.YtkefpbcifcjibaaGreat
open Go.RowKit
theorem MkN.all {w0 W:World} {r:Nat} {N:Nd} (h:MkN w0 r N 16 W) (hb:Below w0.heap.size w0 W) {W2:World} (h2:Below W.heap.size W W2):∃ (A:Array Value) (ro rl:Nat) (B:Nat→Nat × Nat) (G:Nat→Prop),Tab A 16 B ro rl∧W.heap[r]?=some (.cells A 172 (0,0))∧BundG 19 (nodeT r A ro rl B N) G W2∧(∀ k,G k→w0.heap.size≤k):=by
 obtain ⟨A,ro,rl,B,G,hT,hB,hG,hb0⟩:=h
 obtain ⟨F,h3,h4⟩:=hB.look (i:=2) (by omega)
 exact ⟨A,ro,rl,B,G,hT,h3.1,hB.keep (fun i _=>z1m r A ro rl B N i) (Kept.ofBelow h2 (fun _=>True)) (fun _ _=>trivial),hG⟩
theorem mkn_small {w0 W:World} {r:Nat} {N:Nd} {i:Nat} (h:MkN w0 r N i W):(∃ A:Array Value,A.size=18∧W.heap[r]?=some (.cells A 172 (0,0)))∧Below w0.heap.size w0 W:=by
 obtain ⟨A,ro,rl,B,G,hT,hB,hG,hb0⟩:=h
 obtain ⟨F,h3,h4⟩:=hB.look (i:=2) (by omega)
 exact ⟨⟨A,hT.size,h3.1⟩,hb0⟩
theorem rn_new_yes (ep:Int) (ao:Option Addr) (cap:Nat) (L:List (List Int)) (room:Int) (w:World) (h:CL w ao L) (hl:fewL L) (hg:goodB ep L=true) (hr:1≤room∧room≤4096) (he:i64w ep) :
  Calls Tryz.prog 59 #[.agg #[.int .i64 ep,.slice ao L.length cap],.int .i64 room] w fun e w'=>∃ (r:Nat) (G:Nat→Prop),e=.returned (.tuple #[.pointer (some ⟨r,0,none⟩),.int .i64 0])∧RN r G w' (newN ep L room)∧(∀ k,G k→w.heap.size≤k)∧Below w.heap.size w w':=by
 have CN:=Lh (rl_new_yes ep ao cap L _ (h.below (z00 w (.cells #[.int .i64 ep,.slice ao L.length cap] 24))) hl hg)
 have B0:=Lh (z00 w (.cells #[.int .i64 ep,.slice ao L.length cap] 24))
 have P0:=Lh (heap_alloc_new w (.cells #[.int .i64 ep,.slice ao L.length cap] 24))
 have CO:=Lh ro_new
 have CU:=Lh (fun w=>ru_new_yes room w hr)
 have HE:=Lh he
 unfold ptrL at CN
 unfold ptrO at CO
 unfold ptrU at CU
 have HGE:=Lh (show newO.epoch < (startA ep).epoch from by have:=(goodB_iff.1 hg).1;show (-1:Int) < ep;omega)
 clear h hl hg hr he
 go_enter Tryz.func59,Tryz.ntmps59
 go_wp2_with (first
  | (go_at_call 94;refine CN.out.mono ?_;rintro e w1 ⟨rl,G1,rfl,hl1,hg1,hb1⟩;have L1:=Lh hl1;have K1:=Lh hg1;have B1:=Lh hb1;clear hb1 hl1 hg1)
  | (go_at_call 95;refine (CO.out _).mono ?_;rintro e w2 ⟨ro,G2,rfl,hl2,hg2,hb2⟩;have L2:=Lh hl2;have K2:=Lh hg2;have B2:=Lh hb2;clear hb2 hl2 hg2))
 have M0:=Lh (mkn_start (w0:=w.alloc (.cells #[.int .i64 ep,.slice ao L.length cap] 24)) (N:=⟨fun _=>newU room,newO,newL ep L⟩) (A:=#[.pointer none,.pointer none,.pointer none,.pointer none,.pointer none,.pointer none,.pointer none,.pointer none,.pointer none,.pointer none,.pointer none,.pointer none,.pointer none,.pointer none,.pointer none,.pointer none,.pointer (some ⟨ro,0,none⟩),.pointer (some ⟨rl,0,none⟩)]) (B:=fun _=>(0,0)) (ro:=ro) (rl:=rl) L1.out K1.out B1.out L2.out K2.out B2.out ⟨rfl,fun i hi=>absurd hi (Nat.not_lt_zero i),rfl,rfl⟩)
 clear CN CO L1 K1 B1 L2 K2 B2
 go_loopw [9] (fun j wr=>∃ i:Nat,j=.int .i64 i∧i≤16∧Hid (MkN (w.alloc (.cells #[.int .i64 ep,.slice ao L.length cap] 24)) w2.heap.size ⟨fun _=>newU room,newO,newL ep L⟩ i wr)) (fun j _=>16 - (intOf j).toNat)
 case atStart=>exact ⟨0,rfl,by omega,M0⟩
 case round =>
  clear M0
  obtain ⟨i,rfl,hi,HM⟩:=hrel
  by_cases hlt:i < 16
  ·have i0:(i:Int) < 16:=by omega
   have i1:0≤(i:Int):=by omega
   go_wp2_with (go_at_call 96;refine (CU.out _).mono ?_;rintro e w4 ⟨r4,q4,G4,rfl,h4,g4,b4⟩;have M4:=Lh (HM.out.step hlt b4 h4 g4);obtain ⟨⟨A,hA,hh⟩,_⟩:=mkn_small HM.out;have hh4:=z01 b4 hh;have lr:=lt_of_block hh4;have ch:w4.cell? ⟨w2.heap.size,i,none⟩=some A[i]:=(z02 hh4 i).trans (by simp [hA,show i < 18 by omega]);have fh:=z0a hh4 i;clear h4 g4 b4 hh hh4)
   go_roundw
   case rel=>exact ⟨i+1,by go_num,by omega,M4⟩
   case measure=>simp [intOf];omega
  ·obtain rfl:i=16:=by omega
   obtain ⟨_,hb0⟩:=mkn_small HM.out
   obtain ⟨A,ro2,rl2,B,G,hT,hh,hB,hG⟩:=HM.out.all hb0 (W2:=wr.drew) ((Below.refl _ _).drew)
   obtain ⟨F,hF,_,hbu⟩:=hB.use (fun i _=>z1m w2.heap.size A ro2 rl2 B _ i) (i:=1) (by omega)
   have hF':RO ro2 F wr.drew newO:=hF
   have CD:=Lh ((odo_start ro2 F _ newO (startA ep) hF' rfl HGE.out ⟨show (0:Int)≤0 by decide,show (0:Int)≤16384 by decide⟩ HE.out).mono (fun e w' h=>(⟨_,h.1,hbu (RO ro2) (RN w2.heap.size) w' _ (newN ep L room) (fun G' W h=>rn_putO hT h) h.2⟩:∃ v,e=.returned v∧Leaves (RN w2.heap.size) G wr.drew w' (newN ep L room))))
   have co:wr.cell? ⟨w2.heap.size,16,none⟩=some (.pointer (some ⟨ro2,0,none⟩)):=(z02 hh 16).trans hT.o
   have hp:=z01 hb0 P0.out
   have cp:wr.cell? ⟨w.heap.size,0,none⟩=some (.int .i64 ep):=z02 hp 0
   have l1:=lt_of_block hh
   have l2:=lt_of_block hp
   have HB:=Lh (B0.out.trans (hb0.mono B0.out.size))
   have HG:=Lh hG
   clear hT hB hG hh hF hF' hbu hp hb0
   go_wp2_with fail
   go_still_tail 7,(by kernel_rfl)
   change wpList _ _ _ _ _ wr.drew
   go_wp2_with fail
   refine CD.out.mono ?_
   rintro e w5 ⟨v,rfl,G5,r1,r2,r3⟩
   go_wp2_with fail
   go_ret2
   have z:w.heap.size≤(w.alloc (.cells #[.int .i64 ep,.slice ao L.length cap] 24)).heap.size:=by simp
   have zr:=HB.out.size
   refine ⟨w2.heap.size,G5,rfl,r1,fun k hk=>?_,HB.out.drew.trans (r2.toBelow zr (fun k hk hg=>?_))⟩
   ·rcases r3 k hk with h | h
    ·exact Nat.le_trans z (HG.out k h)
    ·exact Nat.le_trans zr h
   ·have:=HG.out k hg
    omega
theorem do_down (b q:Nat) (G:Nat→Prop) (w:World) (u:Us) (a:Ak) (h:UM b q G w u) (hd:u.down=true) :
  Calls Tryz.prog 178 #[ptrV b,askV a] w fun e w'=>e=.returned (anV 45 0 noS 0)∧Leaves (UM b q) G w w' u:=by
 obtain ⟨k,un,ep,pg,sz,n,s,pe,L,ao,cap⟩:=a
 obtain ⟨p,ue,dn⟩:=u
 simp only at *
 have CC:=Lh z1o
 have HS:=Lh (z0e (z08 b q) h #[.int .i64 k,.int .i64 un,.int .i64 ep,.int .i64 pg,.int .i64 sz,.int .i64 n,.string s,.int .i64 pe,.slice ao L.length cap])
 unfold zeroAn at HS
 have hbw:=h.small
 subst hd
 obtain ⟨c0,c1,c2,_⟩:=z09 h.cells
 clear h
 show Calls _ _ #[.pointer (some ⟨b,0,none⟩),.agg #[.int .i64 k,.int .i64 un,.int .i64 ep,.int .i64 pg,.int .i64 sz,.int .i64 n,.string s,.int .i64 pe,.slice ao L.length cap]] w _
 go_enter Tryz.func178,Tryz.ntmps178
 go_wp2_with (go_at_call 179;refine (CC.out _ _).mono ?_;rintro e w3 ⟨rfl,hb3⟩;have HT3:=Lh (HS.out.below (z08 b q) hb3);clear hb3;obtain ⟨nl1,nl2⟩:=HT3.out.small;obtain ⟨⟨ny0,ny1,ny2,ny3,ny4,ny5,ny6,ny7⟩,nfy0,nfy1,nfy2,nfy3,nfy4,nfy5,nfy6,nfy7⟩:=z03 HT3.out.ans)
 exact z0k (x:=anP (45) (0) noS 0) (ao:=none) (cap:=0) rfl (HT3.out.fin (z08 b q)).1 rfl rfl ⟨rfl,(HT3.out.fin (z08 b q)).2⟩
def noThing (G:Nat→Prop) (w:World) (_:Unit):Prop:=∀ k,¬ G k
theorem noThing_thing:Thing noThing where
 lt:=fun h k hk=>absurd hk (h k)
 keep:=fun h _ _=>h
theorem noThing_below {w w':World} (h:Leaves noThing (fun _=>False) w w' ()):Below w.heap.size w w':=by
 obtain ⟨_,_,hk,_⟩:=h
 exact hk.toBelow (Nat.le_refl _) (fun k _ h=>h)
theorem do_nil (w:World) (a:Ak) (h:AkIn w a) :
  Calls Tryz.prog 178 #[.pointer none,askV a] w fun e w'=>e=.returned (anV 1 0 noS 0)∧Below w.heap.size w w':=by
 obtain ⟨k,un,ep,pg,sz,n,s,pe,L,ao,cap⟩:=a
 have CC:=Lh z1o
 have HS:=Lh (z0e noThing_thing (T:=noThing) (G:=fun _=>False) (w:=w) (s:=()) (fun _ h=>h) #[.int .i64 k,.int .i64 un,.int .i64 ep,.int .i64 pg,.int .i64 sz,.int .i64 n,.string s,.int .i64 pe,.slice ao L.length cap])
 unfold zeroAn at HS
 clear h
 show Calls _ _ #[.pointer none,.agg #[.int .i64 k,.int .i64 un,.int .i64 ep,.int .i64 pg,.int .i64 sz,.int .i64 n,.string s,.int .i64 pe,.slice ao L.length cap]] w _
 go_enter Tryz.func178,Tryz.ntmps178
 go_wp2_with (go_at_call 179;refine (CC.out _ _).mono ?_;rintro e w3 ⟨rfl,hb3⟩;have HT3:=Lh (HS.out.below noThing_thing hb3);clear hb3;obtain ⟨nl1,nl2⟩:=HT3.out.small;obtain ⟨⟨ny0,ny1,ny2,ny3,ny4,ny5,ny6,ny7⟩,nfy0,nfy1,nfy2,nfy3,nfy4,nfy5,nfy6,nfy7⟩:=z03 HT3.out.ans)
 exact z0k (x:=anP 1 0 noS 0) (ao:=none) (cap:=0) rfl (HT3.out.fin noThing_thing).1 rfl rfl ⟨rfl,noThing_below (HT3.out.fin noThing_thing).2⟩
theorem do_up (b q:Nat) (G:Nat→Prop) (w:World) (u u':Us) (a:Ak) (c m:Int) (z:ByteArray) (h:UM b q G w u) (hd:u.down=false)
  (hf:∀ (H:Nat→Prop) (w:World),UM b q H w u→Calls Tryz.prog 180 #[ptrV b,askV a] w fun e w'=>e=.returned (anV c m z 0)∧Leaves (UM b q) H w w' u') :
  Calls Tryz.prog 178 #[ptrV b,askV a] w fun e w'=>e=.returned (anV c m z u'.epoch)∧Leaves (UM b q) G w w' u':=by
 obtain ⟨k,un,ep,pg,sz,n,s,pe,L,ao,cap⟩:=a
 obtain ⟨p,ue,dn⟩:=u
 simp only at *
 have CC:=Lh z1o
 have HS:=Lh (z0e (z08 b q) h #[.int .i64 k,.int .i64 un,.int .i64 ep,.int .i64 pg,.int .i64 sz,.int .i64 n,.string s,.int .i64 pe,.slice ao L.length cap])
 unfold zeroAn at HS
 have hbw:=h.small
 subst hd
 have HF:=Lh (show ∀ (H:Nat→Prop) (w:World),UM b q H w ⟨p,ue,false⟩→Calls Tryz.prog 180 #[.pointer (some ⟨b,0,none⟩),.agg #[.int .i64 k,.int .i64 un,.int .i64 ep,.int .i64 pg,.int .i64 sz,.int .i64 n,.string s,.int .i64 pe,.slice ao L.length cap]] w fun e w'=>e=.returned (.agg #[.int .i64 c,.int .i64 m,.string z,.int .i64 0,.slice none 0 0,.int .i64 0,.int .i64 0,.int .i64 0])∧Leaves (UM b q) H w w' u' from hf)
 clear hf
 obtain ⟨c0,c1,c2,_⟩:=z09 h.cells
 obtain ⟨H2,hH2,hU2⟩:=HS.out.use
 have HU2:=Lh hU2
 have HF2:=Lh (HF.out H2 _ hH2)
 clear h hU2 hH2
 show Calls _ _ #[.pointer (some ⟨b,0,none⟩),.agg #[.int .i64 k,.int .i64 un,.int .i64 ep,.int .i64 pg,.int .i64 sz,.int .i64 n,.string s,.int .i64 pe,.slice ao L.length cap]] w _
 go_enter Tryz.func178,Tryz.ntmps178
 go_wp2_with fail
 refine HF2.out.mono ?_
 rintro e w3 ⟨rfl,hl⟩
 have HT3:=Lh (HU2.out _ _ hl)
 clear hl c0 c1 c2
 obtain ⟨H,hH,_⟩:=HT3.out.use
 obtain ⟨c0,c1,c2,_⟩:=z09 hH.cells
 have hb:=hH.small
 clear hH
 obtain ⟨nl1,nl2⟩:=HT3.out.small
 obtain ⟨⟨ny0,ny1,ny2,ny3,ny4,ny5,ny6,ny7⟩,nfy0,nfy1,nfy2,nfy3,nfy4,nfy5,nfy6,nfy7⟩:=z03 HT3.out.ans
 go_wp2_with fail
 exact z0k (x:=anP c m z u'.epoch) (ao:=none) (cap:=0) rfl (z01 ((Below.refl _ _).alloc (Nat.le_refl _) _) (HT3.out.fin (z08 b q)).1) rfl rfl ⟨rfl,(HT3.out.fin (z08 b q)).2.below (z08 b q) ((Below.refl _ _).alloc (Nat.le_refl _) _)⟩
theorem un_ask (b q:Nat) (G:Nat→Prop) (w:World) (u:Us) (a:Ak) (h:UM b q G w u) (ha:AkIn w a) (hs:a.data.size≤1000000) :
  Calls Tryz.prog 178 #[ptrV b,askV a] w fun e w'=>e=.returned (anV (u.ans a).code (u.ans a).n (u.ans a).data (u.ans a).epoch)∧Leaves (UM b q) G w w' (u.done a):=by
 by_cases hd:u.down=true
 ·rw [show u.ans a=anP 45 0 noS 0 from if_pos hd,show u.done a=u from if_pos (.inl hd)]
  exact do_down b q G w u a h hd
 have hd':u.down=false:=Bool.eq_false_iff.2 hd
 by_cases hk:a.kind < 1∨5 < a.kind
 ·rw [show u.ans a=anP 1 0 noS u.epoch from by unfold Us.ans;rw [if_neg hd,if_pos hk],show u.done a=u from if_pos (.inr (.inl hk))]
  exact do_up b q G w u u a 1 0 noS h hd' (fun H w h=>answer_none b q H w u a h hk)
 have hk5:a.kind=1∨a.kind=2∨a.kind=3∨a.kind=4∨a.kind=5:=by omega
 by_cases he:a.epoch < u.epoch
 ·rw [show u.ans a=anP 40 0 noS u.epoch from by unfold Us.ans;rw [if_neg hd,if_neg hk,if_pos he],show u.done a=u from if_pos (.inr (.inr he))]
  refine do_up b q G w u u a 40 0 noS h hd' (fun H w h=>?_)
  rcases hk5 with e | e | e | e | e
  ·exact z2d b q H w u a _ h (by rw [e];exact deed_1) he
  ·exact z2d b q H w u a _ h (by rw [e];exact deed_2) he
  ·exact z2d b q H w u a _ h (by rw [e];exact deed_3) he
  ·exact z2d b q H w u a _ h (by rw [e];exact deed_4) he
  ·exact z2d b q H w u a _ h (by rw [e];exact deed_5) he
 have hx:¬ (u.down=true∨(a.kind < 1∨5 < a.kind)∨a.epoch < u.epoch):=fun h=>h.elim hd (fun h=>h.elim hk he)
 rcases hk5 with e | e | e | e | e
 ·rw [show u.ans a=anP (u.p.writeE a.page a.data) 0 noS u.epoch from by unfold Us.ans;rw [if_neg hd,if_neg hk,if_neg he,if_neg (by omega),if_neg (by omega)];unfold Us.pageE;rw [if_pos e],show u.done a=⟨u.p.write a.page a.data,u.epoch,u.down⟩ from by unfold Us.done;rw [if_neg hx,if_neg (by omega)];unfold Us.pageP;rw [if_pos e]]
  exact do_up b q G w u _ a _ 0 noS h hd' (fun H w h=>answer_write b q H w u _ a e _ _ _ h he (fun H w h=>un_write b q H w u a h hs))
 ·rw [show u.ans a=anP (u.p.fillE a.page) 0 noS u.epoch from by unfold Us.ans;rw [if_neg hd,if_neg hk,if_neg he,if_neg (by omega),if_neg (by omega)];unfold Us.pageE;rw [if_neg (by omega),if_pos e],show u.done a=⟨u.p.fill a.page,u.epoch,u.down⟩ from by unfold Us.done;rw [if_neg hx,if_neg (by omega)];unfold Us.pageP;rw [if_neg (by omega),if_pos e]]
  exact do_up b q G w u _ a _ 0 noS h hd' (fun H w h=>answer_fill b q H w u _ a e _ _ _ h he (fun H w h=>un_fill b q H w u a h))
 ·rw [show u.ans a=anP (u.p.readE a.page) 0 (u.p.readS a.page) u.epoch from by unfold Us.ans;rw [if_neg hd,if_neg hk,if_neg he,if_neg (by omega),if_pos e];unfold Us.pageE;rw [if_neg (by omega),if_neg (by omega),if_pos e],show u.done a=⟨u.p,u.epoch,u.down⟩ from by unfold Us.done;rw [if_neg hx,if_neg (by omega)];unfold Us.pageP;rw [if_neg (by omega),if_neg (by omega),if_pos e]]
  exact do_up b q G w u _ a _ 0 _ h hd' (fun H w h=>answer_read b q H w u _ a e _ _ _ h he (fun H w h=>un_read b q H w u a h))
 ·rw [show u.ans a=anP (Ps.trimE a.page) 0 noS u.epoch from by unfold Us.ans;rw [if_neg hd,if_neg hk,if_neg he,if_neg (by omega),if_neg (by omega)];unfold Us.pageE;rw [if_neg (by omega),if_neg (by omega),if_neg (by omega)],show u.done a=⟨u.p.trim a.page,u.epoch,u.down⟩ from by unfold Us.done;rw [if_neg hx,if_neg (by omega)];unfold Us.pageP;rw [if_neg (by omega),if_neg (by omega),if_neg (by omega)]]
  exact do_up b q G w u _ a _ 0 noS h hd' (fun H w h=>answer_trim b q H w u _ a e _ _ _ h he (fun H w h=>un_trim b q H w u a h ha.1.page))
 ·rw [show u.ans a=anP 0 u.p.tail noS a.epoch from by unfold Us.ans;rw [if_neg hd,if_neg hk,if_neg he,if_pos e],show u.done a=⟨u.p,a.epoch,u.down⟩ from by unfold Us.done;rw [if_neg hx,if_pos e]]
  exact do_up b q G w u _ a 0 _ noS h hd' (fun H w h=>answer_seal b q H w u _ a e _ _ _ h he (fun H w h=>un_seal b q H w u a h ha.1.epoch))
theorem UM.page {b q:Nat} {G:Nat→Prop} {w:World} {u:Us} (h:UM b q G w u):u.p.Ok∧∃ F:Nat→Prop,PGm F w q u.p:=by
 obtain ⟨⟨k1,_⟩,_,_,F,k5,_⟩:=h
 exact ⟨k1,F,k5⟩
theorem unitSays:UnitSays UM where
 thing:=z08
 ok:=fun h=>h.1
 new_yes:=fun room w hr=>un_new_yes room w hr
 new_no:=fun room w hr hw=>un_new_no room w hr hw
 ask:=fun b pb G w u a h ha hs=>un_ask b pb G w u a h ha hs
 crash:=fun b pb G w u h=>un_crash b pb G w u h
 tail:=fun b pb G w u h=>by obtain ⟨hok,F,hF⟩:=h.page;exact pageSays.tail F w pb u.p hF hok
 nil_ask:=fun a w ha _=>do_nil w a ha
 nil_crash:=fun w=>z25 (un_crash_nil w)
def akN (kind unit epoch page:Int) (s:ByteArray):Ak:=⟨kind,unit,epoch,page,0,0,s,0,[],none,0⟩
theorem akN_ok {k u e p:Int} {s:ByteArray} (hk:i64w k) (hu:i64w u) (he:i64w e) (hp:i64w p) (hs:s.size≤1000000):AkOk (akN k u e p s) :=
 ⟨hk,hu,he,hp,WalkArith.wf_i64 (n:=0) (by decide),WalkArith.wf_i64 (n:=0) (by decide),Nat.le_trans hs (by unfold maxLen;omega),WalkArith.wf_i64 (n:=0) (by decide),Nat.zero_le _,(fun c hc=>by cases hc),fun _=>rfl,Nat.le_refl _⟩
section
variable {UG:Nat→Nat→(Nat→Prop)→World→Us→Prop} {OG:Nat→(Nat→Prop)→World→Od→Prop} {LG:Nat→(Nat→Prop)→World→Ly→Prop} {NG:Nat→(Nat→Prop)→World→Nd→Prop} {X:Nat→Prop} {w:World} {b:Nat} {n:Nd}
theorem n_new (HS:RpcSays UG OG LG NG) {ep room:Int} {ao:Option Addr} {cap:Nat} {L:List (List Int)} (h:CL w ao L) (hl:fewL L) (hg:goodB ep L=true) (hr:1≤room∧room≤4096) :
  Calls Tryz.prog 58 #[.agg #[.int .i64 ep,.slice ao L.length cap],.int .i64 room] w fun e w'=>∃ b,e=.returned (.tuple #[ptrN b,.int .i64 0])∧Solo (NG b) (fun k=>k < w.heap.size) w' (newN ep L room)∧Below w.heap.size w w':=by
 refine (HS.new_yes ep ao cap L room w h hl hg hr).mono ?_
 rintro e w' ⟨b,G,he,h1,h2,h3⟩
 exact ⟨b,he,⟨fun k hk=>Nat.lt_of_lt_of_le hk h3.size,G,h1,fun k hk hg=>by have:=h2 k hg;omega⟩,h3⟩
end
def ptrH (b:Nat):Value:=.pointer (some ⟨b,0,none⟩)
def heardT (x:An) (c:Bool) (ao:Option Addr) (cap:Nat):Value:=.tuple #[ansV x ao cap,.bool c]
structure HandSays (UG:Nat→Nat→(Nat→Prop)→World→Us→Prop) (OG:Nat→(Nat→Prop)→World→Od→Prop) (LG:Nat→(Nat→Prop)→World→Ly→Prop) (NG:Nat→(Nat→Prop)→World→Nd→Prop) (HG:Nat→Nat→(Nat→Prop)→World→Hd→Prop):Prop where
 rpc:RpcSays UG OG LG NG
 thing:∀ b nb,Thing (HG b nb)
 nodes_in:∀ {b nb:Nat} {G:Nat→Prop} {w:World} {h:Hd},HG b nb G w h→∃ F:Nat→Prop,NG nb F w h.n∧∀ k,F k→G k
 within:∀ {b nb:Nat} {G:Nat→Prop} {w:World} {h:Hd},HG b nb G w h→∃ F:Nat→Prop,NG nb F w h.n∧(∀ k,F k→G k)∧∀ W n',Leaves (NG nb) F w W n'→Leaves (HG b nb) G w W ⟨n',h.held⟩
 few:∀ {b nb:Nat} {G:Nat→Prop} {w:World} {h:Hd},HG b nb G w h→h.held.length≤64
 new:∀ (nb:Nat) (F:Nat→Prop) (w:World) (n:Nd),NG nb F w n→Calls Tryz.prog 60 #[ptrN nb] w fun e w'=>∃ b:Nat,e=.returned (ptrH b)∧Leaves (HG b nb) F w w' ⟨n,[]⟩∧Below w.heap.size w w'
 new_no:∀ (w:World),Calls Tryz.prog 60 #[.pointer none] w fun e w'=>∃ p:Option Addr,e=.returned (.pointer p)∧Below w.heap.size w w'∧∀ w2,Below w'.heap.size w' w2→
  (∀ (a:Ak) (fate:Int),AkIn w2 a→i64w fate→Calls Tryz.prog 41 #[.pointer p,askV a,.int .i64 fate] w2 fun e w3=>e=.returned (heardT zeroX false none 0)∧Below w2.heap.size w2 w3)∧
  (∀ k:Int,i64w k→Calls Tryz.prog 162 #[.pointer p,.int .i64 k] w2 fun e w3=>e=.returned (.bool false)∧Below w2.heap.size w2 w3)
 ask:∀ (b nb:Nat) (G:Nat→Prop) (w:World) (h:Hd) (a:Ak) (fate:Int),HG b nb G w h→AkOk a→fewL a.L→a.data.size≤1000000→h.n.l.used.length≤100000→i64w fate→(∀ W,Kept (fun k=>¬ G k) w W→CL W a.ao a.L)→
  Calls Tryz.prog 41 #[ptrH b,askV a,.int .i64 fate] w fun e w'=>ToldBy (heardT (h.heard a fate) (decide (fate=0))) (HG b nb) G w (h.asked a.plain fate) (h.heard a fate) e w'
 does:∀ (b nb:Nat) (G:Nat→Prop) (w:World) (h:Hd) (k:Int),HG b nb G w h→h.n.l.used.length≤100000→i64w k→Calls Tryz.prog 162 #[ptrH b,.int .i64 k] w fun e w'=>e=.returned (.bool (h.has k))∧Leaves (HG b nb) G w w' (h.does k)
 nodes:∀ (b nb:Nat) (G:Nat→Prop) (w:World) (h:Hd),HG b nb G w h→Calls Tryz.prog 29 #[ptrH b] w fun e w'=>e=.returned (ptrN nb)∧Below w.heap.size w w'
 nil_ask:∀ (a:Ak) (fate:Int) (w:World),AkIn w a→i64w fate→Calls Tryz.prog 41 #[.pointer none,askV a,.int .i64 fate] w fun e w'=>e=.returned (heardT zeroX false none 0)∧Below w.heap.size w w'
 nil_do:∀ (k:Int) (w:World),i64w k→Calls Tryz.prog 162 #[.pointer none,.int .i64 k] w fun e w'=>e=.returned (.bool false)∧Below w.heap.size w w'
 nil_nodes:∀ (w:World),Calls Tryz.prog 29 #[.pointer none] w fun e w'=>e=.returned (.pointer none)∧Below w.heap.size w w'
theorem plain_less (l:List Ak) (k:Nat):(lessK l k).map Ak.plain=lessK (l.map Ak.plain) k:=by
 unfold lessK
 rw [List.map_append,List.map_take,List.map_drop]
structure Three (UG:Nat→Nat→(Nat→Prop)→World→Us→Prop) (OG:Nat→(Nat→Prop)→World→Od→Prop) (LG:Nat→(Nat→Prop)→World→Ly→Prop):Prop where
 u:UnitSays UG
 o:OrderSays OG
 l:LaySays LG
structure TabP (A:Array Value) (m:Nat) (B:Nat→Nat × Nat) (ro rl:Nat):Prop where
 size:A.size=18
 at_:∀ i,i < m→A[i]?=some (ptrV (B i).1)
 o:A[16]?=some (ptrO ro)
 l:A[17]?=some (ptrL rl)
theorem TabP.put {A:Array Value} {m:Nat} {B:Nat→Nat × Nat} {ro rl:Nat} (h:TabP A m B ro rl) (hm:m < 16) (x:Nat × Nat):TabP (A.setIfInBounds m (ptrV x.1)) (m+1) (fun j=>if j=m then x else B j) ro rl:=by
 have hs:=h.size
 refine ⟨by simp [hs],fun i hi=>?_,?_,?_⟩
 ·by_cases e:i=m
  ·subst e
   simp [hs,show i < 18 by omega]
  ·rw [Array.getElem?_setIfInBounds_ne (fun h=>e h.symm),if_neg e]
   exact h.at_ i (by omega)
 ·rw [Array.getElem?_setIfInBounds_ne (by omega)]
  exact h.o
 ·rw [Array.getElem?_setIfInBounds_ne (by omega)]
  exact h.l
def nodeP (UG:Nat→Nat→(Nat→Prop)→World→Us→Prop) (OG:Nat→(Nat→Prop)→World→Od→Prop) (LG:Nat→(Nat→Prop)→World→Ly→Prop) (r:Nat) (A:Array Value) (ro rl:Nat) (B:Nat→Nat × Nat) (n:Nd):Nat→(Nat→Prop)→World→Prop
 | 0=>fun F w=>LG rl F w n.l
 | 1=>fun F w=>OG ro F w n.o
 | 2=>fun F w=>w.heap[r]?=some (.cells A 118 (0,0))∧∀ k,F k↔k=r
 | i+3=>fun F w=>UG (B i).1 (B i).2 F w (n.u i)
theorem z0r {UG:Nat→Nat→(Nat→Prop)→World→Us→Prop} {OG:Nat→(Nat→Prop)→World→Od→Prop} {LG:Nat→(Nat→Prop)→World→Ly→Prop} (HT:Three UG OG LG) (r:Nat) (A:Array Value) (ro rl:Nat) (B:Nat→Nat × Nat) (n:Nd):∀ i,Part (nodeP UG OG LG r A ro rl B n i)
 | 0=>(HT.l.thing rl).part n.l
 | 1=>(HT.o.thing ro).part n.o
 | 2=>⟨fun h k hk=>by rw [(h.2 k).1 hk];exact lt_of_block h.1,fun h hk hS=>⟨hk.heap (hS r ((h.2 r).2 rfl)) h.1,h.2⟩⟩
 | i+3=>(HT.u.thing (B i).1 (B i).2).part (n.u i)
def RM (UG:Nat→Nat→(Nat→Prop)→World→Us→Prop) (OG:Nat→(Nat→Prop)→World→Od→Prop) (LG:Nat→(Nat→Prop)→World→Ly→Prop) (r:Nat) (G:Nat→Prop) (w:World) (n:Nd):Prop:=∃ (A:Array Value) (ro rl:Nat) (B:Nat→Nat × Nat),TabP A 16 B ro rl∧BundG 19 (nodeP UG OG LG r A ro rl B n) G w
theorem rm_thing {UG:Nat→Nat→(Nat→Prop)→World→Us→Prop} {OG:Nat→(Nat→Prop)→World→Od→Prop} {LG:Nat→(Nat→Prop)→World→Ly→Prop} (HT:Three UG OG LG) (r:Nat):Thing (RM UG OG LG r) where
 lt:=by
  rintro G w n ⟨A,ro,rl,B,h1,h2⟩
  exact h2.lt (fun i _=>z0r HT r A ro rl B n i)
 keep:=by
  rintro G S w w' n ⟨A,ro,rl,B,h1,h2⟩ hk hS
  exact ⟨A,ro,rl,B,h1,h2.keep (fun i _=>z0r HT r A ro rl B n i) hk hS⟩
section
variable {UG:Nat→Nat→(Nat→Prop)→World→Us→Prop} {OG:Nat→(Nat→Prop)→World→Od→Prop} {LG:Nat→(Nat→Prop)→World→Ly→Prop} {r:Nat} {A:Array Value} {ro rl:Nat} {B:Nat→Nat × Nat} {n:Nd} {G:Nat→Prop} {w:World}
theorem rm_putO (h1:TabP A 16 B ro rl) {o:Od} {G':Nat→Prop} {W:World} (h:BundG 19 (swapP (nodeP UG OG LG r A ro rl B n) 1 (fun F W=>OG ro F W o)) G' W):RM UG OG LG r G' W (n.putO o) :=
 ⟨A,ro,rl,B,h1,h.same (fun i _ F W hF=>by match i,hF with | 0,hF=>exact hF | 1,hF=>exact hF | 2,hF=>exact hF | j+3,hF=>exact hF)⟩
end
end Go.Proofs.YtkefpbcifcjibaaGreat
namespace Go.Proofs.YtkefpbcifcjibaaGreat
open Go.RowKit Go.Maps
theorem lp_may (b:Nat) (G:Nat→Prop) (w:World) (y:Ly) (h:LB b G w y) (hy:y.L.length≤255∧∀ c ∈ y.L,c.length≤255) (e:Int) (ao:Option Addr) (cap:Nat) (Q:List (List Int)) (hq:CL w ao Q) (lq:Q.length≤255∧∀ c ∈ Q,c.length≤255) :
  Calls Tryz.prog 200 #[ptrL b,.agg #[.int .i64 e,.slice ao Q.length cap]] w fun x w'=>x=.returned (.bool (y.may e Q))∧Below w.heap.size w w':=by
 obtain ⟨lo,lc,mb0,h1,h2,_⟩:=h.open
 obtain ⟨⟨c0,c1,c2,_,_,_⟩,_⟩:=z29 h1
 have hlt:=lt_of_block h1
 have HB0:=Lh (z00 w (.cells #[.int .i64 e,.slice ao Q.length cap] 24))
 have hx:PB (w.alloc (.cells #[.int .i64 e,.slice ao Q.length cap] 24)) w.heap.size e ao Q.length cap:=heap_alloc_new _ _
 have HS0:=Lh (show (w.alloc (.cells #[.int .i64 e,.slice ao Q.length cap] 24)).drew.cell? ⟨b,0,none⟩=some (.int .i64 y.ep)∧(w.alloc (.cells #[.int .i64 e,.slice ao Q.length cap] 24)).drew.cell? ⟨b,1,none⟩=some (.slice lo y.L.length lc)∧
   (w.alloc (.cells #[.int .i64 e,.slice ao Q.length cap] 24)).drew.cell? ⟨w.heap.size,0,none⟩=some (.int .i64 e)∧(w.alloc (.cells #[.int .i64 e,.slice ao Q.length cap] 24)).drew.cell? ⟨w.heap.size,1,none⟩=some (.slice ao Q.length cap)∧
   Below w.heap.size w (w.alloc (.cells #[.int .i64 e,.slice ao Q.length cap] 24)).drew∧w.heap.size≤(w.alloc (.cells #[.int .i64 e,.slice ao Q.length cap] 24)).drew.heap.size from
  ⟨z0s HB0.out.drew hlt c0,z0s HB0.out.drew hlt c1,z0s (Below.refl _ _).drew (block_lt_of_cell hx.cells.1) hx.cells.1,z0s (Below.refl _ _).drew (block_lt_of_cell hx.cells.2) hx.cells.2,HB0.out.drew,by simp⟩)
 have HC:=Lh h2
 have HQ:=Lh hq
 have SM:=Lh hy
 have LQ:=Lh lq
 have HLW:=Lh h
 clear c0 c1 c2 hx h h1 h2 hy hq lq
 cases hn:nextB y.ep y.L e Q
 ·rw [may_no hn]
  have HN:=Lh hn
  clear hn
  unfold ptrL
  go_enter Tryz.func200,Tryz.ntmps200
  go_wp2_with fail
  go_region_held3 (fun W=>W.cell? ⟨b,0,none⟩=some (.int .i64 y.ep)∧W.cell? ⟨b,1,none⟩=some (.slice lo y.L.length lc)∧W.cell? ⟨w.heap.size,0,none⟩=some (.int .i64 e)∧W.cell? ⟨w.heap.size,1,none⟩=some (.slice ao Q.length cap)∧Below w.heap.size w W∧w.heap.size≤W.heap.size)
   (first | exact HS0.out | exact mw_on (by assumption) hb1)
   (first | (go_at_call 56;refine (pnext_any y.ep lo lc y.L e ao cap Q _ (HC.out.below (mw_b (by assumption))) (HQ.out.below (mw_b (by assumption))) SM.out LQ.out).mono ?_;rintro x w1 ⟨rfl,hb1⟩;rw [HN.out]))
  all_goals
   go_wp2_with fail
   go_ret
   rename_i hS
   exact ⟨rfl,mw_b hS⟩
 ·rw [may_yes hn]
  have HN:=Lh hn
  have fN:=units_few SM.out
  have fU:=units_few LQ.out
  have HY:=Lh (show (∀ u ∈ (unitsR Q).take (unitsR Q).length,mayF (unitsR y.L) y.used u=true)→(unitsR Q).all (mayF (unitsR y.L) y.used)=true from fun h=>by
   rw [List.take_of_length_le (Nat.le_refl _)] at h
   exact List.all_eq_true.2 h)
  have HX:=Lh (fun k (hk:k < (unitsR Q).length) (h:mayF (unitsR y.L) y.used (unitsR Q)[k]=false)=>show (unitsR Q).all (mayF (unitsR y.L) y.used)=false from
   List.all_eq_false.2 ⟨_,List.getElem_mem hk,by rw [h];exact Bool.false_ne_true⟩)
  have C1:=Lh (fun (W:World) (hb:Below w.heap.size w W)=>punits_any y.ep lo lc y.L W (HC.out.below hb) SM.out)
  have C2:=Lh (fun (W:World) (hb:Below w.heap.size w W)=>punits_any e ao cap Q W (HQ.out.below hb) LQ.out)
  clear hn
  generalize (unitsR Q).all (mayF (unitsR y.L) y.used)=R at *
  generalize unitsR Q=U at *
  generalize unitsR y.L=N at *
  have mU:(U.length:Int)≤70000:=by omega
  unfold ptrL
  go_enter Tryz.func200,Tryz.ntmps200
  go_wp2_with fail
  go_region_held3 (fun W=>W.cell? ⟨b,0,none⟩=some (.int .i64 y.ep)∧W.cell? ⟨b,1,none⟩=some (.slice lo y.L.length lc)∧W.cell? ⟨w.heap.size,0,none⟩=some (.int .i64 e)∧W.cell? ⟨w.heap.size,1,none⟩=some (.slice ao Q.length cap)∧Below w.heap.size w W∧w.heap.size≤W.heap.size)
   (first | exact HS0.out | exact mw_on (by assumption) hb1)
   (first | (go_at_call 56;refine (pnext_any y.ep lo lc y.L e ao cap Q _ (HC.out.below (mw_b (by assumption))) (HQ.out.below (mw_b (by assumption))) SM.out LQ.out).mono ?_;rintro x w1 ⟨rfl,hb1⟩;rw [HN.out]))
  all_goals
   rename_i hS
   have H1:=Lh hS
   obtain ⟨p0,p1,p2,p3,_,_⟩:=hS
   have hb1':=block_lt_of_cell p0
   clear hb1
   go_wp2_with (first
    | (go_at_call 52;refine (C2.out _ (mw_b H2.out)).mono ?_;rintro x w3 ⟨uo,uc,rfl,hN3,hb3⟩;have H3:=Lh (mw_on H2.out hb3);have HNU:=Lh hN3;have HNN3:=Lh (HNN.out.below hb3);clear hN3 hb3)
    | (go_at_call 52;refine (C1.out _ (mw_b H1.out)).mono ?_;rintro x w2 ⟨no,nc,rfl,hN2,hb2⟩;have H2:=Lh (mw_on H1.out hb2);have HNN:=Lh hN2;obtain ⟨q0,q1,q2,q3,_,_⟩:=H2.out;have hb2':=block_lt_of_cell q0;clear hN2 hb2))
   have HW:=Lh (mw_b H3.out)
   have HL3:=Lh (HLW.out.below HW.out)
   clear HB0 HS0 HC HQ SM LQ HN C1 C2 HNN p0 p1 p2 p3 q0 q1 q2 q3 H1 H2 H3 HLW
   go_loopw [25] (fun i wr=>∃ k:Nat,i=.int .i64 k∧k≤U.length∧Hid (Below w3.heap.size w3 wr)∧Hid (∀ u ∈ U.take k,mayF N y.used u=true)) (fun i _=>U.length - (intOf i).toNat)
   case atStart=>exact ⟨0,rfl,Nat.zero_le _,Lh (Below.refl _ _),Lh (fun u hu=>by simp at hu)⟩
   case round =>
    obtain ⟨k,rfl,hk,HB,HT⟩:=hrel
    have hWz:=HW.out.size
    by_cases hlt2:k < U.length
    ·have HNR:=Lh (HNU.out.below HB.out)
     obtain ⟨bk,off,rfl,x0⟩:=HNR.out.at k hlt2
     have hwf:=HNR.out.wf _ (List.getElem_mem hlt2)
     have k0:(k:Int) < (U.length:Int):=by omega
     obtain ⟨lo2,lc2,mb,g1,_,hUs,_⟩:=(HL3.out.below HB.out).open
     obtain ⟨⟨c0,c1,c2,c3,c4,c5⟩,_⟩:=z29 g1
     have hbr:=lt_of_block g1
     have HD:=Lh hUs.1
     have HH:=Lh (show Maps.has (setD klU y.used) (klU U[k])=hasB y.used U[k] from hUs.has hwf)
     have HKEY:=Lh (lunit_key _ hwf)
     have HB5:=Lh (HB.out.alloc HB.out.size (.cells #[] 193))
     have CH:=Lh (z2b N U[k] no nc (wr.alloc (.cells #[] 193)) (HNN3.out.below HB5.out) (by omega))
     have HT2:=Lh (show mayF N y.used U[k]=true→∀ u ∈ U.take (k+1),mayF N y.used u=true from fun h=>all_take_succ (p:=fun u=>mayF N y.used u=true) hlt2 HT.out h)
     have HXK:=Lh (HX.out k hlt2)
     have HF:mayF N y.used U[k]=(hasB N U[k] || !hasB y.used U[k]):=rfl
     rw [HF] at HT2 HXK
     clear HF g1 hUs hwf c0 c1 c3 c4 c5
     generalize U[k]=u at *
     cases hD:hasB y.used u
     ·have HT3:=Lh (HT2.out (by rw [hD];simp))
      rw [hD] at HH
      clear hD HXK HT2 CH
      go_wp2_with (at_lookup;refine wpList_lookup_own_unit _ rfl _ _ 125 rfl 231 193 lunit_law Tryz.underlying125 (zero_none _) mb _ _ rfl HD.out _ _ rfl HKEY.out ?_;rw [HH.out])
      go_roundw
      case rel=>exact ⟨k+1,by go_num,by omega,HB5,HT3⟩
      case measure=>simp [intOf];omega
     ·cases hN:hasB N u
      ·have HR:=Lh (HXK.out (by rw [hN,hD];rfl))
       rw [hN] at CH
       rw [hD] at HH
       clear hN hD HXK HT2
       go_wp2_with (first
        | (at_lookup;refine wpList_lookup_own_unit _ rfl _ _ 125 rfl 231 193 lunit_law Tryz.underlying125 (zero_none _) mb _ _ rfl HD.out _ _ rfl HKEY.out ?_;rw [HH.out])
        | (go_at_call 51;refine CH.out.mono ?_;rintro x w6 ⟨rfl,rfl⟩))
       go_ret
       rw [HR.out]
       exact ⟨rfl,HW.out.trans (HB5.out.mono HW.out.size)⟩
      ·have HT3:=Lh (HT2.out (by rw [hN];rfl))
       rw [hN] at CH
       rw [hD] at HH
       clear hN hD HXK HT2
       go_wp2_with (first
        | (at_lookup;refine wpList_lookup_own_unit _ rfl _ _ 125 rfl 231 193 lunit_law Tryz.underlying125 (zero_none _) mb _ _ rfl HD.out _ _ rfl HKEY.out ?_;rw [HH.out])
        | (go_at_call 51;refine CH.out.mono ?_;rintro x w6 ⟨rfl,rfl⟩))
       go_roundw
       case rel=>exact ⟨k+1,by go_num,by omega,HB5,HT3⟩
       case measure=>simp [intOf];omega
    ·obtain rfl:k=U.length:=by omega
     have HR:=Lh (HY.out HT.out)
     go_wp2_with fail
     go_ret
     rw [HR.out]
     exact ⟨rfl,HW.out.trans (HB.out.mono HW.out.size)⟩
theorem zero_int (w:World):(zeroValue 3).run Tryz.prog w=.ok (.int .i64 0) w:=by kernel_rfl
theorem ends_any (ep:Int) (ao:Option Addr) (cap:Nat) (L:List (List Int)) (tb:Nat) (K:List (Int × Int)) (w:World) (h:CL w ao L) (hl:L.length≤255∧∀ c ∈ L,c.length≤255) (hK:Tm w tb K) :
  Calls Tryz.prog 83 #[.agg #[.int .i64 ep,.slice ao L.length cap],.map (some tb)] w fun e w'=>∃ b,e=.returned (.map (some b))∧w.heap.size≤b∧Et w' b K L L.length 0∧Below w.heap.size w w':=by
 have HB0:=Lh ((Below.refl w.heap.size w).alloc (Nat.le_refl _) (.cells #[.int .i64 ep,.slice ao L.length cap] 24))
 have hl':(L.length:Int)≤255:=by have:=hl.1;omega
 have HT:=Lh h
 have HM:=Lh hl
 have HK:=Lh hK
 have hmm:=@run_makeMap Tryz.prog
 clear h hl hK
 go_enter Tryz.func83,Tryz.ntmps83
 go_wp2_with fail
 go_loopw [15] (fun i wr=>∃ n:Nat,i=.int .i64 n∧n≤L.length∧Hid (Et wr (w.heap.size+1) K L n 0)∧Hid (Below (w.heap.size+1) (w.alloc (.cells #[.int .i64 ep,.slice ao L.length cap] 24)) wr)) (fun i _=>L.length - (intOf i).toNat)
 case atStart=>exact ⟨0,rfl,Nat.zero_le _,Lh (by have h:=Et.made (w.alloc (.cells #[.int .i64 ep,.slice ao L.length cap] 24)) K L;simpa using h),Lh ((Below.refl _ _).alloc (by simp) _)⟩
 case round =>
  obtain ⟨n,rfl,hn,HO,HB⟩:=hrel
  by_cases hlt:n < L.length
  ·have HWB:=Lh (HB0.out.trans (HB.out.mono (by omega)))
   obtain ⟨bk,off,ai,ci,hao,c0w,hN⟩:=HT.out n hlt
   subst hao
   have c0:wr.cell? ⟨bk,off+n,none⟩=some (.slice ai L[n].length ci):=z0s HWB.out (block_lt_of_cell c0w) c0w
   have HNN:=Lh hN
   have k0:(n:Int) < (L.length:Int):=by omega
   have m0:=HM.out.2 _ (List.getElem_mem hlt)
   have m0':(L[n].length:Int)≤255:=by omega
   have hln:=HM.out.1
   clear c0w hN
   go_wp2_with fail
   go_loopw [22] (fun j wq=>∃ k:Nat,j=.int .i64 k∧k≤L[n].length∧Hid (Et wq (w.heap.size+1) K L n k)∧Hid (Below (w.heap.size+1) (w.alloc (.cells #[.int .i64 ep,.slice (some ⟨bk,off,none⟩) L.length cap] 24)) wq)) (fun j _=>L[n].length - (intOf j).toNat)
   case atStart=>exact ⟨0,rfl,Nat.zero_le _,HO,HB⟩
   case round =>
    obtain ⟨k,rfl,hk,HO2,HB2⟩:=hrel
    clear c0
    have HWQ:=Lh (HB0.out.trans (HB2.out.mono (by omega)))
    by_cases hkt:k < L[n].length
    ·obtain ⟨b5,o5,hai,c5⟩:=(HNN.out.below HWQ.out).at k hkt
     have hwf:=HNN.out.wf _ (List.getElem_mem hkt)
     subst hai
     have k5:(k:Int) < (L[n].length:Int):=by omega
     obtain ⟨DK,hDK,hMK⟩:=HK.out.below HWQ.out
     have HDK:=Lh hDK
     have HVA:=Lh (valK_at hMK hwf)
     have HIK:=Lh (int_key hwf)
     obtain ⟨m,hE,hmb⟩:=HO2.out
     have HE:=Lh hE
     have hpm:=pagK_most K L[n][k]
     have hB:w.heap.size+1≤wr.heap.size:=by have:=HB2.out.size;simpa using this
     by_cases hp:0 < pagK K L[n][k]
     ·have HMO:=Lh (fun w'=>@Et.more w' (w.heap.size+1) m K L n k hlt hkt hp hmb)
      have HKEY:=Lh (place_key ((n:Int),pagK K L[n][k] - 1) ⟨WalkArith.wf_i64 (by simp;omega),WalkArith.wf_i64 (by simp;omega)⟩)
      have HCNT:=Lh (show m < maxLen from by unfold maxLen;omega)
      have hmin:min (valK K L[n][k]) 4096=pagK K L[n][k]:=by unfold pagK;split <;> omega
      clear hDK hMK hE hwf hmb
      generalize pagK K L[n][k]=pg at *
      generalize valK K L[n][k]=v at *
      generalize L[n][k]=u at *
      go_wp2_with (first
       | (at_lookup;refine wpList_lookup_own_int _ rfl _ _ 91 rfl 3 3 .i64 int_law Tryz.underlying91 Tryz.underlying3 (zero_int _) tb _ _ rfl HDK.out _ _ rfl HIK.out ?_;intro c hat hwc;obtain rfl:c=v:=(by rw [HVA.out] at hat;simpa using hat.symm);clear hat hwc)
       | (at_mapUpdate;refine wpList_mapUpdate_own _ rfl _ _ _ 147 rfl 150 193 place_law Tryz.underlying147 (unitElem (H:=Unit)) (w.heap.size+1) _ _ rfl HE.out HCNT.out _ _ _ rfl rfl HKEY.out _ [] unitElem_mk ?_;intro w1 hown1 hgrow1;have HO3:=Lh (HMO.out _ hown1);have HB3:=Lh (HB2.out.grown hgrow1 hB (fun k e=>by cases e;exact Nat.le_refl _));clear hown1 hgrow1))
      exact ⟨⟨k+1,by go_num,by omega,HO3,HB3⟩,by simp [intOf];omega⟩
     ·have HSK:=Lh (HO2.out.skip hlt hkt hp)
      have hmin:min (valK K L[n][k]) 4096=pagK K L[n][k]:=by unfold pagK;split <;> omega
      clear hDK hMK hE hwf hmb
      generalize pagK K L[n][k]=pg at *
      generalize valK K L[n][k]=v at *
      generalize L[n][k]=u at *
      have hp':pg≤0:=by omega
      clear hp
      go_wp2_with (at_lookup;refine wpList_lookup_own_int _ rfl _ _ 91 rfl 3 3 .i64 int_law Tryz.underlying91 Tryz.underlying3 (zero_int _) tb _ _ rfl HDK.out _ _ rfl HIK.out ?_;intro c hat hwc;obtain rfl:c=v:=(by rw [HVA.out] at hat;simpa using hat.symm);clear hat hwc)
      go_roundw
      case rel=>exact ⟨k+1,by go_num,by omega,HSK,HB2⟩
      case measure=>simp [intOf];omega
    ·obtain rfl:k=L[n].length:=by omega
     have HPC:=Lh (HO2.out.chain hlt m0)
     go_wp2_with fail
     go_roundw
     case rel=>exact ⟨n+1,by go_num,by omega,HPC,HB2⟩
     case measure=>simp [intOf];omega
  ·obtain rfl:n=L.length:=by omega
   have HWB:=Lh (HB0.out.trans (HB.out.mono (by omega)))
   go_wp2_with fail
   go_ret
   exact ⟨_,rfl,by omega,HO.out,HWB.out⟩
end Go.Proofs.YtkefpbcifcjibaaGreat
