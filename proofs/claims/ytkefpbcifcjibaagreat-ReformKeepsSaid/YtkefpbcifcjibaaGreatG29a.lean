/- Joined texts. -/
import Derived.Test.YtkefpbcifcjibaaGreatG28a
import Derived.Test.YtkefpbcifcjibaaGreatG23a
import Derived.Test.YtkefpbcifcjibaaGreatG18a
import Derived.Test.YtkefpbcifcjibaaGreatH00
set_option linter.unusedVariables false
set_option maxRecDepth 20000
set_option maxHeartbeats 16000000
namespace Go.Proofs.YtkefpbcifcjibaaGreat
open Go.RowKit
theorem str_no {p q:ByteArray} (h:¬ p=q):(p.toList == q.toList)=false:=by
 rw [beq_eq_false_iff_ne]
 exact fun e=>h (by rw [ByteArray.toList_eq,ByteArray.toList_eq] at e;exact ByteArray.ext (Array.ext' e))
theorem lk_next (b:Nat) (G:Nat→Prop) (w:World) (q:Qa) (xc xn:Int) (xe:Int) (xL:List (List Int)) (xm xs xy:Int) (xo:Option Addr) (xp:Nat) (h:AQ b G w q) (ha:q.at_=4) (hf:fewL q.L) (hu:0≤q.unit∧q.unit≤100) (R:Qa) (h1R:q.unit+1=((chainR q.ep q.L q.addr).length:Int)→R=(q.more q.at_).ends q.addr 0) (h2R:¬ q.unit+1=((chainR q.ep q.L q.addr).length:Int)→R=q.more 3) :
  Calls Tryz.prog 76 #[ptrP b,.agg #[.int .i64 0,.int .i64 xn,.string q.txt,.int .i64 xe,.slice xo xL.length xp,.int .i64 xm,.int .i64 xs,.int .i64 xy]] w fun e w'=>e=.returned (.tuple #[])∧Leaves (AQ b) G w w' (R):=by
 obtain ⟨HG,HB,HX,HA,⟨x0,x1,x2,x3,x4,x5,x6,x7⟩,ao,cap,⟨c0,c1,c2,c3,c4,c5,c6,c7,c8⟩,⟨f0,f1,f2,f3,f4,f5,f6,f7,f8⟩,hb,HC1,H1,H3⟩:=z0f h 0 xn q.txt xe xo xL.length xp xm xs xy rfl
 rw [ha] at c3
 have s2:(q.txt.toList == q.txt.toList)=true:=beq_self_eq_true _
 have hw:IntKind.i64.wrap (q.unit+1)=q.unit+1:=IntWalk.i64_in _ (by omega)
 have HR1:=Lh h1R
 have HR2:=Lh h2R
 clear h1R h2R
 clear h
 unfold ptrP at *
 go_enter Tryz.func76,Tryz.ntmps76
 go_wp2_with fail
 generalize w.alloc _=w1 at *
 refine z06 3 rfl ?_
 generalize hQ:Exit.jump _ _ _=QJ
 go_wp2_with fail
 go_quiet (fail)
 clear x0 x1 x2 x3 x4 x5 x6 x7 c0 c1 c2 c3 c4 c5 c6 c7 c8 f0 f1 f2 f3 f4 f5 f6 f7 f8 hb H1 H3
 obtain ⟨HB0,HA0,_,_,ao,cap,⟨c0,c1,c2,c3,c4,c5,c6,c7,c8⟩,⟨f0,f1,f2,f3,f4,f5,f6,f7,f8⟩,hb,H1,H3⟩:=z0w HB HA HX (below_drewN (Below.refl w1.heap.size w1) nq)
 generalize World.drewN w1 nq=wv at *
 go_wp2_with fail
 go_step3
 show QJ (.goto 3) _ _
 rw [← hQ]
 refine z0h ?_
 go_wp2_with fail
 have HL:=Lh (H3.out _ (q.more q.at_) ((Kept.refl _ wv).setCell (p:=⟨b,6,none⟩) (fun h=>h rfl) (.int .i64 (q.unit+1))) rfl (nset6 H1.out _))
 generalize World.setCell wv _ _=w5 at *
 obtain ⟨H,hA5,hU⟩:=lv_use (fun k hk=>(z1f b).lt HA0.out k hk) HL.out
 have HU:=Lh hU
 have HA5:=Lh hA5
 have HH:=Lh (fun k hk=>(z1f b).lt hA5 k hk)
 obtain ⟨a5,k5,h1,hc5,h3⟩:=hA5.open
 dsimp only [Qa.more] at h1 hc5 h3
 have H51:=Lh h1
 have HC5:=Lh (hc5.below (Below.refl w5.heap.size w5).drew)
 have CH:=Lh (fun W (hC:CL W a5 q.L)=>pChain_any q.ep a5 k5 q.L q.addr W hC hf)
 obtain ⟨⟨d0,d1,d2,d3,d4,d5,d6,d7,d8⟩,_⟩:=z0g h1
 clear h1 hc5 h3 hU hA5 HL c0 c1 c2 c3 c4 c5 c6 c7 c8 f0 f1 f2 f3 f4 f5 f6 f7 f8 hb
 generalize (chainR q.ep q.L q.addr).length=n at *
 generalize hz:q.unit+1=z at d6
 go_region_held3 (fun W=>W.cell? ⟨b,0,none⟩=some (.int .i64 q.ep)∧W.cell? ⟨b,1,none⟩=some (.slice a5 q.L.length k5)∧W.cell? ⟨b,5,none⟩=some (.int .i64 q.addr)∧W.cell? ⟨b,6,none⟩=some (.int .i64 z))
  (first | exact ⟨d0,d1,d5,d6⟩ | assumption | exact nx_keep (v6:=.int .i64 z) (hz ▸ H61.out))
  (first | (go_at_call 109;refine (CH.out _ HC5.out).mono ?_;rintro e w6 ⟨bo,cb,rfl,_,hb6⟩;have HB6:=Lh (z0c (w1:=w5) hb6 (Below.refl _ _).drew);have H61:=Lh (z01 HB6.out H51.out);have HA6:=Lh (HA5.out.below HB6.out);obtain ⟨⟨c0,c1,c2,c3,c4,c5,c6,c7,c8⟩,f0,f1,f2,f3,f4,f5,f6,f7,f8⟩:=z0g H61.out;have hb:=lt_of_block H61.out;clear hb6))
 by_cases hn:z=(n:Int)
 ·have e9:(z == (n:Int))=true:=by simpa using hn
  have HN:=Lh hn
  clear hn
  go_wp2_with (go_at_call 70;refine (ap_end b _ _ (q.more q.at_) q.addr 0 HA6.out).mono ?_;rintro e w9 ⟨rfl,hl⟩;have HR:=Lh hl;clear hl)
  rw [Exit.noGoto_ret]
  exact bodyPost_ret (results_none rfl _ _ _) rfl ⟨rfl,(HR1.out (hz.trans HN.out)).symm ▸ (HU.out _ _ (HR.out.ahead HH.out HB6.out)).ahead HG.out HB0.out⟩
 ·have e9:(z == (n:Int))=false:=by simpa using hn
  have HN:=Lh hn
  clear hn
  go_wp2_with fail
  go_step3
  go_wp2_with fail
  rw [Exit.noGoto_ret]
  obtain ⟨a6,k6,r1,_,r3⟩:=HA6.out.open
  exact bodyPost_ret (results_none rfl _ _ _) rfl ⟨rfl,(HR2.out (fun e=>HN.out (hz.symm.trans e))).symm ▸ (HU.out _ _ ((r3 _ (q.more 3) ((Kept.refl _ w6).setCell (p:=⟨b,3,none⟩) (fun h=>h rfl) (.int .i64 3)) rfl (nset3 r1 _)).ahead HH.out HB6.out)).ahead HG.out HB0.out⟩
theorem lk_other (b:Nat) (G:Nat→Prop) (w:World) (q:Qa) (xc xn:Int) (xd:ByteArray) (xe:Int) (xL:List (List Int)) (xm xs xy:Int) (xo:Option Addr) (xp:Nat) (h:AQ b G w q) (ha:q.at_=4) (hd:¬ xd=q.txt) :
  Calls Tryz.prog 76 #[ptrP b,.agg #[.int .i64 0,.int .i64 xn,.string xd,.int .i64 xe,.slice xo xL.length xp,.int .i64 xm,.int .i64 xs,.int .i64 xy]] w fun e w'=>e=.returned (.tuple #[])∧Leaves (AQ b) G w w' (q.to 2):=by
 obtain ⟨HG,HB,HX,HA,⟨x0,x1,x2,x3,x4,x5,x6,x7⟩,ao,cap,⟨c0,c1,c2,c3,c4,c5,c6,c7,c8⟩,⟨f0,f1,f2,f3,f4,f5,f6,f7,f8⟩,hb,HC1,H1,H3⟩:=z0f h 0 xn xd xe xo xL.length xp xm xs xy rfl
 rw [ha] at c3
 have s2:=str_no hd
 clear hd
 clear h
 unfold ptrP at *
 go_enter Tryz.func76,Tryz.ntmps76
 go_wp2_with fail
 generalize w.alloc _=w1 at *
 refine z06 2 rfl ?_
 generalize hQ:Exit.jump _ _ _=QJ
 go_wp2_with fail
 go_quiet (fail)
 clear x0 x1 x2 x3 x4 x5 x6 x7 c0 c1 c2 c3 c4 c5 c6 c7 c8 f0 f1 f2 f3 f4 f5 f6 f7 f8 hb H1 H3
 obtain ⟨HB0,HA0,_,_,ao,cap,⟨c0,c1,c2,c3,c4,c5,c6,c7,c8⟩,⟨f0,f1,f2,f3,f4,f5,f6,f7,f8⟩,hb,H1,H3⟩:=z0w HB HA HX (below_drewN (Below.refl w1.heap.size w1) nq)
 generalize World.drewN w1 nq=wv at *
 go_wp2_with fail
 go_step3
 show QJ (.goto 2) _ _
 rw [← hQ]
 refine z0h ?_
 go_wp2_with fail
 rw [Exit.noGoto_ret]
 exact bodyPost_ret (results_none rfl _ _ _) rfl ⟨rfl,(H3.out _ (q.to 2) ((Kept.refl _ wv).setCell (p:=⟨b,3,none⟩) (fun h=>h rfl) _) rfl (nset3 H1.out _)).ahead HG.out HB0.out⟩
theorem lk_junk (b:Nat) (G:Nat→Prop) (w:World) (q:Qa) (xc xn:Int) (xd:ByteArray) (xe:Int) (xL:List (List Int)) (xm xs xy:Int) (xo:Option Addr) (xp:Nat) (h:AQ b G w q) (ha:q.at_=4)  :
  Calls Tryz.prog 76 #[ptrP b,.agg #[.int .i64 46,.int .i64 xn,.string xd,.int .i64 xe,.slice xo xL.length xp,.int .i64 xm,.int .i64 xs,.int .i64 xy]] w fun e w'=>e=.returned (.tuple #[])∧Leaves (AQ b) G w w' (q.to 2):=by
 obtain ⟨HG,HB,HX,HA,⟨x0,x1,x2,x3,x4,x5,x6,x7⟩,ao,cap,⟨c0,c1,c2,c3,c4,c5,c6,c7,c8⟩,⟨f0,f1,f2,f3,f4,f5,f6,f7,f8⟩,hb,HC1,H1,H3⟩:=z0f h 46 xn xd xe xo xL.length xp xm xs xy rfl
 rw [ha] at c3
 clear h
 unfold ptrP at *
 go_enter Tryz.func76,Tryz.ntmps76
 go_wp2_with fail
 generalize w.alloc _=w1 at *
 refine z06 2 rfl ?_
 generalize hQ:Exit.jump _ _ _=QJ
 go_wp2_with fail
 go_quiet (fail)
 clear x0 x1 x2 x3 x4 x5 x6 x7 c0 c1 c2 c3 c4 c5 c6 c7 c8 f0 f1 f2 f3 f4 f5 f6 f7 f8 hb H1 H3
 obtain ⟨HB0,HA0,_,_,ao,cap,⟨c0,c1,c2,c3,c4,c5,c6,c7,c8⟩,⟨f0,f1,f2,f3,f4,f5,f6,f7,f8⟩,hb,H1,H3⟩:=z0w HB HA HX (below_drewN (Below.refl w1.heap.size w1) nq)
 generalize World.drewN w1 nq=wv at *
 go_wp2_with fail
 go_step3
 show QJ (.goto 2) _ _
 rw [← hQ]
 refine z0h ?_
 go_wp2_with fail
 rw [Exit.noGoto_ret]
 exact bodyPost_ret (results_none rfl _ _ _) rfl ⟨rfl,(H3.out _ (q.to 2) ((Kept.refl _ wv).setCell (p:=⟨b,3,none⟩) (fun h=>h rfl) _) rfl (nset3 H1.out _)).ahead HG.out HB0.out⟩
theorem lk_trimmed (b:Nat) (G:Nat→Prop) (w:World) (q:Qa) (xc xn:Int) (xd:ByteArray) (xe:Int) (xL:List (List Int)) (xm xs xy:Int) (xo:Option Addr) (xp:Nat) (h:AQ b G w q) (ha:q.at_=4)  :
  Calls Tryz.prog 76 #[ptrP b,.agg #[.int .i64 43,.int .i64 xn,.string xd,.int .i64 xe,.slice xo xL.length xp,.int .i64 xm,.int .i64 xs,.int .i64 xy]] w fun e w'=>e=.returned (.tuple #[])∧Leaves (AQ b) G w w' (q.to 2):=by
 obtain ⟨HG,HB,HX,HA,⟨x0,x1,x2,x3,x4,x5,x6,x7⟩,ao,cap,⟨c0,c1,c2,c3,c4,c5,c6,c7,c8⟩,⟨f0,f1,f2,f3,f4,f5,f6,f7,f8⟩,hb,HC1,H1,H3⟩:=z0f h 43 xn xd xe xo xL.length xp xm xs xy rfl
 rw [ha] at c3
 clear h
 unfold ptrP at *
 go_enter Tryz.func76,Tryz.ntmps76
 go_wp2_with fail
 generalize w.alloc _=w1 at *
 refine z06 2 rfl ?_
 generalize hQ:Exit.jump _ _ _=QJ
 go_wp2_with fail
 go_quiet (fail)
 clear x0 x1 x2 x3 x4 x5 x6 x7 c0 c1 c2 c3 c4 c5 c6 c7 c8 f0 f1 f2 f3 f4 f5 f6 f7 f8 hb H1 H3
 obtain ⟨HB0,HA0,_,_,ao,cap,⟨c0,c1,c2,c3,c4,c5,c6,c7,c8⟩,⟨f0,f1,f2,f3,f4,f5,f6,f7,f8⟩,hb,H1,H3⟩:=z0w HB HA HX (below_drewN (Below.refl w1.heap.size w1) nq)
 generalize World.drewN w1 nq=wv at *
 go_wp2_with fail
 go_step3
 show QJ (.goto 2) _ _
 rw [← hQ]
 refine z0h ?_
 go_wp2_with fail
 rw [Exit.noGoto_ret]
 exact bodyPost_ret (results_none rfl _ _ _) rfl ⟨rfl,(H3.out _ (q.to 2) ((Kept.refl _ wv).setCell (p:=⟨b,3,none⟩) (fun h=>h rfl) _) rfl (nset3 H1.out _)).ahead HG.out HB0.out⟩
theorem lk_write (b:Nat) (G:Nat→Prop) (w:World) (q:Qa) (xc xn:Int) (xd:ByteArray) (xe:Int) (xL:List (List Int)) (xm xs xy:Int) (xo:Option Addr) (xp:Nat) (h:AQ b G w q) (ha:q.at_=4)  :
  Calls Tryz.prog 76 #[ptrP b,.agg #[.int .i64 42,.int .i64 xn,.string xd,.int .i64 xe,.slice xo xL.length xp,.int .i64 xm,.int .i64 xs,.int .i64 xy]] w fun e w'=>e=.returned (.tuple #[])∧Leaves (AQ b) G w w' (q.to 3):=by
 obtain ⟨HG,HB,HX,HA,⟨x0,x1,x2,x3,x4,x5,x6,x7⟩,ao,cap,⟨c0,c1,c2,c3,c4,c5,c6,c7,c8⟩,⟨f0,f1,f2,f3,f4,f5,f6,f7,f8⟩,hb,HC1,H1,H3⟩:=z0f h 42 xn xd xe xo xL.length xp xm xs xy rfl
 rw [ha] at c3
 clear h
 unfold ptrP at *
 go_enter Tryz.func76,Tryz.ntmps76
 go_wp2_with fail
 generalize w.alloc _=w1 at *
 refine z06 0 rfl ?_
 generalize hQ:Exit.jump _ _ _=QJ
 go_wp2_with fail
 go_quiet (fail)
 clear x0 x1 x2 x3 x4 x5 x6 x7 c0 c1 c2 c3 c4 c5 c6 c7 c8 f0 f1 f2 f3 f4 f5 f6 f7 f8 hb H1 H3
 obtain ⟨HB0,HA0,_,_,ao,cap,⟨c0,c1,c2,c3,c4,c5,c6,c7,c8⟩,⟨f0,f1,f2,f3,f4,f5,f6,f7,f8⟩,hb,H1,H3⟩:=z0w HB HA HX (below_drewN (Below.refl w1.heap.size w1) nq)
 generalize World.drewN w1 nq=wv at *
 go_wp2_with fail
 go_step3
 show QJ (.goto 0) _ _
 rw [← hQ]
 refine z0h ?_
 go_wp2_with fail
 rw [Exit.noGoto_ret]
 exact bodyPost_ret (results_none rfl _ _ _) rfl ⟨rfl,(H3.out _ (q.to 3) ((Kept.refl _ wv).setCell (p:=⟨b,3,none⟩) (fun h=>h rfl) _) rfl (nset3 H1.out _)).ahead HG.out HB0.out⟩
theorem lk_over (b:Nat) (G:Nat→Prop) (w:World) (q:Qa) (xc xn:Int) (xd:ByteArray) (xe:Int) (xL:List (List Int)) (xm xs xy:Int) (xo:Option Addr) (xp:Nat) (h:AQ b G w q) (ha:q.at_=4) (n0:¬ xc=0) (n46:¬ xc=46) (n43:¬ xc=43) (n42:¬ xc=42) :
  Calls Tryz.prog 76 #[ptrP b,.agg #[.int .i64 xc,.int .i64 xn,.string xd,.int .i64 xe,.slice xo xL.length xp,.int .i64 xm,.int .i64 xs,.int .i64 xy]] w fun e w'=>e=.returned (.tuple #[])∧Leaves (AQ b) G w w' (q.ends 0 xc):=by
 obtain ⟨HG,HB,HX,HA,⟨x0,x1,x2,x3,x4,x5,x6,x7⟩,ao,cap,⟨c0,c1,c2,c3,c4,c5,c6,c7,c8⟩,⟨f0,f1,f2,f3,f4,f5,f6,f7,f8⟩,hb,HC1,H1,H3⟩:=z0f h xc xn xd xe xo xL.length xp xm xs xy rfl
 rw [ha] at c3
 have e0:(xc == 0)=false:=by simpa using n0
 have e46:(xc == 46)=false:=by simpa using n46
 have e43:(xc == 43)=false:=by simpa using n43
 have e42:(xc == 42)=false:=by simpa using n42
 clear h
 unfold ptrP at *
 go_enter Tryz.func76,Tryz.ntmps76
 go_wp2_with fail
 generalize w.alloc _=w1 at *
 refine z06 5 rfl ?_
 generalize hQ:Exit.jump _ _ _=QJ
 go_wp2_with fail
 go_quiet (fail)
 clear x0 x1 x2 x3 x4 x5 x6 x7 c0 c1 c2 c3 c4 c5 c6 c7 c8 f0 f1 f2 f3 f4 f5 f6 f7 f8 hb H1 H3
 obtain ⟨HB0,HA0,_,_,ao,cap,⟨c0,c1,c2,c3,c4,c5,c6,c7,c8⟩,⟨f0,f1,f2,f3,f4,f5,f6,f7,f8⟩,hb,H1,H3⟩:=z0w HB HA HX (below_drewN (Below.refl w1.heap.size w1) nq)
 generalize World.drewN w1 nq=wv at *
 go_wp2_with fail
 go_step3
 show QJ (.goto 5) _ _
 rw [← hQ]
 refine z0h ?_
 go_wp2_with (go_at_call 70;refine (ap_end b _ _ q 0 xc HA0.out).mono ?_;rintro e w9 ⟨rfl,hl⟩;have HL:=Lh hl;clear hl)
 rw [z0b]
 go_end0
 exact ⟨rfl,HL.out.ahead HG.out HB0.out⟩
theorem chain_small (ep:Int) (L:List (List Int)) (x:Int):(chainR ep L x).length≤100:=by
 cases h:ofB ep L x with
 | true=>have:=chainF_some h;omega
 | false=>unfold chainR;rw [h,if_neg Bool.noConfusion];exact Nat.zero_le _
theorem fp_learn (b:Nat) (G:Nat→Prop) (w:World) (q:Qf) (x:An) (xo:Option Addr) (xp:Nat) (h:FQ b G w q) (hf:fewL x.L) (hx:CL w xo x.L) (ha:q.at_=0∨q.at_=1) :
  Calls Tryz.prog 106 #[ptrP b,ansV x xo xp] w fun e w'=>e=.returned (.tuple #[])∧Leaves (FQ b) G w w' (q.learn x):=by
 obtain ⟨xc,xn,xd,xe,xL,xm,xs,xy⟩:=x
 show Calls _ _ #[ptrP b,.agg #[.int .i64 xc,.int .i64 xn,.string xd,.int .i64 xe,.slice xo xL.length xp,.int .i64 xm,.int .i64 xs,.int .i64 xy]] w _
 unfold Qf.learn
 dsimp only at *
 have hn:=chain_small xe xL q.addr
 by_cases c0:xc=0
 ·subst c0
  cases hg:goodB xe xL with
  | true =>
   rcases ha with ha | ha
   ·rw [if_pos ⟨rfl,rfl,.inl ha⟩]
    exact fl_c b G w q 0 xn xd xe xL xm xs xy xo xp h hf hx hg ha hn
   ·by_cases ee:xe=q.ep
    ·subst ee
     rw [if_neg (fun e=>e.2.2.elim (by omega) (fun e=>e rfl)),if_pos ha]
     exact fl_e b G w q 0 xn xd xL xm xs xy xo xp h hf hx hg ha
    ·rw [if_pos ⟨rfl,rfl,.inr ee⟩]
     exact fl_d b G w q 0 xn xd xe xL xm xs xy xo xp h hf hx hg ha ee hn
  | false =>
   rw [if_neg (fun e=>Bool.noConfusion e.2.1)]
   rcases ha with ha | ha
   ·rw [if_neg (by omega)]
    exact fl_b0 b G w q 0 xn xd xe xL xm xs xy xo xp h hf hx hg ha
   ·rw [if_pos ha]
    exact fl_b1 b G w q 0 xn xd xe xL xm xs xy xo xp h hf hx hg ha
 ·rw [if_neg (fun e=>c0 e.1)]
  rcases ha with ha | ha
  ·rw [if_neg (by omega)]
   exact fl_a0 b G w q xc xn xd xe xL xm xs xy xo xp h hf hx c0 ha
  ·rw [if_pos ha]
   exact fl_a1 b G w q xc xn xd xe xL xm xs xy xo xp h hf hx c0 ha
theorem fp_step (b:Nat) (G:Nat→Prop) (w:World) (q:Qf) (x:An) (xo:Option Addr) (xp:Nat) (h:FQ b G w q) (hf:fewL q.L) (ha:2≤q.at_∧q.at_≤5) (hu:0≤q.unit∧q.unit≤100) (hd:x.data.size≤1000000) :
  Calls Tryz.prog 107 #[ptrP b,ansV x xo xp] w fun e w'=>e=.returned (.tuple #[])∧Leaves (FQ b) G w w' (q.step x):=by
 obtain ⟨xc,xn,xd,xe,xL,xm,xs,xy⟩:=x
 show Calls _ _ #[ptrP b,.agg #[.int .i64 xc,.int .i64 xn,.string xd,.int .i64 xe,.slice xo xL.length xp,.int .i64 xm,.int .i64 xs,.int .i64 xy]] w _
 unfold Qf.step
 dsimp only at *
 by_cases c43:xc=43
 ·subst c43
  rw [if_pos rfl]
  exact fs_trim b G w q 0 xn xd xe xL xm xs xy xo xp h
 ·rw [if_neg c43]
  by_cases a23:q.at_=2∨q.at_=3
  ·rw [if_pos a23]
   by_cases c0:xc=0
   ·subst c0
    rw [if_pos rfl]
    exact fs_text b G w q 0 xn xd xe xL xm xs xy xo xp h a23 hf hu hd
   ·rw [if_neg c0]
    by_cases c46:xc=46
    ·subst c46
     rw [if_pos rfl]
     exact fs_junk_r b G w q 0 xn xd xe xL xm xs xy xo xp h a23 hf hu
    ·rw [if_neg c46]
     by_cases c42:xc=42
     ·subst c42
      rw [if_pos rfl]
      by_cases u0:0 < q.unit
      ·rw [if_pos u0]
       exact fs_first_r b G w q 0 xn xd xe xL xm xs xy xo xp h a23 u0
      ·rw [if_neg u0]
       unfold Qf.unwr
       cases hl:q.fill with
       | true=>rw [if_pos rfl];exact fs_unwr_t b G w q 0 xn xd xe xL xm xs xy xo xp h a23 (by omega) hl
       | false=>rw [if_neg Bool.noConfusion];exact fs_unwr_f b G w q 0 xn xd xe xL xm xs xy xo xp h a23 (by omega) hl
     ·rw [if_neg c42]
      exact fs_over_r b G w q xc xn xd xe xL xm xs xy xo xp h a23 c43 c0 c46 c42
  ·rw [if_neg a23]
   by_cases a4:q.at_=4
   ·rw [if_pos a4]
    by_cases c0:xc=0
    ·subst c0
     rw [if_pos rfl]
     exact fs_junk_j b G w q 0 xn xd xe xL xm xs xy xo xp h a4 hf hu
    ·rw [if_neg c0]
     by_cases c41:xc=41
     ·subst c41
      rw [if_pos rfl]
      exact fs_first_j b G w q 0 xn xd xe xL xm xs xy xo xp h a4
     ·rw [if_neg c41]
      exact fs_over_w b G w q xc xn xd xe xL xm xs xy xo xp h (.inl a4) c43 c0 c41
   ·rw [if_neg a4]
    have a5:q.at_=5:=by omega
    by_cases c0:xc=0∨xc=41
    ·rw [if_pos c0]
     exact fs_mend b G w q xc xn xd xe xL xm xs xy xo xp h a5 hf hu c0
    ·rw [if_neg c0]
     exact fs_over_w b G w q xc xn xd xe xL xm xs xy xo xp h (.inr a5) c43 (fun e=>c0 (.inl e)) (fun e=>c0 (.inr e))
theorem fh_no (b:Nat) (G:Nat→Prop) (w:World) (q:Qf) (xc xn:Int) (xd:ByteArray) (xe:Int) (xL:List (List Int)) (xm xs xy:Int) (xo:Option Addr) (xp:Nat) (h:FQ b G w q)  :
  Calls Tryz.prog 68 #[ptrP b,.agg #[.int .i64 xc,.int .i64 xn,.string xd,.int .i64 xe,.slice xo xL.length xp,.int .i64 xm,.int .i64 xs,.int .i64 xy],.bool false] w fun e w'=>e=.returned (.tuple #[])∧Leaves (FQ b) G w w' (q):=by
 obtain ⟨HG,HB,HX,HA,⟨x0,x1,x2,x3,x4,x5,x6,x7⟩,ao,cap,⟨c0,c1,c2,c3,c4,c5,c6,c7,c8,c9⟩,⟨f0,f1,f2,f3,f4,f5,f6,f7,f8,f9⟩,hb,HC1,H1,H3⟩:=z0n h xc xn xd xe xo xL.length xp xm xs xy rfl
 clear h
 unfold ptrP at *
 go_enter Tryz.func68,Tryz.ntmps68
 go_wp2_with fail
 exact bodyPost_ret (results_none rfl _ _ _) rfl ⟨rfl,(Leaves.same (z0p b) HA.out (Below.refl _ _)).ahead HG.out HB.out⟩
theorem fh_over (b:Nat) (G:Nat→Prop) (w:World) (q:Qf) (xc xn:Int) (xd:ByteArray) (xe:Int) (xL:List (List Int)) (xm xs xy:Int) (xo:Option Addr) (xp:Nat) (h:FQ b G w q) (ha:q.at_=6) :
  Calls Tryz.prog 68 #[ptrP b,.agg #[.int .i64 xc,.int .i64 xn,.string xd,.int .i64 xe,.slice xo xL.length xp,.int .i64 xm,.int .i64 xs,.int .i64 xy],.bool true] w fun e w'=>e=.returned (.tuple #[])∧Leaves (FQ b) G w w' (q):=by
 obtain ⟨HG,HB,HX,HA,⟨x0,x1,x2,x3,x4,x5,x6,x7⟩,ao,cap,⟨c0,c1,c2,c3,c4,c5,c6,c7,c8,c9⟩,⟨f0,f1,f2,f3,f4,f5,f6,f7,f8,f9⟩,hb,HC1,H1,H3⟩:=z0n h xc xn xd xe xo xL.length xp xm xs xy rfl
 have C:=Lh (fun w (h:FQ b G w q)=>z1k b G w q h)
 rw [decide_eq_true ha] at C
 clear h
 unfold ptrP at *
 go_enter Tryz.func68,Tryz.ntmps68
 go_wp2_with (go_at_call 103;refine (C.out _ HA.out).mono ?_;rintro e w1 ⟨rfl,rfl⟩)
 exact bodyPost_ret (results_none rfl _ _ _) rfl ⟨rfl,(Leaves.same (z0p b) HA.out (Below.refl _ _)).ahead HG.out HB.out⟩
theorem fh_stay (b:Nat) (G:Nat→Prop) (w:World) (q:Qf) (xc xn:Int) (xd:ByteArray) (xe:Int) (xL:List (List Int)) (xm xs xy:Int) (xo:Option Addr) (xp:Nat) (h:FQ b G w q) (ha:q.at_=0∨q.at_=1) :
  Calls Tryz.prog 68 #[ptrP b,.agg #[.int .i64 45,.int .i64 xn,.string xd,.int .i64 xe,.slice xo xL.length xp,.int .i64 xm,.int .i64 xs,.int .i64 xy],.bool true] w fun e w'=>e=.returned (.tuple #[])∧Leaves (FQ b) G w w' (q):=by
 obtain ⟨HG,HB,HX,HA,⟨x0,x1,x2,x3,x4,x5,x6,x7⟩,ao,cap,⟨c0,c1,c2,c3,c4,c5,c6,c7,c8,c9⟩,⟨f0,f1,f2,f3,f4,f5,f6,f7,f8,f9⟩,hb,HC1,H1,H3⟩:=z0n h 45 xn xd xe xo xL.length xp xm xs xy rfl
 have C:=Lh (fun w (h:FQ b G w q)=>z1k b G w q h)
 rw [decide_eq_false (p:=q.at_=6) (by omega)] at C
 have CA:=Lh (fun w (h:FQ b G w q)=>fp_asks b G w q h)
 rw [decide_eq_true ha] at CA
 clear h
 unfold ptrP at *
 go_enter Tryz.func68,Tryz.ntmps68
 go_wp2_with (first | (go_at_call 103;refine (C.out _ HA.out).mono ?_;rintro e w1 ⟨rfl,rfl⟩) | (go_at_call 104;refine (CA.out _ HA.out).mono ?_;rintro e w1 ⟨rfl,rfl⟩))
 go_end0
 exact ⟨rfl,(Leaves.same (z0p b) HA.out (Below.refl _ _)).ahead HG.out HB.out⟩
theorem fh_check (b:Nat) (G:Nat→Prop) (w:World) (q:Qf) (xc xn:Int) (xd:ByteArray) (xe:Int) (xL:List (List Int)) (xm xs xy:Int) (xo:Option Addr) (xp:Nat) (h:FQ b G w q) (ha:2≤q.at_∧q.at_≤5) :
  Calls Tryz.prog 68 #[ptrP b,.agg #[.int .i64 45,.int .i64 xn,.string xd,.int .i64 xe,.slice xo xL.length xp,.int .i64 xm,.int .i64 xs,.int .i64 xy],.bool true] w fun e w'=>e=.returned (.tuple #[])∧Leaves (FQ b) G w w' (q.check):=by
 obtain ⟨HG,HB,HX,HA,⟨x0,x1,x2,x3,x4,x5,x6,x7⟩,ao,cap,⟨c0,c1,c2,c3,c4,c5,c6,c7,c8,c9⟩,⟨f0,f1,f2,f3,f4,f5,f6,f7,f8,f9⟩,hb,HC1,H1,H3⟩:=z0n h 45 xn xd xe xo xL.length xp xm xs xy rfl
 have C:=Lh (fun w (h:FQ b G w q)=>z1k b G w q h)
 rw [decide_eq_false (p:=q.at_=6) (by omega)] at C
 have CA:=Lh (fun w (h:FQ b G w q)=>fp_asks b G w q h)
 rw [decide_eq_false (p:=q.at_=0∨q.at_=1) (by omega)] at CA
 clear h
 unfold ptrP at *
 go_enter Tryz.func68,Tryz.ntmps68
 go_wp2_with (first | (go_at_call 103;refine (C.out _ HA.out).mono ?_;rintro e w1 ⟨rfl,rfl⟩) | (go_at_call 104;refine (CA.out _ HA.out).mono ?_;rintro e w1 ⟨rfl,rfl⟩))
 go_end0
 exact ⟨rfl,(H3.out _ q.check (((Kept.refl _ _).setCell (p:=⟨b,4,none⟩) (fun h=>h rfl) _).setCell (p:=⟨b,5,none⟩) (fun h=>h rfl) _) rfl (tset5 (tset4 H1.out _) _)).ahead HG.out HB.out⟩
theorem fh_lay (b:Nat) (G:Nat→Prop) (w:World) (q:Qf) (xc xn:Int) (xd:ByteArray) (xe:Int) (xL:List (List Int)) (xm xs xy:Int) (xo:Option Addr) (xp:Nat) (h:FQ b G w q) (ha:¬ q.at_=6) :
  Calls Tryz.prog 68 #[ptrP b,.agg #[.int .i64 40,.int .i64 xn,.string xd,.int .i64 xe,.slice xo xL.length xp,.int .i64 xm,.int .i64 xs,.int .i64 xy],.bool true] w fun e w'=>e=.returned (.tuple #[])∧Leaves (FQ b) G w w' (q.lay):=by
 obtain ⟨HG,HB,HX,HA,⟨x0,x1,x2,x3,x4,x5,x6,x7⟩,ao,cap,⟨c0,c1,c2,c3,c4,c5,c6,c7,c8,c9⟩,⟨f0,f1,f2,f3,f4,f5,f6,f7,f8,f9⟩,hb,HC1,H1,H3⟩:=z0n h 40 xn xd xe xo xL.length xp xm xs xy rfl
 have C:=Lh (fun w (h:FQ b G w q)=>z1k b G w q h)
 rw [decide_eq_false (p:=q.at_=6) (by omega)] at C
 clear h
 unfold ptrP at *
 go_enter Tryz.func68,Tryz.ntmps68
 go_wp2_with (go_at_call 103;refine (C.out _ HA.out).mono ?_;rintro e w1 ⟨rfl,rfl⟩)
 go_end0
 exact ⟨rfl,(H3.out _ q.lay ((((Kept.refl _ _).setCell (p:=⟨b,4,none⟩) (fun h=>h rfl) _).setCell (p:=⟨b,7,none⟩) (fun h=>h rfl) _).setCell (p:=⟨b,8,none⟩) (fun h=>h rfl) _) rfl (tset8 (tset7 (tset4 H1.out _) _) _)).ahead HG.out HB.out⟩
theorem fh_learn (b:Nat) (G:Nat→Prop) (w:World) (q:Qf) (xc xn:Int) (xd:ByteArray) (xe:Int) (xL:List (List Int)) (xm xs xy:Int) (xo:Option Addr) (xp:Nat) (h:FQ b G w q) (ha:q.at_=0∨q.at_=1) (n40:¬ xc=40) (n45:¬ xc=45) (hf:fewL xL) (hx:CL w xo xL) :
  Calls Tryz.prog 68 #[ptrP b,.agg #[.int .i64 xc,.int .i64 xn,.string xd,.int .i64 xe,.slice xo xL.length xp,.int .i64 xm,.int .i64 xs,.int .i64 xy],.bool true] w fun e w'=>e=.returned (.tuple #[])∧Leaves (FQ b) G w w' (q.learn ⟨xc,xn,xd,xe,xL,xm,xs,xy⟩):=by
 obtain ⟨HG,HB,HX,HA,⟨x0,x1,x2,x3,x4,x5,x6,x7⟩,ao,cap,⟨c0,c1,c2,c3,c4,c5,c6,c7,c8,c9⟩,⟨f0,f1,f2,f3,f4,f5,f6,f7,f8,f9⟩,hb,HC1,H1,H3⟩:=z0n h xc xn xd xe xo xL.length xp xm xs xy rfl
 have C:=Lh (fun w (h:FQ b G w q)=>z1k b G w q h)
 rw [decide_eq_false (p:=q.at_=6) (by omega)] at C
 have CA:=Lh (fun w (h:FQ b G w q)=>fp_asks b G w q h)
 rw [decide_eq_true ha] at CA
 have e40:(xc == 40)=false:=by simpa using n40
 have e45:(xc == 45)=false:=by simpa using n45
 have CX:=Lh (fun W h hx=>fp_learn b G W q ⟨xc,xn,xd,xe,xL,xm,xs,xy⟩ xo xp h hf hx ha)
 have HC:=Lh (hx.below HB.out)
 clear hf hx
 clear h
 unfold ptrP at *
 go_enter Tryz.func68,Tryz.ntmps68
 go_wp2_with (first | (go_at_call 103;refine (C.out _ HA.out).mono ?_;rintro e w1 ⟨rfl,rfl⟩) | (go_at_call 104;refine (CA.out _ HA.out).mono ?_;rintro e w1 ⟨rfl,rfl⟩) | (go_at_call 106;refine (CX.out _ HA.out HC.out).mono ?_;rintro e w9 ⟨rfl,hl⟩;have HL9:=Lh hl;clear hl))
 go_end0
 exact ⟨rfl,HL9.out.ahead HG.out HB.out⟩
theorem fh_step (b:Nat) (G:Nat→Prop) (w:World) (q:Qf) (xc xn:Int) (xd:ByteArray) (xe:Int) (xL:List (List Int)) (xm xs xy:Int) (xo:Option Addr) (xp:Nat) (h:FQ b G w q) (ha:2≤q.at_∧q.at_≤5) (n40:¬ xc=40) (n45:¬ xc=45) (hf:fewL q.L) (hu:0≤q.unit∧q.unit≤100) (hd:xd.size≤1000000) :
  Calls Tryz.prog 68 #[ptrP b,.agg #[.int .i64 xc,.int .i64 xn,.string xd,.int .i64 xe,.slice xo xL.length xp,.int .i64 xm,.int .i64 xs,.int .i64 xy],.bool true] w fun e w'=>e=.returned (.tuple #[])∧Leaves (FQ b) G w w' (q.step ⟨xc,xn,xd,xe,xL,xm,xs,xy⟩):=by
 obtain ⟨HG,HB,HX,HA,⟨x0,x1,x2,x3,x4,x5,x6,x7⟩,ao,cap,⟨c0,c1,c2,c3,c4,c5,c6,c7,c8,c9⟩,⟨f0,f1,f2,f3,f4,f5,f6,f7,f8,f9⟩,hb,HC1,H1,H3⟩:=z0n h xc xn xd xe xo xL.length xp xm xs xy rfl
 have C:=Lh (fun w (h:FQ b G w q)=>z1k b G w q h)
 rw [decide_eq_false (p:=q.at_=6) (by omega)] at C
 have CA:=Lh (fun w (h:FQ b G w q)=>fp_asks b G w q h)
 rw [decide_eq_false (p:=q.at_=0∨q.at_=1) (by omega)] at CA
 have e40:(xc == 40)=false:=by simpa using n40
 have e45:(xc == 45)=false:=by simpa using n45
 have CX:=Lh (fun W h=>fp_step b G W q ⟨xc,xn,xd,xe,xL,xm,xs,xy⟩ xo xp h hf ha hu hd)
 clear hf
 clear h
 unfold ptrP at *
 go_enter Tryz.func68,Tryz.ntmps68
 go_wp2_with (first | (go_at_call 103;refine (C.out _ HA.out).mono ?_;rintro e w1 ⟨rfl,rfl⟩) | (go_at_call 104;refine (CA.out _ HA.out).mono ?_;rintro e w1 ⟨rfl,rfl⟩) | (go_at_call 107;refine (CX.out _ HA.out).mono ?_;rintro e w9 ⟨rfl,hl⟩;have HL9:=Lh hl;clear hl))
 go_end0
 exact ⟨rfl,HL9.out.ahead HG.out HB.out⟩
theorem fp_hear (b:Nat) (G:Nat→Prop) (w:World) (q:Qf) (x:An) (xo:Option Addr) (xp:Nat) (c:Bool) (h:FQ b G w q) (hr:0≤q.at_∧q.at_≤6) (hq:fewL q.L) (hu:2≤q.at_∧q.at_≤5→0≤q.unit∧q.unit≤100) (hf:fewL x.L) (hx:CL w xo x.L) (hd:x.data.size≤1000000) :
  Calls Tryz.prog 68 #[ptrP b,ansV x xo xp,.bool c] w fun e w'=>e=.returned (.tuple #[])∧Leaves (FQ b) G w w' (q.hear x c):=by
 obtain ⟨xc,xn,xd,xe,xL,xm,xs,xy⟩:=x
 show Calls _ _ #[ptrP b,.agg #[.int .i64 xc,.int .i64 xn,.string xd,.int .i64 xe,.slice xo xL.length xp,.int .i64 xm,.int .i64 xs,.int .i64 xy],.bool c] w _
 unfold Qf.hear
 dsimp only at *
 cases c with
 | false =>
  rw [if_pos (.inl rfl)]
  exact fh_no b G w q xc xn xd xe xL xm xs xy xo xp h
 | true =>
  by_cases a6:q.at_=6
  ·rw [if_pos (.inr a6)]
   exact fh_over b G w q xc xn xd xe xL xm xs xy xo xp h a6
  ·rw [if_neg (fun e=>e.elim Bool.noConfusion a6)]
   by_cases c45:xc=45
   ·subst c45
    rw [if_pos rfl]
    by_cases a01:q.at_=0∨q.at_=1
    ·rw [if_pos a01]
     exact fh_stay b G w q 0 xn xd xe xL xm xs xy xo xp h a01
    ·rw [if_neg a01]
     exact fh_check b G w q 0 xn xd xe xL xm xs xy xo xp h (by omega)
   ·rw [if_neg c45]
    by_cases c40:xc=40
    ·subst c40
     rw [if_pos rfl]
     exact fh_lay b G w q 0 xn xd xe xL xm xs xy xo xp h a6
    ·rw [if_neg c40]
     by_cases a01:q.at_=0∨q.at_=1
     ·rw [if_pos a01]
      exact fh_learn b G w q xc xn xd xe xL xm xs xy xo xp h a01 c40 c45 hf hx
     ·rw [if_neg a01]
      exact fh_step b G w q xc xn xd xe xL xm xs xy xo xp h (by omega) c40 c45 hq (hu (by omega)) hd
theorem z1l (w:World) (x:Obj):(w.alloc x).heap.size=w.heap.size+1:=by simp
theorem new_at18 {w:World} {n k:Nat} (hn:w.heap.size=n) (x:Obj) (h:n=k):(w.alloc x).heap[k]?=some x:=by
 subst h
 rw [← hn]
 exact heap_alloc_new w x
theorem new_past18 {w:World} {k:Nat} {o:Obj} (h:w.heap[k]?=some o) (x:Obj):(w.alloc x).heap[k]?=some o:=by
 rw [(z00 w x).block k (by
  obtain ⟨h1,_⟩:=Array.getElem?_eq_some_iff.1 h
  exact h1)]
 exact h
theorem four_new18 (w:World) (x0 x1 x2 x3:Obj):let W:=(((w.alloc x0).alloc x1).alloc x2).alloc x3
  W.heap[w.heap.size]?=some x0∧W.heap[w.heap.size+1]?=some x1∧W.heap[w.heap.size+1+1]?=some x2∧W.heap[w.heap.size+1+1+1]?=some x3∧W.heap.size=w.heap.size+1+1+1+1∧Below w.heap.size w W:=by
 intro W
 refine ⟨?_,?_,?_,?_,?_,?_⟩
 ·exact new_past18 (new_past18 (new_past18 (heap_alloc_new w x0) x1) x2) x3
 ·exact new_past18 (new_past18 (new_at18 (n:=w.heap.size+1) (z1l _ _) x1 rfl) x2) x3
 ·exact new_past18 (new_at18 (n:=w.heap.size+1+1) (by rw [z1l,z1l]) x2 rfl) x3
 ·exact new_at18 (n:=w.heap.size+1+1+1) (by rw [z1l,z1l,z1l]) x3 rfl
 ·show ((((w.alloc x0).alloc x1).alloc x2).alloc x3).heap.size=_
  rw [z1l,z1l,z1l,z1l]
 ·exact ((((Below.refl _ w).alloc (Nat.le_refl _) _).alloc (by simp) _).alloc (by simp;omega) _).alloc (by simp;omega) _
theorem two_cg18 {W:World} {B b0 b1 br:Nat} {l0 l1:List Int} (hB:B≤b0∧B≤b1∧B≤br) (s0:∀ v ∈ l0,0≤v∧v≤100) (s1:∀ v ∈ l1,0≤v∧v≤100) (h0:W.heap[b0]?=some (.cells (numA l0) 3 (0,0))) (h1:W.heap[b1]?=some (.cells (numA l1) 3 (0,0)))
  (hr:W.heap[br]?=some (.cells #[.slice (some ⟨b0,0,none⟩) l0.length l0.length,.slice (some ⟨b1,0,none⟩) l1.length l1.length] 65 (0,0))):CG (fun k=>B≤k∧k < W.heap.size) W (.slice (some ⟨br,0,none⟩) 2 2) [l0,l1]:=by
 have i64s:∀ l:List Int,(∀ v ∈ l,0≤v∧v≤100)→∀ v ∈ l,i64w v:=fun l h v hv=>z04 (by have:=h v hv;omega)
 refine ⟨some ⟨br,0,none⟩,2,rfl,fun e=>(by cases e),Nat.le_refl _,fun a e=>?_,fun i hi=>?_⟩
 ·cases e
  exact ⟨⟨hB.2.2,lt_of_block hr⟩,lt_of_block hr⟩
 ·match i,hi with
  | 0,_ =>
   refine ⟨br,0,some ⟨b0,0,none⟩,l0.length,rfl,z02 hr 0,lit_nums (l:=l0) h0 (i64s _ s0),fun a e=>?_⟩
   cases e
   exact ⟨⟨hB.1,lt_of_block h0⟩,lt_of_block h0⟩
  | 1,_ =>
   refine ⟨br,0,some ⟨b1,0,none⟩,l1.length,rfl,z02 hr 1,lit_nums (l:=l1) h1 (i64s _ s1),fun a e=>?_⟩
   cases e
   exact ⟨⟨hB.2.1,lt_of_block h1⟩,lt_of_block h1⟩
theorem two_cells18 {W:World} {g:Nat} {t:TypeId} {x y:Value} (h:W.heap[g]?=some (.cells #[x,y] t (0,0))):W.cell? ⟨g,0,none⟩=some x∧W.cell? ⟨g,1,none⟩=some y:=⟨z02 h 0,z02 h 1⟩
def oL:List (List Int):=[[0,1,2],[3,4]]
theorem oL_good:goodB 0 oL=true:=by decide +kernel
theorem old18_any (w:World):Calls Tryz.prog 24 #[] w fun e w'=>∃ ao:Option Addr,e=.returned (.agg #[.int .i64 0,.slice ao 2 2])∧CG (fun k=>w.heap.size≤k∧k < w'.heap.size) w' (.slice ao 2 2) oL∧Below w.heap.size w w':=by
 obtain ⟨h0,h1,h2,h3,hs,hb⟩:=four_new18 w (.cells #[.int .i64 0,.slice (some ⟨w.heap.size+1+1+1,0,none⟩) 2 2] 24) (.cells #[.int .i64 0,.int .i64 1,.int .i64 2] 3) (.cells #[.int .i64 3,.int .i64 4] 3) (.cells #[.slice (some ⟨w.heap.size+1,0,none⟩) 3 3,.slice (some ⟨w.heap.size+1+1,0,none⟩) 2 2] 65)
 have HC:=Lh (two_cg18 (B:=w.heap.size) (l0:=[0,1,2]) (l1:=[3,4]) ⟨by omega,by omega,by omega⟩ (by simp) (by simp) h1 h2 h3)
 have HB:=Lh hb
 have HP:=Lh h0
 clear h0 h1 h2 h3 hs hb
 go_enter Tryz.func24,Tryz.ntmps24
 go_wp2_with fail
 exact proj_ret rfl HP.out rfl rfl ⟨_,rfl,HC.out,HB.out⟩
section
variable {UG:Nat→Nat→(Nat→Prop)→World→Us→Prop} {OG:Nat→(Nat→Prop)→World→Od→Prop} {LG:Nat→(Nat→Prop)→World→Ly→Prop} {NG:Nat→(Nat→Prop)→World→Nd→Prop} {HG:Nat→Nat→(Nat→Prop)→World→Hd→Prop} {AG:Nat→(Nat→Prop)→World→Ap→Prop} {FG:Nat→(Nat→Prop)→World→Fe→Prop} {RG:Nat→(Nat→Prop)→World→Rf→Prop}
theorem put_rec (HS:HandSays UG OG LG NG HG) (AS:AppSays AG) (b nb:Nat) (X:Nat→Prop) (w:World) (h0:Hd) (hs:Solo (HG b nb) X w h0) (E:Int) (M:List (List Int)) (m:Nat) (txt:Nat→ByteArray) (hR:RecN E M h0.n m txt) (hm:m < 14) (S:ByteArray) (hS:txt m=S) (hz:S.size≤4096)
  (ao:Option Addr) (k:Nat) (hk:M.length=k) (hC:CL w ao M) (hn:ao=none→k=0) :
  Calls Tryz.prog 26 #[.pointer (some ⟨b,0,none⟩),.agg #[.int .i64 E,.slice ao k k],.string S] w fun e w'=>e=.returned (.int .i64 m)∧∃ h':Hd,RecN E M h'.n (m+1) txt∧Solo (HG b nb) X w' h'∧Kept X w w':=by
 subst hk hS
 refine (putRec_any HS AS b nb X w h0 hs E M m (hR.put hm) (by have:=hR.used;omega) E M (.inl ⟨rfl,rfl⟩) (txt m) hz ao M.length hC hn (Nat.le_refl _)).mono ?_
 rintro e w' ⟨he,h',hp,h7,h8⟩
 exact ⟨he,h',hR.next hm hp,h7,h8⟩
theorem put_old (HS:HandSays UG OG LG NG HG) (AS:AppSays AG) (b nb:Nat) (X:Nat→Prop) (w:World) (h0:Hd) (hs:Solo (HG b nb) X w h0) {E:Int} {M:List (List Int)} {qe:Int} {qL:List (List Int)} {m:Nat} {txt:Nat→ByteArray} (Q:QN M qe qL m txt h0.n) (hx:nextB E M qe qL=true) (hm:m < 14) (S:ByteArray) (hz:S.size≤4096)
  (ao:Option Addr) (k:Nat) (hk:M.length=k) (hC:CL w ao M) (hn:ao=none→k=0) :
  Calls Tryz.prog 26 #[.pointer (some ⟨b,0,none⟩),.agg #[.int .i64 E,.slice ao k k],.string S] w fun e w'=>e=.returned (.int .i64 m)∧∃ h':Hd,PutN qe qL h0.n m S h'.n (lenG qe qL m)∧Solo (HG b nb) X w' h'∧Kept X w w':=by
 subst hk
 obtain ⟨g1,g2,g3,_⟩:=nextB_iff.1 hx
 exact putRec_any HS AS b nb X w h0 hs qe qL m (Q.put g2 hm) (by have:=Q.used;omega) E M (.inr ⟨by omega,g1⟩) S hz ao M.length hC hn (Nat.le_refl _)
theorem get_q (HS:HandSays UG OG LG NG HG) (FS:FetchSays FG) (b nb:Nat) (X:Nat→Prop) (w:World) (h0:Hd) (hs:Solo (HG b nb) X w h0) {E:Int} {M:List (List Int)} {qe:Int} {qL:List (List Int)} {m:Nat} {txt:Nat→ByteArray} (Q:QN M qe qL m txt h0.n) (hx:nextB E M qe qL=true) (i:Nat) (hi:i < m) (h14:m≤14) (hS:(txt i).size≤4096) (ep:Int) (L:List (List Int)) (hL:(ep=qe∧L=qL)∨(ep=E∧L=M))
  (ao:Option Addr) (cap:Nat) (k:Nat) (hk:L.length=k) (hC:CL w ao L) (hn:ao=none→cap=0) (hc:k≤cap) :
  Calls Tryz.prog 37 #[.pointer (some ⟨b,0,none⟩),.agg #[.int .i64 ep,.slice ao k cap],.int .i64 i,.bool true,.slice none 0 0] w fun e w'=>e=.returned (.tuple #[.int .i64 1,.string (txt i),.int .i64 0,.bool true])∧∃ h':Hd,QN M qe qL m txt h'.n∧Solo (HG b nb) X w' h'∧Kept X w w':=by
 subst hk
 obtain ⟨g1,g2,g3,_⟩:=nextB_iff.1 hx
 have ha:=Q.ad g2 i (by omega)
 have hG:=Q.get ha (by omega)
 have hof:ofB E M (i:Int)=true:=ofB_iff.2 ⟨g1,by omega,by omega⟩
 refine (get_any HS FS b nb X w h0 hs qe qL 1 (txt i) i true hG ha Q.le Q.lL (fun _=>hS) (by have:=Q.used;omega) ep L ?_ ao cap hC hn hc none 0).mono ?_
 ·rcases hL with ⟨rfl,rfl⟩ | ⟨rfl,rfl⟩
  ·exact .inl ⟨rfl,rfl⟩
  ·refine .inr ⟨hof,by omega,?_⟩
   have hlen:=z1b hof
   have hm:=unG_mem (j:=lenG ep L (i:Int) - 1) hof (by omega)
   rcases Q.shut _ hm with e | e
   ·rw [Int.toNat_natCast] at e;exact .inl e
   ·rw [Int.toNat_natCast] at e;exact .inr (by rw [e];omega)
 ·rintro e w' ⟨he,h',⟨hN,hall⟩,h7,h8⟩
  exact ⟨he,h',Q.fetched ha (by omega) hN hall,h7,h8⟩
end
def NewR (w:World) (r:Rf) (e:Ending) (w':World):Prop:=∃ (b:Nat) (G:Nat→Prop),e=.returned (ptrP b)∧RfM b G w' r∧(∀ k,G k→w.heap.size≤k)∧Below w.heap.size w w'
theorem newr_ended {w w4 w5:World} {b:Nat} {G:Nat→Prop} {r:Rf} (hB:∀ k,G k→w.heap.size≤k) (hb:Below w.heap.size w w4) (hl:Leaves (RfM b) G w4 w5 r):NewR w r (.returned (.pointer (some ⟨b,0,none⟩))) w5:=by
 obtain ⟨G',r1,r2,r3⟩:=hl
 refine ⟨b,G',rfl,r1,fun k hk=>?_,hb.trans (kept_low r2 (fun k hk hg=>by have:=hB k hg;omega) hb.size)⟩
 rcases r3 k hk with h | h
 ·exact hB k h
 ·exact Nat.le_trans hb.size h
def zeroR:Rf:=⟨0,[],0,[],1,0,[],0⟩
theorem rm_zero (w:World):RfM w.heap.size (fun k=>k=w.heap.size) (w.alloc (.cells #[.int .i64 0,.slice none 0 0,.int .i64 0,.slice none 0 0,.int .i64 0,.slice none 0 0,.map none,.int .i64 0] 93)) zeroR :=
 ⟨rfl,fun k hk=>by subst hk;exact lt_of_block (heap_alloc_new w (.cells #[.int .i64 0,.slice none 0 0,.int .i64 0,.slice none 0 0,.int .i64 0,.slice none 0 0,.map none,.int .i64 0] 93)),.inr ⟨(by decide:(1:Int)≠5),⟨⟨(by decide:(1:Int)≤1),(by decide:(1:Int)≤4)⟩,few_nil,few_nil,fun _=>⟨rfl,rfl,rfl⟩,fun g=>absurd g (by decide:(1:Int)≠2),fun u hu=>absurd hu List.not_mem_nil,List.Pairwise.nil,Nat.zero_le _,fun x hx=>absurd hx List.not_mem_nil,Nat.le_refl _⟩,
  _,_,_,_,fun _=>False,heap_alloc_new w (.cells #[.int .i64 0,.slice none 0 0,.int .i64 0,.slice none 0 0,.int .i64 0,.slice none 0 0,.map none,.int .i64 0] 93),⟨CG.no _ _,CG.no _ _,⟨none,0,rfl,NLI.nil _,fun a e=>by cases e⟩⟩,.inl ⟨rfl,rfl⟩,fun k hk=>hk.elim⟩⟩
theorem Leaves.toR {b:Nat} {G:Nat→Prop} {w w':World} {r r':Rf} (h:Leaves (RfM b) G w w' r) (h5:r.at_=5) (h5':r'.at_=5) (he:r'.e=r.e):Leaves (RfM b) G w w' r':=by
 obtain ⟨H,h1,h2,h3⟩:=h
 exact ⟨H,⟨h1.1,h1.2.1,.inl ⟨h5',by rw [he];exact h1.shut h5⟩⟩,h2,h3⟩
theorem mp_new (ep:Int) (ao:Option Addr) (cap:Nat) (L:List (List Int)) (w:World) (hc:CL w ao L) (hf:fewL L) :
  Calls Tryz.prog 10 #[.agg #[.int .i64 ep,.slice ao L.length cap]] w (NewR w (newRf ep L)):=by
 have HB:=Lh (z00 w (.cells #[.int .i64 ep,.slice ao L.length cap] 24))
 have HC:=Lh (hc.below HB.out)
 have HX:=Lh (heap_alloc_new w (.cells #[.int .i64 ep,.slice ao L.length cap] 24))
 obtain ⟨x0,x1,_⟩:=z05 HX.out
 have CC:=Lh (fun W (hC:CL W ao L)=>z14 ep ao cap L W hC hf)
 have CGD:=Lh (fun W (hC:CL W ao L)=>z0m ep ao cap L W hC hf)
 have HF:=Lh hf
 have hs1:(w.alloc (.cells #[.int .i64 ep,.slice ao L.length cap] 24)).heap.size=w.heap.size+1:=by simp
 have HS:=Lh (show w.heap.size≤(w.alloc (.cells #[.int .i64 ep,.slice ao L.length cap] 24)).heap.size from by omega)
 have hsl:w.heap.size < (w.alloc (.cells #[.int .i64 ep,.slice ao L.length cap] 24)).heap.size:=by omega
 unfold newRf
 clear hc hf
 have hz:=rm_zero (w.alloc (.cells #[.int .i64 ep,.slice ao L.length cap] 24))
 rw [hs1] at hz
 have HZ:=Lh hz
 have HBZ:=Lh (HB.out.trans ((z00 (w.alloc (.cells #[.int .i64 ep,.slice ao L.length cap] 24)) (.cells #[.int .i64 0,.slice none 0 0,.int .i64 0,.slice none 0 0,.int .i64 0,.slice none 0 0,.map none,.int .i64 0] 93)).mono HB.out.size))
 have HCZ:=Lh (HC.out.below (z00 (w.alloc (.cells #[.int .i64 ep,.slice ao L.length cap] 24)) (.cells #[.int .i64 0,.slice none 0 0,.int .i64 0,.slice none 0 0,.int .i64 0,.slice none 0 0,.map none,.int .i64 0] 93)))
 have HXZ:=Lh (z01 (z00 (w.alloc (.cells #[.int .i64 ep,.slice ao L.length cap] 24)) (.cells #[.int .i64 0,.slice none 0 0,.int .i64 0,.slice none 0 0,.int .i64 0,.slice none 0 0,.map none,.int .i64 0] 93)) HX.out)
 clear hz hs1
 obtain ⟨y0,y1,_⟩:=z05 HXZ.out
 cases hg:goodB ep L with
 | true =>
  rw [if_pos rfl]
  rw [hg] at CGD
  go_enter Tryz.func10,Tryz.ntmps10
  go_wp2_with (first | (go_at_call 44;refine (CGD.out _ HCZ.out).mono ?_;rintro e w5 ⟨rfl,hb5⟩;have HT5:=Lh (HZ.out.below hb5);have HB5:=Lh (HBZ.out.trans (hb5.mono HBZ.out.size));have HC5:=Lh (HCZ.out.below hb5);have HX5:=Lh (z01 hb5 HXZ.out);obtain ⟨z0,z1,_⟩:=z05 HX5.out;clear hb5) | (go_at_call 46;refine (CC.out _ HC5.out).mono ?_;rintro e w6 ⟨v,rfl,hO,hb6⟩;obtain ⟨vo,vc,hv,_⟩:=hO.form;subst hv;have HO:=Lh hO;have B6:=Lh hb6;have HT6:=Lh (HT5.out.below hb6);obtain ⟨u0,u1,u2,u3,u5,u6,u7,h6⟩:=HT6.out.cells;obtain ⟨⟨c0,c1,c2,c3,c4,c5,c6,c7⟩,f0,f1,f2,f3,f4,f5,f6,f7⟩:=z03 h6;have H6:=Lh h6;have hb:=lt_of_block h6;clear hO hb6 h6))
  obtain ⟨_,v1,v2,v3,v4,F,q1,⟨_,ho,hl⟩,hm,hF⟩:=HT5.out.open (by decide:(1:Int)≠5)
  have hk6:=Kept.ofBelow B6.out (fun k=>k≠w.heap.size+1)
  have hkV:=((Kept.refl (fun k=>k≠w.heap.size+1) w6).setCell (p:=⟨w.heap.size+1,0,none⟩) (fun h=>h rfl) (.int .i64 ep)).setCell (p:=⟨w.heap.size+1,1,none⟩) (fun h=>h rfl) (.slice vo L.length vc)
  have hV:=z23 (z24 (z01 B6.out q1) (.int .i64 ep)) (.slice vo L.length vc)
  have hsV:=hkV.size
  have hs6:=B6.out.size
  have hb5:=HT5.out.small
  have hO2:=CG.of HO.out
  go_ret
  generalize (World.setCell w6 _ _).setCell _ _=V at *
  refine newr_ended (G:=fun k=>k=w.heap.size+1) (fun k hk=>by omega) HB5.out (HT5.out.lay (r':=⟨ep,L,0,[],1,0,[],0⟩) (D:=fun k=>F k∨(w5.heap.size≤k∧k < w6.heap.size)) (fun k hk=>?_) ((hk6.trans hkV).mono (fun k hk=>hk)) (by decide:(1:Int)≠5) ⟨⟨(by decide:(1:Int)≤1),(by decide:(1:Int)≤4)⟩,HF.out,few_nil,fun _=>⟨rfl,rfl,rfl⟩,fun g=>absurd g (by decide:(1:Int)≠2),fun u hu=>absurd hu List.not_mem_nil,List.Pairwise.nil,Nat.zero_le _,fun x hx=>absurd hx List.not_mem_nil,Nat.le_refl _⟩
   ⟨(hO2.keep hkV (fun k hk=>by have:=hk.1;omega)).mono (fun k h=>.inr h),(ho.keep (hk6.trans hkV) (fun k hk=>(hF k hk).2)).mono (fun k h=>.inl h),(hl.keep (hk6.trans hkV) (fun k hk=>(hF k hk).2)).mono (fun k h=>.inl h)⟩ (.inl ⟨rfl,?_⟩) hV)
  ·rcases hk with g | g
   ·exact absurd (hF k g).1 (hF k g).2
   ·exact ⟨.inr ⟨g.1,by omega⟩,by omega⟩
  ·rcases hm with ⟨_,g⟩ | ⟨g,_⟩
   ·exact g
   ·exact absurd rfl g
 | false =>
  rw [if_neg Bool.noConfusion]
  rw [hg] at CGD
  go_enter Tryz.func10,Tryz.ntmps10
  go_wp2_with (first | (go_at_call 44;refine (CGD.out _ HCZ.out).mono ?_;rintro e w5 ⟨rfl,hb5⟩;have HT5:=Lh (HZ.out.below hb5);have HB5:=Lh (HBZ.out.trans (hb5.mono HBZ.out.size));clear hb5) | (go_at_call 45;refine (mp_end _ _ _ _ _ HT5.out).mono ?_;rintro e w9 ⟨rfl,hl⟩;have HL9:=Lh hl;clear hl))
  go_ret
  exact newr_ended (fun k hk=>by omega) HB5.out (HL9.out.toR rfl rfl rfl)
end Go.Proofs.YtkefpbcifcjibaaGreat
