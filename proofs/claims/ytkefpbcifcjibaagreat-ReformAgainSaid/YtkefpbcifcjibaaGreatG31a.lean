/- Joined texts. -/
import Derived.Test.YtkefpbcifcjibaaGreatG30a
import Derived.Test.YtkefpbcifcjibaaGreatG19a
import Derived.Test.YtkefpbcifcjibaaGreatG13a
import Derived.Test.YtkefpbcifcjibaaGreatH00
set_option linter.unusedVariables false
set_option maxRecDepth 20000
set_option maxHeartbeats 16000000
namespace Go.Proofs.YtkefpbcifcjibaaGreat
open Go.RowKit
theorem ap_wt {q p:Qa} {c:Int} {v:Bool} (hwt:q.waits c=v) (b:Nat) (H:Nat→Prop) (W:World) (hp:p.at_=q.at_) (h:AQ b H W p):Calls Tryz.prog 74 #[ptrP b,.int .i64 c] W fun e w'=>e=.returned (.bool v)∧W=w':=by
 have e:p.waits c=v:=by rw [← hwt];unfold Qa.waits;rw [hp]
 rw [← e]
 exact ap_waits b H W p c h
theorem hr_over (hc:Bool) (b:Nat) (G:Nat→Prop) (w:World) (q:Qa) (xc xn:Int) (xd:ByteArray) (xe:Int) (xL:List (List Int)) (xm xs xy:Int) (xo:Option Addr) (xp:Nat) (h:AQ b G w q) (hf:fewL xL) (hx:CL w xo xL) (hq:fewL q.L) (ha:q.at_=5) :
  Calls Tryz.prog 40 #[ptrP b,.agg #[.int .i64 xc,.int .i64 xn,.string xd,.int .i64 xe,.slice xo xL.length xp,.int .i64 xm,.int .i64 xs,.int .i64 xy],.bool hc] w fun e w'=>e=.returned (.tuple #[])∧Leaves (AQ b) G w w' (q):=by
 obtain ⟨HG,HB,HX,HA,⟨x0,x1,x2,x3,x4,x5,x6,x7⟩,ao,cap,⟨c0,c1,c2,c3,c4,c5,c6,c7,c8⟩,⟨f0,f1,f2,f3,f4,f5,f6,f7,f8⟩,hb,HC1,H1,H3⟩:=z0f h xc xn xd xe xo xL.length xp xm xs xy rfl
 have C:=Lh (fun w (h:AQ b G w q)=>z0u b G w q h)
 rw [decide_eq_true ha] at C
 rw [ha] at c3
 clear h hf hx hq
 unfold ptrP at *
 go_enter Tryz.func40,Tryz.ntmps40
 go_wp2_with (go_at_call 72;refine (C.out _ HA.out).mono ?_;rintro e w1 ⟨rfl,rfl⟩)
 exact bodyPost_ret (results_none rfl _ _ _) rfl ⟨rfl,(Leaves.same (z1f b) HA.out (Below.refl _ _)).ahead HG.out HB.out⟩
theorem hr_s1 (b:Nat) (G:Nat→Prop) (w:World) (q:Qa) (xc xn:Int) (xd:ByteArray) (xe:Int) (xL:List (List Int)) (xm xs xy:Int) (xo:Option Addr) (xp:Nat) (h:AQ b G w q) (hf:fewL xL) (hx:CL w xo xL) (hq:fewL q.L) (ha:q.at_=3) :
  Calls Tryz.prog 40 #[ptrP b,.agg #[.int .i64 xc,.int .i64 xn,.string xd,.int .i64 xe,.slice xo xL.length xp,.int .i64 xm,.int .i64 xs,.int .i64 xy],.bool false] w fun e w'=>e=.returned (.tuple #[])∧Leaves (AQ b) G w w' (q.stand):=by
 obtain ⟨HG,HB,HX,HA,⟨x0,x1,x2,x3,x4,x5,x6,x7⟩,ao,cap,⟨c0,c1,c2,c3,c4,c5,c6,c7,c8⟩,⟨f0,f1,f2,f3,f4,f5,f6,f7,f8⟩,hb,HC1,H1,H3⟩:=z0f h xc xn xd xe xo xL.length xp xm xs xy rfl
 have C:=Lh (fun w (h:AQ b G w q)=>z0u b G w q h)
 rw [decide_eq_false (p:=q.at_=5) (by omega)] at C
 rw [ha] at c3
 clear h hf hx hq
 unfold ptrP at *
 go_enter Tryz.func40,Tryz.ntmps40
 go_wp2_with (go_at_call 72;refine (C.out _ HA.out).mono ?_;rintro e w1 ⟨rfl,rfl⟩)
 exact bodyPost_ret (results_none rfl _ _ _) rfl ⟨rfl,(H3.out _ q.stand ((Kept.refl _ _).setCell (p:=⟨b,7,none⟩) (fun h=>h rfl) _) rfl (nset7 H1.out _)).ahead HG.out HB.out⟩
theorem hr_s2 (b:Nat) (G:Nat→Prop) (w:World) (q:Qa) (xc xn:Int) (xd:ByteArray) (xe:Int) (xL:List (List Int)) (xm xs xy:Int) (xo:Option Addr) (xp:Nat) (h:AQ b G w q) (hf:fewL xL) (hx:CL w xo xL) (hq:fewL q.L) (ha:q.at_=3) (hat:q.at_=2∨q.at_=3∨q.at_=4) (hub:q.at_≠2→0≤q.unit∧q.unit≤100) (hwt:q.waits 0=false)  :
  Calls Tryz.prog 40 #[ptrP b,.agg #[.int .i64 0,.int .i64 xn,.string xd,.int .i64 xe,.slice xo xL.length xp,.int .i64 xm,.int .i64 xs,.int .i64 xy],.bool true] w fun e w'=>e=.returned (.tuple #[])∧Leaves (AQ b) G w w' (q.stand.step ⟨0,xn,xd,xe,xL,xm,xs,xy⟩):=by
 obtain ⟨HG,HB,HX,HA,⟨x0,x1,x2,x3,x4,x5,x6,x7⟩,ao,cap,⟨c0,c1,c2,c3,c4,c5,c6,c7,c8⟩,⟨f0,f1,f2,f3,f4,f5,f6,f7,f8⟩,hb,HC1,H1,H3⟩:=z0f h 0 xn xd xe xo xL.length xp xm xs xy rfl
 have C:=Lh (fun w (h:AQ b G w q)=>z0u b G w q h)
 rw [decide_eq_false (p:=q.at_=5) (by omega)] at C
 have hwb:¬ w.heap.size=b:=fun e=>by have:=h.small;omega
 have CX:=Lh (fun W H h=>ap_step b H W q.stand ⟨0,xn,xd,xe,xL,xm,xs,xy⟩ xo xp h hq hat hub)
 have CW:=Lh (fun W H p hp h=>ap_wt hwt b H W (p:=p) hp h)
 rw [ha] at c3
 clear h hf hx hq
 unfold ptrP at *
 go_enter Tryz.func40,Tryz.ntmps40
 go_wp2_with (go_at_call 72;refine (C.out _ HA.out).mono ?_;rintro e w1 ⟨rfl,rfl⟩)
 have HS:=Lh (H3.out _ q.stand ((Kept.refl _ (w.alloc (.cells #[.int .i64 0,.int .i64 xn,.string xd,.int .i64 xe,.slice xo xL.length xp,.int .i64 xm,.int .i64 xs,.int .i64 xy] 49))).setCell (p:=⟨b,7,none⟩) (fun h=>h rfl) (.bool true)) rfl (nset7 H1.out _))
 obtain ⟨H,hA2,hU⟩:=lv_use (fun k hk=>(z1f b).lt HA.out k hk) HS.out
 have HA2:=Lh hA2
 have HU:=Lh hU
 have HX2:=Lh (((Kept.refl (fun k=>k≠b) (w.alloc (.cells #[.int .i64 0,.int .i64 xn,.string xd,.int .i64 xe,.slice xo xL.length xp,.int .i64 xm,.int .i64 xs,.int .i64 xy] 49))).setCell (p:=⟨b,7,none⟩) (fun h=>h rfl) (.bool true)).heap hwb HX.out)
 clear hA2 hU x0 x1 x2 x3 x4 x5 x6 x7 c0 c1 c2 c3 c4 c5 c6 c7 c8 f0 f1 f2 f3 f4 f5 f6 f7 f8
 generalize World.setCell (w.alloc (.cells #[.int .i64 0,.int .i64 xn,.string xd,.int .i64 xe,.slice xo xL.length xp,.int .i64 xm,.int .i64 xs,.int .i64 xy] 49)) _ _=w2 at *
 obtain ⟨⟨x0,x1,x2,x3,x4,x5,x6,x7⟩,_⟩:=z03 HX2.out
 obtain ⟨a2,k2,g1,_⟩:=HA2.out.open
 dsimp only [Qa.stand] at g1
 obtain ⟨⟨c0,c1,c2,c3,c4,c5,c6,c7,c8⟩,_⟩:=z0g g1
 rw [ha] at c3
 go_wp2_with (first
  | (go_at_call 74;refine (CW.out _ _ q.stand rfl HA2.out).mono ?_;rintro e w3 ⟨rfl,rfl⟩)
  | (go_at_call 76;refine (CX.out _ _ HA2.out).mono ?_;rintro e w9 ⟨rfl,hl⟩;have HL:=Lh hl;clear hl))
 go_end0
 exact ⟨rfl,(HU.out _ _ HL.out).ahead HG.out HB.out⟩
theorem hr_n1 (b:Nat) (G:Nat→Prop) (w:World) (q:Qa) (xc xn:Int) (xd:ByteArray) (xe:Int) (xL:List (List Int)) (xm xs xy:Int) (xo:Option Addr) (xp:Nat) (h:AQ b G w q) (hf:fewL xL) (hx:CL w xo xL) (hq:fewL q.L) (n3:¬ q.at_=3) (n5:¬ q.at_=5) :
  Calls Tryz.prog 40 #[ptrP b,.agg #[.int .i64 xc,.int .i64 xn,.string xd,.int .i64 xe,.slice xo xL.length xp,.int .i64 xm,.int .i64 xs,.int .i64 xy],.bool false] w fun e w'=>e=.returned (.tuple #[])∧Leaves (AQ b) G w w' (q):=by
 obtain ⟨HG,HB,HX,HA,⟨x0,x1,x2,x3,x4,x5,x6,x7⟩,ao,cap,⟨c0,c1,c2,c3,c4,c5,c6,c7,c8⟩,⟨f0,f1,f2,f3,f4,f5,f6,f7,f8⟩,hb,HC1,H1,H3⟩:=z0f h xc xn xd xe xo xL.length xp xm xs xy rfl
 have C:=Lh (fun w (h:AQ b G w q)=>z0u b G w q h)
 rw [decide_eq_false (p:=q.at_=5) (by omega)] at C
 have e3:(q.at_ == 3)=false:=by simpa using (show ¬ q.at_=3 by omega)
 clear h hf hx hq
 unfold ptrP at *
 go_enter Tryz.func40,Tryz.ntmps40
 go_wp2_with (go_at_call 72;refine (C.out _ HA.out).mono ?_;rintro e w1 ⟨rfl,rfl⟩)
 exact bodyPost_ret (results_none rfl _ _ _) rfl ⟨rfl,(Leaves.same (z1f b) HA.out (Below.refl _ _)).ahead HG.out HB.out⟩
theorem hr_n2a (b:Nat) (G:Nat→Prop) (w:World) (q:Qa) (xc xn:Int) (xd:ByteArray) (xe:Int) (xL:List (List Int)) (xm xs xy:Int) (xo:Option Addr) (xp:Nat) (h:AQ b G w q) (hf:fewL xL) (hx:CL w xo xL) (hq:fewL q.L) (ha:q.at_=3) (n0:¬ xc=0) (hwt:q.waits xc=true)  :
  Calls Tryz.prog 40 #[ptrP b,.agg #[.int .i64 xc,.int .i64 xn,.string xd,.int .i64 xe,.slice xo xL.length xp,.int .i64 xm,.int .i64 xs,.int .i64 xy],.bool true] w fun e w'=>e=.returned (.tuple #[])∧Leaves (AQ b) G w w' (q):=by
 obtain ⟨HG,HB,HX,HA,⟨x0,x1,x2,x3,x4,x5,x6,x7⟩,ao,cap,⟨c0,c1,c2,c3,c4,c5,c6,c7,c8⟩,⟨f0,f1,f2,f3,f4,f5,f6,f7,f8⟩,hb,HC1,H1,H3⟩:=z0f h xc xn xd xe xo xL.length xp xm xs xy rfl
 have C:=Lh (fun w (h:AQ b G w q)=>z0u b G w q h)
 rw [decide_eq_false (p:=q.at_=5) (by omega)] at C
 have e0:(xc == 0)=false:=by simpa using n0
 have CW:=Lh (fun W H p hp h=>ap_wt hwt b H W (p:=p) hp h)
 rw [ha] at c3
 clear h hf hx hq
 unfold ptrP at *
 go_enter Tryz.func40,Tryz.ntmps40
 go_wp2_with (first | (go_at_call 72;refine (C.out _ HA.out).mono ?_;rintro e w1 ⟨rfl,rfl⟩) | (go_at_call 74;refine (CW.out _ _ q rfl HA.out).mono ?_;rintro e w1 ⟨rfl,rfl⟩))
 exact bodyPost_ret (results_none rfl _ _ _) rfl ⟨rfl,(Leaves.same (z1f b) HA.out (Below.refl _ _)).ahead HG.out HB.out⟩
theorem hr_n2b (b:Nat) (G:Nat→Prop) (w:World) (q:Qa) (xc xn:Int) (xd:ByteArray) (xe:Int) (xL:List (List Int)) (xm xs xy:Int) (xo:Option Addr) (xp:Nat) (h:AQ b G w q) (hf:fewL xL) (hx:CL w xo xL) (hq:fewL q.L) (n3:¬ q.at_=3) (n5:¬ q.at_=5) (hwt:q.waits xc=true)  :
  Calls Tryz.prog 40 #[ptrP b,.agg #[.int .i64 xc,.int .i64 xn,.string xd,.int .i64 xe,.slice xo xL.length xp,.int .i64 xm,.int .i64 xs,.int .i64 xy],.bool true] w fun e w'=>e=.returned (.tuple #[])∧Leaves (AQ b) G w w' (q):=by
 obtain ⟨HG,HB,HX,HA,⟨x0,x1,x2,x3,x4,x5,x6,x7⟩,ao,cap,⟨c0,c1,c2,c3,c4,c5,c6,c7,c8⟩,⟨f0,f1,f2,f3,f4,f5,f6,f7,f8⟩,hb,HC1,H1,H3⟩:=z0f h xc xn xd xe xo xL.length xp xm xs xy rfl
 have C:=Lh (fun w (h:AQ b G w q)=>z0u b G w q h)
 rw [decide_eq_false (p:=q.at_=5) (by omega)] at C
 have CW:=Lh (fun W H p hp h=>ap_wt hwt b H W (p:=p) hp h)
 have e3:(q.at_ == 3)=false:=by simpa using (show ¬ q.at_=3 by omega)
 clear h hf hx hq
 unfold ptrP at *
 go_enter Tryz.func40,Tryz.ntmps40
 go_wp2_with (first | (go_at_call 72;refine (C.out _ HA.out).mono ?_;rintro e w1 ⟨rfl,rfl⟩) | (go_at_call 74;refine (CW.out _ _ q rfl HA.out).mono ?_;rintro e w1 ⟨rfl,rfl⟩))
 exact bodyPost_ret (results_none rfl _ _ _) rfl ⟨rfl,(Leaves.same (z1f b) HA.out (Below.refl _ _)).ahead HG.out HB.out⟩
theorem hr_n3a (b:Nat) (G:Nat→Prop) (w:World) (q:Qa) (xc xn:Int) (xd:ByteArray) (xe:Int) (xL:List (List Int)) (xm xs xy:Int) (xo:Option Addr) (xp:Nat) (h:AQ b G w q) (hf:fewL xL) (hx:CL w xo xL) (hq:fewL q.L) (ha:q.at_=3) (hwt:q.waits 40=false)  :
  Calls Tryz.prog 40 #[ptrP b,.agg #[.int .i64 40,.int .i64 xn,.string xd,.int .i64 xe,.slice xo xL.length xp,.int .i64 xm,.int .i64 xs,.int .i64 xy],.bool true] w fun e w'=>e=.returned (.tuple #[])∧Leaves (AQ b) G w w' (q.to 0):=by
 obtain ⟨HG,HB,HX,HA,⟨x0,x1,x2,x3,x4,x5,x6,x7⟩,ao,cap,⟨c0,c1,c2,c3,c4,c5,c6,c7,c8⟩,⟨f0,f1,f2,f3,f4,f5,f6,f7,f8⟩,hb,HC1,H1,H3⟩:=z0f h 40 xn xd xe xo xL.length xp xm xs xy rfl
 have C:=Lh (fun w (h:AQ b G w q)=>z0u b G w q h)
 rw [decide_eq_false (p:=q.at_=5) (by omega)] at C
 have CW:=Lh (fun W H p hp h=>ap_wt hwt b H W (p:=p) hp h)
 rw [ha] at c3
 clear h hf hx hq
 unfold ptrP at *
 go_enter Tryz.func40,Tryz.ntmps40
 go_wp2_with (first | (go_at_call 72;refine (C.out _ HA.out).mono ?_;rintro e w1 ⟨rfl,rfl⟩) | (go_at_call 74;refine (CW.out _ _ q rfl HA.out).mono ?_;rintro e w1 ⟨rfl,rfl⟩))
 go_end0
 exact ⟨rfl,(H3.out _ (q.to 0) ((Kept.refl _ _).setCell (p:=⟨b,3,none⟩) (fun h=>h rfl) _) rfl (nset3 H1.out _)).ahead HG.out HB.out⟩
theorem hr_n3b (b:Nat) (G:Nat→Prop) (w:World) (q:Qa) (xc xn:Int) (xd:ByteArray) (xe:Int) (xL:List (List Int)) (xm xs xy:Int) (xo:Option Addr) (xp:Nat) (h:AQ b G w q) (hf:fewL xL) (hx:CL w xo xL) (hq:fewL q.L) (n3:¬ q.at_=3) (n5:¬ q.at_=5) (hwt:q.waits 40=false)  :
  Calls Tryz.prog 40 #[ptrP b,.agg #[.int .i64 40,.int .i64 xn,.string xd,.int .i64 xe,.slice xo xL.length xp,.int .i64 xm,.int .i64 xs,.int .i64 xy],.bool true] w fun e w'=>e=.returned (.tuple #[])∧Leaves (AQ b) G w w' (q.to 0):=by
 obtain ⟨HG,HB,HX,HA,⟨x0,x1,x2,x3,x4,x5,x6,x7⟩,ao,cap,⟨c0,c1,c2,c3,c4,c5,c6,c7,c8⟩,⟨f0,f1,f2,f3,f4,f5,f6,f7,f8⟩,hb,HC1,H1,H3⟩:=z0f h 40 xn xd xe xo xL.length xp xm xs xy rfl
 have C:=Lh (fun w (h:AQ b G w q)=>z0u b G w q h)
 rw [decide_eq_false (p:=q.at_=5) (by omega)] at C
 have CW:=Lh (fun W H p hp h=>ap_wt hwt b H W (p:=p) hp h)
 have e3:(q.at_ == 3)=false:=by simpa using (show ¬ q.at_=3 by omega)
 clear h hf hx hq
 unfold ptrP at *
 go_enter Tryz.func40,Tryz.ntmps40
 go_wp2_with (first | (go_at_call 72;refine (C.out _ HA.out).mono ?_;rintro e w1 ⟨rfl,rfl⟩) | (go_at_call 74;refine (CW.out _ _ q rfl HA.out).mono ?_;rintro e w1 ⟨rfl,rfl⟩))
 go_end0
 exact ⟨rfl,(H3.out _ (q.to 0) ((Kept.refl _ _).setCell (p:=⟨b,3,none⟩) (fun h=>h rfl) _) rfl (nset3 H1.out _)).ahead HG.out HB.out⟩
theorem hr_n4a (b:Nat) (G:Nat→Prop) (w:World) (q:Qa) (xc xn:Int) (xd:ByteArray) (xe:Int) (xL:List (List Int)) (xm xs xy:Int) (xo:Option Addr) (xp:Nat) (h:AQ b G w q) (hf:fewL xL) (hx:CL w xo xL) (hq:fewL q.L) (ha:q.at_=3) (hwt:q.waits 45=false)  :
  Calls Tryz.prog 40 #[ptrP b,.agg #[.int .i64 45,.int .i64 xn,.string xd,.int .i64 xe,.slice xo xL.length xp,.int .i64 xm,.int .i64 xs,.int .i64 xy],.bool true] w fun e w'=>e=.returned (.tuple #[])∧Leaves (AQ b) G w w' (q.check):=by
 obtain ⟨HG,HB,HX,HA,⟨x0,x1,x2,x3,x4,x5,x6,x7⟩,ao,cap,⟨c0,c1,c2,c3,c4,c5,c6,c7,c8⟩,⟨f0,f1,f2,f3,f4,f5,f6,f7,f8⟩,hb,HC1,H1,H3⟩:=z0f h 45 xn xd xe xo xL.length xp xm xs xy rfl
 have C:=Lh (fun w (h:AQ b G w q)=>z0u b G w q h)
 rw [decide_eq_false (p:=q.at_=5) (by omega)] at C
 have CW:=Lh (fun W H p hp h=>ap_wt hwt b H W (p:=p) hp h)
 rw [ha] at c3
 clear h hf hx hq
 unfold ptrP at *
 go_enter Tryz.func40,Tryz.ntmps40
 go_wp2_with (first | (go_at_call 72;refine (C.out _ HA.out).mono ?_;rintro e w1 ⟨rfl,rfl⟩) | (go_at_call 74;refine (CW.out _ _ q rfl HA.out).mono ?_;rintro e w1 ⟨rfl,rfl⟩))
 go_end0
 exact ⟨rfl,(H3.out _ q.check (((Kept.refl _ _).setCell (p:=⟨b,3,none⟩) (fun h=>h rfl) _).setCell (p:=⟨b,4,none⟩) (fun h=>h rfl) _) rfl (ha ▸ nset4 (nset3 H1.out _) _)).ahead HG.out HB.out⟩
theorem hr_n4b (b:Nat) (G:Nat→Prop) (w:World) (q:Qa) (xc xn:Int) (xd:ByteArray) (xe:Int) (xL:List (List Int)) (xm xs xy:Int) (xo:Option Addr) (xp:Nat) (h:AQ b G w q) (hf:fewL xL) (hx:CL w xo xL) (hq:fewL q.L) (n3:¬ q.at_=3) (n5:¬ q.at_=5) (hwt:q.waits 45=false)  :
  Calls Tryz.prog 40 #[ptrP b,.agg #[.int .i64 45,.int .i64 xn,.string xd,.int .i64 xe,.slice xo xL.length xp,.int .i64 xm,.int .i64 xs,.int .i64 xy],.bool true] w fun e w'=>e=.returned (.tuple #[])∧Leaves (AQ b) G w w' (q.check):=by
 obtain ⟨HG,HB,HX,HA,⟨x0,x1,x2,x3,x4,x5,x6,x7⟩,ao,cap,⟨c0,c1,c2,c3,c4,c5,c6,c7,c8⟩,⟨f0,f1,f2,f3,f4,f5,f6,f7,f8⟩,hb,HC1,H1,H3⟩:=z0f h 45 xn xd xe xo xL.length xp xm xs xy rfl
 have C:=Lh (fun w (h:AQ b G w q)=>z0u b G w q h)
 rw [decide_eq_false (p:=q.at_=5) (by omega)] at C
 have CW:=Lh (fun W H p hp h=>ap_wt hwt b H W (p:=p) hp h)
 have e3:(q.at_ == 3)=false:=by simpa using (show ¬ q.at_=3 by omega)
 clear h hf hx hq
 unfold ptrP at *
 go_enter Tryz.func40,Tryz.ntmps40
 go_wp2_with (first | (go_at_call 72;refine (C.out _ HA.out).mono ?_;rintro e w1 ⟨rfl,rfl⟩) | (go_at_call 74;refine (CW.out _ _ q rfl HA.out).mono ?_;rintro e w1 ⟨rfl,rfl⟩))
 go_end0
 exact ⟨rfl,(H3.out _ q.check (((Kept.refl _ _).setCell (p:=⟨b,3,none⟩) (fun h=>h rfl) _).setCell (p:=⟨b,4,none⟩) (fun h=>h rfl) _) rfl (nset4 (nset3 H1.out _) _)).ahead HG.out HB.out⟩
theorem hr_n5 (b:Nat) (G:Nat→Prop) (w:World) (q:Qa) (xc xn:Int) (xd:ByteArray) (xe:Int) (xL:List (List Int)) (xm xs xy:Int) (xo:Option Addr) (xp:Nat) (h:AQ b G w q) (hf:fewL xL) (hx:CL w xo xL) (hq:fewL q.L) (ha:q.at_=0) (n40:¬ xc=40) (n45:¬ xc=45) (hwt:q.waits xc=false)  :
  Calls Tryz.prog 40 #[ptrP b,.agg #[.int .i64 xc,.int .i64 xn,.string xd,.int .i64 xe,.slice xo xL.length xp,.int .i64 xm,.int .i64 xs,.int .i64 xy],.bool true] w fun e w'=>e=.returned (.tuple #[])∧Leaves (AQ b) G w w' (q.learn ⟨xc,xn,xd,xe,xL,xm,xs,xy⟩):=by
 obtain ⟨HG,HB,HX,HA,⟨x0,x1,x2,x3,x4,x5,x6,x7⟩,ao,cap,⟨c0,c1,c2,c3,c4,c5,c6,c7,c8⟩,⟨f0,f1,f2,f3,f4,f5,f6,f7,f8⟩,hb,HC1,H1,H3⟩:=z0f h xc xn xd xe xo xL.length xp xm xs xy rfl
 have C:=Lh (fun w (h:AQ b G w q)=>z0u b G w q h)
 rw [decide_eq_false (p:=q.at_=5) (by omega)] at C
 have e40:(xc == 40)=false:=by simpa using n40
 have e45:(xc == 45)=false:=by simpa using n45
 have CX:=Lh (fun W h hx=>ap_learn b G W q ⟨xc,xn,xd,xe,xL,xm,xs,xy⟩ xo xp h hf hx)
 have CW:=Lh (fun W H p hp h=>ap_wt hwt b H W (p:=p) hp h)
 have HC:=Lh (hx.below HB.out)
 rw [ha] at c3
 clear h hf hx hq
 unfold ptrP at *
 go_enter Tryz.func40,Tryz.ntmps40
 go_wp2_with (first | (go_at_call 72;refine (C.out _ HA.out).mono ?_;rintro e w1 ⟨rfl,rfl⟩) | (go_at_call 74;refine (CW.out _ _ q rfl HA.out).mono ?_;rintro e w1 ⟨rfl,rfl⟩) | (go_at_call 75;refine (CX.out _ HA.out HC.out).mono ?_;rintro e w9 ⟨rfl,hl⟩;have HL:=Lh hl;clear hl))
 go_end0
 exact ⟨rfl,HL.out.ahead HG.out HB.out⟩
theorem hr_n6 (b:Nat) (G:Nat→Prop) (w:World) (q:Qa) (xc xn:Int) (xd:ByteArray) (xe:Int) (xL:List (List Int)) (xm xs xy:Int) (xo:Option Addr) (xp:Nat) (h:AQ b G w q) (hf:fewL xL) (hx:CL w xo xL) (hq:fewL q.L) (ha:q.at_=1) (n40:¬ xc=40) (n45:¬ xc=45) (hwt:q.waits xc=false)  :
  Calls Tryz.prog 40 #[ptrP b,.agg #[.int .i64 xc,.int .i64 xn,.string xd,.int .i64 xe,.slice xo xL.length xp,.int .i64 xm,.int .i64 xs,.int .i64 xy],.bool true] w fun e w'=>e=.returned (.tuple #[])∧Leaves (AQ b) G w w' (q.learn ⟨xc,xn,xd,xe,xL,xm,xs,xy⟩):=by
 obtain ⟨HG,HB,HX,HA,⟨x0,x1,x2,x3,x4,x5,x6,x7⟩,ao,cap,⟨c0,c1,c2,c3,c4,c5,c6,c7,c8⟩,⟨f0,f1,f2,f3,f4,f5,f6,f7,f8⟩,hb,HC1,H1,H3⟩:=z0f h xc xn xd xe xo xL.length xp xm xs xy rfl
 have C:=Lh (fun w (h:AQ b G w q)=>z0u b G w q h)
 rw [decide_eq_false (p:=q.at_=5) (by omega)] at C
 have e40:(xc == 40)=false:=by simpa using n40
 have e45:(xc == 45)=false:=by simpa using n45
 have CX:=Lh (fun W h hx=>ap_learn b G W q ⟨xc,xn,xd,xe,xL,xm,xs,xy⟩ xo xp h hf hx)
 have CW:=Lh (fun W H p hp h=>ap_wt hwt b H W (p:=p) hp h)
 have HC:=Lh (hx.below HB.out)
 rw [ha] at c3
 clear h hf hx hq
 unfold ptrP at *
 go_enter Tryz.func40,Tryz.ntmps40
 go_wp2_with (first | (go_at_call 72;refine (C.out _ HA.out).mono ?_;rintro e w1 ⟨rfl,rfl⟩) | (go_at_call 74;refine (CW.out _ _ q rfl HA.out).mono ?_;rintro e w1 ⟨rfl,rfl⟩) | (go_at_call 75;refine (CX.out _ HA.out HC.out).mono ?_;rintro e w9 ⟨rfl,hl⟩;have HL:=Lh hl;clear hl))
 go_end0
 exact ⟨rfl,HL.out.ahead HG.out HB.out⟩
theorem hr_n7a (b:Nat) (G:Nat→Prop) (w:World) (q:Qa) (xc xn:Int) (xd:ByteArray) (xe:Int) (xL:List (List Int)) (xm xs xy:Int) (xo:Option Addr) (xp:Nat) (h:AQ b G w q) (hf:fewL xL) (hx:CL w xo xL) (hq:fewL q.L) (ha:q.at_=3) (n0:¬ xc=0) (n40:¬ xc=40) (n45:¬ xc=45) (hat:q.at_=2∨q.at_=3∨q.at_=4) (hub:q.at_≠2→0≤q.unit∧q.unit≤100) (hwt:q.waits xc=false)  :
  Calls Tryz.prog 40 #[ptrP b,.agg #[.int .i64 xc,.int .i64 xn,.string xd,.int .i64 xe,.slice xo xL.length xp,.int .i64 xm,.int .i64 xs,.int .i64 xy],.bool true] w fun e w'=>e=.returned (.tuple #[])∧Leaves (AQ b) G w w' (q.step ⟨xc,xn,xd,xe,xL,xm,xs,xy⟩):=by
 obtain ⟨HG,HB,HX,HA,⟨x0,x1,x2,x3,x4,x5,x6,x7⟩,ao,cap,⟨c0,c1,c2,c3,c4,c5,c6,c7,c8⟩,⟨f0,f1,f2,f3,f4,f5,f6,f7,f8⟩,hb,HC1,H1,H3⟩:=z0f h xc xn xd xe xo xL.length xp xm xs xy rfl
 have C:=Lh (fun w (h:AQ b G w q)=>z0u b G w q h)
 rw [decide_eq_false (p:=q.at_=5) (by omega)] at C
 have e0:(xc == 0)=false:=by simpa using n0
 have e40:(xc == 40)=false:=by simpa using n40
 have e45:(xc == 45)=false:=by simpa using n45
 have CX:=Lh (fun W h=>ap_step b G W q ⟨xc,xn,xd,xe,xL,xm,xs,xy⟩ xo xp h hq hat hub)
 have CW:=Lh (fun W H p hp h=>ap_wt hwt b H W (p:=p) hp h)
 rw [ha] at c3
 clear h hf hx hq
 unfold ptrP at *
 go_enter Tryz.func40,Tryz.ntmps40
 go_wp2_with (first | (go_at_call 72;refine (C.out _ HA.out).mono ?_;rintro e w1 ⟨rfl,rfl⟩) | (go_at_call 74;refine (CW.out _ _ q rfl HA.out).mono ?_;rintro e w1 ⟨rfl,rfl⟩) | (go_at_call 76;refine (CX.out _ HA.out).mono ?_;rintro e w9 ⟨rfl,hl⟩;have HL:=Lh hl;clear hl))
 go_end0
 exact ⟨rfl,HL.out.ahead HG.out HB.out⟩
theorem hr_n7b (b:Nat) (G:Nat→Prop) (w:World) (q:Qa) (xc xn:Int) (xd:ByteArray) (xe:Int) (xL:List (List Int)) (xm xs xy:Int) (xo:Option Addr) (xp:Nat) (h:AQ b G w q) (hf:fewL xL) (hx:CL w xo xL) (hq:fewL q.L) (n3:¬ q.at_=3) (n40:¬ xc=40) (n45:¬ xc=45) (hat:q.at_=2∨q.at_=3∨q.at_=4) (hub:q.at_≠2→0≤q.unit∧q.unit≤100) (hwt:q.waits xc=false)  :
  Calls Tryz.prog 40 #[ptrP b,.agg #[.int .i64 xc,.int .i64 xn,.string xd,.int .i64 xe,.slice xo xL.length xp,.int .i64 xm,.int .i64 xs,.int .i64 xy],.bool true] w fun e w'=>e=.returned (.tuple #[])∧Leaves (AQ b) G w w' (q.step ⟨xc,xn,xd,xe,xL,xm,xs,xy⟩):=by
 obtain ⟨HG,HB,HX,HA,⟨x0,x1,x2,x3,x4,x5,x6,x7⟩,ao,cap,⟨c0,c1,c2,c3,c4,c5,c6,c7,c8⟩,⟨f0,f1,f2,f3,f4,f5,f6,f7,f8⟩,hb,HC1,H1,H3⟩:=z0f h xc xn xd xe xo xL.length xp xm xs xy rfl
 have C:=Lh (fun w (h:AQ b G w q)=>z0u b G w q h)
 rw [decide_eq_false (p:=q.at_=5) (by omega)] at C
 have e40:(xc == 40)=false:=by simpa using n40
 have e45:(xc == 45)=false:=by simpa using n45
 have u0:(q.at_ == 0)=false:=by simpa using (show ¬ q.at_=0 by omega)
 have u1:(q.at_ == 1)=false:=by simpa using (show ¬ q.at_=1 by omega)
 have CX:=Lh (fun W h=>ap_step b G W q ⟨xc,xn,xd,xe,xL,xm,xs,xy⟩ xo xp h hq hat hub)
 have CW:=Lh (fun W H p hp h=>ap_wt hwt b H W (p:=p) hp h)
 have e3:(q.at_ == 3)=false:=by simpa using (show ¬ q.at_=3 by omega)
 clear h hf hx hq
 unfold ptrP at *
 go_enter Tryz.func40,Tryz.ntmps40
 go_wp2_with (first | (go_at_call 72;refine (C.out _ HA.out).mono ?_;rintro e w1 ⟨rfl,rfl⟩) | (go_at_call 74;refine (CW.out _ _ q rfl HA.out).mono ?_;rintro e w1 ⟨rfl,rfl⟩) | (go_at_call 76;refine (CX.out _ HA.out).mono ?_;rintro e w9 ⟨rfl,hl⟩;have HL:=Lh hl;clear hl))
 go_end0
 exact ⟨rfl,HL.out.ahead HG.out HB.out⟩
theorem mh_lay_yes (b:Nat) (G:Nat→Prop) (w:World) (r:Rf) (xc xn:Int) (xd:ByteArray) (xe:Int) (xL:List (List Int)) (xm xs xy:Int) (xo:Option Addr) (xp:Nat) (h:RfM b G w r) (ha:r.at_=1) (hf:fewL xL) (hx:CL w xo xL) (hs:nextB xe xL r.qe r.qL=true) :
  Calls Tryz.prog 21 #[ptrP b,.agg #[.int .i64 0,.int .i64 xn,.string xd,.int .i64 xe,.slice xo xL.length xp,.int .i64 xm,.int .i64 xs,.int .i64 xy],.bool true] w fun e w'=>e=.returned (.tuple #[])∧Leaves (RfM b) G w w' (⟨r.qe,r.qL,xe,xL,2,r.i,r.tails,r.e⟩):=by
 obtain ⟨HG,HB,HX,HA,⟨x0,x1,x2,x3,x4,x5,x6,x7⟩,c4,hb,hbw⟩:=z10 h 0 xn xd xe xo xL.length xp xm xs xy rfl
 have C:=Lh (fun w (h:RfM b G w r)=>z0q b G w r h)
 rw [decide_eq_false (p:=r.at_=5) (by omega)] at C
 obtain ⟨hok,v1,v2,v3,v4,F,h1,⟨hq,_,_⟩,_,_⟩:=HA.out.open (by omega)
 obtain ⟨a1,n1,rfl,q1,_,_⟩:=(id hq).cl
 obtain ⟨⟨c0,c1,c2,c3,c4,c5,c6,c7⟩,_⟩:=z03 h1
 rw [ha] at c4
 have HQ:=Lh q1
 have H1:=Lh h1
 have HC:=Lh (hx.below HB.out)
 have CK:=Lh (fun W (hC:CL W xo xL) (hQ:CL W a1 r.qL)=>pnext_any xe xo xp xL r.qe a1 n1 r.qL W hC hQ hf hok.qf)
 rw [hs] at CK
 have CB:=Lh (fun W (h:RfM b G W r) (hC:CL W xo xL)=>mp_begin b G W r xe xo xp xL h ha hs hf hC)
 clear h h1 hx hq q1 hok hf hs
 unfold ptrP at *
 go_enter Tryz.func21,Tryz.ntmps21
 go_wp2_with fail
 generalize w.alloc _=w1 at *
 refine z06 0 rfl ?_
 generalize hQ:Exit.jump _ _ _=QJ
 go_wp2_with (go_at_call 48;refine (C.out _ HA.out).mono ?_;rintro e w9 ⟨rfl,rfl⟩)
 go_step3
 show QJ (.goto 0) _ _
 rw [← hQ]
 refine z0h ?_
 go_wp2_with fail
 have S1d:=Lh (show w1.drew.cell? ⟨w.heap.size,3,none⟩=some (.int .i64 xe)∧w1.drew.cell? ⟨w.heap.size,4,none⟩=some (.slice xo xL.length xp)∧w1.drew.cell? ⟨b,0,none⟩=some (.int .i64 r.qe)∧w1.drew.cell? ⟨b,1,none⟩=some (.slice a1 r.qL.length n1) from ⟨x3,x4,c0,c1⟩)
 go_region_held3 (fun W=>W.cell? ⟨w.heap.size,3,none⟩=some (.int .i64 xe)∧W.cell? ⟨w.heap.size,4,none⟩=some (.slice xo xL.length xp)∧W.cell? ⟨b,0,none⟩=some (.int .i64 r.qe)∧W.cell? ⟨b,1,none⟩=some (.slice a1 r.qL.length n1))
  (first | with_reducible exact S1d.out | with_reducible exact S6.out | with_reducible assumption)
  (first | (go_at_call 56;refine (CK.out _ (HC.out.below (Below.refl _ _).drew) (HQ.out.below (Below.refl _ _).drew)).mono ?_;rintro e w6 ⟨rfl,hb6⟩;have B6:=Lh (z0c (w1:=w1) hb6 (Below.refl _ _).drew);have X6:=Lh (z01 B6.out HX.out);have H6:=Lh (z01 B6.out H1.out);have S6:=Lh (show w6.cell? ⟨w.heap.size,3,none⟩=some (.int .i64 xe)∧w6.cell? ⟨w.heap.size,4,none⟩=some (.slice xo xL.length xp)∧w6.cell? ⟨b,0,none⟩=some (.int .i64 r.qe)∧w6.cell? ⟨b,1,none⟩=some (.slice a1 r.qL.length n1) from ⟨z02 X6.out 3,z02 X6.out 4,z02 H6.out 0,z02 H6.out 1⟩);have HA6:=Lh (HA.out.below B6.out);have HB6:=Lh (HB.out.trans (B6.out.mono HB.out.size));clear hb6))
 all_goals
  clear x0 x1 x2 x3 x4 x5 x6 x7 c0 c1 c2 c3 c4 c5 c6 c7 hb
  obtain ⟨u0,u1,u2,u3,u5,u6,u7,h6⟩:=HA6.out.cells
  obtain ⟨⟨c0,c1,c2,c3,c4,c5,c6,c7⟩,f0,f1,f2,f3,f4,f5,f6,f7⟩:=z03 h6
  obtain ⟨⟨x0,x1,x2,x3,x4,x5,x6,x7⟩,_⟩:=z03 X6.out
  have hb6:=lt_of_block h6
  clear h6
  go_wp2_with (go_at_call 57;refine (CB.out _ HA6.out (HC.out.below B6.out)).mono ?_;rintro e w9 ⟨rfl,hl⟩;have HL9:=Lh hl;clear hl)
  rw [Exit.noGoto_ret]
  exact bodyPost_ret (results_none rfl _ _ _) rfl ⟨rfl,HL9.out.ahead HG.out HB6.out⟩
theorem mh_lay_no (b:Nat) (G:Nat→Prop) (w:World) (r:Rf) (xc xn:Int) (xd:ByteArray) (xe:Int) (xL:List (List Int)) (xm xs xy:Int) (xo:Option Addr) (xp:Nat) (h:RfM b G w r) (ha:r.at_=1) (hf:fewL xL) (hx:CL w xo xL) (hs:nextB xe xL r.qe r.qL=false) :
  Calls Tryz.prog 21 #[ptrP b,.agg #[.int .i64 0,.int .i64 xn,.string xd,.int .i64 xe,.slice xo xL.length xp,.int .i64 xm,.int .i64 xs,.int .i64 xy],.bool true] w fun e w'=>e=.returned (.tuple #[])∧Leaves (RfM b) G w w' (r.ends 48):=by
 obtain ⟨HG,HB,HX,HA,⟨x0,x1,x2,x3,x4,x5,x6,x7⟩,c4,hb,hbw⟩:=z10 h 0 xn xd xe xo xL.length xp xm xs xy rfl
 have C:=Lh (fun w (h:RfM b G w r)=>z0q b G w r h)
 rw [decide_eq_false (p:=r.at_=5) (by omega)] at C
 obtain ⟨hok,v1,v2,v3,v4,F,h1,⟨hq,_,_⟩,_,_⟩:=HA.out.open (by omega)
 obtain ⟨a1,n1,rfl,q1,_,_⟩:=(id hq).cl
 obtain ⟨⟨c0,c1,c2,c3,c4,c5,c6,c7⟩,_⟩:=z03 h1
 rw [ha] at c4
 have HQ:=Lh q1
 have H1:=Lh h1
 have HC:=Lh (hx.below HB.out)
 have CK:=Lh (fun W (hC:CL W xo xL) (hQ:CL W a1 r.qL)=>pnext_any xe xo xp xL r.qe a1 n1 r.qL W hC hQ hf hok.qf)
 rw [hs] at CK
 clear h h1 hx hq q1 hok hf hs
 unfold ptrP at *
 go_enter Tryz.func21,Tryz.ntmps21
 go_wp2_with fail
 generalize w.alloc _=w1 at *
 refine wp_scope_two 0 3 rfl rfl ?_
 generalize hQ:Exit.jump _ _ _=QJ
 go_wp2_with (go_at_call 48;refine (C.out _ HA.out).mono ?_;rintro e w9 ⟨rfl,rfl⟩)
 go_step3
 show QJ (.goto 0) _ _
 rw [← hQ]
 refine jump_two ?_
 generalize hQ2:Exit.jump _ _ _=QJ2
 go_wp2_with fail
 have S1d:=Lh (show w1.drew.cell? ⟨w.heap.size,3,none⟩=some (.int .i64 xe)∧w1.drew.cell? ⟨w.heap.size,4,none⟩=some (.slice xo xL.length xp)∧w1.drew.cell? ⟨b,0,none⟩=some (.int .i64 r.qe)∧w1.drew.cell? ⟨b,1,none⟩=some (.slice a1 r.qL.length n1) from ⟨x3,x4,c0,c1⟩)
 go_region_held3 (fun W=>W.cell? ⟨w.heap.size,3,none⟩=some (.int .i64 xe)∧W.cell? ⟨w.heap.size,4,none⟩=some (.slice xo xL.length xp)∧W.cell? ⟨b,0,none⟩=some (.int .i64 r.qe)∧W.cell? ⟨b,1,none⟩=some (.slice a1 r.qL.length n1))
  (first | with_reducible exact S1d.out | with_reducible exact S6.out | with_reducible assumption)
  (first | (go_at_call 56;refine (CK.out _ (HC.out.below (Below.refl _ _).drew) (HQ.out.below (Below.refl _ _).drew)).mono ?_;rintro e w6 ⟨rfl,hb6⟩;have B6:=Lh (z0c (w1:=w1) hb6 (Below.refl _ _).drew);have X6:=Lh (z01 B6.out HX.out);have H6:=Lh (z01 B6.out H1.out);have S6:=Lh (show w6.cell? ⟨w.heap.size,3,none⟩=some (.int .i64 xe)∧w6.cell? ⟨w.heap.size,4,none⟩=some (.slice xo xL.length xp)∧w6.cell? ⟨b,0,none⟩=some (.int .i64 r.qe)∧w6.cell? ⟨b,1,none⟩=some (.slice a1 r.qL.length n1) from ⟨z02 X6.out 3,z02 X6.out 4,z02 H6.out 0,z02 H6.out 1⟩);have HA6:=Lh (HA.out.below B6.out);have HB6:=Lh (HB.out.trans (B6.out.mono HB.out.size));clear hb6))
 all_goals
  clear x0 x1 x2 x3 x4 x5 x6 x7 c0 c1 c2 c3 c4 c5 c6 c7 hb
  obtain ⟨u0,u1,u2,u3,u5,u6,u7,h6⟩:=HA6.out.cells
  obtain ⟨⟨c0,c1,c2,c3,c4,c5,c6,c7⟩,f0,f1,f2,f3,f4,f5,f6,f7⟩:=z03 h6
  obtain ⟨⟨x0,x1,x2,x3,x4,x5,x6,x7⟩,_⟩:=z03 X6.out
  have hb6:=lt_of_block h6
  clear h6
  go_wp2_with fail
  go_step3
  show QJ2 (.goto 3) _ _
  rw [← hQ2]
  refine z0h ?_
  go_wp2_with (go_at_call 45;refine (mp_end b _ _ r _ HA6.out).mono ?_;rintro e w9 ⟨rfl,hl⟩;have HL9:=Lh hl;clear hl)
  rw [z0b]
  go_end0
  exact ⟨rfl,HL9.out.ahead HG.out HB6.out⟩
theorem unit_fresh {r:Rf} (hok:RmOk r) (ha:r.at_=2):i64w r.unit∧r.unit ∉ r.tails.map (·.1)∧r.tails.length≤1000:=by
 have hi:=hok.two ha
 have hu:r.unit=(unitsR r.oL)[r.i]:=by unfold Rf.unit;simp [hi]
 refine ⟨?_,fun hm=>?_,Nat.le_trans (Nat.le_trans hok.tn (Nat.le_of_lt hi)) (Nat.le_trans hok.len (by decide))⟩
 ·rw [hu]
  have:=hok.few _ (List.getElem_mem hi)
  exact z04 (by omega)
 ·obtain ⟨x,hx,e⟩:=List.mem_map.1 hm
  have h1:=hok.tl x hx
  rw [e] at h1
  have h2:r.unit ∈ (unitsR r.oL).drop r.i:=by
   rw [List.drop_eq_getElem_cons hi,← hu]
   exact List.mem_cons_self
  have h3:=hok.once
  rw [← List.take_append_drop r.i (unitsR r.oL),List.nodup_append] at h3
  exact h3.2.2 _ h1 _ h2 rfl
theorem mh_seal_ok (b:Nat) (G:Nat→Prop) (w:World) (r:Rf) (xc xn:Int) (xd:ByteArray) (xe:Int) (xL:List (List Int)) (xm xs xy:Int) (xo:Option Addr) (xp:Nat) (h:RfM b G w r) (ha:r.at_=2) (hn:i64w xn) :
  Calls Tryz.prog 21 #[ptrP b,.agg #[.int .i64 0,.int .i64 xn,.string xd,.int .i64 xe,.slice xo xL.length xp,.int .i64 xm,.int .i64 xs,.int .i64 xy],.bool true] w fun e w'=>e=.returned (.tuple #[])∧Leaves (RfM b) G w w' (r.next (r.tails ++ [(r.unit,xn)])):=by
 obtain ⟨HG,HB,HX,HA,⟨x0,x1,x2,x3,x4,x5,x6,x7⟩,c4,hb,hbw⟩:=z10 h 0 xn xd xe xo xL.length xp xm xs xy rfl
 have C:=Lh (fun w (h:RfM b G w r)=>z0q b G w r h)
 rw [decide_eq_false (p:=r.at_=5) (by omega)] at C
 obtain ⟨a1,n1,a2,n2,bk,off,lc,us,mb,h1,hN,hul,hq,htm,hmb,hgm,hok,hfin⟩:=h.seal ha
 obtain ⟨b2,o2,e2,cu⟩:=hN.at 0 (by simp)
 obtain ⟨rfl,rfl,_⟩:=Addr.mk.inj (Option.some.inj e2)
 rw [Nat.add_zero,List.getElem_cons_zero] at cu
 have hbk:=block_lt_of_cell cu
 simp only at hbk
 have HNM:=Lh (show bk≠mb from fun e=>by
  obtain ⟨es,clock,hh,_⟩:=Tm.block htm
  rw [e] at cu
  unfold World.cell? at cu
  simp [hh] at cu)
 replace cu:=z0s HB.out hbk cu
 replace hbk:=Nat.lt_of_lt_of_le hbk HB.out.size
 have HN:=Lh (hN.below HB.out)
 replace h1:=z01 HB.out h1
 obtain ⟨⟨c0,c1,c2,c3,c4b,c5,c6,c7⟩,_⟩:=z03 h1
 rw [ha] at c4
 obtain ⟨u1,u2,u3⟩:=unit_fresh hok ha
 obtain ⟨w2,hrun,hT2,hg2⟩:=((htm.below HB.out).below (Below.refl _ _).drew).put u1 hn u2 u3
 have HT2:=Lh hT2
 have HG2:=Lh hg2
 have H1:=Lh h1
 have HUL:=Lh hul
 have HF:=Lh hfin
 have HMB:=Lh hmb
 have HMW:=Lh htm.lt
 have HTN:=Lh hok.tn
 have hlen:(0:Int) < (us.length:Int)+1:=by omega
 clear h h1 hN hq htm hmb hgm hok hfin c4b u1 u2 u3 hT2 hg2 hn hul
 unfold ptrP at *
 go_enter Tryz.func21,Tryz.ntmps21
 go_wp2_with fail
 generalize w.alloc _=w1 at *
 refine z06 1 rfl ?_
 generalize hQ:Exit.jump _ _ _=QJ
 go_wp2_with (go_at_call 48;refine (C.out _ HA.out).mono ?_;rintro e w9 ⟨rfl,rfl⟩)
 go_step3
 show QJ (.goto 1) _ _
 rw [← hQ]
 refine z0h ?_
 go_wp2_with fail
 go_still_tail 12,(by kernel_rfl)
 change wpList _ _ _ _ _ w1.drew
 have HK2:=Lh (show Kept (fun k=>k≠mb) w1 w2 from ((Kept.refl _ w1).drew).grown HG2.out (fun k e h=>h (Option.some.inj e).symm))
 have H2:=Lh (HK2.out.heap (show b≠mb from fun e=>HMB.out e.symm) H1.out)
 have hb2:=lt_of_block H2.out
 go_wp2_with (go_at_call 53;refine (mp_pass b w2 _ _ _ _ _ _ bk off lc r.unit us H2.out (nli_keep HN.out HK2.out HNM.out) HUL.out).mono ?_;rintro e w7 ⟨rfl,hk7,off2,ho2,h7⟩;have K7:=Lh hk7;have H7:=Lh h7;have O7:=Lh ho2;clear hk7 h7 ho2)
 rw [Exit.noGoto_ret]
 have hl1:(r.tails ++ [(r.unit,xn)]).length≤r.i+1:=by
  rw [List.length_append]
  exact Nat.succ_le_succ HTN.out
 exact bodyPost_ret (results_none rfl _ _ _) rfl ⟨rfl,HF.out w7 (r.tails ++ [(r.unit,xn)]) off2 O7.out (((Kept.ofBelow HB.out _).trans (HK2.out.mono (fun k h=>h.2))).trans (K7.out.mono (fun k h=>h.1))) (HT2.out.keepK K7.out HMB.out) (fun x hx=>(List.mem_append.1 hx).imp id (fun h=>by rw [List.mem_singleton.1 h])) hl1 H7.out⟩
theorem fm_ask (b:Nat) (G:Nat→Prop) (w:World) (f:Fe) (h:FM b G w f) :
  Calls Tryz.prog 67 #[ptrP b] w fun e w'=>e=.returned (.tuple #[askV f.ask,.bool f.asks])∧Leaves (FM b) G w w' f:=by
 have HL:=fun w' (hb:Below w.heap.size w w')=>Leaves.same (fm_thing b) h hb
 obtain ⟨q,hs,hq⟩:=h
 obtain ⟨i7,i1,i6,i2,i3,i4,i5⟩:=hs.at_iff
 have hr:=hs.range
 unfold Fe.ask Fe.asks
 by_cases a7:f.at_=7
 ·rw [if_neg (by omega),if_neg (by omega),if_neg (by omega),if_neg (by omega),if_neg (by omega),decide_eq_false (fun e=>e a7)]
  exact (fp_ask_over b G w q (i7.2 a7) hq).mono fun e w' ⟨h1,h2⟩=>⟨h1,HL w' h2⟩
 ·rw [decide_eq_true a7]
  by_cases a16:f.at_=1∨f.at_=6
  ·rw [if_pos a16]
   exact (fp_ask_lay b G w q (by omega) hq).mono fun e w' ⟨h1,h2⟩=>⟨h1,HL w' h2⟩
  ·rw [if_neg a16]
   have hh:=hs.held (by omega)
   have hl:=hs.some a7
   have ho:=hs.here a7
   have hf:=hs.few
   unfold Fe.unitK
   unfold Fe.chain at *
   rw [← hs.ep,← hs.chains,← hs.addr] at *
   by_cases a2:f.at_=2
   ·rw [if_pos a2]
    have hu:=hh.last a2
    exact (fp_ask_read b G w q (.inl (i2.2 a2)) hf ho ((chainR q.ep q.L q.addr).length - 1) (by unfold Fe.chain at hu;rw [← hs.ep,← hs.chains,← hs.addr] at hu;omega) (by omega) hq).mono fun e w' ⟨h1,h2⟩=>⟨h1,HL w' h2⟩
   ·rw [if_neg a2]
    by_cases a3:f.at_=3
    ·rw [if_pos a3]
     exact (fp_ask_read b G w q (.inr (i3.2 a3)) hf ho 0 (by have:=hh.first (.inl a3);omega) (by omega) hq).mono fun e w' ⟨h1,h2⟩=>⟨h1,HL w' h2⟩
    ·rw [if_neg a3]
     by_cases a4:f.at_=4
     ·rw [if_pos a4]
      exact (fp_ask_fill b G w q (.inl (i4.2 a4)) (fun e=>by omega) hf ho 0 (by have:=hh.first (.inr a4);omega) (by omega) hq).mono fun e w' ⟨h1,h2⟩=>⟨h1,HL w' h2⟩
     ·have a5:f.at_=5:=by omega
      rw [if_neg a4,if_pos a5]
      obtain ⟨u1,u2,u3,u4,u5⟩:=hh.mend a5
      unfold Fe.chain at u2
      rw [← hs.ep,← hs.chains,← hs.addr] at u2
      by_cases k1:f.kind=1
      ·rw [if_pos k1,← u4]
       exact (fp_ask_write b G w q (i5.2 a5) (u3.trans k1) (by rw [u4];exact u5) hf ho f.i u1 u2 hq).mono fun e w' ⟨h1,h2⟩=>⟨h1,HL w' h2⟩
      ·rw [if_neg k1]
       exact (fp_ask_fill b G w q (.inr (i5.2 a5)) (fun _=>by rw [u3];exact k1) hf ho f.i u1 u2 hq).mono fun e w' ⟨h1,h2⟩=>⟨h1,HL w' h2⟩
theorem fm_over (b:Nat) (G:Nat→Prop) (w:World) (f:Fe) (h:FM b G w f) :
  Calls Tryz.prog 69 #[ptrP b] w fun e w'=>e=.returned (.tuple #[.int .i64 f.overK,.string f.overS,.int .i64 f.overE,.bool f.overB])∧Below w.heap.size w w':=by
 obtain ⟨q,hs,hq⟩:=h
 obtain ⟨i7,_⟩:=hs.at_iff
 have C:=fp_over b G w q hq (fun e=>by obtain ⟨_,o2,_,o4⟩:=hs.over (i7.1 e);rw [o2];exact o4)
 unfold Fe.overK Fe.overS Fe.overE Fe.overB
 by_cases a7:f.at_=7
 ·obtain ⟨o1,o2,o3,_⟩:=hs.over a7
  rw [if_pos (i7.2 a7),if_pos (i7.2 a7),if_pos (i7.2 a7),decide_eq_true (i7.2 a7),o1,o2,o3] at C
  rw [if_pos a7,if_pos a7,if_pos a7,decide_eq_true a7]
  exact C
 ·have n6:¬ q.at_=6:=fun e=>a7 (i7.1 e)
  rw [if_neg n6,if_neg n6,if_neg n6,decide_eq_false n6] at C
  rw [if_neg a7,if_neg a7,if_neg a7,decide_eq_false a7]
  exact C
theorem fm_hear (b:Nat) (G:Nat→Prop) (w:World) (f:Fe) (x:An) (ao:Option Addr) (cap:Nat) (c:Bool) (h:FM b G w f) (hf:fewL x.L) (he:i64w x.pe) (hd:x.data.size≤1000000) (hx:CL w ao x.L) :
  Calls Tryz.prog 68 #[ptrP b,ansV x ao cap,.bool c] w fun e w'=>e=.returned (.tuple #[])∧Leaves (FM b) G w w' (f.hear x c):=by
 obtain ⟨q,hs,hq⟩:=h
 obtain ⟨i7,i1,i6,i2,i3,i4,i5⟩:=hs.at_iff
 have hr:=hs.range
 refine (fp_hear b G w q x ao cap c hq (by omega) (by rw [hs.chains];exact hs.few) (fun e=>?_) hf hx hd).mono fun e w' ⟨h1,G',a1,a2,a3⟩=>⟨h1,G',⟨_,simf_hear hs x c hf he hd,a1⟩,a2,a3⟩
 have hh:=hs.held (by omega)
 have hl:=hs.some (by omega)
 have a:f.at_=2∨(f.at_=3∨f.at_=4)∨f.at_=5:=by omega
 rcases a with a | a | a
 ·have:=hh.last a
  omega
 ·have:=hh.first a
  omega
 ·have:=(hh.mend a).1
  have:=(hh.mend a).2.1
  omega
theorem fm_new (ep:Int) (ao:Option Addr) (cap:Nat) (L:List (List Int)) (addr:Int) (fill:Bool) (w:World) (hc:CL w ao L) (hf:fewL L) (he:i64w ep) :
  Calls Tryz.prog 66 #[.agg #[.int .i64 ep,.slice ao L.length cap],.int .i64 addr,.bool fill] w fun e w'=>∃ (b:Nat) (G:Nat→Prop),e=.returned (ptrP b)∧FM b G w' (newFe ep L addr fill)∧(∀ k,G k→w.heap.size≤k)∧Below w.heap.size w w':=by
 have key:Calls Tryz.prog 66 #[.agg #[.int .i64 ep,.slice ao L.length cap],.int .i64 addr,.bool fill] w (NewF w (newQf ep L addr fill)):=by
  unfold newQf
  cases ho:ofB ep L addr with
  | true=>rw [if_pos rfl];exact newf_yes ep ao cap L addr fill w hc hf ho
  | false=>rw [if_neg Bool.noConfusion];exact newf_no ep ao cap L addr fill w hc hf ho
 exact key.mono fun e w' ⟨b,G,h1,h2,h3⟩=>⟨b,G,h1,⟨_,simf_new ep L addr fill hf he,h2⟩,h3⟩
theorem fetchSays:FetchSays FM where
 thing:=fm_thing
 new:=fun ep ao cap L addr fill w hc hf _ _ he _=>fm_new ep ao cap L addr fill w hc hf he
 ask:=fm_ask
 hear:=fun b G w f x ao cap c h hf he hd hx=>fm_hear b G w f x ao cap c h hf he hd (hx w (Kept.refl _ _))
 over:=fm_over
 nil_ask:=fp_nil_ask
 nil_hear:=fp_nil_hear
 nil_over:=fp_nil_over
end Go.Proofs.YtkefpbcifcjibaaGreat
