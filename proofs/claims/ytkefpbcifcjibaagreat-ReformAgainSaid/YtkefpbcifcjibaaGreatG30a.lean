/- Joined texts. -/
import Derived.Test.YtkefpbcifcjibaaGreatG29a
import Derived.Test.YtkefpbcifcjibaaGreatG15a
import Derived.Test.YtkefpbcifcjibaaGreatG17a
import Derived.Test.YtkefpbcifcjibaaGreatH00
set_option linter.unusedVariables false
set_option maxRecDepth 20000
set_option maxHeartbeats 16000000
namespace Go.Proofs.YtkefpbcifcjibaaGreat
open Go.RowKit
theorem z10 {b:Nat} {G:Nat→Prop} {w:World} {r:Rf} (h:RfM b G w r) (xc xn:Int) (xd:ByteArray) (xe:Int) (xo:Option Addr) (n xp:Nat) (xm xs xy:Int) {w1:World} (hw:w.alloc (.cells #[.int .i64 xc,.int .i64 xn,.string xd,.int .i64 xe,.slice xo n xp,.int .i64 xm,.int .i64 xs,.int .i64 xy] 49)=w1) :
  Hid (∀ k,G k→k < w.heap.size)∧Hid (Below w.heap.size w w1)∧Hid (w1.heap[w.heap.size]?=some (.cells #[.int .i64 xc,.int .i64 xn,.string xd,.int .i64 xe,.slice xo n xp,.int .i64 xm,.int .i64 xs,.int .i64 xy] 49 (0,0)))∧Hid (RfM b G w1 r)∧
  (w1.cell? ⟨w.heap.size,0,none⟩=some (.int .i64 xc)∧w1.cell? ⟨w.heap.size,1,none⟩=some (.int .i64 xn)∧w1.cell? ⟨w.heap.size,2,none⟩=some (.string xd)∧w1.cell? ⟨w.heap.size,3,none⟩=some (.int .i64 xe)∧w1.cell? ⟨w.heap.size,4,none⟩=some (.slice xo n xp)∧w1.cell? ⟨w.heap.size,5,none⟩=some (.int .i64 xm)∧w1.cell? ⟨w.heap.size,6,none⟩=some (.int .i64 xs)∧w1.cell? ⟨w.heap.size,7,none⟩=some (.int .i64 xy))∧
  w1.cell? ⟨b,4,none⟩=some (.int .i64 (r.at_ - 1))∧b < w1.heap.size∧Hid (b < w.heap.size):=by
 subst hw
 have HB:=z00 w (.cells #[.int .i64 xc,.int .i64 xn,.string xd,.int .i64 xe,.slice xo n xp,.int .i64 xm,.int .i64 xs,.int .i64 xy] 49)
 have HX:=heap_alloc_new w (.cells #[.int .i64 xc,.int .i64 xn,.string xd,.int .i64 xe,.slice xo n xp,.int .i64 xm,.int .i64 xs,.int .i64 xy] 49)
 have HA:=h.below HB
 exact ⟨Lh h.2.1,Lh HB,Lh HX,Lh HA,(z03 HX).1,HA.cell4,HA.small,Lh h.small⟩
theorem mh_no (b:Nat) (G:Nat→Prop) (w:World) (r:Rf) (xc xn:Int) (xd:ByteArray) (xe:Int) (xL:List (List Int)) (xm xs xy:Int) (xo:Option Addr) (xp:Nat) (h:RfM b G w r) :
  Calls Tryz.prog 21 #[ptrP b,.agg #[.int .i64 xc,.int .i64 xn,.string xd,.int .i64 xe,.slice xo xL.length xp,.int .i64 xm,.int .i64 xs,.int .i64 xy],.bool false] w fun e w'=>e=.returned (.tuple #[])∧Leaves (RfM b) G w w' (r):=by
 obtain ⟨HG,HB,HX,HA,⟨x0,x1,x2,x3,x4,x5,x6,x7⟩,c4,hb,hbw⟩:=z10 h xc xn xd xe xo xL.length xp xm xs xy rfl
 clear h
 unfold ptrP at *
 go_enter Tryz.func21,Tryz.ntmps21
 go_wp2_with fail
 generalize w.alloc _=w1 at *
 refine wp_scope_straight ?_
 go_wp2_with fail
 rw [Exit.noGoto_ret]
 exact bodyPost_ret (results_none rfl _ _ _) rfl ⟨rfl,(Leaves.same (z1v b) HA.out (Below.refl _ _)).ahead HG.out HB.out⟩
theorem mh_over (b:Nat) (G:Nat→Prop) (w:World) (r:Rf) (xc xn:Int) (xd:ByteArray) (xe:Int) (xL:List (List Int)) (xm xs xy:Int) (xo:Option Addr) (xp:Nat) (h:RfM b G w r) (ha:r.at_=5) :
  Calls Tryz.prog 21 #[ptrP b,.agg #[.int .i64 xc,.int .i64 xn,.string xd,.int .i64 xe,.slice xo xL.length xp,.int .i64 xm,.int .i64 xs,.int .i64 xy],.bool true] w fun e w'=>e=.returned (.tuple #[])∧Leaves (RfM b) G w w' (r):=by
 obtain ⟨HG,HB,HX,HA,⟨x0,x1,x2,x3,x4,x5,x6,x7⟩,c4,hb,hbw⟩:=z10 h xc xn xd xe xo xL.length xp xm xs xy rfl
 have C:=Lh (fun w (h:RfM b G w r)=>z0q b G w r h)
 rw [decide_eq_true ha] at C
 clear h
 unfold ptrP at *
 go_enter Tryz.func21,Tryz.ntmps21
 go_wp2_with fail
 generalize w.alloc _=w1 at *
 refine wp_scope_straight ?_
 go_wp2_with (go_at_call 48;refine (C.out _ HA.out).mono ?_;rintro e w9 ⟨rfl,rfl⟩)
 rw [Exit.noGoto_ret]
 exact bodyPost_ret (results_none rfl _ _ _) rfl ⟨rfl,(Leaves.same (z1v b) HA.out (Below.refl _ _)).ahead HG.out HB.out⟩
theorem mh_down (b:Nat) (G:Nat→Prop) (w:World) (r:Rf) (xc xn:Int) (xd:ByteArray) (xe:Int) (xL:List (List Int)) (xm xs xy:Int) (xo:Option Addr) (xp:Nat) (h:RfM b G w r) (ha:¬ r.at_=5) :
  Calls Tryz.prog 21 #[ptrP b,.agg #[.int .i64 45,.int .i64 xn,.string xd,.int .i64 xe,.slice xo xL.length xp,.int .i64 xm,.int .i64 xs,.int .i64 xy],.bool true] w fun e w'=>e=.returned (.tuple #[])∧Leaves (RfM b) G w w' (r):=by
 obtain ⟨HG,HB,HX,HA,⟨x0,x1,x2,x3,x4,x5,x6,x7⟩,c4,hb,hbw⟩:=z10 h 45 xn xd xe xo xL.length xp xm xs xy rfl
 have C:=Lh (fun w (h:RfM b G w r)=>z0q b G w r h)
 rw [decide_eq_false (p:=r.at_=5) (by omega)] at C
 clear h
 unfold ptrP at *
 go_enter Tryz.func21,Tryz.ntmps21
 go_wp2_with fail
 generalize w.alloc _=w1 at *
 refine wp_scope_straight ?_
 go_wp2_with (go_at_call 48;refine (C.out _ HA.out).mono ?_;rintro e w9 ⟨rfl,rfl⟩)
 rw [Exit.noGoto_ret]
 exact bodyPost_ret (results_none rfl _ _ _) rfl ⟨rfl,(Leaves.same (z1v b) HA.out (Below.refl _ _)).ahead HG.out HB.out⟩
theorem mh_lay_err (b:Nat) (G:Nat→Prop) (w:World) (r:Rf) (xc xn:Int) (xd:ByteArray) (xe:Int) (xL:List (List Int)) (xm xs xy:Int) (xo:Option Addr) (xp:Nat) (h:RfM b G w r) (ha:r.at_=1) (n45:¬ xc=45) (n0:¬ xc=0) :
  Calls Tryz.prog 21 #[ptrP b,.agg #[.int .i64 xc,.int .i64 xn,.string xd,.int .i64 xe,.slice xo xL.length xp,.int .i64 xm,.int .i64 xs,.int .i64 xy],.bool true] w fun e w'=>e=.returned (.tuple #[])∧Leaves (RfM b) G w w' (r.ends xc):=by
 obtain ⟨HG,HB,HX,HA,⟨x0,x1,x2,x3,x4,x5,x6,x7⟩,c4,hb,hbw⟩:=z10 h xc xn xd xe xo xL.length xp xm xs xy rfl
 have C:=Lh (fun w (h:RfM b G w r)=>z0q b G w r h)
 rw [decide_eq_false (p:=r.at_=5) (by omega)] at C
 have e45:(xc == 45)=false:=by simpa using n45
 have e0:(xc == 0)=false:=by simpa using n0
 rw [ha] at c4
 clear h
 unfold ptrP at *
 go_enter Tryz.func21,Tryz.ntmps21
 go_wp2_with fail
 generalize w.alloc _=w1 at *
 refine z06 3 rfl ?_
 generalize hQ:Exit.jump _ _ _=QJ
 go_wp2_with (go_at_call 48;refine (C.out _ HA.out).mono ?_;rintro e w9 ⟨rfl,rfl⟩)
 go_step3
 show QJ (.goto 3) _ _
 rw [← hQ]
 refine z0h ?_
 go_wp2_with (go_at_call 45;refine (mp_end b _ _ r _ HA.out).mono ?_;rintro e w9 ⟨rfl,hl⟩;have HL9:=Lh hl;clear hl)
 rw [z0b]
 go_end0
 exact ⟨rfl,HL9.out.ahead HG.out HB.out⟩
theorem mh_seal_err (b:Nat) (G:Nat→Prop) (w:World) (r:Rf) (xc xn:Int) (xd:ByteArray) (xe:Int) (xL:List (List Int)) (xm xs xy:Int) (xo:Option Addr) (xp:Nat) (h:RfM b G w r) (ha:r.at_=2) (n45:¬ xc=45) (n0:¬ xc=0) :
  Calls Tryz.prog 21 #[ptrP b,.agg #[.int .i64 xc,.int .i64 xn,.string xd,.int .i64 xe,.slice xo xL.length xp,.int .i64 xm,.int .i64 xs,.int .i64 xy],.bool true] w fun e w'=>e=.returned (.tuple #[])∧Leaves (RfM b) G w w' (r.ends xc):=by
 obtain ⟨HG,HB,HX,HA,⟨x0,x1,x2,x3,x4,x5,x6,x7⟩,c4,hb,hbw⟩:=z10 h xc xn xd xe xo xL.length xp xm xs xy rfl
 have C:=Lh (fun w (h:RfM b G w r)=>z0q b G w r h)
 rw [decide_eq_false (p:=r.at_=5) (by omega)] at C
 have e45:(xc == 45)=false:=by simpa using n45
 have e0:(xc == 0)=false:=by simpa using n0
 rw [ha] at c4
 clear h
 unfold ptrP at *
 go_enter Tryz.func21,Tryz.ntmps21
 go_wp2_with fail
 generalize w.alloc _=w1 at *
 refine z06 3 rfl ?_
 generalize hQ:Exit.jump _ _ _=QJ
 go_wp2_with (go_at_call 48;refine (C.out _ HA.out).mono ?_;rintro e w9 ⟨rfl,rfl⟩)
 go_step3
 show QJ (.goto 3) _ _
 rw [← hQ]
 refine z0h ?_
 go_wp2_with (go_at_call 45;refine (mp_end b _ _ r _ HA.out).mono ?_;rintro e w9 ⟨rfl,hl⟩;have HL9:=Lh hl;clear hl)
 rw [z0b]
 go_end0
 exact ⟨rfl,HL9.out.ahead HG.out HB.out⟩
theorem RfM.starts {b:Nat} {G:Nat→Prop} {w:World} {r:Rf} (h:RfM b G w r) (ha:r.at_=3):Leaves (RfM b) G w (w.setCell ⟨b,4,none⟩ (.int .i64 3)) (r.to 4):=by
 obtain ⟨hok,v1,v2,v3,v4,F,h1,hp,hm,hF⟩:=h.open (by omega)
 have hk:=(Kept.refl (fun k=>k≠b) w).setCell (p:=⟨b,4,none⟩) (fun h=>h rfl) (.int .i64 3)
 have hp2:=hp.keep hk (fun k hf=>(hF k hf).2)
 refine h.lay (r':=r.to 4) (D:=F) (fun k hf=>⟨.inl (hF k hf).1,(hF k hf).2⟩) (hk.mono (fun k hg e=>hg (e ▸ h.1))) (by decide:(4:Int)≠5) ⟨⟨(by decide:(1:Int)≤4),(by decide:(4:Int)≤4)⟩,hok.qf,hok.of_,fun g=>absurd g (by decide:(4:Int)≠1),fun g=>absurd g (by decide:(4:Int)≠2),hok.few,hok.once,hok.len,hok.tl,hok.tn⟩ ⟨hp2.q,hp2.o,hp2.l⟩ ?_ (z0x h1 _)
 rcases hm with ⟨g,_⟩ | ⟨_,g⟩
 ·omega
 ·exact .inr ⟨(by decide:(4:Int)≠1),(g.keep hk (fun k hf=>hf.2.1)).mono (fun k hf=>⟨.inl hf.1,hf.2⟩)⟩
theorem mh_chg_ok (b:Nat) (G:Nat→Prop) (w:World) (r:Rf) (xc xn:Int) (xd:ByteArray) (xe:Int) (xL:List (List Int)) (xm xs xy:Int) (xo:Option Addr) (xp:Nat) (h:RfM b G w r) (ha:r.at_=3) :
  Calls Tryz.prog 21 #[ptrP b,.agg #[.int .i64 0,.int .i64 xn,.string xd,.int .i64 xe,.slice xo xL.length xp,.int .i64 xm,.int .i64 xs,.int .i64 xy],.bool true] w fun e w'=>e=.returned (.tuple #[])∧Leaves (RfM b) G w w' (r.to 4):=by
 obtain ⟨HG,HB,HX,HA,⟨x0,x1,x2,x3,x4,x5,x6,x7⟩,c4,hb,hbw⟩:=z10 h 0 xn xd xe xo xL.length xp xm xs xy rfl
 have C:=Lh (fun w (h:RfM b G w r)=>z0q b G w r h)
 rw [decide_eq_false (p:=r.at_=5) (by omega)] at C
 rw [ha] at c4
 clear h
 unfold ptrP at *
 go_enter Tryz.func21,Tryz.ntmps21
 go_wp2_with fail
 generalize w.alloc _=w1 at *
 refine z06 2 rfl ?_
 generalize hQ:Exit.jump _ _ _=QJ
 go_wp2_with (go_at_call 48;refine (C.out _ HA.out).mono ?_;rintro e w9 ⟨rfl,rfl⟩)
 go_quiet (fail)
 have HA2:=Lh (HA.out.below (below_drewN (Below.refl _ _) nq))
 have HB2:=Lh (below_drewN HB.out nq)
 clear x0 x1 x2 x3 x4 x5 x6 x7 c4 hb
 generalize w1.drewN nq=w2 at *
 obtain ⟨u0,u1,u2,u3,u5,u6,u7,h2⟩:=HA2.out.cells
 obtain ⟨⟨c0,c1,c2,c3,c4,c5,c6,c7⟩,f0,f1,f2,f3,f4,f5,f6,f7⟩:=z03 h2
 have hb2:=lt_of_block h2
 have HS:=Lh (HA2.out.starts ha)
 clear h2
 go_wp2_with fail
 go_step3
 show QJ (.goto 2) _ _
 rw [← hQ]
 refine z0h ?_
 go_wp2_with fail
 rw [Exit.noGoto_ret]
 exact bodyPost_ret (results_none rfl _ _ _) rfl ⟨rfl,HS.out.ahead HG.out HB2.out⟩
theorem mh_chg_err (b:Nat) (G:Nat→Prop) (w:World) (r:Rf) (xc xn:Int) (xd:ByteArray) (xe:Int) (xL:List (List Int)) (xm xs xy:Int) (xo:Option Addr) (xp:Nat) (h:RfM b G w r) (ha:r.at_=3) (n45:¬ xc=45) (n0:¬ xc=0) (n48:¬ xc=48) :
  Calls Tryz.prog 21 #[ptrP b,.agg #[.int .i64 xc,.int .i64 xn,.string xd,.int .i64 xe,.slice xo xL.length xp,.int .i64 xm,.int .i64 xs,.int .i64 xy],.bool true] w fun e w'=>e=.returned (.tuple #[])∧Leaves (RfM b) G w w' (r.ends xc):=by
 obtain ⟨HG,HB,HX,HA,⟨x0,x1,x2,x3,x4,x5,x6,x7⟩,c4,hb,hbw⟩:=z10 h xc xn xd xe xo xL.length xp xm xs xy rfl
 have C:=Lh (fun w (h:RfM b G w r)=>z0q b G w r h)
 rw [decide_eq_false (p:=r.at_=5) (by omega)] at C
 have e45:(xc == 45)=false:=by simpa using n45
 have e0:(xc == 0)=false:=by simpa using n0
 have e48:(xc == 48)=false:=by simpa using n48
 rw [ha] at c4
 clear h
 unfold ptrP at *
 go_enter Tryz.func21,Tryz.ntmps21
 go_wp2_with fail
 generalize w.alloc _=w1 at *
 refine z06 3 rfl ?_
 generalize hQ:Exit.jump _ _ _=QJ
 go_wp2_with (go_at_call 48;refine (C.out _ HA.out).mono ?_;rintro e w9 ⟨rfl,rfl⟩)
 go_quiet (fail)
 have HA2:=Lh (HA.out.below (below_drewN (Below.refl _ _) nq))
 have HB2:=Lh (below_drewN HB.out nq)
 clear x0 x1 x2 x3 x4 x5 x6 x7 c4 hb
 generalize w1.drewN nq=w2 at *
 obtain ⟨u0,u1,u2,u3,u5,u6,u7,h2⟩:=HA2.out.cells
 obtain ⟨⟨c0,c1,c2,c3,c4,c5,c6,c7⟩,f0,f1,f2,f3,f4,f5,f6,f7⟩:=z03 h2
 have hb2:=lt_of_block h2
 clear h2
 go_wp2_with fail
 go_step3
 show QJ (.goto 3) _ _
 rw [← hQ]
 refine z0h ?_
 go_wp2_with (go_at_call 45;refine (mp_end b _ _ r _ HA2.out).mono ?_;rintro e w9 ⟨rfl,hl⟩;have HL9:=Lh hl;clear hl)
 rw [z0b]
 go_end0
 exact ⟨rfl,HL9.out.ahead HG.out HB2.out⟩
theorem mh_chg_same (b:Nat) (G:Nat→Prop) (w:World) (r:Rf) (xc xn:Int) (xd:ByteArray) (xe:Int) (xL:List (List Int)) (xm xs xy:Int) (xo:Option Addr) (xp:Nat) (h:RfM b G w r) (ha:r.at_=3) (hf:fewL xL) (hx:CL w xo xL) (hs:sameP xe xL r.qe r.qL=true) :
  Calls Tryz.prog 21 #[ptrP b,.agg #[.int .i64 48,.int .i64 xn,.string xd,.int .i64 xe,.slice xo xL.length xp,.int .i64 xm,.int .i64 xs,.int .i64 xy],.bool true] w fun e w'=>e=.returned (.tuple #[])∧Leaves (RfM b) G w w' (r.to 4):=by
 obtain ⟨HG,HB,HX,HA,⟨x0,x1,x2,x3,x4,x5,x6,x7⟩,c4,hb,hbw⟩:=z10 h 48 xn xd xe xo xL.length xp xm xs xy rfl
 have C:=Lh (fun w (h:RfM b G w r)=>z0q b G w r h)
 rw [decide_eq_false (p:=r.at_=5) (by omega)] at C
 obtain ⟨hok,v1,v2,v3,v4,F,h1,⟨hq,_,_⟩,_,_⟩:=HA.out.open (by omega)
 obtain ⟨a1,n1,rfl,q1,_,_⟩:=(id hq).cl
 obtain ⟨⟨c0,c1,c2,c3,c4,c5,c6,c7⟩,_⟩:=z03 h1
 rw [ha] at c4
 have HQ:=Lh q1
 have H1:=Lh h1
 have HC:=Lh (hx.below HB.out)
 have CK:=Lh (fun W (hC:CL W xo xL) (hQ:CL W a1 r.qL)=>alike_any xe xo xp xL r.qe a1 n1 r.qL W hC hQ hf hok.qf)
 rw [hs] at CK
 clear h h1 hx hq q1 hok hf hs
 unfold ptrP at *
 go_enter Tryz.func21,Tryz.ntmps21
 go_wp2_with fail
 generalize w.alloc _=w1 at *
 refine z06 2 rfl ?_
 generalize hQ:Exit.jump _ _ _=QJ
 go_wp2_with (go_at_call 48;refine (C.out _ HA.out).mono ?_;rintro e w9 ⟨rfl,rfl⟩)
 have S1d:=Lh (show w1.drew.cell? ⟨w.heap.size,3,none⟩=some (.int .i64 xe)∧w1.drew.cell? ⟨w.heap.size,4,none⟩=some (.slice xo xL.length xp)∧w1.drew.cell? ⟨b,0,none⟩=some (.int .i64 r.qe)∧w1.drew.cell? ⟨b,1,none⟩=some (.slice a1 r.qL.length n1) from ⟨x3,x4,c0,c1⟩)
 go_region_held3 (fun W=>W.cell? ⟨w.heap.size,3,none⟩=some (.int .i64 xe)∧W.cell? ⟨w.heap.size,4,none⟩=some (.slice xo xL.length xp)∧W.cell? ⟨b,0,none⟩=some (.int .i64 r.qe)∧W.cell? ⟨b,1,none⟩=some (.slice a1 r.qL.length n1))
  (first | with_reducible exact S1d.out | with_reducible exact S6.out | with_reducible assumption)
  (first | (go_at_call 55;refine (CK.out _ (HC.out.below (Below.refl _ _).drew) (HQ.out.below (Below.refl _ _).drew)).mono ?_;rintro e w6 ⟨rfl,hb6⟩;have B6:=Lh (z0c (w1:=w1) hb6 (Below.refl _ _).drew);have X6:=Lh (z01 B6.out HX.out);have H6:=Lh (z01 B6.out H1.out);have S6:=Lh (show w6.cell? ⟨w.heap.size,3,none⟩=some (.int .i64 xe)∧w6.cell? ⟨w.heap.size,4,none⟩=some (.slice xo xL.length xp)∧w6.cell? ⟨b,0,none⟩=some (.int .i64 r.qe)∧w6.cell? ⟨b,1,none⟩=some (.slice a1 r.qL.length n1) from ⟨z02 X6.out 3,z02 X6.out 4,z02 H6.out 0,z02 H6.out 1⟩);have HA6:=Lh (HA.out.below B6.out);have HB6:=Lh (HB.out.trans (B6.out.mono HB.out.size));clear hb6))
 all_goals
  clear x0 x1 x2 x3 x4 x5 x6 x7 c0 c1 c2 c3 c4 c5 c6 c7 hb
  obtain ⟨u0,u1,u2,u3,u5,u6,u7,h6⟩:=HA6.out.cells
  obtain ⟨⟨c0,c1,c2,c3,c4,c5,c6,c7⟩,f0,f1,f2,f3,f4,f5,f6,f7⟩:=z03 h6
  obtain ⟨⟨x0,x1,x2,x3,x4,x5,x6,x7⟩,_⟩:=z03 X6.out
  have hb6:=lt_of_block h6
  clear h6
  go_wp2_with fail
  go_step3
  show QJ (.goto 2) _ _
  rw [← hQ]
  refine z0h ?_
  have HS:=Lh (HA6.out.starts ha)
  go_wp2_with fail
  rw [Exit.noGoto_ret]
  exact bodyPost_ret (results_none rfl _ _ _) rfl ⟨rfl,HS.out.ahead HG.out HB6.out⟩
theorem mh_chg_not (b:Nat) (G:Nat→Prop) (w:World) (r:Rf) (xc xn:Int) (xd:ByteArray) (xe:Int) (xL:List (List Int)) (xm xs xy:Int) (xo:Option Addr) (xp:Nat) (h:RfM b G w r) (ha:r.at_=3) (hf:fewL xL) (hx:CL w xo xL) (hs:sameP xe xL r.qe r.qL=false) :
  Calls Tryz.prog 21 #[ptrP b,.agg #[.int .i64 48,.int .i64 xn,.string xd,.int .i64 xe,.slice xo xL.length xp,.int .i64 xm,.int .i64 xs,.int .i64 xy],.bool true] w fun e w'=>e=.returned (.tuple #[])∧Leaves (RfM b) G w w' (r.ends 48):=by
 obtain ⟨HG,HB,HX,HA,⟨x0,x1,x2,x3,x4,x5,x6,x7⟩,c4,hb,hbw⟩:=z10 h 48 xn xd xe xo xL.length xp xm xs xy rfl
 have C:=Lh (fun w (h:RfM b G w r)=>z0q b G w r h)
 rw [decide_eq_false (p:=r.at_=5) (by omega)] at C
 obtain ⟨hok,v1,v2,v3,v4,F,h1,⟨hq,_,_⟩,_,_⟩:=HA.out.open (by omega)
 obtain ⟨a1,n1,rfl,q1,_,_⟩:=(id hq).cl
 obtain ⟨⟨c0,c1,c2,c3,c4,c5,c6,c7⟩,_⟩:=z03 h1
 rw [ha] at c4
 have HQ:=Lh q1
 have H1:=Lh h1
 have HC:=Lh (hx.below HB.out)
 have CK:=Lh (fun W (hC:CL W xo xL) (hQ:CL W a1 r.qL)=>alike_any xe xo xp xL r.qe a1 n1 r.qL W hC hQ hf hok.qf)
 rw [hs] at CK
 clear h h1 hx hq q1 hok hf hs
 unfold ptrP at *
 go_enter Tryz.func21,Tryz.ntmps21
 go_wp2_with fail
 generalize w.alloc _=w1 at *
 refine z06 3 rfl ?_
 generalize hQ:Exit.jump _ _ _=QJ
 go_wp2_with (go_at_call 48;refine (C.out _ HA.out).mono ?_;rintro e w9 ⟨rfl,rfl⟩)
 have S1d:=Lh (show w1.drew.cell? ⟨w.heap.size,3,none⟩=some (.int .i64 xe)∧w1.drew.cell? ⟨w.heap.size,4,none⟩=some (.slice xo xL.length xp)∧w1.drew.cell? ⟨b,0,none⟩=some (.int .i64 r.qe)∧w1.drew.cell? ⟨b,1,none⟩=some (.slice a1 r.qL.length n1) from ⟨x3,x4,c0,c1⟩)
 go_region_held3 (fun W=>W.cell? ⟨w.heap.size,3,none⟩=some (.int .i64 xe)∧W.cell? ⟨w.heap.size,4,none⟩=some (.slice xo xL.length xp)∧W.cell? ⟨b,0,none⟩=some (.int .i64 r.qe)∧W.cell? ⟨b,1,none⟩=some (.slice a1 r.qL.length n1))
  (first | with_reducible exact S1d.out | with_reducible exact S6.out | with_reducible assumption)
  (first | (go_at_call 55;refine (CK.out _ (HC.out.below (Below.refl _ _).drew) (HQ.out.below (Below.refl _ _).drew)).mono ?_;rintro e w6 ⟨rfl,hb6⟩;have B6:=Lh (z0c (w1:=w1) hb6 (Below.refl _ _).drew);have X6:=Lh (z01 B6.out HX.out);have H6:=Lh (z01 B6.out H1.out);have S6:=Lh (show w6.cell? ⟨w.heap.size,3,none⟩=some (.int .i64 xe)∧w6.cell? ⟨w.heap.size,4,none⟩=some (.slice xo xL.length xp)∧w6.cell? ⟨b,0,none⟩=some (.int .i64 r.qe)∧w6.cell? ⟨b,1,none⟩=some (.slice a1 r.qL.length n1) from ⟨z02 X6.out 3,z02 X6.out 4,z02 H6.out 0,z02 H6.out 1⟩);have HA6:=Lh (HA.out.below B6.out);have HB6:=Lh (HB.out.trans (B6.out.mono HB.out.size));clear hb6))
 all_goals
  clear x0 x1 x2 x3 x4 x5 x6 x7 c0 c1 c2 c3 c4 c5 c6 c7 hb
  obtain ⟨u0,u1,u2,u3,u5,u6,u7,h6⟩:=HA6.out.cells
  obtain ⟨⟨c0,c1,c2,c3,c4,c5,c6,c7⟩,f0,f1,f2,f3,f4,f5,f6,f7⟩:=z03 h6
  obtain ⟨⟨x0,x1,x2,x3,x4,x5,x6,x7⟩,_⟩:=z03 X6.out
  have hb6:=lt_of_block h6
  clear h6
  go_wp2_with fail
  go_step3
  show QJ (.goto 3) _ _
  rw [← hQ]
  refine z0h ?_
  go_wp2_with (go_at_call 45;refine (mp_end b _ _ r _ HA6.out).mono ?_;rintro e w9 ⟨rfl,hl⟩;have HL9:=Lh hl;clear hl)
  rw [z0b]
  go_end0
  exact ⟨rfl,HL9.out.ahead HG.out HB6.out⟩
theorem mh_start_ok (b:Nat) (G:Nat→Prop) (w:World) (r:Rf) (xc xn:Int) (xd:ByteArray) (xe:Int) (xL:List (List Int)) (xm xs xy:Int) (xo:Option Addr) (xp:Nat) (h:RfM b G w r) (ha:r.at_=4) :
  Calls Tryz.prog 21 #[ptrP b,.agg #[.int .i64 0,.int .i64 xn,.string xd,.int .i64 xe,.slice xo xL.length xp,.int .i64 xm,.int .i64 xs,.int .i64 xy],.bool true] w fun e w'=>e=.returned (.tuple #[])∧Leaves (RfM b) G w w' (r.ends 0):=by
 obtain ⟨HG,HB,HX,HA,⟨x0,x1,x2,x3,x4,x5,x6,x7⟩,c4,hb,hbw⟩:=z10 h 0 xn xd xe xo xL.length xp xm xs xy rfl
 have C:=Lh (fun w (h:RfM b G w r)=>z0q b G w r h)
 rw [decide_eq_false (p:=r.at_=5) (by omega)] at C
 obtain ⟨hok,v1,v2,v3,v4,F,h1,_,_,_⟩:=HA.out.open (by omega)
 obtain ⟨⟨c0,c1,c2,c3,c4,c5,c6,c7⟩,_⟩:=z03 h1
 rw [ha] at c4
 clear h h1 hok
 unfold ptrP at *
 go_enter Tryz.func21,Tryz.ntmps21
 go_wp2_with fail
 generalize w.alloc _=w1 at *
 refine z06 3 rfl ?_
 generalize hQ:Exit.jump _ _ _=QJ
 go_wp2_with (go_at_call 48;refine (C.out _ HA.out).mono ?_;rintro e w9 ⟨rfl,rfl⟩)
 go_quiet (fail)
 have HA2:=Lh (HA.out.below (below_drewN (Below.refl _ _) nq))
 have HB2:=Lh (below_drewN HB.out nq)
 clear x0 x1 x2 x3 x4 x5 x6 x7 c0 c1 c2 c3 c4 c5 c6 c7 hb
 generalize w1.drewN nq=w2 at *
 obtain ⟨u0,u1,u2,u3,u5,u6,u7,h2⟩:=HA2.out.cells
 obtain ⟨⟨c0,c1,c2,c3,c4,c5,c6,c7⟩,f0,f1,f2,f3,f4,f5,f6,f7⟩:=z03 h2
 have hb2:=lt_of_block h2
 clear h2
 go_wp2_with fail
 go_step3
 show QJ (.goto 3) _ _
 rw [← hQ]
 refine z0h ?_
 go_wp2_with (go_at_call 45;refine (mp_end b _ _ r _ HA2.out).mono ?_;rintro e w9 ⟨rfl,hl⟩;have HL9:=Lh hl;clear hl)
 rw [z0b]
 go_end0
 exact ⟨rfl,HL9.out.ahead HG.out HB2.out⟩
theorem mh_start_err (b:Nat) (G:Nat→Prop) (w:World) (r:Rf) (xc xn:Int) (xd:ByteArray) (xe:Int) (xL:List (List Int)) (xm xs xy:Int) (xo:Option Addr) (xp:Nat) (h:RfM b G w r) (ha:r.at_=4) (n45:¬ xc=45) (n0:¬ xc=0) (n40:¬ xc=40) :
  Calls Tryz.prog 21 #[ptrP b,.agg #[.int .i64 xc,.int .i64 xn,.string xd,.int .i64 xe,.slice xo xL.length xp,.int .i64 xm,.int .i64 xs,.int .i64 xy],.bool true] w fun e w'=>e=.returned (.tuple #[])∧Leaves (RfM b) G w w' (r.ends xc):=by
 obtain ⟨HG,HB,HX,HA,⟨x0,x1,x2,x3,x4,x5,x6,x7⟩,c4,hb,hbw⟩:=z10 h xc xn xd xe xo xL.length xp xm xs xy rfl
 have C:=Lh (fun w (h:RfM b G w r)=>z0q b G w r h)
 rw [decide_eq_false (p:=r.at_=5) (by omega)] at C
 have e45:(xc == 45)=false:=by simpa using n45
 have e0:(xc == 0)=false:=by simpa using n0
 have e40:(xc == 40)=false:=by simpa using n40
 obtain ⟨hok,v1,v2,v3,v4,F,h1,_,_,_⟩:=HA.out.open (by omega)
 obtain ⟨⟨c0,c1,c2,c3,c4,c5,c6,c7⟩,_⟩:=z03 h1
 rw [ha] at c4
 clear h h1 hok
 unfold ptrP at *
 go_enter Tryz.func21,Tryz.ntmps21
 go_wp2_with fail
 generalize w.alloc _=w1 at *
 refine z06 3 rfl ?_
 generalize hQ:Exit.jump _ _ _=QJ
 go_wp2_with (go_at_call 48;refine (C.out _ HA.out).mono ?_;rintro e w9 ⟨rfl,rfl⟩)
 go_quiet (fail)
 have HA2:=Lh (HA.out.below (below_drewN (Below.refl _ _) nq))
 have HB2:=Lh (below_drewN HB.out nq)
 clear x0 x1 x2 x3 x4 x5 x6 x7 c0 c1 c2 c3 c4 c5 c6 c7 hb
 generalize w1.drewN nq=w2 at *
 obtain ⟨u0,u1,u2,u3,u5,u6,u7,h2⟩:=HA2.out.cells
 obtain ⟨⟨c0,c1,c2,c3,c4,c5,c6,c7⟩,f0,f1,f2,f3,f4,f5,f6,f7⟩:=z03 h2
 have hb2:=lt_of_block h2
 clear h2
 go_wp2_with fail
 go_step3
 show QJ (.goto 3) _ _
 rw [← hQ]
 refine z0h ?_
 go_wp2_with (go_at_call 45;refine (mp_end b _ _ r _ HA2.out).mono ?_;rintro e w9 ⟨rfl,hl⟩;have HL9:=Lh hl;clear hl)
 rw [z0b]
 go_end0
 exact ⟨rfl,HL9.out.ahead HG.out HB2.out⟩
theorem mh_start_same (b:Nat) (G:Nat→Prop) (w:World) (r:Rf) (xc xn:Int) (xd:ByteArray) (xe:Int) (xL:List (List Int)) (xm xs xy:Int) (xo:Option Addr) (xp:Nat) (h:RfM b G w r) (ha:r.at_=4) (he:xy=r.qe) :
  Calls Tryz.prog 21 #[ptrP b,.agg #[.int .i64 40,.int .i64 xn,.string xd,.int .i64 xe,.slice xo xL.length xp,.int .i64 xm,.int .i64 xs,.int .i64 xy],.bool true] w fun e w'=>e=.returned (.tuple #[])∧Leaves (RfM b) G w w' (r.ends 0):=by
 obtain ⟨HG,HB,HX,HA,⟨x0,x1,x2,x3,x4,x5,x6,x7⟩,c4,hb,hbw⟩:=z10 h 40 xn xd xe xo xL.length xp xm xs xy rfl
 have C:=Lh (fun w (h:RfM b G w r)=>z0q b G w r h)
 rw [decide_eq_false (p:=r.at_=5) (by omega)] at C
 have e1:(xy == r.qe)=true:=beq_iff_eq.2 he
 clear he
 obtain ⟨hok,v1,v2,v3,v4,F,h1,_,_,_⟩:=HA.out.open (by omega)
 obtain ⟨⟨c0,c1,c2,c3,c4,c5,c6,c7⟩,_⟩:=z03 h1
 rw [ha] at c4
 clear h h1 hok
 unfold ptrP at *
 go_enter Tryz.func21,Tryz.ntmps21
 go_wp2_with fail
 generalize w.alloc _=w1 at *
 refine z06 3 rfl ?_
 generalize hQ:Exit.jump _ _ _=QJ
 go_wp2_with (go_at_call 48;refine (C.out _ HA.out).mono ?_;rintro e w9 ⟨rfl,rfl⟩)
 go_quiet (fail)
 have HA2:=Lh (HA.out.below (below_drewN (Below.refl _ _) nq))
 have HB2:=Lh (below_drewN HB.out nq)
 clear x0 x1 x2 x3 x4 x5 x6 x7 c0 c1 c2 c3 c4 c5 c6 c7 hb
 generalize w1.drewN nq=w2 at *
 obtain ⟨u0,u1,u2,u3,u5,u6,u7,h2⟩:=HA2.out.cells
 obtain ⟨⟨c0,c1,c2,c3,c4,c5,c6,c7⟩,f0,f1,f2,f3,f4,f5,f6,f7⟩:=z03 h2
 have hb2:=lt_of_block h2
 clear h2
 go_wp2_with fail
 go_step3
 show QJ (.goto 3) _ _
 rw [← hQ]
 refine z0h ?_
 go_wp2_with (go_at_call 45;refine (mp_end b _ _ r _ HA2.out).mono ?_;rintro e w9 ⟨rfl,hl⟩;have HL9:=Lh hl;clear hl)
 rw [z0b]
 go_end0
 exact ⟨rfl,HL9.out.ahead HG.out HB2.out⟩
theorem mh_start_not (b:Nat) (G:Nat→Prop) (w:World) (r:Rf) (xc xn:Int) (xd:ByteArray) (xe:Int) (xL:List (List Int)) (xm xs xy:Int) (xo:Option Addr) (xp:Nat) (h:RfM b G w r) (ha:r.at_=4) (he:¬ xy=r.qe) :
  Calls Tryz.prog 21 #[ptrP b,.agg #[.int .i64 40,.int .i64 xn,.string xd,.int .i64 xe,.slice xo xL.length xp,.int .i64 xm,.int .i64 xs,.int .i64 xy],.bool true] w fun e w'=>e=.returned (.tuple #[])∧Leaves (RfM b) G w w' (r.ends 40):=by
 obtain ⟨HG,HB,HX,HA,⟨x0,x1,x2,x3,x4,x5,x6,x7⟩,c4,hb,hbw⟩:=z10 h 40 xn xd xe xo xL.length xp xm xs xy rfl
 have C:=Lh (fun w (h:RfM b G w r)=>z0q b G w r h)
 rw [decide_eq_false (p:=r.at_=5) (by omega)] at C
 have e1:(xy == r.qe)=false:=beq_eq_false_iff_ne.2 he
 clear he
 obtain ⟨hok,v1,v2,v3,v4,F,h1,_,_,_⟩:=HA.out.open (by omega)
 obtain ⟨⟨c0,c1,c2,c3,c4,c5,c6,c7⟩,_⟩:=z03 h1
 rw [ha] at c4
 clear h h1 hok
 unfold ptrP at *
 go_enter Tryz.func21,Tryz.ntmps21
 go_wp2_with fail
 generalize w.alloc _=w1 at *
 refine z06 3 rfl ?_
 generalize hQ:Exit.jump _ _ _=QJ
 go_wp2_with (go_at_call 48;refine (C.out _ HA.out).mono ?_;rintro e w9 ⟨rfl,rfl⟩)
 go_quiet (fail)
 have HA2:=Lh (HA.out.below (below_drewN (Below.refl _ _) nq))
 have HB2:=Lh (below_drewN HB.out nq)
 clear x0 x1 x2 x3 x4 x5 x6 x7 c0 c1 c2 c3 c4 c5 c6 c7 hb
 generalize w1.drewN nq=w2 at *
 obtain ⟨u0,u1,u2,u3,u5,u6,u7,h2⟩:=HA2.out.cells
 obtain ⟨⟨c0,c1,c2,c3,c4,c5,c6,c7⟩,f0,f1,f2,f3,f4,f5,f6,f7⟩:=z03 h2
 have hb2:=lt_of_block h2
 clear h2
 go_wp2_with fail
 go_step3
 show QJ (.goto 3) _ _
 rw [← hQ]
 refine z0h ?_
 go_wp2_with (go_at_call 45;refine (mp_end b _ _ r _ HA2.out).mono ?_;rintro e w9 ⟨rfl,hl⟩;have HL9:=Lh hl;clear hl)
 rw [z0b]
 go_end0
 exact ⟨rfl,HL9.out.ahead HG.out HB2.out⟩
section
variable {UG:Nat→Nat→(Nat→Prop)→World→Us→Prop} {OG:Nat→(Nat→Prop)→World→Od→Prop} {LG:Nat→(Nat→Prop)→World→Ly→Prop} {NG:Nat→(Nat→Prop)→World→Nd→Prop} {HG:Nat→Nat→(Nat→Prop)→World→Hd→Prop} {AG:Nat→(Nat→Prop)→World→Ap→Prop} {FG:Nat→(Nat→Prop)→World→Fe→Prop} {RG:Nat→(Nat→Prop)→World→Rf→Prop}
theorem chg_rec (HS:HandSays UG OG LG NG HG) (RS:RfmSays RG) (b nb:Nat) (X:Nat→Prop) (w:World) (h0:Hd) (hs:Solo (HG b nb) X w h0) {E:Int} {M:List (List Int)} {qe:Int} {qL:List (List Int)} {m:Nat} {txt:Nat→ByteArray} {n:Nd} (hR:RecN E M n m txt) (hF:Fell n h0.n qL) (hx:nextB E M qe qL=true) (hm:m≤14)
  (ao:Option Addr) (cap:Nat) (k:Nat) (hk:qL.length=k) (hC:CL w ao qL) (hn:ao=none→cap=0) (hc:k≤cap) (fo:Option Addr) (fc:Nat) (fl:List Int) (hl:fl.length≤60) (hRw:∀ W,Kept X w W→Row W fo 1 byteC fl) (hK:∀ x ∈ fl,0≤x∧x < 256) :
  Calls Tryz.prog 32 #[.pointer (some ⟨b,0,none⟩),.agg #[.int .i64 qe,.slice ao k cap],.slice fo fl.length fc] w fun e w'=>e=.returned (.tuple #[.int .i64 0,.bool true])∧∃ h':Hd,QN M qe qL m txt h'.n∧Solo (HG b nb) X w' h'∧Kept X w w':=by
 subst hk
 refine (chg_any HS RS b nb X w h0 hs qe qL (hR.ready hx hF) (by rw [hF.l];have:=hR.used;omega) ao cap hC hn hc fo fc fl hl hRw hK).mono ?_
 rintro e w' ⟨he,h',K,C,h7,h8⟩
 exact ⟨he,h',hR.changed hm hx hF C,h7,h8⟩
theorem ho_layout (HS:HandSays UG OG LG NG HG) {X:Nat→Prop} {w:World} {b nb:Nat} {h:Hd} (hs:Solo (HG b nb) X w h) :
  Calls Tryz.prog 35 #[.pointer (some ⟨nb,0,none⟩)] w fun e w'=>∃ bl:Nat,e=.returned (.pointer (some ⟨bl,0,none⟩))∧Below w.heap.size w w'∧∃ F:Nat→Prop,LG bl F w' h.n.l:=by
 obtain ⟨_,F,hF,_⟩:=id hs
 obtain ⟨F2,hF2,_⟩:=HS.nodes_in hF
 refine (HS.rpc.layout nb F2 w h.n hF2).mono ?_
 rintro e w' ⟨bl,he,hb,F3,h3,_⟩
 exact ⟨bl,he,hb,F3,h3⟩
theorem made18 (HS:HandSays UG OG LG NG HG) (ao:Option Addr) (room:Int) (w:World) (hC:CL w ao oL) (hr:50≤room∧room≤4096) (txt:Nat→ByteArray) :
  Calls Tryz.prog 25 #[.agg #[.int .i64 0,.slice ao 2 2],.int .i64 room] w fun e w'=>∃ b nb:Nat,∃ p:Value,∃ h:Hd,e=.returned (.tuple #[.pointer (some ⟨b,0,none⟩),p,.bool true])∧RecN 0 oL h.n 0 txt∧Solo (HG b nb) (fun k=>k < w.heap.size) w' h∧Below w.heap.size w w':=by
 refine (made17_two HS ao oL 2 rfl room w hC (z16 oL_good).1 oL_good (by omega)).mono ?_
 rintro e w' ⟨b,nb,p,he,hs,hb⟩
 exact ⟨b,nb,p,_,he,RecN.start oL_good hr,hs,hb⟩
def qW:List (List Int):=[[1,2],[3,9]]
theorem qW_next:nextB 0 oL 1 qW=true:=by decide +kernel
def txW (i:Nat):ByteArray:=if i=0 then ⟨#[97]⟩ else ⟨#[98]⟩
theorem txW_0:txW 0=⟨#[97]⟩:=rfl
theorem txW_1:txW 1=⟨#[98]⟩:=rfl
theorem wakes18_any (HS:HandSays UG OG LG NG HG) (AS:AppSays AG) (FS:FetchSays FG) (RS:RfmSays RG) (w:World):Calls Tryz.prog 9 #[] w fun e w'=>e=.returned (.bool true)∧Below w.heap.size w w':=by
 have TT:=Lh (fun b nb=>HS.thing b nb)
 have CO:=Lh old18_any
 have CM:=Lh (fun ao w hC=>made18 HS ao 50 w hC ⟨by decide,by decide⟩ txW)
 have CP0:=Lh (fun b nb X W h hs hR ao hC hn=>put_rec HS AS b nb X W h hs 0 oL 0 txW hR (by decide) ⟨#[97]⟩ txW_0 (by decide) ao 2 rfl hC hn)
 have CP1:=Lh (fun b nb X W h hs hR ao hC hn=>put_rec HS AS b nb X W h hs 0 oL 1 txW hR (by decide) ⟨#[98]⟩ txW_1 (by decide) ao 2 rfl hC hn)
 have CC:=Lh (fun b nb X W h hs hR ao hC hn=>chg_rec HS RS b nb X W h hs (E:=0) (M:=oL) (qe:=1) (qL:=qW) (m:=2) (txt:=txW) hR (Fell.refl h.n qW) qW_next (by decide) ao 2 2 rfl hC hn (Nat.le_refl _) none 0 [] (by decide) (fun W _=>Row.nil _ _ _ _) (fun x hx=>by cases hx))
 have CG1:=Lh (fun b nb X W h hs Q ao hC hn=>get_q HS FS b nb X W h hs (E:=0) (M:=oL) (qe:=1) (qL:=qW) (m:=2) (txt:=txW) Q qW_next 1 (by decide) (by decide) (by decide) 1 qW (.inl ⟨rfl,rfl⟩) ao 2 2 rfl hC hn (Nat.le_refl _))
 have CP2:=Lh (fun b nb X W h hs Q ao hC hn=>put_old HS AS b nb X W h hs (E:=0) (M:=oL) (qe:=1) (qL:=qW) (m:=2) (txt:=txW) Q qW_next (by decide) ⟨#[99]⟩ (by decide) ao 2 rfl hC hn)
 have ND:=Lh (fun (F:Nat→Prop) (W:World) (ao:Option Addr) (h:CG F W (.slice ao 2 2) oL)=>show CL W ao oL∧(ao=none→2=0) from ⟨z1e h,by
  obtain ⟨a2,c2,hv,h2,_⟩:=h
  obtain ⟨rfl,_,rfl⟩:=Value.slice.inj hv
  exact h2⟩)
 have hfld:∀ (q:Value) (v0:Int) (W:World),(Instr.field 24 (.agg #[.int .i64 v0,q]) 0).run Tryz.prog W=.ok (.int .i64 v0) W:=fun q v0 W=>by kernel_rfl
 go_enter Tryz.func9,Tryz.ntmps9
 go_wp2_with (first
  | (go_at_call 26;refine (CP1.out b nb (fun k=>k < w.heap.size) _ _ S5.out R5.out ao5 C5.out N5.out).mono ?_;rintro e w6 ⟨rfl,h6,hr,hs,hk⟩;have S6:=Lh hs;have R6:=Lh hr;have B6:=Lh (B5.out.trans (hk.toBelow B5.out.size (fun j h=>h)));clear hr hs hk)
  | (go_at_call 24;refine (CO.out w4).mono ?_;rintro e w5 ⟨ao5,rfl,hC,hb⟩;have R5:=Lh R4.out;have S5:=Lh (S4.out.below (TT.out b nb) hb);have B5:=Lh (B4.out.trans (hb.mono B4.out.size));have C5:=Lh (ND.out _ _ _ hC).1;have N5:=Lh (ND.out _ _ _ hC).2;clear hC hb)
  | (go_at_call 26;refine (CP0.out b nb (fun k=>k < w.heap.size) _ _ S3.out R3.out ao3 C3.out N3.out).mono ?_;rintro e w4 ⟨rfl,h4,hr,hs,hk⟩;have S4:=Lh hs;have R4:=Lh hr;have B4:=Lh (B3.out.trans (hk.toBelow B3.out.size (fun j h=>h)));clear hr hs hk)
  | (go_at_call 24;refine (CO.out w2).mono ?_;rintro e w3 ⟨ao3,rfl,hC,hb⟩;have R3:=Lh R2.out;have S3:=Lh (S2.out.below (TT.out b nb) hb);have B3:=Lh (B2.out.trans (hb.mono B2.out.size));have C3:=Lh (ND.out _ _ _ hC).1;have N3:=Lh (ND.out _ _ _ hC).2;clear hC hb)
  | (go_at_call 25;refine (CM.out ao1 w1 C1.out).mono ?_;rintro e w2 ⟨b,nb,p,h2,rfl,hr,hs,hb⟩;have R2:=Lh hr;have S2:=Lh (hs.less (fun k hk=>Nat.lt_of_lt_of_le hk B1.out.size));have B2:=Lh (B1.out.trans (hb.mono B1.out.size));clear hr hs hb)
  | (go_at_call 24;refine (CO.out w).mono ?_;rintro e w1 ⟨ao1,rfl,hC,hb⟩;have B1:=Lh hb;have C1:=Lh (ND.out _ _ _ hC).1;clear hC hb))
 obtain ⟨g0,g1,g2,g3,gs,gb⟩:=four_new18 w6 (.cells #[.int .i64 1,.int .i64 2] 3) (.cells #[.int .i64 3,.int .i64 9] 3) (.cells #[.slice (some ⟨w6.heap.size,0,none⟩) 2 2,.slice (some ⟨w6.heap.size+1,0,none⟩) 2 2] 65) (.cells #[.int .i64 1,.slice (some ⟨w6.heap.size+1+1,0,none⟩) 2 2] 24)
 have HCQ:=Lh (two_cg18 (B:=w6.heap.size) (l0:=[1,2]) (l1:=[3,9]) ⟨by omega,by omega,by omega⟩ (by simp) (by simp) g0 g1 g2)
 have HQ:=Lh g3
 have HB7:=Lh gb
 have HS7:=Lh gs
 clear g0 g1 g2 g3 gs gb
 generalize hw7:(((w6.alloc (.cells #[.int .i64 1,.int .i64 2] 3)).alloc (.cells #[.int .i64 3,.int .i64 9] 3)).alloc _).alloc _=w7 at *
 have S7:=Lh (S6.out.wider (TT.out b nb) HB7.out)
 have B7:=Lh (B6.out.trans (HB7.out.mono B6.out.size))
 have HXQ:=Lh (show (fun k=>k < w.heap.size∨(w6.heap.size≤k∧k < w7.heap.size)) (w6.heap.size+1+1+1) from .inr ⟨by omega,by have:=HS7.out;omega⟩)
 have HCL:=Lh (fun (W:World) (hk:Kept (fun k=>k < w.heap.size∨(w6.heap.size≤k∧k < w7.heap.size)) w7 W)=>show CL W (some ⟨w6.heap.size+1+1,0,none⟩) qW from z1e (HCQ.out.keep hk (fun k h=>.inr h)))
 have HC7:=Lh (show CL w7 (some ⟨w6.heap.size+1+1,0,none⟩) qW from z1e HCQ.out)
 have HQC:=Lh (fun (W:World) (hk:Kept (fun k=>k < w.heap.size∨(w6.heap.size≤k∧k < w7.heap.size)) w7 W)=>two_cells18 (hk.heap HXQ.out HQ.out))
 have Q7:=Lh (two_cells18 HQ.out)
 clear S2 S3 S4 S5 S6 R2 R3 R4 R5 C1 C3 N3 C5 N5 B1 B2 B3 B4 B5 B6 hw7
 go_wp2_with (first
  | (go_at_call 26;refine (CP2.out b nb (fun k=>k < w.heap.size∨(w6.heap.size≤k∧k < w7.heap.size)) _ _ S13.out Q9.out ao13 C13.out N13.out).mono ?_;rintro e w14 ⟨rfl,h14,_,hs,hk⟩;have K14:=Lh (K13.out.trans hk);clear hs hk)
  | (go_at_call 24;refine (CO.out w12).mono ?_;rintro e w13 ⟨ao13,rfl,hC,hb⟩;have S13:=Lh ((S10.out.below (TT.out b nb) B12.out).below (TT.out b nb) hb);have K13:=Lh (K12.out.below hb);have C13:=Lh (ND.out _ _ _ hC).1;have N13:=Lh (ND.out _ _ _ hC).2;clear hC hb)
  | (go_at_call 36;refine (HS.rpc.layout_.now bl F11 w11 _ L11.out).mono ?_;rw [Q9.out.le];rintro e w12 ⟨v12,rfl,hO,hb⟩;obtain ⟨ao12,c12,rfl,_⟩:=hO.form;clear hO;have K12:=Lh (K11.out.below hb);have B12:=Lh (B11.out.trans (hb.mono B11.out.size));clear hb)
  | (go_at_call 35;refine (ho_layout HS S10.out).mono ?_;rintro e w11 ⟨bl,rfl,hb,F11,hl⟩;have L11:=Lh hl;have B11:=Lh hb;have K11:=Lh (K10.out.below hb);clear hl hb)
  | (go_at_call 29;refine (ho_nodes HS S9.out).mono ?_;rintro e w10 ⟨rfl,hs,hb⟩;have S10:=Lh hs;have K10:=Lh (K9.out.below hb);clear hs hb)
  | (go_at_call 37;refine (CG1.out b nb (fun k=>k < w.heap.size∨(w6.heap.size≤k∧k < w7.heap.size)) w8 h8 S8.out Q8.out _ (HCL.out w8 K8.out) (fun e=>by cases e)).mono ?_;rw [txW_1];rintro e w9 ⟨rfl,h9,hq,hs,hk⟩;have Q9:=Lh hq;have S9:=Lh hs;have K9:=Lh (K8.out.trans hk);clear hq hs hk)
  | (go_at_call 32;refine (CC.out b nb (fun k=>k < w.heap.size∨(w6.heap.size≤k∧k < w7.heap.size)) w7 h6 S7.out R6.out _ HC7.out (fun e=>by cases e)).mono ?_;rintro e w8 ⟨rfl,h8,hq,hs,hk⟩;obtain ⟨c0,c1⟩:=HQC.out _ hk;have Q8:=Lh hq;have S8:=Lh hs;have K8:=Lh hk;clear hq hs hk))
 go_ret
 exact ⟨rfl,B7.out.trans (K14.out.toBelow B7.out.size (fun j h=>.inl h))⟩
end
theorem fq_zero {W:World} {b:Nat} {addr:Int} {fill:Bool} (h:W.heap[b]?=some (.cells #[.int .i64 0,.slice none 0 0,.int .i64 addr,.bool fill,.int .i64 0,.int .i64 0,.int .i64 0,.int .i64 0,.string ⟨#[]⟩,.int .i64 0] 180 (0,0))):FQ b (fun k=>k=b) W ⟨0,[],addr,fill,0,0,0,0,noS,0⟩ :=
 ⟨_,fun _=>False,h,⟨none,0,rfl,fun _=>rfl,Nat.le_refl _,fun a e=>(by cases e),fun i hi=>absurd hi (Nat.not_lt_zero i)⟩,rfl,fun k hk=>hk.elim,fun k hk=>(show k=b from hk) ▸ lt_of_block h⟩
def NewF (w:World) (q:Qf) (e:Ending) (w':World):Prop:=∃ (b:Nat) (G:Nat→Prop),e=.returned (ptrP b)∧FQ b G w' q∧(∀ k,G k→w.heap.size≤k)∧Below w.heap.size w w'
theorem newf_ended {w w4 w5:World} {b:Nat} {q:Qf} (hB:w.heap.size≤b) (hb:Below w.heap.size w w4) (hl:Leaves (FQ b) (fun k=>k=b) w4 w5 q):NewF w q (.returned (.pointer (some ⟨b,0,none⟩))) w5:=by
 obtain ⟨G',r1,r2,r3⟩:=hl
 refine ⟨b,G',rfl,r1,fun k hk=>?_,hb.trans (kept_low r2 (fun k hk hg=>by have hg:k=b:=hg;omega) hb.size)⟩
 rcases r3 k hk with h | h
 ·have h:k=b:=h
  omega
 ·exact Nat.le_trans hb.size h
theorem size_one (w:World) (x:Obj):(w.alloc x).heap.size=w.heap.size+1:=by simp
theorem newf_yes (ep:Int) (ao:Option Addr) (cap:Nat) (L:List (List Int)) (addr:Int) (fill:Bool) (w:World) (hc:CL w ao L) (hf:fewL L) (ho:ofB ep L addr=true) :
  Calls Tryz.prog 66 #[.agg #[.int .i64 ep,.slice ao L.length cap],.int .i64 addr,.bool fill] w (NewF w ⟨ep,L,addr,fill,2,0,(chainR ep L addr).length - 1,0,noS,0⟩):=by
 have HB:=Lh (((Below.refl w.heap.size w).alloc (Nat.le_refl _) (.cells #[.int .i64 ep,.slice ao L.length cap] 24)).alloc (by simp) (.cells #[.int .i64 0,.slice none 0 0,.int .i64 addr,.bool fill,.int .i64 0,.int .i64 0,.int .i64 0,.int .i64 0,.string ⟨#[]⟩,.int .i64 0] 180))
 have HC:=Lh (hc.below HB.out)
 have HX:=Lh (z01 (z00 (w.alloc (.cells #[.int .i64 ep,.slice ao L.length cap] 24)) (.cells #[.int .i64 0,.slice none 0 0,.int .i64 addr,.bool fill,.int .i64 0,.int .i64 0,.int .i64 0,.int .i64 0,.string ⟨#[]⟩,.int .i64 0] 180)) (heap_alloc_new w (.cells #[.int .i64 ep,.slice ao L.length cap] 24)))
 have HF:=Lh (heap_alloc_new (w.alloc (.cells #[.int .i64 ep,.slice ao L.length cap] 24)) (.cells #[.int .i64 0,.slice none 0 0,.int .i64 addr,.bool fill,.int .i64 0,.int .i64 0,.int .i64 0,.int .i64 0,.string ⟨#[]⟩,.int .i64 0] 180))
 rw [size_one] at HF
 obtain ⟨x0,x1,_⟩:=z05 HX.out
 have CO:=Lh (fun W (hC:CL W ao L)=>pOf_any ep ao cap L addr W hC hf)
 unfold ofV at CO
 rw [ho] at CO
 generalize ofC ep L addr=oc at *
 generalize ofP ep L addr=op at *
 have CB:=Lh (fun b G W h hC=>fp_begin b G W ⟨0,[],addr,fill,0,0,0,0,noS,0⟩ ep ao cap L h hC hf (chain_small ep L addr))
 clear hc hf ho
 go_enter Tryz.func66,Tryz.ntmps66
 go_wp2_with (go_at_call 100;refine (CO.out _ HC.out).mono ?_;rintro e w3 ⟨rfl,hb3⟩;have HB4:=Lh (((HB.out.trans (hb3.mono HB.out.size)).trans ((z00 w3 (.cells #[.int .i64 oc,.int .i64 op] 150)).mono (HB.out.trans (hb3.mono HB.out.size)).size)));have HC4:=Lh ((HC.out.below hb3).below (z00 w3 (.cells #[.int .i64 oc,.int .i64 op] 150)));have HX4:=Lh (z01 (z00 w3 (.cells #[.int .i64 oc,.int .i64 op] 150)) (z01 hb3 HX.out));have HF4:=Lh (z01 (z00 w3 (.cells #[.int .i64 oc,.int .i64 op] 150)) (z01 hb3 HF.out));obtain ⟨y0,y1,_⟩:=z05 HX4.out;clear hb3 x0 x1)
 generalize w3.alloc _=w4 at *
 go_wp2_with (go_at_call 101;refine (CB.out _ _ _ (fq_zero HF4.out) HC4.out).mono ?_;rintro e w5 ⟨rfl,hl⟩;have HL:=Lh hl;clear hl)
 go_ret
 exact newf_ended (Nat.le_succ _) HB4.out HL.out
theorem newf_no (ep:Int) (ao:Option Addr) (cap:Nat) (L:List (List Int)) (addr:Int) (fill:Bool) (w:World) (hc:CL w ao L) (hf:fewL L) (ho:ofB ep L addr=false) :
  Calls Tryz.prog 66 #[.agg #[.int .i64 ep,.slice ao L.length cap],.int .i64 addr,.bool fill] w (NewF w ⟨ep,L,addr,fill,6,0,0,0,noS,1⟩):=by
 have HB:=Lh (((Below.refl w.heap.size w).alloc (Nat.le_refl _) (.cells #[.int .i64 ep,.slice ao L.length cap] 24)).alloc (by simp) (.cells #[.int .i64 0,.slice none 0 0,.int .i64 addr,.bool fill,.int .i64 0,.int .i64 0,.int .i64 0,.int .i64 0,.string ⟨#[]⟩,.int .i64 0] 180))
 have HC:=Lh (hc.below HB.out)
 have HX:=Lh (z01 (z00 (w.alloc (.cells #[.int .i64 ep,.slice ao L.length cap] 24)) (.cells #[.int .i64 0,.slice none 0 0,.int .i64 addr,.bool fill,.int .i64 0,.int .i64 0,.int .i64 0,.int .i64 0,.string ⟨#[]⟩,.int .i64 0] 180)) (heap_alloc_new w (.cells #[.int .i64 ep,.slice ao L.length cap] 24)))
 have HF:=Lh (heap_alloc_new (w.alloc (.cells #[.int .i64 ep,.slice ao L.length cap] 24)) (.cells #[.int .i64 0,.slice none 0 0,.int .i64 addr,.bool fill,.int .i64 0,.int .i64 0,.int .i64 0,.int .i64 0,.string ⟨#[]⟩,.int .i64 0] 180))
 rw [size_one] at HF
 obtain ⟨x0,x1,_⟩:=z05 HX.out
 have CO:=Lh (fun W (hC:CL W ao L)=>pOf_any ep ao cap L addr W hC hf)
 unfold ofV at CO
 rw [ho] at CO
 generalize ofC ep L addr=oc at *
 generalize ofP ep L addr=op at *
 have CC:=Lh (fun W (hC:CL W ao L)=>z14 ep ao cap L W hC hf)
 clear hc hf ho
 go_enter Tryz.func66,Tryz.ntmps66
 go_wp2_with (go_at_call 100;refine (CO.out _ HC.out).mono ?_;rintro e w3 ⟨rfl,hb3⟩;have HB4:=Lh (((HB.out.trans (hb3.mono HB.out.size)).trans ((z00 w3 (.cells #[.int .i64 oc,.int .i64 op] 150)).mono (HB.out.trans (hb3.mono HB.out.size)).size)));have HC4:=Lh ((HC.out.below hb3).below (z00 w3 (.cells #[.int .i64 oc,.int .i64 op] 150)));have HX4:=Lh (z01 (z00 w3 (.cells #[.int .i64 oc,.int .i64 op] 150)) (z01 hb3 HX.out));have HF4:=Lh (z01 (z00 w3 (.cells #[.int .i64 oc,.int .i64 op] 150)) (z01 hb3 HF.out));obtain ⟨y0,y1,_⟩:=z05 HX4.out;clear hb3 x0 x1)
 generalize w3.alloc _=w4 at *
 have HQ:=Lh (fq_zero HF4.out)
 go_wp2_with (go_at_call 46;refine (CC.out _ HC4.out).mono ?_;rintro e w5 ⟨v,rfl,hO,hb5⟩;obtain ⟨vo,vc,hv,_⟩:=hO.form;subst hv;have HO:=Lh hO;have HB5:=Lh hb5;have HR:=Lh (z01 hb5 HF4.out);obtain ⟨_,g0,g1,_⟩:=ten_of HR.out;have hb:=lt_of_block HR.out;clear hO hb5)
 have HL5:=Lh (HQ.out.chains (q':=⟨ep,L,addr,fill,0,0,0,0,noS,0⟩) HB5.out HO.out (((Kept.refl _ w5).setCell (p:=⟨w.heap.size+1,0,none⟩) (fun h=>h rfl) (.int .i64 ep)).setCell (p:=⟨w.heap.size+1,1,none⟩) (fun h=>h rfl) (.slice vo L.length vc)) (tset1 (tset0 HR.out _) _))
 generalize World.setCell _ _ _=w6 at *
 obtain ⟨H,hA6,hU⟩:=lv_use (fun k hk=>(show k=w.heap.size+1 from hk) ▸ lt_of_block HF4.out) HL5.out
 have HA6:=Lh hA6
 have HU:=Lh hU
 clear hA6 hU HL5 g0 g1 hb
 go_wp2_with (go_at_call 102;refine (fp_end _ _ _ ⟨ep,L,addr,fill,0,0,0,0,noS,0⟩ 0 ⟨#[]⟩ 1 HA6.out).mono ?_;rintro e w7 ⟨rfl,hl⟩;have HL:=Lh hl;clear hl)
 go_ret
 exact newf_ended (Nat.le_succ _) HB4.out (HU.out _ _ HL.out)
theorem ap_learn (b:Nat) (G:Nat→Prop) (w:World) (q:Qa) (x:An) (xo:Option Addr) (xp:Nat) (h:AQ b G w q) (hf:fewL x.L) (hx:CL w xo x.L) :
  Calls Tryz.prog 75 #[ptrP b,ansV x xo xp] w fun e w'=>e=.returned (.tuple #[])∧Leaves (AQ b) G w w' (q.learn x):=by
 obtain ⟨xc,xn,xd,xe,xL,xm,xs,xy⟩:=x
 show Calls _ _ #[ptrP b,.agg #[.int .i64 xc,.int .i64 xn,.string xd,.int .i64 xe,.slice xo xL.length xp,.int .i64 xm,.int .i64 xs,.int .i64 xy]] w _
 unfold Qa.learn
 dsimp only at *
 by_cases c0:xc=0
 ·subst c0
  by_cases hg:goodB xe xL=true
  ·by_cases ha:q.at_=0
   ·rw [if_pos ⟨rfl,hg,.inl ha⟩]
    exact learn_c b G w q 0 xn xd xe xL xm xs xy xo xp h hf hx hg ha
   ·by_cases ee:xe=q.ep
    ·subst ee
     rw [if_neg (fun e=>e.2.2.elim ha (fun e=>e rfl))]
     by_cases h1:q.at_=1
     ·rw [if_pos h1]
      exact learn_e1 b G w q 0 xn xd xL xm xs xy xo xp h hf hx hg h1
     ·rw [if_neg h1]
      exact learn_e0 b G w q 0 xn xd xL xm xs xy xo xp h hf hx hg ha h1
    ·rw [if_pos ⟨rfl,hg,.inr ee⟩]
     exact learn_d b G w q 0 xn xd xe xL xm xs xy xo xp h hf hx hg ha ee
  ·rw [if_neg (fun e=>hg e.2.1)]
   have hg':goodB xe xL=false:=Bool.eq_false_iff.2 hg
   by_cases h1:q.at_=1
   ·rw [if_pos h1]
    exact learn_b1 b G w q 0 xn xd xe xL xm xs xy xo xp h hf hx hg' h1
   ·rw [if_neg h1]
    exact learn_b0 b G w q 0 xn xd xe xL xm xs xy xo xp h hf hx hg' h1
 ·rw [if_neg (fun e=>c0 e.1)]
  by_cases h1:q.at_=1
  ·rw [if_pos h1]
   exact learn_a1 b G w q xc xn xd xe xL xm xs xy xo xp h hf hx c0 h1
  ·rw [if_neg h1]
   exact learn_a0 b G w q xc xn xd xe xL xm xs xy xo xp h hf hx c0 h1
theorem ap_step (b:Nat) (G:Nat→Prop) (w:World) (q:Qa) (x:An) (xo:Option Addr) (xp:Nat) (h:AQ b G w q) (hf:fewL q.L) (hat:q.at_=2∨q.at_=3∨q.at_=4) (hub:q.at_≠2→0≤q.unit∧q.unit≤100) :
  Calls Tryz.prog 76 #[ptrP b,ansV x xo xp] w fun e w'=>e=.returned (.tuple #[])∧Leaves (AQ b) G w w' (q.step x):=by
 obtain ⟨xc,xn,xd,xe,xL,xm,xs,xy⟩:=x
 show Calls _ _ #[ptrP b,.agg #[.int .i64 xc,.int .i64 xn,.string xd,.int .i64 xe,.slice xo xL.length xp,.int .i64 xm,.int .i64 xs,.int .i64 xy]] w _
 unfold Qa.step
 by_cases a2:q.at_=2
 ·rw [if_pos a2]
  unfold Qa.token Qa.full
  dsimp only
  cases ho:ofB q.ep q.L xn with
  | true =>
   by_cases c0:xc=0
   ·subst c0
    rw [if_pos ⟨rfl,rfl⟩]
    exact tok_yes b G w q 0 xn xd xe xL xm xs xy xo xp h a2 hf ho
   ·rw [if_neg (fun e=>c0 e.2)]
    by_cases c4:xc=44
    ·subst c4
     rw [if_pos rfl]
     cases hm:q.may with
     | true=>exact tok_full_ty b G w q 0 xn xd xe xL xm xs xy xo xp h a2 hf ho hm
     | false=>exact tok_full_fy b G w q 0 xn xd xe xL xm xs xy xo xp h a2 hf ho hm
    ·rw [if_neg c4]
     exact tok_again_y b G w q xc xn xd xe xL xm xs xy xo xp h a2 hf ho c0 c4
  | false =>
   rw [if_neg (fun e=>Bool.noConfusion e.1)]
   by_cases c4:xc=44
   ·subst c4
    rw [if_pos rfl]
    cases hm:q.may with
    | true=>exact tok_full_tn b G w q 0 xn xd xe xL xm xs xy xo xp h a2 hf ho hm
    | false=>exact tok_full_fn b G w q 0 xn xd xe xL xm xs xy xo xp h a2 hf ho hm
   ·rw [if_neg c4]
    exact tok_again_n b G w q xc xn xd xe xL xm xs xy xo xp h a2 hf ho c4
 ·rw [if_neg a2]
  have hu:=hub a2
  by_cases a3:q.at_=3
  ·rw [if_pos a3]
   unfold Qa.write Qa.full Qa.next
   dsimp only
   by_cases c0:xc=0
   ·subst c0
    rw [if_pos rfl]
    exact wr_next b G w q 0 xn xd xe xL xm xs xy xo xp h a3 hf hu _ (fun hn=>if_pos hn) (fun hn=>if_neg hn)
   ·rw [if_neg c0]
    by_cases c1:xc=41
    ·subst c1
     rw [if_pos rfl]
     exact wr_look b G w q 0 xn xd xe xL xm xs xy xo xp h a3
    ·rw [if_neg c1]
     by_cases c3:xc=43
     ·subst c3
      rw [if_pos rfl]
      exact wr_token b G w q 0 xn xd xe xL xm xs xy xo xp h a3
     ·rw [if_neg c3]
      by_cases c4:xc=44
      ·subst c4
       rw [if_pos rfl]
       cases hm:q.may with
       | true=>exact wr_full_t b G w q 0 xn xd xe xL xm xs xy xo xp h a3 hm
       | false=>exact wr_full_f b G w q 0 xn xd xe xL xm xs xy xo xp h a3 hm
      ·rw [if_neg c4]
       exact wr_over b G w q xc xn xd xe xL xm xs xy xo xp h a3 c0 c1 c3 c4
  ·rw [if_neg a3]
   have a4:q.at_=4:=by omega
   unfold Qa.look Qa.next
   dsimp only
   by_cases c0:xc=0
   ·subst c0
    by_cases hd:xd=q.txt
    ·subst hd
     rw [if_pos ⟨rfl,rfl⟩]
     exact lk_next b G w q 0 xn xe xL xm xs xy xo xp h a4 hf hu _ (fun hn=>if_pos hn) (fun hn=>if_neg hn)
    ·rw [if_neg (fun e=>hd e.2),if_pos (.inl rfl)]
     exact lk_other b G w q 0 xn xd xe xL xm xs xy xo xp h a4 hd
   ·rw [if_neg (fun e=>c0 e.1)]
    by_cases c6:xc=46
    ·subst c6
     rw [if_pos (.inr (.inl rfl))]
     exact lk_junk b G w q 0 xn xd xe xL xm xs xy xo xp h a4
    ·by_cases c3:xc=43
     ·subst c3
      rw [if_pos (.inr (.inr rfl))]
      exact lk_trimmed b G w q 0 xn xd xe xL xm xs xy xo xp h a4
     ·rw [if_neg (fun e=>e.elim c0 (fun e=>e.elim c6 c3))]
      by_cases c2:xc=42
      ·subst c2
       rw [if_pos rfl]
       exact lk_write b G w q 0 xn xd xe xL xm xs xy xo xp h a4
      ·rw [if_neg c2]
       exact lk_over b G w q xc xn xd xe xL xm xs xy xo xp h a4 c0 c6 c3 c2
end Go.Proofs.YtkefpbcifcjibaaGreat
