/- Joined texts. -/
import Derived.Test.YtkefpbcifcjibaaGreatG25a
import Derived.Test.YtkefpbcifcjibaaGreatG14a
import Derived.StillTailTactics
import Derived.Test.YtkefpbcifcjibaaGreatG23a
import Derived.Test.YtkefpbcifcjibaaGreatG15a
import Derived.Test.YtkefpbcifcjibaaGreatH00
set_option linter.unusedVariables false
set_option maxRecDepth 20000
set_option maxHeartbeats 16000000
namespace Go.Proofs.YtkefpbcifcjibaaGreat
open Go.RowKit
theorem z0n {b:Nat} {G:Nat→Prop} {w:World} {q:Qf} (h:FQ b G w q) (xc xn:Int) (xd:ByteArray) (xe:Int) (xo:Option Addr) (n xp:Nat) (xm xs xy:Int) {w1:World} (hw:w.alloc (.cells #[.int .i64 xc,.int .i64 xn,.string xd,.int .i64 xe,.slice xo n xp,.int .i64 xm,.int .i64 xs,.int .i64 xy] 49)=w1) :
  Hid (∀ k,G k→k < w.heap.size)∧Hid (Below w.heap.size w w1)∧Hid (w1.heap[w.heap.size]?=some (.cells #[.int .i64 xc,.int .i64 xn,.string xd,.int .i64 xe,.slice xo n xp,.int .i64 xm,.int .i64 xs,.int .i64 xy] 49 (0,0)))∧Hid (FQ b G w1 q)∧
  (w1.cell? ⟨w.heap.size,0,none⟩=some (.int .i64 xc)∧w1.cell? ⟨w.heap.size,1,none⟩=some (.int .i64 xn)∧w1.cell? ⟨w.heap.size,2,none⟩=some (.string xd)∧w1.cell? ⟨w.heap.size,3,none⟩=some (.int .i64 xe)∧w1.cell? ⟨w.heap.size,4,none⟩=some (.slice xo n xp)∧w1.cell? ⟨w.heap.size,5,none⟩=some (.int .i64 xm)∧w1.cell? ⟨w.heap.size,6,none⟩=some (.int .i64 xs)∧w1.cell? ⟨w.heap.size,7,none⟩=some (.int .i64 xy))∧
  ∃ ao cap,(w1.cell? ⟨b,0,none⟩=some (.int .i64 q.ep)∧w1.cell? ⟨b,1,none⟩=some (.slice ao q.L.length cap)∧w1.cell? ⟨b,2,none⟩=some (.int .i64 q.addr)∧w1.cell? ⟨b,3,none⟩=some (.bool q.fill)∧w1.cell? ⟨b,4,none⟩=some (.int .i64 q.at_)∧w1.cell? ⟨b,5,none⟩=some (.int .i64 q.was)∧w1.cell? ⟨b,6,none⟩=some (.int .i64 q.unit)∧w1.cell? ⟨b,7,none⟩=some (.int .i64 q.kind)∧w1.cell? ⟨b,8,none⟩=some (.string q.txt)∧w1.cell? ⟨b,9,none⟩=some (.int .i64 q.err))∧(w1.frozen? ⟨b,0,none⟩=false∧w1.frozen? ⟨b,1,none⟩=false∧w1.frozen? ⟨b,2,none⟩=false∧w1.frozen? ⟨b,3,none⟩=false∧w1.frozen? ⟨b,4,none⟩=false∧w1.frozen? ⟨b,5,none⟩=false∧w1.frozen? ⟨b,6,none⟩=false∧w1.frozen? ⟨b,7,none⟩=false∧w1.frozen? ⟨b,8,none⟩=false∧w1.frozen? ⟨b,9,none⟩=false)∧b < w1.heap.size∧Hid (CL w1 ao q.L)∧Hid (w1.heap[b]?=some (.cells #[.int .i64 q.ep,.slice ao q.L.length cap,.int .i64 q.addr,.bool q.fill,.int .i64 q.at_,.int .i64 q.was,.int .i64 q.unit,.int .i64 q.kind,.string q.txt,.int .i64 q.err] 180 (0,0)))∧
  Hid (∀ (W:World) (q':Qf),Kept (fun k=>k≠b) w1 W→q'.L=q.L→W.heap[b]?=some (.cells #[.int .i64 q'.ep,.slice ao q.L.length cap,.int .i64 q'.addr,.bool q'.fill,.int .i64 q'.at_,.int .i64 q'.was,.int .i64 q'.unit,.int .i64 q'.kind,.string q'.txt,.int .i64 q'.err] 180 (0,0))→Leaves (FQ b) G w1 W q'):=by
 subst hw
 have HB:=z00 w (.cells #[.int .i64 xc,.int .i64 xn,.string xd,.int .i64 xe,.slice xo n xp,.int .i64 xm,.int .i64 xs,.int .i64 xy] 49)
 have HX:=heap_alloc_new w (.cells #[.int .i64 xc,.int .i64 xn,.string xd,.int .i64 xe,.slice xo n xp,.int .i64 xm,.int .i64 xs,.int .i64 xy] 49)
 have HA:=h.below HB
 obtain ⟨ao,cap,h1,hc1,h3⟩:=HA.open
 obtain ⟨k1,k2⟩:=ten_of h1
 exact ⟨Lh (fun k hk=>(z0p b).lt h k hk),Lh HB,Lh HX,Lh HA,(z03 HX).1,ao,cap,k1,k2,lt_of_block h1,Lh hc1,Lh h1,Lh h3⟩
theorem z15 {b:Nat} {G:Nat→Prop} {w1:World} {q:Qf} (h:FQ b G w1 q) :
  ∃ ao cap,(w1.cell? ⟨b,0,none⟩=some (.int .i64 q.ep)∧w1.cell? ⟨b,1,none⟩=some (.slice ao q.L.length cap)∧w1.cell? ⟨b,2,none⟩=some (.int .i64 q.addr)∧w1.cell? ⟨b,3,none⟩=some (.bool q.fill)∧w1.cell? ⟨b,4,none⟩=some (.int .i64 q.at_)∧w1.cell? ⟨b,5,none⟩=some (.int .i64 q.was)∧w1.cell? ⟨b,6,none⟩=some (.int .i64 q.unit)∧w1.cell? ⟨b,7,none⟩=some (.int .i64 q.kind)∧w1.cell? ⟨b,8,none⟩=some (.string q.txt)∧w1.cell? ⟨b,9,none⟩=some (.int .i64 q.err))∧(w1.frozen? ⟨b,0,none⟩=false∧w1.frozen? ⟨b,1,none⟩=false∧w1.frozen? ⟨b,2,none⟩=false∧w1.frozen? ⟨b,3,none⟩=false∧w1.frozen? ⟨b,4,none⟩=false∧w1.frozen? ⟨b,5,none⟩=false∧w1.frozen? ⟨b,6,none⟩=false∧w1.frozen? ⟨b,7,none⟩=false∧w1.frozen? ⟨b,8,none⟩=false∧w1.frozen? ⟨b,9,none⟩=false)∧b < w1.heap.size∧Hid (CL w1 ao q.L)∧Hid (w1.heap[b]?=some (.cells #[.int .i64 q.ep,.slice ao q.L.length cap,.int .i64 q.addr,.bool q.fill,.int .i64 q.at_,.int .i64 q.was,.int .i64 q.unit,.int .i64 q.kind,.string q.txt,.int .i64 q.err] 180 (0,0)))∧
  Hid (∀ (W:World) (q':Qf),Kept (fun k=>k≠b) w1 W→q'.L=q.L→W.heap[b]?=some (.cells #[.int .i64 q'.ep,.slice ao q.L.length cap,.int .i64 q'.addr,.bool q'.fill,.int .i64 q'.at_,.int .i64 q'.was,.int .i64 q'.unit,.int .i64 q'.kind,.string q'.txt,.int .i64 q'.err] 180 (0,0))→Leaves (FQ b) G w1 W q'):=by
 obtain ⟨ao,cap,h1,hc1,h3⟩:=h.open
 obtain ⟨k1,k2⟩:=ten_of h1
 exact ⟨ao,cap,k1,k2,lt_of_block h1,Lh hc1,Lh h1,Lh h3⟩
theorem fp_begin (b:Nat) (G:Nat→Prop) (w:World) (q:Qf) (e:Int) (po:Option Addr) (pc:Nat) (L:List (List Int)) (h:FQ b G w q) (hc:CL w po L) (hf:fewL L) (hn:(chainR e L q.addr).length≤100) :
  Calls Tryz.prog 101 #[ptrP b,.agg #[.int .i64 e,.slice po L.length pc]] w fun e2 w'=>e2=.returned (.tuple #[])∧Leaves (FQ b) G w w' (q.proj e L):=by
 have HG:=Lh (fun k hk=>(z0p b).lt h k hk)
 have HB:=Lh (z00 w (.cells #[.int .i64 e,.slice po L.length pc] 24))
 obtain ⟨x0,x1,_⟩:=z05 (heap_alloc_new w (.cells #[.int .i64 e,.slice po L.length pc] 24))
 have HC:=Lh (hc.below HB.out)
 have HA:=Lh (h.below HB.out)
 have CC:=Lh (fun W (hC:CL W po L)=>z14 e po pc L W hC hf)
 have CU:=Lh (fun (G:Nat→Prop) (W:World) (h:FQ b G W ⟨e,L,q.addr,q.fill,q.at_,q.was,q.unit,0,noS,q.err⟩)=>show Calls Tryz.prog 122 #[ptrP b] W fun e2 w'=>e2=.returned (.int .i64 ((chainR e L q.addr).length:Nat))∧Below W.heap.size W w' from fp_units b G W _ h hf)
 have hn2:((chainR e L q.addr).length:Int)≤100:=by omega
 have hwr:IntKind.i64.wrap (((chainR e L q.addr).length:Int) - 1)=((chainR e L q.addr).length:Int) - 1:=IntWalk.i64_in _ (by omega)
 clear h hc hf hn
 unfold ptrP at *
 go_enter Tryz.func101,Tryz.ntmps101
 go_wp2_with (go_at_call 46;refine (CC.out _ HC.out).mono ?_;rintro e1 w3 ⟨v,rfl,hO,hb3⟩;obtain ⟨vo,vc,hv,_⟩:=hO.form;subst hv;have HO:=Lh hO;have HB3:=Lh hb3;obtain ⟨_,_,h1,_⟩:=HA.out.open;have HR:=Lh (z01 hb3 h1);obtain ⟨_,f0,f1,f2,f3,f4,f5,f6,f7,f8,f9⟩:=ten_of HR.out;have hb:=lt_of_block HR.out;clear hO hb3 h1)
 have HL:=Lh (HA.out.chains (q':=⟨e,L,q.addr,q.fill,q.at_,q.was,q.unit,0,noS,q.err⟩) HB3.out HO.out (((((Kept.refl _ w3).setCell (p:=⟨b,0,none⟩) (fun h=>h rfl) (.int .i64 e)).setCell (p:=⟨b,1,none⟩) (fun h=>h rfl) (.slice vo L.length vc)).setCell (p:=⟨b,7,none⟩) (fun h=>h rfl) (.int .i64 0)).setCell (p:=⟨b,8,none⟩) (fun h=>h rfl) (.string ⟨#[]⟩)) (tset8 (tset7 (tset1 (tset0 HR.out _) _) _) _))
 generalize World.setCell _ _ _=w5 at *
 obtain ⟨H,hA5,hU⟩:=lv_use (fun k hk=>(z0p b).lt HA.out k hk) HL.out
 have HU:=Lh hU
 have HA5:=Lh hA5
 have HH:=Lh (fun k hk=>(z0p b).lt hA5 k hk)
 clear hA5 hU HL f0 f1 f2 f3 f4 f5 f6 f7 f8 f9 hb
 go_wp2_with (go_at_call 122;refine (CU.out _ _ HA5.out).mono ?_;rintro e1 w6 ⟨rfl,hb6⟩;have HB6:=Lh hb6;obtain ⟨ao,cap,_,⟨f0,f1,f2,f3,f4,f5,f6,f7,f8,f9⟩,hb,_,H1,H3⟩:=z15 (HA5.out.below hb6);dsimp only at H1 H3;clear hb6)
 go_end0
 exact ⟨rfl,(HU.out _ _ ((H3.out _ (q.proj e L) (((Kept.refl _ w6).setCell (p:=⟨b,4,none⟩) (fun h=>h rfl) _).setCell (p:=⟨b,6,none⟩) (fun h=>h rfl) _) rfl (tset6 (tset4 H1.out _) _)).ahead HH.out HB6.out)).ahead HG.out HB.out⟩
theorem fl_a1 (b:Nat) (G:Nat→Prop) (w:World) (q:Qf) (xc xn:Int) (xd:ByteArray) (xe:Int) (xL:List (List Int)) (xm xs xy:Int) (xo:Option Addr) (xp:Nat) (h:FQ b G w q) (hf:fewL xL) (hx:CL w xo xL) (n0:¬ xc=0) (ha:q.at_=1) :
  Calls Tryz.prog 106 #[ptrP b,.agg #[.int .i64 xc,.int .i64 xn,.string xd,.int .i64 xe,.slice xo xL.length xp,.int .i64 xm,.int .i64 xs,.int .i64 xy]] w fun e w'=>e=.returned (.tuple #[])∧Leaves (FQ b) G w w' (q.to q.was):=by
 obtain ⟨HG,HB,HX,HA,⟨x0,x1,x2,x3,x4,x5,x6,x7⟩,ao,cap,⟨c0,c1,c2,c3,c4,c5,c6,c7,c8,c9⟩,⟨f0,f1,f2,f3,f4,f5,f6,f7,f8,f9⟩,hb,HC1,H1,H3⟩:=z0n h xc xn xd xe xo xL.length xp xm xs xy rfl
 have HC:=Lh (hx.below HB.out)
 have e0:(xc == 0)=false:=by simpa using n0
 rw [ha] at c4
 clear h hf hx
 unfold ptrP at *
 go_enter Tryz.func106,Tryz.ntmps106
 go_wp2_with fail
 go_quiet (fail)
 have HDK:=Lh (below_drewN (Below.refl (w.alloc (.cells #[.int .i64 xc,.int .i64 xn,.string xd,.int .i64 xe,.slice xo xL.length xp,.int .i64 xm,.int .i64 xs,.int .i64 xy] 49)).heap.size (w.alloc (.cells #[.int .i64 xc,.int .i64 xn,.string xd,.int .i64 xe,.slice xo xL.length xp,.int .i64 xm,.int .i64 xs,.int .i64 xy] 49))) nq)
 go_wp2_with fail
 go_end0
 exact ⟨rfl,(H3.out _ (q.to q.was) ((Kept.ofBelow HDK.out _).setCell (p:=⟨b,4,none⟩) (fun h=>h rfl) _) rfl (tset4 (show (World.drewN (w.alloc (.cells #[.int .i64 xc,.int .i64 xn,.string xd,.int .i64 xe,.slice xo xL.length xp,.int .i64 xm,.int .i64 xs,.int .i64 xy] 49)) nq).heap[b]?=_ from H1.out) _)).ahead HG.out HB.out⟩
theorem fl_a0 (b:Nat) (G:Nat→Prop) (w:World) (q:Qf) (xc xn:Int) (xd:ByteArray) (xe:Int) (xL:List (List Int)) (xm xs xy:Int) (xo:Option Addr) (xp:Nat) (h:FQ b G w q) (hf:fewL xL) (hx:CL w xo xL) (n0:¬ xc=0) (ha:q.at_=0) :
  Calls Tryz.prog 106 #[ptrP b,.agg #[.int .i64 xc,.int .i64 xn,.string xd,.int .i64 xe,.slice xo xL.length xp,.int .i64 xm,.int .i64 xs,.int .i64 xy]] w fun e w'=>e=.returned (.tuple #[])∧Leaves (FQ b) G w w' (q):=by
 obtain ⟨HG,HB,HX,HA,⟨x0,x1,x2,x3,x4,x5,x6,x7⟩,ao,cap,⟨c0,c1,c2,c3,c4,c5,c6,c7,c8,c9⟩,⟨f0,f1,f2,f3,f4,f5,f6,f7,f8,f9⟩,hb,HC1,H1,H3⟩:=z0n h xc xn xd xe xo xL.length xp xm xs xy rfl
 have HC:=Lh (hx.below HB.out)
 have e0:(xc == 0)=false:=by simpa using n0
 rw [ha] at c4
 clear h hf hx
 unfold ptrP at *
 go_enter Tryz.func106,Tryz.ntmps106
 go_wp2_with fail
 go_quiet (fail)
 go_wp2_with fail
 go_end0
 exact ⟨rfl,(Leaves.same (z0p b) HA.out (below_drewN (Below.refl _ _) nq)).ahead HG.out HB.out⟩
theorem fl_b1 (b:Nat) (G:Nat→Prop) (w:World) (q:Qf) (xc xn:Int) (xd:ByteArray) (xe:Int) (xL:List (List Int)) (xm xs xy:Int) (xo:Option Addr) (xp:Nat) (h:FQ b G w q) (hf:fewL xL) (hx:CL w xo xL) (hg:goodB xe xL=false) (ha:q.at_=1) :
  Calls Tryz.prog 106 #[ptrP b,.agg #[.int .i64 0,.int .i64 xn,.string xd,.int .i64 xe,.slice xo xL.length xp,.int .i64 xm,.int .i64 xs,.int .i64 xy]] w fun e w'=>e=.returned (.tuple #[])∧Leaves (FQ b) G w w' (q.to q.was):=by
 obtain ⟨HG,HB,HX,HA,⟨x0,x1,x2,x3,x4,x5,x6,x7⟩,ao,cap,⟨c0,c1,c2,c3,c4,c5,c6,c7,c8,c9⟩,⟨f0,f1,f2,f3,f4,f5,f6,f7,f8,f9⟩,hb,HC1,H1,H3⟩:=z0n h 0 xn xd xe xo xL.length xp xm xs xy rfl
 have HC:=Lh (hx.below HB.out)
 have CG:=Lh (fun W (hC:CL W xo xL)=>z0m xe xo xp xL W hC hf)
 rw [hg] at CG
 clear h hf hx
 unfold ptrP at *
 go_enter Tryz.func106,Tryz.ntmps106
 go_wp2_with (go_at_call 44;refine (CG.out _ HC.out).mono ?_;rintro e w2 ⟨rfl,hb2⟩;have HC2:=Lh (HC.out.below hb2);have HB2:=Lh (HB.out.trans (hb2.mono HB.out.size));have HA2:=Lh (HA.out.below hb2);have HX2:=Lh (z01 hb2 HX.out);obtain ⟨⟨x0,x1,x2,x3,x4,x5,x6,x7⟩,_⟩:=z03 HX2.out;obtain ⟨ao,cap,⟨c0,c1,c2,c3,c4,c5,c6,c7,c8,c9⟩,⟨f0,f1,f2,f3,f4,f5,f6,f7,f8,f9⟩,hb,HC1,H1,H3⟩:=z15 HA2.out;rw [ha] at c4;clear hb2)
 go_quiet (fail)
 have HDK:=Lh (below_drewN (Below.refl w2.heap.size w2) nq)
 go_wp2_with fail
 go_end0
 exact ⟨rfl,(H3.out _ (q.to q.was) ((Kept.ofBelow HDK.out _).setCell (p:=⟨b,4,none⟩) (fun h=>h rfl) _) rfl (tset4 (show (World.drewN w2 nq).heap[b]?=_ from H1.out) _)).ahead HG.out HB2.out⟩
theorem fl_b0 (b:Nat) (G:Nat→Prop) (w:World) (q:Qf) (xc xn:Int) (xd:ByteArray) (xe:Int) (xL:List (List Int)) (xm xs xy:Int) (xo:Option Addr) (xp:Nat) (h:FQ b G w q) (hf:fewL xL) (hx:CL w xo xL) (hg:goodB xe xL=false) (ha:q.at_=0) :
  Calls Tryz.prog 106 #[ptrP b,.agg #[.int .i64 0,.int .i64 xn,.string xd,.int .i64 xe,.slice xo xL.length xp,.int .i64 xm,.int .i64 xs,.int .i64 xy]] w fun e w'=>e=.returned (.tuple #[])∧Leaves (FQ b) G w w' (q):=by
 obtain ⟨HG,HB,HX,HA,⟨x0,x1,x2,x3,x4,x5,x6,x7⟩,ao,cap,⟨c0,c1,c2,c3,c4,c5,c6,c7,c8,c9⟩,⟨f0,f1,f2,f3,f4,f5,f6,f7,f8,f9⟩,hb,HC1,H1,H3⟩:=z0n h 0 xn xd xe xo xL.length xp xm xs xy rfl
 have HC:=Lh (hx.below HB.out)
 have CG:=Lh (fun W (hC:CL W xo xL)=>z0m xe xo xp xL W hC hf)
 rw [hg] at CG
 clear h hf hx
 unfold ptrP at *
 go_enter Tryz.func106,Tryz.ntmps106
 go_wp2_with (go_at_call 44;refine (CG.out _ HC.out).mono ?_;rintro e w2 ⟨rfl,hb2⟩;have HC2:=Lh (HC.out.below hb2);have HB2:=Lh (HB.out.trans (hb2.mono HB.out.size));have HA2:=Lh (HA.out.below hb2);have HX2:=Lh (z01 hb2 HX.out);obtain ⟨⟨x0,x1,x2,x3,x4,x5,x6,x7⟩,_⟩:=z03 HX2.out;obtain ⟨ao,cap,⟨c0,c1,c2,c3,c4,c5,c6,c7,c8,c9⟩,⟨f0,f1,f2,f3,f4,f5,f6,f7,f8,f9⟩,hb,HC1,H1,H3⟩:=z15 HA2.out;rw [ha] at c4;clear hb2)
 go_quiet (fail)
 go_wp2_with fail
 go_end0
 exact ⟨rfl,(Leaves.same (z0p b) HA2.out (below_drewN (Below.refl _ _) nq)).ahead HG.out HB2.out⟩
theorem fl_c (b:Nat) (G:Nat→Prop) (w:World) (q:Qf) (xc xn:Int) (xd:ByteArray) (xe:Int) (xL:List (List Int)) (xm xs xy:Int) (xo:Option Addr) (xp:Nat) (h:FQ b G w q) (hf:fewL xL) (hx:CL w xo xL) (hg:goodB xe xL=true) (ha:q.at_=0) (hn:(chainR xe xL q.addr).length≤100) :
  Calls Tryz.prog 106 #[ptrP b,.agg #[.int .i64 0,.int .i64 xn,.string xd,.int .i64 xe,.slice xo xL.length xp,.int .i64 xm,.int .i64 xs,.int .i64 xy]] w fun e w'=>e=.returned (.tuple #[])∧Leaves (FQ b) G w w' (q.proj xe xL):=by
 obtain ⟨HG,HB,HX,HA,⟨x0,x1,x2,x3,x4,x5,x6,x7⟩,ao,cap,⟨c0,c1,c2,c3,c4,c5,c6,c7,c8,c9⟩,⟨f0,f1,f2,f3,f4,f5,f6,f7,f8,f9⟩,hb,HC1,H1,H3⟩:=z0n h 0 xn xd xe xo xL.length xp xm xs xy rfl
 have HC:=Lh (hx.below HB.out)
 have CG:=Lh (fun W (hC:CL W xo xL)=>z0m xe xo xp xL W hC hf)
 rw [hg] at CG
 have CB:=Lh (fun W h hC=>fp_begin b G W q xe xo xp xL h hC hf hn)
 clear h hf hx hn
 unfold ptrP at *
 go_enter Tryz.func106,Tryz.ntmps106
 go_wp2_with (go_at_call 44;refine (CG.out _ HC.out).mono ?_;rintro e w2 ⟨rfl,hb2⟩;have HC2:=Lh (HC.out.below hb2);have HB2:=Lh (HB.out.trans (hb2.mono HB.out.size));have HA2:=Lh (HA.out.below hb2);have HX2:=Lh (z01 hb2 HX.out);obtain ⟨⟨x0,x1,x2,x3,x4,x5,x6,x7⟩,_⟩:=z03 HX2.out;obtain ⟨ao,cap,⟨c0,c1,c2,c3,c4,c5,c6,c7,c8,c9⟩,⟨f0,f1,f2,f3,f4,f5,f6,f7,f8,f9⟩,hb,HC1,H1,H3⟩:=z15 HA2.out;rw [ha] at c4;clear hb2)
 go_quiet (fail)
 have HDA:=Lh (HA2.out.below (below_drewN (Below.refl _ _) nq))
 have HDC:=Lh (HC2.out.below (below_drewN (Below.refl _ _) nq))
 have HDB:=Lh (below_drewN HB2.out nq)
 go_wp2_with (go_at_call 101;refine (CB.out _ HDA.out HDC.out).mono ?_;rintro e w9 ⟨rfl,hl⟩;have HL:=Lh hl;clear hl)
 go_end0
 exact ⟨rfl,HL.out.ahead HG.out HDB.out⟩
theorem fl_d (b:Nat) (G:Nat→Prop) (w:World) (q:Qf) (xc xn:Int) (xd:ByteArray) (xe:Int) (xL:List (List Int)) (xm xs xy:Int) (xo:Option Addr) (xp:Nat) (h:FQ b G w q) (hf:fewL xL) (hx:CL w xo xL) (hg:goodB xe xL=true) (ha:q.at_=1) (ne:¬ xe=q.ep) (hn:(chainR xe xL q.addr).length≤100) :
  Calls Tryz.prog 106 #[ptrP b,.agg #[.int .i64 0,.int .i64 xn,.string xd,.int .i64 xe,.slice xo xL.length xp,.int .i64 xm,.int .i64 xs,.int .i64 xy]] w fun e w'=>e=.returned (.tuple #[])∧Leaves (FQ b) G w w' (q.proj xe xL):=by
 obtain ⟨HG,HB,HX,HA,⟨x0,x1,x2,x3,x4,x5,x6,x7⟩,ao,cap,⟨c0,c1,c2,c3,c4,c5,c6,c7,c8,c9⟩,⟨f0,f1,f2,f3,f4,f5,f6,f7,f8,f9⟩,hb,HC1,H1,H3⟩:=z0n h 0 xn xd xe xo xL.length xp xm xs xy rfl
 have HC:=Lh (hx.below HB.out)
 have CG:=Lh (fun W (hC:CL W xo xL)=>z0m xe xo xp xL W hC hf)
 rw [hg] at CG
 have CB:=Lh (fun W h hC=>fp_begin b G W q xe xo xp xL h hC hf hn)
 have e5:(xe != q.ep)=true:=by simpa using ne
 clear h hf hx hn
 unfold ptrP at *
 go_enter Tryz.func106,Tryz.ntmps106
 go_wp2_with (go_at_call 44;refine (CG.out _ HC.out).mono ?_;rintro e w2 ⟨rfl,hb2⟩;have HC2:=Lh (HC.out.below hb2);have HB2:=Lh (HB.out.trans (hb2.mono HB.out.size));have HA2:=Lh (HA.out.below hb2);have HX2:=Lh (z01 hb2 HX.out);obtain ⟨⟨x0,x1,x2,x3,x4,x5,x6,x7⟩,_⟩:=z03 HX2.out;obtain ⟨ao,cap,⟨c0,c1,c2,c3,c4,c5,c6,c7,c8,c9⟩,⟨f0,f1,f2,f3,f4,f5,f6,f7,f8,f9⟩,hb,HC1,H1,H3⟩:=z15 HA2.out;rw [ha] at c4;clear hb2)
 go_quiet (fail)
 have HDA:=Lh (HA2.out.below (below_drewN (Below.refl _ _) nq))
 have HDC:=Lh (HC2.out.below (below_drewN (Below.refl _ _) nq))
 have HDB:=Lh (below_drewN HB2.out nq)
 go_wp2_with (go_at_call 101;refine (CB.out _ HDA.out HDC.out).mono ?_;rintro e w9 ⟨rfl,hl⟩;have HL:=Lh hl;clear hl)
 go_end0
 exact ⟨rfl,HL.out.ahead HG.out HDB.out⟩
theorem fl_e (b:Nat) (G:Nat→Prop) (w:World) (q:Qf) (xc xn:Int) (xd:ByteArray) (xL:List (List Int)) (xm xs xy:Int) (xo:Option Addr) (xp:Nat) (h:FQ b G w q) (hf:fewL xL) (hx:CL w xo xL) (hg:goodB q.ep xL=true) (ha:q.at_=1) :
  Calls Tryz.prog 106 #[ptrP b,.agg #[.int .i64 0,.int .i64 xn,.string xd,.int .i64 q.ep,.slice xo xL.length xp,.int .i64 xm,.int .i64 xs,.int .i64 xy]] w fun e w'=>e=.returned (.tuple #[])∧Leaves (FQ b) G w w' (q.to q.was):=by
 obtain ⟨HG,HB,HX,HA,⟨x0,x1,x2,x3,x4,x5,x6,x7⟩,ao,cap,⟨c0,c1,c2,c3,c4,c5,c6,c7,c8,c9⟩,⟨f0,f1,f2,f3,f4,f5,f6,f7,f8,f9⟩,hb,HC1,H1,H3⟩:=z0n h 0 xn xd q.ep xo xL.length xp xm xs xy rfl
 have HC:=Lh (hx.below HB.out)
 have CG:=Lh (fun W (hC:CL W xo xL)=>z0m q.ep xo xp xL W hC hf)
 rw [hg] at CG
 have e5:(q.ep != q.ep)=false:=by simp
 clear h hf hx
 unfold ptrP at *
 go_enter Tryz.func106,Tryz.ntmps106
 go_wp2_with (go_at_call 44;refine (CG.out _ HC.out).mono ?_;rintro e w2 ⟨rfl,hb2⟩;have HC2:=Lh (HC.out.below hb2);have HB2:=Lh (HB.out.trans (hb2.mono HB.out.size));have HA2:=Lh (HA.out.below hb2);have HX2:=Lh (z01 hb2 HX.out);obtain ⟨⟨x0,x1,x2,x3,x4,x5,x6,x7⟩,_⟩:=z03 HX2.out;obtain ⟨ao,cap,⟨c0,c1,c2,c3,c4,c5,c6,c7,c8,c9⟩,⟨f0,f1,f2,f3,f4,f5,f6,f7,f8,f9⟩,hb,HC1,H1,H3⟩:=z15 HA2.out;rw [ha] at c4;clear hb2)
 go_quiet (fail)
 have HDK:=Lh (below_drewN (Below.refl w2.heap.size w2) nq)
 go_wp2_with fail
 go_end0
 exact ⟨rfl,(H3.out _ (q.to q.was) ((Kept.ofBelow HDK.out _).setCell (p:=⟨b,4,none⟩) (fun h=>h rfl) _) rfl (tset4 (show (World.drewN w2 nq).heap[b]?=_ from H1.out) _)).ahead HG.out HB2.out⟩
theorem kept_cellR {g:Nat} {w w':World} (h:Kept (fun k=>k≠g) w w') {k o:Nat} {v:Value} (hb:k≠g) (hx:w.cell? ⟨k,o,none⟩=some v):w'.cell? ⟨k,o,none⟩=some v:=by
 have hl:=block_lt_of_cell hx
 unfold World.cell? at *
 rw [h.block k hb hl]
 exact hx
theorem me_ask_seal (b:Nat) (G:Nat→Prop) (w:World) (r:Rf) (h:RfM b G w r) (ha:r.at_=2) :
  Calls Tryz.prog 13 #[ptrP b] w fun e w'=>ToldBy (askedR r) (RfM b) G w r (anL 0 0 r.ask.L) e w':=by
 have C:=Lh (fun w (h:RfM b G w r)=>z0q b G w r h)
 rw [decide_eq_false (p:=r.at_=5) (by omega)] at C
 have HB:=Lh (z00 w (.cells #[.int .i64 0,.int .i64 0,.int .i64 0,.int .i64 0,.int .i64 0,.int .i64 0,.string ⟨#[]⟩,.int .i64 0,.slice none 0 0] 34))
 have HZ:=Lh (heap_alloc_new w (.cells #[.int .i64 0,.int .i64 0,.int .i64 0,.int .i64 0,.int .i64 0,.int .i64 0,.string ⟨#[]⟩,.int .i64 0,.slice none 0 0] 34))
 have HA:=Lh (h.below HB.out)
 have HT:=Lh h
 have HK:=Lh (show r.ask=sealK r.unit r.qe∧r.asks=true from by unfold Rf.ask Rf.asks;rw [ha];exact ⟨rfl,rfl⟩)
 obtain ⟨a1,n1,a2,n2,bk,off,lc,us,mb,h1,hN,hul,_,_,_,_,_,_⟩:=h.seal ha
 obtain ⟨b2,o2,e2,cu⟩:=hN.at 0 (by simp)
 obtain ⟨rfl,rfl,_⟩:=Addr.mk.inj (Option.some.inj e2)
 rw [Nat.add_zero,List.getElem_cons_zero] at cu
 have hbk:=block_lt_of_cell cu
 simp only at hbk
 have HNK:=Lh (show bk≠w.heap.size by omega)
 replace cu:=z0s HB.out hbk cu
 replace hbk:=Nat.lt_of_lt_of_le hbk HB.out.size
 replace h1:=z01 HB.out h1
 obtain ⟨⟨c0,c1,c2,c3,c4,c5,c6,c7⟩,_⟩:=z03 h1
 have hb:=lt_of_block h1
 have hlen:(0:Int) < (us.length:Int)+1:=by omega
 have hNE:=h.small
 obtain ⟨⟨z0,z1,z2,z3,z4,z5,z6,z7,z8⟩,g0,g1,g2,g3,g4,g5,g6,g7,g8⟩:=z0g HZ.out
 have hg:=lt_of_block HZ.out
 have HNB:=Lh (show b≠w.heap.size by omega)
 clear h h1 hN
 unfold ptrP at *
 go_enter Tryz.func13,Tryz.ntmps13
 go_wp2_with (go_at_call 48;refine (C.out _ HA.out).mono ?_;rintro e w1 ⟨rfl,rfl⟩)
 generalize w.alloc _=w1 at *
 go_still_tail 12,(by kernel_rfl)
 change wpList _ _ _ _ _ w1.drew
 go_wp2_with fail
 have HN:=z1i (show w1.heap[w.heap.size]?=_ from HZ.out) (.int .i64 5) (.int .i64 r.unit) (.int .i64 r.qe) (.int .i64 0) (.int .i64 0) (.int .i64 0) (.string ⟨#[]⟩) (.int .i64 0) (.slice none 0 0)
 rw [← heap_drew] at HN
 have HF:=HB.out.trans (kept_low (nine_set w1 w.heap.size (.int .i64 5) (.int .i64 r.unit) (.int .i64 r.qe) (.int .i64 0) (.int .i64 0) (.int .i64 0) (.string ⟨#[]⟩) (.int .i64 0) (.slice none 0 0)) (B:=w.heap.size) (fun k hk=>Nat.ne_of_lt hk) HB.out.size)
 refine z0o (x:=sealK r.unit r.qe) rfl HN rfl rfl rfl ?_
 rw [← HK.out.2]
 exact told_askR HT.out HF.drew _ HK.out.1 rfl ⟨rfl,rfl,rfl,rfl⟩
theorem four_stay {W W2:World} {b g:Nat} {y0 y2 y3 y6:Value} (hne:b≠g) (h:W.cell? ⟨b,0,none⟩=some y0∧W.cell? ⟨b,2,none⟩=some y2∧W.cell? ⟨b,3,none⟩=some y3∧W.cell? ⟨b,6,none⟩=some y6) (hk:Kept (fun k=>k≠g) W W2):W2.cell? ⟨b,0,none⟩=some y0∧W2.cell? ⟨b,2,none⟩=some y2∧W2.cell? ⟨b,3,none⟩=some y3∧W2.cell? ⟨b,6,none⟩=some y6 :=
 ⟨kept_cellR hk hne h.1,kept_cellR hk hne h.2.1,kept_cellR hk hne h.2.2.1,kept_cellR hk hne h.2.2.2⟩
theorem me_ask_start (b:Nat) (G:Nat→Prop) (w:World) (r:Rf) (h:RfM b G w r) (ha:r.at_=4) :
  Calls Tryz.prog 13 #[ptrP b] w fun e w'=>ToldBy (askedR r) (RfM b) G w r (anL 0 0 r.ask.L) e w':=by
 have C:=Lh (fun w (h:RfM b G w r)=>z0q b G w r h)
 rw [decide_eq_false (p:=r.at_=5) (by omega)] at C
 have HB:=Lh (z00 w (.cells #[.int .i64 0,.int .i64 0,.int .i64 0,.int .i64 0,.int .i64 0,.int .i64 0,.string ⟨#[]⟩,.int .i64 0,.slice none 0 0] 34))
 have HZ:=Lh (heap_alloc_new w (.cells #[.int .i64 0,.int .i64 0,.int .i64 0,.int .i64 0,.int .i64 0,.int .i64 0,.string ⟨#[]⟩,.int .i64 0,.slice none 0 0] 34))
 have HA:=Lh (h.below HB.out)
 have HT:=Lh h
 have HK:=Lh (show r.ask=startK r.qe (tailR r.oe r.oL r.tails)∧r.asks=true from by unfold Rf.ask Rf.asks;rw [ha];exact ⟨rfl,rfl⟩)
 obtain ⟨hok,v1,v2,v3,v4,F,h1,⟨hq,ho,hl⟩,hm,_⟩:=HA.out.open (by omega)
 obtain ⟨a2,n2,rfl,q2,_,_⟩:=(id ho).cl
 rcases hm with ⟨g,_⟩ | ⟨_,mb,rfl,hT,_⟩
 ·omega
 obtain ⟨⟨c0,c1,c2,c3,c4,c5,c6,c7⟩,_⟩:=z03 h1
 rw [ha] at c4
 have hb:=lt_of_block h1
 have HNB:=Lh (show b≠w.heap.size from by have:=h.small;omega)
 have H1:=Lh h1
 have CT:=Lh (fun W (hC:CL W a2 r.oL) (hK:Tm W mb r.tails)=>pTail_any r.oe a2 n2 r.oL mb r.tails W hC hok.of_ hK)
 have HC2:=Lh q2
 have HTM:=Lh hT
 clear h h1 hq ho hl q2 hT hok
 unfold ptrP at *
 go_enter Tryz.func13,Tryz.ntmps13
 go_wp2_with (go_at_call 48;refine (C.out _ HA.out).mono ?_;rintro e w1 ⟨rfl,rfl⟩)
 generalize w.alloc _=w1 at *
 have S1d:=Lh (show w1.drew.cell? ⟨b,0,none⟩=some (.int .i64 r.qe)∧w1.drew.cell? ⟨b,2,none⟩=some (.int .i64 r.oe)∧w1.drew.cell? ⟨b,3,none⟩=some (.slice a2 r.oL.length n2)∧w1.drew.cell? ⟨b,6,none⟩=some (.map (some mb)) from ⟨c0,c2,c3,c6⟩)
 go_region_held3 (fun W=>W.cell? ⟨b,0,none⟩=some (.int .i64 r.qe)∧W.cell? ⟨b,2,none⟩=some (.int .i64 r.oe)∧W.cell? ⟨b,3,none⟩=some (.slice a2 r.oL.length n2)∧W.cell? ⟨b,6,none⟩=some (.map (some mb)))
  (first | with_reducible exact S1d.out | with_reducible exact S6.out | with_reducible exact four_stay HNB.out S6.out (nine_set w6 w.heap.size _ _ _ _ _ _ _ _ _) | assumption)
  (first | (go_at_call 49;refine (CT.out _ (HC2.out.below (Below.refl _ _).drew) (HTM.out.below (Below.refl _ _).drew)).mono ?_;rintro e w6 ⟨rfl,hb6⟩;have B6:=Lh (z0c (w1:=w1) hb6 (Below.refl _ _).drew);have HB6:=Lh (HB.out.trans (B6.out.mono HB.out.size));have HR:=Lh (z01 B6.out HZ.out);obtain ⟨⟨z0,z1,z2,z3,z4,z5,z6,z7,z8⟩,g0,g1,g2,g3,g4,g5,g6,g7,g8⟩:=z0g HR.out;have hg:=lt_of_block HR.out;have H6:=Lh (z01 B6.out H1.out);have S6:=Lh (show w6.cell? ⟨b,0,none⟩=some (.int .i64 r.qe)∧w6.cell? ⟨b,2,none⟩=some (.int .i64 r.oe)∧w6.cell? ⟨b,3,none⟩=some (.slice a2 r.oL.length n2)∧w6.cell? ⟨b,6,none⟩=some (.map (some mb)) from ⟨z02 H6.out 0,z02 H6.out 2,z02 H6.out 3,z02 H6.out 6⟩);clear hb6))
 all_goals
  go_wp2_with fail
  have HN:=z1i HR.out (.int .i64 8) (.int .i64 0) (.int .i64 r.qe) (.int .i64 (tailR r.oe r.oL r.tails)) (.int .i64 0) (.int .i64 0) (.string ⟨#[]⟩) (.int .i64 0) (.slice none 0 0)
  have HF:=HB6.out.trans (kept_low (nine_set w6 w.heap.size (.int .i64 8) (.int .i64 0) (.int .i64 r.qe) (.int .i64 (tailR r.oe r.oL r.tails)) (.int .i64 0) (.int .i64 0) (.string ⟨#[]⟩) (.int .i64 0) (.slice none 0 0)) (B:=w.heap.size) (fun k hk=>Nat.ne_of_lt hk) HB6.out.size)
  refine z0o (x:=startK r.qe (tailR r.oe r.oL r.tails)) rfl HN rfl rfl rfl ?_
  rw [← HK.out.2]
  exact told_askR HT.out HF _ HK.out.1 rfl ⟨rfl,rfl,rfl,rfl⟩
theorem me_ask (b:Nat) (G:Nat→Prop) (w:World) (r:Rf) (h:RfM b G w r) :
  Calls Tryz.prog 13 #[ptrP b] w fun e w'=>ToldBy (askedR r) (RfM b) G w r (anL 0 0 r.ask.L) e w':=by
 have hc:r.at_=5∨r.at_=1∨r.at_=2∨r.at_=3∨r.at_=4:=by
  by_cases h5:r.at_=5
  ·exact .inl h5
  ·have:=(h.open h5).1.range
   omega
 rcases hc with e | e | e | e | e
 ·exact me_ask_over b G w r h e
 ·exact me_ask_lay b G w r h e
 ·exact me_ask_seal b G w r h e
 ·exact me_ask_chg b G w r h e
 ·exact me_ask_start b G w r h e
theorem me_skip_no (b:Nat) (G:Nat→Prop) (w:World) (r:Rf) (h:RfM b G w r) (ha:¬ r.at_=2) :
  Calls Tryz.prog 19 #[ptrP b] w fun e w'=>e=.returned (.bool r.mays)∧Leaves (RfM b) G w w' r.skip:=by
 have HM:=Lh (show r.mays=false from by unfold Rf.mays;rw [decide_eq_false ha];rfl)
 have HS:=Lh (show r.skip=r from by unfold Rf.skip;rw [HM.out];rfl)
 rw [HM.out,HS.out]
 have HT:=Lh h
 have C:=Lh (fun n=>z0q b G (w.drewN n) r (h.below (below_drewN (Below.refl _ _) n)))
 have c4:=h.cell4
 have hb:=h.small
 clear h
 unfold ptrP at *
 by_cases h5:r.at_=5
 ·rw [decide_eq_true h5] at C
  clear h5 c4
  go_enter Tryz.func19,Tryz.ntmps19
  go_wp2_with fail
  go_quiet ((go_at_call 48;exact quiet_eq (C.out _)))
  go_wp2_with fail
  go_ret
  exact ⟨rfl,Leaves.same (z1v b) HT.out (below_drewN (Below.refl _ _) _)⟩
 ·rw [decide_eq_false h5] at C
  have d1:(r.at_ - 1 != 1)=true:=bne_iff_ne.2 (by omega)
  clear h5 ha
  generalize r.at_ - 1=m at *
  go_enter Tryz.func19,Tryz.ntmps19
  go_wp2_with fail
  go_quiet ((go_at_call 48;exact quiet_eq (C.out _)))
  go_wp2_with fail
  go_ret
  exact ⟨rfl,Leaves.same (z1v b) HT.out (below_drewN (Below.refl _ _) _)⟩
theorem readS_small {p:Ps} (h:p.Ok) (q:Int):(p.readS q).size≤4096:=by
 unfold Ps.readS Ps.text
 split
 ·split
  ·next x hx =>
   exact (h.each x (List.mem_of_find?_eq_some hx)).2.2
  ·decide
 ·decide
section
variable {E:Int} {M:List (List Int)} {n0 n:Nd} {V:Int} {S:ByteArray} {a:Int} {fill:Bool} {f:Fe} {d:Nat}
theorem GNod.asked (h:GNod E M n0 V S a fill n) (hp:FPg E M a fill f) (hl:PlG E M n V S a fill f) (ha:AdG E M a) (hS:V=1→S.size≤4096) (h7:f.at_≠7):∃ j,j < lenG E M a∧AskH E M a j f.ask:=by
 have hlen:=z1b ha.of
 have nS:(noS:ByteArray).size≤4096:=by decide
 rcases hl with p | ⟨p,v3⟩ | ⟨p,v2,hfl⟩ | ⟨p,⟨i1,i2⟩,hv,pk,ps,pb⟩ | ⟨p,_⟩
 ·have ek:f.ask=f.unitK 3 (f.chain.length - 1) ⟨#[]⟩:=by unfold Fe.ask;rw [if_neg (by omega),if_pos p]
  rw [hp.len ha,hp.unitK ha 3 (by omega)] at ek
  rw [ek]
  exact ⟨lenG E M a - 1,by omega,asksG ha (.inr (.inr rfl)) (lenG E M a - 1) (s:=⟨#[]⟩) nS⟩
 ·have ek:f.ask=f.unitK 3 0 ⟨#[]⟩:=by unfold Fe.ask;rw [if_neg (by omega),if_neg (by omega),if_pos p]
  rw [hp.unitK ha 3 (by omega)] at ek
  rw [ek]
  exact ⟨0,by omega,asksG ha (.inr (.inr rfl)) 0 (s:=⟨#[]⟩) nS⟩
 ·have ek:f.ask=f.unitK 2 0 ⟨#[]⟩:=by unfold Fe.ask;rw [if_neg (by omega),if_neg (by omega),if_neg (by omega),if_pos p]
  rw [hp.unitK ha 2 (by omega)] at ek
  rw [ek]
  exact ⟨0,by omega,asksG ha (.inr (.inl rfl)) 0 (s:=⟨#[]⟩) nS⟩
 ·rcases hv with v | v
  ·have ek:f.ask=f.unitK 1 f.i f.s:=by unfold Fe.ask;rw [if_neg (by omega),if_neg (by omega),if_neg (by omega),if_neg (by omega),if_pos p,if_pos (by omega)]
   rw [hp.unitK ha 1 i2] at ek
   have es:f.s=S:=by rw [ps];unfold foundG;rw [if_pos v]
   rw [ek]
   exact ⟨f.i,i2,asksG ha (.inl rfl) f.i (s:=f.s) (by rw [es];exact hS v)⟩
  ·have ek:f.ask=f.unitK 2 f.i ⟨#[]⟩:=by unfold Fe.ask;rw [if_neg (by omega),if_neg (by omega),if_neg (by omega),if_neg (by omega),if_pos p,if_neg (by omega)]
   rw [hp.unitK ha 2 i2] at ek
   rw [ek]
   exact ⟨f.i,i2,asksG ha (.inr (.inl rfl)) f.i (s:=⟨#[]⟩) nS⟩
 ·exact absurd p h7
theorem AskH.small {j:Nat} {k:Ak} (h:AskH E M a j k) (ha:ofB E M a=true) (hj:j < lenG E M a):SmQ k∧k.kind≠10∧k.kind≠11:=by
 have hE:=(goodB_iff.1 (ofB_iff.1 ha).1).1
 have hu:=(unG_is ha hj).2
 have h1:=h.q.kind
 have h2:=h.unit
 have h3:=h.q.page
 have h4:=h.q.data
 have h5:=h.q.ep
 exact ⟨⟨z04 (by omega),z04 (by omega),z04 (by omega),z04 (by omega),by omega⟩,by omega,by omega⟩
def GtR (E:Int) (M:List (List Int)) (n0:Nd) (V:Int) (S:ByteArray) (a:Int) (fill:Bool) (n:Nd) (f:Fe) (d:Nat):Prop :=
 ((f.at_=2∧f.ep≠E∧f.addr=a∧f.fill=fill∧n=n0∧((n0.ans f.ask).code=40∨(n0.ans f.ask).code=45)∧n0.done f.ask=n0∧SmQ f.ask∧f.ask.kind≠10∧(n0.ans f.ask).data.size≤4096∧(n0.ans f.ask).L=[]∧(n0.ans f.ask).pe=0)∧8≤d)∨
 (((f.at_=1∨(f.at_=6∧f.ep≠E))∧f.addr=a∧f.fill=fill∧n=n0)∧7≤d)∨
 (GNod E M n0 V S a fill n∧FPg E M a fill f∧PlG E M n V S a fill f∧rankG f≤d)
theorem hearF40 {x:An} (h2:f.at_=2) (hc:x.code=40∨x.code=45):((f.hear x true).at_=1∨((f.hear x true).at_=6∧(f.hear x true).ep=f.ep))∧(f.hear x true).addr=f.addr∧(f.hear x true).fill=f.fill:=by
 unfold Fe.hear
 rw [if_neg (fun g=>g.elim (by omega) Bool.noConfusion)]
 rcases hc with hc | hc
 ·rw [if_neg (by omega),if_pos hc]
  exact ⟨.inl rfl,rfl,rfl⟩
 ·rw [if_pos hc,if_pos ⟨by omega,by omega⟩]
  exact ⟨.inr ⟨rfl,rfl⟩,rfl,rfl⟩
theorem hearFlay {x:An} (h1:f.at_=1∨(f.at_=6∧f.ep≠x.pe)) (hc:x.code=0) (hg:goodB x.pe x.L=true):f.hear x true=f.learns x:=by
 unfold Fe.hear
 rw [if_neg (fun g=>g.elim (by omega) Bool.noConfusion),if_neg (by omega),if_neg (by omega)]
 rcases h1 with h1 | ⟨h1,h2⟩
 ·rw [if_pos h1,if_pos ⟨hc,hg⟩]
 ·rw [if_neg (by omega),if_pos h1,if_pos ⟨hc,hg,fun e=>h2 e.symm⟩]
theorem GtR.step (hN:GNod E M n0 V S a fill n0) (ha:AdG E M a) (hep:n0.l.ep=E) (hL:n0.l.L=M) (hS:V=1→S.size≤4096) (H:GtR E M n0 V S a fill n f d) (h7:f.at_≠7) :
  GtR E M n0 V S a fill (n.done f.ask) (f.hear (n.ans f.ask) true) (d - 1)∧1≤d∧SmQ f.ask∧FewX (n.ans f.ask):=by
 have z0:i64w 0:=z04 (by omega)
 have zs:(0:Nat)≤1000000:=by omega
 have hg:goodB E M=true:=(ofB_iff.1 ha.of).1
 rcases H with ⟨⟨p1,pe,p2,p3,p4,p5,p6,p7,p8,p9,pL,pp⟩,hd⟩ | ⟨⟨p1,p2,p3,p4⟩,hd⟩ | ⟨p1,p2,p3,hd⟩
 ·subst p4
  obtain ⟨g1,g2,g3⟩:=hearF40 p1 p5
  rw [p6]
  refine ⟨.inr (.inl ⟨⟨?_,g2.trans p2,g3.trans p3,rfl⟩,by omega⟩),by omega,p7,z1y pL pp (by omega)⟩
  rcases g1 with g | ⟨g,g'⟩
  ·exact .inl g
  ·exact .inr ⟨g,by rw [g'];exact pe⟩
 ·subst p4
  have ea:f.ask=layK:=by
   unfold Fe.ask
   rw [if_pos (p1.elim .inl (fun g=>.inr g.1))]
  obtain ⟨e1,e2⟩:=nd_lay n (a:=layK) ⟨of_decide_eq_true rfl,of_decide_eq_true rfl⟩
  have e3:n.l.done layK=n.l:=by
   unfold Ly.done
   rw [if_neg (by decide),if_neg (fun e=>absurd e.1 (by decide))]
  have e4:n.l.ans layK=⟨0,n.l.n,noL,n.l.ep,n.l.L,n.l.mark,n.l.size,0⟩:=by
   unfold Ly.ans
   rw [if_pos (by decide)]
  have ed:n.done layK=n:=by rw [e1,e3];rfl
  rw [ea,ed,e2,e4,hep,hL]
  rw [hearFlay (x:=⟨0,n.l.n,noL,E,M,n.l.mark,n.l.size,0⟩) p1 rfl hg]
  exact ⟨.inr (.inr ⟨hN,⟨rfl,rfl,p2,p3⟩,.inl rfl,by show 6≤d - 1;omega⟩),by omega,⟨z04 (x:=9) (by omega),z0,z0,z0,zs⟩,(z16 hg).1,(z16 hg).2,zs⟩
 ·obtain ⟨_,q2,q3,q4⟩:=p1.turn p2 p3 ha hS h7
  obtain ⟨q1,_⟩:=(p1.turn p2 p3 ha hS h7).1
  obtain ⟨j,hj,hk⟩:=p1.asked p2 p3 ha hS h7
  obtain ⟨s1,s2,s3⟩:=hk.small ha.of hj
  refine ⟨.inr (.inr ⟨q1,q2,q3,by omega⟩),by omega,s1,fewX_ans n f.ask (by rw [p1.l,hep,hL];exact hg) (fun _=>?_) (fun e=>absurd e s2)⟩
  have hu:=(unG_is ha.of hj).2
  have e:f.ask.unit.toNat=unG E M a j:=by have:=hk.unit;omega
  rw [e]
  have:=readS_small (p1.ft.u a j ha.of hj).ok f.ask.page
  omega
theorem GtR.l (H:GtR E M n0 V S a fill n f d):n.l=n0.l:=by
 rcases H with ⟨⟨_,_,_,_,p,_⟩,_⟩ | ⟨⟨_,_,_,p⟩,_⟩ | ⟨p,_⟩
 ·rw [p]
 ·rw [p]
 ·exact p.l
def InvG (E:Int) (M:List (List Int)) (n0:Nd) (V:Int) (S:ByteArray) (a:Int) (fill:Bool) (k:Nat) (h:Hd) (f:Fe):Prop:=∃ d,GtR E M n0 V S a fill h.n f d∧d+k≤29
theorem InvG.run (hN:GNod E M n0 V S a fill n0) (ha:AdG E M a) (hep:n0.l.ep=E) (hL:n0.l.L=M) (hS:V=1→S.size≤4096) (hu:n0.l.used.length≤100000):RunGet 0 (InvG E M n0 V S a fill):=by
 refine ⟨fun k h f H=>?_,fun k h f H=>?_,fun k h f H h7=>?_,fun k h f m H h7 hm=>?_⟩
 all_goals obtain ⟨d,h1,h2⟩:=H
 ·omega
 ·rw [h1.l]
  exact hu
 ·obtain ⟨_,_,g1,g2⟩:=h1.step hN ha hep hL hS h7
  refine ⟨g1,fun m=>?_⟩
  unfold Hd.heard
  split
  ·exact g2
  ·exact z1y rfl rfl (Nat.zero_le _)
 ·obtain ⟨g1,g2,_⟩:=h1.step hN ha hep hL hS h7
  obtain rfl:m=0:=hm (Nat.not_lt_zero k)
  have en:(h.asked f.ask 0).n=h.n.done f.ask:=by
   rcases asked_n h f.ask 0 with ⟨_,g⟩ | ⟨g,_⟩
   ·exact g
   ·exact absurd rfl g
  have eh:h.heard f.ask 0=h.n.ans f.ask:=if_pos rfl
  refine ⟨d - 1,?_,by omega⟩
  rw [en,eh]
  exact g1
theorem InvG.fresh (hN:GNod E M n0 V S a fill n0) (ha:AdG E M a) {h:Hd} (hn:h.n=n0):InvG E M n0 V S a fill 0 h (newFe E M a fill):=by
 refine ⟨6,.inr (.inr ?_),by omega⟩
 unfold newFe
 rw [if_pos ha.of,hn]
 exact ⟨hN,⟨rfl,rfl,rfl,rfl⟩,.inl rfl,Nat.le_refl _⟩
theorem InvG.stale {e:Int} {L:List (List Int)} (hb:ofB e L a=true) (he:e≠E) (hs:(n0.u (unG e L a (lenG e L a - 1))).down=true∨e < (n0.u (unG e L a (lenG e L a - 1))).epoch) {h:Hd} (hn:h.n=n0):InvG E M n0 V S a fill 0 h (newFe e L a fill):=by
 have hx:=(goodB_iff.1 (ofB_iff.1 hb).1).1
 have hat:=(ofB_iff.1 hb).2
 have hlen:=z1b hb
 have hu:=(unG_is (j:=lenG e L a - 1) hb (by omega))
 obtain ⟨_,_,_,_,q1,q2,_⟩:=z12 hb
 have z0:i64w 0:=z04 (by omega)
 obtain ⟨n1,n4⟩:=z0v (ofB_iff.1 hb).1
 have q3:a / (L.length:Int) < 16384:=(of_range (n:=L.length) ⟨by omega,by omega⟩ hat).2.1.2
 refine ⟨8,.inl ⟨?_,Nat.le_refl _⟩,by omega⟩
 have en:newFe e L a fill=⟨e,L,a,fill,2,0,0,0,noS,0⟩:=if_pos hb
 have ea:(newFe e L a fill).ask=⟨3,(unG e L a (lenG e L a - 1):Int),e,ofP e L a,0,0,⟨#[]⟩,0,[],none,0⟩:=by
  rw [en,← hu.1]
  rfl
 have ex:n0.ans ⟨3,(unG e L a (lenG e L a - 1):Int),e,ofP e L a,0,0,⟨#[]⟩,0,[],none,0⟩=(n0.u (unG e L a (lenG e L a - 1))).ans ⟨3,(unG e L a (lenG e L a - 1):Int),e,ofP e L a,0,0,⟨#[]⟩,0,[],none,0⟩:=by
  unfold Nd.ans
  rw [if_pos ⟨show (1:Int)≤3 by decide,show (3:Int)≤5 by decide⟩,if_pos ⟨by show (0:Int)≤(unG e L a (lenG e L a - 1):Int);omega,by show (unG e L a (lenG e L a - 1):Int)≤15;omega⟩]
  rfl
 have ed:n0.done ⟨3,(unG e L a (lenG e L a - 1):Int),e,ofP e L a,0,0,⟨#[]⟩,0,[],none,0⟩=n0.putU (unG e L a (lenG e L a - 1)) ((n0.u (unG e L a (lenG e L a - 1))).done ⟨3,(unG e L a (lenG e L a - 1):Int),e,ofP e L a,0,0,⟨#[]⟩,0,[],none,0⟩):=by
  unfold Nd.done
  rw [if_pos ⟨show (1:Int)≤3 by decide,show (3:Int)≤5 by decide⟩,if_pos ⟨by show (0:Int)≤(unG e L a (lenG e L a - 1):Int);omega,by show (unG e L a (lenG e L a - 1):Int)≤15;omega⟩]
  rfl
 have key:∀ (u:Us) (k:Ak),k.kind=3→k.epoch=e→(u.down=true∨e < u.epoch)→((u.ans k).code=40∨(u.ans k).code=45)∧u.done k=u∧(u.ans k).data.size≤4096∧(u.ans k).L=[]∧(u.ans k).pe=0:=by
  intro u k hk3 hke hde
  have hd:u.done k=u:=by
   unfold Us.done
   rw [if_pos (hde.elim .inl (fun g=>.inr (.inr (by rw [hke];exact g))))]
  refine ⟨?_,hd,?_⟩
  ·unfold Us.ans
   by_cases hdn:u.down=true
   ·rw [if_pos hdn];exact .inr rfl
   ·rw [if_neg hdn,if_neg (by omega),if_pos (by rw [hke];exact hde.resolve_left hdn)]
    exact .inl rfl
  ·unfold Us.ans
   by_cases hdn:u.down=true
   ·rw [if_pos hdn];exact ⟨Nat.zero_le _,rfl,rfl⟩
   ·rw [if_neg hdn,if_neg (by omega),if_pos (by rw [hke];exact hde.resolve_left hdn)]
    exact ⟨Nat.zero_le _,rfl,rfl⟩
 obtain ⟨k1,k2,k3,k4,k5⟩:=key (n0.u (unG e L a (lenG e L a - 1))) ⟨3,(unG e L a (lenG e L a - 1):Int),e,ofP e L a,0,0,⟨#[]⟩,0,[],none,0⟩ rfl rfl hs
 rw [ea,ex,ed,k2,putU_same,en]
 exact ⟨rfl,he,rfl,rfl,hn,k1,rfl,⟨z04 (x:=3) (by omega),z04 (by show -1000000000000≤(unG e L a (lenG e L a - 1):Int)∧(unG e L a (lenG e L a - 1):Int)≤1000000000000;omega),z04 (by show -1000000000000≤e∧e≤1000000000000;omega),z04 (by show -1000000000000≤ofP e L a∧ofP e L a≤1000000000000;omega),Nat.zero_le _⟩,show (3:Int)≠10 by decide,k3,k4,k5⟩
theorem InvG.over {k:Nat} {h:Hd} (H:InvG E M n0 V S a fill k h f) (h7:f.at_=7):f.kind=V∧f.s=foundG V S∧f.e=0∧GNod E M n0 V S a fill h.n∧∀ j,j < lenG E M a→GK E M h.n a j=V:=by
 obtain ⟨d,H,_⟩:=H
 rcases H with ⟨⟨p,_⟩,_⟩ | ⟨⟨p,_⟩,_⟩ | ⟨p1,_,p3,_⟩
 ·omega
 ·omega
 ·rcases p3 with p | ⟨p,_⟩ | ⟨p,_⟩ | ⟨p,_⟩ | ⟨_,p2,p3,p4,p5⟩
  all_goals first | omega | exact ⟨p2,p3,p4,p1,p5⟩
end
theorem get_any {UG:Nat→Nat→(Nat→Prop)→World→Us→Prop} {OG:Nat→(Nat→Prop)→World→Od→Prop} {LG:Nat→(Nat→Prop)→World→Ly→Prop} {NG:Nat→(Nat→Prop)→World→Nd→Prop} {HG:Nat→Nat→(Nat→Prop)→World→Hd→Prop} {FG:Nat→(Nat→Prop)→World→Fe→Prop} (HS:HandSays UG OG LG NG HG) (FS:FetchSays FG)
  (b nb:Nat) (X:Nat→Prop) (w:World) (h0:Hd) (hs:Solo (HG b nb) X w h0) (E:Int) (M:List (List Int)) (V:Int) (S:ByteArray) (a:Int) (fill:Bool) (hN:GNod E M h0.n V S a fill h0.n) (ha:AdG E M a) (hep:h0.n.l.ep=E) (hL:h0.n.l.L=M) (hS:V=1→S.size≤4096) (hu:h0.n.l.used.length≤100000)
  (ep:Int) (L:List (List Int)) (hE:(ep=E∧L=M)∨(ofB ep L a=true∧ep≠E∧((h0.n.u (unG ep L a (lenG ep L a - 1))).down=true∨ep < (h0.n.u (unG ep L a (lenG ep L a - 1))).epoch)))
  (ao:Option Addr) (cap:Nat) (hC:CL w ao L) (hn:ao=none→cap=0) (hc:L.length≤cap) (fo:Option Addr) (fc:Nat) :
  Calls Tryz.prog 37 #[.pointer (some ⟨b,0,none⟩),.agg #[.int .i64 ep,.slice ao L.length cap],.int .i64 a,.bool fill,.slice none 0 0] w fun e w'=>e=.returned (.tuple #[.int .i64 V,.string (foundG V S),.int .i64 0,.bool true])∧∃ h':Hd,(GNod E M h0.n V S a fill h'.n∧∀ j,j < lenG E M a→GK E M h'.n a j=V)∧Solo (HG b nb) X w' h'∧Kept X w w':=by
 have hg:goodB ep L=true:=by
  rcases hE with ⟨rfl,rfl⟩ | ⟨g,_⟩
  ·exact (ofB_iff.1 ha.of).1
  ·exact (ofB_iff.1 g).1
 have hat:=(ofB_iff.1 ha.of).2
 refine (get_run HS FS b nb X w h0 hs ep (z16 hg).2 L (z16 hg).1 a (z04 (by omega)) fill ao cap hC hn hc none 0 [] (Nat.zero_le _) (fun W _=>Row.nil _ _ _ _) (fun x hx=>(by cases hx)) (InvG E M h0.n V S a fill) (InvG.run hN ha hep hL hS hu) ?_).mono ?_
 ·rcases hE with ⟨rfl,rfl⟩ | ⟨g1,g2,g3⟩
  ·exact InvG.fresh hN ha rfl
  ·exact InvG.stale g1 g2 g3 rfl
 ·rintro e w' ⟨k,h',f',H,h7,he,h8,h9⟩
  obtain ⟨g1,g2,g3,g4,g5⟩:=H.over h7
  rw [g1,g2,g3] at he
  exact ⟨he,h',⟨g4,g5⟩,h8,h9⟩
end Go.Proofs.YtkefpbcifcjibaaGreat
