/- Joined texts. -/
import Derived.Test.YtkefpbcifcjibaaGreatG25a
import Derived.Test.YtkefpbcifcjibaaGreatG14a
import Derived.Test.YtkefpbcifcjibaaGreatG23a
import Derived.Test.YtkefpbcifcjibaaGreatH00
set_option linter.unusedVariables false
set_option maxRecDepth 20000
set_option maxHeartbeats 16000000
namespace Go.Proofs.YtkefpbcifcjibaaGreat
open Go.RowKit
theorem z0f {b:Nat} {G:Nat→Prop} {w:World} {q:Qa} (h:AQ b G w q) (xc xn:Int) (xd:ByteArray) (xe:Int) (xo:Option Addr) (n xp:Nat) (xm xs xy:Int) {w1:World} (hw:w.alloc (.cells #[.int .i64 xc,.int .i64 xn,.string xd,.int .i64 xe,.slice xo n xp,.int .i64 xm,.int .i64 xs,.int .i64 xy] 49)=w1) :
  Hid (∀ k,G k→k < w.heap.size)∧Hid (Below w.heap.size w w1)∧Hid (w1.heap[w.heap.size]?=some (.cells #[.int .i64 xc,.int .i64 xn,.string xd,.int .i64 xe,.slice xo n xp,.int .i64 xm,.int .i64 xs,.int .i64 xy] 49))∧Hid (AQ b G w1 q)∧
  (w1.cell? ⟨w.heap.size,0,none⟩=some (.int .i64 xc)∧w1.cell? ⟨w.heap.size,1,none⟩=some (.int .i64 xn)∧w1.cell? ⟨w.heap.size,2,none⟩=some (.string xd)∧w1.cell? ⟨w.heap.size,3,none⟩=some (.int .i64 xe)∧w1.cell? ⟨w.heap.size,4,none⟩=some (.slice xo n xp)∧w1.cell? ⟨w.heap.size,5,none⟩=some (.int .i64 xm)∧w1.cell? ⟨w.heap.size,6,none⟩=some (.int .i64 xs)∧w1.cell? ⟨w.heap.size,7,none⟩=some (.int .i64 xy))∧
  ∃ ao cap,(w1.cell? ⟨b,0,none⟩=some (.int .i64 q.ep)∧w1.cell? ⟨b,1,none⟩=some (.slice ao q.L.length cap)∧w1.cell? ⟨b,2,none⟩=some (.string q.txt)∧w1.cell? ⟨b,3,none⟩=some (.int .i64 q.at_)∧w1.cell? ⟨b,4,none⟩=some (.int .i64 q.was)∧w1.cell? ⟨b,5,none⟩=some (.int .i64 q.addr)∧w1.cell? ⟨b,6,none⟩=some (.int .i64 q.unit)∧w1.cell? ⟨b,7,none⟩=some (.bool q.may)∧w1.cell? ⟨b,8,none⟩=some (.int .i64 q.err))∧(w1.frozen? ⟨b,0,none⟩=false∧w1.frozen? ⟨b,1,none⟩=false∧w1.frozen? ⟨b,2,none⟩=false∧w1.frozen? ⟨b,3,none⟩=false∧w1.frozen? ⟨b,4,none⟩=false∧w1.frozen? ⟨b,5,none⟩=false∧w1.frozen? ⟨b,6,none⟩=false∧w1.frozen? ⟨b,7,none⟩=false∧w1.frozen? ⟨b,8,none⟩=false)∧b < w1.heap.size∧Hid (CL w1 ao q.L)∧Hid (w1.heap[b]?=some (.cells #[.int .i64 q.ep,.slice ao q.L.length cap,.string q.txt,.int .i64 q.at_,.int .i64 q.was,.int .i64 q.addr,.int .i64 q.unit,.bool q.may,.int .i64 q.err] 134 (0,0)))∧
  Hid (∀ (W:World) (q':Qa),Kept (fun k=>k≠b) w1 W→q'.L=q.L→W.heap[b]?=some (.cells #[.int .i64 q'.ep,.slice ao q.L.length cap,.string q'.txt,.int .i64 q'.at_,.int .i64 q'.was,.int .i64 q'.addr,.int .i64 q'.unit,.bool q'.may,.int .i64 q'.err] 134 (0,0))→Leaves (AQ b) G w1 W q'):=by
 subst hw
 have HB:=z00 w (.cells #[.int .i64 xc,.int .i64 xn,.string xd,.int .i64 xe,.slice xo n xp,.int .i64 xm,.int .i64 xs,.int .i64 xy] 49)
 have HX:=heap_alloc_new w (.cells #[.int .i64 xc,.int .i64 xn,.string xd,.int .i64 xe,.slice xo n xp,.int .i64 xm,.int .i64 xs,.int .i64 xy] 49)
 have HA:=h.below HB
 obtain ⟨ao,cap,h1,hc1,h3⟩:=HA.open
 obtain ⟨k1,k2⟩:=z0g h1
 exact ⟨Lh (fun k hk=>(z1f b).lt h k hk),Lh HB,Lh HX,Lh HA,(z03 HX).1,ao,cap,k1,k2,lt_of_block h1,Lh hc1,Lh h1,Lh h3⟩
theorem z0w {b g:Nat} {G:Nat→Prop} {w w1 w2:World} {q:Qa} {v0 v1 v2 v3 v4 v5 v6 v7:Value} {t:TypeId} (HB:Hid (Below w.heap.size w w1)) (HA:Hid (AQ b G w1 q)) (HX:Hid (w1.heap[g]?=some (.cells #[v0,v1,v2,v3,v4,v5,v6,v7] t (0,0)))) (hb2:Below w1.heap.size w1 w2) :
  Hid (Below w.heap.size w w2)∧Hid (AQ b G w2 q)∧Hid (w2.heap[g]?=some (.cells #[v0,v1,v2,v3,v4,v5,v6,v7] t (0,0)))∧(w2.cell? ⟨g,0,none⟩=some v0∧w2.cell? ⟨g,1,none⟩=some v1∧w2.cell? ⟨g,2,none⟩=some v2∧w2.cell? ⟨g,3,none⟩=some v3∧w2.cell? ⟨g,4,none⟩=some v4∧w2.cell? ⟨g,5,none⟩=some v5∧w2.cell? ⟨g,6,none⟩=some v6∧w2.cell? ⟨g,7,none⟩=some v7)∧
  ∃ ao cap,(w2.cell? ⟨b,0,none⟩=some (.int .i64 q.ep)∧w2.cell? ⟨b,1,none⟩=some (.slice ao q.L.length cap)∧w2.cell? ⟨b,2,none⟩=some (.string q.txt)∧w2.cell? ⟨b,3,none⟩=some (.int .i64 q.at_)∧w2.cell? ⟨b,4,none⟩=some (.int .i64 q.was)∧w2.cell? ⟨b,5,none⟩=some (.int .i64 q.addr)∧w2.cell? ⟨b,6,none⟩=some (.int .i64 q.unit)∧w2.cell? ⟨b,7,none⟩=some (.bool q.may)∧w2.cell? ⟨b,8,none⟩=some (.int .i64 q.err))∧(w2.frozen? ⟨b,0,none⟩=false∧w2.frozen? ⟨b,1,none⟩=false∧w2.frozen? ⟨b,2,none⟩=false∧w2.frozen? ⟨b,3,none⟩=false∧w2.frozen? ⟨b,4,none⟩=false∧w2.frozen? ⟨b,5,none⟩=false∧w2.frozen? ⟨b,6,none⟩=false∧w2.frozen? ⟨b,7,none⟩=false∧w2.frozen? ⟨b,8,none⟩=false)∧b < w2.heap.size∧Hid (w2.heap[b]?=some (.cells #[.int .i64 q.ep,.slice ao q.L.length cap,.string q.txt,.int .i64 q.at_,.int .i64 q.was,.int .i64 q.addr,.int .i64 q.unit,.bool q.may,.int .i64 q.err] 134 (0,0)))∧
  Hid (∀ (W:World) (q':Qa),Kept (fun k=>k≠b) w2 W→q'.L=q.L→W.heap[b]?=some (.cells #[.int .i64 q'.ep,.slice ao q.L.length cap,.string q'.txt,.int .i64 q'.at_,.int .i64 q'.was,.int .i64 q'.addr,.int .i64 q'.unit,.bool q'.may,.int .i64 q'.err] 134 (0,0))→Leaves (AQ b) G w2 W q'):=by
 have HA2:=HA.out.below hb2
 have HX2:=z01 hb2 HX.out
 obtain ⟨ao,cap,h1,hc1,h3⟩:=HA2.open
 obtain ⟨k1,k2⟩:=z0g h1
 exact ⟨Lh (HB.out.trans (hb2.mono HB.out.size)),Lh HA2,Lh HX2,(z03 HX2).1,ao,cap,k1,k2,lt_of_block h1,Lh h1,Lh h3⟩
theorem learn_a1 (b:Nat) (G:Nat→Prop) (w:World) (q:Qa) (xc xn:Int) (xd:ByteArray) (xe:Int) (xL:List (List Int)) (xm xs xy:Int) (xo:Option Addr) (xp:Nat) (h:AQ b G w q) (hf:fewL xL) (hx:CL w xo xL) (n0:¬ xc=0) (ha:q.at_=1) :
  Calls Tryz.prog 75 #[ptrP b,.agg #[.int .i64 xc,.int .i64 xn,.string xd,.int .i64 xe,.slice xo xL.length xp,.int .i64 xm,.int .i64 xs,.int .i64 xy]] w fun e w'=>e=.returned (.tuple #[])∧Leaves (AQ b) G w w' (q.to q.was):=by
 obtain ⟨HG,HB,HX,HA,⟨x0,x1,x2,x3,x4,x5,x6,x7⟩,ao,cap,⟨c0,c1,c2,c3,c4,c5,c6,c7,c8⟩,⟨f0,f1,f2,f3,f4,f5,f6,f7,f8⟩,hb,HC1,H1,H3⟩:=z0f h xc xn xd xe xo xL.length xp xm xs xy rfl
 have HC:=Lh (hx.below HB.out)
 have e0:(xc == 0)=false:=by simpa using n0
 rw [ha] at c3
 clear h hf hx
 unfold ptrP at *
 go_enter Tryz.func75,Tryz.ntmps75
 go_wp2_with fail
 go_quiet (fail)
 have HDK:=Lh (below_drewN (Below.refl (w.alloc (.cells #[.int .i64 xc,.int .i64 xn,.string xd,.int .i64 xe,.slice xo xL.length xp,.int .i64 xm,.int .i64 xs,.int .i64 xy] 49)).heap.size (w.alloc (.cells #[.int .i64 xc,.int .i64 xn,.string xd,.int .i64 xe,.slice xo xL.length xp,.int .i64 xm,.int .i64 xs,.int .i64 xy] 49))) nq)
 go_wp2_with fail
 go_end0
 exact ⟨rfl,(H3.out _ (q.to q.was) ((Kept.ofBelow HDK.out _).setCell (p:=⟨b,3,none⟩) (fun h=>h rfl) _) rfl (nset3 (show (World.drewN (w.alloc (.cells #[.int .i64 xc,.int .i64 xn,.string xd,.int .i64 xe,.slice xo xL.length xp,.int .i64 xm,.int .i64 xs,.int .i64 xy] 49)) nq).heap[b]?=_ from H1.out) _)).ahead HG.out HB.out⟩
theorem learn_a0 (b:Nat) (G:Nat→Prop) (w:World) (q:Qa) (xc xn:Int) (xd:ByteArray) (xe:Int) (xL:List (List Int)) (xm xs xy:Int) (xo:Option Addr) (xp:Nat) (h:AQ b G w q) (hf:fewL xL) (hx:CL w xo xL) (n0:¬ xc=0) (n1:¬ q.at_=1) :
  Calls Tryz.prog 75 #[ptrP b,.agg #[.int .i64 xc,.int .i64 xn,.string xd,.int .i64 xe,.slice xo xL.length xp,.int .i64 xm,.int .i64 xs,.int .i64 xy]] w fun e w'=>e=.returned (.tuple #[])∧Leaves (AQ b) G w w' (q):=by
 obtain ⟨HG,HB,HX,HA,⟨x0,x1,x2,x3,x4,x5,x6,x7⟩,ao,cap,⟨c0,c1,c2,c3,c4,c5,c6,c7,c8⟩,⟨f0,f1,f2,f3,f4,f5,f6,f7,f8⟩,hb,HC1,H1,H3⟩:=z0f h xc xn xd xe xo xL.length xp xm xs xy rfl
 have HC:=Lh (hx.below HB.out)
 have e0:(xc == 0)=false:=by simpa using n0
 have e1:(q.at_ == 1)=false:=by simpa using n1
 clear h hf hx
 unfold ptrP at *
 go_enter Tryz.func75,Tryz.ntmps75
 go_wp2_with fail
 go_quiet (fail)
 go_wp2_with fail
 go_end0
 exact ⟨rfl,(Leaves.same (z1f b) HA.out (below_drewN (Below.refl _ _) nq)).ahead HG.out HB.out⟩
theorem learn_b1 (b:Nat) (G:Nat→Prop) (w:World) (q:Qa) (xc xn:Int) (xd:ByteArray) (xe:Int) (xL:List (List Int)) (xm xs xy:Int) (xo:Option Addr) (xp:Nat) (h:AQ b G w q) (hf:fewL xL) (hx:CL w xo xL) (hg:goodB xe xL=false) (ha:q.at_=1) :
  Calls Tryz.prog 75 #[ptrP b,.agg #[.int .i64 0,.int .i64 xn,.string xd,.int .i64 xe,.slice xo xL.length xp,.int .i64 xm,.int .i64 xs,.int .i64 xy]] w fun e w'=>e=.returned (.tuple #[])∧Leaves (AQ b) G w w' (q.to q.was):=by
 obtain ⟨HG,HB,HX,HA,⟨x0,x1,x2,x3,x4,x5,x6,x7⟩,ao,cap,⟨c0,c1,c2,c3,c4,c5,c6,c7,c8⟩,⟨f0,f1,f2,f3,f4,f5,f6,f7,f8⟩,hb,HC1,H1,H3⟩:=z0f h 0 xn xd xe xo xL.length xp xm xs xy rfl
 have HC:=Lh (hx.below HB.out)
 have CG:=Lh (fun W (hC:CL W xo xL)=>z0m xe xo xp xL W hC hf)
 rw [hg] at CG
 clear h hf hx
 unfold ptrP at *
 go_enter Tryz.func75,Tryz.ntmps75
 go_wp2_with (first | (go_at_call 44;refine (CG.out _ HC.out).mono ?_;rintro e w2 ⟨rfl,hb2⟩;have HC2:=Lh (HC.out.below hb2);obtain ⟨HB2,HA2,HX2,⟨x0,x1,x2,x3,x4,x5,x6,x7⟩,ao,cap,⟨c0,c1,c2,c3,c4,c5,c6,c7,c8⟩,⟨f0,f1,f2,f3,f4,f5,f6,f7,f8⟩,hb,H1,H3⟩:=z0w HB HA HX hb2;rw [ha] at c3;clear hb2))
 go_quiet (fail)
 have HDK:=Lh (below_drewN (Below.refl w2.heap.size w2) nq)
 go_wp2_with fail
 go_end0
 exact ⟨rfl,(H3.out _ (q.to q.was) ((Kept.ofBelow HDK.out _).setCell (p:=⟨b,3,none⟩) (fun h=>h rfl) _) rfl (nset3 (show (World.drewN w2 nq).heap[b]?=_ from H1.out) _)).ahead HG.out HB2.out⟩
theorem learn_b0 (b:Nat) (G:Nat→Prop) (w:World) (q:Qa) (xc xn:Int) (xd:ByteArray) (xe:Int) (xL:List (List Int)) (xm xs xy:Int) (xo:Option Addr) (xp:Nat) (h:AQ b G w q) (hf:fewL xL) (hx:CL w xo xL) (hg:goodB xe xL=false) (n1:¬ q.at_=1) :
  Calls Tryz.prog 75 #[ptrP b,.agg #[.int .i64 0,.int .i64 xn,.string xd,.int .i64 xe,.slice xo xL.length xp,.int .i64 xm,.int .i64 xs,.int .i64 xy]] w fun e w'=>e=.returned (.tuple #[])∧Leaves (AQ b) G w w' (q):=by
 obtain ⟨HG,HB,HX,HA,⟨x0,x1,x2,x3,x4,x5,x6,x7⟩,ao,cap,⟨c0,c1,c2,c3,c4,c5,c6,c7,c8⟩,⟨f0,f1,f2,f3,f4,f5,f6,f7,f8⟩,hb,HC1,H1,H3⟩:=z0f h 0 xn xd xe xo xL.length xp xm xs xy rfl
 have HC:=Lh (hx.below HB.out)
 have CG:=Lh (fun W (hC:CL W xo xL)=>z0m xe xo xp xL W hC hf)
 rw [hg] at CG
 have e1:(q.at_ == 1)=false:=by simpa using n1
 clear h hf hx
 unfold ptrP at *
 go_enter Tryz.func75,Tryz.ntmps75
 go_wp2_with (first | (go_at_call 44;refine (CG.out _ HC.out).mono ?_;rintro e w2 ⟨rfl,hb2⟩;have HC2:=Lh (HC.out.below hb2);obtain ⟨HB2,HA2,HX2,⟨x0,x1,x2,x3,x4,x5,x6,x7⟩,ao,cap,⟨c0,c1,c2,c3,c4,c5,c6,c7,c8⟩,⟨f0,f1,f2,f3,f4,f5,f6,f7,f8⟩,hb,H1,H3⟩:=z0w HB HA HX hb2;clear hb2))
 go_quiet (fail)
 go_wp2_with fail
 go_end0
 exact ⟨rfl,(Leaves.same (z1f b) HA2.out (below_drewN (Below.refl _ _) nq)).ahead HG.out HB2.out⟩
theorem learn_c (b:Nat) (G:Nat→Prop) (w:World) (q:Qa) (xc xn:Int) (xd:ByteArray) (xe:Int) (xL:List (List Int)) (xm xs xy:Int) (xo:Option Addr) (xp:Nat) (h:AQ b G w q) (hf:fewL xL) (hx:CL w xo xL) (hg:goodB xe xL=true) (ha:q.at_=0) :
  Calls Tryz.prog 75 #[ptrP b,.agg #[.int .i64 0,.int .i64 xn,.string xd,.int .i64 xe,.slice xo xL.length xp,.int .i64 xm,.int .i64 xs,.int .i64 xy]] w fun e w'=>e=.returned (.tuple #[])∧Leaves (AQ b) G w w' (q.proj xe xL):=by
 obtain ⟨HG,HB,HX,HA,⟨x0,x1,x2,x3,x4,x5,x6,x7⟩,ao,cap,⟨c0,c1,c2,c3,c4,c5,c6,c7,c8⟩,⟨f0,f1,f2,f3,f4,f5,f6,f7,f8⟩,hb,HC1,H1,H3⟩:=z0f h 0 xn xd xe xo xL.length xp xm xs xy rfl
 have HC:=Lh (hx.below HB.out)
 have CG:=Lh (fun W (hC:CL W xo xL)=>z0m xe xo xp xL W hC hf)
 rw [hg] at CG
 have CC:=Lh (fun W (hC:CL W xo xL)=>z14 xe xo xp xL W hC hf)
 clear h hf hx
 unfold ptrP at *
 go_enter Tryz.func75,Tryz.ntmps75
 go_wp2_with (first | (go_at_call 44;refine (CG.out _ HC.out).mono ?_;rintro e w2 ⟨rfl,hb2⟩;have HC2:=Lh (HC.out.below hb2);obtain ⟨HB2,HA2,HX2,⟨x0,x1,x2,x3,x4,x5,x6,x7⟩,ao,cap,⟨c0,c1,c2,c3,c4,c5,c6,c7,c8⟩,⟨f0,f1,f2,f3,f4,f5,f6,f7,f8⟩,hb,H1,H3⟩:=z0w HB HA HX hb2;rw [ha] at c3;clear hb2))
 go_quiet (fail)
 have HDB:=Lh (below_drewN HB2.out nq)
 have HDA:=Lh (HA2.out.below (below_drewN (Below.refl _ _) nq))
 have HDC:=Lh (HC2.out.below (below_drewN (Below.refl _ _) nq))
 go_wp2_with (first
  | (go_at_call 46;refine (CC.out _ HDC.out).mono ?_;rintro e w3 ⟨v,rfl,hO,hb3⟩;obtain ⟨vo,vc,hv,_⟩:=hO.form;subst hv;have HO:=Lh hO;have HB3:=Lh hb3;have HR:=Lh (z01 hb3 (show (w2.drewN nq).heap[b]?=_ from H1.out));obtain ⟨_,f0,f1,f2,f3,_⟩:=z0g HR.out;have hb:=lt_of_block HR.out;clear hO hb3))
 go_end0
 exact ⟨rfl,(HDA.out.chains HB3.out HO.out ((((Kept.refl _ w3).setCell (p:=⟨b,0,none⟩) (fun h=>h rfl) _).setCell (p:=⟨b,1,none⟩) (fun h=>h rfl) _).setCell (p:=⟨b,3,none⟩) (fun h=>h rfl) _) (nset3 (nset1 (nset0 HR.out _) _) _)).ahead HG.out HDB.out⟩
theorem learn_d (b:Nat) (G:Nat→Prop) (w:World) (q:Qa) (xc xn:Int) (xd:ByteArray) (xe:Int) (xL:List (List Int)) (xm xs xy:Int) (xo:Option Addr) (xp:Nat) (h:AQ b G w q) (hf:fewL xL) (hx:CL w xo xL) (hg:goodB xe xL=true) (n0:¬ q.at_=0) (ne:¬ xe=q.ep) :
  Calls Tryz.prog 75 #[ptrP b,.agg #[.int .i64 0,.int .i64 xn,.string xd,.int .i64 xe,.slice xo xL.length xp,.int .i64 xm,.int .i64 xs,.int .i64 xy]] w fun e w'=>e=.returned (.tuple #[])∧Leaves (AQ b) G w w' (q.proj xe xL):=by
 obtain ⟨HG,HB,HX,HA,⟨x0,x1,x2,x3,x4,x5,x6,x7⟩,ao,cap,⟨c0,c1,c2,c3,c4,c5,c6,c7,c8⟩,⟨f0,f1,f2,f3,f4,f5,f6,f7,f8⟩,hb,HC1,H1,H3⟩:=z0f h 0 xn xd xe xo xL.length xp xm xs xy rfl
 have HC:=Lh (hx.below HB.out)
 have CG:=Lh (fun W (hC:CL W xo xL)=>z0m xe xo xp xL W hC hf)
 rw [hg] at CG
 have CC:=Lh (fun W (hC:CL W xo xL)=>z14 xe xo xp xL W hC hf)
 have z0:(q.at_ == 0)=false:=by simpa using n0
 have e5:(xe != q.ep)=true:=by simpa using ne
 clear h hf hx
 unfold ptrP at *
 go_enter Tryz.func75,Tryz.ntmps75
 go_wp2_with (first | (go_at_call 44;refine (CG.out _ HC.out).mono ?_;rintro e w2 ⟨rfl,hb2⟩;have HC2:=Lh (HC.out.below hb2);obtain ⟨HB2,HA2,HX2,⟨x0,x1,x2,x3,x4,x5,x6,x7⟩,ao,cap,⟨c0,c1,c2,c3,c4,c5,c6,c7,c8⟩,⟨f0,f1,f2,f3,f4,f5,f6,f7,f8⟩,hb,H1,H3⟩:=z0w HB HA HX hb2;clear hb2))
 go_quiet (fail)
 have HDB:=Lh (below_drewN HB2.out nq)
 have HDA:=Lh (HA2.out.below (below_drewN (Below.refl _ _) nq))
 have HDC:=Lh (HC2.out.below (below_drewN (Below.refl _ _) nq))
 go_wp2_with (first
  | (go_at_call 46;refine (CC.out _ HDC.out).mono ?_;rintro e w3 ⟨v,rfl,hO,hb3⟩;obtain ⟨vo,vc,hv,_⟩:=hO.form;subst hv;have HO:=Lh hO;have HB3:=Lh hb3;have HR:=Lh (z01 hb3 (show (w2.drewN nq).heap[b]?=_ from H1.out));obtain ⟨_,f0,f1,f2,f3,_⟩:=z0g HR.out;have hb:=lt_of_block HR.out;clear hO hb3))
 go_end0
 exact ⟨rfl,(HDA.out.chains HB3.out HO.out ((((Kept.refl _ w3).setCell (p:=⟨b,0,none⟩) (fun h=>h rfl) _).setCell (p:=⟨b,1,none⟩) (fun h=>h rfl) _).setCell (p:=⟨b,3,none⟩) (fun h=>h rfl) _) (nset3 (nset1 (nset0 HR.out _) _) _)).ahead HG.out HDB.out⟩
theorem learn_e1 (b:Nat) (G:Nat→Prop) (w:World) (q:Qa) (xc xn:Int) (xd:ByteArray) (xL:List (List Int)) (xm xs xy:Int) (xo:Option Addr) (xp:Nat) (h:AQ b G w q) (hf:fewL xL) (hx:CL w xo xL) (hg:goodB q.ep xL=true) (ha:q.at_=1) :
  Calls Tryz.prog 75 #[ptrP b,.agg #[.int .i64 0,.int .i64 xn,.string xd,.int .i64 q.ep,.slice xo xL.length xp,.int .i64 xm,.int .i64 xs,.int .i64 xy]] w fun e w'=>e=.returned (.tuple #[])∧Leaves (AQ b) G w w' (q.to q.was):=by
 obtain ⟨HG,HB,HX,HA,⟨x0,x1,x2,x3,x4,x5,x6,x7⟩,ao,cap,⟨c0,c1,c2,c3,c4,c5,c6,c7,c8⟩,⟨f0,f1,f2,f3,f4,f5,f6,f7,f8⟩,hb,HC1,H1,H3⟩:=z0f h 0 xn xd q.ep xo xL.length xp xm xs xy rfl
 have HC:=Lh (hx.below HB.out)
 have CG:=Lh (fun W (hC:CL W xo xL)=>z0m q.ep xo xp xL W hC hf)
 rw [hg] at CG
 have e5:(q.ep != q.ep)=false:=by simp
 clear h hf hx
 unfold ptrP at *
 go_enter Tryz.func75,Tryz.ntmps75
 go_wp2_with (first | (go_at_call 44;refine (CG.out _ HC.out).mono ?_;rintro e w2 ⟨rfl,hb2⟩;have HC2:=Lh (HC.out.below hb2);obtain ⟨HB2,HA2,HX2,⟨x0,x1,x2,x3,x4,x5,x6,x7⟩,ao,cap,⟨c0,c1,c2,c3,c4,c5,c6,c7,c8⟩,⟨f0,f1,f2,f3,f4,f5,f6,f7,f8⟩,hb,H1,H3⟩:=z0w HB HA HX hb2;rw [ha] at c3;clear hb2))
 go_quiet (fail)
 have HDK:=Lh (below_drewN (Below.refl w2.heap.size w2) nq)
 go_wp2_with fail
 go_end0
 exact ⟨rfl,(H3.out _ (q.to q.was) ((Kept.ofBelow HDK.out _).setCell (p:=⟨b,3,none⟩) (fun h=>h rfl) _) rfl (nset3 (show (World.drewN w2 nq).heap[b]?=_ from H1.out) _)).ahead HG.out HB2.out⟩
theorem learn_e0 (b:Nat) (G:Nat→Prop) (w:World) (q:Qa) (xc xn:Int) (xd:ByteArray) (xL:List (List Int)) (xm xs xy:Int) (xo:Option Addr) (xp:Nat) (h:AQ b G w q) (hf:fewL xL) (hx:CL w xo xL) (hg:goodB q.ep xL=true) (n0:¬ q.at_=0) (n1:¬ q.at_=1) :
  Calls Tryz.prog 75 #[ptrP b,.agg #[.int .i64 0,.int .i64 xn,.string xd,.int .i64 q.ep,.slice xo xL.length xp,.int .i64 xm,.int .i64 xs,.int .i64 xy]] w fun e w'=>e=.returned (.tuple #[])∧Leaves (AQ b) G w w' (q):=by
 obtain ⟨HG,HB,HX,HA,⟨x0,x1,x2,x3,x4,x5,x6,x7⟩,ao,cap,⟨c0,c1,c2,c3,c4,c5,c6,c7,c8⟩,⟨f0,f1,f2,f3,f4,f5,f6,f7,f8⟩,hb,HC1,H1,H3⟩:=z0f h 0 xn xd q.ep xo xL.length xp xm xs xy rfl
 have HC:=Lh (hx.below HB.out)
 have CG:=Lh (fun W (hC:CL W xo xL)=>z0m q.ep xo xp xL W hC hf)
 rw [hg] at CG
 have e5:(q.ep != q.ep)=false:=by simp
 have z0:(q.at_ == 0)=false:=by simpa using n0
 have e1:(q.at_ == 1)=false:=by simpa using n1
 clear h hf hx
 unfold ptrP at *
 go_enter Tryz.func75,Tryz.ntmps75
 go_wp2_with (first | (go_at_call 44;refine (CG.out _ HC.out).mono ?_;rintro e w2 ⟨rfl,hb2⟩;have HC2:=Lh (HC.out.below hb2);obtain ⟨HB2,HA2,HX2,⟨x0,x1,x2,x3,x4,x5,x6,x7⟩,ao,cap,⟨c0,c1,c2,c3,c4,c5,c6,c7,c8⟩,⟨f0,f1,f2,f3,f4,f5,f6,f7,f8⟩,hb,H1,H3⟩:=z0w HB HA HX hb2;clear hb2))
 go_quiet (fail)
 go_wp2_with fail
 go_end0
 exact ⟨rfl,(Leaves.same (z1f b) HA2.out (below_drewN (Below.refl _ _) nq)).ahead HG.out HB2.out⟩
section
variable {UG:Nat→Nat→(Nat→Prop)→World→Us→Prop} {OG:Nat→(Nat→Prop)→World→Od→Prop} {LG:Nat→(Nat→Prop)→World→Ly→Prop} {NG:Nat→(Nat→Prop)→World→Nd→Prop}
def NoH (b:Nat) (w:World):Prop:=w.heap[b]?=some (.cells #[.pointer none,.slice none 0 0] 114 (0,0))
theorem nodes_noh {b:Nat} {w:World} (h:NoH b w):Calls Tryz.prog 29 #[.pointer (some ⟨b,0,none⟩)] w fun e w'=>e=.returned (.pointer none)∧w=w':=by
 have c0:=z02 h 0
 have hb:=lt_of_block h
 clear h
 go_enter Tryz.func29,Tryz.ntmps29
 go_wp2_with fail
 go_ret
 exact ⟨rfl,rfl⟩
theorem ask_none (p:Option Addr) (a:Ak) (fate:Int) (w:World) (h:∀ W,Below w.heap.size w W→Calls Tryz.prog 29 #[.pointer p] W fun e w'=>e=.returned (.pointer none)∧W=w') :
  Calls Tryz.prog 41 #[.pointer p,askV a,.int .i64 fate] w fun e w'=>e=.returned (heardT zeroX false none 0)∧Below w.heap.size w w':=by
 obtain ⟨k,un,ep,pg,sz,nn,s,pe,L,ao,cap⟩:=a
 have hb:Below w.heap.size w ((w.alloc (.cells #[.int .i64 k,.int .i64 un,.int .i64 ep,.int .i64 pg,.int .i64 sz,.int .i64 nn,.string s,.int .i64 pe,.slice ao L.length cap] 34)).alloc (.cells zero8 49)):=((Below.refl _ _).alloc (Nat.le_refl _) _).alloc (by simp) _
 have hq:=(z0z w #[.int .i64 k,.int .i64 un,.int .i64 ep,.int .i64 pg,.int .i64 sz,.int .i64 nn,.string s,.int .i64 pe,.slice ao L.length cap] zero8 34 49).2
 generalize hW0:((w.alloc (.cells #[.int .i64 k,.int .i64 un,.int .i64 ep,.int .i64 pg,.int .i64 sz,.int .i64 nn,.string s,.int .i64 pe,.slice ao L.length cap] 34)).alloc (.cells zero8 49))=W0 at *
 have EW:=Lh (show ((w.alloc (.cells #[.int .i64 k,.int .i64 un,.int .i64 ep,.int .i64 pg,.int .i64 sz,.int .i64 nn,.string s,.int .i64 pe,.slice ao L.length cap] 34)).alloc (.cells #[.int .i64 0,.int .i64 0,.string ⟨#[]⟩,.int .i64 0,.slice none 0 0,.int .i64 0,.int .i64 0,.int .i64 0] 49))=W0 from hW0)
 have HN:=Lh (h W0 hb)
 have HQ:=Lh hq
 have HB:=Lh hb
 have hl:=lt_of_block hq
 obtain ⟨⟨ny0,ny1,ny2,ny3,ny4,ny5,ny6,ny7⟩,nf0,nf1,nf2,nf3,nf4,nf5,nf6,nf7⟩:=z03 hq
 clear hW0 hq hb h
 show Calls _ _ #[.pointer p,.agg #[.int .i64 k,.int .i64 un,.int .i64 ep,.int .i64 pg,.int .i64 sz,.int .i64 nn,.string s,.int .i64 pe,.slice ao L.length cap],.int .i64 fate] w _
 go_enter Tryz.func41,Tryz.ntmps41
 go_wp2_with (go_at_call 29;rw [EW.out];refine HN.out.mono ?_;rintro e w1 ⟨rfl,rfl⟩)
 exact ans_ret2 (x:=zeroX) (ao:=none) (cap:=0) (c:=false) rfl (hp_eight HQ.out (.int .i64 0) (.int .i64 0) (.string ⟨#[]⟩) (.int .i64 0) (.slice none 0 0) (.int .i64 0) (.int .i64 0) (.int .i64 0)) rfl rfl rfl ⟨rfl,HB.out.trans (((z1s W0 (w.heap.size+1) (.int .i64 0) (.int .i64 0) (.string ⟨#[]⟩) (.int .i64 0) (.slice none 0 0) (.int .i64 0) (.int .i64 0) (.int .i64 0)).mono (T:=fun j=>j < w.heap.size) (fun j h=>by omega)).toBelow (by omega) (fun j h=>h))⟩
theorem take_noh {b:Nat} {w:World} (h:NoH b w) (k:Int):Calls Tryz.prog 163 #[.pointer (some ⟨b,0,none⟩),.int .i64 k] w fun e w'=>e=.returned (.tuple #[askV zeroQ,.bool false])∧Below w.heap.size w w':=by
 have HQ:=Lh (heap_alloc_new w (.cells #[.int .i64 0,.int .i64 0,.int .i64 0,.int .i64 0,.int .i64 0,.int .i64 0,.string ⟨#[]⟩,.int .i64 0,.slice none 0 0] 34))
 have HB:=Lh (z00 w (.cells #[.int .i64 0,.int .i64 0,.int .i64 0,.int .i64 0,.int .i64 0,.int .i64 0,.string ⟨#[]⟩,.int .i64 0,.slice none 0 0] 34))
 have hb:=lt_of_block h
 obtain ⟨_,c1,_,_⟩:=z05 h
 clear h
 by_cases h0:k < 0
 ·go_enter Tryz.func163,Tryz.ntmps163
  go_wp2_with fail
  exact z0o (x:=zeroQ) (c:=false) rfl HQ.out rfl rfl rfl ⟨rfl,HB.out⟩
 ·have h2:0≤k:=by omega
  clear h0
  go_enter Tryz.func163,Tryz.ntmps163
  go_wp2_with fail
  exact z0o (x:=zeroQ) (c:=false) rfl HQ.out rfl rfl rfl ⟨rfl,HB.out⟩
theorem do_noh {b:Nat} {w:World} (h:NoH b w) (k:Int):Calls Tryz.prog 162 #[.pointer (some ⟨b,0,none⟩),.int .i64 k] w fun e w'=>e=.returned (.bool false)∧Below w.heap.size w w':=by
 have HT:=Lh (take_noh h k)
 clear h
 go_enter Tryz.func162,Tryz.ntmps162
 go_wp2_with (go_at_call 163;refine HT.out.mono ?_;rintro e w1 ⟨he,hb1⟩;obtain rfl:e=.returned (.tuple #[.agg #[.int .i64 0,.int .i64 0,.int .i64 0,.int .i64 0,.int .i64 0,.int .i64 0,.string ⟨#[]⟩,.int .i64 0,.slice none 0 0],.bool false]):=he)
 go_ret
 exact ⟨rfl,hb1.trans (z00 w1 _ |>.mono hb1.size)⟩
theorem hnew_no (w:World):Calls Tryz.prog 60 #[.pointer none] w fun e w'=>∃ b:Nat,e=.returned (.pointer (some ⟨b,0,none⟩))∧NoH b w'∧Below w.heap.size w w':=by
 have HP:=Lh (heap_alloc_new w (.cells #[.pointer none,.slice none 0 0] 114))
 have HB:=Lh (z00 w (.cells #[.pointer none,.slice none 0 0] 114))
 go_enter Tryz.func60,Tryz.ntmps60
 go_wp2_with fail
 go_ret
 exact ⟨w.heap.size,rfl,HP.out,HB.out⟩
end
structure PutN (E:Int) (M:List (List Int)) (n0:Nd) (t:Int) (S:ByteArray) (n:Nd) (i:Nat):Prop where
 ft:GtN E M n
 got:∀ j,j < lenG E M t→j < i→GK E M n t j=1∧GX E M n t j=S
 free:∀ j,j < lenG E M t→i≤j→GK E M n t j=0
 off:∀ b j,ofB E M b=true→j < lenG E M b→b≠t→GK E M n b j=GK E M n0 b j∧GX E M n b j=GX E M n0 b j
 rest:∀ u,(∀ j,j < lenG E M t→u≠unG E M t j)→n.u u=n0.u u
 epoch:∀ u,(n.u u).epoch=(n0.u u).epoch
 o:n.o=⟨E,t+1,true⟩
 l:n.l=n0.l
structure PutR (E:Int) (M:List (List Int)) (n0:Nd) (t:Int):Prop where
 ft:GtN E M n0
 ad:AdG E M t
 o:n0.o=⟨E,t,true⟩
 ep:n0.l.ep=E
 L:n0.l.L=M
 free:∀ j,j < lenG E M t→GK E M n0 t j=0
theorem PutR.good {E:Int} {M:List (List Int)} {n0:Nd} {t:Int} (h:PutR E M n0 t):goodB E M=true:=(ofB_iff.1 h.ad.of).1
theorem PutR.zero {E:Int} {M:List (List Int)} {n0:Nd} {t:Int} (h:PutR E M n0 t) (S:ByteArray):PutN E M n0 t S ⟨n0.u,⟨E,t+1,true⟩,n0.l⟩ 0 :=
 ⟨⟨fun a j ha hj=>h.ft.u a j ha hj⟩,fun j _ e=>absurd e (Nat.not_lt_zero j),fun j hj _=>h.free j hj,fun b j _ _ _=>⟨rfl,rfl⟩,fun u _=>rfl,fun u=>rfl,rfl,rfl⟩
theorem PutN.write {E:Int} {M:List (List Int)} {n0 n:Nd} {t:Int} {S:ByteArray} {i:Nat} (h:PutN E M n0 t S n i) (ha:AdG E M t) (hi:i < lenG E M t) (hS:S.size≤4096) {k:Ak} (hk:AskH E M t i k) (h1:k.kind=1) (hd:k.data=S) :
  (n.ans k).code=0∧PutN E M n0 t S (n.done k) (i+1):=by
 obtain ⟨r1,r2,r3,r4⟩:=h.ft.write_new hk ha.of hi h1 (h.free i hi (Nat.le_refl _))
 refine ⟨r1,r2.ft,fun j hj hji=>?_,fun j hj hji=>?_,fun b j hb hj hbt=>?_,fun u hu=>?_,fun u=>?_,r2.o.trans h.o,r2.l.trans h.l⟩
 ·by_cases e:j=i
  ·subst e
   exact ⟨r3,r4.trans hd⟩
  ·obtain ⟨g1,g2⟩:=r2.off t j ha.of hj (fun g=>e g.2)
   obtain ⟨g3,g4⟩:=h.got j hj (by omega)
   exact ⟨g1.trans g3,g2.trans g4⟩
 ·obtain ⟨g1,_⟩:=r2.off t j ha.of hj (fun g=>by have:=g.2;omega)
  exact g1.trans (h.free j hj (by omega))
 ·obtain ⟨g1,g2⟩:=r2.off b j hb hj (fun g=>hbt g.1)
  obtain ⟨g3,g4⟩:=h.off b j hb hj hbt
  exact ⟨g1.trans g3,g2.trans g4⟩
 ·rw [r2.same u (hu i hi)]
  exact h.rest u hu
 ·exact (r2.epoch u).trans (h.epoch u)
def PlR (E:Int) (M:List (List Int)) (n0:Nd) (t:Int) (S:ByteArray) (n:Nd) (a:Ap) (d:Nat):Prop :=
 ((a.at_≠6∧a.txt=S∧n=n0∧(n0.ans a.ask).code=40∧n0.done a.ask=n0∧SmQ a.ask∧a.ask.kind≠3∧a.ask.kind≠10)∧7≤d)∨
 ((a.at_=1∧a.txt=S∧n=n0)∧6≤d)∨
 ((a.at_=2∧a.txt=S∧a.ep=E∧a.L=M∧n=n0)∧5≤d)∨
 ((a.at_=3∧a.txt=S∧a.ep=E∧a.L=M∧a.addr=t∧a.i < lenG E M t∧PutN E M n0 t S n a.i)∧4≤d+a.i)∨
 (a.at_=6∧a.e=0∧a.addr=t∧PutN E M n0 t S n (lenG E M t))
theorem hear40 {a:Ap} {x:An} (h6:a.at_≠6) (hc:x.code=40):(a.hear x true).at_=1∧(a.hear x true).txt=a.txt:=by
 unfold Ap.hear
 rw [if_neg h6]
 simp only
 rw [if_neg (fun g=>g.elim Bool.noConfusion (by omega)),if_neg (by omega),if_pos hc]
 exact ⟨rfl,rfl⟩
theorem hear_lay {a:Ap} {x:An} (h1:a.at_=1) (hc:x.code=0) (hg:goodB x.pe x.L=true):(a.hear x true).at_=2∧(a.hear x true).txt=a.txt∧(a.hear x true).ep=x.pe∧(a.hear x true).L=x.L:=by
 unfold Ap.hear
 rw [if_neg (by omega)]
 simp only
 rw [if_neg (fun g=>g.elim Bool.noConfusion (by omega)),if_neg (by omega),if_neg (by omega),if_pos h1,if_pos ⟨hc,hg⟩]
 exact ⟨rfl,rfl,rfl,rfl⟩
theorem hear_tok {a:Ap} {x:An} (h2:a.at_=2) (hc:x.code=0) (hn:0≤x.n∧x.n < 16384):(a.hear x true).at_=3∧(a.hear x true).txt=a.txt∧(a.hear x true).ep=a.ep∧(a.hear x true).L=a.L∧(a.hear x true).addr=x.n∧(a.hear x true).i=0:=by
 unfold Ap.hear
 rw [if_neg (by omega)]
 simp only
 rw [if_neg (fun g=>g.elim Bool.noConfusion (by omega)),if_neg (by omega),if_neg (by omega),if_neg (by omega),if_neg (by omega),if_pos h2,if_pos ⟨hc,hn⟩]
 exact ⟨rfl,rfl,rfl,rfl,rfl,rfl⟩
section
variable {E:Int} {M:List (List Int)} {n0 n:Nd} {t:Int} {S:ByteArray} {a:Ap} {d:Nat}
theorem PlR.step (h0:PutR E M n0 t) (hS:S.size≤4096) (H:PlR E M n0 t S n a d) (h6:a.at_≠6) :
  PlR E M n0 t S (n.done a.ask) (a.hear (n.ans a.ask) true) (d - 1)∧1≤d∧SmQ a.ask∧a.ask.kind≠3∧a.ask.kind≠10:=by
 have z0:i64w 0:=z04 (by omega)
 have zs:(0:Nat)≤1000000:=by omega
 have hE:=(goodB_iff.1 h0.good).1
 have hlen:=z1b h0.ad.of
 have hat:=(ofB_iff.1 h0.ad.of).2
 rcases H with ⟨⟨p1,p2,p3,p4,p5,p6,p7,p8⟩,hd⟩ | ⟨⟨p1,p2,p3⟩,hd⟩ | ⟨⟨p1,p2,p3,p4,p5⟩,hd⟩ | ⟨⟨p1,p2,p3,p4,p5,p6,p7⟩,hd⟩ | ⟨p1,_⟩
 ·subst p3
  obtain ⟨g1,g2⟩:=hear40 p1 p4
  rw [p5]
  exact ⟨.inr (.inl ⟨⟨g1,g2.trans p2,rfl⟩,by omega⟩),by omega,p6,p7,p8⟩
 ·subst p3
  have ea:a.ask=layK:=by unfold Ap.ask;rw [if_pos (.inl p1)]
  obtain ⟨e1,e2⟩:=nd_lay n (a:=layK) ⟨of_decide_eq_true rfl,of_decide_eq_true rfl⟩
  have e3:n.l.done layK=n.l:=by
   unfold Ly.done
   rw [if_neg (by decide),if_neg (fun e=>absurd e.1 (by decide))]
  have e4:n.l.ans layK=⟨0,n.l.n,noL,n.l.ep,n.l.L,n.l.mark,n.l.size,0⟩:=by
   unfold Ly.ans
   rw [if_pos (by decide)]
  have ed:n.done layK=n:=by rw [e1,e3];rfl
  rw [ea,ed,e2,e4,h0.ep,h0.L]
  obtain ⟨g1,g2,g3,g4⟩:=hear_lay (a:=a) (x:=⟨0,n.l.n,noL,E,M,n.l.mark,n.l.size,0⟩) p1 rfl h0.good
  exact ⟨.inr (.inr (.inl ⟨⟨g1,g2.trans p2,g3,g4,rfl⟩,by omega⟩)),by omega,⟨z04 (x:=9) (by omega),z0,z0,z0,zs⟩,show (9:Int)≠3 by decide,show (9:Int)≠10 by decide⟩
 ·subst p5
  have ea:a.ask=nextK E:=by unfold Ap.ask;rw [if_neg (by omega),if_pos p1,p3]
  obtain ⟨e1,e2⟩:=nd_ord n (a:=nextK E) ⟨of_decide_eq_true rfl,of_decide_eq_true rfl⟩
  have e3:n.o.done (nextK E)=⟨E,t+1,true⟩:=by
   unfold Od.done
   rw [h0.o,if_neg (fun e=>absurd e.1 (show ¬ (6:Int)=8 by decide)),if_pos ⟨rfl,rfl,rfl,by show t≠16384;omega⟩]
  have e4:n.o.ans (nextK E)=anP 0 t noT E:=by
   unfold Od.ans
   rw [if_neg (show ¬ (nextK E).kind=8 from (by decide:¬ (6:Int)=8)),if_pos (show (nextK E).kind=6∨(nextK E).kind=7 from .inl rfl),h0.o,if_neg (fun e=>e rfl),if_neg (fun e=>Bool.noConfusion e),if_neg (show ¬ (nextK E).kind=7 from (by decide:¬ (6:Int)=7)),if_neg (by show ¬ t=16384;omega)]
  have eh:=hear_tok (a:=a) (x:=anP 0 t noT E) p1 rfl ⟨hat.1,hat.2⟩
  rw [ea,e1,e2,e3,e4]
  obtain ⟨g1,g2,g3,g4,g5,g6⟩:=eh
  refine ⟨.inr (.inr (.inr (.inl ⟨⟨g1,g2.trans p2,g3.trans p3,g4.trans p4,g5,by rw [g6];omega,?_⟩,by omega⟩))),by omega,⟨z04 (x:=6) (by omega),z0,z04 (by show -1000000000000≤E∧E≤1000000000000;omega),z0,zs⟩,show (6:Int)≠3 by decide,show (6:Int)≠10 by decide⟩
  rw [g6]
  exact h0.zero S
 ·have ea:a.ask=⟨1,(unG E M t a.i:Int),E,ofP E M t,0,0,S,0,[],none,0⟩:=by
   unfold Ap.ask
   rw [if_neg (by omega),if_neg (by omega),if_pos p1]
   unfold Ap.unitK
   rw [p3,p4,p5,p2,(unG_is h0.ad.of p6).1]
  have hk:AskH E M t a.i ⟨1,(unG E M t a.i:Int),E,ofP E M t,0,0,S,0,[],none,0⟩:=by
   obtain ⟨_,_,_,_,q1,q2,_⟩:=z12 h0.ad.of
   exact ⟨⟨.inl rfl,rfl,⟨by show 0≤ofP E M t;omega,h0.ad.page⟩,hS⟩,rfl,rfl⟩
  obtain ⟨r1,r2⟩:=p7.write h0.ad p6 hS hk rfl rfl
  have eh:a.hear (n.ans a.ask) true=(if a.i+1=(chainR a.ep a.L a.addr).length then { a with at_:=6,e:=0,i:=a.i+1,maybe:=true } else { a with at_:=3,i:=a.i+1,maybe:=true }):=by
   have hx:(n.ans a.ask).code=0:=by rw [ea];exact r1
   unfold Ap.hear
   rw [if_neg h6]
   simp only
   rw [if_neg (fun g=>g.elim Bool.noConfusion (by omega)),if_neg (by omega),if_neg (by omega),if_neg (by omega),if_neg (by omega),if_neg (by omega),if_pos p1,if_pos hx]
   unfold Ap.wrote
   simp only [hx,p1,decide_true,Bool.not_true,Bool.and_self,Bool.or_true]
  have el:(chainR a.ep a.L a.addr).length=lenG E M t:=by unfold lenG;rw [p3,p4,p5]
  rw [eh,ea,el]
  have hq:SmQ ⟨1,(unG E M t a.i:Int),E,ofP E M t,0,0,S,0,[],none,0⟩:=by
   have u16:=(unG_is h0.ad.of p6).2
   have pg:=hk.q.page
   exact ⟨z04 (x:=1) (by omega),z04 (by show -1000000000000≤(unG E M t a.i:Int)∧(unG E M t a.i:Int)≤1000000000000;omega),z04 (by show -1000000000000≤E∧E≤1000000000000;omega),z04 (by have:=pg;simp only at this;show -1000000000000≤ofP E M t∧ofP E M t≤1000000000000;omega),by show S.size≤1000000;omega⟩
  refine ⟨?_,by omega,hq,show (1:Int)≠3 by decide,show (1:Int)≠10 by decide⟩
  by_cases e:a.i+1=lenG E M t
  ·rw [if_pos e]
   exact .inr (.inr (.inr (.inr ⟨rfl,rfl,p5,e ▸ r2⟩)))
  ·rw [if_neg e]
   exact .inr (.inr (.inr (.inl ⟨⟨rfl,p2,p3,p4,p5,by show a.i+1 < _;omega,r2⟩,by show 4≤d - 1+(a.i+1);omega⟩)))
 ·exact absurd p1 h6
theorem PlR.l (H:PlR E M n0 t S n a d):n.l=n0.l:=by
 rcases H with ⟨⟨_,_,p,_⟩,_⟩ | ⟨⟨_,_,p⟩,_⟩ | ⟨⟨_,_,_,_,p⟩,_⟩ | ⟨⟨_,_,_,_,_,_,p⟩,_⟩ | ⟨_,_,_,p⟩
 ·rw [p]
 ·rw [p]
 ·rw [p]
 ·exact p.l
 ·exact p.l
def InvP (E:Int) (M:List (List Int)) (n0:Nd) (t:Int) (S:ByteArray) (k:Nat) (h:Hd) (a:Ap):Prop:=∃ d,PlR E M n0 t S h.n a d∧d+k≤60
theorem InvP.run (h0:PutR E M n0 t) (hS:S.size≤4096) (hu:n0.l.used.length≤100000):RunPut (InvP E M n0 t S):=by
 refine ⟨fun k h a H=>?_,fun k h a H=>?_,fun k h a H h6=>?_,fun k h a H h6=>?_⟩
 all_goals obtain ⟨d,h1,h2⟩:=H
 ·refine ⟨by omega,fun h6=>?_⟩
  have:=(h1.step h0 hS h6).2.1
  omega
 ·rw [h1.l]
  exact hu
 ·obtain ⟨_,_,g1,g2,g3⟩:=h1.step h0 hS h6
  exact ⟨g1,fewX_heard h a.ask 0 (by rw [h1.l,h0.ep,h0.L];exact h0.good) (fun e=>absurd e g2) (fun e=>absurd e g3)⟩
 ·obtain ⟨g1,g2,_⟩:=h1.step h0 hS h6
  have en:(h.asked a.ask 0).n=h.n.done a.ask:=by
   rcases asked_n h a.ask 0 with ⟨_,g⟩ | ⟨g,_⟩
   ·exact g
   ·exact absurd rfl g
  have eh:h.heard a.ask 0=h.n.ans a.ask:=if_pos rfl
  refine ⟨d - 1,?_,by omega⟩
  rw [en,eh]
  exact g1
theorem InvP.fresh (h0:PutR E M n0 t) (hS:S.size≤4096) {h:Hd} (hn:h.n=n0):InvP E M n0 t S 0 h (newAp E M S):=by
 refine ⟨5,.inr (.inr (.inl ⟨?_,Nat.le_refl _⟩)),by omega⟩
 unfold newAp
 rw [if_neg (by rw [h0.good];decide),if_neg (by omega)]
 exact ⟨rfl,rfl,rfl,rfl,hn⟩
theorem InvP.stale (h0:PutR E M n0 t) (hS:S.size≤4096) {e:Int} {L:List (List Int)} (hg:goodB e L=true) (he:e≠E) {h:Hd} (hn:h.n=n0):InvP E M n0 t S 0 h (newAp e L S):=by
 have hx:=(goodB_iff.1 hg).1
 have z0:i64w 0:=z04 (by omega)
 refine ⟨7,.inl ⟨?_,Nat.le_refl _⟩,by omega⟩
 have en:newAp e L S=⟨e,L,S,2,0,0,0,false,0⟩:=by
  unfold newAp
  rw [if_neg (by rw [hg];decide),if_neg (by omega)]
 rw [en]
 have ea:(⟨e,L,S,2,0,0,0,false,0⟩:Ap).ask=nextK e:=rfl
 obtain ⟨e1,e2⟩:=nd_ord n0 (a:=nextK e) ⟨of_decide_eq_true rfl,of_decide_eq_true rfl⟩
 have e3:n0.o.done (nextK e)=n0.o:=by
  unfold Od.done
  rw [h0.o,if_neg (fun g=>absurd g.1 (show ¬ (6:Int)=8 by decide)),if_neg (fun g=>he g.2.1)]
 have e4:(n0.o.ans (nextK e)).code=40:=by
  unfold Od.ans
  rw [if_neg (show ¬ (nextK e).kind=8 from (by decide:¬ (6:Int)=8)),if_pos (show (nextK e).kind=6∨(nextK e).kind=7 from .inl rfl),h0.o,if_pos (show (nextK e).epoch≠E from he)]
  rfl
 rw [ea,e1,e2,e3]
 exact ⟨show (2:Int)≠6 by decide,rfl,hn,e4,rfl,⟨z04 (x:=6) (by omega),z0,z04 (by show -1000000000000≤e∧e≤1000000000000;omega),z0,Nat.zero_le _⟩,show (6:Int)≠3 by decide,show (6:Int)≠10 by decide⟩
theorem InvP.over {k:Nat} {h:Hd} (H:InvP E M n0 t S k h a) (h6:a.at_=6):a.e=0∧a.addr=t∧PutN E M n0 t S h.n (lenG E M t):=by
 obtain ⟨d,H,_⟩:=H
 rcases H with ⟨⟨p,_⟩,_⟩ | ⟨⟨p,_⟩,_⟩ | ⟨⟨p,_⟩,_⟩ | ⟨⟨p,_⟩,_⟩ | ⟨_,p⟩
 ·exact absurd h6 p
 all_goals first | omega | exact p
end
theorem putRec_any {UG:Nat→Nat→(Nat→Prop)→World→Us→Prop} {OG:Nat→(Nat→Prop)→World→Od→Prop} {LG:Nat→(Nat→Prop)→World→Ly→Prop} {NG:Nat→(Nat→Prop)→World→Nd→Prop} {HG:Nat→Nat→(Nat→Prop)→World→Hd→Prop} {AG:Nat→(Nat→Prop)→World→Ap→Prop} (HS:HandSays UG OG LG NG HG) (AS:AppSays AG)
  (b nb:Nat) (X:Nat→Prop) (w:World) (h0:Hd) (hs:Solo (HG b nb) X w h0) (E:Int) (M:List (List Int)) (t:Int) (hR:PutR E M h0.n t) (hu:h0.n.l.used.length≤100000) (ep:Int) (L:List (List Int)) (hL:(ep=E∧L=M)∨(ep≠E∧goodB ep L=true)) (S:ByteArray) (hS:S.size≤4096)
  (ao:Option Addr) (cap:Nat) (hC:CL w ao L) (hn:ao=none→cap=0) (hc:L.length≤cap) :
  Calls Tryz.prog 26 #[.pointer (some ⟨b,0,none⟩),.agg #[.int .i64 ep,.slice ao L.length cap],.string S] w fun e w'=>e=.returned (.int .i64 t)∧∃ h':Hd,PutN E M h0.n t S h'.n (lenG E M t)∧Solo (HG b nb) X w' h'∧Kept X w w':=by
 have hg:goodB ep L=true:=by
  rcases hL with ⟨rfl,rfl⟩ | ⟨_,g⟩
  ·exact hR.good
  ·exact g
 refine (put_run HS AS b nb X w h0 hs ep (z16 hg).2 L (z16 hg).1 S (by omega) ao cap hC hn hc (InvP E M h0.n t S) (InvP.run hR hS hu) ?_).mono ?_
 ·rcases hL with ⟨rfl,rfl⟩ | ⟨g1,g2⟩
  ·exact InvP.fresh hR hS rfl
  ·exact InvP.stale hR hS g2 g1 rfl
 ·rintro e w' ⟨k,h',a',H,h6,he,h7,h8⟩
  obtain ⟨g1,g2,g3⟩:=H.over h6
  rw [if_pos g1,g2] at he
  exact ⟨he,h',g3,h7,h8⟩
structure ChgN (n0:Nd) (qe:Int) (qL:List (List Int)) (K:List (Int × Int)) (n:Nd):Prop where
 same:Same n0 n qe
 l:n.l=chgL n0.l qe qL
 o:n.o=⟨qe,tailR n0.l.ep n0.l.L K,true⟩
 closed:∀ u ∈ unitsR n0.l.L,Closed n qe qL u
 tails:Tails n0 K (unitsR n0.l.L).length
theorem InvR.over {n0:Nd} {qe:Int} {qL:List (List Int)} {nf k:Nat} {h:Hd} {r:Rf} (H:InvR n0 qe qL nf k h r) (h5:r.at_=5):r.e=0∧ChgN n0 qe qL r.tails h.n:=by
 obtain ⟨H,_⟩:=H
 obtain ⟨e1,e2⟩:=H.five h5
 obtain ⟨o1,o2⟩:=H.old (by omega)
 have ht:=H.tails (by omega)
 rw [if_neg (by omega)] at ht
 refine ⟨e1,H.same,H.four (by omega),by rw [e2,o1,o2],fun u hu=>?_,ht⟩
 obtain ⟨j,hj,rfl⟩:=List.getElem_of_mem hu
 exact H.closed j hj (.inr (by omega))
theorem chg_any {UG:Nat→Nat→(Nat→Prop)→World→Us→Prop} {OG:Nat→(Nat→Prop)→World→Od→Prop} {LG:Nat→(Nat→Prop)→World→Ly→Prop} {NG:Nat→(Nat→Prop)→World→Nd→Prop} {HG:Nat→Nat→(Nat→Prop)→World→Hd→Prop} {RG:Nat→(Nat→Prop)→World→Rf→Prop} (HS:HandSays UG OG LG NG HG) (RS:RfmSays RG)
  (b nb:Nat) (X:Nat→Prop) (w:World) (h0:Hd) (hs:Solo (HG b nb) X w h0) (qe:Int) (qL:List (List Int)) (hR0:Ready h0.n qe qL) (hu:h0.n.l.used.length≤1000)
  (ao:Option Addr) (cap:Nat) (hC:CL w ao qL) (hn:ao=none→cap=0) (hc:qL.length≤cap) (fo:Option Addr) (fc:Nat) (fl:List Int) (hl:fl.length≤60) (hR:∀ W,Kept X w W→Row W fo 1 byteC fl) (hK:∀ x ∈ fl,0≤x∧x < 256) :
  Calls Tryz.prog 32 #[.pointer (some ⟨b,0,none⟩),.agg #[.int .i64 qe,.slice ao qL.length cap],.slice fo fl.length fc] w fun e w'=>e=.returned (.tuple #[.int .i64 0,.bool true])∧∃ (h':Hd) (K:List (Int × Int)),ChgN h0.n qe qL K h'.n∧Solo (HG b nb) X w' h'∧Kept X w w':=by
 have hg:goodB qe qL=true:=(nextB_iff.1 hR0.next.1).2.1
 refine (chg_run HS RS b nb X w h0 hs qe (z16 hg).2 qL (z16 hg).1 ao cap hC hn hc fo fc fl hl hR hK (InvR h0.n qe qL fl.length) (InvR.run hR0 hu fl.length) (InvR.start hR0 rfl fl.length)).mono ?_
 rintro e w' ⟨k,h',r',H,h5,he,h7,h8⟩
 obtain ⟨g1,g2⟩:=H.over h5
 rw [g1] at he
 exact ⟨he,h',r'.tails,g2,h7,h8⟩
end Go.Proofs.YtkefpbcifcjibaaGreat
