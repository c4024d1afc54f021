/- Joined texts. -/
import Derived.WalkMore
import Derived.ScopeJumps
import Derived.Test.YtkefpbcifcjibaaGreatG26a
import Derived.Test.YtkefpbcifcjibaaGreatG17a
import Derived.Test.YtkefpbcifcjibaaGreatH00
set_option linter.unusedVariables false
set_option maxRecDepth 20000
set_option maxHeartbeats 16000000
namespace Go.Proofs.YtkefpbcifcjibaaGreat
open Go.RowKit
theorem z0i {W:World} {b g:Nat} {t u:TypeId} {v0 v1 v2 v3 v4 v5 v6 v7 v8 x0 x1 x2 x3 x4 x5 x6 x7:Value} {C:Prop} (h:C∧W.heap[b]?=some (.cells #[v0,v1,v2,v3,v4,v5,v6,v7,v8] t (0,0))∧W.heap[g]?=some (.cells #[x0,x1,x2,x3,x4,x5,x6,x7] u (0,0))) :
  W.cell? ⟨b,0,none⟩=some v0∧W.cell? ⟨b,1,none⟩=some v1∧W.cell? ⟨g,1,none⟩=some x1:=⟨z02 h.2.1 0,z02 h.2.1 1,z02 h.2.2 1⟩
theorem tok_yes (b:Nat) (G:Nat→Prop) (w:World) (q:Qa) (xc xn:Int) (xd:ByteArray) (xe:Int) (xL:List (List Int)) (xm xs xy:Int) (xo:Option Addr) (xp:Nat) (h:AQ b G w q) (ha:q.at_=2) (hf:fewL q.L) (ho:ofB q.ep q.L xn=true) :
  Calls Tryz.prog 76 #[ptrP b,.agg #[.int .i64 0,.int .i64 xn,.string xd,.int .i64 xe,.slice xo xL.length xp,.int .i64 xm,.int .i64 xs,.int .i64 xy]] w fun e w'=>e=.returned (.tuple #[])∧Leaves (AQ b) G w w' (q.told xn):=by
 obtain ⟨HG,HB,HX,HA,⟨x0,x1,x2,x3,x4,x5,x6,x7⟩,ao,cap,⟨c0,c1,c2,c3,c4,c5,c6,c7,c8⟩,⟨f0,f1,f2,f3,f4,f5,f6,f7,f8⟩,hb,HC1,H1,H3⟩:=z0f h 0 xn xd xe xo xL.length xp xm xs xy rfl
 have CO:=Lh (fun W (hC:CL W ao q.L)=>pOf_any q.ep ao cap q.L xn W hC hf)
 unfold ofV at CO
 rw [ho] at CO
 generalize ofC q.ep q.L xn=oc at *
 generalize ofP q.ep q.L xn=op at *
 rw [ha] at c3
 clear h hf ho
 unfold ptrP at *
 go_enter Tryz.func76,Tryz.ntmps76
 go_wp2_with fail
 generalize w.alloc _=w1 at *
 refine z06 0 rfl ?_
 generalize hQ:Exit.jump _ _ _=QJ
 go_wp2_with fail
 have HK:=Lh (fun W (hb:Below w1.heap.size w1 W)=>And.intro (HC1.out.below hb) (And.intro (z01 hb H1.out) (z01 hb HX.out)))
 have hs1:w.heap.size < w1.heap.size:=lt_of_block HX.out
 go_region_held3 (fun W=>W.cell? ⟨b,0,none⟩=some (.int .i64 q.ep)∧W.cell? ⟨b,1,none⟩=some (.slice ao q.L.length cap)∧W.cell? ⟨w.heap.size,1,none⟩=some (.int .i64 xn))
  (first | exact ⟨c0,c1,x1⟩ | assumption | exact z0i HW2.out | exact z0i (HK.out _ ((HB2.out.setCell (by simp) _).setCell (by simp) _)) | exact z0i (HK.out _ (HB2.out.alloc HB2.out.size _)) | exact z0i (HK.out _ (z00 w1 _).drew) | exact z0i (HK.out _ (z00 w1 _)) | exact z0i (HK.out _ (Below.refl _ w1).drew))
  (first | (go_at_call 100;refine (CO.out _ (HK.out _ (by first | exact (Below.refl _ _).drew | exact (z00 _ _).drew)).1).mono ?_;rintro e w2 ⟨rfl,hb2⟩;have HB2:=Lh (z0c (w1:=w1) hb2 (by first | exact (Below.refl _ _).drew | exact (z00 _ _).drew));have HW2:=Lh (HK.out _ HB2.out);first | (have hZ:=zero_place (w1:=w1) hb2;obtain ⟨p0,p1,g0,g1,hpl⟩:=hZ) | skip))
 all_goals
  first
   | (have HB3:=Lh ((HB2.out.setCell (p:=⟨w1.heap.size,0,none⟩) (Nat.le_refl _) (.int .i64 oc)).setCell (p:=⟨w1.heap.size,1,none⟩) (Nat.le_refl _) (.int .i64 op));clear p0 p1 g0 g1;generalize (w2.setCell _ _).setCell _ _=w3 at *)
   | (have HB3:=Lh (HB2.out.alloc HB2.out.size (.cells #[.int .i64 oc,.int .i64 op] 150));generalize w2.alloc _=w3 at *)
  obtain ⟨HB4,HA3,HX3,⟨x0,x1,x2,x3,x4,x5,x6,x7⟩,ao3,cap3,⟨d0,d1,d2,d3,d4,d5,d6,d7,d8⟩,⟨f0,f1,f2,f3,f4,f5,f6,f7,f8⟩,hb3,R1,R3⟩:=z0w HB HA HX HB3.out
  clear c0 c1 c2 c3 c4 c5 c6 c7 c8
  go_wp2_with fail
  go_step3
  show QJ (.goto 0) _ _
  rw [← hQ]
  refine z0h ?_
  go_wp2_with fail
  rw [Exit.noGoto_ret]
  exact bodyPost_ret (results_none rfl _ _ _) rfl ⟨rfl,(R3.out _ (q.told xn) ((((Kept.refl _ w3).setCell (p:=⟨b,5,none⟩) (fun h=>h rfl) _).setCell (p:=⟨b,6,none⟩) (fun h=>h rfl) _).setCell (p:=⟨b,3,none⟩) (fun h=>h rfl) _) rfl (nset3 (nset6 (nset5 R1.out _) _) _)).ahead HG.out HB4.out⟩
theorem tok_full_ty (b:Nat) (G:Nat→Prop) (w:World) (q:Qa) (xc xn:Int) (xd:ByteArray) (xe:Int) (xL:List (List Int)) (xm xs xy:Int) (xo:Option Addr) (xp:Nat) (h:AQ b G w q) (ha:q.at_=2) (hf:fewL q.L) (ho:ofB q.ep q.L xn=true) (hm:q.may=true) :
  Calls Tryz.prog 76 #[ptrP b,.agg #[.int .i64 44,.int .i64 xn,.string xd,.int .i64 xe,.slice xo xL.length xp,.int .i64 xm,.int .i64 xs,.int .i64 xy]] w fun e w'=>e=.returned (.tuple #[])∧Leaves (AQ b) G w w' (q.ends 0 69):=by
 obtain ⟨HG,HB,HX,HA,⟨x0,x1,x2,x3,x4,x5,x6,x7⟩,ao,cap,⟨c0,c1,c2,c3,c4,c5,c6,c7,c8⟩,⟨f0,f1,f2,f3,f4,f5,f6,f7,f8⟩,hb,HC1,H1,H3⟩:=z0f h 44 xn xd xe xo xL.length xp xm xs xy rfl
 have CO:=Lh (fun W (hC:CL W ao q.L)=>pOf_any q.ep ao cap q.L xn W hC hf)
 unfold ofV at CO
 rw [ho] at CO
 generalize ofC q.ep q.L xn=oc at *
 generalize ofP q.ep q.L xn=op at *
 rw [ha] at c3
 clear h hf ho
 unfold ptrP at *
 go_enter Tryz.func76,Tryz.ntmps76
 go_wp2_with fail
 generalize w.alloc _=w1 at *
 refine z06 1 rfl ?_
 generalize hQ:Exit.jump _ _ _=QJ
 go_wp2_with fail
 have HK:=Lh (fun W (hb:Below w1.heap.size w1 W)=>And.intro (HC1.out.below hb) (And.intro (z01 hb H1.out) (z01 hb HX.out)))
 have hs1:w.heap.size < w1.heap.size:=lt_of_block HX.out
 go_region_held3 (fun W=>W.cell? ⟨b,0,none⟩=some (.int .i64 q.ep)∧W.cell? ⟨b,1,none⟩=some (.slice ao q.L.length cap)∧W.cell? ⟨w.heap.size,1,none⟩=some (.int .i64 xn))
  (first | exact ⟨c0,c1,x1⟩ | assumption | exact z0i HW2.out | exact z0i (HK.out _ ((HB2.out.setCell (by simp) _).setCell (by simp) _)) | exact z0i (HK.out _ (HB2.out.alloc HB2.out.size _)) | exact z0i (HK.out _ (z00 w1 _).drew) | exact z0i (HK.out _ (z00 w1 _)) | exact z0i (HK.out _ (Below.refl _ w1).drew))
  (first | (go_at_call 100;refine (CO.out _ (HK.out _ (by first | exact (Below.refl _ _).drew | exact (z00 _ _).drew)).1).mono ?_;rintro e w2 ⟨rfl,hb2⟩;have HB2:=Lh (z0c (w1:=w1) hb2 (by first | exact (Below.refl _ _).drew | exact (z00 _ _).drew));have HW2:=Lh (HK.out _ HB2.out);first | (have hZ:=zero_place (w1:=w1) hb2;obtain ⟨p0,p1,g0,g1,hpl⟩:=hZ) | skip))
 all_goals
  first
   | (have HB3:=Lh ((HB2.out.setCell (p:=⟨w1.heap.size,0,none⟩) (Nat.le_refl _) (.int .i64 oc)).setCell (p:=⟨w1.heap.size,1,none⟩) (Nat.le_refl _) (.int .i64 op));clear p0 p1 g0 g1;generalize (w2.setCell _ _).setCell _ _=w3 at *)
   | (have HB3:=Lh (HB2.out.alloc HB2.out.size (.cells #[.int .i64 oc,.int .i64 op] 150));generalize w2.alloc _=w3 at *)
  obtain ⟨HB4,HA3,HX3,⟨x0,x1,x2,x3,x4,x5,x6,x7⟩,ao3,cap3,⟨d0,d1,d2,d3,d4,d5,d6,d7,d8⟩,⟨f0,f1,f2,f3,f4,f5,f6,f7,f8⟩,hb3,R1,R3⟩:=z0w HB HA HX HB3.out
  clear c0 c1 c2 c3 c4 c5 c6 c7 c8
  rw [hm] at d7
  go_wp2_with fail
  go_step3
  show QJ (.goto 1) _ _
  rw [← hQ]
  refine z0h ?_
  go_wp2_with fail
  go_step3
  go_wp2_with (go_at_call 70;refine (ap_end b _ _ q 0 69 HA3.out).mono ?_;rintro e w9 ⟨rfl,hl⟩;have HL:=Lh hl;clear hl)
  rw [z0b]
  go_end0
  exact ⟨rfl,HL.out.ahead HG.out HB4.out⟩
theorem tok_full_fy (b:Nat) (G:Nat→Prop) (w:World) (q:Qa) (xc xn:Int) (xd:ByteArray) (xe:Int) (xL:List (List Int)) (xm xs xy:Int) (xo:Option Addr) (xp:Nat) (h:AQ b G w q) (ha:q.at_=2) (hf:fewL q.L) (ho:ofB q.ep q.L xn=true) (hm:q.may=false) :
  Calls Tryz.prog 76 #[ptrP b,.agg #[.int .i64 44,.int .i64 xn,.string xd,.int .i64 xe,.slice xo xL.length xp,.int .i64 xm,.int .i64 xs,.int .i64 xy]] w fun e w'=>e=.returned (.tuple #[])∧Leaves (AQ b) G w w' (q.ends 0 44):=by
 obtain ⟨HG,HB,HX,HA,⟨x0,x1,x2,x3,x4,x5,x6,x7⟩,ao,cap,⟨c0,c1,c2,c3,c4,c5,c6,c7,c8⟩,⟨f0,f1,f2,f3,f4,f5,f6,f7,f8⟩,hb,HC1,H1,H3⟩:=z0f h 44 xn xd xe xo xL.length xp xm xs xy rfl
 have CO:=Lh (fun W (hC:CL W ao q.L)=>pOf_any q.ep ao cap q.L xn W hC hf)
 unfold ofV at CO
 rw [ho] at CO
 generalize ofC q.ep q.L xn=oc at *
 generalize ofP q.ep q.L xn=op at *
 rw [ha] at c3
 clear h hf ho
 unfold ptrP at *
 go_enter Tryz.func76,Tryz.ntmps76
 go_wp2_with fail
 generalize w.alloc _=w1 at *
 refine z06 1 rfl ?_
 generalize hQ:Exit.jump _ _ _=QJ
 go_wp2_with fail
 have HK:=Lh (fun W (hb:Below w1.heap.size w1 W)=>And.intro (HC1.out.below hb) (And.intro (z01 hb H1.out) (z01 hb HX.out)))
 have hs1:w.heap.size < w1.heap.size:=lt_of_block HX.out
 go_region_held3 (fun W=>W.cell? ⟨b,0,none⟩=some (.int .i64 q.ep)∧W.cell? ⟨b,1,none⟩=some (.slice ao q.L.length cap)∧W.cell? ⟨w.heap.size,1,none⟩=some (.int .i64 xn))
  (first | exact ⟨c0,c1,x1⟩ | assumption | exact z0i HW2.out | exact z0i (HK.out _ ((HB2.out.setCell (by simp) _).setCell (by simp) _)) | exact z0i (HK.out _ (HB2.out.alloc HB2.out.size _)) | exact z0i (HK.out _ (z00 w1 _).drew) | exact z0i (HK.out _ (z00 w1 _)) | exact z0i (HK.out _ (Below.refl _ w1).drew))
  (first | (go_at_call 100;refine (CO.out _ (HK.out _ (by first | exact (Below.refl _ _).drew | exact (z00 _ _).drew)).1).mono ?_;rintro e w2 ⟨rfl,hb2⟩;have HB2:=Lh (z0c (w1:=w1) hb2 (by first | exact (Below.refl _ _).drew | exact (z00 _ _).drew));have HW2:=Lh (HK.out _ HB2.out);first | (have hZ:=zero_place (w1:=w1) hb2;obtain ⟨p0,p1,g0,g1,hpl⟩:=hZ) | skip))
 all_goals
  first
   | (have HB3:=Lh ((HB2.out.setCell (p:=⟨w1.heap.size,0,none⟩) (Nat.le_refl _) (.int .i64 oc)).setCell (p:=⟨w1.heap.size,1,none⟩) (Nat.le_refl _) (.int .i64 op));clear p0 p1 g0 g1;generalize (w2.setCell _ _).setCell _ _=w3 at *)
   | (have HB3:=Lh (HB2.out.alloc HB2.out.size (.cells #[.int .i64 oc,.int .i64 op] 150));generalize w2.alloc _=w3 at *)
  obtain ⟨HB4,HA3,HX3,⟨x0,x1,x2,x3,x4,x5,x6,x7⟩,ao3,cap3,⟨d0,d1,d2,d3,d4,d5,d6,d7,d8⟩,⟨f0,f1,f2,f3,f4,f5,f6,f7,f8⟩,hb3,R1,R3⟩:=z0w HB HA HX HB3.out
  clear c0 c1 c2 c3 c4 c5 c6 c7 c8
  rw [hm] at d7
  go_wp2_with fail
  go_step3
  show QJ (.goto 1) _ _
  rw [← hQ]
  refine z0h ?_
  go_wp2_with fail
  go_step3
  go_wp2_with (go_at_call 70;refine (ap_end b _ _ q 0 44 HA3.out).mono ?_;rintro e w9 ⟨rfl,hl⟩;have HL:=Lh hl;clear hl)
  rw [z0b]
  go_end0
  exact ⟨rfl,HL.out.ahead HG.out HB4.out⟩
theorem tok_full_tn (b:Nat) (G:Nat→Prop) (w:World) (q:Qa) (xc xn:Int) (xd:ByteArray) (xe:Int) (xL:List (List Int)) (xm xs xy:Int) (xo:Option Addr) (xp:Nat) (h:AQ b G w q) (ha:q.at_=2) (hf:fewL q.L) (ho:ofB q.ep q.L xn=false) (hm:q.may=true) :
  Calls Tryz.prog 76 #[ptrP b,.agg #[.int .i64 44,.int .i64 xn,.string xd,.int .i64 xe,.slice xo xL.length xp,.int .i64 xm,.int .i64 xs,.int .i64 xy]] w fun e w'=>e=.returned (.tuple #[])∧Leaves (AQ b) G w w' (q.ends 0 69):=by
 obtain ⟨HG,HB,HX,HA,⟨x0,x1,x2,x3,x4,x5,x6,x7⟩,ao,cap,⟨c0,c1,c2,c3,c4,c5,c6,c7,c8⟩,⟨f0,f1,f2,f3,f4,f5,f6,f7,f8⟩,hb,HC1,H1,H3⟩:=z0f h 44 xn xd xe xo xL.length xp xm xs xy rfl
 have CO:=Lh (fun W (hC:CL W ao q.L)=>pOf_any q.ep ao cap q.L xn W hC hf)
 unfold ofV at CO
 rw [ho] at CO
 generalize ofC q.ep q.L xn=oc at *
 generalize ofP q.ep q.L xn=op at *
 rw [ha] at c3
 clear h hf ho
 unfold ptrP at *
 go_enter Tryz.func76,Tryz.ntmps76
 go_wp2_with fail
 generalize w.alloc _=w1 at *
 refine z06 1 rfl ?_
 generalize hQ:Exit.jump _ _ _=QJ
 go_wp2_with fail
 have HK:=Lh (fun W (hb:Below w1.heap.size w1 W)=>And.intro (HC1.out.below hb) (And.intro (z01 hb H1.out) (z01 hb HX.out)))
 have hs1:w.heap.size < w1.heap.size:=lt_of_block HX.out
 go_region_held3 (fun W=>W.cell? ⟨b,0,none⟩=some (.int .i64 q.ep)∧W.cell? ⟨b,1,none⟩=some (.slice ao q.L.length cap)∧W.cell? ⟨w.heap.size,1,none⟩=some (.int .i64 xn))
  (first | exact ⟨c0,c1,x1⟩ | assumption | exact z0i HW2.out | exact z0i (HK.out _ ((HB2.out.setCell (by simp) _).setCell (by simp) _)) | exact z0i (HK.out _ (HB2.out.alloc HB2.out.size _)) | exact z0i (HK.out _ (z00 w1 _).drew) | exact z0i (HK.out _ (z00 w1 _)) | exact z0i (HK.out _ (Below.refl _ w1).drew))
  (first | (go_at_call 100;refine (CO.out _ (HK.out _ (by first | exact (Below.refl _ _).drew | exact (z00 _ _).drew)).1).mono ?_;rintro e w2 ⟨rfl,hb2⟩;have HB2:=Lh (z0c (w1:=w1) hb2 (by first | exact (Below.refl _ _).drew | exact (z00 _ _).drew));have HW2:=Lh (HK.out _ HB2.out);first | (have hZ:=zero_place (w1:=w1) hb2;obtain ⟨p0,p1,g0,g1,hpl⟩:=hZ) | skip))
 all_goals
  first
   | (have HB3:=Lh ((HB2.out.setCell (p:=⟨w1.heap.size,0,none⟩) (Nat.le_refl _) (.int .i64 oc)).setCell (p:=⟨w1.heap.size,1,none⟩) (Nat.le_refl _) (.int .i64 op));clear p0 p1 g0 g1;generalize (w2.setCell _ _).setCell _ _=w3 at *)
   | (have HB3:=Lh (HB2.out.alloc HB2.out.size (.cells #[.int .i64 oc,.int .i64 op] 150));generalize w2.alloc _=w3 at *)
  obtain ⟨HB4,HA3,HX3,⟨x0,x1,x2,x3,x4,x5,x6,x7⟩,ao3,cap3,⟨d0,d1,d2,d3,d4,d5,d6,d7,d8⟩,⟨f0,f1,f2,f3,f4,f5,f6,f7,f8⟩,hb3,R1,R3⟩:=z0w HB HA HX HB3.out
  clear c0 c1 c2 c3 c4 c5 c6 c7 c8
  rw [hm] at d7
  go_wp2_with fail
  go_step3
  show QJ (.goto 1) _ _
  rw [← hQ]
  refine z0h ?_
  go_wp2_with fail
  go_step3
  go_wp2_with (go_at_call 70;refine (ap_end b _ _ q 0 69 HA3.out).mono ?_;rintro e w9 ⟨rfl,hl⟩;have HL:=Lh hl;clear hl)
  rw [z0b]
  go_end0
  exact ⟨rfl,HL.out.ahead HG.out HB4.out⟩
theorem tok_full_fn (b:Nat) (G:Nat→Prop) (w:World) (q:Qa) (xc xn:Int) (xd:ByteArray) (xe:Int) (xL:List (List Int)) (xm xs xy:Int) (xo:Option Addr) (xp:Nat) (h:AQ b G w q) (ha:q.at_=2) (hf:fewL q.L) (ho:ofB q.ep q.L xn=false) (hm:q.may=false) :
  Calls Tryz.prog 76 #[ptrP b,.agg #[.int .i64 44,.int .i64 xn,.string xd,.int .i64 xe,.slice xo xL.length xp,.int .i64 xm,.int .i64 xs,.int .i64 xy]] w fun e w'=>e=.returned (.tuple #[])∧Leaves (AQ b) G w w' (q.ends 0 44):=by
 obtain ⟨HG,HB,HX,HA,⟨x0,x1,x2,x3,x4,x5,x6,x7⟩,ao,cap,⟨c0,c1,c2,c3,c4,c5,c6,c7,c8⟩,⟨f0,f1,f2,f3,f4,f5,f6,f7,f8⟩,hb,HC1,H1,H3⟩:=z0f h 44 xn xd xe xo xL.length xp xm xs xy rfl
 have CO:=Lh (fun W (hC:CL W ao q.L)=>pOf_any q.ep ao cap q.L xn W hC hf)
 unfold ofV at CO
 rw [ho] at CO
 generalize ofC q.ep q.L xn=oc at *
 generalize ofP q.ep q.L xn=op at *
 rw [ha] at c3
 clear h hf ho
 unfold ptrP at *
 go_enter Tryz.func76,Tryz.ntmps76
 go_wp2_with fail
 generalize w.alloc _=w1 at *
 refine z06 1 rfl ?_
 generalize hQ:Exit.jump _ _ _=QJ
 go_wp2_with fail
 have HK:=Lh (fun W (hb:Below w1.heap.size w1 W)=>And.intro (HC1.out.below hb) (And.intro (z01 hb H1.out) (z01 hb HX.out)))
 have hs1:w.heap.size < w1.heap.size:=lt_of_block HX.out
 go_region_held3 (fun W=>W.cell? ⟨b,0,none⟩=some (.int .i64 q.ep)∧W.cell? ⟨b,1,none⟩=some (.slice ao q.L.length cap)∧W.cell? ⟨w.heap.size,1,none⟩=some (.int .i64 xn))
  (first | exact ⟨c0,c1,x1⟩ | assumption | exact z0i HW2.out | exact z0i (HK.out _ ((HB2.out.setCell (by simp) _).setCell (by simp) _)) | exact z0i (HK.out _ (HB2.out.alloc HB2.out.size _)) | exact z0i (HK.out _ (z00 w1 _).drew) | exact z0i (HK.out _ (z00 w1 _)) | exact z0i (HK.out _ (Below.refl _ w1).drew))
  (first | (go_at_call 100;refine (CO.out _ (HK.out _ (by first | exact (Below.refl _ _).drew | exact (z00 _ _).drew)).1).mono ?_;rintro e w2 ⟨rfl,hb2⟩;have HB2:=Lh (z0c (w1:=w1) hb2 (by first | exact (Below.refl _ _).drew | exact (z00 _ _).drew));have HW2:=Lh (HK.out _ HB2.out);first | (have hZ:=zero_place (w1:=w1) hb2;obtain ⟨p0,p1,g0,g1,hpl⟩:=hZ) | skip))
 all_goals
  first
   | (have HB3:=Lh ((HB2.out.setCell (p:=⟨w1.heap.size,0,none⟩) (Nat.le_refl _) (.int .i64 oc)).setCell (p:=⟨w1.heap.size,1,none⟩) (Nat.le_refl _) (.int .i64 op));clear p0 p1 g0 g1;generalize (w2.setCell _ _).setCell _ _=w3 at *)
   | (have HB3:=Lh (HB2.out.alloc HB2.out.size (.cells #[.int .i64 oc,.int .i64 op] 150));generalize w2.alloc _=w3 at *)
  obtain ⟨HB4,HA3,HX3,⟨x0,x1,x2,x3,x4,x5,x6,x7⟩,ao3,cap3,⟨d0,d1,d2,d3,d4,d5,d6,d7,d8⟩,⟨f0,f1,f2,f3,f4,f5,f6,f7,f8⟩,hb3,R1,R3⟩:=z0w HB HA HX HB3.out
  clear c0 c1 c2 c3 c4 c5 c6 c7 c8
  rw [hm] at d7
  go_wp2_with fail
  go_step3
  show QJ (.goto 1) _ _
  rw [← hQ]
  refine z0h ?_
  go_wp2_with fail
  go_step3
  go_wp2_with (go_at_call 70;refine (ap_end b _ _ q 0 44 HA3.out).mono ?_;rintro e w9 ⟨rfl,hl⟩;have HL:=Lh hl;clear hl)
  rw [z0b]
  go_end0
  exact ⟨rfl,HL.out.ahead HG.out HB4.out⟩
theorem tok_again_y (b:Nat) (G:Nat→Prop) (w:World) (q:Qa) (xc xn:Int) (xd:ByteArray) (xe:Int) (xL:List (List Int)) (xm xs xy:Int) (xo:Option Addr) (xp:Nat) (h:AQ b G w q) (ha:q.at_=2) (hf:fewL q.L) (ho:ofB q.ep q.L xn=true) (n0:¬ xc=0) (n44:¬ xc=44) :
  Calls Tryz.prog 76 #[ptrP b,.agg #[.int .i64 xc,.int .i64 xn,.string xd,.int .i64 xe,.slice xo xL.length xp,.int .i64 xm,.int .i64 xs,.int .i64 xy]] w fun e w'=>e=.returned (.tuple #[])∧Leaves (AQ b) G w w' (q.to 2):=by
 obtain ⟨HG,HB,HX,HA,⟨x0,x1,x2,x3,x4,x5,x6,x7⟩,ao,cap,⟨c0,c1,c2,c3,c4,c5,c6,c7,c8⟩,⟨f0,f1,f2,f3,f4,f5,f6,f7,f8⟩,hb,HC1,H1,H3⟩:=z0f h xc xn xd xe xo xL.length xp xm xs xy rfl
 have CO:=Lh (fun W (hC:CL W ao q.L)=>pOf_any q.ep ao cap q.L xn W hC hf)
 unfold ofV at CO
 rw [ho] at CO
 generalize ofC q.ep q.L xn=oc at *
 generalize ofP q.ep q.L xn=op at *
 rw [ha] at c3
 have e0:(xc == 0)=false:=by simpa using n0
 have e44:(xc == 44)=false:=by simpa using n44
 clear h hf ho
 unfold ptrP at *
 go_enter Tryz.func76,Tryz.ntmps76
 go_wp2_with fail
 generalize w.alloc _=w1 at *
 refine z06 2 rfl ?_
 generalize hQ:Exit.jump _ _ _=QJ
 go_wp2_with fail
 have HK:=Lh (fun W (hb:Below w1.heap.size w1 W)=>And.intro (HC1.out.below hb) (And.intro (z01 hb H1.out) (z01 hb HX.out)))
 have hs1:w.heap.size < w1.heap.size:=lt_of_block HX.out
 go_region_held3 (fun W=>W.cell? ⟨b,0,none⟩=some (.int .i64 q.ep)∧W.cell? ⟨b,1,none⟩=some (.slice ao q.L.length cap)∧W.cell? ⟨w.heap.size,1,none⟩=some (.int .i64 xn))
  (first | exact ⟨c0,c1,x1⟩ | assumption | exact z0i HW2.out | exact z0i (HK.out _ ((HB2.out.setCell (by simp) _).setCell (by simp) _)) | exact z0i (HK.out _ (HB2.out.alloc HB2.out.size _)) | exact z0i (HK.out _ (z00 w1 _).drew) | exact z0i (HK.out _ (z00 w1 _)) | exact z0i (HK.out _ (Below.refl _ w1).drew))
  (first | (go_at_call 100;refine (CO.out _ (HK.out _ (by first | exact (Below.refl _ _).drew | exact (z00 _ _).drew)).1).mono ?_;rintro e w2 ⟨rfl,hb2⟩;have HB2:=Lh (z0c (w1:=w1) hb2 (by first | exact (Below.refl _ _).drew | exact (z00 _ _).drew));have HW2:=Lh (HK.out _ HB2.out);first | (have hZ:=zero_place (w1:=w1) hb2;obtain ⟨p0,p1,g0,g1,hpl⟩:=hZ) | skip))
 all_goals
  first
   | (have HB3:=Lh ((HB2.out.setCell (p:=⟨w1.heap.size,0,none⟩) (Nat.le_refl _) (.int .i64 oc)).setCell (p:=⟨w1.heap.size,1,none⟩) (Nat.le_refl _) (.int .i64 op));clear p0 p1 g0 g1;generalize (w2.setCell _ _).setCell _ _=w3 at *)
   | (have HB3:=Lh (HB2.out.alloc HB2.out.size (.cells #[.int .i64 oc,.int .i64 op] 150));generalize w2.alloc _=w3 at *)
  obtain ⟨HB4,HA3,HX3,⟨x0,x1,x2,x3,x4,x5,x6,x7⟩,ao3,cap3,⟨d0,d1,d2,d3,d4,d5,d6,d7,d8⟩,⟨f0,f1,f2,f3,f4,f5,f6,f7,f8⟩,hb3,R1,R3⟩:=z0w HB HA HX HB3.out
  clear c0 c1 c2 c3 c4 c5 c6 c7 c8
  go_wp2_with fail
  go_step3
  show QJ (.goto 2) _ _
  rw [← hQ]
  refine z0h ?_
  go_wp2_with fail
  rw [Exit.noGoto_ret]
  exact bodyPost_ret (results_none rfl _ _ _) rfl ⟨rfl,(R3.out _ (q.to 2) ((Kept.refl _ w3).setCell (p:=⟨b,3,none⟩) (fun h=>h rfl) _) rfl (nset3 R1.out _)).ahead HG.out HB4.out⟩
theorem tok_again_n (b:Nat) (G:Nat→Prop) (w:World) (q:Qa) (xc xn:Int) (xd:ByteArray) (xe:Int) (xL:List (List Int)) (xm xs xy:Int) (xo:Option Addr) (xp:Nat) (h:AQ b G w q) (ha:q.at_=2) (hf:fewL q.L) (ho:ofB q.ep q.L xn=false) (n44:¬ xc=44) :
  Calls Tryz.prog 76 #[ptrP b,.agg #[.int .i64 xc,.int .i64 xn,.string xd,.int .i64 xe,.slice xo xL.length xp,.int .i64 xm,.int .i64 xs,.int .i64 xy]] w fun e w'=>e=.returned (.tuple #[])∧Leaves (AQ b) G w w' (q.to 2):=by
 obtain ⟨HG,HB,HX,HA,⟨x0,x1,x2,x3,x4,x5,x6,x7⟩,ao,cap,⟨c0,c1,c2,c3,c4,c5,c6,c7,c8⟩,⟨f0,f1,f2,f3,f4,f5,f6,f7,f8⟩,hb,HC1,H1,H3⟩:=z0f h xc xn xd xe xo xL.length xp xm xs xy rfl
 have CO:=Lh (fun W (hC:CL W ao q.L)=>pOf_any q.ep ao cap q.L xn W hC hf)
 unfold ofV at CO
 rw [ho] at CO
 generalize ofC q.ep q.L xn=oc at *
 generalize ofP q.ep q.L xn=op at *
 rw [ha] at c3
 have e44:(xc == 44)=false:=by simpa using n44
 clear h hf ho
 unfold ptrP at *
 go_enter Tryz.func76,Tryz.ntmps76
 go_wp2_with fail
 generalize w.alloc _=w1 at *
 refine z06 2 rfl ?_
 generalize hQ:Exit.jump _ _ _=QJ
 go_wp2_with fail
 have HK:=Lh (fun W (hb:Below w1.heap.size w1 W)=>And.intro (HC1.out.below hb) (And.intro (z01 hb H1.out) (z01 hb HX.out)))
 have hs1:w.heap.size < w1.heap.size:=lt_of_block HX.out
 go_region_held3 (fun W=>W.cell? ⟨b,0,none⟩=some (.int .i64 q.ep)∧W.cell? ⟨b,1,none⟩=some (.slice ao q.L.length cap)∧W.cell? ⟨w.heap.size,1,none⟩=some (.int .i64 xn))
  (first | exact ⟨c0,c1,x1⟩ | assumption | exact z0i HW2.out | exact z0i (HK.out _ ((HB2.out.setCell (by simp) _).setCell (by simp) _)) | exact z0i (HK.out _ (HB2.out.alloc HB2.out.size _)) | exact z0i (HK.out _ (z00 w1 _).drew) | exact z0i (HK.out _ (z00 w1 _)) | exact z0i (HK.out _ (Below.refl _ w1).drew))
  (first | (go_at_call 100;refine (CO.out _ (HK.out _ (by first | exact (Below.refl _ _).drew | exact (z00 _ _).drew)).1).mono ?_;rintro e w2 ⟨rfl,hb2⟩;have HB2:=Lh (z0c (w1:=w1) hb2 (by first | exact (Below.refl _ _).drew | exact (z00 _ _).drew));have HW2:=Lh (HK.out _ HB2.out);first | (have hZ:=zero_place (w1:=w1) hb2;obtain ⟨p0,p1,g0,g1,hpl⟩:=hZ) | skip))
 all_goals
  first
   | (have HB3:=Lh ((HB2.out.setCell (p:=⟨w1.heap.size,0,none⟩) (Nat.le_refl _) (.int .i64 oc)).setCell (p:=⟨w1.heap.size,1,none⟩) (Nat.le_refl _) (.int .i64 op));clear p0 p1 g0 g1;generalize (w2.setCell _ _).setCell _ _=w3 at *)
   | (have HB3:=Lh (HB2.out.alloc HB2.out.size (.cells #[.int .i64 oc,.int .i64 op] 150));generalize w2.alloc _=w3 at *)
  obtain ⟨HB4,HA3,HX3,⟨x0,x1,x2,x3,x4,x5,x6,x7⟩,ao3,cap3,⟨d0,d1,d2,d3,d4,d5,d6,d7,d8⟩,⟨f0,f1,f2,f3,f4,f5,f6,f7,f8⟩,hb3,R1,R3⟩:=z0w HB HA HX HB3.out
  clear c0 c1 c2 c3 c4 c5 c6 c7 c8
  go_wp2_with fail
  go_step3
  show QJ (.goto 2) _ _
  rw [← hQ]
  refine z0h ?_
  go_wp2_with fail
  rw [Exit.noGoto_ret]
  exact bodyPost_ret (results_none rfl _ _ _) rfl ⟨rfl,(R3.out _ (q.to 2) ((Kept.refl _ w3).setCell (p:=⟨b,3,none⟩) (fun h=>h rfl) _) rfl (nset3 R1.out _)).ahead HG.out HB4.out⟩
end Go.Proofs.YtkefpbcifcjibaaGreat
