/- Joined texts. -/
import Derived.Test.YtkefpbcifcjibaaGreatG27b
import Derived.Test.YtkefpbcifcjibaaGreatG27a
import Derived.Test.YtkefpbcifcjibaaGreatG12a
import Derived.Test.YtkefpbcifcjibaaGreatG26a
import Derived.Test.YtkefpbcifcjibaaGreatG26b
import Derived.Test.YtkefpbcifcjibaaGreatH00
set_option linter.unusedVariables false
set_option maxRecDepth 20000
set_option maxHeartbeats 16000000
namespace Go.Proofs.YtkefpbcifcjibaaGreat
open Go.RowKit
theorem fs_mend (b:Nat) (G:Nat→Prop) (w:World) (q:Qf) (xc xn:Int) (xd:ByteArray) (xe:Int) (xL:List (List Int)) (xm xs xy:Int) (xo:Option Addr) (xp:Nat) (h:FQ b G w q) (ha:q.at_=5) (hf:fewL q.L) (hu:0≤q.unit∧q.unit≤100) (hc:xc=0∨xc=41) :
  Calls Tryz.prog 107 #[ptrP b,.agg #[.int .i64 xc,.int .i64 xn,.string xd,.int .i64 xe,.slice xo xL.length xp,.int .i64 xm,.int .i64 xs,.int .i64 xy]] w fun e w'=>e=.returned (.tuple #[])∧Leaves (FQ b) G w w' (q.mend):=by
 obtain ⟨HG,HB,HX,HA,⟨x0,x1,x2,x3,x4,x5,x6,x7⟩,ao,cap,⟨c0,c1,c2,c3,c4,c5,c6,c7,c8,c9⟩,⟨f0,f1,f2,f3,f4,f5,f6,f7,f8,f9⟩,hb,HC1,H1,H3⟩:=z0n h xc xn xd xe xo xL.length xp xm xs xy rfl
 have HF:=Lh hf
 have hw:IntKind.i64.wrap (q.unit+1)=q.unit+1:=IntWalk.i64_in _ (by omega)
 have HR1:=Lh (show q.unit+1=(q.len:Int)→q.mend=q.more.ends q.kind q.txt 0 from fun e=>if_pos e)
 have HR2:=Lh (show ¬ q.unit+1=(q.len:Int)→q.mend=q.more from fun e=>if_neg e)
 clear hf
 rw [ha] at c4
 rcases hc with hc | hc
 all_goals
  subst hc
  clear h
  unfold ptrP at *
  go_enter Tryz.func107,Tryz.ntmps107
  go_wp2_with fail
  generalize w.alloc _=w1 at *
  refine z06 5 rfl ?_
  generalize hQ:Exit.jump _ _ _=QJ
  go_wp2_with fail
  go_step3
  show QJ (.goto 5) _ _
  rw [← hQ]
  refine z0h ?_
  go_wp2_with fail
  have HL5:=Lh (H3.out _ (q.more) (((Kept.refl _ w1).setCell (p:=⟨b,4,none⟩) (fun h=>h rfl) (.int .i64 5)).setCell (p:=⟨b,6,none⟩) (fun h=>h rfl) (.int .i64 (q.unit+1))) rfl (tset6 (tset4 H1.out _) _))
  generalize World.setCell (World.setCell w1 _ _) _ _=w5 at *
  obtain ⟨H5,hA5,hU5⟩:=lv_use (fun k hk=>(z0p b).lt HA.out k hk) HL5.out
  have HU5:=Lh hU5
  have HA5:=Lh hA5
  have HH5:=Lh (fun k hk=>(z0p b).lt hA5 k hk)
  clear hA5 hU5 HL5
  clear c0 c1 c2 c3 c4 c5 c6 c7 c8 c9 f0 f1 f2 f3 f4 f5 f6 f7 f8 f9 hb HC1 H1 H3
  obtain ⟨ao,cap,⟨c0,c1,c2,c3,c4,c5,c6,c7,c8,c9⟩,⟨f0,f1,f2,f3,f4,f5,f6,f7,f8,f9⟩,hb,HC1,H1,H3⟩:=z15 HA5.out
  dsimp only [Qf.more,Qf.got] at c6
  have CU:=Lh (fun W (h:FQ b H5 W q.more)=>show Calls Tryz.prog 122 #[ptrP b] W fun e w'=>e=.returned (.int .i64 (q.len:Nat))∧Below W.heap.size W w' from fp_units b H5 W (q.more) h HF.out)
  generalize q.len=n at *
  generalize hz:q.unit+1=z at c6
  clear c0 c1 c2 c3 c4 c5 c7 c8 c9
  go_region_held3 (fun W=>W.cell? ⟨b,6,none⟩=some (.int .i64 z))
   (first | exact c6 | assumption | exact hz ▸ d6)
   (first | (go_at_call 122;refine (CU.out _ (HA5.out.below (Below.refl _ _).drew)).mono ?_;rintro e w6 ⟨rfl,hb6⟩;have HB6:=Lh (z0c (w1:=w5) hb6 (Below.refl _ _).drew);have HA6:=Lh (HA5.out.below HB6.out);obtain ⟨ao6,cap6,⟨d0,d1,d2,d3,d4,d5,d6,d7,d8,d9⟩,_,hb7,_,_,_⟩:=z15 HA6.out;dsimp only [Qf.more,Qf.got] at d6 d7 d8;clear hb6))
  by_cases hn:z=(n:Int)
  ·have e9:(z == (n:Int))=true:=by simpa using hn
   have HN:=Lh (HR1.out (hz.trans hn))
   clear hn
   go_wp2_with (go_at_call 102;refine (fp_end b _ _ q.more _ _ 0 HA6.out).mono ?_;rintro e w9 ⟨rfl,hl⟩;have HL9:=Lh hl;clear hl)
   rw [z0b]
   go_end0
   exact ⟨rfl,HN.out.symm ▸ ((HU5.out _ _ (HL9.out.ahead HH5.out HB6.out))).ahead HG.out HB.out⟩
  ·have e9:(z == (n:Int))=false:=by simpa using hn
   have HN:=Lh (HR2.out (fun e=>hn (hz.symm.trans e)))
   clear hn
   go_wp2_with fail
   rw [z0b]
   go_end0
   exact ⟨rfl,HN.out.symm ▸ ((HU5.out _ _ (Leaves.same (z0p b) HA5.out HB6.out))).ahead HG.out HB.out⟩
theorem fs_junk_r (b:Nat) (G:Nat→Prop) (w:World) (q:Qf) (xc xn:Int) (xd:ByteArray) (xe:Int) (xL:List (List Int)) (xm xs xy:Int) (xo:Option Addr) (xp:Nat) (h:FQ b G w q) (ha:q.at_=2∨q.at_=3) (hf:fewL q.L) (hu:0≤q.unit∧q.unit≤100)  :
  Calls Tryz.prog 107 #[ptrP b,.agg #[.int .i64 46,.int .i64 xn,.string xd,.int .i64 xe,.slice xo xL.length xp,.int .i64 xm,.int .i64 xs,.int .i64 xy]] w fun e w'=>e=.returned (.tuple #[])∧Leaves (FQ b) G w w' ((q.got 2 noS).mend):=by
 obtain ⟨HG,HB,HX,HA,⟨x0,x1,x2,x3,x4,x5,x6,x7⟩,ao,cap,⟨c0,c1,c2,c3,c4,c5,c6,c7,c8,c9⟩,⟨f0,f1,f2,f3,f4,f5,f6,f7,f8,f9⟩,hb,HC1,H1,H3⟩:=z0n h 46 xn xd xe xo xL.length xp xm xs xy rfl
 have HF:=Lh hf
 have hw:IntKind.i64.wrap (q.unit+1)=q.unit+1:=IntWalk.i64_in _ (by omega)
 have HR1:=Lh (show q.unit+1=(q.len:Int)→(q.got 2 noS).mend=(q.got 2 noS).more.ends 2 noS 0 from fun e=>if_pos e)
 have HR2:=Lh (show ¬ q.unit+1=(q.len:Int)→(q.got 2 noS).mend=(q.got 2 noS).more from fun e=>if_neg e)
 clear hf
 rcases ha with ha | ha
 all_goals
  rw [ha] at c4
  clear h
  unfold ptrP at *
  go_enter Tryz.func107,Tryz.ntmps107
  go_wp2_with fail
  generalize w.alloc _=w1 at *
  refine z06 2 rfl ?_
  generalize hQ:Exit.jump _ _ _=QJ
  go_wp2_with fail
  go_step3
  show QJ (.goto 2) _ _
  rw [← hQ]
  refine z0h ?_
  go_wp2_with fail
  have HL:=Lh (H3.out _ (q.got 2 ⟨#[]⟩) (((Kept.refl _ w1).setCell (p:=⟨b,7,none⟩) (fun h=>h rfl) (.int .i64 2)).setCell (p:=⟨b,8,none⟩) (fun h=>h rfl) (.string ⟨#[]⟩)) rfl (tset8 (tset7 H1.out _) _))
  generalize World.setCell (World.setCell w1 _ _) _ _=wm at *
  obtain ⟨H,hA,hU⟩:=lv_use (fun k hk=>(z0p b).lt HA.out k hk) HL.out
  have HU:=Lh hU
  have HAm:=Lh hA
  clear hA hU HL
  clear c0 c1 c2 c3 c4 c5 c6 c7 c8 c9 f0 f1 f2 f3 f4 f5 f6 f7 f8 f9 hb HC1 H1 H3
  obtain ⟨ao,cap,⟨c0,c1,c2,c3,c4,c5,c6,c7,c8,c9⟩,⟨f0,f1,f2,f3,f4,f5,f6,f7,f8,f9⟩,hb,HC1,H1,H3⟩:=z15 HAm.out
  dsimp only [Qf.got] at c6
  go_step3
  go_wp2_with fail
  have HL5:=Lh (H3.out _ ((q.got 2 ⟨#[]⟩).more) (((Kept.refl _ wm).setCell (p:=⟨b,4,none⟩) (fun h=>h rfl) (.int .i64 5)).setCell (p:=⟨b,6,none⟩) (fun h=>h rfl) (.int .i64 (q.unit+1))) rfl (tset6 (tset4 H1.out _) _))
  generalize World.setCell (World.setCell wm _ _) _ _=w5 at *
  obtain ⟨H5,hA5,hU5⟩:=lv_use (fun k hk=>(z0p b).lt HAm.out k hk) HL5.out
  have HU5:=Lh hU5
  have HA5:=Lh hA5
  have HH5:=Lh (fun k hk=>(z0p b).lt hA5 k hk)
  clear hA5 hU5 HL5
  clear c0 c1 c2 c3 c4 c5 c6 c7 c8 c9 f0 f1 f2 f3 f4 f5 f6 f7 f8 f9 hb HC1 H1 H3
  obtain ⟨ao,cap,⟨c0,c1,c2,c3,c4,c5,c6,c7,c8,c9⟩,⟨f0,f1,f2,f3,f4,f5,f6,f7,f8,f9⟩,hb,HC1,H1,H3⟩:=z15 HA5.out
  dsimp only [Qf.more,Qf.got] at c6
  have CU:=Lh (fun W (h:FQ b H5 W (q.got 2 ⟨#[]⟩).more)=>show Calls Tryz.prog 122 #[ptrP b] W fun e w'=>e=.returned (.int .i64 (q.len:Nat))∧Below W.heap.size W w' from fp_units b H5 W ((q.got 2 ⟨#[]⟩).more) h HF.out)
  generalize q.len=n at *
  generalize hz:q.unit+1=z at c6
  clear c0 c1 c2 c3 c4 c5 c7 c8 c9
  go_region_held3 (fun W=>W.cell? ⟨b,6,none⟩=some (.int .i64 z))
   (first | exact c6 | assumption | exact hz ▸ d6)
   (first | (go_at_call 122;refine (CU.out _ (HA5.out.below (Below.refl _ _).drew)).mono ?_;rintro e w6 ⟨rfl,hb6⟩;have HB6:=Lh (z0c (w1:=w5) hb6 (Below.refl _ _).drew);have HA6:=Lh (HA5.out.below HB6.out);obtain ⟨ao6,cap6,⟨d0,d1,d2,d3,d4,d5,d6,d7,d8,d9⟩,_,hb7,_,_,_⟩:=z15 HA6.out;dsimp only [Qf.more,Qf.got] at d6 d7 d8;clear hb6))
  by_cases hn:z=(n:Int)
  ·have e9:(z == (n:Int))=true:=by simpa using hn
   have HN:=Lh (HR1.out (hz.trans hn))
   clear hn
   go_wp2_with (go_at_call 102;refine (fp_end b _ _ (q.got 2 ⟨#[]⟩).more _ _ 0 HA6.out).mono ?_;rintro e w9 ⟨rfl,hl⟩;have HL9:=Lh hl;clear hl)
   rw [z0b]
   go_end0
   exact ⟨rfl,HN.out.symm ▸ (HU.out _ _ (HU5.out _ _ (HL9.out.ahead HH5.out HB6.out))).ahead HG.out HB.out⟩
  ·have e9:(z == (n:Int))=false:=by simpa using hn
   have HN:=Lh (HR2.out (fun e=>hn (hz.symm.trans e)))
   clear hn
   go_wp2_with fail
   rw [z0b]
   go_end0
   exact ⟨rfl,HN.out.symm ▸ (HU.out _ _ (HU5.out _ _ (Leaves.same (z0p b) HA5.out HB6.out))).ahead HG.out HB.out⟩
theorem fs_junk_j (b:Nat) (G:Nat→Prop) (w:World) (q:Qf) (xc xn:Int) (xd:ByteArray) (xe:Int) (xL:List (List Int)) (xm xs xy:Int) (xo:Option Addr) (xp:Nat) (h:FQ b G w q) (ha:q.at_=4) (hf:fewL q.L) (hu:0≤q.unit∧q.unit≤100)  :
  Calls Tryz.prog 107 #[ptrP b,.agg #[.int .i64 0,.int .i64 xn,.string xd,.int .i64 xe,.slice xo xL.length xp,.int .i64 xm,.int .i64 xs,.int .i64 xy]] w fun e w'=>e=.returned (.tuple #[])∧Leaves (FQ b) G w w' ((q.got 2 noS).mend):=by
 obtain ⟨HG,HB,HX,HA,⟨x0,x1,x2,x3,x4,x5,x6,x7⟩,ao,cap,⟨c0,c1,c2,c3,c4,c5,c6,c7,c8,c9⟩,⟨f0,f1,f2,f3,f4,f5,f6,f7,f8,f9⟩,hb,HC1,H1,H3⟩:=z0n h 0 xn xd xe xo xL.length xp xm xs xy rfl
 have HF:=Lh hf
 have hw:IntKind.i64.wrap (q.unit+1)=q.unit+1:=IntWalk.i64_in _ (by omega)
 have HR1:=Lh (show q.unit+1=(q.len:Int)→(q.got 2 noS).mend=(q.got 2 noS).more.ends 2 noS 0 from fun e=>if_pos e)
 have HR2:=Lh (show ¬ q.unit+1=(q.len:Int)→(q.got 2 noS).mend=(q.got 2 noS).more from fun e=>if_neg e)
 clear hf
 rw [ha] at c4
 clear h
 unfold ptrP at *
 go_enter Tryz.func107,Tryz.ntmps107
 go_wp2_with fail
 generalize w.alloc _=w1 at *
 refine z06 2 rfl ?_
 generalize hQ:Exit.jump _ _ _=QJ
 go_wp2_with fail
 go_step3
 show QJ (.goto 2) _ _
 rw [← hQ]
 refine z0h ?_
 go_wp2_with fail
 have HL:=Lh (H3.out _ (q.got 2 ⟨#[]⟩) (((Kept.refl _ w1).setCell (p:=⟨b,7,none⟩) (fun h=>h rfl) (.int .i64 2)).setCell (p:=⟨b,8,none⟩) (fun h=>h rfl) (.string ⟨#[]⟩)) rfl (tset8 (tset7 H1.out _) _))
 generalize World.setCell (World.setCell w1 _ _) _ _=wm at *
 obtain ⟨H,hA,hU⟩:=lv_use (fun k hk=>(z0p b).lt HA.out k hk) HL.out
 have HU:=Lh hU
 have HAm:=Lh hA
 clear hA hU HL
 clear c0 c1 c2 c3 c4 c5 c6 c7 c8 c9 f0 f1 f2 f3 f4 f5 f6 f7 f8 f9 hb HC1 H1 H3
 obtain ⟨ao,cap,⟨c0,c1,c2,c3,c4,c5,c6,c7,c8,c9⟩,⟨f0,f1,f2,f3,f4,f5,f6,f7,f8,f9⟩,hb,HC1,H1,H3⟩:=z15 HAm.out
 dsimp only [Qf.got] at c6
 go_step3
 go_wp2_with fail
 have HL5:=Lh (H3.out _ ((q.got 2 ⟨#[]⟩).more) (((Kept.refl _ wm).setCell (p:=⟨b,4,none⟩) (fun h=>h rfl) (.int .i64 5)).setCell (p:=⟨b,6,none⟩) (fun h=>h rfl) (.int .i64 (q.unit+1))) rfl (tset6 (tset4 H1.out _) _))
 generalize World.setCell (World.setCell wm _ _) _ _=w5 at *
 obtain ⟨H5,hA5,hU5⟩:=lv_use (fun k hk=>(z0p b).lt HAm.out k hk) HL5.out
 have HU5:=Lh hU5
 have HA5:=Lh hA5
 have HH5:=Lh (fun k hk=>(z0p b).lt hA5 k hk)
 clear hA5 hU5 HL5
 clear c0 c1 c2 c3 c4 c5 c6 c7 c8 c9 f0 f1 f2 f3 f4 f5 f6 f7 f8 f9 hb HC1 H1 H3
 obtain ⟨ao,cap,⟨c0,c1,c2,c3,c4,c5,c6,c7,c8,c9⟩,⟨f0,f1,f2,f3,f4,f5,f6,f7,f8,f9⟩,hb,HC1,H1,H3⟩:=z15 HA5.out
 dsimp only [Qf.more,Qf.got] at c6
 have CU:=Lh (fun W (h:FQ b H5 W (q.got 2 ⟨#[]⟩).more)=>show Calls Tryz.prog 122 #[ptrP b] W fun e w'=>e=.returned (.int .i64 (q.len:Nat))∧Below W.heap.size W w' from fp_units b H5 W ((q.got 2 ⟨#[]⟩).more) h HF.out)
 generalize q.len=n at *
 generalize hz:q.unit+1=z at c6
 clear c0 c1 c2 c3 c4 c5 c7 c8 c9
 go_region_held3 (fun W=>W.cell? ⟨b,6,none⟩=some (.int .i64 z))
  (first | exact c6 | assumption | exact hz ▸ d6)
  (first | (go_at_call 122;refine (CU.out _ (HA5.out.below (Below.refl _ _).drew)).mono ?_;rintro e w6 ⟨rfl,hb6⟩;have HB6:=Lh (z0c (w1:=w5) hb6 (Below.refl _ _).drew);have HA6:=Lh (HA5.out.below HB6.out);obtain ⟨ao6,cap6,⟨d0,d1,d2,d3,d4,d5,d6,d7,d8,d9⟩,_,hb7,_,_,_⟩:=z15 HA6.out;dsimp only [Qf.more,Qf.got] at d6 d7 d8;clear hb6))
 by_cases hn:z=(n:Int)
 ·have e9:(z == (n:Int))=true:=by simpa using hn
  have HN:=Lh (HR1.out (hz.trans hn))
  clear hn
  go_wp2_with (go_at_call 102;refine (fp_end b _ _ (q.got 2 ⟨#[]⟩).more _ _ 0 HA6.out).mono ?_;rintro e w9 ⟨rfl,hl⟩;have HL9:=Lh hl;clear hl)
  rw [z0b]
  go_end0
  exact ⟨rfl,HN.out.symm ▸ (HU.out _ _ (HU5.out _ _ (HL9.out.ahead HH5.out HB6.out))).ahead HG.out HB.out⟩
 ·have e9:(z == (n:Int))=false:=by simpa using hn
  have HN:=Lh (HR2.out (fun e=>hn (hz.symm.trans e)))
  clear hn
  go_wp2_with fail
  rw [z0b]
  go_end0
  exact ⟨rfl,HN.out.symm ▸ (HU.out _ _ (HU5.out _ _ (Leaves.same (z0p b) HA5.out HB6.out))).ahead HG.out HB.out⟩
theorem fs_text (b:Nat) (G:Nat→Prop) (w:World) (q:Qf) (xc xn:Int) (xd:ByteArray) (xe:Int) (xL:List (List Int)) (xm xs xy:Int) (xo:Option Addr) (xp:Nat) (h:FQ b G w q) (ha:q.at_=2∨q.at_=3) (hf:fewL q.L) (hu:0≤q.unit∧q.unit≤100) (hd:xd.size≤1000000) :
  Calls Tryz.prog 107 #[ptrP b,.agg #[.int .i64 0,.int .i64 xn,.string xd,.int .i64 xe,.slice xo xL.length xp,.int .i64 xm,.int .i64 xs,.int .i64 xy]] w fun e w'=>e=.returned (.tuple #[])∧Leaves (FQ b) G w w' ((q.got 1 xd).mend):=by
 obtain ⟨HG,HB,HX,HA,⟨x0,x1,x2,x3,x4,x5,x6,x7⟩,ao,cap,⟨c0,c1,c2,c3,c4,c5,c6,c7,c8,c9⟩,⟨f0,f1,f2,f3,f4,f5,f6,f7,f8,f9⟩,hb,HC1,H1,H3⟩:=z0n h 0 xn xd xe xo xL.length xp xm xs xy rfl
 have HF:=Lh hf
 have hw:IntKind.i64.wrap (q.unit+1)=q.unit+1:=IntWalk.i64_in _ (by omega)
 have HR1:=Lh (show q.unit+1=(q.len:Int)→(q.got 1 xd).mend=(q.got 1 xd).more.ends 1 xd 0 from fun e=>if_pos e)
 have HR2:=Lh (show ¬ q.unit+1=(q.len:Int)→(q.got 1 xd).mend=(q.got 1 xd).more from fun e=>if_neg e)
 clear hf
 have CK:=Lh (fun w=>clone_any xd w (by omega))
 clear hd
 rcases ha with ha | ha
 all_goals
  rw [ha] at c4
  clear h
  unfold ptrP at *
  go_enter Tryz.func107,Tryz.ntmps107
  go_wp2_with fail
  generalize w.alloc _=w1 at *
  refine wp_scope_two 1 5 rfl rfl ?_
  generalize hQ:Exit.jump _ _ _=QJ
  go_wp2_with fail
  go_step3
  show QJ (.goto 1) _ _
  rw [← hQ]
  refine jump_two ?_
  generalize hQ2:Exit.jump _ _ _=QJ2
  go_wp2_with (go_at_call 71;refine (CK.out _).mono ?_;rintro e w2 ⟨rfl,hb2⟩;have HB2:=Lh (HB.out.trans (hb2.mono HB.out.size));have HA2:=Lh (HA.out.below hb2);clear c0 c1 c2 c3 c4 c5 c6 c7 c8 c9 f0 f1 f2 f3 f4 f5 f6 f7 f8 f9 hb HC1 H1 H3;obtain ⟨ao,cap,⟨c0,c1,c2,c3,c4,c5,c6,c7,c8,c9⟩,⟨f0,f1,f2,f3,f4,f5,f6,f7,f8,f9⟩,hb,HC1,H1,H3⟩:=z15 HA2.out;clear hb2)
  have HL:=Lh (H3.out _ (q.got 1 xd) (((Kept.refl _ w2).setCell (p:=⟨b,7,none⟩) (fun h=>h rfl) (.int .i64 1)).setCell (p:=⟨b,8,none⟩) (fun h=>h rfl) (.string xd)) rfl (tset8 (tset7 H1.out _) _))
  generalize World.setCell (World.setCell w2 _ _) _ _=wm at *
  obtain ⟨H,hA,hU⟩:=lv_use (fun k hk=>(z0p b).lt HA2.out k hk) HL.out
  have HU:=Lh hU
  have HAm:=Lh hA
  clear hA hU HL
  clear c0 c1 c2 c3 c4 c5 c6 c7 c8 c9 f0 f1 f2 f3 f4 f5 f6 f7 f8 f9 hb HC1 H1 H3
  obtain ⟨ao,cap,⟨c0,c1,c2,c3,c4,c5,c6,c7,c8,c9⟩,⟨f0,f1,f2,f3,f4,f5,f6,f7,f8,f9⟩,hb,HC1,H1,H3⟩:=z15 HAm.out
  dsimp only [Qf.got] at c6
  go_step3
  show QJ2 (.goto 5) _ _
  rw [← hQ2]
  refine z0h ?_
  go_wp2_with fail
  have HL5:=Lh (H3.out _ ((q.got 1 xd).more) (((Kept.refl _ wm).setCell (p:=⟨b,4,none⟩) (fun h=>h rfl) (.int .i64 5)).setCell (p:=⟨b,6,none⟩) (fun h=>h rfl) (.int .i64 (q.unit+1))) rfl (tset6 (tset4 H1.out _) _))
  generalize World.setCell (World.setCell wm _ _) _ _=w5 at *
  obtain ⟨H5,hA5,hU5⟩:=lv_use (fun k hk=>(z0p b).lt HAm.out k hk) HL5.out
  have HU5:=Lh hU5
  have HA5:=Lh hA5
  have HH5:=Lh (fun k hk=>(z0p b).lt hA5 k hk)
  clear hA5 hU5 HL5
  clear c0 c1 c2 c3 c4 c5 c6 c7 c8 c9 f0 f1 f2 f3 f4 f5 f6 f7 f8 f9 hb HC1 H1 H3
  obtain ⟨ao,cap,⟨c0,c1,c2,c3,c4,c5,c6,c7,c8,c9⟩,⟨f0,f1,f2,f3,f4,f5,f6,f7,f8,f9⟩,hb,HC1,H1,H3⟩:=z15 HA5.out
  dsimp only [Qf.more,Qf.got] at c6
  have CU:=Lh (fun W (h:FQ b H5 W (q.got 1 xd).more)=>show Calls Tryz.prog 122 #[ptrP b] W fun e w'=>e=.returned (.int .i64 (q.len:Nat))∧Below W.heap.size W w' from fp_units b H5 W ((q.got 1 xd).more) h HF.out)
  generalize q.len=n at *
  generalize hz:q.unit+1=z at c6
  clear c0 c1 c2 c3 c4 c5 c7 c8 c9
  go_region_held3 (fun W=>W.cell? ⟨b,6,none⟩=some (.int .i64 z))
   (first | exact c6 | assumption | exact hz ▸ d6)
   (first | (go_at_call 122;refine (CU.out _ (HA5.out.below (Below.refl _ _).drew)).mono ?_;rintro e w6 ⟨rfl,hb6⟩;have HB6:=Lh (z0c (w1:=w5) hb6 (Below.refl _ _).drew);have HA6:=Lh (HA5.out.below HB6.out);obtain ⟨ao6,cap6,⟨d0,d1,d2,d3,d4,d5,d6,d7,d8,d9⟩,_,hb7,_,_,_⟩:=z15 HA6.out;dsimp only [Qf.more,Qf.got] at d6 d7 d8;clear hb6))
  by_cases hn:z=(n:Int)
  ·have e9:(z == (n:Int))=true:=by simpa using hn
   have HN:=Lh (HR1.out (hz.trans hn))
   clear hn
   go_wp2_with (go_at_call 102;refine (fp_end b _ _ (q.got 1 xd).more _ _ 0 HA6.out).mono ?_;rintro e w9 ⟨rfl,hl⟩;have HL9:=Lh hl;clear hl)
   rw [z0b]
   go_end0
   exact ⟨rfl,HN.out.symm ▸ (HU.out _ _ (HU5.out _ _ (HL9.out.ahead HH5.out HB6.out))).ahead HG.out HB2.out⟩
  ·have e9:(z == (n:Int))=false:=by simpa using hn
   have HN:=Lh (HR2.out (fun e=>hn (hz.symm.trans e)))
   clear hn
   go_wp2_with fail
   rw [z0b]
   go_end0
   exact ⟨rfl,HN.out.symm ▸ (HU.out _ _ (HU5.out _ _ (Leaves.same (z0p b) HA5.out HB6.out))).ahead HG.out HB2.out⟩
theorem nx_keep {W:World} {b:Nat} {t:TypeId} {v0 v1 v2 v3 v4 v5 v6 v7 v8:Value} (h:W.heap[b]?=some (.cells #[v0,v1,v2,v3,v4,v5,v6,v7,v8] t (0,0))) :
  W.cell? ⟨b,0,none⟩=some v0∧W.cell? ⟨b,1,none⟩=some v1∧W.cell? ⟨b,5,none⟩=some v5∧W.cell? ⟨b,6,none⟩=some v6:=⟨z02 h 0,z02 h 1,z02 h 5,z02 h 6⟩
theorem wr_next (b:Nat) (G:Nat→Prop) (w:World) (q:Qa) (xc xn:Int) (xd:ByteArray) (xe:Int) (xL:List (List Int)) (xm xs xy:Int) (xo:Option Addr) (xp:Nat) (h:AQ b G w q) (ha:q.at_=3) (hf:fewL q.L) (hu:0≤q.unit∧q.unit≤100) (R:Qa) (h1R:q.unit+1=((chainR q.ep q.L q.addr).length:Int)→R=(q.more q.at_).ends q.addr 0) (h2R:¬ q.unit+1=((chainR q.ep q.L q.addr).length:Int)→R=q.more 3) :
  Calls Tryz.prog 76 #[ptrP b,.agg #[.int .i64 0,.int .i64 xn,.string xd,.int .i64 xe,.slice xo xL.length xp,.int .i64 xm,.int .i64 xs,.int .i64 xy]] w fun e w'=>e=.returned (.tuple #[])∧Leaves (AQ b) G w w' (R):=by
 obtain ⟨HG,HB,HX,HA,⟨x0,x1,x2,x3,x4,x5,x6,x7⟩,ao,cap,⟨c0,c1,c2,c3,c4,c5,c6,c7,c8⟩,⟨f0,f1,f2,f3,f4,f5,f6,f7,f8⟩,hb,HC1,H1,H3⟩:=z0f h 0 xn xd xe xo xL.length xp xm xs xy rfl
 rw [ha] at c3
 have hw:IntKind.i64.wrap (q.unit+1)=q.unit+1:=IntWalk.i64_in _ (by omega)
 have HR1:=Lh h1R
 have HR2:=Lh h2R
 clear h1R h2R
 clear h
 unfold ptrP at *
 go_enter Tryz.func76,Tryz.ntmps76
 go_wp2_with fail
 generalize w.alloc _=w1 at *
 refine z06 3 rfl ?_
 generalize hQ:Exit.jump _ _ _=QJ
 go_wp2_with fail
 go_step3
 show QJ (.goto 3) _ _
 rw [← hQ]
 refine z0h ?_
 go_wp2_with fail
 have HL:=Lh (H3.out _ (q.more q.at_) ((Kept.refl _ w1).setCell (p:=⟨b,6,none⟩) (fun h=>h rfl) (.int .i64 (q.unit+1))) rfl (nset6 H1.out _))
 generalize World.setCell w1 _ _=w5 at *
 obtain ⟨H,hA5,hU⟩:=lv_use (fun k hk=>(z1f b).lt HA.out k hk) HL.out
 have HU:=Lh hU
 have HA5:=Lh hA5
 have HH:=Lh (fun k hk=>(z1f b).lt hA5 k hk)
 obtain ⟨a5,k5,h1,hc5,h3⟩:=hA5.open
 dsimp only [Qa.more] at h1 hc5 h3
 have H51:=Lh h1
 have HC5:=Lh (hc5.below (Below.refl w5.heap.size w5).drew)
 have CH:=Lh (fun W (hC:CL W a5 q.L)=>pChain_any q.ep a5 k5 q.L q.addr W hC hf)
 obtain ⟨⟨d0,d1,d2,d3,d4,d5,d6,d7,d8⟩,_⟩:=z0g h1
 clear h1 hc5 h3 hU hA5 HL c0 c1 c2 c3 c4 c5 c6 c7 c8 f0 f1 f2 f3 f4 f5 f6 f7 f8 hb
 generalize (chainR q.ep q.L q.addr).length=n at *
 generalize hz:q.unit+1=z at d6
 go_region_held3 (fun W=>W.cell? ⟨b,0,none⟩=some (.int .i64 q.ep)∧W.cell? ⟨b,1,none⟩=some (.slice a5 q.L.length k5)∧W.cell? ⟨b,5,none⟩=some (.int .i64 q.addr)∧W.cell? ⟨b,6,none⟩=some (.int .i64 z))
  (first | exact ⟨d0,d1,d5,d6⟩ | assumption | exact nx_keep (v6:=.int .i64 z) (hz ▸ H61.out))
  (first | (go_at_call 109;refine (CH.out _ HC5.out).mono ?_;rintro e w6 ⟨bo,cb,rfl,_,hb6⟩;have HB6:=Lh (z0c (w1:=w5) hb6 (Below.refl _ _).drew);have H61:=Lh (z01 HB6.out H51.out);have HA6:=Lh (HA5.out.below HB6.out);obtain ⟨⟨c0,c1,c2,c3,c4,c5,c6,c7,c8⟩,f0,f1,f2,f3,f4,f5,f6,f7,f8⟩:=z0g H61.out;have hb:=lt_of_block H61.out;clear hb6))
 by_cases hn:z=(n:Int)
 ·have e9:(z == (n:Int))=true:=by simpa using hn
  have HN:=Lh hn
  clear hn
  go_wp2_with (go_at_call 70;refine (ap_end b _ _ (q.more q.at_) q.addr 0 HA6.out).mono ?_;rintro e w9 ⟨rfl,hl⟩;have HR:=Lh hl;clear hl)
  rw [Exit.noGoto_ret]
  exact bodyPost_ret (results_none rfl _ _ _) rfl ⟨rfl,(HR1.out (hz.trans HN.out)).symm ▸ (HU.out _ _ (HR.out.ahead HH.out HB6.out)).ahead HG.out HB.out⟩
 ·have e9:(z == (n:Int))=false:=by simpa using hn
  have HN:=Lh hn
  clear hn
  go_wp2_with fail
  go_step3
  go_wp2_with fail
  rw [Exit.noGoto_ret]
  obtain ⟨a6,k6,r1,_,r3⟩:=HA6.out.open
  exact bodyPost_ret (results_none rfl _ _ _) rfl ⟨rfl,(HR2.out (fun e=>HN.out (hz.symm.trans e))).symm ▸ (HU.out _ _ ((r3 _ (q.more 3) ((Kept.refl _ w6).setCell (p:=⟨b,3,none⟩) (fun h=>h rfl) (.int .i64 3)) rfl (nset3 r1 _)).ahead HH.out HB6.out)).ahead HG.out HB.out⟩
theorem wr_look (b:Nat) (G:Nat→Prop) (w:World) (q:Qa) (xc xn:Int) (xd:ByteArray) (xe:Int) (xL:List (List Int)) (xm xs xy:Int) (xo:Option Addr) (xp:Nat) (h:AQ b G w q) (ha:q.at_=3)  :
  Calls Tryz.prog 76 #[ptrP b,.agg #[.int .i64 41,.int .i64 xn,.string xd,.int .i64 xe,.slice xo xL.length xp,.int .i64 xm,.int .i64 xs,.int .i64 xy]] w fun e w'=>e=.returned (.tuple #[])∧Leaves (AQ b) G w w' (q.to 4):=by
 obtain ⟨HG,HB,HX,HA,⟨x0,x1,x2,x3,x4,x5,x6,x7⟩,ao,cap,⟨c0,c1,c2,c3,c4,c5,c6,c7,c8⟩,⟨f0,f1,f2,f3,f4,f5,f6,f7,f8⟩,hb,HC1,H1,H3⟩:=z0f h 41 xn xd xe xo xL.length xp xm xs xy rfl
 rw [ha] at c3
 clear h
 unfold ptrP at *
 go_enter Tryz.func76,Tryz.ntmps76
 go_wp2_with fail
 generalize w.alloc _=w1 at *
 refine z06 4 rfl ?_
 generalize hQ:Exit.jump _ _ _=QJ
 go_wp2_with fail
 go_step3
 show QJ (.goto 4) _ _
 rw [← hQ]
 refine z0h ?_
 go_wp2_with fail
 rw [Exit.noGoto_ret]
 exact bodyPost_ret (results_none rfl _ _ _) rfl ⟨rfl,(H3.out _ (q.to 4) ((Kept.refl _ w1).setCell (p:=⟨b,3,none⟩) (fun h=>h rfl) _) rfl (nset3 H1.out _)).ahead HG.out HB.out⟩
theorem wr_token (b:Nat) (G:Nat→Prop) (w:World) (q:Qa) (xc xn:Int) (xd:ByteArray) (xe:Int) (xL:List (List Int)) (xm xs xy:Int) (xo:Option Addr) (xp:Nat) (h:AQ b G w q) (ha:q.at_=3)  :
  Calls Tryz.prog 76 #[ptrP b,.agg #[.int .i64 43,.int .i64 xn,.string xd,.int .i64 xe,.slice xo xL.length xp,.int .i64 xm,.int .i64 xs,.int .i64 xy]] w fun e w'=>e=.returned (.tuple #[])∧Leaves (AQ b) G w w' (q.to 2):=by
 obtain ⟨HG,HB,HX,HA,⟨x0,x1,x2,x3,x4,x5,x6,x7⟩,ao,cap,⟨c0,c1,c2,c3,c4,c5,c6,c7,c8⟩,⟨f0,f1,f2,f3,f4,f5,f6,f7,f8⟩,hb,HC1,H1,H3⟩:=z0f h 43 xn xd xe xo xL.length xp xm xs xy rfl
 rw [ha] at c3
 clear h
 unfold ptrP at *
 go_enter Tryz.func76,Tryz.ntmps76
 go_wp2_with fail
 generalize w.alloc _=w1 at *
 refine z06 2 rfl ?_
 generalize hQ:Exit.jump _ _ _=QJ
 go_wp2_with fail
 go_step3
 show QJ (.goto 2) _ _
 rw [← hQ]
 refine z0h ?_
 go_wp2_with fail
 rw [Exit.noGoto_ret]
 exact bodyPost_ret (results_none rfl _ _ _) rfl ⟨rfl,(H3.out _ (q.to 2) ((Kept.refl _ w1).setCell (p:=⟨b,3,none⟩) (fun h=>h rfl) _) rfl (nset3 H1.out _)).ahead HG.out HB.out⟩
theorem wr_full_t (b:Nat) (G:Nat→Prop) (w:World) (q:Qa) (xc xn:Int) (xd:ByteArray) (xe:Int) (xL:List (List Int)) (xm xs xy:Int) (xo:Option Addr) (xp:Nat) (h:AQ b G w q) (ha:q.at_=3) (hm:q.may=true) :
  Calls Tryz.prog 76 #[ptrP b,.agg #[.int .i64 44,.int .i64 xn,.string xd,.int .i64 xe,.slice xo xL.length xp,.int .i64 xm,.int .i64 xs,.int .i64 xy]] w fun e w'=>e=.returned (.tuple #[])∧Leaves (AQ b) G w w' (q.ends 0 69):=by
 obtain ⟨HG,HB,HX,HA,⟨x0,x1,x2,x3,x4,x5,x6,x7⟩,ao,cap,⟨c0,c1,c2,c3,c4,c5,c6,c7,c8⟩,⟨f0,f1,f2,f3,f4,f5,f6,f7,f8⟩,hb,HC1,H1,H3⟩:=z0f h 44 xn xd xe xo xL.length xp xm xs xy rfl
 rw [ha] at c3
 rw [hm] at c7
 clear h
 unfold ptrP at *
 go_enter Tryz.func76,Tryz.ntmps76
 go_wp2_with fail
 generalize w.alloc _=w1 at *
 refine z06 1 rfl ?_
 generalize hQ:Exit.jump _ _ _=QJ
 go_wp2_with fail
 go_step3
 show QJ (.goto 1) _ _
 rw [← hQ]
 refine z0h ?_
 go_wp2_with fail
 go_step3
 go_wp2_with (go_at_call 70;refine (ap_end b _ _ q 0 69 HA.out).mono ?_;rintro e w9 ⟨rfl,hl⟩;have HL:=Lh hl;clear hl)
 rw [z0b]
 go_end0
 exact ⟨rfl,HL.out.ahead HG.out HB.out⟩
theorem wr_full_f (b:Nat) (G:Nat→Prop) (w:World) (q:Qa) (xc xn:Int) (xd:ByteArray) (xe:Int) (xL:List (List Int)) (xm xs xy:Int) (xo:Option Addr) (xp:Nat) (h:AQ b G w q) (ha:q.at_=3) (hm:q.may=false) :
  Calls Tryz.prog 76 #[ptrP b,.agg #[.int .i64 44,.int .i64 xn,.string xd,.int .i64 xe,.slice xo xL.length xp,.int .i64 xm,.int .i64 xs,.int .i64 xy]] w fun e w'=>e=.returned (.tuple #[])∧Leaves (AQ b) G w w' (q.ends 0 44):=by
 obtain ⟨HG,HB,HX,HA,⟨x0,x1,x2,x3,x4,x5,x6,x7⟩,ao,cap,⟨c0,c1,c2,c3,c4,c5,c6,c7,c8⟩,⟨f0,f1,f2,f3,f4,f5,f6,f7,f8⟩,hb,HC1,H1,H3⟩:=z0f h 44 xn xd xe xo xL.length xp xm xs xy rfl
 rw [ha] at c3
 rw [hm] at c7
 clear h
 unfold ptrP at *
 go_enter Tryz.func76,Tryz.ntmps76
 go_wp2_with fail
 generalize w.alloc _=w1 at *
 refine z06 1 rfl ?_
 generalize hQ:Exit.jump _ _ _=QJ
 go_wp2_with fail
 go_step3
 show QJ (.goto 1) _ _
 rw [← hQ]
 refine z0h ?_
 go_wp2_with fail
 go_step3
 go_wp2_with (go_at_call 70;refine (ap_end b _ _ q 0 44 HA.out).mono ?_;rintro e w9 ⟨rfl,hl⟩;have HL:=Lh hl;clear hl)
 rw [z0b]
 go_end0
 exact ⟨rfl,HL.out.ahead HG.out HB.out⟩
theorem wr_over (b:Nat) (G:Nat→Prop) (w:World) (q:Qa) (xc xn:Int) (xd:ByteArray) (xe:Int) (xL:List (List Int)) (xm xs xy:Int) (xo:Option Addr) (xp:Nat) (h:AQ b G w q) (ha:q.at_=3) (n0:¬ xc=0) (n41:¬ xc=41) (n43:¬ xc=43) (n44:¬ xc=44) :
  Calls Tryz.prog 76 #[ptrP b,.agg #[.int .i64 xc,.int .i64 xn,.string xd,.int .i64 xe,.slice xo xL.length xp,.int .i64 xm,.int .i64 xs,.int .i64 xy]] w fun e w'=>e=.returned (.tuple #[])∧Leaves (AQ b) G w w' (q.ends 0 xc):=by
 obtain ⟨HG,HB,HX,HA,⟨x0,x1,x2,x3,x4,x5,x6,x7⟩,ao,cap,⟨c0,c1,c2,c3,c4,c5,c6,c7,c8⟩,⟨f0,f1,f2,f3,f4,f5,f6,f7,f8⟩,hb,HC1,H1,H3⟩:=z0f h xc xn xd xe xo xL.length xp xm xs xy rfl
 rw [ha] at c3
 have e0:(xc == 0)=false:=by simpa using n0
 have e41:(xc == 41)=false:=by simpa using n41
 have e43:(xc == 43)=false:=by simpa using n43
 have e44:(xc == 44)=false:=by simpa using n44
 clear h
 unfold ptrP at *
 go_enter Tryz.func76,Tryz.ntmps76
 go_wp2_with fail
 generalize w.alloc _=w1 at *
 refine z06 5 rfl ?_
 generalize hQ:Exit.jump _ _ _=QJ
 go_wp2_with fail
 go_step3
 show QJ (.goto 5) _ _
 rw [← hQ]
 refine z0h ?_
 go_wp2_with (go_at_call 70;refine (ap_end b _ _ q 0 xc HA.out).mono ?_;rintro e w9 ⟨rfl,hl⟩;have HL:=Lh hl;clear hl)
 rw [z0b]
 go_end0
 exact ⟨rfl,HL.out.ahead HG.out HB.out⟩
theorem rm_next_ok {r:Rf} (hok:RmOk r) (ha:r.at_=1) {xe:Int} {xL:List (List Int)} (hf:fewL xL) (hs:nextB xe xL r.qe r.qL=true):RmOk ⟨r.qe,r.qL,xe,xL,2,r.i,r.tails,r.e⟩:=by
 have hg:=(nextB_iff.mp hs).1
 obtain ⟨_,o2,o3⟩:=hok.one ha
 have h1:=units_some hg
 refine ⟨⟨(by decide:(1:Int)≤2),(by decide:(2:Int)≤4)⟩,hok.qf,hf,fun g=>absurd g (by decide:¬ (2:Int)=1),fun _=>?_,fun u hu=>?_,rises_nodup (unitsR_rises xL),z26 hg,fun x hx=>?_,?_⟩
 ·show r.i < (unitsR xL).length
  omega
 ·exact units_16r hg hu
 ·have hx2:x ∈ r.tails:=hx
  rw [o3] at hx2
  cases hx2
 ·show r.tails.length≤r.i
  rw [o3,o2]
  exact Nat.le_refl _
theorem RfM.begun {b:Nat} {G:Nat→Prop} {w:World} {r:Rf} (h:RfM b G w r) (ha:r.at_=1) {xe:Int} {xL:List (List Int)} (hf:fewL xL) (hs:nextB xe xL r.qe r.qL=true) :
  ∃ v1 y2 y3 y6,w.heap[b]?=some (.cells #[.int .i64 r.qe,v1,.int .i64 r.oe,y2,.int .i64 0,y3,y6,.int .i64 0] 93 (0,0))∧
   ∀ (W:World) (C1 C2:Nat→Prop) (v2 v3:Value) (mb:Nat),Kept (fun k=>k≠b) w W→CG C1 W v2 xL→UG1 C2 W v3 (unitsR xL)→Tm W mb []→(∀ k,C1 k→w.heap.size≤k∧k < W.heap.size∧k≠mb)→(∀ k,C2 k→w.heap.size≤k∧k < W.heap.size∧k≠mb)→w.heap.size≤mb→
    W.heap[b]?=some (.cells #[.int .i64 r.qe,v1,.int .i64 xe,v2,.int .i64 1,v3,.map (some mb),.int .i64 0] 93 (0,0))→Leaves (RfM b) G w W ⟨r.qe,r.qL,xe,xL,2,r.i,r.tails,r.e⟩:=by
 obtain ⟨hok,v1,y2,y3,y6,F,q1,⟨hq,_,_⟩,_,hF⟩:=h.open (by omega)
 rw [ha] at q1
 refine ⟨v1,y2,y3,y6,q1,fun W C1 C2 v2 v3 mb hk hO hU hT h1 h2 hm hW=>?_⟩
 have hbs:=h.small
 have hT2:=Tm.lt hT
 obtain ⟨_,o2,o3⟩:=hok.one ha
 have hsz:=hk.size
 have hFl:∀ k,F k→k < w.heap.size:=fun k hf=>h.2.1 k (hF k hf).1
 refine h.lay (r':=⟨r.qe,r.qL,xe,xL,2,r.i,r.tails,r.e⟩) (D:=fun k=>F k∨C1 k∨C2 k) (fun k hk2=>?_) (hk.mono (fun k hg e=>hg (e ▸ h.1))) (by decide:(2:Int)≠5) (rm_next_ok hok ha hf hs) ⟨(hq.keep hk (fun k hf=>(hF k hf).2)).mono (fun k h=>.inl h),hO.mono (fun k h=>.inr (.inl h)),?_⟩ (.inr ⟨(by decide:(2:Int)≠1),mb,rfl,?_,⟨.inr ⟨hm,hT2⟩,by omega,fun hd=>?_⟩⟩) hW
 ·rcases hk2 with g | g | g
  ·exact ⟨.inl (hF k g).1,(hF k g).2⟩
  ·have:=h1 k g
   exact ⟨.inr ⟨this.1,this.2.1⟩,by omega⟩
  ·have:=h2 k g
   exact ⟨.inr ⟨this.1,this.2.1⟩,by omega⟩
 ·show UG1 _ W v3 ((unitsR xL).drop r.i)
  rw [o2]
  exact hU.mono (fun k h=>.inr (.inr h))
 ·show Tm W mb r.tails
  rw [o3]
  exact hT
 ·rcases hd with g | g | g
  ·have:=hFl _ g;omega
  ·exact (h1 _ g).2.2 rfl
  ·exact (h2 _ g).2.2 rfl
theorem five_sets {w:World} {b:Nat} {t:TypeId} {x0 x1 x2 x3 x4 x5 x6 x7:Value} (h:w.heap[b]?=some (.cells #[x0,x1,x2,x3,x4,x5,x6,x7] t (0,0))) (u2 u3 u5 u6 u4:Value) :
  ∃ V,V=((((w.setCell ⟨b,2,none⟩ u2).setCell ⟨b,3,none⟩ u3).setCell ⟨b,5,none⟩ u5).setCell ⟨b,6,none⟩ u6).setCell ⟨b,4,none⟩ u4∧Kept (fun k=>k≠b) w V∧V.heap.size=w.heap.size∧V.heap[b]?=some (.cells #[x0,x1,u2,u3,u4,u5,u6,x7] t (0,0)) :=
 ⟨_,rfl,(((((Kept.refl _ w).setCell (p:=⟨b,2,none⟩) (fun h=>h rfl) u2).setCell (p:=⟨b,3,none⟩) (fun h=>h rfl) u3).setCell (p:=⟨b,5,none⟩) (fun h=>h rfl) u5).setCell (p:=⟨b,6,none⟩) (fun h=>h rfl) u6).setCell (p:=⟨b,4,none⟩) (fun h=>h rfl) u4,by simp [World.setCell],z0x (z19 (z1a (z1t (z1u h u2) u3) u5) u6) u4⟩
theorem tm_ahead {w1 w3:World} (hb:Below (w1.alloc (.map #[] 0)).drew.heap.size (w1.alloc (.map #[] 0)).drew w3):Tm w3 w1.heap.size []∧w1.heap.size < w3.heap.size:=by
 have h:Tm (w1.alloc (.map #[] 0)).drew w1.heap.size []:=(Tm.made w1).below (Below.refl _ _).drew
 exact ⟨h.below hb,Nat.lt_of_lt_of_le h.lt hb.size⟩
theorem tm_mid {w3 w4:World} (hb:Below (w3.alloc (.map #[] 0)).heap.size (w3.alloc (.map #[] 0)) w4):Tm w4 w3.heap.size []:=(Tm.made w3).below hb
theorem two_off {W:World} {k o g:Nat} {y0 y1 v:Value} (hne:g≠k) (h:W.cell? ⟨g,0,none⟩=some y0∧W.cell? ⟨g,1,none⟩=some y1):(W.setCell ⟨k,o,none⟩ v).cell? ⟨g,0,none⟩=some y0∧(W.setCell ⟨k,o,none⟩ v).cell? ⟨g,1,none⟩=some y1 :=
 ⟨kept_cellR ((Kept.refl (fun j=>j≠k) W).setCell (p:=⟨k,o,none⟩) (fun h=>h rfl) v) hne h.1,kept_cellR ((Kept.refl (fun j=>j≠k) W).setCell (p:=⟨k,o,none⟩) (fun h=>h rfl) v) hne h.2⟩
theorem two_drew {W:World} {g:Nat} {y0 y1:Value} (h:W.cell? ⟨g,0,none⟩=some y0∧W.cell? ⟨g,1,none⟩=some y1):W.drew.cell? ⟨g,0,none⟩=some y0∧W.drew.cell? ⟨g,1,none⟩=some y1:=h
theorem two_on {W:World} {g:Nat} {y0 y1:Value} {x:Obj} (h:W.cell? ⟨g,0,none⟩=some y0∧W.cell? ⟨g,1,none⟩=some y1):(W.alloc x).cell? ⟨g,0,none⟩=some y0∧(W.alloc x).cell? ⟨g,1,none⟩=some y1 :=
 ⟨z0s ((Below.refl W.heap.size W).alloc (Nat.le_refl _) x) (block_lt_of_cell h.1) h.1,z0s ((Below.refl W.heap.size W).alloc (Nat.le_refl _) x) (block_lt_of_cell h.2) h.2⟩
theorem mp_begin (b:Nat) (G:Nat→Prop) (w:World) (r:Rf) (xe:Int) (xo:Option Addr) (xp:Nat) (xL:List (List Int)) (h:RfM b G w r) (ha:r.at_=1) (hs:nextB xe xL r.qe r.qL=true) (hf:fewL xL) (hx:CL w xo xL) :
  Calls Tryz.prog 57 #[ptrP b,.agg #[.int .i64 xe,.slice xo xL.length xp]] w fun e w'=>e=.returned (.tuple #[])∧Leaves (RfM b) G w w' ⟨r.qe,r.qL,xe,xL,2,r.i,r.tails,r.e⟩:=by
 have HB:=Lh (z00 w (.cells #[.int .i64 xe,.slice xo xL.length xp] 24))
 have HX:=Lh (heap_alloc_new w (.cells #[.int .i64 xe,.slice xo xL.length xp] 24))
 have HT:=Lh h
 obtain ⟨v1,y2,y3,y6,h1,hbg⟩:=RfM.begun h ha hf hs
 have HH1:=Lh h1
 have HBG:=Lh hbg
 replace h1:=z01 HB.out h1
 have HC:=Lh (hx.below HB.out)
 have hnb:w.heap.size≠b:=by have:=h.small;omega
 obtain ⟨q0,q1,_⟩:=z05 HX.out
 obtain ⟨⟨c0,c1,c2,c3,c4,c5,c6,c7⟩,f0,f1,f2,f3,f4,f5,f6,f7⟩:=z03 h1
 have hb:=lt_of_block h1
 have H1:=Lh h1
 have CC:=Lh (fun W (hC:CL W xo xL)=>z14 xe xo xp xL W hC hf)
 have CU:=Lh (fun W (hC:CL W xo xL)=>punitsO_any xe xo xp xL W hC hf)
 have HNB:=Lh hnb
 have hmm:=@run_makeMap Tryz.prog
 have HBW:=Lh h.small
 clear h h1 hx hbg
 unfold ptrP at *
 go_enter Tryz.func57,Tryz.ntmps57
 go_wp2_with fail
 generalize w.alloc _=w1 at *
 have S1d:=Lh (show w1.drew.cell? ⟨w.heap.size,0,none⟩=some (.int .i64 xe)∧w1.drew.cell? ⟨w.heap.size,1,none⟩=some (.slice xo xL.length xp) from ⟨q0,q1⟩)
 go_region_held3 (fun W=>W.cell? ⟨w.heap.size,0,none⟩=some (.int .i64 xe)∧W.cell? ⟨w.heap.size,1,none⟩=some (.slice xo xL.length xp))
  (first | with_reducible exact S1d.out | with_reducible exact S3.out | with_reducible exact S4.out | with_reducible assumption | ((repeat (first | with_reducible refine two_off HNB.out ?_ | with_reducible refine two_on ?_ | with_reducible refine two_drew ?_));first | with_reducible exact S4.out | with_reducible exact S3.out | with_reducible exact ⟨q0,q1⟩ | with_reducible exact S1d.out))
  (first | (go_at_call 46;refine (CC.out _ (by first | with_reducible exact HC.out.below (Below.refl _ _).drew | with_reducible exact HC.out.below ((Below.refl _ _).alloc (Nat.le_refl _) _).drew)).mono ?_;rintro e w3 ⟨v,rfl,hO,hb3⟩;obtain ⟨vo,vc,hv,_⟩:=hO.form;subst hv;have HO:=Lh (CG.of hO);have B3:=Lh (show Below w1.heap.size w1 w3 from by first | with_reducible exact z0c hb3 (Below.refl _ _).drew | with_reducible exact z0c hb3 ((Below.refl _ _).alloc (Nat.le_refl _) _).drew);have Z3:=Lh hb3.size;have X3:=Lh (z01 B3.out HX.out);have S3:=Lh (show w3.cell? ⟨w.heap.size,0,none⟩=some (.int .i64 xe)∧w3.cell? ⟨w.heap.size,1,none⟩=some (.slice xo xL.length xp) from ⟨z02 X3.out 0,z02 X3.out 1⟩);(try with_reducible have TM:=Lh (tm_ahead hb3));clear hO hb3) | (go_at_call 52;refine (CU.out _ (by first | with_reducible exact HC.out.below B3.out | with_reducible exact HC.out.below (B3.out.alloc B3.out.size _))).mono ?_;rintro e w4 ⟨v4,rfl,hU,hb4⟩;obtain ⟨uo,uc,hv,_⟩:=hU.form;subst hv;have HU:=Lh (UG1.of hU);have B4:=Lh (show Below w1.heap.size w1 w4 from by first | with_reducible exact z0c hb4 B3.out | with_reducible exact z0c hb4 (B3.out.alloc B3.out.size _));have Q4:=Lh (show Below w3.heap.size w3 w4 from by first | with_reducible exact hb4 | with_reducible exact z0c hb4 ((Below.refl _ _).alloc (Nat.le_refl _) _));have Z4:=Lh hb4.size;have X4:=Lh (z01 B4.out HX.out);have S4:=Lh (show w4.cell? ⟨w.heap.size,0,none⟩=some (.int .i64 xe)∧w4.cell? ⟨w.heap.size,1,none⟩=some (.slice xo xL.length xp) from ⟨z02 X4.out 0,z02 X4.out 1⟩);have H4:=Lh (z01 B4.out H1.out);obtain ⟨⟨d0,d1,d2,d3,d4,d5,d6,d7⟩,g0,g1,g2,g3,g4,g5,g6,g7⟩:=z03 H4.out;have hb4b:=lt_of_block H4.out;(try with_reducible have TM:=Lh (tm_mid hb4));clear hU hb4))
 ·go_wp2_with fail
  have hBZ:=HB.out.trans (B4.out.mono HB.out.size)
  have z1:=HB.out.size
  have z3:=Z3.out
  have z4:=Z4.out
  have q4:=Q4.out.size
  have zb:=HBW.out
  obtain ⟨V,hVe,hkV,hsV,hV⟩:=five_sets (z01 hBZ HH1.out) (.int .i64 xe) (.slice vo xL.length vc) (.slice uo (unitsR xL).length uc) (.map (some w4.heap.size)) (.int .i64 1)
  rw [← hVe]
  clear hVe
  first | go_end0 | refine bodyPost_ret (results_none rfl _ _ _) rfl ?_
  have m4:(V.alloc (.map #[] 0)).heap.size=V.heap.size+1:=by simp
  have m0:w1.drew.heap.size=w1.heap.size:=rfl
  have hTM:=Tm.made V
  rw [hsV] at hTM
  have hbn:=z00 V (.map #[] 0)
  exact ⟨rfl,HBG.out (V.alloc (.map #[] 0)) _ _ _ _ w4.heap.size (((Kept.ofBelow hBZ _).trans hkV).trans (Kept.ofBelow hbn _)) (((HO.out.keep (Kept.ofBelow Q4.out (fun _=>True)) (fun _ _=>trivial)).keep hkV (fun k hk=>by have:=hk.1;omega)).keep (Kept.ofBelow hbn (fun _=>True)) (fun _ _=>trivial)) ((HU.out.keep hkV (fun k hk=>by have:=hk.1;omega)).keep (Kept.ofBelow hbn (fun _=>True)) (fun _ _=>trivial)) hTM (fun k hk=>⟨by have:=hk.1;omega,by have:=hk.2;omega,by have:=hk.2;omega⟩) (fun k hk=>⟨by have:=hk.1;omega,by have:=hk.2;omega,by have:=hk.2;omega⟩) (by omega) (z01 hbn hV)⟩
 ·go_wp2_with fail
  have hBZ:=HB.out.trans (B4.out.mono HB.out.size)
  have z1:=HB.out.size
  have z3:=Z3.out
  have z4:=Z4.out
  have q4:=Q4.out.size
  have zb:=HBW.out
  obtain ⟨V,hVe,hkV,hsV,hV⟩:=five_sets (z01 hBZ HH1.out) (.int .i64 xe) (.slice vo xL.length vc) (.slice uo (unitsR xL).length uc) (.map (some w4.heap.size)) (.int .i64 1)
  rw [← hVe]
  clear hVe
  first | go_end0 | refine bodyPost_ret (results_none rfl _ _ _) rfl ?_
  have m4:(V.alloc (.map #[] 0)).heap.size=V.heap.size+1:=by simp
  have m0:w1.drew.heap.size=w1.heap.size:=rfl
  have hTM:=Tm.made V
  rw [hsV] at hTM
  have hbn:=z00 V (.map #[] 0)
  exact ⟨rfl,HBG.out (V.alloc (.map #[] 0)) _ _ _ _ w4.heap.size (((Kept.ofBelow hBZ _).trans hkV).trans (Kept.ofBelow hbn _)) (((HO.out.keep (Kept.ofBelow Q4.out (fun _=>True)) (fun _ _=>trivial)).keep hkV (fun k hk=>by have:=hk.1;omega)).keep (Kept.ofBelow hbn (fun _=>True)) (fun _ _=>trivial)) ((HU.out.keep hkV (fun k hk=>by have:=hk.1;omega)).keep (Kept.ofBelow hbn (fun _=>True)) (fun _ _=>trivial)) hTM (fun k hk=>⟨by have:=hk.1;omega,by have:=hk.2;omega,by have:=hk.2;omega⟩) (fun k hk=>⟨by have:=hk.1;omega,by have:=hk.2;omega,by have:=hk.2;omega⟩) (by omega) (z01 hbn hV)⟩
 ·go_wp2_with fail
  have hBZ:=HB.out.trans (B4.out.mono HB.out.size)
  have z1:=HB.out.size
  have z3:=Z3.out
  have z4:=Z4.out
  have q4:=Q4.out.size
  have zb:=HBW.out
  obtain ⟨V,hVe,hkV,hsV,hV⟩:=five_sets (z01 hBZ HH1.out) (.int .i64 xe) (.slice vo xL.length vc) (.slice uo (unitsR xL).length uc) (.map (some w4.heap.size)) (.int .i64 1)
  rw [← hVe]
  clear hVe
  first | go_end0 | refine bodyPost_ret (results_none rfl _ _ _) rfl ?_
  have m4:(V.alloc (.map #[] 0)).heap.size=V.heap.size+1:=by simp
  have m0:w1.drew.heap.size=w1.heap.size:=rfl
  have hTM:=Tm.made V
  rw [hsV] at hTM
  have hbn:=z00 V (.map #[] 0)
  exact ⟨rfl,HBG.out (V.alloc (.map #[] 0)) _ _ _ _ w4.heap.size (((Kept.ofBelow hBZ _).trans hkV).trans (Kept.ofBelow hbn _)) (((HO.out.keep (Kept.ofBelow Q4.out (fun _=>True)) (fun _ _=>trivial)).keep hkV (fun k hk=>by have:=hk.1;omega)).keep (Kept.ofBelow hbn (fun _=>True)) (fun _ _=>trivial)) ((HU.out.keep hkV (fun k hk=>by have:=hk.1;omega)).keep (Kept.ofBelow hbn (fun _=>True)) (fun _ _=>trivial)) hTM (fun k hk=>⟨by have:=hk.1;omega,by have:=hk.2;omega,by have:=hk.2;omega⟩) (fun k hk=>⟨by have:=hk.1;omega,by have:=hk.2;omega,by have:=hk.2;omega⟩) (by omega) (z01 hbn hV)⟩
 ·go_wp2_with fail
  have hBZ:=HB.out.trans (B4.out.mono HB.out.size)
  have z1:=HB.out.size
  have z3:=Z3.out
  have z4:=Z4.out
  have q4:=Q4.out.size
  have zb:=HBW.out
  obtain ⟨V,hVe,hkV,hsV,hV⟩:=five_sets (z01 hBZ HH1.out) (.int .i64 xe) (.slice vo xL.length vc) (.slice uo (unitsR xL).length uc) (.map (some w3.heap.size)) (.int .i64 1)
  rw [← hVe]
  clear hVe
  first | go_end0 | refine bodyPost_ret (results_none rfl _ _ _) rfl ?_
  have m3:(w3.alloc (.map #[] 0)).heap.size=w3.heap.size+1:=by simp
  have m0:w1.drew.heap.size=w1.heap.size:=rfl
  exact ⟨rfl,HBG.out V _ _ _ _ w3.heap.size ((Kept.ofBelow hBZ _).trans hkV) ((HO.out.keep (Kept.ofBelow Q4.out (fun _=>True)) (fun _ _=>trivial)).keep hkV (fun k hk=>by have:=hk.1;omega)) (HU.out.keep hkV (fun k hk=>by have:=hk.1;omega)) (TM.out.keepK hkV (by omega)) (fun k hk=>⟨by have:=hk.1;omega,by have:=hk.2;omega,by have:=hk.2;omega⟩) (fun k hk=>⟨by have:=hk.1;omega,by have:=hk.2;omega,by have:=hk.1;omega⟩) (by omega) hV⟩
 ·go_wp2_with fail
  have hBZ:=HB.out.trans (B4.out.mono HB.out.size)
  have z1:=HB.out.size
  have z3:=Z3.out
  have z4:=Z4.out
  have q4:=Q4.out.size
  have zb:=HBW.out
  obtain ⟨V,hVe,hkV,hsV,hV⟩:=five_sets (z01 hBZ HH1.out) (.int .i64 xe) (.slice vo xL.length vc) (.slice uo (unitsR xL).length uc) (.map (some w1.heap.size)) (.int .i64 1)
  rw [← hVe]
  clear hVe
  first | go_end0 | refine bodyPost_ret (results_none rfl _ _ _) rfl ?_
  have m1:(w1.alloc (.map #[] 0)).drew.heap.size=w1.heap.size+1:=by simp
  exact ⟨rfl,HBG.out V _ _ _ _ w1.heap.size ((Kept.ofBelow hBZ _).trans hkV) ((HO.out.keep (Kept.ofBelow Q4.out (fun _=>True)) (fun _ _=>trivial)).keep hkV (fun k hk=>by have:=hk.1;omega)) (HU.out.keep hkV (fun k hk=>by have:=hk.1;omega)) ((TM.out.1.below Q4.out).keepK hkV (by omega)) (fun k hk=>⟨by have:=hk.1;omega,by have:=hk.2;omega,by have:=hk.1;omega⟩) (fun k hk=>⟨by have:=hk.1;omega,by have:=hk.2;omega,by have:=hk.1;have:=TM.out.2;omega⟩) (by omega) hV⟩
structure Fell (n n1:Nd) (qL:List (List Int)):Prop where
 p:∀ i,(n1.u i).p=(n.u i).p
 ep:∀ i,(n1.u i).epoch=(n.u i).epoch
 down:∀ i:Nat,(n1.u i).down=true→(n.u i).down=true∨(i:Int) ∉ unitsR qL
 o:n1.o=n.o
 l:n1.l=n.l
theorem Fell.refl (n:Nd) (qL:List (List Int)):Fell n n qL:=⟨fun _=>rfl,fun _=>rfl,fun _ h=>.inl h,rfl,rfl⟩
structure QN (oL:List (List Int)) (qe:Int) (qL:List (List Int)) (m:Nat) (txt:Nat→ByteArray) (n:Nd):Prop where
 gt:GtN qe qL n
 le:n.l.ep=qe
 lL:n.l.L=qL
 used:n.l.used.length≤1000
 o:n.o=⟨qe,m,true⟩
 shut:∀ u ∈ unitsR oL,(n.u u.toNat).down=true∨(n.u u.toNat).epoch=qe
 got:∀ a,ofB qe qL a=true→a < m→PreG qe qL n a∧GK qe qL n a 0=1∧GX qe qL n a 0=txt a.toNat
 free:∀ a,ofB qe qL a=true→(m:Int)≤a→∀ j,j < lenG qe qL a→GK qe qL n a j=0
section
variable {E:Int} {M:List (List Int)} {n n1 n2:Nd} {m:Nat} {txt:Nat→ByteArray} {qe:Int} {qL:List (List Int)}
theorem RecN.ready (h:RecN E M n m txt) (hx:nextB E M qe qL=true) (F:Fell n n1 qL):Ready n1 qe qL:=by
 obtain ⟨_,_,h3,_,_⟩:=nextB_iff.1 hx
 refine ⟨?_,?_,fun i=>?_,fun u hu hq=>?_,?_,fun i=>by rw [F.p];exact (h.base.each i).1⟩
 ·unfold Ly.may
  rw [F.l,h.le,h.lL,hx,h.lu,Bool.true_and]
  rw [List.all_eq_true]
  intro u hu
  by_cases e:u ∈ unitsR M
  ·simp [e]
  ·simp [e]
 ·rw [F.l,h.le,h.lL];exact h.good
 ·rw [F.ep]
  have:=h.ep i
  omega
 ·rw [F.l,h.lL] at hu
  have hr:=units_16r h.good hu
  cases e:(n1.u u.toNat).down with
  | false=>rfl
  | true =>
   rcases F.down _ e with g | g
   ·rw [h.up] at g;cases g
   ·rw [Int.toNat_of_nonneg hr.1] at g
    exact absurd hq g
 ·rw [F.o,h.o]
  show E < qe
  omega
theorem RecN.turned (h:RecN E M n m txt) (hx:nextB E M qe qL=true) (F:Fell n n1 qL) (hS:Same n1 n2 qe):Turned E M n1 qe qL n2:=by
 obtain ⟨_,hq,h3,_,_⟩:=nextB_iff.1 hx
 refine ⟨hx,hS,⟨fun i=>?_⟩,fun i=>?_,fun u hu=>?_,fun u hu hn q=>?_⟩
 ·rw [F.p];exact h.base.each i
 ·rw [F.ep]
  have:=h.ep i
  omega
 ·have hr:=units_16r hq hu
  cases e:(n1.u u.toNat).down with
  | false=>rfl
  | true =>
   rcases F.down _ e with g | g
   ·rw [h.up] at g;cases g
   ·rw [Int.toNat_of_nonneg hr.1] at g
    exact absurd hu g
 ·have hr:=units_16r hq hu
  rw [F.p]
  exact h.out u.toNat (by rw [Int.toNat_of_nonneg hr.1];exact hn) q
theorem RecN.changed (h:RecN E M n m txt) (hm:m≤14) (hx:nextB E M qe qL=true) (F:Fell n n1 qL) {K:List (Int × Int)} (C:ChgN n1 qe qL K n2):QN M qe qL m txt n2:=by
 obtain ⟨_,hq,h3,h4,_⟩:=nextB_iff.1 hx
 have T:=h.turned hx F C.same
 have eL:n1.l.L=M:=by rw [F.l];exact h.lL
 have eE:n1.l.ep=E:=by rw [F.l];exact h.le
 have hK1:=C.tails.of
 have hK2:=C.tails.all
 have hcl:=C.closed
 have ho:=C.o
 rw [eL] at hK1 hK2 hcl ho
 rw [eE] at ho
 have pk:∀ a j,GK E M n1 a j=GK E M n a j∧GX E M n1 a j=GX E M n a j:=fun a j=>by
  unfold GK GX
  rw [F.p]
  exact ⟨rfl,rfl⟩
 have top:tailR E M K=m:=by
  refine h.top hm (fun x hx2=>?_) (fun i hi=>?_)
  ·obtain ⟨g1,g2⟩:=hK1 x hx2
   rw [F.p] at g2
   exact ⟨g1,g2⟩
  ·obtain ⟨t,t1,t2,t3,t4⟩:=next_chain hx hi (by omega)
   have l1:0 < (qL[i].take t).length:=by rw [List.length_take];omega
   have hu1:(qL[i].take t)[0] ∈ M[i]:=t3.subset (List.getElem_mem l1)
   have hu2:(qL[i].take t)[0] ∈ qL[i]:=List.mem_of_mem_take (List.getElem_mem l1)
   generalize (qL[i].take t)[0]=u at hu1 hu2
   have hm1:u ∈ unitsR M:=by
    rw [z1z,List.mem_flatten]
    exact ⟨_,List.getElem_mem hi,hu1⟩
   have hm2:u ∈ unitsR qL:=by
    rw [z1z,List.mem_flatten]
    exact ⟨_,List.getElem_mem (show i < qL.length by omega),hu2⟩
   obtain ⟨j,hj,rfl⟩:=List.getElem_of_mem hm1
   have:=hK2 j hj hj (T.up _ hm2)
   rw [F.p] at this
   exact ⟨_,hu1,this⟩
 have l2:=C.l
 have up:=z26 h.good
 have uq:=z26 hq
 refine ⟨T.gt,by rw [l2];rfl,by rw [l2];rfl,?_,by rw [ho,top],fun u hu=>?_,fun a ha ham=>?_,fun a ha ham j hj=>?_⟩
 ·rw [l2]
  show (n1.l.used ++ unitsR qL).length≤1000
  rw [List.length_append,F.l,h.lu]
  omega
 ·rcases hcl u hu with g | g
  ·exact .inr g.2
  ·exact .inl g.1
 ·have hb:=T.of.1.1 ha
  obtain ⟨t,σ,s1,s2,s3,s4,s5⟩:=T.have ha
  have hp:PreG E M n1 a:=fun j hj _=>by
   obtain ⟨g1,g2⟩:=h.got a hb ham j (by omega)
   obtain ⟨g3,g4⟩:=h.got a hb ham (j+1) hj
   rw [(pk a j).1,(pk a (j+1)).1,(pk a j).2,(pk a (j+1)).2,g1,g2,g3,g4]
   exact ⟨rfl,fun _=>rfl⟩
  obtain ⟨a1,a2,a3⟩:=s3 0 (by omega)
  obtain ⟨g1,g2⟩:=h.got a hb ham (σ 0) a1
  exact ⟨T.pre ha hp,by rw [a2,(pk a _).1,g1],by rw [a3,(pk a _).2,g2]⟩
 ·have hb:=T.of.1.1 ha
  obtain ⟨t,σ,s1,s2,s3,s4,s5⟩:=T.have ha
  rcases Nat.lt_or_ge j t with g | g
  ·obtain ⟨a1,a2,a3⟩:=s3 j g
   rw [a2,(pk a _).1]
   exact h.free a hb ham (σ j) a1
  ·exact s5 j g hj
theorem QN.get {oL:List (List Int)} (Q:QN oL qe qL m txt n) {a:Int} (ha:AdG qe qL a) (ham:a < m):GNod qe qL n 1 (txt a.toNat) a true n:=by
 obtain ⟨g1,g2,g3⟩:=Q.got a ha.of ham
 have:=GNod.start Q.gt ha g1 (by rw [g2];decide)
 rw [g2,g3,if_neg (by decide)] at this
 exact this
theorem QN.fetched {oL:List (List Int)} (Q:QN oL qe qL m txt n) {a:Int} (ha:AdG qe qL a) (ham:a < m) {n':Nd} (G:GNod qe qL n 1 (txt a.toNat) a true n') (hall:∀ j,j < lenG qe qL a→GK qe qL n' a j=1):QN oL qe qL m txt n':=by
 have hlen:=z1b ha.of
 refine ⟨G.ft,by rw [G.l];exact Q.le,by rw [G.l];exact Q.lL,by rw [G.l];exact Q.used,G.o.trans Q.o,fun u hu=>?_,fun b hb hbm=>?_,fun b hb hbm j hj=>?_⟩
 ·rcases Q.shut u hu with e | e
  ·refine .inl ?_
   rw [G.rest u.toNat (fun j hj hn=>?_)]
   ·exact e
   ·have:=(Q.gt.u a j ha.of hj).up
    rw [← hn,e] at this
    cases this
  ·exact .inr ((G.epoch _).trans e)
 ·by_cases e:b=a
  ·subst e
   have tx:∀ j,j < lenG qe qL b→GX qe qL n' b j=txt b.toNat:=fun j hj=>by
    rcases G.each j hj with g | g
    ·have:=hall j hj;omega
    ·exact g.2 rfl
   exact ⟨G.pre,hall 0 (by omega),tx 0 (by omega)⟩
  ·obtain ⟨g1,g2,g3⟩:=Q.got b hb hbm
   have hl:=z1b hb
   refine ⟨fun j hj h0=>?_,?_,?_⟩
   ·obtain ⟨a1,a2⟩:=G.off b j hb (by omega) e
    obtain ⟨b1,b2⟩:=G.off b (j+1) hb hj e
    rw [a1,b1,a2,b2]
    exact g1 j hj (by rw [← b1];exact h0)
   ·rw [(G.off b 0 hb (by omega) e).1];exact g2
   ·rw [(G.off b 0 hb (by omega) e).2];exact g3
 ·rw [(G.off b j hb hj (by omega)).1]
  exact Q.free b hb hbm j hj
theorem QN.ad {oL:List (List Int)} (Q:QN oL qe qL m txt n) (hq:goodB qe qL=true) (k:Nat) (hk:k < 14):AdG qe qL k:=by
 have ho:ofB qe qL (k:Int)=true:=ofB_iff.2 ⟨hq,by omega,by omega⟩
 refine ⟨ho,?_⟩
 obtain ⟨_,_,_,_,q1,_⟩:=z12 ho
 obtain ⟨n1,n4⟩:=z0v hq
 rw [q1]
 rcases z0y (n:=qL.length) ⟨by omega,by omega⟩ with e | e | e | e <;> rw [e] <;> omega
theorem QN.put {oL:List (List Int)} (Q:QN oL qe qL m txt n) (hq:goodB qe qL=true) (hm:m < 14):PutR qe qL n m :=
 ⟨Q.gt,Q.ad hq m hm,Q.o,Q.le,Q.lL,fun j hj=>Q.free m (Q.ad hq m hm).of (Int.le_refl _) j hj⟩
end
end Go.Proofs.YtkefpbcifcjibaaGreat
