/- Joined texts. -/
import Derived.StillTailTactics
import Derived.Test.YtkefpbcifcjibaaGreatG23a
import Derived.Deep.RegionHeld3
import Derived.Test.YtkefpbcifcjibaaGreatG23b
import Derived.Test.YtkefpbcifcjibaaGreatG17a
import Derived.Test.YtkefpbcifcjibaaGreatH00
set_option linter.unusedVariables false
set_option maxRecDepth 20000
set_option maxHeartbeats 16000000
namespace Go.Proofs.YtkefpbcifcjibaaGreat
open Go.RowKit
theorem fp_nil_ask (w:World):Calls Tryz.prog 67 #[.pointer none] w fun e w'=>e=.returned (.tuple #[askV zeroK,.bool false])∧Below w.heap.size w w':=by
 have C:=Lh (fun w=>fp_isOver_nil w)
 have HR:=heap_alloc_new w (.cells #[.int .i64 0,.int .i64 0,.int .i64 0,.int .i64 0,.int .i64 0,.int .i64 0,.string ⟨#[]⟩,.int .i64 0,.slice none 0 0] 34)
 have HB:=Lh (z00 w (.cells #[.int .i64 0,.int .i64 0,.int .i64 0,.int .i64 0,.int .i64 0,.int .i64 0,.string ⟨#[]⟩,.int .i64 0,.slice none 0 0] 34))
 go_enter Tryz.func67,Tryz.ntmps67
 go_wp2_with (go_at_call 103;refine (C.out _).mono ?_;rintro e w1 ⟨rfl,rfl⟩)
 exact z0o (x:=zeroK) rfl HR rfl rfl rfl ⟨rfl,HB.out⟩
theorem fp_nil_hear (x:An) (ao:Option Addr) (cap:Nat) (c:Bool) (w:World):Calls Tryz.prog 68 #[.pointer none,ansV x ao cap,.bool c] w fun e w'=>e=.returned (.tuple #[])∧Below w.heap.size w w':=by
 have C:=Lh (fun w=>fp_isOver_nil w)
 obtain ⟨xc,xn,xd,xe,xL,xm,xs,xp⟩:=x
 show Calls _ _ #[.pointer none,.agg #[.int .i64 xc,.int .i64 xn,.string xd,.int .i64 xe,.slice ao xL.length cap,.int .i64 xm,.int .i64 xs,.int .i64 xp],.bool c] w _
 have HB:=Lh (z00 w (.cells #[.int .i64 xc,.int .i64 xn,.string xd,.int .i64 xe,.slice ao xL.length cap,.int .i64 xm,.int .i64 xs,.int .i64 xp] 49))
 cases c
 all_goals
  go_enter Tryz.func68,Tryz.ntmps68
  go_wp2_with (go_at_call 103;refine (C.out _).mono ?_;rintro e w1 ⟨rfl,rfl⟩)
  exact bodyPost_ret (results_none rfl _ _ _) rfl ⟨rfl,HB.out⟩
theorem fp_nil_over (w:World):Calls Tryz.prog 69 #[.pointer none] w fun e w'=>e=.returned (.tuple #[.int .i64 0,.string ⟨#[]⟩,.int .i64 1,.bool true])∧Below w.heap.size w w':=by
 go_enter Tryz.func69,Tryz.ntmps69
 go_wp2_with fail
 (try simp only [Exit.inBlock,Exit.then])
 refine bodyPost_ret (results_tmp4 rfl _ _ _) rfl ?_
 exact ⟨rfl,Below.refl _ _⟩
theorem pageF_keep {W:World} {b:Nat} {t:TypeId} {v0 v1 v2 v3 v4 v5 v6 v7 v8 v9:Value} (h:W.heap[b]?=some (.cells #[v0,v1,v2,v3,v4,v5,v6,v7,v8,v9] t (0,0))) :
  W.cell? ⟨b,0,none⟩=some v0∧W.cell? ⟨b,1,none⟩=some v1∧W.cell? ⟨b,2,none⟩=some v2:=⟨z02 h 0,z02 h 1,z02 h 2⟩
theorem fp_page (b:Nat) (G:Nat→Prop) (w:World) (q:Qf) (kind:Int) (i:Nat) (h:FQ b G w q) (hf:fewL q.L) (ho:ofB q.ep q.L q.addr=true) (hu:q.unit=(i:Int)) (hi:i < (chainR q.ep q.L q.addr).length) :
  Calls Tryz.prog 105 #[ptrP b,.int .i64 kind] w fun e w' =>
   e=.returned (.agg #[.int .i64 kind,.int .i64 ((chainR q.ep q.L q.addr).getD i 0),.int .i64 q.ep,.int .i64 (ofP q.ep q.L q.addr),.int .i64 0,.int .i64 0,.string ⟨#[]⟩,.int .i64 0,.slice none 0 0])∧Below w.heap.size w w':=by
 obtain ⟨hg,ha⟩:=ofB_iff.1 ho
 obtain ⟨n1,n4⟩:=z0v hg
 obtain ⟨r1,_,_⟩:=of_range (n:=q.L.length) ⟨by omega,by omega⟩ ha
 obtain ⟨k,hk⟩:=Int.eq_ofNat_of_zero_le r1.1
 have hkl:k < q.L.length:=by omega
 have hp:ofP q.ep q.L q.addr=q.addr / (q.L.length:Int):=by unfold ofP;rw [if_pos ho]
 rw [chainR_yes ho hkl hk] at hi ⊢
 rw [hp,show q.L[k].getD i 0=q.L[k][i] from by simp [hi]]
 obtain ⟨ao,cap,h1,hc,_⟩:=h.open
 have HB:=Lh (z00 w (.cells #[.int .i64 0,.int .i64 0,.int .i64 0,.int .i64 0,.int .i64 0,.int .i64 0,.string ⟨#[]⟩,.int .i64 0,.slice none 0 0] 34))
 have HZ:=Lh (heap_alloc_new w (.cells #[.int .i64 0,.int .i64 0,.int .i64 0,.int .i64 0,.int .i64 0,.int .i64 0,.string ⟨#[]⟩,.int .i64 0,.slice none 0 0] 34))
 have CO:=Lh (fun W (hC:CL W ao q.L)=>pOf_any q.ep ao cap q.L q.addr W hC hf)
 rw [ofV_is ho,hk] at CO
 have H1:=Lh (z01 HB.out h1)
 have HC:=Lh (hc.below HB.out)
 rw [hu] at H1
 have k0:(k:Int) < (q.L.length:Int):=by omega
 have i0:(i:Int) < (q.L[k].length:Int):=by omega
 clear h h1 hc hg ha ho hf hp n1 n4 r1 hk
 generalize q.addr / (q.L.length:Int)=pg at *
 unfold ptrP
 go_enter Tryz.func105,Tryz.ntmps105
 go_wp2_with fail
 generalize w.alloc _=w1 at *
 have HK:=Lh (fun W (hb:Below w1.heap.size w1 W)=>And.intro (HC.out.below hb) (z01 hb H1.out))
 have hs1:w.heap.size < w1.heap.size:=lt_of_block HZ.out
 obtain ⟨⟨c0,c1,c2,c3,c4,c5,c6,c7,c8,c9⟩,_⟩:=ten_of H1.out
 go_region_held3 (fun W=>W.cell? ⟨b,0,none⟩=some (.int .i64 q.ep)∧W.cell? ⟨b,1,none⟩=some (.slice ao q.L.length cap)∧W.cell? ⟨b,2,none⟩=some (.int .i64 q.addr))
  (first | exact ⟨c0,c1,c2⟩ | assumption | exact pageF_keep H2.out | exact pageF_keep (HK.out _ ((HB2.out.setCell (by simp) _).setCell (by simp) _)).2 | exact pageF_keep (HK.out _ (HB2.out.alloc HB2.out.size _)).2 | exact pageF_keep (HK.out _ (z00 w1 _).drew).2 | exact pageF_keep (HK.out _ (z00 w1 _)).2 | exact pageF_keep (HK.out _ (Below.refl _ w1).drew).2)
  (first | (go_at_call 100;refine (CO.out _ (HK.out _ (by first | exact (Below.refl _ _).drew | exact (z00 _ _).drew | exact z00 _ _)).1).mono ?_;rintro e w2 ⟨rfl,hb2⟩;have HB2:=Lh (z0c (w1:=w1) hb2 (by first | exact (Below.refl _ _).drew | exact (z00 _ _).drew | exact z00 _ _));have H2:=Lh (HK.out _ HB2.out).2;first | (have HP:=Lh (show w2.heap[w1.heap.size]?=some (.cells #[.int .i64 0,.int .i64 0] 150 (0,0)) from z01 hb2 (heap_alloc_new w1 (.cells #[.int .i64 0,.int .i64 0] 150)));obtain ⟨p0,p1,g0,g1⟩:=z05 HP.out;have hpl:=lt_of_block HP.out) | skip))
 ·have HB3:=Lh (HB2.out.alloc HB2.out.size (.cells #[.int .i64 k,.int .i64 pg] 150))
  have HP3:=Lh (heap_alloc_new w2 (.cells #[.int .i64 k,.int .i64 pg] 150))
  generalize w2.alloc _=w3 at *
  obtain ⟨bk,off,ai,ci,hao,hrow,hnum⟩:=(HK.out _ HB3.out).1 k hkl
  obtain ⟨bn,on,hai,hnc⟩:=hnum.at i hi
  subst hao hai
  obtain ⟨⟨d0,d1,d2,d3,d4,d5,d6,d7,d8,d9⟩,_⟩:=ten_of (HK.out _ HB3.out).2
  obtain ⟨e0,e1,_⟩:=z05 HP3.out
  have HZ3:=Lh (show w3.drew.heap[w.heap.size]?=_ from z01 HB3.out HZ.out)
  obtain ⟨_,z0,z1,z2,z3,z4,z5,z6,z7,z8⟩:=z0g (show w3.heap[w.heap.size]?=_ from HZ3.out)
  have hb3:=lt_of_block (HK.out _ HB3.out).2
  have hz3:w.heap.size < w3.heap.size:=lt_of_block HZ3.out
  clear c0 c1 c2 c3 c4 c5 c6 c7 c8 c9 hnum
  go_wp2_with fail
  go_still_tail 24,(by kernel_rfl)
  change wpList _ _ _ _ _ w3.drew
  go_wp2_with fail
  have HN:=z1i (show w3.heap[w.heap.size]?=_ from HZ3.out) (.int .i64 kind) (.int .i64 q.L[k][i]) (.int .i64 q.ep) (.int .i64 pg) (.int .i64 0) (.int .i64 0) (.string ⟨#[]⟩) (.int .i64 0) (.slice none 0 0)
  rw [← heap_drew] at HN
  have HF:=Lh (((((((((((HB.out.trans (HB3.out.mono HB.out.size)).setCell (p:=⟨w.heap.size,0,none⟩) (Nat.le_refl _) (.int .i64 kind)).setCell (p:=⟨w.heap.size,1,none⟩) (Nat.le_refl _) (.int .i64 q.L[k][i])).setCell (p:=⟨w.heap.size,2,none⟩) (Nat.le_refl _) (.int .i64 q.ep)).setCell (p:=⟨w.heap.size,3,none⟩) (Nat.le_refl _) (.int .i64 pg)).setCell (p:=⟨w.heap.size,4,none⟩) (Nat.le_refl _) (.int .i64 0)).setCell (p:=⟨w.heap.size,5,none⟩) (Nat.le_refl _) (.int .i64 0)).setCell (p:=⟨w.heap.size,6,none⟩) (Nat.le_refl _) (.string ⟨#[]⟩)).setCell (p:=⟨w.heap.size,7,none⟩) (Nat.le_refl _) (.int .i64 0)).setCell (p:=⟨w.heap.size,8,none⟩) (Nat.le_refl _) (.slice none 0 0)).drew)
  revert HN HF
  generalize World.drew _=wf
  intro HN HF
  exact ask_ret (x:=⟨kind,q.L[k][i],q.ep,pg,0,0,⟨#[]⟩,0,[],none,0⟩) rfl HN rfl rfl ⟨rfl,HF.out⟩
 ·have HB3:=Lh ((HB2.out.setCell (p:=⟨w1.heap.size,0,none⟩) (Nat.le_refl _) (.int .i64 k)).setCell (p:=⟨w1.heap.size,1,none⟩) (Nat.le_refl _) (.int .i64 pg))
  have HP3:=Lh (z27 (two_set0 HP.out (.int .i64 k)) (.int .i64 pg))
  clear p0 p1 g0 g1
  generalize (w2.setCell _ _).setCell _ _=w3 at *
  obtain ⟨bk,off,ai,ci,hao,hrow,hnum⟩:=(HK.out _ HB3.out).1 k hkl
  obtain ⟨bn,on,hai,hnc⟩:=hnum.at i hi
  subst hao hai
  obtain ⟨⟨d0,d1,d2,d3,d4,d5,d6,d7,d8,d9⟩,_⟩:=ten_of (HK.out _ HB3.out).2
  obtain ⟨e0,e1,_⟩:=z05 HP3.out
  have HZ3:=Lh (show w3.drew.heap[w.heap.size]?=_ from z01 HB3.out HZ.out)
  obtain ⟨_,z0,z1,z2,z3,z4,z5,z6,z7,z8⟩:=z0g (show w3.heap[w.heap.size]?=_ from HZ3.out)
  have hb3:=lt_of_block (HK.out _ HB3.out).2
  have hz3:w.heap.size < w3.heap.size:=lt_of_block HZ3.out
  clear c0 c1 c2 c3 c4 c5 c6 c7 c8 c9 hnum
  go_wp2_with fail
  go_still_tail 24,(by kernel_rfl)
  change wpList _ _ _ _ _ w3.drew
  go_wp2_with fail
  have HN:=z1i (show w3.heap[w.heap.size]?=_ from HZ3.out) (.int .i64 kind) (.int .i64 q.L[k][i]) (.int .i64 q.ep) (.int .i64 pg) (.int .i64 0) (.int .i64 0) (.string ⟨#[]⟩) (.int .i64 0) (.slice none 0 0)
  rw [← heap_drew] at HN
  have HF:=Lh (((((((((((HB.out.trans (HB3.out.mono HB.out.size)).setCell (p:=⟨w.heap.size,0,none⟩) (Nat.le_refl _) (.int .i64 kind)).setCell (p:=⟨w.heap.size,1,none⟩) (Nat.le_refl _) (.int .i64 q.L[k][i])).setCell (p:=⟨w.heap.size,2,none⟩) (Nat.le_refl _) (.int .i64 q.ep)).setCell (p:=⟨w.heap.size,3,none⟩) (Nat.le_refl _) (.int .i64 pg)).setCell (p:=⟨w.heap.size,4,none⟩) (Nat.le_refl _) (.int .i64 0)).setCell (p:=⟨w.heap.size,5,none⟩) (Nat.le_refl _) (.int .i64 0)).setCell (p:=⟨w.heap.size,6,none⟩) (Nat.le_refl _) (.string ⟨#[]⟩)).setCell (p:=⟨w.heap.size,7,none⟩) (Nat.le_refl _) (.int .i64 0)).setCell (p:=⟨w.heap.size,8,none⟩) (Nat.le_refl _) (.slice none 0 0)).drew)
  revert HN HF
  generalize World.drew _=wf
  intro HN HF
  exact ask_ret (x:=⟨kind,q.L[k][i],q.ep,pg,0,0,⟨#[]⟩,0,[],none,0⟩) rfl HN rfl rfl ⟨rfl,HF.out⟩
theorem page_keep {W:World} {b:Nat} {t:TypeId} {v0 v1 v2 v3 v4 v5 v6 v7 v8:Value} (h:W.heap[b]?=some (.cells #[v0,v1,v2,v3,v4,v5,v6,v7,v8] t (0,0))) :
  W.cell? ⟨b,0,none⟩=some v0∧W.cell? ⟨b,1,none⟩=some v1∧W.cell? ⟨b,5,none⟩=some v5:=⟨z02 h 0,z02 h 1,z02 h 5⟩
theorem ap_page (b:Nat) (G:Nat→Prop) (w:World) (q:Qa) (kind:Int) (i:Nat) (h:AQ b G w q) (hf:fewL q.L) (ho:ofB q.ep q.L q.addr=true) (hu:q.unit=(i:Int)) (hi:i < (chainR q.ep q.L q.addr).length) :
  Calls Tryz.prog 73 #[ptrP b,.int .i64 kind] w fun e w' =>
   e=.returned (.agg #[.int .i64 kind,.int .i64 ((chainR q.ep q.L q.addr).getD i 0),.int .i64 q.ep,.int .i64 (ofP q.ep q.L q.addr),.int .i64 0,.int .i64 0,.string ⟨#[]⟩,.int .i64 0,.slice none 0 0])∧Below w.heap.size w w':=by
 obtain ⟨hg,ha⟩:=ofB_iff.1 ho
 obtain ⟨n1,n4⟩:=z0v hg
 obtain ⟨r1,_,_⟩:=of_range (n:=q.L.length) ⟨by omega,by omega⟩ ha
 obtain ⟨k,hk⟩:=Int.eq_ofNat_of_zero_le r1.1
 have hkl:k < q.L.length:=by omega
 have hp:ofP q.ep q.L q.addr=q.addr / (q.L.length:Int):=by unfold ofP;rw [if_pos ho]
 rw [chainR_yes ho hkl hk] at hi ⊢
 rw [hp,show q.L[k].getD i 0=q.L[k][i] from by simp [hi]]
 obtain ⟨ao,cap,h1,hc,_⟩:=h.open
 have HB:=Lh (z00 w (.cells #[.int .i64 0,.int .i64 0,.int .i64 0,.int .i64 0,.int .i64 0,.int .i64 0,.string ⟨#[]⟩,.int .i64 0,.slice none 0 0] 34))
 have HZ:=Lh (heap_alloc_new w (.cells #[.int .i64 0,.int .i64 0,.int .i64 0,.int .i64 0,.int .i64 0,.int .i64 0,.string ⟨#[]⟩,.int .i64 0,.slice none 0 0] 34))
 have CO:=Lh (fun W (hC:CL W ao q.L)=>pOf_any q.ep ao cap q.L q.addr W hC hf)
 rw [ofV_is ho,hk] at CO
 have H1:=Lh (z01 HB.out h1)
 have HC:=Lh (hc.below HB.out)
 rw [hu] at H1
 have k0:(k:Int) < (q.L.length:Int):=by omega
 have i0:(i:Int) < (q.L[k].length:Int):=by omega
 clear h h1 hc hg ha ho hf hp n1 n4 r1 hk
 generalize q.addr / (q.L.length:Int)=pg at *
 unfold ptrP
 go_enter Tryz.func73,Tryz.ntmps73
 go_wp2_with fail
 generalize w.alloc _=w1 at *
 have HK:=Lh (fun W (hb:Below w1.heap.size w1 W)=>And.intro (HC.out.below hb) (z01 hb H1.out))
 have hs1:w.heap.size < w1.heap.size:=lt_of_block HZ.out
 obtain ⟨⟨c0,c1,c2,c3,c4,c5,c6,c7,c8⟩,_⟩:=z0g H1.out
 go_region_held3 (fun W=>W.cell? ⟨b,0,none⟩=some (.int .i64 q.ep)∧W.cell? ⟨b,1,none⟩=some (.slice ao q.L.length cap)∧W.cell? ⟨b,5,none⟩=some (.int .i64 q.addr))
  (first | exact ⟨c0,c1,c5⟩ | assumption | exact page_keep H2.out | exact page_keep (HK.out _ ((HB2.out.setCell (by simp) _).setCell (by simp) _)).2 | exact page_keep (HK.out _ (HB2.out.alloc HB2.out.size _)).2 | exact page_keep (HK.out _ (z00 w1 _).drew).2 | exact page_keep (HK.out _ (z00 w1 _)).2 | exact page_keep (HK.out _ (Below.refl _ w1).drew).2)
  (first | (go_at_call 100;refine (CO.out _ (HK.out _ (by first | exact (Below.refl _ _).drew | exact (z00 _ _).drew | exact z00 _ _)).1).mono ?_;rintro e w2 ⟨rfl,hb2⟩;have HB2:=Lh (z0c (w1:=w1) hb2 (by first | exact (Below.refl _ _).drew | exact (z00 _ _).drew | exact z00 _ _));have H2:=Lh (HK.out _ HB2.out).2;first | (have HP:=Lh (show w2.heap[w1.heap.size]?=some (.cells #[.int .i64 0,.int .i64 0] 150 (0,0)) from z01 hb2 (heap_alloc_new w1 (.cells #[.int .i64 0,.int .i64 0] 150)));obtain ⟨p0,p1,g0,g1⟩:=z05 HP.out;have hpl:=lt_of_block HP.out) | skip))
 ·have HB3:=Lh (HB2.out.alloc HB2.out.size (.cells #[.int .i64 k,.int .i64 pg] 150))
  have HP3:=Lh (heap_alloc_new w2 (.cells #[.int .i64 k,.int .i64 pg] 150))
  generalize w2.alloc _=w3 at *
  obtain ⟨bk,off,ai,ci,hao,hrow,hnum⟩:=(HK.out _ HB3.out).1 k hkl
  obtain ⟨bn,on,hai,hnc⟩:=hnum.at i hi
  subst hao hai
  obtain ⟨⟨d0,d1,d2,d3,d4,d5,d6,d7,d8⟩,_⟩:=z0g (HK.out _ HB3.out).2
  obtain ⟨e0,e1,_⟩:=z05 HP3.out
  have HZ3:=Lh (show w3.drew.heap[w.heap.size]?=_ from z01 HB3.out HZ.out)
  obtain ⟨_,z0,z1,z2,z3,z4,z5,z6,z7,z8⟩:=z0g (show w3.heap[w.heap.size]?=_ from HZ3.out)
  have hb3:=lt_of_block (HK.out _ HB3.out).2
  have hz3:w.heap.size < w3.heap.size:=lt_of_block HZ3.out
  clear c0 c1 c2 c3 c4 c5 c6 c7 c8 hnum
  go_wp2_with fail
  go_still_tail 24,(by kernel_rfl)
  change wpList _ _ _ _ _ w3.drew
  go_wp2_with fail
  have HN:=z1i (show w3.heap[w.heap.size]?=_ from HZ3.out) (.int .i64 kind) (.int .i64 q.L[k][i]) (.int .i64 q.ep) (.int .i64 pg) (.int .i64 0) (.int .i64 0) (.string ⟨#[]⟩) (.int .i64 0) (.slice none 0 0)
  rw [← heap_drew] at HN
  have HF:=Lh (((((((((((HB.out.trans (HB3.out.mono HB.out.size)).setCell (p:=⟨w.heap.size,0,none⟩) (Nat.le_refl _) (.int .i64 kind)).setCell (p:=⟨w.heap.size,1,none⟩) (Nat.le_refl _) (.int .i64 q.L[k][i])).setCell (p:=⟨w.heap.size,2,none⟩) (Nat.le_refl _) (.int .i64 q.ep)).setCell (p:=⟨w.heap.size,3,none⟩) (Nat.le_refl _) (.int .i64 pg)).setCell (p:=⟨w.heap.size,4,none⟩) (Nat.le_refl _) (.int .i64 0)).setCell (p:=⟨w.heap.size,5,none⟩) (Nat.le_refl _) (.int .i64 0)).setCell (p:=⟨w.heap.size,6,none⟩) (Nat.le_refl _) (.string ⟨#[]⟩)).setCell (p:=⟨w.heap.size,7,none⟩) (Nat.le_refl _) (.int .i64 0)).setCell (p:=⟨w.heap.size,8,none⟩) (Nat.le_refl _) (.slice none 0 0)).drew)
  revert HN HF
  generalize World.drew _=wf
  intro HN HF
  exact ask_ret (x:=⟨kind,q.L[k][i],q.ep,pg,0,0,⟨#[]⟩,0,[],none,0⟩) rfl HN rfl rfl ⟨rfl,HF.out⟩
 ·have HB3:=Lh ((HB2.out.setCell (p:=⟨w1.heap.size,0,none⟩) (Nat.le_refl _) (.int .i64 k)).setCell (p:=⟨w1.heap.size,1,none⟩) (Nat.le_refl _) (.int .i64 pg))
  have HP3:=Lh (z27 (two_set0 HP.out (.int .i64 k)) (.int .i64 pg))
  clear p0 p1 g0 g1
  generalize (w2.setCell _ _).setCell _ _=w3 at *
  obtain ⟨bk,off,ai,ci,hao,hrow,hnum⟩:=(HK.out _ HB3.out).1 k hkl
  obtain ⟨bn,on,hai,hnc⟩:=hnum.at i hi
  subst hao hai
  obtain ⟨⟨d0,d1,d2,d3,d4,d5,d6,d7,d8⟩,_⟩:=z0g (HK.out _ HB3.out).2
  obtain ⟨e0,e1,_⟩:=z05 HP3.out
  have HZ3:=Lh (show w3.drew.heap[w.heap.size]?=_ from z01 HB3.out HZ.out)
  obtain ⟨_,z0,z1,z2,z3,z4,z5,z6,z7,z8⟩:=z0g (show w3.heap[w.heap.size]?=_ from HZ3.out)
  have hb3:=lt_of_block (HK.out _ HB3.out).2
  have hz3:w.heap.size < w3.heap.size:=lt_of_block HZ3.out
  clear c0 c1 c2 c3 c4 c5 c6 c7 c8 hnum
  go_wp2_with fail
  go_still_tail 24,(by kernel_rfl)
  change wpList _ _ _ _ _ w3.drew
  go_wp2_with fail
  have HN:=z1i (show w3.heap[w.heap.size]?=_ from HZ3.out) (.int .i64 kind) (.int .i64 q.L[k][i]) (.int .i64 q.ep) (.int .i64 pg) (.int .i64 0) (.int .i64 0) (.string ⟨#[]⟩) (.int .i64 0) (.slice none 0 0)
  rw [← heap_drew] at HN
  have HF:=Lh (((((((((((HB.out.trans (HB3.out.mono HB.out.size)).setCell (p:=⟨w.heap.size,0,none⟩) (Nat.le_refl _) (.int .i64 kind)).setCell (p:=⟨w.heap.size,1,none⟩) (Nat.le_refl _) (.int .i64 q.L[k][i])).setCell (p:=⟨w.heap.size,2,none⟩) (Nat.le_refl _) (.int .i64 q.ep)).setCell (p:=⟨w.heap.size,3,none⟩) (Nat.le_refl _) (.int .i64 pg)).setCell (p:=⟨w.heap.size,4,none⟩) (Nat.le_refl _) (.int .i64 0)).setCell (p:=⟨w.heap.size,5,none⟩) (Nat.le_refl _) (.int .i64 0)).setCell (p:=⟨w.heap.size,6,none⟩) (Nat.le_refl _) (.string ⟨#[]⟩)).setCell (p:=⟨w.heap.size,7,none⟩) (Nat.le_refl _) (.int .i64 0)).setCell (p:=⟨w.heap.size,8,none⟩) (Nat.le_refl _) (.slice none 0 0)).drew)
  revert HN HF
  generalize World.drew _=wf
  intro HN HF
  exact ask_ret (x:=⟨kind,q.L[k][i],q.ep,pg,0,0,⟨#[]⟩,0,[],none,0⟩) rfl HN rfl rfl ⟨rfl,HF.out⟩
end Go.Proofs.YtkefpbcifcjibaaGreat
