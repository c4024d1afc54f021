/- Joined texts. -/
import Derived.StillTailTactics
import Derived.Test.YtkefpbcifcjibaaGreatG11a
import Derived.Test.YtkefpbcifcjibaaGreatG10a
import Derived.Test.YtkefpbcifcjibaaGreatG03b
import Derived.Deep.RegionHeld3
import Derived.Deep.RegionHeldLaw
import Derived.Test.YtkefpbcifcjibaaGreatG07a
import Derived.Test.YtkefpbcifcjibaaGreatG03a
import Derived.Test.YtkefpbcifcjibaaGreatG08a
import Derived.Test.YtkefpbcifcjibaaGreatG09a
import Derived.Maps.OwnSet
import Derived.Test.YtkefpbcifcjibaaGreatH00
set_option linter.unusedVariables false
set_option maxRecDepth 20000
set_option maxHeartbeats 16000000
namespace Go.Proofs.YtkefpbcifcjibaaGreat
open Go.RowKit
theorem on_next_other (b:Nat) (G:Nat→Prop) (w:World) (o:Od) (a:Ak) (h:OM b G w o) (he:a.epoch≠o.epoch) :
  Calls Tryz.prog 136 #[ptrO b,askV a] w fun e w'=>e=.returned (anW 40 0 noT 0)∧Leaves (OM b) G w w' o:=by
 obtain ⟨k,un,ep,pg,sz,n,s,pe,L,ao,cap⟩:=a
 obtain ⟨oe,ot,ok⟩:=o
 simp only at *
 have CC:=Lh z18
 have HS:=Lh (z0e (z07 b) h #[.int .i64 k,.int .i64 un,.int .i64 ep,.int .i64 pg,.int .i64 sz,.int .i64 n,.string s,.int .i64 pe,.slice ao L.length cap])
 unfold zeroAn at HS
 have hbw:=h.small
 obtain ⟨H2,hH2,hU2⟩:=HS.out.use
 have HU2:=Lh hU2
 have HF2:=Lh (show Calls Tryz.prog 137 #[.pointer (some ⟨b,0,none⟩),.agg #[.int .i64 k,.int .i64 un,.int .i64 ep,.int .i64 pg,.int .i64 sz,.int .i64 n,.string s,.int .i64 pe,.slice ao L.length cap]] _ fun e w'=>e=.returned (.agg #[.int .i64 40,.int .i64 0,.string ⟨#[]⟩,.int .i64 0,.slice none 0 0,.int .i64 0,.int .i64 0,.int .i64 0])∧Leaves (OM b) H2 _ w' _ from on_look_other b H2 _ _ ⟨k,un,ep,pg,sz,n,s,pe,L,ao,cap⟩ hH2 he)
 clear hU2 hH2 he
 clear h
 show Calls _ _ #[.pointer (some ⟨b,0,none⟩),.agg #[.int .i64 k,.int .i64 un,.int .i64 ep,.int .i64 pg,.int .i64 sz,.int .i64 n,.string s,.int .i64 pe,.slice ao L.length cap]] w _
 go_enter Tryz.func136,Tryz.ntmps136
 go_wp2_with fail
 refine HF2.out.mono ?_
 rintro e w2 ⟨rfl,hl⟩
 have HT2:=Lh (HU2.out _ _ hl)
 clear hl HF2 HU2
 obtain ⟨nl1,nl2⟩:=HT2.out.small
 obtain ⟨⟨ny0,ny1,ny2,ny3,ny4,ny5,ny6,ny7⟩,nfy0,nfy1,nfy2,nfy3,nfy4,nfy5,nfy6,nfy7⟩:=z03 HT2.out.ans
 go_wp2_with fail
 have hF:=HT2.out.fin (z07 b) (v0:=.int .i64 40) (v1:=.int .i64 0) (v2:=.string ⟨#[]⟩) (v3:=.int .i64 0) (v4:=.slice none 0 0) (v5:=.int .i64 0) (v6:=.int .i64 0) (v7:=.int .i64 0)
 have hY:=fun (x:Obj)=>z01 ((Below.refl _ _).alloc (Nat.le_refl _) x) hF.1
 have hL:=fun (x:Obj)=>hF.2.below (z07 b) ((Below.refl _ _).alloc (Nat.le_refl _) x)
 clear hF
 exact z0k (x:=anP 40 0 noT 0) (ao:=none) (cap:=0) rfl (hY _) rfl rfl ⟨rfl,hL _⟩
theorem on_next_dumb (b:Nat) (G:Nat→Prop) (w:World) (o:Od) (a:Ak) (h:OM b G w o) (he:a.epoch=o.epoch) (hn:o.knows=false) :
  Calls Tryz.prog 136 #[ptrO b,askV a] w fun e w'=>e=.returned (anW 47 0 noT 0)∧Leaves (OM b) G w w' o:=by
 obtain ⟨k,un,ep,pg,sz,n,s,pe,L,ao,cap⟩:=a
 obtain ⟨oe,ot,ok⟩:=o
 simp only at *
 have CC:=Lh z18
 have HS:=Lh (z0e (z07 b) h #[.int .i64 k,.int .i64 un,.int .i64 ep,.int .i64 pg,.int .i64 sz,.int .i64 n,.string s,.int .i64 pe,.slice ao L.length cap])
 unfold zeroAn at HS
 have hbw:=h.small
 obtain ⟨H2,hH2,hU2⟩:=HS.out.use
 have HU2:=Lh hU2
 have HF2:=Lh (show Calls Tryz.prog 137 #[.pointer (some ⟨b,0,none⟩),.agg #[.int .i64 k,.int .i64 un,.int .i64 ep,.int .i64 pg,.int .i64 sz,.int .i64 n,.string s,.int .i64 pe,.slice ao L.length cap]] _ fun e w'=>e=.returned (.agg #[.int .i64 47,.int .i64 0,.string ⟨#[]⟩,.int .i64 0,.slice none 0 0,.int .i64 0,.int .i64 0,.int .i64 0])∧Leaves (OM b) H2 _ w' _ from on_look_dumb b H2 _ _ ⟨k,un,ep,pg,sz,n,s,pe,L,ao,cap⟩ hH2 he hn)
 clear hU2 hH2 he hn
 clear h
 show Calls _ _ #[.pointer (some ⟨b,0,none⟩),.agg #[.int .i64 k,.int .i64 un,.int .i64 ep,.int .i64 pg,.int .i64 sz,.int .i64 n,.string s,.int .i64 pe,.slice ao L.length cap]] w _
 go_enter Tryz.func136,Tryz.ntmps136
 go_wp2_with fail
 refine HF2.out.mono ?_
 rintro e w2 ⟨rfl,hl⟩
 have HT2:=Lh (HU2.out _ _ hl)
 clear hl HF2 HU2
 obtain ⟨nl1,nl2⟩:=HT2.out.small
 obtain ⟨⟨ny0,ny1,ny2,ny3,ny4,ny5,ny6,ny7⟩,nfy0,nfy1,nfy2,nfy3,nfy4,nfy5,nfy6,nfy7⟩:=z03 HT2.out.ans
 go_wp2_with fail
 have hF:=HT2.out.fin (z07 b) (v0:=.int .i64 47) (v1:=.int .i64 0) (v2:=.string ⟨#[]⟩) (v3:=.int .i64 0) (v4:=.slice none 0 0) (v5:=.int .i64 0) (v6:=.int .i64 0) (v7:=.int .i64 0)
 have hY:=fun (x:Obj)=>z01 ((Below.refl _ _).alloc (Nat.le_refl _) x) hF.1
 have hL:=fun (x:Obj)=>hF.2.below (z07 b) ((Below.refl _ _).alloc (Nat.le_refl _) x)
 clear hF
 exact z0k (x:=anP 47 0 noT 0) (ao:=none) (cap:=0) rfl (hY _) rfl rfl ⟨rfl,hL _⟩
theorem on_next_full (b:Nat) (G:Nat→Prop) (w:World) (o:Od) (a:Ak) (h:OM b G w o) (he:a.epoch=o.epoch) (hn:o.knows=true) (ht:o.tail=16384) :
  Calls Tryz.prog 136 #[ptrO b,askV a] w fun e w'=>e=.returned (anW 44 0 noT 0)∧Leaves (OM b) G w w' o:=by
 obtain ⟨k,un,ep,pg,sz,n,s,pe,L,ao,cap⟩:=a
 obtain ⟨oe,ot,ok⟩:=o
 simp only at *
 subst ht
 subst hn
 have CC:=Lh z18
 have HS:=Lh (z0e (z07 b) h #[.int .i64 k,.int .i64 un,.int .i64 ep,.int .i64 pg,.int .i64 sz,.int .i64 n,.string s,.int .i64 pe,.slice ao L.length cap])
 unfold zeroAn at HS
 have hbw:=h.small
 obtain ⟨H2,hH2,hU2⟩:=HS.out.use
 have HU2:=Lh hU2
 have HF2:=Lh (show Calls Tryz.prog 137 #[.pointer (some ⟨b,0,none⟩),.agg #[.int .i64 k,.int .i64 un,.int .i64 ep,.int .i64 pg,.int .i64 sz,.int .i64 n,.string s,.int .i64 pe,.slice ao L.length cap]] _ fun e w'=>e=.returned (.agg #[.int .i64 0,.int .i64 16384,.string ⟨#[]⟩,.int .i64 0,.slice none 0 0,.int .i64 0,.int .i64 0,.int .i64 0])∧Leaves (OM b) H2 _ w' _ from on_look b H2 _ _ ⟨k,un,ep,pg,sz,n,s,pe,L,ao,cap⟩ hH2 he rfl)
 clear hU2 hH2 he
 clear h
 show Calls _ _ #[.pointer (some ⟨b,0,none⟩),.agg #[.int .i64 k,.int .i64 un,.int .i64 ep,.int .i64 pg,.int .i64 sz,.int .i64 n,.string s,.int .i64 pe,.slice ao L.length cap]] w _
 go_enter Tryz.func136,Tryz.ntmps136
 go_wp2_with fail
 refine HF2.out.mono ?_
 rintro e w2 ⟨rfl,hl⟩
 have HT2:=Lh (HU2.out _ _ hl)
 clear hl HF2 HU2
 obtain ⟨nl1,nl2⟩:=HT2.out.small
 obtain ⟨⟨ny0,ny1,ny2,ny3,ny4,ny5,ny6,ny7⟩,nfy0,nfy1,nfy2,nfy3,nfy4,nfy5,nfy6,nfy7⟩:=z03 HT2.out.ans
 obtain ⟨H,hH,hU⟩:=HT2.out.use
 obtain ⟨t2,ht2,hc⟩:=hH.cells
 have et:t2=16384:=ht2 rfl
 clear ht2
 subst et
 obtain ⟨c0,c1,c2,f0,f1,f2⟩:=z09 hc
 have hb:=hH.small
 clear hU hH hc
 go_wp2_with (go_at_call 119;refine (CC.out _ _).mono ?_;rintro e w3 ⟨rfl,hb3⟩;have HT3:=Lh ((HT2.out.below (z07 b) ((Below.refl _ _).alloc (Nat.le_refl _) _)).below (z07 b) hb3);clear hb3;obtain ⟨nl1,nl2⟩:=HT3.out.small;obtain ⟨⟨ny0,ny1,ny2,ny3,ny4,ny5,ny6,ny7⟩,nfy0,nfy1,nfy2,nfy3,nfy4,nfy5,nfy6,nfy7⟩:=z03 HT3.out.ans)
 exact z0k (x:=anP 44 0 noT 0) (ao:=none) (cap:=0) rfl (HT3.out.fin (z07 b)).1 rfl rfl ⟨rfl,(HT3.out.fin (z07 b)).2⟩
theorem on_next (b:Nat) (G:Nat→Prop) (w:World) (o:Od) (a:Ak) (h:OM b G w o) (he:a.epoch=o.epoch) (hn:o.knows=true) (ht:o.tail≠16384) :
  Calls Tryz.prog 136 #[ptrO b,askV a] w fun e w'=>e=.returned (anW 0 o.tail noT 0)∧Leaves (OM b) G w w' ⟨o.epoch,o.tail+1,o.knows⟩:=by
 obtain ⟨k,un,ep,pg,sz,n,s,pe,L,ao,cap⟩:=a
 obtain ⟨oe,ot,ok⟩:=o
 simp only at *
 subst hn
 have CC:=Lh z18
 have HS:=Lh (z0e (z07 b) h #[.int .i64 k,.int .i64 un,.int .i64 ep,.int .i64 pg,.int .i64 sz,.int .i64 n,.string s,.int .i64 pe,.slice ao L.length cap])
 unfold zeroAn at HS
 have hbw:=h.small
 obtain ⟨H2,hH2,hU2⟩:=HS.out.use
 have HU2:=Lh hU2
 have HF2:=Lh (show Calls Tryz.prog 137 #[.pointer (some ⟨b,0,none⟩),.agg #[.int .i64 k,.int .i64 un,.int .i64 ep,.int .i64 pg,.int .i64 sz,.int .i64 n,.string s,.int .i64 pe,.slice ao L.length cap]] _ fun e w'=>e=.returned (.agg #[.int .i64 0,.int .i64 ot,.string ⟨#[]⟩,.int .i64 0,.slice none 0 0,.int .i64 0,.int .i64 0,.int .i64 0])∧Leaves (OM b) H2 _ w' _ from on_look b H2 _ _ ⟨k,un,ep,pg,sz,n,s,pe,L,ao,cap⟩ hH2 he rfl)
 clear hU2 hH2 he
 clear h
 show Calls _ _ #[.pointer (some ⟨b,0,none⟩),.agg #[.int .i64 k,.int .i64 un,.int .i64 ep,.int .i64 pg,.int .i64 sz,.int .i64 n,.string s,.int .i64 pe,.slice ao L.length cap]] w _
 go_enter Tryz.func136,Tryz.ntmps136
 go_wp2_with fail
 refine HF2.out.mono ?_
 rintro e w2 ⟨rfl,hl⟩
 have HT2:=Lh (HU2.out _ _ hl)
 clear hl HF2 HU2
 obtain ⟨nl1,nl2⟩:=HT2.out.small
 obtain ⟨⟨ny0,ny1,ny2,ny3,ny4,ny5,ny6,ny7⟩,nfy0,nfy1,nfy2,nfy3,nfy4,nfy5,nfy6,nfy7⟩:=z03 HT2.out.ans
 obtain ⟨H,hH,hU⟩:=HT2.out.use
 obtain ⟨t2,ht2,hc⟩:=hH.cells
 have et:t2=ot:=ht2 rfl
 clear ht2
 subst et
 obtain ⟨c0,c1,c2,f0,f1,f2⟩:=z09 hc
 have hb:=hH.small
 have hw1:wrap64 (t2+1)=t2+1:=by have:=hH.1.tail;simp only at this;rw [wrap64_eq];omega
 have HT3:=Lh (hU _ _ (hH.steps ht))
 clear hU hH hc
 have hd:(t2 == 16384)=false:=beq_eq_false_iff_ne.2 ht
 go_wp2_with fail
 have hF:=HT3.out.fin (z07 b) (v0:=.int .i64 0) (v1:=.int .i64 t2) (v2:=.string ⟨#[]⟩) (v3:=.int .i64 0) (v4:=.slice none 0 0) (v5:=.int .i64 0) (v6:=.int .i64 0) (v7:=.int .i64 0)
 have hY:=fun (x:Obj)=>z01 ((Below.refl _ _).alloc (Nat.le_refl _) x) hF.1
 have hL:=fun (x:Obj)=>hF.2.below (z07 b) ((Below.refl _ _).alloc (Nat.le_refl _) x)
 clear hF
 exact z0k (x:=anP 0 t2 noT 0) (ao:=none) (cap:=0) rfl (hY _) rfl rfl ⟨rfl,hL _⟩
theorem on_start_old (b:Nat) (G:Nat→Prop) (w:World) (o:Od) (a:Ak) (h:OM b G w o) (he:a.epoch≤o.epoch) :
  Calls Tryz.prog 135 #[ptrO b,askV a] w fun e w'=>e=.returned (anW 40 0 noT 0)∧Leaves (OM b) G w w' o:=by
 obtain ⟨k,un,ep,pg,sz,n,s,pe,L,ao,cap⟩:=a
 obtain ⟨oe,ot,ok⟩:=o
 simp only at *
 have CC:=Lh z18
 have HS:=Lh (z0e (z07 b) h #[.int .i64 k,.int .i64 un,.int .i64 ep,.int .i64 pg,.int .i64 sz,.int .i64 n,.string s,.int .i64 pe,.slice ao L.length cap])
 unfold zeroAn at HS
 have hbw:=h.small
 clear h
 show Calls _ _ #[.pointer (some ⟨b,0,none⟩),.agg #[.int .i64 k,.int .i64 un,.int .i64 ep,.int .i64 pg,.int .i64 sz,.int .i64 n,.string s,.int .i64 pe,.slice ao L.length cap]] w _
 go_enter Tryz.func135,Tryz.ntmps135
 go_wp2_with fail
 generalize hW0:((w.alloc (.cells #[.int .i64 k,.int .i64 un,.int .i64 ep,.int .i64 pg,.int .i64 sz,.int .i64 n,.string s,.int .i64 pe,.slice ao L.length cap] 34)).alloc (.cells #[.int .i64 0,.int .i64 0,.string ⟨#[]⟩,.int .i64 0,.slice none 0 0,.int .i64 0,.int .i64 0,.int .i64 0] 49))=W0 at *
 clear hW0
 obtain ⟨l1,l2⟩:=HS.out.small
 obtain ⟨H,hH,_⟩:=HS.out.use
 have x2:W0.cell? ⟨w.heap.size,2,none⟩=some (.int .i64 ep):=z02 HS.out.ask 2
 obtain ⟨t,_,hc⟩:=hH.cells
 obtain ⟨c0,c1,c2,_⟩:=z09 hc
 have hb:=hH.small
 clear hH hc
 go_quiet (fail)
 have HT2:=Lh (HS.out.drewN (z07 b) nq)
 generalize hW2:World.drewN W0 nq=w2 at *
 clear hW2 x2 c0 c1 c2 hb l1 l2
 obtain ⟨l1,l2⟩:=HT2.out.small
 have x2:w2.cell? ⟨w.heap.size,2,none⟩=some (.int .i64 ep):=z02 HT2.out.ask 2
 have x3:w2.cell? ⟨w.heap.size,3,none⟩=some (.int .i64 pg):=z02 HT2.out.ask 3
 go_wp2_with (go_at_call 119;refine (CC.out _ _).mono ?_;rintro e w3 ⟨rfl,hb3⟩;have HT3:=Lh (HT2.out.below (z07 b) hb3);clear hb3;obtain ⟨nl1,nl2⟩:=HT3.out.small;obtain ⟨⟨ny0,ny1,ny2,ny3,ny4,ny5,ny6,ny7⟩,nfy0,nfy1,nfy2,nfy3,nfy4,nfy5,nfy6,nfy7⟩:=z03 HT3.out.ans)
 exact z0k (x:=anP 40 0 noT 0) (ao:=none) (cap:=0) rfl (HT3.out.fin (z07 b)).1 rfl rfl ⟨rfl,(HT3.out.fin (z07 b)).2⟩
theorem on_start_low (b:Nat) (G:Nat→Prop) (w:World) (o:Od) (a:Ak) (h:OM b G w o) (he:¬ a.epoch≤o.epoch) (hp:a.page < 0) :
  Calls Tryz.prog 135 #[ptrO b,askV a] w fun e w'=>e=.returned (anW 1 0 noT 0)∧Leaves (OM b) G w w' o:=by
 obtain ⟨k,un,ep,pg,sz,n,s,pe,L,ao,cap⟩:=a
 obtain ⟨oe,ot,ok⟩:=o
 simp only at *
 have CC:=Lh z18
 have HS:=Lh (z0e (z07 b) h #[.int .i64 k,.int .i64 un,.int .i64 ep,.int .i64 pg,.int .i64 sz,.int .i64 n,.string s,.int .i64 pe,.slice ao L.length cap])
 unfold zeroAn at HS
 have hbw:=h.small
 clear h
 show Calls _ _ #[.pointer (some ⟨b,0,none⟩),.agg #[.int .i64 k,.int .i64 un,.int .i64 ep,.int .i64 pg,.int .i64 sz,.int .i64 n,.string s,.int .i64 pe,.slice ao L.length cap]] w _
 go_enter Tryz.func135,Tryz.ntmps135
 go_wp2_with fail
 generalize hW0:((w.alloc (.cells #[.int .i64 k,.int .i64 un,.int .i64 ep,.int .i64 pg,.int .i64 sz,.int .i64 n,.string s,.int .i64 pe,.slice ao L.length cap] 34)).alloc (.cells #[.int .i64 0,.int .i64 0,.string ⟨#[]⟩,.int .i64 0,.slice none 0 0,.int .i64 0,.int .i64 0,.int .i64 0] 49))=W0 at *
 clear hW0
 obtain ⟨l1,l2⟩:=HS.out.small
 obtain ⟨H,hH,_⟩:=HS.out.use
 have x2:W0.cell? ⟨w.heap.size,2,none⟩=some (.int .i64 ep):=z02 HS.out.ask 2
 obtain ⟨t,_,hc⟩:=hH.cells
 obtain ⟨c0,c1,c2,_⟩:=z09 hc
 have hb:=hH.small
 clear hH hc
 go_quiet (fail)
 have HT2:=Lh (HS.out.drewN (z07 b) nq)
 generalize hW2:World.drewN W0 nq=w2 at *
 clear hW2 x2 c0 c1 c2 hb l1 l2
 obtain ⟨l1,l2⟩:=HT2.out.small
 have x2:w2.cell? ⟨w.heap.size,2,none⟩=some (.int .i64 ep):=z02 HT2.out.ask 2
 have x3:w2.cell? ⟨w.heap.size,3,none⟩=some (.int .i64 pg):=z02 HT2.out.ask 3
 go_wp2_with (go_at_call 119;refine (CC.out _ _).mono ?_;rintro e w3 ⟨rfl,hb3⟩;have HT3:=Lh (HT2.out.below (z07 b) hb3);clear hb3;obtain ⟨nl1,nl2⟩:=HT3.out.small;obtain ⟨⟨ny0,ny1,ny2,ny3,ny4,ny5,ny6,ny7⟩,nfy0,nfy1,nfy2,nfy3,nfy4,nfy5,nfy6,nfy7⟩:=z03 HT3.out.ans)
 exact z0k (x:=anP 1 0 noT 0) (ao:=none) (cap:=0) rfl (HT3.out.fin (z07 b)).1 rfl rfl ⟨rfl,(HT3.out.fin (z07 b)).2⟩
theorem on_start_high (b:Nat) (G:Nat→Prop) (w:World) (o:Od) (a:Ak) (h:OM b G w o) (he:¬ a.epoch≤o.epoch) (hp:16384 < a.page) :
  Calls Tryz.prog 135 #[ptrO b,askV a] w fun e w'=>e=.returned (anW 1 0 noT 0)∧Leaves (OM b) G w w' o:=by
 obtain ⟨k,un,ep,pg,sz,n,s,pe,L,ao,cap⟩:=a
 obtain ⟨oe,ot,ok⟩:=o
 simp only at *
 have CC:=Lh z18
 have HS:=Lh (z0e (z07 b) h #[.int .i64 k,.int .i64 un,.int .i64 ep,.int .i64 pg,.int .i64 sz,.int .i64 n,.string s,.int .i64 pe,.slice ao L.length cap])
 unfold zeroAn at HS
 have hbw:=h.small
 clear h
 show Calls _ _ #[.pointer (some ⟨b,0,none⟩),.agg #[.int .i64 k,.int .i64 un,.int .i64 ep,.int .i64 pg,.int .i64 sz,.int .i64 n,.string s,.int .i64 pe,.slice ao L.length cap]] w _
 go_enter Tryz.func135,Tryz.ntmps135
 go_wp2_with fail
 generalize hW0:((w.alloc (.cells #[.int .i64 k,.int .i64 un,.int .i64 ep,.int .i64 pg,.int .i64 sz,.int .i64 n,.string s,.int .i64 pe,.slice ao L.length cap] 34)).alloc (.cells #[.int .i64 0,.int .i64 0,.string ⟨#[]⟩,.int .i64 0,.slice none 0 0,.int .i64 0,.int .i64 0,.int .i64 0] 49))=W0 at *
 clear hW0
 obtain ⟨l1,l2⟩:=HS.out.small
 obtain ⟨H,hH,_⟩:=HS.out.use
 have x2:W0.cell? ⟨w.heap.size,2,none⟩=some (.int .i64 ep):=z02 HS.out.ask 2
 obtain ⟨t,_,hc⟩:=hH.cells
 obtain ⟨c0,c1,c2,_⟩:=z09 hc
 have hb:=hH.small
 clear hH hc
 go_quiet (fail)
 have HT2:=Lh (HS.out.drewN (z07 b) nq)
 generalize hW2:World.drewN W0 nq=w2 at *
 clear hW2 x2 c0 c1 c2 hb l1 l2
 obtain ⟨l1,l2⟩:=HT2.out.small
 have x2:w2.cell? ⟨w.heap.size,2,none⟩=some (.int .i64 ep):=z02 HT2.out.ask 2
 have x3:w2.cell? ⟨w.heap.size,3,none⟩=some (.int .i64 pg):=z02 HT2.out.ask 3
 go_wp2_with (go_at_call 119;refine (CC.out _ _).mono ?_;rintro e w3 ⟨rfl,hb3⟩;have HT3:=Lh (HT2.out.below (z07 b) hb3);clear hb3;obtain ⟨nl1,nl2⟩:=HT3.out.small;obtain ⟨⟨ny0,ny1,ny2,ny3,ny4,ny5,ny6,ny7⟩,nfy0,nfy1,nfy2,nfy3,nfy4,nfy5,nfy6,nfy7⟩:=z03 HT3.out.ans)
 exact z0k (x:=anP 1 0 noT 0) (ao:=none) (cap:=0) rfl (HT3.out.fin (z07 b)).1 rfl rfl ⟨rfl,(HT3.out.fin (z07 b)).2⟩
theorem on_start (b:Nat) (G:Nat→Prop) (w:World) (o:Od) (a:Ak) (h:OM b G w o) (he:¬ a.epoch≤o.epoch) (hp:0≤a.page∧a.page≤16384) (hw:i64w a.epoch) :
  Calls Tryz.prog 135 #[ptrO b,askV a] w fun e w'=>e=.returned (anW 0 0 noT 0)∧Leaves (OM b) G w w' ⟨a.epoch,a.page,true⟩:=by
 obtain ⟨k,un,ep,pg,sz,n,s,pe,L,ao,cap⟩:=a
 obtain ⟨oe,ot,ok⟩:=o
 simp only at *
 have HP:=Lh hp
 have HW:=Lh hw
 clear hp hw
 have CC:=Lh z18
 have HS:=Lh (z0e (z07 b) h #[.int .i64 k,.int .i64 un,.int .i64 ep,.int .i64 pg,.int .i64 sz,.int .i64 n,.string s,.int .i64 pe,.slice ao L.length cap])
 unfold zeroAn at HS
 have hbw:=h.small
 clear h
 show Calls _ _ #[.pointer (some ⟨b,0,none⟩),.agg #[.int .i64 k,.int .i64 un,.int .i64 ep,.int .i64 pg,.int .i64 sz,.int .i64 n,.string s,.int .i64 pe,.slice ao L.length cap]] w _
 go_enter Tryz.func135,Tryz.ntmps135
 go_wp2_with fail
 generalize hW0:((w.alloc (.cells #[.int .i64 k,.int .i64 un,.int .i64 ep,.int .i64 pg,.int .i64 sz,.int .i64 n,.string s,.int .i64 pe,.slice ao L.length cap] 34)).alloc (.cells #[.int .i64 0,.int .i64 0,.string ⟨#[]⟩,.int .i64 0,.slice none 0 0,.int .i64 0,.int .i64 0,.int .i64 0] 49))=W0 at *
 clear hW0
 obtain ⟨l1,l2⟩:=HS.out.small
 obtain ⟨H,hH,_⟩:=HS.out.use
 have x2:W0.cell? ⟨w.heap.size,2,none⟩=some (.int .i64 ep):=z02 HS.out.ask 2
 obtain ⟨t,_,hc⟩:=hH.cells
 obtain ⟨c0,c1,c2,_⟩:=z09 hc
 have hb:=hH.small
 clear hH hc
 go_quiet (fail)
 have HT2:=Lh (HS.out.drewN (z07 b) nq)
 generalize hW2:World.drewN W0 nq=w2 at *
 clear hW2 x2 c0 c1 c2 hb l1 l2
 obtain ⟨l1,l2⟩:=HT2.out.small
 have x2:w2.cell? ⟨w.heap.size,2,none⟩=some (.int .i64 ep):=z02 HT2.out.ask 2
 have x3:w2.cell? ⟨w.heap.size,3,none⟩=some (.int .i64 pg):=z02 HT2.out.ask 3
 obtain ⟨H,hH,hU⟩:=HT2.out.use
 obtain ⟨t2,ht2,hc⟩:=hH.cells
 obtain ⟨c0,c1,c2,f0,f1,f2⟩:=z09 hc
 have hb:=hH.small
 have HT4:=Lh ((hU _ _ (hH.begins HW.out HP.out)).drewN (z07 b) 1)
 obtain ⟨hp0,hp1⟩:=HP.out
 clear hU hH hc ht2
 go_wp2_with fail
 go_region
 go_wp2_with (go_at_call 119;refine (CC.out _ _).mono ?_;rintro e w3 ⟨rfl,hb3⟩;have HT3:=Lh (HT4.out.below (z07 b) hb3);clear hb3;obtain ⟨nl1,nl2⟩:=HT3.out.small;obtain ⟨⟨ny0,ny1,ny2,ny3,ny4,ny5,ny6,ny7⟩,nfy0,nfy1,nfy2,nfy3,nfy4,nfy5,nfy6,nfy7⟩:=z03 HT3.out.ans)
 exact z0k (x:=anP 0 0 noT 0) (ao:=none) (cap:=0) rfl (HT3.out.fin (z07 b)).1 rfl rfl ⟨rfl,(HT3.out.fin (z07 b)).2⟩
theorem chainR_no {ep:Int} {L:List (List Int)} {a:Int} (h:ofB ep L a=false):chainR ep L a=[]:=if_neg (by rw [h];decide)
theorem chainR_yes {ep:Int} {L:List (List Int)} {a:Int} (h:ofB ep L a=true) {k:Nat} (hk:k < L.length) (e:a % (L.length:Int)=k):chainR ep L a=L[k]:=by
 unfold chainR
 rw [if_pos h,e,Int.toNat_natCast]
 simp [hk]
theorem z00 (w:World) (x:Obj):Below w.heap.size w (w.alloc x):=(Below.refl _ _).alloc (Nat.le_refl _) x
def ptrL (b:Nat):Value:=.pointer (some ⟨b,0,none⟩)
def CG (G:Nat→Prop) (w:World) (v:Value) (L:List (List Int)):Prop:=∃ ao cap,v=.slice ao L.length cap∧(ao=none→cap=0)∧L.length≤cap∧(∀ a,ao=some a→G a.block∧a.block < w.heap.size)∧
 ∀ i (h:i < L.length),∃ bk off ai ci,ao=some ⟨bk,off,none⟩∧w.cell? ⟨bk,off+i,none⟩=some (.slice ai L[i].length ci)∧NLI w ai ci L[i]∧∀ a,ai=some a→G a.block∧a.block < w.heap.size
def UG1 (G:Nat→Prop) (w:World) (v:Value) (l:List Int):Prop:=∃ ao cap,v=.slice ao l.length cap∧NLI w ao cap l∧∀ a,ao=some a→G a.block∧a.block < w.heap.size
theorem CG.keep {G S:Nat→Prop} {w w':World} {v:Value} {L:List (List Int)} (h:CG G w v L) (hk:Kept S w w') (hS:∀ k,G k→S k):CG G w' v L:=by
 obtain ⟨ao,cap,h1,h2,h3,h4,h5⟩:=h
 refine ⟨ao,cap,h1,h2,h3,fun a e=>⟨(h4 a e).1,Nat.lt_of_lt_of_le (h4 a e).2 hk.size⟩,fun i hi=>?_⟩
 obtain ⟨bk,off,ai,ci,r1,r2,r3,r4⟩:=h5 i hi
 exact ⟨bk,off,ai,ci,r1,cellK hk (hS _ (h4 _ r1).1) r2,r3.keep hk (fun a e=>hS _ (r4 a e).1),fun a e=>⟨(r4 a e).1,Nat.lt_of_lt_of_le (r4 a e).2 hk.size⟩⟩
theorem UG1.keep {G S:Nat→Prop} {w w':World} {v:Value} {l:List Int} (h:UG1 G w v l) (hk:Kept S w w') (hS:∀ k,G k→S k):UG1 G w' v l:=by
 obtain ⟨ao,cap,h1,h2,h3⟩:=h
 exact ⟨ao,cap,h1,h2.keep hk (fun a e=>hS _ (h3 a e).1),fun a e=>⟨(h3 a e).1,Nat.lt_of_lt_of_le (h3 a e).2 hk.size⟩⟩
theorem CG.mono {G S:Nat→Prop} {w:World} {v:Value} {L:List (List Int)} (h:CG G w v L) (hS:∀ k,G k→S k):CG S w v L:=by
 obtain ⟨ao,cap,h1,h2,h3,h4,h5⟩:=h
 refine ⟨ao,cap,h1,h2,h3,fun a e=>⟨hS _ (h4 a e).1,(h4 a e).2⟩,fun i hi=>?_⟩
 obtain ⟨bk,off,ai,ci,r1,r2,r3,r4⟩:=h5 i hi
 exact ⟨bk,off,ai,ci,r1,r2,r3,fun a e=>⟨hS _ (r4 a e).1,(r4 a e).2⟩⟩
theorem UG1.mono {G S:Nat→Prop} {w:World} {v:Value} {l:List Int} (h:UG1 G w v l) (hS:∀ k,G k→S k):UG1 S w v l:=by
 obtain ⟨ao,cap,h1,h2,h3⟩:=h
 exact ⟨ao,cap,h1,h2,fun a e=>⟨hS _ (h3 a e).1,(h3 a e).2⟩⟩
theorem CG.of {w:World} {B:Nat} {v:Value} {L:List (List Int)} (h:OC w B v L):CG (fun k=>B≤k∧k < w.heap.size) w v L:=by
 obtain ⟨ao,cap,rfl,h2,h3,h4,h5⟩:=h.form
 refine ⟨ao,cap,rfl,h3,h4,fun a e=>⟨h5 a e,(h5 a e).2⟩,fun i hi=>?_⟩
 obtain ⟨xs,k1,k2⟩:=h
 obtain ⟨bk,off,ai,ci,r1,r2,r3⟩:=h2 i hi
 obtain ⟨aj,cj,q1,q2,q3⟩:=k2 i hi
 rcases k1.2 with ⟨e,h0⟩ | ⟨g,cap2,cur,e,hbg,hh,hnc,_,hcs,ht⟩
 ·omega
 ·cases e
  cases r1
  have h6:(cur.toList.take (L.length * 1))[i]?=some (.slice aj L[i].length cj):=by rw [ht];exact q1
  rw [List.getElem?_take,if_pos (by omega)] at h6
  have h7:w.cell? ⟨bk,0+i,none⟩=some (.slice aj L[i].length cj):=by
   rw [Nat.zero_add,← (by simpa using h6:cur[i]?=some (.slice aj L[i].length cj))]
   simp [World.cell?,hh]
  rw [h7] at r2
  have e2:=Option.some.inj r2
  have e3:=Value.slice.inj e2
  obtain ⟨rfl,_,rfl⟩:=e3
  exact ⟨bk,0,aj,cj,rfl,h7,q2,fun a e=>⟨⟨(q3 a e).1,(q3 a e).2.1⟩,(q3 a e).2.1⟩⟩
theorem UG1.of {w:World} {B:Nat} {v:Value} {l:List Int} (h:OI w B v l):UG1 (fun k=>B≤k∧k < w.heap.size) w v l:=by
 obtain ⟨ao,cap,h1,h2,h3,_⟩:=h.form
 exact ⟨ao,cap,h1,h2,fun a e=>⟨h3 a e,(h3 a e).2⟩⟩
theorem CG.cl {G:Nat→Prop} {w:World} {v:Value} {L:List (List Int)} (h:CG G w v L):∃ ao cap,v=.slice ao L.length cap∧CL w ao L∧(ao=none→cap=0)∧L.length≤cap:=by
 obtain ⟨ao,cap,h1,h2,h3,_,h5⟩:=h
 refine ⟨ao,cap,h1,fun i hi=>?_,h2,h3⟩
 obtain ⟨bk,off,ai,ci,r1,r2,r3,_⟩:=h5 i hi
 exact ⟨bk,off,ai,ci,r1,r2,r3⟩
def RL (r:Nat) (G:Nat→Prop) (w:World) (y:Ly):Prop :=
 (∃ k,y.Ok k)∧G r∧∃ (v u:Value) (F:Nat→Prop),w.heap[r]?=some (.cells #[.int .i64 y.ep,v,u,.int .i64 y.mark,.int .i64 y.size,.int .i64 y.n] 207 (0,0))∧CG F w v y.L∧UG1 F w u y.used∧(∀ k,F k→G k)∧¬ F r∧∀ k,G k→k < w.heap.size
theorem rl_thing (r:Nat):Thing (RL r) where
 lt:=by
  rintro G w y ⟨_,_,v,u,F,_,_,_,_,_,h⟩ k hk
  exact h k hk
 keep:=by
  rintro G S w w' y ⟨h0,h1,v,u,F,h2,h3,h4,h5,h6,h7⟩ hk hS
  exact ⟨h0,h1,v,u,F,hk.heap (hS r h1) h2,h3.keep hk (fun k hf=>hS k (h5 k hf)),h4.keep hk (fun k hf=>hS k (h5 k hf)),h5,h6,fun k hg=>Nat.lt_of_lt_of_le (h7 k hg) hk.size⟩
theorem newL_ok {ep:Int} {L:List (List Int)} (hg:goodB ep L=true):(newL ep L).Ok (unitsR L).length:=⟨hg,Nat.le_refl _,by show (-1:Int)≤-1∧(-1:Int)≤16384;omega,by show (-1:Int)≤-1∧(-1:Int)≤16384;omega,by show (0:Int)≤0∧(0:Int)≤65536;omega⟩
section
variable {w w1 W W':World} {ep:Int} {ao:Option Addr} {n cap b B:Nat} {L:List (List Int)}
theorem ns_cl (h:W.cell? ⟨b,0,none⟩=some (.int .i64 ep)∧W.cell? ⟨b,1,none⟩=some (.slice ao n cap)∧CL W ao L∧Below B w1 W):CL W ao L:=h.2.2.1
theorem ns_on (hz:B≤w1.heap.size) (h:W.cell? ⟨b,0,none⟩=some (.int .i64 ep)∧W.cell? ⟨b,1,none⟩=some (.slice ao n cap)∧CL W ao L∧Below B w1 W) (hb:Below W.heap.size W W') :
  W'.cell? ⟨b,0,none⟩=some (.int .i64 ep)∧W'.cell? ⟨b,1,none⟩=some (.slice ao n cap)∧CL W' ao L∧Below B w1 W' :=
 ⟨z0s hb (block_lt_of_cell h.1) h.1,z0s hb (block_lt_of_cell h.2.1) h.2.1,h.2.2.1.below hb,h.2.2.2.trans (hb.mono (Nat.le_trans hz h.2.2.2.size))⟩
end
theorem rl_new_yes (ep:Int) (ao:Option Addr) (cap:Nat) (L:List (List Int)) (w:World) (h:CL w ao L) (hl:L.length≤255∧∀ c ∈ L,c.length≤255) (hg:goodB ep L=true) :
  Calls Tryz.prog 94 #[.agg #[.int .i64 ep,.slice ao L.length cap]] w fun e w'=>∃ (r:Nat) (G:Nat→Prop),e=.returned (.tuple #[ptrL r,.int .i64 0])∧RL r G w' (newL ep L)∧(∀ k,G k→w.heap.size≤k)∧Below w.heap.size w w':=by
 have HB0:=Lh (z00 w (.cells #[.int .i64 ep,.slice ao L.length cap] 24))
 have HC:=Lh (h.below HB0.out)
 have HP:=Lh (show PB (w.alloc (.cells #[.int .i64 ep,.slice ao L.length cap] 24)) w.heap.size ep ao L.length cap from heap_alloc_new _ _)
 have HM:=Lh hl
 have HOK:=Lh (newL_ok hg)
 have HM2:=Lh (show L.length≤1000∧∀ c ∈ L,c.length≤1000 from ⟨by have:=hl.1;omega,fun c hc=>by have:=hl.2 c hc;omega⟩)
 have CGD:=Lh (z2a ep ao cap L _ HC.out hl)
 rw [hg] at CGD
 clear h hl hg
 go_enter Tryz.func94,Tryz.ntmps94
 go_wp2_with (go_at_call 43;refine CGD.out.mono ?_;rintro e w1 ⟨rfl,hb1⟩;have HB1:=Lh (HB0.out.trans (hb1.mono HB0.out.size));have HC1:=Lh (show CL w1.drew ao L from (HC.out.below hb1).below (Below.refl _ _).drew);have HP1:=Lh (HP.out.below hb1);obtain ⟨p0,p1⟩:=HP1.out.cells;have HZ1:=Lh (show w.heap.size≤w1.heap.size from by have:=hb1.size;simp at this;omega);clear hb1)
 go_region_held3 (fun W=>W.cell? ⟨w.heap.size,0,none⟩=some (.int .i64 ep)∧W.cell? ⟨w.heap.size,1,none⟩=some (.slice ao L.length cap)∧CL W ao L∧Below w.heap.size w1 W)
  (first | exact ⟨p0,p1,HC1.out,(Below.refl _ _).drew⟩ | exact ns_on HZ1.out (by assumption) (z00 _ _) | exact ns_on HZ1.out (by assumption) hb3 | exact ns_on HZ1.out (by assumption) hb2)
  (first
   | (go_at_call 11;refine (z1d ep ao cap L _ (ns_cl (by assumption)) HM2.out).mono ?_;rintro e w2 ⟨v,rfl,hO,hb2⟩;have HO:=Lh hO;obtain ⟨bo,cb,hv,_⟩:=hO.form;subst hv)
   | (go_at_call 27;refine (z1h ep ao cap L _ (ns_cl (by assumption)) ⟨HM.out.1,fun c hc=>Nat.le_trans (HM.out.2 c hc) (by decide)⟩).mono ?_;rintro e w3 ⟨u,rfl,hU,hb3⟩;have HU:=Lh hU;obtain ⟨bu,cu,hu,_⟩:=hU.form;subst hu))
 all_goals
  go_wp2_with fail
  go_ret2
  have B2:Below w.heap.size w w2:=HB1.out.trans ((Below.trans (B:=w1.heap.size) (Below.refl _ _).drew hb2).mono HZ1.out)
  have B3:Below w.heap.size w w3:=B2.trans (hb3.mono B2.size)
  have B4:=z00 w3 (.cells #[.int .i64 ep,.slice bo L.length cb,.slice bu (unitsR L).length cu,.int .i64 (-1),.int .i64 0,.int .i64 (-1)] 207)
  have hs2:=hb2.size
  have hs3:=hb3.size
  have hz:=HZ1.out
  have hd:w1.drew.heap.size=w1.heap.size:=rfl
  refine ⟨w3.heap.size,fun k=>w.heap.size≤k∧k≤w3.heap.size,rfl,⟨⟨_,HOK.out⟩,⟨by omega,Nat.le_refl _⟩,.slice bo L.length cb,.slice bu (unitsR L).length cu,fun k=>w.heap.size≤k∧k < w3.heap.size,heap_alloc_new _ _,?_,?_,fun k hk=>⟨hk.1,Nat.le_of_lt hk.2⟩,fun hk=>by have:=hk.2;omega,fun k hk=>by have:=hk.2;simp;omega⟩,fun k hk=>hk.1,B3.trans (B4.mono B3.size)⟩
  ·exact (((CG.of HO.out).keep (Kept.ofBelow hb3 (fun _=>True)) (fun _ _=>trivial)).keep (Kept.ofBelow B4 (fun _=>True)) (fun _ _=>trivial)).mono (fun k hk=>⟨by have:=hk.1;omega,by have:=hk.2;omega⟩)
  ·exact ((UG1.of HU.out).keep (Kept.ofBelow B4 (fun _=>True)) (fun _ _=>trivial)).mono (fun k hk=>⟨by have:=hk.1;omega,hk.2⟩)
theorem zip_no {L1 L2:List (List Int)} {f:List Int × List Int→Bool} {k:Nat} (h1:k < L1.length) (h2:k < L2.length) (h:f (L1[k],L2[k])=false):(L1.zip L2).all f=false:=by
 rw [Bool.eq_false_iff]
 intro e
 have hm:(L1[k],L2[k]) ∈ L1.zip L2:=by
  have:(L1.zip L2)[k]'(by rw [List.length_zip];omega)=(L1[k],L2[k]):=List.getElem_zip
  rw [← this]
  exact List.getElem_mem _
 rw [List.all_eq_true.1 e _ hm] at h
 cases h
theorem zip_yes {L1 L2:List (List Int)} {f:List Int × List Int→Bool} (h:∀ i,i < L1.length→∀ (h1:i < L1.length) (h2:i < L2.length),f (L1[i],L2[i])=true):(L1.zip L2).all f=true:=by
 rw [List.all_eq_true]
 intro c hc
 obtain ⟨i,hi,rfl⟩:=List.getElem_of_mem hc
 rw [List.length_zip] at hi
 rw [List.getElem_zip]
 exact h i (by omega) (by omega) (by omega)
def outB (U:List Int) (l:List Int):Bool:=l.all (fun y=>!decide (y ∈ U))
theorem seq_step {U old now rest:List Int} {y:Nat} {m:Bool} (hy:y < now.length) (hz:now[y] ∈ old):seqB U old (now.drop y) rest m=match rest.dropWhile (fun t=>t != now[y]) with | []=>false | _ :: r=>seqB U old (now.drop (y+1)) r true:=by
 rw [List.drop_eq_getElem_cons hy]
 show (if now[y] ∈ old then _ else _)=_
 rw [if_pos hz]
 rfl
theorem seq_found {U old now rest r:List Int} {y:Nat} {m:Bool} {t:Int} (hy:y < now.length) (hz:now[y] ∈ old) (h:rest.dropWhile (fun t=>t != now[y])=t :: r):seqB U old (now.drop y) rest m=seqB U old (now.drop (y+1)) r (decide (0 < y+1)):=by
 rw [seq_step hy hz,h]
 simp
theorem seq_lost {U old now rest:List Int} {y:Nat} {m:Bool} (hy:y < now.length) (hz:now[y] ∈ old) (h:rest.dropWhile (fun t=>t != now[y])=[]):seqB U old (now.drop y) rest m=false:=by
 rw [seq_step hy hz,h]
theorem drop_at {l:List Int} {x:Nat} (h:x < l.length) {p:Int→Bool} (e:p l[x]=true):(l.drop x).dropWhile p=(l.drop (x+1)).dropWhile p:=by
 rw [List.drop_eq_getElem_cons h,List.dropWhile_cons_of_pos e]
theorem drop_stop {l:List Int} {x:Nat} (h:x < l.length) {p:Int→Bool} (e:p l[x]=false):(l.drop x).dropWhile p=l[x] :: l.drop (x+1):=by
 rw [List.drop_eq_getElem_cons h,List.dropWhile_cons_of_neg (by rw [e];decide)]
theorem out_step {U l:List Int} {y:Nat} (h:y < l.length) (e:l[y] ∉ U):outB U (l.drop y)=outB U (l.drop (y+1)):=by
 rw [List.drop_eq_getElem_cons h]
 show (!decide (l[y] ∈ U) && outB U (l.drop (y+1)))=_
 rw [decide_eq_false e]
 rfl
theorem out_no {U l:List Int} {y:Nat} (h:y < l.length) (e:l[y] ∈ U):outB U (l.drop y)=false:=by
 rw [List.drop_eq_getElem_cons h]
 show (!decide (l[y] ∈ U) && outB U (l.drop (y+1)))=_
 rw [decide_eq_true e]
 rfl
def preU (L:List (List Int)) (n k:Nat):List Int:=(L.take n).flatten ++ (L.getD n []).take k
theorem preU_succ {L:List (List Int)} {n k:Nat} (hn:n < L.length) (hk:k < L[n].length):preU L n (k+1)=preU L n k ++ [L[n][k]]:=by
 unfold preU
 have e:L.getD n []=L[n]:=by simp [hn]
 rw [e,List.take_succ_eq_append_getElem hk,List.append_assoc]
theorem preU_chain {L:List (List Int)} {n:Nat} (hn:n < L.length):preU L n L[n].length=preU L (n+1) 0:=by
 unfold preU
 have e:L.getD n []=L[n]:=by simp [hn]
 rw [e,List.take_of_length_le (Nat.le_refl _),List.take_zero,List.append_nil,List.take_succ_eq_append_getElem hn,List.flatten_append]
 simp
theorem preU_all (L:List (List Int)):preU L L.length 0=L.flatten:=by
 unfold preU
 rw [List.take_zero,List.append_nil,List.take_of_length_le (Nat.le_refl _)]
theorem preU_zero (L:List (List Int)):preU L 0 0=[]:=rfl
theorem preU_nodup {L:List (List Int)} (h:L.flatten.Nodup) {n k:Nat} (hn:n < L.length) (hk:k < L[n].length):L[n][k] ∉ preU L n k:=by
 have e:L.flatten=preU L n k ++ (L[n].drop k ++ (L.drop (n+1)).flatten):=by
  unfold preU
  have e:L.getD n []=L[n]:=by simp [hn]
  rw [e]
  have h1:L=L.take n ++ (L[n] :: L.drop (n+1)):=by rw [← List.drop_eq_getElem_cons hn,List.take_append_drop]
  have h2:L.flatten=(L.take n ++ (L[n] :: L.drop (n+1))).flatten:=congrArg List.flatten h1
  rw [h2,List.flatten_append,List.flatten_cons,List.append_assoc,← List.append_assoc (L[n].take k),List.take_append_drop]
 rw [e,List.nodup_append] at h
 intro hin
 exact h.2.2 _ hin _ (List.mem_append_left _ (by rw [List.drop_eq_getElem_cons hk];exact List.mem_cons_self)) rfl
theorem preU_len {L:List (List Int)} {n k:Nat} (hl:L.length≤255∧∀ c ∈ L,c.length≤255) (hn:n < L.length):(preU L n k).length≤70000:=by
 unfold preU
 have h2:=flat_le (L.take n) 255 (fun c hc=>hl.2 c (List.mem_of_mem_take hc))
 have h3:=hl.2 L[n] (List.getElem_mem hn)
 have h4:((L.getD n []).take k).length≤L[n].length:=by
  have e:L.getD n []=L[n]:=by simp [hn]
  rw [e,List.length_take]
  exact Nat.min_le_right _ _
 have h5:(L.take n).length≤255:=by rw [List.length_take];omega
 have h6:255 * (L.take n).length≤255 * 255:=Nat.mul_le_mul_left _ h5
 rw [List.length_append]
 omega
theorem preU_mem {L:List (List Int)} {n k:Nat} {u:Int} (h:u ∈ preU L n k):u ∈ L.flatten:=by
 unfold preU at h
 rcases List.mem_append.1 h with h | h
 ·obtain ⟨c,hc,hu⟩:=List.mem_flatten.1 h
  exact List.mem_flatten.2 ⟨c,List.mem_of_mem_take hc,hu⟩
 ·have h2:=List.mem_of_mem_take h
  by_cases hn:n < L.length
  ·rw [show L.getD n []=L[n] by simp [hn]] at h2
   exact List.mem_flatten.2 ⟨_,List.getElem_mem hn,h2⟩
  ·rw [show L.getD n []=[] by simp [hn]] at h2
   cases h2
theorem preU_wf {w:World} {ao:Option Addr} {L:List (List Int)} (h:CL w ao L) (n k:Nat):∀ u ∈ preU L n k,(Lit.int .i64 u).wf=true:=by
 intro u hu
 obtain ⟨c,hc,huc⟩:=List.mem_flatten.1 (preU_mem hu)
 obtain ⟨i,hi,rfl⟩:=List.getElem_of_mem hc
 obtain ⟨_,_,_,_,_,_,hN⟩:=h i hi
 exact hN.wf u huc
theorem nodup_snoc {l:List Int} {u:Int} (h:l.Nodup) (hu:u ∉ l):(l ++ [u]).Nodup:=by
 rw [List.nodup_append]
 refine ⟨h,by simp,fun a ha b hb e=>?_⟩
 rw [List.mem_singleton] at hb
 subst hb
 exact hu (e ▸ ha)
structure Ready (n:Nd) (qe:Int) (qL:List (List Int)):Prop where
 may:n.l.may qe qL=true
 good:goodB n.l.ep n.l.L=true
 epoch:∀ i,(n.u i).epoch < qe∨(n.u i).epoch=qe
 up:∀ u ∈ unitsR n.l.L,u ∈ unitsR qL→(n.u u.toNat).down=false
 order:n.o.epoch < qe
 pok:∀ i,(n.u i).p.Ok
def Closed (n:Nd) (qe:Int) (qL:List (List Int)) (u:Int):Prop:=((n.u u.toNat).down=false∧(n.u u.toNat).epoch=qe)∨((n.u u.toNat).down=true∧u ∉ unitsR qL)
structure Same (n0 n:Nd) (qe:Int):Prop where
 p:∀ i,(n.u i).p=(n0.u i).p
 down:∀ i,(n.u i).down=(n0.u i).down
 epoch:∀ i,(n.u i).epoch=(n0.u i).epoch∨(n.u i).epoch=qe
def chgL (l:Ly) (qe:Int) (qL:List (List Int)):Ly:=⟨qe,qL,l.used ++ unitsR qL,l.mark,l.size,l.n⟩
structure Tails (n0:Nd) (K:List (Int × Int)) (i:Nat):Prop where
 of:∀ x ∈ K,x.1 ∈ unitsR n0.l.L∧x.2=(n0.u x.1.toNat).p.tail
 all:∀ j (hj:j < (unitsR n0.l.L).length),j < i→(n0.u ((unitsR n0.l.L)[j]).toNat).down=false→((unitsR n0.l.L)[j],(n0.u ((unitsR n0.l.L)[j]).toNat).p.tail) ∈ K
structure RunR (n0 n:Nd) (qe:Int) (qL:List (List Int)) (r:Rf):Prop where
 pe:r.qe=qe
 pL:r.qL=qL
 range:1≤r.at_∧r.at_≤5
 same:Same n0 n qe
 one:r.at_=1→r.i=0∧r.tails=[]
 old:r.at_≠1→r.oe=n0.l.ep∧r.oL=n0.l.L
 two:r.at_=2→r.i < (unitsR n0.l.L).length
 closed:∀ j (hj:j < (unitsR n0.l.L).length),j < r.i∨3≤r.at_→Closed n qe qL ((unitsR n0.l.L)[j])
 tails:r.at_≠1→Tails n0 r.tails (if r.at_=2 then r.i else (unitsR n0.l.L).length)
 lay:n.l=n0.l∨(n.l=chgL n0.l qe qL∧3≤r.at_)
 four:4≤r.at_→n.l=chgL n0.l qe qL
 ord:n.o=n0.o∨(n.o=⟨qe,tailR r.oe r.oL r.tails,true⟩∧4≤r.at_)
 five:r.at_=5→r.e=0∧n.o=⟨qe,tailR r.oe r.oL r.tails,true⟩
def rankR (k:Nat) (r:Rf):Nat:=if r.at_=1 then k+3 else if r.at_=2 then k - r.i+2 else if r.at_=3 then 2 else if r.at_=4 then 1 else 0
theorem rank1 {k:Nat} {r:Rf} (h:r.at_=1):rankR k r=k+3:=by unfold rankR;rw [if_pos h]
theorem rank2 {k:Nat} {r:Rf} (h:r.at_=2):rankR k r=k - r.i+2:=by unfold rankR;rw [if_neg (by omega),if_pos h]
theorem rank3 {k:Nat} {r:Rf} (h:r.at_=3):rankR k r=2:=by unfold rankR;rw [if_neg (by omega),if_neg (by omega),if_pos h]
theorem rank4 {k:Nat} {r:Rf} (h:r.at_=4):rankR k r=1:=by unfold rankR;rw [if_neg (by omega),if_neg (by omega),if_neg (by omega),if_pos h]
theorem rank5 {k:Nat} {r:Rf} (h:r.at_=5):rankR k r=0:=by unfold rankR;rw [if_neg (by omega),if_neg (by omega),if_neg (by omega),if_neg (by omega)]
theorem units_16r {ep:Int} {L:List (List Int)} (h:goodB ep L=true) {u:Int} (hu:u ∈ unitsR L):0≤u∧u≤15:=by
 rw [z1z,List.mem_flatten] at hu
 obtain ⟨c,hc,hu⟩:=hu
 exact (chainB_iff.1 ((goodB_iff.1 h).2.2.1 c hc)).2 u hu
theorem units_some {ep:Int} {L:List (List Int)} (h:goodB ep L=true):1≤(unitsR L).length:=by
 obtain ⟨_,h2,h3,_⟩:=goodB_iff.1 h
 have hc:=(chainB_iff.1 (h3 _ (List.getElem_mem (show 0 < L.length by omega)))).1
 have hm:(L[0])[0]'(by omega) ∈ unitsR L:=by
  rw [z1z,List.mem_flatten]
  exact ⟨L[0],List.getElem_mem _,List.getElem_mem _⟩
 exact List.length_pos_of_mem hm
section
variable {n0 n:Nd} {qe:Int} {qL:List (List Int)} {r:Rf}
theorem RunR.start (h:Ready n0 qe qL):RunR n0 n0 qe qL (newRf qe qL):=by
 have hg:goodB qe qL=true:=by
  have:=h.may
  unfold Ly.may at this
  rw [Bool.and_eq_true] at this
  exact (nextB_iff.1 this.1).2.1
 unfold newRf
 rw [if_pos hg]
 exact ⟨rfl,rfl,⟨of_decide_eq_true rfl,of_decide_eq_true rfl⟩,⟨fun _=>rfl,fun _=>rfl,fun _=>.inl rfl⟩,fun _=>⟨rfl,rfl⟩,fun e=>absurd rfl e,fun e=>absurd e (of_decide_eq_true rfl),fun j _ hj=>hj.elim (fun e=>absurd e (Nat.not_lt_zero j)) (fun e=>absurd e (of_decide_eq_true rfl)),fun e=>absurd rfl e,.inl rfl,fun e=>absurd e (of_decide_eq_true rfl),.inl rfl,fun e=>absurd e (of_decide_eq_true rfl)⟩
theorem Ready.next (h:Ready n0 qe qL):nextB n0.l.ep n0.l.L qe qL=true∧qe=n0.l.ep+1:=by
 have:=h.may
 unfold Ly.may at this
 rw [Bool.and_eq_true] at this
 exact ⟨this.1,(nextB_iff.1 this.1).2.2.1⟩
theorem Same.trans_u (h:Same n0 n qe) {u:Nat} {x:Us} (hp:x.p=(n.u u).p) (hd:x.down=(n.u u).down) (he:x.epoch=(n.u u).epoch∨x.epoch=qe):Same n0 (n.putU u x) qe:=by
 refine ⟨fun i=>?_,fun i=>?_,fun i=>?_⟩
 all_goals
  by_cases e:i=u
  ·subst e
   rw [putU_at]
   first
    | exact hp.trans (h.p i)
    | exact hd.trans (h.down i)
    | (rcases he with he | he
       ·rw [he];exact h.epoch i
       ·exact .inr he)
  ·rw [putU_off _ _ e]
   first
    | exact h.p i
    | exact h.down i
    | exact h.epoch i
theorem putU_sameR (n:Nd) (i:Nat):n.putU i (n.u i)=n:=by
 unfold Nd.putU
 congr 1
 funext j
 split
 ·next e=>rw [e]
 ·rfl
theorem at_mem {l:List Int} {i:Nat} (h:i < l.length):l.getD i 0=l[i]∧l[i] ∈ l:=⟨by simp [h],List.getElem_mem h⟩
theorem RunR.lay1 (h0:Ready n0 qe qL) (H:RunR n0 n qe qL r) (a1:r.at_=1) :
  n.done r.ask=n∧RunR n0 n qe qL (r.hear (n.ans r.ask) true)∧rankR (unitsR n0.l.L).length (r.hear (n.ans r.ask) true) < rankR (unitsR n0.l.L).length r∧(n.ans r.ask).code≠45:=by
 have ea:r.ask=layK:=by unfold Rf.ask;rw [if_pos a1]
 have el:n.l=n0.l:=H.lay.elim id (fun e=>by omega)
 have ed:n.done layK=n:=by
  unfold Nd.done
  rw [if_neg (by decide),if_neg (by decide),if_pos (by decide)]
  have:n.l.done layK=n.l:=by
   unfold Ly.done
   rw [if_neg (by decide),if_neg (fun e=>absurd e.1 (by decide))]
  rw [this]
  rfl
 have ex:n.ans layK=⟨0,n0.l.n,noL,n0.l.ep,n0.l.L,n0.l.mark,n0.l.size,0⟩:=by
  unfold Nd.ans
  rw [if_neg (by decide),if_neg (by decide),if_pos (by decide),el]
  unfold Ly.ans
  rw [if_pos (by decide)]
 obtain ⟨i0,t0⟩:=H.one a1
 have eh:r.hear (n.ans layK) true=⟨r.qe,r.qL,n0.l.ep,n0.l.L,2,r.i,r.tails,r.e⟩:=by
  rw [ex]
  unfold Rf.hear
  rw [if_neg (fun e=>e.elim (by omega) (fun e=>e.elim (by decide) (by show ¬ (0:Int)=45;decide))),if_pos a1,if_neg (by show ¬ (0:Int)≠0;decide),if_pos (by show nextB n0.l.ep n0.l.L r.qe r.qL=true;rw [H.pe,H.pL];exact h0.next.1)]
 have hs:=units_some h0.good
 rw [ea,ed,eh,ex]
 refine ⟨rfl,⟨H.pe,H.pL,⟨of_decide_eq_true rfl,of_decide_eq_true rfl⟩,H.same,fun e=>absurd e (of_decide_eq_true rfl),fun _=>⟨rfl,rfl⟩,fun _=>by show r.i < _;omega,fun j hj e=>e.elim (fun e=>absurd (show j < 0 from i0 ▸ e) (Nat.not_lt_zero j)) (fun e=>absurd e (of_decide_eq_true rfl)),fun _=>?_,.inl el,fun e=>absurd e (of_decide_eq_true rfl),.inl (H.ord.elim id (fun e=>by omega)),fun e=>absurd e (of_decide_eq_true rfl)⟩,?_,show (0:Int)≠45 by decide⟩
 ·show Tails n0 r.tails r.i
  rw [i0,t0]
  exact ⟨fun x hx=>(by cases hx),fun j hj e=>absurd e (Nat.not_lt_zero j)⟩
 ·unfold rankR
  rw [if_neg (by show ¬ (2:Int)=1;decide),if_pos (show (2:Int)=2 from rfl),if_pos a1]
  show _ - r.i+2 < _
  omega
theorem Closed.putU {u:Nat} {x:Us} {v:Int} (h:Closed n qe qL v) (hd:x.down=(n.u u).down) (he:x.epoch=qe):Closed (n.putU u x) qe qL v:=by
 unfold Closed at *
 by_cases e:v.toNat=u
 ·rw [e,putU_at,hd]
  rcases h with h | h
  ·rw [e] at h;exact .inl ⟨h.1,he⟩
  ·rw [e] at h;exact .inr h
 ·rw [putU_off _ _ e]
  exact h
theorem RunR.more {n':Nd} (h0:Ready n0 qe qL) (H:RunR n0 n qe qL r) (a2:r.at_=2) {K:List (Int × Int)} (hs:Same n0 n' qe) (hl:n'.l=n.l) (ho:n'.o=n.o) (hc:∀ j (hj:j < (unitsR n0.l.L).length),j < r.i+1→Closed n' qe qL ((unitsR n0.l.L)[j])) (hK:Tails n0 K (r.i+1)) :
  RunR n0 n' qe qL (r.next K)∧rankR (unitsR n0.l.L).length (r.next K) < rankR (unitsR n0.l.L).length r:=by
 have h2:=H.two a2
 obtain ⟨o1,o2⟩:=H.old (by omega)
 have el:n.l=n0.l:=H.lay.elim id (fun e=>by omega)
 have eo:n.o=n0.o:=H.ord.elim id (fun e=>by omega)
 have hu:(unitsR r.oL).length=(unitsR n0.l.L).length:=by rw [o2]
 unfold Rf.next
 rw [hu]
 by_cases e:r.i+1=(unitsR n0.l.L).length
 ·rw [if_pos e]
  refine ⟨⟨H.pe,H.pL,⟨of_decide_eq_true rfl,of_decide_eq_true rfl⟩,hs,fun e=>absurd e (of_decide_eq_true rfl),fun _=>⟨o1,o2⟩,fun e=>absurd e (of_decide_eq_true rfl),fun j hj _=>hc j hj (by omega),fun _=>?_,.inl (hl.trans el),fun e=>absurd e (of_decide_eq_true rfl),.inl (ho.trans eo),fun e=>absurd e (of_decide_eq_true rfl)⟩,?_⟩
  ·show Tails n0 K (if (3:Int)=2 then _ else _)
   rw [if_neg (by decide),← e]
   exact hK
  ·unfold rankR
   rw [if_neg (by show ¬ (3:Int)=1;decide),if_neg (by show ¬ (3:Int)=2;decide),if_pos (show (3:Int)=3 from rfl),if_neg (by omega),if_pos a2]
   omega
 ·rw [if_neg e]
  refine ⟨⟨H.pe,H.pL,⟨of_decide_eq_true rfl,of_decide_eq_true rfl⟩,hs,fun e=>absurd e (of_decide_eq_true rfl),fun _=>⟨o1,o2⟩,fun _=>by show r.i+1 < _;omega,fun j hj hj2=>hc j hj (hj2.elim id (fun e=>absurd e (of_decide_eq_true rfl))),fun _=>?_,.inl (hl.trans el),fun e=>absurd e (of_decide_eq_true rfl),.inl (ho.trans eo),fun e=>absurd e (of_decide_eq_true rfl)⟩,?_⟩
  ·show Tails n0 K (if (2:Int)=2 then _ else _)
   rw [if_pos rfl]
   exact hK
  ·unfold rankR
   rw [if_neg (by show ¬ (2:Int)=1;decide),if_pos (show (2:Int)=2 from rfl),if_neg (by omega),if_pos a2]
   show _ - (r.i+1)+2 < _
   omega
theorem RunR.seal2 (h0:Ready n0 qe qL) (H:RunR n0 n qe qL r) (a2:r.at_=2) :
  RunR n0 (n.done r.ask) qe qL r∧(((n.ans r.ask).code=45∧r.mays=true∧RunR n0 (n.done r.ask) qe qL r.skip∧rankR (unitsR n0.l.L).length r.skip < rankR (unitsR n0.l.L).length r)∨
   ((n.ans r.ask).code≠45∧RunR n0 (n.done r.ask) qe qL (r.hear (n.ans r.ask) true)∧rankR (unitsR n0.l.L).length (r.hear (n.ans r.ask) true) < rankR (unitsR n0.l.L).length r)):=by
 have h2:=H.two a2
 obtain ⟨o1,o2⟩:=H.old (by omega)
 obtain ⟨g1,g2⟩:=at_mem h2
 have eu:r.unit=(unitsR n0.l.L)[r.i]:=by unfold Rf.unit;rw [o2];exact g1
 have hr:=units_16r h0.good g2
 have hT:=H.tails (by omega)
 rw [if_pos a2] at hT
 have ea:r.ask=sealK ((unitsR n0.l.L)[r.i]) qe:=by unfold Rf.ask;rw [if_neg (by omega),if_pos a2,eu,H.pe]
 have hcl:=H.closed
 generalize hv:(unitsR n0.l.L)[r.i]=v at *
 have ex:n.ans (sealK v qe)=(n.u v.toNat).ans (sealK v qe):=by
  unfold Nd.ans
  rw [if_pos (show 1≤(sealK v qe).kind∧(sealK v qe).kind≤5 from ⟨of_decide_eq_true rfl,of_decide_eq_true rfl⟩),if_pos (show 0≤(sealK v qe).unit∧(sealK v qe).unit≤15 from hr)]
  rfl
 have ed:n.done (sealK v qe)=n.putU v.toNat ((n.u v.toNat).done (sealK v qe)):=by
  unfold Nd.done
  rw [if_pos (show 1≤(sealK v qe).kind∧(sealK v qe).kind≤5 from ⟨of_decide_eq_true rfl,of_decide_eq_true rfl⟩),if_pos (show 0≤(sealK v qe).unit∧(sealK v qe).unit≤15 from hr)]
  rfl
 rw [ea]
 cases hd:(n.u v.toNat).down with
 | true =>
  have e1:(n.u v.toNat).done (sealK v qe)=n.u v.toNat:=by unfold Us.done;rw [if_pos (.inl hd)]
  have e2:n.done (sealK v qe)=n:=by rw [ed,e1,putU_sameR]
  have e3:n.ans (sealK v qe)=anP 45 0 noS 0:=by rw [ex];unfold Us.ans;rw [if_pos hd]
  have hn:v ∉ unitsR qL:=fun e=>by
   have:=h0.up v g2 e
   rw [← H.same.down,hd] at this
   exact Bool.noConfusion this
  have hm:r.mays=true:=by
   unfold Rf.mays
   rw [eu,H.pL,decide_eq_true a2,decide_eq_false hn]
   rfl
  rw [e2,e3]
  refine ⟨H,.inl ⟨rfl,hm,?_⟩⟩
  unfold Rf.skip
  rw [if_pos hm]
  refine H.more h0 a2 H.same rfl rfl (fun j hj hj2=>?_) ⟨hT.of,fun j hj hj2 hjd=>?_⟩
  ·by_cases e:j=r.i
   ·subst e
    rw [hv]
    exact .inr ⟨hd,hn⟩
   ·exact hcl j hj (.inl (by omega))
  ·by_cases e:j=r.i
   ·subst e
    rw [hv,← H.same.down,hd] at hjd
    exact Bool.noConfusion hjd
   ·exact hT.all j hj (by omega) hjd
 | false =>
  have hep:¬ qe < (n.u v.toNat).epoch:=by
   rcases H.same.epoch v.toNat with e | e
   ·rw [e]
    rcases h0.epoch v.toNat with g | g <;> omega
   ·omega
  have e1:(n.u v.toNat).done (sealK v qe)=⟨(n.u v.toNat).p,qe,(n.u v.toNat).down⟩:=by
   unfold Us.done
   rw [if_neg (fun e=>e.elim (fun e=>by rw [hd] at e;exact Bool.noConfusion e) (fun e=>e.elim (fun e=>absurd e (show ¬ ((5:Int) < 1∨5 < (5:Int)) by decide)) (fun e=>hep e))),if_pos (show (sealK v qe).kind=5 from rfl)]
   rfl
  have e3:n.ans (sealK v qe)=anP 0 (n0.u v.toNat).p.tail noS qe:=by
   rw [ex]
   unfold Us.ans
   rw [if_neg (by rw [hd];decide),if_neg (show ¬ ((sealK v qe).kind < 1∨5 < (sealK v qe).kind) from fun e=>absurd (show (5:Int) < 1∨5 < (5:Int) from e) (by decide)),if_neg (show ¬ (sealK v qe).epoch < (n.u v.toNat).epoch from hep),if_pos (show (sealK v qe).kind=5 from rfl),H.same.p]
   rfl
  rw [ed,e1,e3]
  have hs:Same n0 (n.putU v.toNat ⟨(n.u v.toNat).p,qe,(n.u v.toNat).down⟩) qe:=H.same.trans_u rfl rfl (.inr rfl)
  have hcl2:∀ x,Closed n qe qL x→Closed (n.putU v.toNat ⟨(n.u v.toNat).p,qe,(n.u v.toNat).down⟩) qe qL x:=fun x hx=>hx.putU rfl rfl
  have el:n.l=n0.l:=H.lay.elim id (fun e=>by omega)
  have eo:n.o=n0.o:=H.ord.elim id (fun e=>by omega)
  refine ⟨⟨H.pe,H.pL,H.range,hs,H.one,H.old,H.two,fun j hj e=>hcl2 _ (hcl j hj e),H.tails,.inl el,fun e=>by omega,.inl eo,fun e=>by omega⟩,.inr ⟨show (0:Int)≠45 by decide,?_⟩⟩
  have eh:r.hear (anP 0 (n0.u v.toNat).p.tail noS qe) true=r.next (r.tails ++ [(v,(n0.u v.toNat).p.tail)]):=by
   unfold Rf.hear
   rw [if_neg (fun e=>e.elim (by omega) (fun e=>e.elim (by decide) (show ¬ (0:Int)=45 by decide))),if_neg (by omega),if_pos a2,if_neg (show ¬ (anP 0 (n0.u v.toNat).p.tail noS qe).code≠0 from fun e=>e rfl),eu]
   rfl
  rw [eh]
  refine H.more h0 a2 hs rfl rfl (fun j hj hj2=>?_) ⟨fun x hx=>?_,fun j hj hj2 hjd=>?_⟩
  ·by_cases e:j=r.i
   ·subst e
    rw [hv]
    refine .inl ⟨?_,?_⟩
    ·rw [putU_at];exact hd
    ·rw [putU_at]
   ·exact hcl2 _ (hcl j hj (.inl (by omega)))
  ·rcases List.mem_append.1 hx with hx | hx
   ·exact hT.of x hx
   ·rw [List.mem_singleton.1 hx]
    exact ⟨g2,rfl⟩
  ·by_cases e:j=r.i
   ·subst e
    rw [hv]
    exact List.mem_append.2 (.inr (List.mem_singleton.2 rfl))
   ·exact List.mem_append.2 (.inl (hT.all j hj (by omega) hjd))
theorem nd_lay (n:Nd) {a:Ak} (h:9≤a.kind∧a.kind≤11):n.done a=n.putL (n.l.done a)∧n.ans a=n.l.ans a:=by
 unfold Nd.done Nd.ans
 rw [if_neg (by omega),if_neg (by omega),if_pos h,if_neg (by omega),if_neg (by omega),if_pos h]
 exact ⟨rfl,rfl⟩
theorem nd_ord (n:Nd) {a:Ak} (h:6≤a.kind∧a.kind≤8):n.done a=n.putO (n.o.done a)∧n.ans a=n.o.ans a:=by
 unfold Nd.done Nd.ans
 rw [if_neg (by omega),if_pos h,if_neg (by omega),if_pos h]
 exact ⟨rfl,rfl⟩
theorem ly_chg (y:Ly) {a:Ak} (h:a.kind=10):y.done a=(if y.may a.pe a.L=true then ⟨a.pe,a.L,y.used ++ unitsR a.L,y.mark,y.size,y.n⟩ else y)∧y.ans a=(if y.may a.pe a.L=true then anL 0 a.pe a.L else anL 48 y.ep y.L):=by
 refine ⟨by unfold Ly.done;rw [if_pos h],by unfold Ly.ans;rw [if_neg (show ¬ a.kind=9 by omega),if_pos h]⟩
theorem od_startR (o:Od) {a:Ak} (h:a.kind=8) (hp:0≤a.page∧a.page≤16384):o.done a=(if o.epoch < a.epoch then ⟨a.epoch,a.page,true⟩ else o)∧o.ans a=(if o.epoch < a.epoch then anP 0 0 noT a.epoch else anP 40 0 noT o.epoch):=by
 unfold Od.done Od.ans
 rw [if_pos h]
 by_cases e:o.epoch < a.epoch
 ·rw [if_pos ⟨h,e,hp.1,hp.2⟩,if_pos e,if_pos e,if_neg (by omega),if_neg (by omega)]
  exact ⟨rfl,rfl⟩
 ·rw [if_neg (fun g=>e g.2.1),if_neg e,if_neg e,if_neg (fun g=>by omega),if_pos (by omega)]
  exact ⟨rfl,rfl⟩
theorem RunR.chg3 (h0:Ready n0 qe qL) (H:RunR n0 n qe qL r) (a3:r.at_=3) :
  RunR n0 (n.done r.ask) qe qL r∧(n.ans r.ask).code≠45∧RunR n0 (n.done r.ask) qe qL (r.hear (n.ans r.ask) true)∧rankR (unitsR n0.l.L).length (r.hear (n.ans r.ask) true) < rankR (unitsR n0.l.L).length r:=by
 obtain ⟨o1,o2⟩:=H.old (by omega)
 have hT:=H.tails (by omega)
 rw [if_neg (by omega)] at hT
 have eo:n.o=n0.o:=H.ord.elim id (fun e=>by omega)
 have ea:r.ask=chgK qe qL:=by unfold Rf.ask;rw [if_neg (by omega),if_neg (by omega),if_pos a3,H.pe,H.pL]
 have hq:nextB qe qL qe qL=false:=by
  cases e:nextB qe qL qe qL with
  | true=>have:=(nextB_iff.1 e).2.2.1;omega
  | false=>rfl
 obtain ⟨ed,ex⟩:=nd_lay n (a:=chgK qe qL) ⟨of_decide_eq_true rfl,of_decide_eq_true rfl⟩
 have key:n.l.done (chgK qe qL)=chgL n0.l qe qL∧(n.l.ans (chgK qe qL)=anL 0 qe qL∨n.l.ans (chgK qe qL)=anL 48 qe qL):=by
  obtain ⟨y1,y2⟩:=ly_chg n.l (a:=chgK qe qL) rfl
  rw [y1,y2]
  rcases H.lay with e | ⟨e,_⟩
  ·rw [e,if_pos (show n0.l.may (chgK qe qL).pe (chgK qe qL).L=true from h0.may),if_pos (show n0.l.may (chgK qe qL).pe (chgK qe qL).L=true from h0.may)]
   exact ⟨rfl,.inl rfl⟩
  ·have hm:¬ (chgL n0.l qe qL).may (chgK qe qL).pe (chgK qe qL).L=true:=by
    show ¬ (chgL n0.l qe qL).may qe qL=true
    unfold Ly.may chgL
    rw [hq,Bool.false_and]
    decide
   rw [e,if_neg hm,if_neg hm]
   exact ⟨rfl,.inr rfl⟩
 obtain ⟨k1,k2⟩:=key
 rw [ea,ed,ex,k1]
 have hs:Same n0 (n.putL (chgL n0.l qe qL)) qe:=⟨H.same.p,H.same.down,H.same.epoch⟩
 have base:RunR n0 (n.putL (chgL n0.l qe qL)) qe qL r:=⟨H.pe,H.pL,H.range,hs,H.one,H.old,H.two,H.closed,H.tails,.inr ⟨rfl,by omega⟩,fun _=>rfl,.inl eo,fun e=>by omega⟩
 have go:∀ x:An,(x=anL 0 qe qL∨x=anL 48 qe qL)→x.code≠45∧r.hear x true=r.to 4:=fun x hx=>by
  have hc:x.code=0∨(x.code=48∧sameP x.pe x.L r.qe r.qL=true):=by
   rcases hx with rfl | rfl
   ·exact .inl rfl
   ·refine .inr ⟨rfl,?_⟩
    rw [H.pe,H.pL]
    exact decide_eq_true ⟨rfl,rfl⟩
  have h45:x.code≠45:=by rcases hc with e | e <;> omega
  refine ⟨h45,?_⟩
  unfold Rf.hear
  rw [if_neg (fun e=>e.elim (by omega) (fun e=>e.elim (by decide) h45)),if_neg (by omega),if_neg (by omega),if_pos a3,if_pos hc]
 obtain ⟨q1,q2⟩:=go _ k2
 rw [q2]
 refine ⟨base,q1,⟨H.pe,H.pL,⟨of_decide_eq_true rfl,of_decide_eq_true rfl⟩,hs,fun e=>absurd e (of_decide_eq_true rfl),fun _=>⟨o1,o2⟩,fun e=>absurd e (of_decide_eq_true rfl),fun j hj _=>H.closed j hj (.inr (by omega)),fun _=>?_,.inr ⟨rfl,of_decide_eq_true rfl⟩,fun _=>rfl,.inl eo,fun e=>absurd e (of_decide_eq_true rfl)⟩,?_⟩
 ·show Tails n0 r.tails (if (4:Int)=2 then _ else _)
  rw [if_neg (by decide)]
  exact hT
 ·rw [rank4 (r:=r.to 4) rfl,rank3 a3]
  decide
theorem tailJ_low {n i u:Int} (hn:1≤n∧n≤4) (hi:0≤i∧i < n):∀ (K:List (Int × Int)) (t:Int),0≤t∧t≤16384→0≤tailJ n i u K t∧tailJ n i u K t≤16384
 | [],t,h=>h
 | x :: K,t,h=>by
  have g:=gain_range (n:=n) (i:=i) (v:=x.2) hn hi
  show 0≤tailJ n i u K (if x.1=u then max t (gain n i x.2) else t)∧tailJ n i u K (if x.1=u then max t (gain n i x.2) else t)≤16384
  refine tailJ_low hn hi K _ ?_
  split <;> omega
theorem tailK_low {n i:Int} {K:List (Int × Int)} (hn:1≤n∧n≤4) (hi:0≤i∧i < n):∀ (c:List Int) (t:Int),0≤t∧t≤16384→0≤tailK n i K c t∧tailK n i K c t≤16384
 | [],t,h=>h
 | u :: c,t,h=>tailK_low hn hi c _ (tailJ_low hn hi K t h)
theorem tailR_low (ep:Int) (L:List (List Int)) (K:List (Int × Int)):0≤tailR ep L K∧tailR ep L K≤16384:=by
 unfold tailR
 split
 ·next hg =>
  obtain ⟨n1,n4⟩:=z0v hg
  have key:∀ k,k≤L.length→0≤tailN L K k∧tailN L K k≤16384:=by
   intro k
   induction k with
   | zero=>intro _;unfold tailN;simp
   | succ k ih =>
    intro hk
    have e:tailN L K (k+1)=tailK L.length (k:Int) K (L.getD k []) (tailN L K k):=by
     unfold tailN
     rw [List.range_succ,List.foldl_append]
     rfl
    rw [e]
    exact tailK_low ⟨by omega,by omega⟩ ⟨by omega,by omega⟩ _ _ (ih (by omega))
  exact key _ (Nat.le_refl _)
 ·omega
theorem RunR.start4 (h0:Ready n0 qe qL) (H:RunR n0 n qe qL r) (a4:r.at_=4) :
  RunR n0 (n.done r.ask) qe qL r∧(n.ans r.ask).code≠45∧RunR n0 (n.done r.ask) qe qL (r.hear (n.ans r.ask) true)∧rankR (unitsR n0.l.L).length (r.hear (n.ans r.ask) true) < rankR (unitsR n0.l.L).length r:=by
 obtain ⟨o1,o2⟩:=H.old (by omega)
 have hT:=H.tails (by omega)
 rw [if_neg (by omega)] at hT
 have el:=H.four (by omega)
 have ea:r.ask=startK qe (tailR r.oe r.oL r.tails):=by unfold Rf.ask;rw [if_neg (by omega),if_neg (by omega),if_neg (by omega),if_pos a4,H.pe]
 have ht:=tailR_low r.oe r.oL r.tails
 have hoe:=H.ord
 generalize hte:tailR r.oe r.oL r.tails=t at *
 obtain ⟨ed,ex⟩:=nd_ord n (a:=startK qe t) ⟨of_decide_eq_true rfl,of_decide_eq_true rfl⟩
 have key:n.o.done (startK qe t)=⟨qe,t,true⟩∧(n.o.ans (startK qe t)=anP 0 0 noT qe∨n.o.ans (startK qe t)=anP 40 0 noT qe):=by
  obtain ⟨y1,y2⟩:=od_startR n.o (a:=startK qe t) rfl ht
  rw [y1,y2]
  rcases hoe with e | ⟨e,_⟩
  ·rw [e,if_pos (show n0.o.epoch < (startK qe t).epoch from h0.order),if_pos (show n0.o.epoch < (startK qe t).epoch from h0.order)]
   exact ⟨rfl,.inl rfl⟩
  ·rw [e,if_neg (show ¬ (⟨qe,t,true⟩:Od).epoch < (startK qe t).epoch from show ¬ qe < qe by omega),if_neg (show ¬ (⟨qe,t,true⟩:Od).epoch < (startK qe t).epoch from show ¬ qe < qe by omega)]
   exact ⟨rfl,.inr rfl⟩
 obtain ⟨k1,k2⟩:=key
 rw [ea,ed,ex,k1]
 have hs:Same n0 (n.putO ⟨qe,t,true⟩) qe:=⟨H.same.p,H.same.down,H.same.epoch⟩
 have hc:∀ j (hj:j < (unitsR n0.l.L).length),Closed (n.putO ⟨qe,t,true⟩) qe qL ((unitsR n0.l.L)[j]):=fun j hj=>H.closed j hj (.inr (by omega))
 have go:∀ x:An,(x=anP 0 0 noT qe∨x=anP 40 0 noT qe)→x.code≠45∧r.hear x true=r.ends 0:=fun x hx=>by
  have hc:x.code=0∨(x.code=40∧x.epoch=r.qe):=by
   rcases hx with rfl | rfl
   ·exact .inl rfl
   ·exact .inr ⟨rfl,H.pe.symm⟩
  have h45:x.code≠45:=by rcases hc with e | e <;> omega
  refine ⟨h45,?_⟩
  unfold Rf.hear
  rw [if_neg (fun e=>e.elim (by omega) (fun e=>e.elim (by decide) h45)),if_neg (by omega),if_neg (by omega),if_neg (by omega),if_pos hc]
 obtain ⟨q1,q2⟩:=go _ k2
 rw [q2]
 refine ⟨⟨H.pe,H.pL,H.range,hs,H.one,H.old,H.two,fun j hj _=>hc j hj,H.tails,.inr ⟨el,by omega⟩,fun _=>el,.inr ⟨hte ▸ rfl,by omega⟩,fun e=>by omega⟩,q1,⟨H.pe,H.pL,⟨of_decide_eq_true rfl,of_decide_eq_true rfl⟩,hs,fun e=>absurd e (of_decide_eq_true rfl),fun _=>⟨o1,o2⟩,fun e=>absurd e (of_decide_eq_true rfl),fun j hj _=>hc j hj,fun _=>?_,.inr ⟨el,of_decide_eq_true rfl⟩,fun _=>el,.inr ⟨hte ▸ rfl,of_decide_eq_true rfl⟩,fun _=>⟨rfl,hte ▸ rfl⟩⟩,?_⟩
 ·show Tails n0 r.tails (if (5:Int)=2 then _ else _)
  rw [if_neg (by decide)]
  exact hT
 ·rw [rank5 (r:=r.ends 0) rfl,rank4 a4]
  decide
end
theorem addrR_no {ep:Int} {L:List (List Int)} {c p:Int} (h:¬ (goodB ep L=true∧(0≤c∧c < L.length)∧(0≤p∧p < 16384)∧p * L.length+c < 16384)):addrR ep L c p = -1:=if_neg h
theorem mul_small {p n:Int} (hp:0≤p∧p < 16384) (hn:1≤n∧n≤4):0≤p * n∧p * n≤65536:=by
 rcases z0y hn with rfl | rfl | rfl | rfl <;> omega
theorem there14 {q:Int} (hq:0≤q∧q < 14):thereB q=true:=thereB_iff.2 (by omega)
theorem add_off (p:Ps) (x:Pg) {q:Int} (h:x.at_≠q):(p.add x).kind q=p.kind q∧(p.add x).text q=p.text q:=by
 have e:findP (p.l ++ [x]) q=findP p.l q:=by
  unfold findP
  rw [List.find?_append]
  cases List.find? (fun x=>decide (x.at_=q)) p.l with
  | some y=>rfl
  | none=>simp [h]
 exact ⟨by simp only [Ps.kind,Ps.add,e],by simp only [Ps.text,Ps.add,e]⟩
theorem add_on {p:Ps} (ho:p.Ok) {x:Pg} (ht:thereB x.at_=true) (hk:p.kind x.at_=0):(p.add x).kind x.at_=x.kind∧(p.add x).text x.at_=x.s:=by
 obtain ⟨h1,h2⟩:=ho.kind_zero ht hk
 have e:findP (p.l ++ [x]) x.at_=some x:=by
  unfold findP
  rw [List.find?_append,show List.find? (fun y=>decide (y.at_=x.at_)) p.l=none from findP_none.2 h2]
  simp
 refine ⟨?_,by simp only [Ps.text,Ps.add,e]⟩
 simp only [Ps.kind,Ps.add,e]
 rw [if_pos ht,if_neg (by omega)]
section
variable {u:Us} {k:Ak}
end
end Go.Proofs.YtkefpbcifcjibaaGreat
namespace Go.Proofs.YtkefpbcifcjibaaGreat
open Go.RowKit Go.Maps
theorem fromP_self {p:Ps} (h:p.Ok) {m:Int} (hm:m≤p.edge):fromP p.l m=p.l:=by
 unfold fromP
 rw [List.filter_eq_self]
 intro x hx
 have:=(h.each x hx).1.1
 exact decide_eq_true (by omega)
theorem fromP_up (l:List Pg) (m:Int):lessP (fromP l m) m=fromP l (m+1):=by
 unfold lessP fromP
 rw [List.filter_filter]
 congr 1
 funext x
 by_cases h:m+1≤x.at_
 ·simp [h,show m≤x.at_ by omega,show x.at_≠m by omega]
 ·by_cases h2:x.at_=m
  ·simp [h2,show ¬ m+1≤m by omega]
  ·simp [h,h2,show ¬ m≤x.at_ by omega]
def Trm (G:Nat→Prop) (w0:World) (b mb:Nat) (p:Ps) (w:World) (m:Int):Prop:=w.heap[b]?=some (.cells #[.int .i64 p.room,.int .i64 m,.map (some mb)] 234 (0,0))∧Tp w mb (fromP p.l m)∧Kept (fun k=>¬ G k) w0 w
theorem Trm.drew {G:Nat→Prop} {w0 w:World} {b mb:Nat} {p:Ps} {m:Int} (h:Trm G w0 b mb p w m):Trm G w0 b mb p w.drew m:=⟨h.1,h.2.1.keep rfl,h.2.2.drew⟩
theorem Trm.next {G:Nat→Prop} {w0 w w2:World} {b mb n:Nat} {p:Ps} {m:Int} {D:DataW Unit} (h:Trm G w0 b mb p w m) (hne:mb≠b) (hb:G b) (hmb:G mb) (hM:Mp D (fromP p.l m)) (hm:(Lit.int .i64 m).wf=true)
  (hown:w2.ownsMap Tryz.prog 279 sheetR mb n (D.del (klA m))) (ht:w.mapTurned w2 mb):Trm G w0 b mb p (w2.setCell ⟨b,1,none⟩ (.int .i64 (m+1))) (m+1):=by
 obtain ⟨h1,h2,h3⟩:=h
 have hg:=ht.grown
 have e1:=(hg.block b (lt_of_block h1) (fun e=>hne (Option.some.inj e).symm)).trans h1
 refine ⟨three_set1 e1 _,?_,(h3.grown hg (fun k e=>by cases e;exact fun hn=>hn hmb)).setCell (p:=⟨b,1,none⟩) (fun hn=>hn hb) _⟩
 have h4:=Tp.of hown (hM.del hm)
 rw [fromP_up] at h4
 exact h4.keep (Below.heap_setCell _ _ _ _ hne)
theorem Trm.done {G:Nat→Prop} {w0 w:World} {b mb:Nat} {p:Ps} {m:Int} (h:Trm G w0 b mb p w m) (hne:mb≠b) (hb:G b) (hmb:G mb) (hG:∀ k,G k→k < w0.heap.size):Left PGm G w0 w b ⟨fromP p.l m,p.room,m⟩ :=
 ⟨G,⟨mb,h.1,h.2.1,hne,hb,hmb,fun k hk=>Nat.lt_of_lt_of_le (hG k hk) h.2.2.size⟩,h.2.2,fun k hk=>.inl hk⟩
theorem ptrim_any (G:Nat→Prop) (w:World) (b:Nat) (p:Ps) (a:Int) (h:PGm G w b p) (hok:p.Ok) (ha:-9223372036854775808≤a∧a≤9223372036854775807) :
  Calls Tryz.prog 190 #[.pointer (some ⟨b,0,none⟩),.int .i64 a] w fun e w'=>e=.returned (.int .i64 (Ps.trimE a))∧Left PGm G w w' b (p.trim a):=by
 by_cases h0:a < 0
 ·have HE:=Lh (show Ps.trimE a=1 from if_pos (.inl h0))
  have HP:=Lh (show p.trim a=p from if_neg (by rw [HE.out];decide))
  have HS:=Lh (left_same h)
  clear h hok ha
  go_enter Tryz.func190,Tryz.ntmps190
  go_wp2_with fail
  go_ret
  rw [HE.out,HP.out]
  exact ⟨rfl,HS.out⟩
 have h0':0≤a:=by omega
 by_cases h1:4096 < a
 ·have HE:=Lh (show Ps.trimE a=1 from if_pos (.inr h1))
  have HP:=Lh (show p.trim a=p from if_neg (by rw [HE.out];decide))
  have HS:=Lh (left_same h)
  clear h hok h0 ha
  go_enter Tryz.func190,Tryz.ntmps190
  go_wp2_with fail
  go_ret
  rw [HE.out,HP.out]
  exact ⟨rfl,HS.out⟩
 have h1':a≤4096:=by omega
 have HE:=Lh (show Ps.trimE a=0 from if_neg (by omega))
 have HT:=Lh (show p.trim a=⟨fromP p.l (max p.edge a),p.room,max p.edge a⟩ from by unfold Ps.trim;rw [if_pos HE.out];rfl)
 obtain ⟨mb,g1,g2,g3,g4,g5,g6⟩:=h
 have HM0:=Lh (show Trm G w b mb p w p.edge from ⟨g1,by rw [fromP_self hok (Int.le_refl _)];exact g2,Kept.refl _ _⟩)
 have hed:=hok.edge
 have HED:=Lh hed
 have HN:=Lh g3
 have HG1:=Lh g4
 have HG2:=Lh g5
 have HG3:=Lh g6
 clear hok h0 h1 g1 g2 g3 g4 g5 g6 hed ha
 go_enter Tryz.func190,Tryz.ntmps190
 go_wp2_with fail
 go_loopw [] (fun wr=>∃ m:Int,p.edge≤m∧m≤max p.edge a∧Hid (Trm G w b mb p wr m)) (fun wr=>(4096 - (intOf ((wr.cell? ⟨b,1,none⟩).getD undef))).toNat)
 case atStart=>exact ⟨p.edge,Int.le_refl _,by omega,HM0⟩
 case round =>
  obtain ⟨m,hm0,hm1,HM⟩:=hrel
  obtain ⟨c0,c1,c2,f0,f1,f2⟩:=z09 HM.out.1
  have hed:=HED.out
  by_cases hlt:m < a
  ·have hm2:0≤m:=by omega
   have hm3:m≤4096:=by omega
   have hwf:(Lit.int .i64 m).wf=true:=WalkArith.wf_i64 (by omega)
   have HMd:=Lh HM.out.drew
   obtain ⟨D,hD,hMp⟩:=HMd.out.2.1
   have HD:=Lh hD
   have HKEY:=Lh (pspot_key m hwf)
   have HNX:=Lh (fun w2 n=>@Trm.next G w wr.drew w2 b mb n p m D HMd.out HN.out HG1.out HG2.out hMp hwf)
   have HBL:=Lh (lt_of_block HMd.out.1)
   clear hD hMp hwf
   go_wp2_with fail
   go_still_tail 9,(by kernel_rfl)
   change wpList _ _ _ _ _ wr.drew
   go_wp2_with (at_delete;refine wpList_delete_own _ rfl _ _ 232 279 rfl 277 pspot_law Tryz.underlying232 sheetR mb _ D rfl HD.out _ _ rfl HKEY.out ?_;intro w1 hown1 hturn1;have HO1:=Lh hown1;have HT1:=Lh hturn1;have HE1:=Lh ((hturn1.grown.block b HBL.out (fun e=>HN.out (Option.some.inj e).symm)).trans HMd.out.1);obtain ⟨y0,y1,y2,z0,z1,z2⟩:=z09 HE1.out;clear hown1 hturn1 c0 c1 c2 f0 f1 f2)
   go_roundw
   case rel=>exact ⟨m+1,by omega,by omega,Lh (HNX.out _ _ HO1.out HT1.out)⟩
   case measure =>
    rw [z02 (three_set1 HE1.out (.int .i64 (m+1))) 1,z02 HM.out.1 1]
    simp [intOf]
    omega
  ·have hmx:m=max p.edge a:=by omega
   have hge:a≤m:=by omega
   have HF:=Lh (HM.out.done HN.out HG1.out HG2.out HG3.out)
   clear hlt
   go_wp2_with fail
   go_ret
   rw [HE.out,HT.out,← hmx]
   exact ⟨rfl,HF.out⟩
theorem ptrim_nil (a:Int) (w:World):Calls Tryz.prog 190 #[.pointer none,.int .i64 a] w fun e w'=>e=.returned (.int .i64 1)∧w=w':=by
 go_enter Tryz.func190,Tryz.ntmps190
 go_wp2_with fail
 go_ret
 exact ⟨rfl,rfl⟩
theorem Ps.Ok.none {p:Ps} (h:p.Ok) {a:Int} (ht:thereB a=true) (hk:p.kind a=0):a ∉ p.l.map (·.at_):=by
 intro hm
 obtain ⟨x,hx,e⟩:=List.mem_map.1 hm
 exact (h.kind_zero ht hk).2 x hx e
theorem Ps.Ok.most {p:Ps} (h:p.Ok):p.l.length≤100000:=by have:=h.few;have:=h.room;omega
theorem pwrite_any (G:Nat→Prop) (w:World) (b:Nat) (p:Ps) (a:Int) (s:ByteArray) (h:PGm G w b p) (hok:p.Ok) (hs:s.size≤1000000) :
  Calls Tryz.prog 187 #[.pointer (some ⟨b,0,none⟩),.int .i64 a,.string s] w fun e w'=>e=.returned (.int .i64 (p.writeE a s))∧Left PGm G w w' b (p.write a s):=by
 have CN:=Lh (pgIsNone_any b a w)
 have CK:=Lh (kind_any G w b p a h)
 have HNO:=Lh (show ∀ c,p.writeE a s=c→c≠0→Left PGm G w w b (p.write a s) from fun c e hc=>by
  unfold Ps.write
  rw [if_neg (by rw [e];exact hc)]
  exact left_same h)
 by_cases ht:thereB a=true
 ·rw [ht] at CN
  have ht':¬ thereB a=false:=by rw [ht];decide
  by_cases hz:4096 < s.size
  ·have HE:=Lh (show p.writeE a s=2 from by unfold Ps.writeE;rw [if_neg ht',if_pos hz])
   have hz':(4096:Int) < (s.size:Int):=by omega
   clear h hok hz ht ht'
   generalize p.kind a=kd at *
   go_enter Tryz.func187,Tryz.ntmps187
   go_wp2_with (first | (go_at_call 193;refine CN.out.mono ?_;rintro e w1 ⟨rfl,rfl⟩) | (go_at_call 192;refine CK.out.mono ?_;rintro e w2 ⟨rfl,rfl⟩))
   go_ret
   rw [HE.out]
   exact ⟨rfl,HNO.out 2 HE.out (by decide)⟩
  have hz':(s.size:Int)≤4096:=by omega
  by_cases h3:p.kind a=3
  ·have HE:=Lh (show p.writeE a s=43 from by unfold Ps.writeE;rw [if_neg ht',if_neg hz,if_pos h3])
   rw [h3] at CK
   clear h hok h3 hz ht ht'
   go_enter Tryz.func187,Tryz.ntmps187
   go_wp2_with (first | (go_at_call 193;refine CN.out.mono ?_;rintro e w1 ⟨rfl,rfl⟩) | (go_at_call 192;refine CK.out.mono ?_;rintro e w2 ⟨rfl,rfl⟩))
   go_ret
   rw [HE.out]
   exact ⟨rfl,HNO.out 43 HE.out (by decide)⟩
  have d3:(p.kind a == 3)=false:=beq_eq_false_iff_ne.2 h3
  by_cases h0:p.kind a=0
  ·rw [h0] at CK
   have CP:=Lh (put_any G w b p a 1 s h ht (hok.none ht h0) hs hok.most)
   have HE:=Lh (show (if p.room≤p.l.length then (44:Int) else 0)=p.writeE a s from by unfold Ps.writeE;rw [if_neg ht',if_neg hz,if_neg h3,if_neg (show ¬ p.kind a≠0 from by rw [h0];decide)])
   have HW:=Lh (show (if p.room≤p.l.length then p else p.add ⟨a,1,s⟩)=p.write a s from by
    unfold Ps.write
    rw [← HE.out]
    by_cases hr:p.room≤p.l.length
    ·rw [if_pos hr,if_pos hr,if_neg (by decide)]
    ·rw [if_neg hr,if_neg hr,if_pos rfl])
   rw [HE.out,HW.out] at CP
   clear h hok h3 h0 hz ht ht' d3
   go_enter Tryz.func187,Tryz.ntmps187
   go_wp2_with (first | (go_at_call 193;refine CN.out.mono ?_;rintro e w1 ⟨rfl,rfl⟩) | (go_at_call 192;refine CK.out.mono ?_;rintro e w2 ⟨rfl,rfl⟩) | (go_at_call 194;refine CP.out.mono ?_;rintro e w3 ⟨rfl,h3⟩))
   go_ret
   exact ⟨rfl,h3⟩
  ·have HE:=Lh (show p.writeE a s=41 from by unfold Ps.writeE;rw [if_neg ht',if_neg hz,if_neg h3,if_pos h0])
   have d0:(p.kind a != 0)=true:=bne_iff_ne.2 h0
   clear h hok h3 h0 hz ht ht'
   generalize p.kind a=kd at *
   go_enter Tryz.func187,Tryz.ntmps187
   go_wp2_with (first | (go_at_call 193;refine CN.out.mono ?_;rintro e w1 ⟨rfl,rfl⟩) | (go_at_call 192;refine CK.out.mono ?_;rintro e w2 ⟨rfl,rfl⟩))
   go_ret
   rw [HE.out]
   exact ⟨rfl,HNO.out 41 HE.out (by decide)⟩
 ·have ht':thereB a=false:=Bool.eq_false_iff.2 ht
  have HE:=Lh (show p.writeE a s=1 from by unfold Ps.writeE;rw [if_pos ht'])
  rw [ht'] at CN
  clear h hok ht ht'
  generalize p.kind a=kd at *
  go_enter Tryz.func187,Tryz.ntmps187
  go_wp2_with (first | (go_at_call 193;refine CN.out.mono ?_;rintro e w1 ⟨rfl,rfl⟩) | (go_at_call 192;refine CK.out.mono ?_;rintro e w2 ⟨rfl,rfl⟩))
  go_ret
  rw [HE.out]
  exact ⟨rfl,HNO.out 1 HE.out (by decide)⟩
theorem pwrite_nil (a:Int) (s:ByteArray) (w:World) (hs:s.size≤maxLen):Calls Tryz.prog 187 #[.pointer none,.int .i64 a,.string s] w fun e w'=>e=.returned (.int .i64 1)∧w=w':=by
 have CN:=Lh (isNone_nil a w)
 have CK:=Lh (kind_nil a w)
 go_enter Tryz.func187,Tryz.ntmps187
 go_wp2_with (first | (go_at_call 193;refine CN.out.mono ?_;rintro e w1 ⟨rfl,rfl⟩) | (go_at_call 192;refine CK.out.mono ?_;rintro e w2 ⟨rfl,rfl⟩))
 go_ret
 exact ⟨rfl,rfl⟩
theorem pfill_any (G:Nat→Prop) (w:World) (b:Nat) (p:Ps) (a:Int) (h:PGm G w b p) (hok:p.Ok) :
  Calls Tryz.prog 188 #[.pointer (some ⟨b,0,none⟩),.int .i64 a] w fun e w'=>e=.returned (.int .i64 (p.fillE a))∧Left PGm G w w' b (p.fill a):=by
 have CN:=Lh (pgIsNone_any b a w)
 have CK:=Lh (kind_any G w b p a h)
 have HNO:=Lh (show ∀ c,p.fillE a=c→(c≠0∨p.kind a=2)→Left PGm G w w b (p.fill a) from fun c e hc=>by
  unfold Ps.fill
  rw [if_neg (by rw [e];rintro ⟨h1,h2⟩;rcases hc with hc | hc;exact hc h1;exact h2 hc)]
  exact left_same h)
 by_cases ht:thereB a=true
 ·rw [ht] at CN
  have ht':¬ thereB a=false:=by rw [ht];decide
  have hks:=hok.kinds a
  by_cases h3:p.kind a=3
  ·have HE:=Lh (show p.fillE a=43 from by unfold Ps.fillE;rw [if_neg ht',if_pos h3])
   rw [h3] at CK
   clear h hok h3 ht ht' hks
   go_enter Tryz.func188,Tryz.ntmps188
   go_wp2_with (first | (go_at_call 193;refine CN.out.mono ?_;rintro e w1 ⟨rfl,rfl⟩) | (go_at_call 192;refine CK.out.mono ?_;rintro e w2 ⟨rfl,rfl⟩))
   go_ret
   rw [HE.out]
   exact ⟨rfl,HNO.out 43 HE.out (.inl (by decide))⟩
  by_cases h2:p.kind a=2
  ·have HE:=Lh (show p.fillE a=0 from by unfold Ps.fillE;rw [if_neg ht',if_neg h3,if_pos h2])
   have HK:=Lh h2
   rw [h2] at CK
   clear h hok h3 h2 ht ht' hks
   go_enter Tryz.func188,Tryz.ntmps188
   go_wp2_with (first | (go_at_call 193;refine CN.out.mono ?_;rintro e w1 ⟨rfl,rfl⟩) | (go_at_call 192;refine CK.out.mono ?_;rintro e w2 ⟨rfl,rfl⟩))
   go_ret
   rw [HE.out]
   exact ⟨rfl,HNO.out 0 HE.out (.inr HK.out)⟩
  by_cases h1:p.kind a=1
  ·have HE:=Lh (show p.fillE a=41 from by unfold Ps.fillE;rw [if_neg ht',if_neg h3,if_neg h2,if_pos h1])
   rw [h1] at CK
   clear h hok h3 h2 h1 ht ht' hks
   go_enter Tryz.func188,Tryz.ntmps188
   go_wp2_with (first | (go_at_call 193;refine CN.out.mono ?_;rintro e w1 ⟨rfl,rfl⟩) | (go_at_call 192;refine CK.out.mono ?_;rintro e w2 ⟨rfl,rfl⟩))
   go_ret
   rw [HE.out]
   exact ⟨rfl,HNO.out 41 HE.out (.inl (by decide))⟩
  have h0:p.kind a=0:=by omega
  have CP:=Lh (put_any G w b p a 2 ⟨#[]⟩ h ht (hok.none ht h0) (by decide) hok.most)
  have HE:=Lh (show (if p.room≤p.l.length then (44:Int) else 0)=p.fillE a from by unfold Ps.fillE;rw [if_neg ht',if_neg h3,if_neg h2,if_neg h1])
  have HW:=Lh (show (if p.room≤p.l.length then p else p.add ⟨a,2,⟨#[]⟩⟩)=p.fill a from by
   unfold Ps.fill
   rw [← HE.out]
   by_cases hr:p.room≤p.l.length
   ·rw [if_pos hr,if_pos hr,if_neg (by rintro ⟨h,_⟩;exact absurd h (by decide))]
   ·rw [if_neg hr,if_neg hr,if_pos ⟨rfl,h2⟩])
  rw [HE.out,HW.out] at CP
  rw [h0] at CK
  clear h hok h3 h0 h1 h2 ht ht' hks
  go_enter Tryz.func188,Tryz.ntmps188
  go_wp2_with (first | (go_at_call 193;refine CN.out.mono ?_;rintro e w1 ⟨rfl,rfl⟩) | (go_at_call 192;refine CK.out.mono ?_;rintro e w2 ⟨rfl,rfl⟩) | (go_at_call 194;refine CP.out.mono ?_;rintro e w3 ⟨rfl,h3⟩))
  go_ret
  exact ⟨rfl,h3⟩
 ·have ht':thereB a=false:=Bool.eq_false_iff.2 ht
  have HE:=Lh (show p.fillE a=1 from by unfold Ps.fillE;rw [if_pos ht'])
  rw [ht'] at CN
  clear h hok ht ht'
  go_enter Tryz.func188,Tryz.ntmps188
  go_wp2_with (go_at_call 193;refine CN.out.mono ?_;rintro e w1 ⟨rfl,rfl⟩)
  go_ret
  rw [HE.out]
  exact ⟨rfl,HNO.out 1 HE.out (.inl (by decide))⟩
theorem pfill_nil (a:Int) (w:World):Calls Tryz.prog 188 #[.pointer none,.int .i64 a] w fun e w'=>e=.returned (.int .i64 1)∧w=w':=by
 have CN:=Lh (isNone_nil a w)
 go_enter Tryz.func188,Tryz.ntmps188
 go_wp2_with (go_at_call 193;refine CN.out.mono ?_;rintro e w1 ⟨rfl,rfl⟩)
 go_ret
 exact ⟨rfl,rfl⟩
theorem pread_any (G:Nat→Prop) (w:World) (b:Nat) (p:Ps) (a:Int) (h:PGm G w b p) (hok:p.Ok) :
  Calls Tryz.prog 189 #[.pointer (some ⟨b,0,none⟩),.int .i64 a] w fun e w'=>e=.returned (.tuple #[.string (p.readS a),.int .i64 (p.readE a)])∧Below w.heap.size w w':=by
 have CN:=Lh (pgIsNone_any b a w)
 have CK:=Lh (kind_any G w b p a h)
 by_cases ht:thereB a=true
 ·rw [ht] at CN
  have ht':¬ thereB a=false:=by rw [ht];decide
  have hks:=hok.kinds a
  by_cases h3:p.kind a=3
  ·have HE:=Lh (show p.readE a=43 from by unfold Ps.readE;rw [if_neg ht',if_pos h3])
   have HS:=Lh (show p.readS a=⟨#[]⟩ from by unfold Ps.readS;rw [HE.out];rfl)
   rw [h3] at CK
   clear h hok h3 hks ht ht'
   go_enter Tryz.func189,Tryz.ntmps189
   go_wp2_with (first | (go_at_call 193;refine CN.out.mono ?_;rintro e w1 ⟨rfl,rfl⟩) | (go_at_call 192;refine CK.out.mono ?_;rintro e w2 ⟨rfl,rfl⟩))
   go_ret2
   rw [HE.out,HS.out]
   exact ⟨rfl,Below.refl _ _⟩
  by_cases h0:p.kind a=0
  ·have HE:=Lh (show p.readE a=42 from by unfold Ps.readE;rw [if_neg ht',if_neg h3,if_pos h0])
   have HS:=Lh (show p.readS a=⟨#[]⟩ from by unfold Ps.readS;rw [HE.out];rfl)
   rw [h0] at CK
   clear h hok h3 h0 hks ht ht'
   go_enter Tryz.func189,Tryz.ntmps189
   go_wp2_with (first | (go_at_call 193;refine CN.out.mono ?_;rintro e w1 ⟨rfl,rfl⟩) | (go_at_call 192;refine CK.out.mono ?_;rintro e w2 ⟨rfl,rfl⟩))
   go_ret2
   rw [HE.out,HS.out]
   exact ⟨rfl,Below.refl _ _⟩
  by_cases h2:p.kind a=2
  ·have HE:=Lh (show p.readE a=46 from by unfold Ps.readE;rw [if_neg ht',if_neg h3,if_neg h0,if_pos h2])
   have HS:=Lh (show p.readS a=⟨#[]⟩ from by unfold Ps.readS;rw [HE.out];rfl)
   rw [h2] at CK
   clear h hok h3 h0 h2 hks ht ht'
   go_enter Tryz.func189,Tryz.ntmps189
   go_wp2_with (first | (go_at_call 193;refine CN.out.mono ?_;rintro e w1 ⟨rfl,rfl⟩) | (go_at_call 192;refine CK.out.mono ?_;rintro e w2 ⟨rfl,rfl⟩))
   go_ret2
   rw [HE.out,HS.out]
   exact ⟨rfl,Below.refl _ _⟩
  have h1:p.kind a=1:=by omega
  have HE:=Lh (show p.readE a=0 from by unfold Ps.readE;rw [if_neg ht',if_neg h3,if_neg h0,if_neg h2])
  have HS:=Lh (show p.readS a=textL p.l a from by unfold Ps.readS;rw [if_pos HE.out];rfl)
  have HZ:=Lh (show (textL p.l a).size≤1099511627776 from by
   unfold textL
   cases e:findP p.l a with
   | none=>exact Nat.zero_le _
   | some x=>have:=(hok.each x (z21 e).1).2.2;show x.s.size≤_;omega)
  obtain ⟨mb,g1,g2,_⟩:=h
  obtain ⟨c0,c1,c2,_⟩:=z09 g1
  have hl:=g2.look (there_wf ht)
  have hf:=sheet_text
  rw [h1] at CK
  clear g1 g2 hok h3 h0 h1 h2 hks ht ht'
  generalize kindL p.l a=kk at *
  generalize textL p.l a=tt at *
  go_enter Tryz.func189,Tryz.ntmps189
  go_wp2_with (first | (go_at_call 193;refine CN.out.mono ?_;rintro e w1 ⟨rfl,rfl⟩) | (go_at_call 192;refine CK.out.mono ?_;rintro e w2 ⟨rfl,rfl⟩) | (go_at_call 71;refine (clone_any tt _ HZ.out).mono ?_;rintro e w3 ⟨rfl,hb3⟩))
  go_ret2
  rw [HE.out,HS.out]
  exact ⟨rfl,hb3⟩
 ·have ht':thereB a=false:=Bool.eq_false_iff.2 ht
  have HE:=Lh (show p.readE a=1 from by unfold Ps.readE;rw [if_pos ht'])
  have HS:=Lh (show p.readS a=⟨#[]⟩ from by unfold Ps.readS;rw [HE.out];rfl)
  rw [ht'] at CN
  clear h hok ht ht'
  go_enter Tryz.func189,Tryz.ntmps189
  go_wp2_with (go_at_call 193;refine CN.out.mono ?_;rintro e w1 ⟨rfl,rfl⟩)
  go_ret2
  rw [HE.out,HS.out]
  exact ⟨rfl,Below.refl _ _⟩
theorem pread_nil (a:Int) (w:World):Calls Tryz.prog 189 #[.pointer none,.int .i64 a] w fun e w'=>e=.returned (.tuple #[.string ⟨#[]⟩,.int .i64 1])∧w=w':=by
 have CN:=Lh (isNone_nil a w)
 go_enter Tryz.func189,Tryz.ntmps189
 go_wp2_with (go_at_call 193;refine CN.out.mono ?_;rintro e w1 ⟨rfl,rfl⟩)
 go_ret2
 exact ⟨rfl,rfl⟩
end Go.Proofs.YtkefpbcifcjibaaGreat
