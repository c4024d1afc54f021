/- Joined texts. -/
import Derived.Test.YtkefpbcifcjibaaGreatG17a
import Derived.Test.YtkefpbcifcjibaaGreatG10a
import Derived.Test.YtkefpbcifcjibaaGreatG12a
import Derived.Test.YtkefpbcifcjibaaGreatG11a
import Derived.Test.YtkefpbcifcjibaaGreatG08a
import Derived.Test.YtkefpbcifcjibaaGreatG16a
import Derived.Test.YtkefpbcifcjibaaGreatG09a
import Derived.Test.YtkefpbcifcjibaaGreatG07a
import Derived.Test.YtkefpbcifcjibaaGreatG15a
import Derived.Maps.RangeWalk
import Derived.Test.YtkefpbcifcjibaaGreatG03a
import Derived.Test.YtkefpbcifcjibaaGreatH00
set_option linter.unusedVariables false
set_option maxRecDepth 20000
set_option maxHeartbeats 16000000
namespace Go.Proofs.YtkefpbcifcjibaaGreat
open Go.RowKit
theorem answer_write (b q:Nat) (G:Nat→Prop) (w:World) (u u':Us) (a:Ak) (hk:a.kind=1) (c m:Int) (z:ByteArray) (h:UM b q G w u) (he:¬ a.epoch < u.epoch)
  (hf:∀ (H:Nat→Prop) (w:World),UM b q H w u→Calls Tryz.prog 182 #[ptrV b,askV a] w fun e w'=>e=.returned (anV c m z 0)∧Leaves (UM b q) H w w' u') :
  Calls Tryz.prog 180 #[ptrV b,askV a] w fun e w'=>e=.returned (anV c m z 0)∧Leaves (UM b q) G w w' u':=by
 obtain ⟨k,un,ep,pg,sz,n,s,pe,L,ao,cap⟩:=a
 obtain ⟨p,ue,dn⟩:=u
 simp only at *
 have CC:=Lh z1o
 have HS:=Lh (z0e (z08 b q) h #[.int .i64 k,.int .i64 un,.int .i64 ep,.int .i64 pg,.int .i64 sz,.int .i64 n,.string s,.int .i64 pe,.slice ao L.length cap])
 unfold zeroAn at HS
 have hbw:=h.small
 clear h
 show Calls _ _ #[.pointer (some ⟨b,0,none⟩),.agg #[.int .i64 k,.int .i64 un,.int .i64 ep,.int .i64 pg,.int .i64 sz,.int .i64 n,.string s,.int .i64 pe,.slice ao L.length cap]] w _
 have HD:=Lh (show ∀ w,Calls Tryz.prog 181 #[.int .i64 k] w fun e w'=>e=.returned (fnV 182)∧Below w.heap.size w w' from by rw [hk];exact deed_1)
 unfold fnV at HD
 have he':ue≤ep:=by omega
 have HF:=Lh (show ∀ (H:Nat→Prop) (w:World),UM b q H w ⟨p,ue,dn⟩→Calls Tryz.prog 182 #[.pointer (some ⟨b,0,none⟩),.agg #[.int .i64 k,.int .i64 un,.int .i64 ep,.int .i64 pg,.int .i64 sz,.int .i64 n,.string s,.int .i64 pe,.slice ao L.length cap]] w fun e w'=>e=.returned (.agg #[.int .i64 c,.int .i64 m,.string z,.int .i64 0,.slice none 0 0,.int .i64 0,.int .i64 0,.int .i64 0])∧Leaves (UM b q) H w w' u' from hf)
 clear he hf hk
 have hn:∀ w:World,(binOp .eql 268 (.func (.func 182) #[] #[]) .nilFunc).run Tryz.prog w=.ok (.bool false) w:=fun _=>rfl
 go_enter Tryz.func180,Tryz.ntmps180
 go_wp2_with (go_at_call 181;refine (HD.out _).mono ?_;rintro e w1 ⟨rfl,hb1⟩;have HT1:=Lh (HS.out.below (z08 b q) hb1);clear hb1)
 obtain ⟨l1,l2⟩:=HT1.out.small
 obtain ⟨H,hH,_⟩:=HT1.out.use
 have x2:w1.cell? ⟨w.heap.size,2,none⟩=some (.int .i64 ep):=z02 HT1.out.ask 2
 obtain ⟨c0,c1,c2,_⟩:=z09 hH.cells
 have hb:=hH.small
 clear hH
 go_quiet (fail)
 have HT2:=Lh (HT1.out.drewN (z08 b q) nq)
 generalize hW2:World.drewN w1 nq=w2 at *
 clear hW2 x2 c0 c1 c2 hb l1 l2
 obtain ⟨l1,l2⟩:=HT2.out.small
 obtain ⟨H2,hH2,hU2⟩:=HT2.out.use
 have HU2:=Lh hU2
 have HF2:=Lh (HF.out H2 w2 hH2)
 obtain ⟨⟨q0,q1,q2,q3,q4,q5,q6,q7⟩,_⟩:=z03 HT2.out.ans
 have x:=HT2.out.ask
 have x0:=z02 x 0
 have x1:=z02 x 1
 have x2:=z02 x 2
 have x3:=z02 x 3
 have x4:=z02 x 4
 have x5:=z02 x 5
 have x6:=z02 x 6
 have x7:=z02 x 7
 have x8:=z02 x 8
 clear hU2 hH2 x
 go_wp2_with fail
 refine HF2.out.mono ?_
 rintro e w3 ⟨rfl,hl⟩
 have HT3:=Lh (HU2.out _ _ hl)
 clear hl
 obtain ⟨nl1,nl2⟩:=HT3.out.small
 obtain ⟨⟨ny0,ny1,ny2,ny3,ny4,ny5,ny6,ny7⟩,nfy0,nfy1,nfy2,nfy3,nfy4,nfy5,nfy6,nfy7⟩:=z03 HT3.out.ans
 go_wp2_with fail
 exact z0k (x:=anP (c) (m) z 0) (ao:=none) (cap:=0) rfl (HT3.out.fin (z08 b q)).1 rfl rfl ⟨rfl,(HT3.out.fin (z08 b q)).2⟩
theorem answer_fill (b q:Nat) (G:Nat→Prop) (w:World) (u u':Us) (a:Ak) (hk:a.kind=2) (c m:Int) (z:ByteArray) (h:UM b q G w u) (he:¬ a.epoch < u.epoch)
  (hf:∀ (H:Nat→Prop) (w:World),UM b q H w u→Calls Tryz.prog 183 #[ptrV b,askV a] w fun e w'=>e=.returned (anV c m z 0)∧Leaves (UM b q) H w w' u') :
  Calls Tryz.prog 180 #[ptrV b,askV a] w fun e w'=>e=.returned (anV c m z 0)∧Leaves (UM b q) G w w' u':=by
 obtain ⟨k,un,ep,pg,sz,n,s,pe,L,ao,cap⟩:=a
 obtain ⟨p,ue,dn⟩:=u
 simp only at *
 have CC:=Lh z1o
 have HS:=Lh (z0e (z08 b q) h #[.int .i64 k,.int .i64 un,.int .i64 ep,.int .i64 pg,.int .i64 sz,.int .i64 n,.string s,.int .i64 pe,.slice ao L.length cap])
 unfold zeroAn at HS
 have hbw:=h.small
 clear h
 show Calls _ _ #[.pointer (some ⟨b,0,none⟩),.agg #[.int .i64 k,.int .i64 un,.int .i64 ep,.int .i64 pg,.int .i64 sz,.int .i64 n,.string s,.int .i64 pe,.slice ao L.length cap]] w _
 have HD:=Lh (show ∀ w,Calls Tryz.prog 181 #[.int .i64 k] w fun e w'=>e=.returned (fnV 183)∧Below w.heap.size w w' from by rw [hk];exact deed_2)
 unfold fnV at HD
 have he':ue≤ep:=by omega
 have HF:=Lh (show ∀ (H:Nat→Prop) (w:World),UM b q H w ⟨p,ue,dn⟩→Calls Tryz.prog 183 #[.pointer (some ⟨b,0,none⟩),.agg #[.int .i64 k,.int .i64 un,.int .i64 ep,.int .i64 pg,.int .i64 sz,.int .i64 n,.string s,.int .i64 pe,.slice ao L.length cap]] w fun e w'=>e=.returned (.agg #[.int .i64 c,.int .i64 m,.string z,.int .i64 0,.slice none 0 0,.int .i64 0,.int .i64 0,.int .i64 0])∧Leaves (UM b q) H w w' u' from hf)
 clear he hf hk
 have hn:∀ w:World,(binOp .eql 268 (.func (.func 183) #[] #[]) .nilFunc).run Tryz.prog w=.ok (.bool false) w:=fun _=>rfl
 go_enter Tryz.func180,Tryz.ntmps180
 go_wp2_with (go_at_call 181;refine (HD.out _).mono ?_;rintro e w1 ⟨rfl,hb1⟩;have HT1:=Lh (HS.out.below (z08 b q) hb1);clear hb1)
 obtain ⟨l1,l2⟩:=HT1.out.small
 obtain ⟨H,hH,_⟩:=HT1.out.use
 have x2:w1.cell? ⟨w.heap.size,2,none⟩=some (.int .i64 ep):=z02 HT1.out.ask 2
 obtain ⟨c0,c1,c2,_⟩:=z09 hH.cells
 have hb:=hH.small
 clear hH
 go_quiet (fail)
 have HT2:=Lh (HT1.out.drewN (z08 b q) nq)
 generalize hW2:World.drewN w1 nq=w2 at *
 clear hW2 x2 c0 c1 c2 hb l1 l2
 obtain ⟨l1,l2⟩:=HT2.out.small
 obtain ⟨H2,hH2,hU2⟩:=HT2.out.use
 have HU2:=Lh hU2
 have HF2:=Lh (HF.out H2 w2 hH2)
 obtain ⟨⟨q0,q1,q2,q3,q4,q5,q6,q7⟩,_⟩:=z03 HT2.out.ans
 have x:=HT2.out.ask
 have x0:=z02 x 0
 have x1:=z02 x 1
 have x2:=z02 x 2
 have x3:=z02 x 3
 have x4:=z02 x 4
 have x5:=z02 x 5
 have x6:=z02 x 6
 have x7:=z02 x 7
 have x8:=z02 x 8
 clear hU2 hH2 x
 go_wp2_with fail
 refine HF2.out.mono ?_
 rintro e w3 ⟨rfl,hl⟩
 have HT3:=Lh (HU2.out _ _ hl)
 clear hl
 obtain ⟨nl1,nl2⟩:=HT3.out.small
 obtain ⟨⟨ny0,ny1,ny2,ny3,ny4,ny5,ny6,ny7⟩,nfy0,nfy1,nfy2,nfy3,nfy4,nfy5,nfy6,nfy7⟩:=z03 HT3.out.ans
 go_wp2_with fail
 exact z0k (x:=anP (c) (m) z 0) (ao:=none) (cap:=0) rfl (HT3.out.fin (z08 b q)).1 rfl rfl ⟨rfl,(HT3.out.fin (z08 b q)).2⟩
theorem answer_read (b q:Nat) (G:Nat→Prop) (w:World) (u u':Us) (a:Ak) (hk:a.kind=3) (c m:Int) (z:ByteArray) (h:UM b q G w u) (he:¬ a.epoch < u.epoch)
  (hf:∀ (H:Nat→Prop) (w:World),UM b q H w u→Calls Tryz.prog 184 #[ptrV b,askV a] w fun e w'=>e=.returned (anV c m z 0)∧Leaves (UM b q) H w w' u') :
  Calls Tryz.prog 180 #[ptrV b,askV a] w fun e w'=>e=.returned (anV c m z 0)∧Leaves (UM b q) G w w' u':=by
 obtain ⟨k,un,ep,pg,sz,n,s,pe,L,ao,cap⟩:=a
 obtain ⟨p,ue,dn⟩:=u
 simp only at *
 have CC:=Lh z1o
 have HS:=Lh (z0e (z08 b q) h #[.int .i64 k,.int .i64 un,.int .i64 ep,.int .i64 pg,.int .i64 sz,.int .i64 n,.string s,.int .i64 pe,.slice ao L.length cap])
 unfold zeroAn at HS
 have hbw:=h.small
 clear h
 show Calls _ _ #[.pointer (some ⟨b,0,none⟩),.agg #[.int .i64 k,.int .i64 un,.int .i64 ep,.int .i64 pg,.int .i64 sz,.int .i64 n,.string s,.int .i64 pe,.slice ao L.length cap]] w _
 have HD:=Lh (show ∀ w,Calls Tryz.prog 181 #[.int .i64 k] w fun e w'=>e=.returned (fnV 184)∧Below w.heap.size w w' from by rw [hk];exact deed_3)
 unfold fnV at HD
 have he':ue≤ep:=by omega
 have HF:=Lh (show ∀ (H:Nat→Prop) (w:World),UM b q H w ⟨p,ue,dn⟩→Calls Tryz.prog 184 #[.pointer (some ⟨b,0,none⟩),.agg #[.int .i64 k,.int .i64 un,.int .i64 ep,.int .i64 pg,.int .i64 sz,.int .i64 n,.string s,.int .i64 pe,.slice ao L.length cap]] w fun e w'=>e=.returned (.agg #[.int .i64 c,.int .i64 m,.string z,.int .i64 0,.slice none 0 0,.int .i64 0,.int .i64 0,.int .i64 0])∧Leaves (UM b q) H w w' u' from hf)
 clear he hf hk
 have hn:∀ w:World,(binOp .eql 268 (.func (.func 184) #[] #[]) .nilFunc).run Tryz.prog w=.ok (.bool false) w:=fun _=>rfl
 go_enter Tryz.func180,Tryz.ntmps180
 go_wp2_with (go_at_call 181;refine (HD.out _).mono ?_;rintro e w1 ⟨rfl,hb1⟩;have HT1:=Lh (HS.out.below (z08 b q) hb1);clear hb1)
 obtain ⟨l1,l2⟩:=HT1.out.small
 obtain ⟨H,hH,_⟩:=HT1.out.use
 have x2:w1.cell? ⟨w.heap.size,2,none⟩=some (.int .i64 ep):=z02 HT1.out.ask 2
 obtain ⟨c0,c1,c2,_⟩:=z09 hH.cells
 have hb:=hH.small
 clear hH
 go_quiet (fail)
 have HT2:=Lh (HT1.out.drewN (z08 b q) nq)
 generalize hW2:World.drewN w1 nq=w2 at *
 clear hW2 x2 c0 c1 c2 hb l1 l2
 obtain ⟨l1,l2⟩:=HT2.out.small
 obtain ⟨H2,hH2,hU2⟩:=HT2.out.use
 have HU2:=Lh hU2
 have HF2:=Lh (HF.out H2 w2 hH2)
 obtain ⟨⟨q0,q1,q2,q3,q4,q5,q6,q7⟩,_⟩:=z03 HT2.out.ans
 have x:=HT2.out.ask
 have x0:=z02 x 0
 have x1:=z02 x 1
 have x2:=z02 x 2
 have x3:=z02 x 3
 have x4:=z02 x 4
 have x5:=z02 x 5
 have x6:=z02 x 6
 have x7:=z02 x 7
 have x8:=z02 x 8
 clear hU2 hH2 x
 go_wp2_with fail
 refine HF2.out.mono ?_
 rintro e w3 ⟨rfl,hl⟩
 have HT3:=Lh (HU2.out _ _ hl)
 clear hl
 obtain ⟨nl1,nl2⟩:=HT3.out.small
 obtain ⟨⟨ny0,ny1,ny2,ny3,ny4,ny5,ny6,ny7⟩,nfy0,nfy1,nfy2,nfy3,nfy4,nfy5,nfy6,nfy7⟩:=z03 HT3.out.ans
 go_wp2_with fail
 exact z0k (x:=anP (c) (m) z 0) (ao:=none) (cap:=0) rfl (HT3.out.fin (z08 b q)).1 rfl rfl ⟨rfl,(HT3.out.fin (z08 b q)).2⟩
theorem answer_trim (b q:Nat) (G:Nat→Prop) (w:World) (u u':Us) (a:Ak) (hk:a.kind=4) (c m:Int) (z:ByteArray) (h:UM b q G w u) (he:¬ a.epoch < u.epoch)
  (hf:∀ (H:Nat→Prop) (w:World),UM b q H w u→Calls Tryz.prog 185 #[ptrV b,askV a] w fun e w'=>e=.returned (anV c m z 0)∧Leaves (UM b q) H w w' u') :
  Calls Tryz.prog 180 #[ptrV b,askV a] w fun e w'=>e=.returned (anV c m z 0)∧Leaves (UM b q) G w w' u':=by
 obtain ⟨k,un,ep,pg,sz,n,s,pe,L,ao,cap⟩:=a
 obtain ⟨p,ue,dn⟩:=u
 simp only at *
 have CC:=Lh z1o
 have HS:=Lh (z0e (z08 b q) h #[.int .i64 k,.int .i64 un,.int .i64 ep,.int .i64 pg,.int .i64 sz,.int .i64 n,.string s,.int .i64 pe,.slice ao L.length cap])
 unfold zeroAn at HS
 have hbw:=h.small
 clear h
 show Calls _ _ #[.pointer (some ⟨b,0,none⟩),.agg #[.int .i64 k,.int .i64 un,.int .i64 ep,.int .i64 pg,.int .i64 sz,.int .i64 n,.string s,.int .i64 pe,.slice ao L.length cap]] w _
 have HD:=Lh (show ∀ w,Calls Tryz.prog 181 #[.int .i64 k] w fun e w'=>e=.returned (fnV 185)∧Below w.heap.size w w' from by rw [hk];exact deed_4)
 unfold fnV at HD
 have he':ue≤ep:=by omega
 have HF:=Lh (show ∀ (H:Nat→Prop) (w:World),UM b q H w ⟨p,ue,dn⟩→Calls Tryz.prog 185 #[.pointer (some ⟨b,0,none⟩),.agg #[.int .i64 k,.int .i64 un,.int .i64 ep,.int .i64 pg,.int .i64 sz,.int .i64 n,.string s,.int .i64 pe,.slice ao L.length cap]] w fun e w'=>e=.returned (.agg #[.int .i64 c,.int .i64 m,.string z,.int .i64 0,.slice none 0 0,.int .i64 0,.int .i64 0,.int .i64 0])∧Leaves (UM b q) H w w' u' from hf)
 clear he hf hk
 have hn:∀ w:World,(binOp .eql 268 (.func (.func 185) #[] #[]) .nilFunc).run Tryz.prog w=.ok (.bool false) w:=fun _=>rfl
 go_enter Tryz.func180,Tryz.ntmps180
 go_wp2_with (go_at_call 181;refine (HD.out _).mono ?_;rintro e w1 ⟨rfl,hb1⟩;have HT1:=Lh (HS.out.below (z08 b q) hb1);clear hb1)
 obtain ⟨l1,l2⟩:=HT1.out.small
 obtain ⟨H,hH,_⟩:=HT1.out.use
 have x2:w1.cell? ⟨w.heap.size,2,none⟩=some (.int .i64 ep):=z02 HT1.out.ask 2
 obtain ⟨c0,c1,c2,_⟩:=z09 hH.cells
 have hb:=hH.small
 clear hH
 go_quiet (fail)
 have HT2:=Lh (HT1.out.drewN (z08 b q) nq)
 generalize hW2:World.drewN w1 nq=w2 at *
 clear hW2 x2 c0 c1 c2 hb l1 l2
 obtain ⟨l1,l2⟩:=HT2.out.small
 obtain ⟨H2,hH2,hU2⟩:=HT2.out.use
 have HU2:=Lh hU2
 have HF2:=Lh (HF.out H2 w2 hH2)
 obtain ⟨⟨q0,q1,q2,q3,q4,q5,q6,q7⟩,_⟩:=z03 HT2.out.ans
 have x:=HT2.out.ask
 have x0:=z02 x 0
 have x1:=z02 x 1
 have x2:=z02 x 2
 have x3:=z02 x 3
 have x4:=z02 x 4
 have x5:=z02 x 5
 have x6:=z02 x 6
 have x7:=z02 x 7
 have x8:=z02 x 8
 clear hU2 hH2 x
 go_wp2_with fail
 refine HF2.out.mono ?_
 rintro e w3 ⟨rfl,hl⟩
 have HT3:=Lh (HU2.out _ _ hl)
 clear hl
 obtain ⟨nl1,nl2⟩:=HT3.out.small
 obtain ⟨⟨ny0,ny1,ny2,ny3,ny4,ny5,ny6,ny7⟩,nfy0,nfy1,nfy2,nfy3,nfy4,nfy5,nfy6,nfy7⟩:=z03 HT3.out.ans
 go_wp2_with fail
 exact z0k (x:=anP (c) (m) z 0) (ao:=none) (cap:=0) rfl (HT3.out.fin (z08 b q)).1 rfl rfl ⟨rfl,(HT3.out.fin (z08 b q)).2⟩
theorem answer_seal (b q:Nat) (G:Nat→Prop) (w:World) (u u':Us) (a:Ak) (hk:a.kind=5) (c m:Int) (z:ByteArray) (h:UM b q G w u) (he:¬ a.epoch < u.epoch)
  (hf:∀ (H:Nat→Prop) (w:World),UM b q H w u→Calls Tryz.prog 186 #[ptrV b,askV a] w fun e w'=>e=.returned (anV c m z 0)∧Leaves (UM b q) H w w' u') :
  Calls Tryz.prog 180 #[ptrV b,askV a] w fun e w'=>e=.returned (anV c m z 0)∧Leaves (UM b q) G w w' u':=by
 obtain ⟨k,un,ep,pg,sz,n,s,pe,L,ao,cap⟩:=a
 obtain ⟨p,ue,dn⟩:=u
 simp only at *
 have CC:=Lh z1o
 have HS:=Lh (z0e (z08 b q) h #[.int .i64 k,.int .i64 un,.int .i64 ep,.int .i64 pg,.int .i64 sz,.int .i64 n,.string s,.int .i64 pe,.slice ao L.length cap])
 unfold zeroAn at HS
 have hbw:=h.small
 clear h
 show Calls _ _ #[.pointer (some ⟨b,0,none⟩),.agg #[.int .i64 k,.int .i64 un,.int .i64 ep,.int .i64 pg,.int .i64 sz,.int .i64 n,.string s,.int .i64 pe,.slice ao L.length cap]] w _
 have HD:=Lh (show ∀ w,Calls Tryz.prog 181 #[.int .i64 k] w fun e w'=>e=.returned (fnV 186)∧Below w.heap.size w w' from by rw [hk];exact deed_5)
 unfold fnV at HD
 have he':ue≤ep:=by omega
 have HF:=Lh (show ∀ (H:Nat→Prop) (w:World),UM b q H w ⟨p,ue,dn⟩→Calls Tryz.prog 186 #[.pointer (some ⟨b,0,none⟩),.agg #[.int .i64 k,.int .i64 un,.int .i64 ep,.int .i64 pg,.int .i64 sz,.int .i64 n,.string s,.int .i64 pe,.slice ao L.length cap]] w fun e w'=>e=.returned (.agg #[.int .i64 c,.int .i64 m,.string z,.int .i64 0,.slice none 0 0,.int .i64 0,.int .i64 0,.int .i64 0])∧Leaves (UM b q) H w w' u' from hf)
 clear he hf hk
 have hn:∀ w:World,(binOp .eql 268 (.func (.func 186) #[] #[]) .nilFunc).run Tryz.prog w=.ok (.bool false) w:=fun _=>rfl
 go_enter Tryz.func180,Tryz.ntmps180
 go_wp2_with (go_at_call 181;refine (HD.out _).mono ?_;rintro e w1 ⟨rfl,hb1⟩;have HT1:=Lh (HS.out.below (z08 b q) hb1);clear hb1)
 obtain ⟨l1,l2⟩:=HT1.out.small
 obtain ⟨H,hH,_⟩:=HT1.out.use
 have x2:w1.cell? ⟨w.heap.size,2,none⟩=some (.int .i64 ep):=z02 HT1.out.ask 2
 obtain ⟨c0,c1,c2,_⟩:=z09 hH.cells
 have hb:=hH.small
 clear hH
 go_quiet (fail)
 have HT2:=Lh (HT1.out.drewN (z08 b q) nq)
 generalize hW2:World.drewN w1 nq=w2 at *
 clear hW2 x2 c0 c1 c2 hb l1 l2
 obtain ⟨l1,l2⟩:=HT2.out.small
 obtain ⟨H2,hH2,hU2⟩:=HT2.out.use
 have HU2:=Lh hU2
 have HF2:=Lh (HF.out H2 w2 hH2)
 obtain ⟨⟨q0,q1,q2,q3,q4,q5,q6,q7⟩,_⟩:=z03 HT2.out.ans
 have x:=HT2.out.ask
 have x0:=z02 x 0
 have x1:=z02 x 1
 have x2:=z02 x 2
 have x3:=z02 x 3
 have x4:=z02 x 4
 have x5:=z02 x 5
 have x6:=z02 x 6
 have x7:=z02 x 7
 have x8:=z02 x 8
 clear hU2 hH2 x
 go_wp2_with fail
 refine HF2.out.mono ?_
 rintro e w3 ⟨rfl,hl⟩
 have HT3:=Lh (HU2.out _ _ hl)
 clear hl
 obtain ⟨nl1,nl2⟩:=HT3.out.small
 obtain ⟨⟨ny0,ny1,ny2,ny3,ny4,ny5,ny6,ny7⟩,nfy0,nfy1,nfy2,nfy3,nfy4,nfy5,nfy6,nfy7⟩:=z03 HT3.out.ans
 go_wp2_with fail
 exact z0k (x:=anP (c) (m) z 0) (ao:=none) (cap:=0) rfl (HT3.out.fin (z08 b q)).1 rfl rfl ⟨rfl,(HT3.out.fin (z08 b q)).2⟩
structure Qa where
 ep:Int
 L:List (List Int)
 txt:ByteArray
 at_:Int
 was:Int
 addr:Int
 unit:Int
 may:Bool
 err:Int
def Qa.ends (q:Qa) (a e:Int):Qa:=⟨q.ep,q.L,noS,5,q.was,a,q.unit,q.may,e⟩
def Qa.to (q:Qa) (m:Int):Qa:=⟨q.ep,q.L,q.txt,m,q.was,q.addr,q.unit,q.may,q.err⟩
def Qa.check (q:Qa):Qa:=⟨q.ep,q.L,q.txt,1,q.at_,q.addr,q.unit,q.may,q.err⟩
def Qa.stand (q:Qa):Qa:=⟨q.ep,q.L,q.txt,q.at_,q.was,q.addr,q.unit,true,q.err⟩
def Qa.told (q:Qa) (n:Int):Qa:=⟨q.ep,q.L,q.txt,3,q.was,n,0,q.may,q.err⟩
def Qa.proj (q:Qa) (e:Int) (L:List (List Int)):Qa:=⟨e,L,q.txt,2,q.was,q.addr,q.unit,q.may,q.err⟩
def Qa.more (q:Qa) (m:Int):Qa:=⟨q.ep,q.L,q.txt,m,q.was,q.addr,q.unit+1,q.may,q.err⟩
def Qa.next (q:Qa):Qa:=if q.unit+1=((chainR q.ep q.L q.addr).length:Int) then (q.more q.at_).ends q.addr 0 else q.more 3
def Qa.full (q:Qa):Qa:=q.ends 0 (if q.may=true then 69 else 44)
def Qa.token (q:Qa) (x:An):Qa:=if ofB q.ep q.L x.n=true∧x.code=0 then q.told x.n else if x.code=44 then q.full else q.to 2
def Qa.write (q:Qa) (c:Int):Qa:=if c=0 then q.next else if c=41 then q.to 4 else if c=43 then q.to 2 else if c=44 then q.full else q.ends 0 c
def Qa.look (q:Qa) (x:An):Qa:=if x.code=0∧x.data=q.txt then q.next else if x.code=0∨x.code=46∨x.code=43 then q.to 2 else if x.code=42 then q.to 3 else q.ends 0 x.code
def Qa.step (q:Qa) (x:An):Qa:=if q.at_=2 then q.token x else if q.at_=3 then q.write x.code else q.look x
def Qa.learn (q:Qa) (x:An):Qa:=if x.code=0∧goodB x.pe x.L=true∧(q.at_=0∨x.pe≠q.ep) then q.proj x.pe x.L else if q.at_=1 then q.to q.was else q
def Qa.waits (q:Qa) (c:Int):Bool:=decide (c=47) || (decide (c=45) && (decide (q.at_≠3) && decide (q.at_≠4)))
def Qa.heard (q:Qa) (c:Int) (b:Bool):Qa:=if q.at_=3∧(b=false∨c=0) then q.stand else q
def Qa.hear (q:Qa) (x:An) (b:Bool):Qa :=
 if q.at_=5 then q
 else if b=false∨q.waits x.code=true then q.heard x.code b
 else if x.code=40 then (q.heard x.code b).to 0
 else if x.code=45 then (q.heard x.code b).check
 else if q.at_=0∨q.at_=1 then (q.heard x.code b).learn x
 else (q.heard x.code b).step x
def newQ (ep:Int) (L:List (List Int)) (rec:ByteArray):Qa :=
 if goodB ep L=false then ⟨ep,L,noS,5,0,0,0,false,1⟩ else if 4096 < rec.size then ⟨ep,L,noS,5,0,0,0,false,2⟩ else ⟨ep,L,rec,2,0,0,0,false,0⟩
def codeA (x:Int):Int:=if x=1 then 0 else if x=5 then 1 else if x=6 then 5 else x
structure SimA (q:Qa) (a:Ap):Prop where
 ep:q.ep=a.ep
 chains:q.L=a.L
 few:fewL a.L
 wide:i64w a.ep
 range:1≤a.at_∧a.at_≤6
 place:q.at_=codeA a.at_
 here:a.at_≠6→goodB a.ep a.L=true∧a.txt.size≤1000000∧q.txt=a.txt∧q.may=a.maybe
 back:a.at_=5→q.was=a.was∧(a.was=3∨a.was=4)
 unit:a.at_=3∨a.at_=4∨a.at_=5→q.addr=a.addr∧q.unit=(a.i:Int)∧ofB a.ep a.L a.addr=true∧a.i < (chainR a.ep a.L a.addr).length
 over:a.at_=6→q.addr=a.overA∧q.err=a.e
theorem chain_some {ep:Int} {L:List (List Int)} {x:Int} (h:ofB ep L x=true):1≤(chainR ep L x).length∧(chainR ep L x).length≤4:=by
 obtain ⟨hg,hx⟩:=ofB_iff.1 h
 obtain ⟨n1,n4⟩:=z0v hg
 have h0:0≤x % (L.length:Int):=Int.emod_nonneg _ (by omega)
 have h1:x % (L.length:Int) < L.length:=Int.emod_lt_of_pos _ (by omega)
 obtain ⟨k,hk⟩:=Int.eq_ofNat_of_zero_le h0
 have hkl:k < L.length:=by omega
 rw [chainR_yes h hkl hk]
 have hc:=(goodB_iff.1 hg).2.2.1 _ (List.getElem_mem hkl)
 simp only [chainB,Bool.and_eq_true,decide_eq_true_eq] at hc
 omega
theorem sim_new (ep:Int) (L:List (List Int)) (rec:ByteArray) (h:fewL L) (he:i64w ep):SimA (newQ ep L rec) (newAp ep L rec):=by
 unfold newQ newAp
 by_cases hg:goodB ep L=false
 ·rw [if_pos hg,if_pos hg]
  exact ⟨rfl,rfl,h,he,⟨of_decide_eq_true rfl,of_decide_eq_true rfl⟩,rfl,fun e=>absurd rfl e,fun e=>absurd e (of_decide_eq_true rfl),fun e=>absurd e (of_decide_eq_true rfl),fun _=>⟨rfl,rfl⟩⟩
 ·rw [if_neg hg,if_neg hg]
  by_cases hr:4096 < rec.size
  ·rw [if_pos hr,if_pos hr]
   exact ⟨rfl,rfl,h,he,⟨of_decide_eq_true rfl,of_decide_eq_true rfl⟩,rfl,fun e=>absurd rfl e,fun e=>absurd e (of_decide_eq_true rfl),fun e=>absurd e (of_decide_eq_true rfl),fun _=>⟨rfl,rfl⟩⟩
  ·rw [if_neg hr,if_neg hr]
   exact ⟨rfl,rfl,h,he,⟨of_decide_eq_true rfl,of_decide_eq_true rfl⟩,rfl,fun _=>⟨Bool.not_eq_false _ ▸ hg,by show rec.size≤_;omega,rfl,rfl⟩,fun e=>absurd e (of_decide_eq_true rfl),fun e=>absurd e (of_decide_eq_true rfl),fun e=>absurd e (of_decide_eq_true rfl)⟩
section
variable {q:Qa} {a:Ap}
theorem SimA.at_iff (h:SimA q a):(q.at_=5↔a.at_=6)∧(q.at_=0↔a.at_=1)∧(q.at_=1↔a.at_=5)∧(q.at_=2↔a.at_=2)∧(q.at_=3↔a.at_=3)∧(q.at_=4↔a.at_=4):=by
 obtain ⟨h1,h2⟩:=h.range
 have e:=h.place
 unfold codeA at e
 repeat' split at e
 all_goals omega
theorem sim_lay (h:SimA q a) (hn:a.at_≠6):SimA (q.to 0) { a with at_:=1 } :=
 ⟨h.ep,h.chains,h.few,h.wide,⟨of_decide_eq_true rfl,of_decide_eq_true rfl⟩,rfl,fun _=>h.here hn,fun e=>absurd e (of_decide_eq_true rfl),fun e=>absurd e (of_decide_eq_true rfl),fun e=>absurd e (of_decide_eq_true rfl)⟩
theorem sim_tok (h:SimA q a) (hn:a.at_≠6):SimA (q.to 2) { a with at_:=2 } :=
 ⟨h.ep,h.chains,h.few,h.wide,⟨of_decide_eq_true rfl,of_decide_eq_true rfl⟩,rfl,fun _=>h.here hn,fun e=>absurd e (of_decide_eq_true rfl),fun e=>absurd e (of_decide_eq_true rfl),fun e=>absurd e (of_decide_eq_true rfl)⟩
theorem sim_write (h:SimA q a) (hn:a.at_=3∨a.at_=4):SimA (q.to 3) { a with at_:=3 } :=
 ⟨h.ep,h.chains,h.few,h.wide,⟨of_decide_eq_true rfl,of_decide_eq_true rfl⟩,rfl,fun _=>h.here (by omega),fun e=>absurd e (of_decide_eq_true rfl),fun _=>h.unit (by omega),fun e=>absurd e (of_decide_eq_true rfl)⟩
theorem sim_look (h:SimA q a) (hn:a.at_=3∨a.at_=4):SimA (q.to 4) { a with at_:=4 } :=
 ⟨h.ep,h.chains,h.few,h.wide,⟨of_decide_eq_true rfl,of_decide_eq_true rfl⟩,rfl,fun _=>h.here (by omega),fun e=>absurd e (of_decide_eq_true rfl),fun _=>h.unit (by omega),fun e=>absurd e (of_decide_eq_true rfl)⟩
theorem sim_check (h:SimA q a) (hn:a.at_=3∨a.at_=4):SimA q.check { a with at_:=5,was:=a.at_ } :=
 ⟨h.ep,h.chains,h.few,h.wide,⟨of_decide_eq_true rfl,of_decide_eq_true rfl⟩,rfl,fun _=>h.here (by omega),fun _=>⟨(by obtain ⟨_,_,_,_,h3,h4⟩:=h.at_iff;show q.at_=a.at_;omega),hn⟩,fun _=>h.unit (by omega),fun e=>absurd e (of_decide_eq_true rfl)⟩
theorem sim_back (h:SimA q a) (hn:a.at_=5):SimA (q.to q.was) { a with at_:=a.was }:=by
 obtain ⟨h1,h2⟩:=h.back hn
 refine ⟨h.ep,h.chains,h.few,h.wide,⟨by show 1≤a.was;omega,by show a.was≤6;omega⟩,?_,fun _=>h.here (by omega),fun e=>?_,fun _=>h.unit (by omega),fun e=>?_⟩
 ·show q.was=codeA a.was
  rw [h1]
  rcases h2 with h2 | h2 <;> rw [h2] <;> rfl
 ·have e:a.was=5:=e
  omega
 ·have e:a.was=6:=e
  omega
theorem sim_proj (h:SimA q a) (hn:a.at_≠6) {e:Int} {L:List (List Int)} (hg:goodB e L=true) (hL:fewL L) (he:i64w e):SimA (q.proj e L) { a with ep:=e,L:=L,at_:=2 } :=
 ⟨rfl,rfl,hL,he,⟨of_decide_eq_true rfl,of_decide_eq_true rfl⟩,rfl,fun _=>⟨hg,(h.here hn).2⟩,fun e=>absurd e (of_decide_eq_true rfl),fun e=>absurd e (of_decide_eq_true rfl),fun e=>absurd e (of_decide_eq_true rfl)⟩
theorem sim_told (h:SimA q a) (hn:a.at_≠6) {n:Int} (ho:ofB a.ep a.L n=true):SimA (q.told n) { a with addr:=n,i:=0,at_:=3 } :=
 ⟨h.ep,h.chains,h.few,h.wide,⟨of_decide_eq_true rfl,of_decide_eq_true rfl⟩,rfl,fun _=>h.here hn,fun e=>absurd e (of_decide_eq_true rfl),fun _=>⟨rfl,rfl,ho,(chain_some ho).1⟩,fun e=>absurd e (of_decide_eq_true rfl)⟩
theorem sim_ends (h:SimA q a) {c:Int} (hc:c≠0):SimA (q.ends 0 c) (a.ends c):=by
 refine ⟨h.ep,h.chains,h.few,h.wide,⟨of_decide_eq_true rfl,of_decide_eq_true rfl⟩,rfl,fun e=>absurd rfl e,fun e=>absurd e (of_decide_eq_true rfl),fun e=>absurd e (of_decide_eq_true rfl),fun _=>⟨?_,rfl⟩⟩
 show (0:Int)=if (6:Int)=6∧c=0 then a.addr else 0
 rw [if_neg (fun e=>hc e.2)]
theorem sim_full (h:SimA q a) (hn:a.at_≠6):SimA q.full a.full:=by
 unfold Qa.full Ap.full
 rw [(h.here hn).2.2.2]
 refine sim_ends h ?_
 split <;> decide
theorem sim_next (h:SimA q a) (hn:a.at_=3∨a.at_=4):SimA q.next a.wrote:=by
 obtain ⟨u1,u2,u3,u4⟩:=h.unit (by omega)
 unfold Qa.next Ap.wrote
 rw [h.ep,h.chains,u1,u2]
 by_cases hl:a.i+1=(chainR a.ep a.L a.addr).length
 ·rw [if_pos hl,if_pos (by omega)]
  exact ⟨h.ep,h.chains,h.few,h.wide,⟨of_decide_eq_true rfl,of_decide_eq_true rfl⟩,rfl,fun e=>absurd rfl e,fun e=>absurd e (of_decide_eq_true rfl),fun e=>absurd e (of_decide_eq_true rfl),fun _=>⟨rfl,rfl⟩⟩
 ·rw [if_neg hl,if_neg (by omega)]
  refine ⟨h.ep,h.chains,h.few,h.wide,⟨of_decide_eq_true rfl,of_decide_eq_true rfl⟩,rfl,fun _=>h.here (by omega),fun e=>absurd e (of_decide_eq_true rfl),fun _=>⟨u1,?_,u3,?_⟩,fun e=>absurd e (of_decide_eq_true rfl)⟩
  ·show q.unit+1=((a.i+1:Nat):Int)
   omega
  ·show a.i+1 < (chainR a.ep a.L a.addr).length
   omega
theorem sim_heard (h:SimA q a) (hn:a.at_≠6) (c:Int) (b:Bool):SimA (q.heard c b) { a with maybe:=a.maybe || (decide (a.at_=3) && (!b || decide (c=0))) }:=by
 obtain ⟨_,_,_,_,h3,_⟩:=h.at_iff
 obtain ⟨g1,g2,g3,g4⟩:=h.here hn
 unfold Qa.heard
 by_cases hw:q.at_=3∧(b=false∨c=0)
 ·rw [if_pos hw]
  have e:(a.maybe || (decide (a.at_=3) && (!b || decide (c=0))))=true:=by
   rw [decide_eq_true (h3.1 hw.1)]
   rcases hw.2 with e | e
   ·rw [e];simp
   ·rw [decide_eq_true e];simp
  rw [e]
  exact ⟨h.ep,h.chains,h.few,h.wide,h.range,h.place,fun _=>⟨g1,g2,g3,rfl⟩,h.back,h.unit,fun e=>absurd e hn⟩
 ·rw [if_neg hw]
  have e:(a.maybe || (decide (a.at_=3) && (!b || decide (c=0))))=a.maybe:=by
   by_cases e3:a.at_=3
   ·have hb:b=true:=by
     cases b with
     | true=>rfl
     | false=>exact absurd ⟨h3.2 e3,.inl rfl⟩ hw
    have hc:¬ c=0:=fun e=>hw ⟨h3.2 e3,.inr e⟩
    rw [hb,decide_eq_false hc]
    simp
   ·rw [decide_eq_false e3]
    simp
  rw [e]
  exact ⟨h.ep,h.chains,h.few,h.wide,h.range,h.place,fun _=>⟨g1,g2,g3,g4⟩,h.back,h.unit,fun e=>absurd e hn⟩
theorem heard_same (q:Qa) (c:Int) (b:Bool):(q.heard c b).ep=q.ep∧(q.heard c b).L=q.L∧(q.heard c b).txt=q.txt∧(q.heard c b).at_=q.at_∧(q.heard c b).was=q.was∧(q.heard c b).addr=q.addr∧(q.heard c b).unit=q.unit:=by
 unfold Qa.heard
 split <;> exact ⟨rfl,rfl,rfl,rfl,rfl,rfl,rfl⟩
theorem sim_hear (h:SimA q a) (x:An) (c:Bool) (hL:fewL x.L) (he:i64w x.pe):SimA (q.hear x c) (a.hear x c):=by
 obtain ⟨i6,i1,i5,i2,i3,i4⟩:=h.at_iff
 have hr:=h.range
 unfold Qa.hear Ap.hear
 by_cases h6:a.at_=6
 ·rw [if_pos h6,if_pos (i6.2 h6)]
  exact h
 ·rw [if_neg h6,if_neg (fun e=>h6 (i6.1 e))]
  have hb:=sim_heard h h6 x.code c
  obtain ⟨_,_,_,s4,s5,_,_⟩:=heard_same q x.code c
  revert hb s4 s5
  generalize q.heard x.code c=p
  generalize hB:({ a with maybe:=a.maybe || (decide (a.at_=3) && (!c || decide (x.code=0))) }:Ap)=b
  intro hb s4 s5
  have b1:b.at_=a.at_:=by rw [← hB]
  have b2:b.was=a.was:=by rw [← hB]
  have b3:b.ep=a.ep:=by rw [← hB]
  have b4:b.L=a.L:=by rw [← hB]
  have b5:b.txt=a.txt:=by rw [← hB]
  have bn:b.at_≠6:=by rw [b1];exact h6
  show SimA _ (if c=false∨x.code=47 then b else _)
  by_cases hw:c=false∨x.code=47
  ·rw [if_pos hw,if_pos (hw.imp id (fun e=>by unfold Qa.waits;rw [decide_eq_true e];rfl))]
   exact hb
  ·rw [if_neg hw]
   have hw1:¬ c=false:=fun e=>hw (.inl e)
   have hw2:¬ x.code=47:=fun e=>hw (.inr e)
   by_cases h45:x.code=45
   ·by_cases ha:a.at_=3∨a.at_=4
    ·have hq:q.waits x.code=false:=by
      unfold Qa.waits
      rw [decide_eq_false hw2]
      rcases ha with ha | ha
      ·rw [decide_eq_false (p:=q.at_≠3) (fun e=>e (i3.2 ha))];simp
      ·rw [decide_eq_false (p:=q.at_≠4) (fun e=>e (i4.2 ha))];simp
     rw [if_neg (by rw [hq];simp [hw1]),if_neg (show ¬ x.code=40 by omega),if_pos h45,if_pos h45,if_pos ha,← b1]
     exact sim_check hb (by omega)
    ·have hq:q.waits x.code=true:=by
      unfold Qa.waits
      rw [decide_eq_true h45,decide_eq_true (p:=q.at_≠3) (by omega),decide_eq_true (p:=q.at_≠4) (by omega)];simp
     rw [if_pos (.inr hq),if_pos h45,if_neg ha]
     exact hb
   ·have hq:q.waits x.code=false:=by
     unfold Qa.waits
     rw [decide_eq_false hw2,decide_eq_false h45];rfl
    rw [if_neg (by rw [hq];simp [hw1])]
    by_cases h40:x.code=40
    ·rw [if_pos h40,if_neg h45,if_pos h40]
     exact sim_lay hb bn
    ·rw [if_neg h40,if_neg h45,if_neg h45,if_neg h40]
     by_cases a1:a.at_=1
     ·rw [if_pos a1,if_pos (.inl (i1.2 a1))]
      unfold Qa.learn
      by_cases hg:x.code=0∧goodB x.pe x.L=true
      ·rw [if_pos hg,if_pos ⟨hg.1,hg.2,.inl (by omega)⟩]
       exact sim_proj hb bn hg.2 hL he
      ·rw [if_neg hg,if_neg (fun e=>hg ⟨e.1,e.2.1⟩),if_neg (by omega)]
       exact hb
     ·rw [if_neg a1]
      by_cases a5:a.at_=5
      ·rw [if_pos a5,if_pos (.inr (i5.2 a5))]
       unfold Qa.learn
       have pe:p.ep=a.ep:=by rw [hb.ep,b3]
       by_cases hg:x.code=0∧goodB x.pe x.L=true∧x.pe≠a.ep
       ·rw [if_pos hg,if_pos ⟨hg.1,hg.2.1,.inr (by rw [pe];exact hg.2.2)⟩]
        exact sim_proj hb bn hg.2.1 hL he
       ·rw [if_neg hg,if_neg (fun e=>hg ⟨e.1,e.2.1,e.2.2.elim (fun e=>by omega) (fun e=>by rw [← pe];exact e)⟩),if_pos (by omega),← b2]
        exact sim_back hb (by omega)
      ·rw [if_neg a5,if_neg (by omega)]
       unfold Qa.step
       by_cases a2:a.at_=2
       ·rw [if_pos a2,if_pos (by omega)]
        unfold Qa.token
        have hof:ofB p.ep p.L x.n=true↔0≤x.n∧x.n < 16384:=by
         rw [hb.ep,hb.chains,ofB_iff]
         exact ⟨fun h=>h.2,fun h=>⟨(hb.here bn).1,h⟩⟩
        by_cases hg:x.code=0∧0≤x.n∧x.n < 16384
        ·rw [if_pos hg,if_pos ⟨hof.2 hg.2,hg.1⟩]
         exact sim_told hb bn (by rw [← hb.ep,← hb.chains];exact hof.2 hg.2)
        ·rw [if_neg hg,if_neg (fun e=>hg ⟨e.2,hof.1 e.1⟩)]
         by_cases h44:x.code=44
         ·rw [if_pos h44,if_pos h44]
          exact sim_full hb bn
         ·rw [if_neg h44,if_neg h44]
          have e:=sim_tok hb bn
          have e2:({ b with at_:=2 }:Ap)=b:=by
           have:b.at_=2:=by omega
           cases b
           simp only at this
           rw [this]
          rwa [e2] at e
       ·rw [if_neg a2,if_neg (by omega)]
        by_cases a3:a.at_=3
        ·rw [if_pos a3,if_pos (by omega)]
         unfold Qa.write
         by_cases c0:x.code=0
         ·rw [if_pos c0,if_pos c0]
          exact sim_next hb (by omega)
         ·rw [if_neg c0,if_neg c0]
          by_cases c1:x.code=41
          ·rw [if_pos c1,if_pos c1]
           exact sim_look hb (by omega)
          ·rw [if_neg c1,if_neg c1]
           by_cases c2:x.code=43
           ·rw [if_pos c2,if_pos c2]
            exact sim_tok hb bn
           ·rw [if_neg c2,if_neg c2]
            by_cases c3:x.code=44
            ·rw [if_pos c3,if_pos c3]
             exact sim_full hb bn
            ·rw [if_neg c3,if_neg c3]
             exact sim_ends hb c0
        ·rw [if_neg a3,if_neg (by omega)]
         unfold Qa.look
         have tx:p.txt=a.txt:=by rw [(hb.here bn).2.2.1,b5]
         rw [tx]
         by_cases c0:x.code=0∧x.data=a.txt
         ·rw [if_pos c0,if_pos c0]
          exact sim_next hb (by omega)
         ·rw [if_neg c0,if_neg c0]
          by_cases c1:x.code=0∨x.code=46∨x.code=43
          ·rw [if_pos c1,if_pos c1]
           exact sim_tok hb bn
          ·rw [if_neg c1,if_neg c1]
           by_cases c2:x.code=42
           ·rw [if_pos c2,if_pos c2]
            exact sim_write hb (by omega)
           ·rw [if_neg c2,if_neg c2]
            exact sim_ends hb (fun e=>c1 (.inl e))
end
structure Qf where
 ep:Int
 L:List (List Int)
 addr:Int
 fill:Bool
 at_:Int
 was:Int
 unit:Int
 kind:Int
 txt:ByteArray
 err:Int
def Qf.len (q:Qf):Nat:=(chainR q.ep q.L q.addr).length
def Qf.ends (q:Qf) (k:Int) (s:ByteArray) (e:Int):Qf:=⟨q.ep,q.L,q.addr,q.fill,6,q.was,q.unit,k,s,e⟩
def Qf.to (q:Qf) (m:Int):Qf:=⟨q.ep,q.L,q.addr,q.fill,m,q.was,q.unit,q.kind,q.txt,q.err⟩
def Qf.check (q:Qf):Qf:=⟨q.ep,q.L,q.addr,q.fill,1,q.at_,q.unit,q.kind,q.txt,q.err⟩
def Qf.lay (q:Qf):Qf:=⟨q.ep,q.L,q.addr,q.fill,0,q.was,q.unit,0,noS,q.err⟩
def Qf.proj (q:Qf) (e:Int) (L:List (List Int)):Qf:=⟨e,L,q.addr,q.fill,2,q.was,(chainR e L q.addr).length - 1,0,noS,q.err⟩
def Qf.got (q:Qf) (k:Int) (s:ByteArray):Qf:=⟨q.ep,q.L,q.addr,q.fill,q.at_,q.was,q.unit,k,s,q.err⟩
def Qf.more (q:Qf):Qf:=⟨q.ep,q.L,q.addr,q.fill,5,q.was,q.unit+1,q.kind,q.txt,q.err⟩
def Qf.mend (q:Qf):Qf:=if q.unit+1=(q.len:Int) then q.more.ends q.kind q.txt 0 else q.more
def Qf.first (q:Qf):Qf:=⟨q.ep,q.L,q.addr,q.fill,3,q.was,0,q.kind,q.txt,q.err⟩
def Qf.unwr (q:Qf):Qf:=if q.fill=true then q.to 4 else q.ends 0 noS 0
def Qf.step (q:Qf) (x:An):Qf :=
 if x.code=43 then q.ends 3 noS 0
 else if q.at_=2∨q.at_=3 then (if x.code=0 then (q.got 1 x.data).mend else if x.code=46 then (q.got 2 noS).mend else if x.code=42 then (if 0 < q.unit then q.first else q.unwr) else q.ends 0 noS x.code)
 else if q.at_=4 then (if x.code=0 then (q.got 2 noS).mend else if x.code=41 then q.first else q.ends 0 noS x.code)
 else (if x.code=0∨x.code=41 then q.mend else q.ends 0 noS x.code)
def Qf.learn (q:Qf) (x:An):Qf:=if x.code=0∧goodB x.pe x.L=true∧(q.at_=0∨x.pe≠q.ep) then q.proj x.pe x.L else if q.at_=1 then q.to q.was else q
def Qf.hear (q:Qf) (x:An) (b:Bool):Qf :=
 if b=false∨q.at_=6 then q
 else if x.code=45 then (if q.at_=0∨q.at_=1 then q else q.check)
 else if x.code=40 then q.lay
 else if q.at_=0∨q.at_=1 then q.learn x
 else q.step x
def newQf (ep:Int) (L:List (List Int)) (addr:Int) (fill:Bool):Qf:=if ofB ep L addr=true then ⟨ep,L,addr,fill,2,0,(chainR ep L addr).length - 1,0,noS,0⟩ else ⟨ep,L,addr,fill,6,0,0,0,noS,1⟩
def codeF (x:Int):Int:=if x=1 then 0 else if x=6 then 1 else if x=7 then 6 else x
structure HeldF (q:Qf) (f:Fe) (m:Int):Prop where
 last:m=2→q.unit=(f.chain.length:Int) - 1
 first:m=3∨m=4→q.unit=0
 mend:m=5→q.unit=(f.i:Int)∧f.i < f.chain.length∧q.kind=f.kind∧q.txt=f.s∧f.s.size≤1000000
structure SimF (q:Qf) (f:Fe):Prop where
 ep:q.ep=f.ep
 chains:q.L=f.L
 addr:q.addr=f.addr
 fill:q.fill=f.fill
 few:fewL f.L
 wide:i64w f.ep
 range:1≤f.at_∧f.at_≤7
 place:q.at_=codeF f.at_
 here:f.at_≠7→ofB f.ep f.L f.addr=true
 held:2≤f.at_∧f.at_≤5→HeldF q f f.at_
 back:f.at_=6→q.was=f.was∧2≤f.was∧f.was≤5∧HeldF q f f.was
 over:f.at_=7→q.kind=f.kind∧q.txt=f.s∧q.err=f.e∧f.s.size≤1000000
theorem chainF_some {ep:Int} {L:List (List Int)} {x:Int} (h:ofB ep L x=true):1≤(chainR ep L x).length∧(chainR ep L x).length≤4:=by
 obtain ⟨hg,hx⟩:=ofB_iff.1 h
 obtain ⟨n1,n4⟩:=z0v hg
 have h0:0≤x % (L.length:Int):=Int.emod_nonneg _ (by omega)
 have h1:x % (L.length:Int) < L.length:=Int.emod_lt_of_pos _ (by omega)
 obtain ⟨k,hk⟩:=Int.eq_ofNat_of_zero_le h0
 have hkl:k < L.length:=by omega
 rw [chainR_yes h hkl hk]
 have hc:=(goodB_iff.1 hg).2.2.1 _ (List.getElem_mem hkl)
 simp only [chainB,Bool.and_eq_true,decide_eq_true_eq] at hc
 omega
theorem z1w:noS.size≤1000000:=by decide
section
variable {q:Qf} {f:Fe}
theorem SimF.len (h:SimF q f):q.len=f.chain.length:=by unfold Qf.len Fe.chain;rw [h.ep,h.chains,h.addr]
theorem SimF.some (h:SimF q f) (hn:f.at_≠7):1≤f.chain.length∧f.chain.length≤4:=chainF_some (h.here hn)
theorem SimF.at_iff (h:SimF q f):(q.at_=6↔f.at_=7)∧(q.at_=0↔f.at_=1)∧(q.at_=1↔f.at_=6)∧(q.at_=2↔f.at_=2)∧(q.at_=3↔f.at_=3)∧(q.at_=4↔f.at_=4)∧(q.at_=5↔f.at_=5):=by
 obtain ⟨h1,h2⟩:=h.range
 have e:=h.place
 unfold codeF at e
 repeat' split at e
 all_goals omega
theorem simf_new (ep:Int) (L:List (List Int)) (addr:Int) (fill:Bool) (h:fewL L) (he:i64w ep):SimF (newQf ep L addr fill) (newFe ep L addr fill):=by
 unfold newQf newFe
 cases ho:ofB ep L addr with
 | true =>
  rw [if_pos rfl,if_pos rfl]
  exact ⟨rfl,rfl,rfl,rfl,h,he,⟨of_decide_eq_true rfl,of_decide_eq_true rfl⟩,rfl,fun _=>ho,fun _=>⟨fun _=>rfl,fun e=>absurd e (of_decide_eq_true rfl),fun e=>absurd e (of_decide_eq_true rfl)⟩,fun e=>absurd e (of_decide_eq_true rfl),fun e=>absurd e (of_decide_eq_true rfl)⟩
 | false =>
  rw [if_neg Bool.noConfusion,if_neg Bool.noConfusion]
  exact ⟨rfl,rfl,rfl,rfl,h,he,⟨of_decide_eq_true rfl,of_decide_eq_true rfl⟩,rfl,fun e=>absurd rfl e,fun e=>absurd e.2 (of_decide_eq_true rfl),fun e=>absurd e (of_decide_eq_true rfl),fun _=>⟨rfl,rfl,rfl,z1w⟩⟩
theorem simf_ends (h:SimF q f) (k:Int) {s:ByteArray} (hs:s.size≤1000000) (e:Int):SimF (q.ends k s e) (f.ends k s e) :=
 ⟨h.ep,h.chains,h.addr,h.fill,h.few,h.wide,⟨of_decide_eq_true rfl,of_decide_eq_true rfl⟩,rfl,fun e=>absurd rfl e,fun e=>absurd e.2 (of_decide_eq_true rfl),fun e=>absurd e (of_decide_eq_true rfl),fun _=>⟨rfl,rfl,rfl,hs⟩⟩
theorem simf_lay (h:SimF q f) (hn:f.at_≠7):SimF q.lay (f.to 1) :=
 ⟨h.ep,h.chains,h.addr,h.fill,h.few,h.wide,⟨of_decide_eq_true rfl,of_decide_eq_true rfl⟩,rfl,fun _=>h.here hn,fun e=>absurd e.1 (of_decide_eq_true rfl),fun e=>absurd e (of_decide_eq_true rfl),fun e=>absurd e (of_decide_eq_true rfl)⟩
theorem simf_check (h:SimF q f) (hn:2≤f.at_∧f.at_≤5):SimF q.check { f with at_:=6,was:=f.at_ } :=
 ⟨h.ep,h.chains,h.addr,h.fill,h.few,h.wide,⟨of_decide_eq_true rfl,of_decide_eq_true rfl⟩,rfl,fun _=>h.here (by omega),fun e=>absurd e.2 (of_decide_eq_true rfl),fun _=>⟨(by obtain ⟨_,_,_,a2,a3,a4,a5⟩:=h.at_iff;show q.at_=f.at_;omega),hn.1,hn.2,have g:=h.held hn;⟨g.1,g.2,g.3⟩⟩,fun e=>absurd e (of_decide_eq_true rfl)⟩
theorem simf_back (h:SimF q f) (hn:f.at_=6):SimF (q.to q.was) (f.to f.was):=by
 obtain ⟨b1,b2,b3,b4⟩:=h.back hn
 refine ⟨h.ep,h.chains,h.addr,h.fill,h.few,h.wide,⟨by show 1≤f.was;omega,by show f.was≤7;omega⟩,?_,fun _=>h.here (by omega),fun _=>⟨b4.1,b4.2,b4.3⟩,fun e=>?_,fun e=>?_⟩
 ·show q.was=codeF f.was
  unfold codeF
  rw [b1,if_neg (by omega),if_neg (by omega),if_neg (by omega)]
 ·have e:f.was=6:=e
  omega
 ·have e:f.was=7:=e
  omega
theorem simf_proj (h:SimF q f) (hn:f.at_≠7) {x:An} (hg:goodB x.pe x.L=true) (hL:fewL x.L) (he:i64w x.pe):SimF (q.proj x.pe x.L) (f.learns x) :=
 ⟨rfl,rfl,h.addr,h.fill,hL,he,⟨of_decide_eq_true rfl,of_decide_eq_true rfl⟩,rfl,fun _=>ofB_iff.2 ⟨hg,(ofB_iff.1 (h.here hn)).2⟩,fun _=>⟨fun _=>by show ((chainR x.pe x.L q.addr).length:Int) - 1=((chainR x.pe x.L f.addr).length:Int) - 1;rw [h.addr],fun e=>absurd e (of_decide_eq_true rfl),fun e=>absurd e (of_decide_eq_true rfl)⟩,fun e=>absurd e (of_decide_eq_true rfl),fun e=>absurd e (of_decide_eq_true rfl)⟩
theorem simf_first (h:SimF q f) (hn:f.at_≠7):SimF q.first (f.to 3) :=
 ⟨h.ep,h.chains,h.addr,h.fill,h.few,h.wide,⟨of_decide_eq_true rfl,of_decide_eq_true rfl⟩,rfl,fun _=>h.here hn,fun _=>⟨fun e=>absurd e (of_decide_eq_true rfl),fun _=>rfl,fun e=>absurd e (of_decide_eq_true rfl)⟩,fun e=>absurd e (of_decide_eq_true rfl),fun e=>absurd e (of_decide_eq_true rfl)⟩
theorem simf_unwr (h:SimF q f) (hn:f.at_≠7) (hu:q.unit=0):SimF q.unwr (if f.fill=true then f.to 4 else f.ends 0 noS 0):=by
 unfold Qf.unwr
 rw [h.fill]
 cases hf:f.fill with
 | true =>
  rw [if_pos rfl,if_pos rfl]
  exact ⟨h.ep,h.chains,h.addr,h.fill,h.few,h.wide,⟨of_decide_eq_true rfl,of_decide_eq_true rfl⟩,rfl,fun _=>h.here hn,fun _=>⟨fun e=>absurd e (of_decide_eq_true rfl),fun _=>hu,fun e=>absurd e (of_decide_eq_true rfl)⟩,fun e=>absurd e (of_decide_eq_true rfl),fun e=>absurd e (of_decide_eq_true rfl)⟩
 | false =>
  rw [if_neg Bool.noConfusion,if_neg Bool.noConfusion]
  exact simf_ends h 0 z1w 0
theorem simf_mend (h:SimF q f) (hn:f.at_≠7) (k:Int) {s:ByteArray} (hs:s.size≤1000000) {i:Nat} (hu:q.unit+1=(i:Int)) (hi:i≤f.chain.length):SimF (q.got k s).mend ((f.found k s).mend i):=by
 unfold Qf.mend Fe.mend
 show SimF (if q.unit+1=(q.len:Int) then _ else _) (if i=f.chain.length then _ else _)
 rw [h.len,hu]
 by_cases hl:i=f.chain.length
 ·rw [if_pos hl,if_pos (by omega)]
  exact ⟨h.ep,h.chains,h.addr,h.fill,h.few,h.wide,⟨of_decide_eq_true rfl,of_decide_eq_true rfl⟩,rfl,fun e=>absurd rfl e,fun e=>absurd e.2 (of_decide_eq_true rfl),fun e=>absurd e (of_decide_eq_true rfl),fun _=>⟨rfl,rfl,rfl,hs⟩⟩
 ·rw [if_neg hl,if_neg (by omega)]
  exact ⟨h.ep,h.chains,h.addr,h.fill,h.few,h.wide,⟨of_decide_eq_true rfl,of_decide_eq_true rfl⟩,rfl,fun _=>h.here hn,fun _=>⟨fun e=>absurd e (of_decide_eq_true rfl),fun e=>absurd e (of_decide_eq_true rfl),fun _=>⟨hu,by show i < f.chain.length;omega,rfl,rfl,hs⟩⟩,fun e=>absurd e (of_decide_eq_true rfl),fun e=>absurd e (of_decide_eq_true rfl)⟩
theorem simf_next (h:SimF q f) (hn:f.at_=5):SimF q.mend (f.mend (f.i+1)):=by
 obtain ⟨u1,u2,u3,u4,u5⟩:=(h.held (by omega)).mend hn
 have g:=simf_mend h (by omega) f.kind (s:=f.s) u5 (i:=f.i+1) (by omega) (by omega)
 have e:q.got f.kind f.s=q:=by
  cases q
  simp only at u3 u4
  rw [u3,u4];rfl
 rwa [e] at g
theorem simf_last (h:SimF q f) (hn:f.at_=2) (k:Int) {s:ByteArray} (hs:s.size≤1000000):SimF (q.got k s).mend (f.ends k s 0):=by
 have hl:=h.some (by omega)
 have hu:=(h.held (by omega)).last hn
 unfold Qf.mend
 rw [if_pos (show (q.got k s).unit+1=((q.got k s).len:Int) from by show q.unit+1=(q.len:Int);rw [h.len,hu];omega)]
 exact ⟨h.ep,h.chains,h.addr,h.fill,h.few,h.wide,⟨of_decide_eq_true rfl,of_decide_eq_true rfl⟩,rfl,fun e=>absurd rfl e,fun e=>absurd e.2 (of_decide_eq_true rfl),fun e=>absurd e (of_decide_eq_true rfl),fun _=>⟨rfl,rfl,rfl,hs⟩⟩
theorem simf_hear (h:SimF q f) (x:An) (c:Bool) (hL:fewL x.L) (he:i64w x.pe) (hd:x.data.size≤1000000):SimF (q.hear x c) (f.hear x c):=by
 obtain ⟨i7,i1,i6,i2,i3,i4,i5⟩:=h.at_iff
 have hr:=h.range
 unfold Qf.hear Fe.hear
 by_cases h7:f.at_=7∨c=false
 ·rw [if_pos h7,if_pos (h7.elim (fun e=>.inr (i7.2 e)) .inl)]
  exact h
 ·have n7:f.at_≠7:=fun e=>h7 (.inl e)
  rw [if_neg h7,if_neg (fun e=>h7 (e.elim .inr (fun e=>.inl (i7.1 e))))]
  by_cases h45:x.code=45
  ·rw [if_pos h45,if_pos h45]
   by_cases ha:f.at_≠1∧f.at_≠6
   ·rw [if_pos ha,if_neg (by omega)]
    exact simf_check h (by omega)
   ·rw [if_neg ha,if_pos (by omega)]
    exact h
  ·rw [if_neg h45,if_neg h45]
   by_cases h40:x.code=40
   ·rw [if_pos h40,if_pos h40]
    exact simf_lay h n7
   ·rw [if_neg h40,if_neg h40]
    by_cases a1:f.at_=1
    ·rw [if_pos a1,if_pos (.inl (i1.2 a1))]
     unfold Qf.learn
     by_cases hg:x.code=0∧goodB x.pe x.L=true
     ·rw [if_pos hg,if_pos ⟨hg.1,hg.2,.inl (i1.2 a1)⟩]
      exact simf_proj h n7 hg.2 hL he
     ·rw [if_neg hg,if_neg (fun e=>hg ⟨e.1,e.2.1⟩),if_neg (by omega)]
      exact h
    ·rw [if_neg a1]
     by_cases a6:f.at_=6
     ·rw [if_pos a6,if_pos (.inr (i6.2 a6))]
      unfold Qf.learn
      by_cases hg:x.code=0∧goodB x.pe x.L=true∧x.pe≠f.ep
      ·rw [if_pos hg,if_pos ⟨hg.1,hg.2.1,.inr (by rw [h.ep];exact hg.2.2)⟩]
       exact simf_proj h n7 hg.2.1 hL he
      ·rw [if_neg hg,if_neg (fun e=>hg ⟨e.1,e.2.1,e.2.2.elim (fun e=>by omega) (fun e=>by rw [← h.ep];exact e)⟩),if_pos (i6.2 a6)]
       exact simf_back h a6
     ·rw [if_neg a6,if_neg (by omega)]
      unfold Qf.step
      have hl:=h.some n7
      have hh:=h.held (by omega)
      by_cases c43:x.code=43
      ·rw [if_pos c43]
       have e:=simf_ends h 3 z1w 0
       unfold Fe.first
       repeat' split
       all_goals first
        | exact e
        | omega
      ·rw [if_neg c43]
       by_cases a2:f.at_=2
       ·rw [if_pos a2,if_pos (.inl (i2.2 a2))]
        have hu:=hh.last a2
        by_cases c0:x.code=0
        ·rw [if_pos c0,if_pos c0]
         exact simf_last h a2 1 hd
        ·rw [if_neg c0,if_neg c0]
         by_cases c46:x.code=46
         ·rw [if_pos c46,if_pos c46]
          exact simf_last h a2 2 z1w
         ·rw [if_neg c46,if_neg c46,if_neg c43]
          by_cases c42:x.code=42
          ·rw [if_pos c42,if_pos c42]
           by_cases l1:f.chain.length=1
           ·rw [if_pos l1,if_neg (by omega)]
            unfold Fe.first
            rw [if_neg c0,if_neg c46,if_neg c43,if_pos c42]
            exact simf_unwr h n7 (by omega)
           ·rw [if_neg l1,if_pos (by omega)]
            exact simf_first h n7
          ·rw [if_neg c42,if_neg c42]
           exact simf_ends h 0 z1w _
       ·rw [if_neg a2]
        by_cases a3:f.at_=3
        ·rw [if_pos a3,if_pos (.inr (i3.2 a3))]
         have hu:=hh.first (.inl a3)
         unfold Fe.first
         by_cases c0:x.code=0
         ·rw [if_pos c0,if_pos c0]
          exact simf_mend h n7 1 hd (by omega) (by omega)
         ·rw [if_neg c0,if_neg c0]
          by_cases c46:x.code=46
          ·rw [if_pos c46,if_pos c46]
           exact simf_mend h n7 2 z1w (by omega) (by omega)
          ·rw [if_neg c46,if_neg c46,if_neg c43]
           by_cases c42:x.code=42
           ·rw [if_pos c42,if_pos c42,if_neg (by omega)]
            exact simf_unwr h n7 hu
           ·rw [if_neg c42,if_neg c42]
            exact simf_ends h 0 z1w _
        ·rw [if_neg a3,if_neg (by omega)]
         by_cases a4:f.at_=4
         ·rw [if_pos a4,if_pos (i4.2 a4)]
          have hu:=hh.first (.inr a4)
          by_cases c0:x.code=0
          ·rw [if_pos c0,if_pos c0]
           exact simf_mend h n7 2 z1w (by omega) (by omega)
          ·rw [if_neg c0,if_neg c0]
           by_cases c41:x.code=41
           ·rw [if_pos c41,if_pos c41]
            exact simf_first h n7
           ·rw [if_neg c41,if_neg c41,if_neg c43]
            exact simf_ends h 0 z1w _
         ·rw [if_neg a4,if_neg (by omega)]
          by_cases c0:x.code=0∨x.code=41
          ·rw [if_pos c0,if_pos c0]
           exact simf_next h (by omega)
          ·rw [if_neg c0,if_neg c0,if_neg c43]
           exact simf_ends h 0 z1w _
end
def ptrN (b:Nat):Value:=.pointer (some ⟨b,0,none⟩)
structure RpcSays (UG:Nat→Nat→(Nat→Prop)→World→Us→Prop) (OG:Nat→(Nat→Prop)→World→Od→Prop) (LG:Nat→(Nat→Prop)→World→Ly→Prop) (NG:Nat→(Nat→Prop)→World→Nd→Prop):Prop where
 units:UnitSays UG
 order_:OrderSays OG
 layout_:LaySays LG
 thing:∀ b,Thing (NG b)
 ok:∀ {b:Nat} {G:Nat→Prop} {w:World} {n:Nd},NG b G w n→(∀ i,i < 16→(n.u i).p.Ok∧i64w (n.u i).epoch)∧n.o.Ok∧goodB n.l.ep n.l.L=true
 new_bad:∀ (ep:Int) (ao:Option Addr) (cap:Nat) (L:List (List Int)) (room:Int) (w:World),CL w ao L→fewL L→goodB ep L=false→i64w room→Calls Tryz.prog 58 #[.agg #[.int .i64 ep,.slice ao L.length cap],.int .i64 room] w fun e w'=>e=.returned (.tuple #[.pointer none,.int .i64 11])∧Below w.heap.size w w'
 new_room:∀ (ep:Int) (ao:Option Addr) (cap:Nat) (L:List (List Int)) (room:Int) (w:World),CL w ao L→fewL L→goodB ep L=true→room < 1∨4096 < room→i64w room→Calls Tryz.prog 58 #[.agg #[.int .i64 ep,.slice ao L.length cap],.int .i64 room] w fun e w'=>e=.returned (.tuple #[.pointer none,.int .i64 1])∧Below w.heap.size w w'
 new_yes:∀ (ep:Int) (ao:Option Addr) (cap:Nat) (L:List (List Int)) (room:Int) (w:World),CL w ao L→fewL L→goodB ep L=true→1≤room∧room≤4096→Calls Tryz.prog 58 #[.agg #[.int .i64 ep,.slice ao L.length cap],.int .i64 room] w fun e w'=>∃ (b:Nat) (G:Nat→Prop),e=.returned (.tuple #[ptrN b,.int .i64 0])∧NG b G w' (newN ep L room)∧(∀ k,G k→w.heap.size≤k)∧Below w.heap.size w w'
 ask:∀ (b:Nat) (G:Nat→Prop) (w:World) (n:Nd) (a:Ak),NG b G w n→AkOk a→fewL a.L→a.data.size≤1000000→n.l.used.length≤100000→(∀ W,Kept (fun k=>¬ G k) w W→CL W a.ao a.L)→Calls Tryz.prog 77 #[ptrN b,askV a] w fun e w'=>Tells (NG b) G w (n.done a) (n.ans a) e w'
 unit:∀ (b:Nat) (G:Nat→Prop) (w:World) (n:Nd) (i:Nat),NG b G w n→i < 16→Calls Tryz.prog 30 #[ptrN b,.int .i64 i] w fun e w'=>∃ (bu pb:Nat),e=.returned (ptrV bu)∧Below w.heap.size w w'∧∃ F:Nat→Prop,UG bu pb F w' (n.u i)∧(∀ k,F k→G k)∧∀ W u',Leaves (UG bu pb) F w' W u'→Leaves (NG b) G w' W (n.putU i u')
 unit_no:∀ (b:Nat) (G:Nat→Prop) (w:World) (n:Nd) (i:Int),NG b G w n→i < 0∨15 < i→i64w i→Calls Tryz.prog 30 #[ptrN b,.int .i64 i] w fun e w'=>e=.returned (.pointer none)∧Below w.heap.size w w'
 order:∀ (b:Nat) (G:Nat→Prop) (w:World) (n:Nd),NG b G w n→Calls Tryz.prog 110 #[ptrN b] w fun e w'=>∃ bo:Nat,e=.returned (ptrO bo)∧Below w.heap.size w w'∧∃ F:Nat→Prop,OG bo F w' n.o∧(∀ k,F k→G k)∧∀ W o',Leaves (OG bo) F w' W o'→Leaves (NG b) G w' W (n.putO o')
 layout:∀ (b:Nat) (G:Nat→Prop) (w:World) (n:Nd),NG b G w n→Calls Tryz.prog 35 #[ptrN b] w fun e w'=>∃ bl:Nat,e=.returned (ptrL bl)∧Below w.heap.size w w'∧∃ F:Nat→Prop,LG bl F w' n.l∧(∀ k,F k→G k)∧∀ W l',Leaves (LG bl) F w' W l'→Leaves (NG b) G w' W (n.putL l')
 nil_ask:∀ (a:Ak) (w:World),AkIn w a→Calls Tryz.prog 77 #[.pointer none,askV a] w fun e w'=>e=.returned (ansV (anP 1 0 noS 0) none 0)∧Below w.heap.size w w'
 nil_unit:∀ (i:Int) (w:World),i64w i→Calls Tryz.prog 30 #[.pointer none,.int .i64 i] w fun e w'=>e=.returned (.pointer none)∧Below w.heap.size w w'
 nil_order:∀ (w:World),Calls Tryz.prog 110 #[.pointer none] w fun e w'=>e=.returned (.pointer none)∧Below w.heap.size w w'
 nil_layout:∀ (w:World),Calls Tryz.prog 35 #[.pointer none] w fun e w'=>e=.returned (.pointer none)∧Below w.heap.size w w'
def MkN (w0:World) (r:Nat) (N:Nd) (i:Nat) (W:World):Prop :=
 ∃ (A:Array Value) (ro rl:Nat) (B:Nat→Nat × Nat) (G:Nat→Prop),Tab A i B ro rl∧BundG (i+3) (nodeT r A ro rl B N) G W∧(∀ k,G k→w0.heap.size≤k)∧Below w0.heap.size w0 W
theorem mkn_start {w0 w1 w2:World} {rl ro:Nat} {G1 G2:Nat→Prop} {N:Nd} {A:Array Value} {B:Nat→Nat × Nat} (h1:RL rl G1 w1 N.l) (g1:∀ k,G1 k→w0.heap.size≤k) (b1:Below w0.heap.size w0 w1) (h2:RO ro G2 w2 N.o) (g2:∀ k,G2 k→w1.heap.size≤k) (b2:Below w1.heap.size w1 w2) (hT:Tab A 0 B ro rl) :
  MkN w0 w2.heap.size N 0 (w2.alloc (.cells A 172)):=by
 have hp:=fun i (_:i < 0)=>z1m w2.heap.size A ro rl B N i
 have q0:BundG 0 (nodeT w2.heap.size A ro rl B N) (fun _=>False) w0:=⟨fun _ _=>False,fun i hi=>absurd hi (Nat.not_lt_zero i),fun i j hi=>absurd hi (Nat.not_lt_zero i),fun k=>⟨fun h=>h.elim,fun ⟨i,hi,_⟩=>absurd hi (Nat.not_lt_zero i)⟩⟩
 have q1:=(q0.more (fun i _=>z1m w2.heap.size A ro rl B N i) b1 (U:=fun F W=>RL rl F W N.l) h1 g1).same (T2:=nodeT w2.heap.size A ro rl B N) (fun i hi F W hF=>by
  match i,hi,hF with
  | 0,_,hF=>exact hF
  | j+1,hi,_=>omega)
 have q2:=(q1.more (fun i _=>z1m w2.heap.size A ro rl B N i) b2 (U:=fun F W=>RO ro F W N.o) h2 g2).same (T2:=nodeT w2.heap.size A ro rl B N) (fun i hi F W hF=>by
  match i,hi,hF with
  | 0,_,hF=>exact hF
  | 1,_,hF=>exact hF
  | j+2,hi,_=>omega)
 have b3:Below w2.heap.size w2 (w2.alloc (.cells A 172)):=(Below.refl _ _).alloc (Nat.le_refl _) _
 have q3:=(q2.more (fun i _=>z1m w2.heap.size A ro rl B N i) b3 (U:=fun F W=>W.heap[w2.heap.size]?=some (.cells A 172 (0,0))∧∀ k,F k↔k=w2.heap.size) (H:=fun k=>k=w2.heap.size) ⟨heap_alloc_new _ _,fun k=>Iff.rfl⟩ (fun k hk=>by omega)).same (T2:=nodeT w2.heap.size A ro rl B N) (fun i hi F W hF=>by
  match i,hi,hF with
  | 0,_,hF=>exact hF
  | 1,_,hF=>exact hF
  | 2,_,hF=>exact hF
  | j+3,hi,_=>omega)
 have z1:=b1.size
 have z2:=b2.size
 refine ⟨A,ro,rl,B,_,hT,q3,fun k hk=>?_,(b1.trans (b2.mono z1)).alloc (by omega) _⟩
 rcases hk with ((hk | hk) | hk) | hk
 ·exact hk.elim
 ·exact g1 k hk
 ·have:=g2 k hk;omega
 ·omega
theorem MkN.step {w0 W w2:World} {r i r2 q2:Nat} {N:Nd} {G2:Nat→Prop} (h:MkN w0 r N i W) (hi:i < 16) (hb:Below W.heap.size W w2) (hu:RU r2 q2 G2 w2 (N.u i)) (hg:∀ k,G2 k→W.heap.size≤k):MkN w0 r N (i+1) (w2.setCell ⟨r,i,none⟩ (ptrU r2)):=by
 obtain ⟨A,ro,rl,B,G,hT,hB,hG,hb0⟩:=h
 have q1:=(hB.more (fun i _=>z1m r A ro rl B N i) hb (U:=fun F W=>RU r2 q2 F W (N.u i)) hu hg).same (T2:=nodeT r A ro rl (fun j=>if j=i then (r2,q2) else B j) N) (fun k hk F W hF=>by
  unfold swapP at hF
  match k,hk,hF with
  | 0,_,hF=>rw [if_neg (by omega)] at hF;exact hF
  | 1,_,hF=>rw [if_neg (by omega)] at hF;exact hF
  | 2,_,hF=>rw [if_neg (by omega)] at hF;exact hF
  | j+3,_,hF =>
   by_cases e:j=i
   ·subst e
    rw [if_pos rfl] at hF
    show RU (if j=j then (r2,q2) else B j).1 (if j=j then (r2,q2) else B j).2 F W (N.u j)
    rw [if_pos rfl]
    exact hF
   ·rw [if_neg (by omega)] at hF
    show RU (if j=i then (r2,q2) else B j).1 (if j=i then (r2,q2) else B j).2 F W (N.u j)
    rw [if_neg e]
    exact hF)
 obtain ⟨F,h2f,hFG,huse⟩:=q1.use (fun i _=>z1m r A ro rl _ N i) (i:=2) (by omega)
 have hA:w2.heap[r]?=some (.cells A 172 (0,0)):=h2f.1
 have hF2:∀ k,F k↔k=r:=h2f.2
 have hrG:=hFG r ((hF2 r).2 rfl)
 have hk:Kept (fun k=>k≠r) w2 (w2.setCell ⟨r,i,none⟩ (ptrU r2)):=(Kept.refl _ w2).setCell (p:=⟨r,i,none⟩) (fun h=>h rfl) _
 have hl:Leaves (fun (F:Nat→Prop) (W:World) (_:Unit)=>W.heap[r]?=some (.cells (A.setIfInBounds i (ptrU r2)) 172 (0,0))∧∀ k,F k↔k=r) F w2 (w2.setCell ⟨r,i,none⟩ (ptrU r2)) () :=
  ⟨F,⟨heap_setCell_same w2 r i A _ _ hA,hF2⟩,hk.mono (fun k hn e=>hn ((hF2 k).2 e)),fun k hk=>.inl hk⟩
 obtain ⟨G',s1,s2,s3⟩:=huse _ (fun (G':Nat→Prop) (W:World) (_:Unit)=>BundG (i+1+3) (nodeT r (A.setIfInBounds i (ptrU r2)) ro rl (fun j=>if j=i then (r2,q2) else B j) N) G' W) _ () () (fun G' W h=>BundG.same (n:=i+1+3) (show BundG (i+1+3) _ G' W from (by rw [show i+1+3=i+3+1 by omega];exact h)) (fun k _ F W hF=>by
  match k,hF with
  | 0,hF=>exact hF
  | 1,hF=>exact hF
  | 2,hF=>exact hF
  | j+3,hF=>exact hF)) hl
 have z0:=hb0.size
 have z1:=hb.size
 refine ⟨_,ro,rl,_,G',hT.put hi (r2,q2),s1,fun k hk=>?_,?_⟩
 ·rcases s3 k hk with (h | h) | h
  ·exact hG k h
  ·have:=hg k h;omega
  ·omega
 ·refine (hb0.trans (hb.mono z0)).trans (hk.toBelow (by omega) (fun k hk e=>?_))
  rcases hrG with h | h
  ·have:=hG r h;omega
  ·have:=hg r h;omega
theorem few_nil:fewL []:=⟨Nat.zero_le _,fun c hc=>(by cases hc)⟩
section
variable {LG:Nat→(Nat→Prop)→World→Ly→Prop} {X:Nat→Prop} {w:World} {b:Nat} {y:Ly}
end
def RH (r rn:Nat) (G:Nat→Prop) (w:World) (h:Hd):Prop :=
 h.held.length≤64∧∃ (v:Value) (F:Nat→Prop),w.heap[r]?=some (.cells #[.pointer (some ⟨rn,0,none⟩),v] 112 (0,0))∧OR 34 9 askC w 0 v h.held∧RN rn F w h.n∧G r∧¬ F r∧(∀ k,F k→G k)∧(∀ k,v.ownBlock=some k→G k∧¬ F k∧k≠r)∧∀ k,G k→k < w.heap.size
theorem rh_thing (r rn:Nat):Thing (RH r rn) where
 lt:=by
  rintro G w h ⟨_,v,F,_,_,_,_,_,_,_,h1⟩
  exact h1
 keep:=by
  rintro G S w w' h ⟨h0,v,F,h1,h2,h3,h4,h5,h6,h7,h8⟩ hk hS
  exact ⟨h0,v,F,hk.heap (hS r h4) h1,h2.keep hk (fun k e=>hS k (h7 k e).1),(rn_thing rn).keep h3 hk (fun k hf=>hS k (h6 k hf)),h4,h5,h6,h7,fun k hg=>Nat.lt_of_lt_of_le (h8 k hg) hk.size⟩
section
variable {r rn:Nat} {G:Nat→Prop} {w:World} {h:Hd}
end
end Go.Proofs.YtkefpbcifcjibaaGreat
namespace Go.Proofs.YtkefpbcifcjibaaGreat
open Go.RowKit Go.Maps
theorem Kept.then {G H:Nat→Prop} {w W W2:World} (hk:Kept (fun k=>¬ G k) w W) (hs:∀ k,H k→G k∨w.heap.size≤k) (h2:Kept (fun k=>¬ H k) W W2):Kept (fun k=>¬ G k) w W2:=by
 refine ⟨h2.os.trans hk.os,h2.tape.trans hk.tape,h2.output.trans hk.output,Nat.le_trans hk.size h2.size,fun k hg hkl=>?_⟩
 have hn:¬ H k:=fun hf=>by
  rcases hs k hf with h | h
  ·exact hg h
  ·omega
 rw [h2.block k hn (Nat.lt_of_lt_of_le hkl hk.size)]
 exact hk.block k hg hkl
theorem take_more {S U:List Int} {k:Nat} (hk:k < U.length):(S ++ U.take k) ++ [U[k]]=S ++ U.take (k+1):=by
 rw [List.take_succ_eq_append_getElem hk,List.append_assoc]
theorem lp_count (b:Nat) (G:Nat→Prop) (w:World) (y:Ly) (h:LB b G w y) (e:Int) (ao:Option Addr) (cap:Nat) (L:List (List Int)) (hA:∀ W,Kept (fun k=>¬ G k) w W→CL W ao L) (hL:L.length≤255∧∀ c ∈ L,c.length≤255) (hu:y.used.length≤100000) :
  Calls Tryz.prog 117 #[ptrL b,.agg #[.int .i64 e,.slice ao L.length cap]] w fun x w'=>x=.returned (.tuple #[])∧Leaves (LB b) G w w' ⟨e,L,y.used ++ unitsR L,y.mark,y.size,y.n⟩:=by
 have HB0:=Lh (z00 w (.cells #[.int .i64 e,.slice ao L.length cap] 24))
 have HP:=Lh (show PB (w.alloc (.cells #[.int .i64 e,.slice ao L.length cap] 24)) w.heap.size e ao L.length cap from heap_alloc_new _ _)
 have HG:=Lh (fun k (hk:G k)=>(z0l b).lt h k hk)
 have H0:=Lh (h.below HB0.out)
 have HA:=Lh hA
 have C0:=Lh (z14 e ao cap L _ (hA _ (Kept.ofBelow HB0.out _)) hL)
 have CU:=Lh (fun (W:World) (hc:CL W ao L)=>punitsO_any e ao cap L W hc hL)
 have HLU:=units_few hL
 have hbw:=h.small
 clear h hA hL
 generalize unitsR L=U at *
 have hU:(U.length:Int)≤70000:=by omega
 unfold ptrL
 go_enter Tryz.func117,Tryz.ntmps117
 go_wp2_with (first
  | (go_at_call 46;refine C0.out.mono ?_;rintro x w1 ⟨v,rfl,hO,hb1⟩;obtain ⟨vo,vc,hv,_⟩:=hO.form;subst hv;have H1:=Lh (Leaves.ahead HG.out HB0.out (H0.out.chains hb1 (e:=e) hO));obtain ⟨lo,lc,mb0,h1,_⟩:=(H0.out.below hb1).open;obtain ⟨⟨c0,c1,c2,c3,c4,c5⟩,f0,f1,f2,f3,f4,f5⟩:=z29 h1;have hb1':=lt_of_block h1;obtain ⟨p0,p1⟩:=(HP.out.below hb1).cells;have hpz:=block_lt_of_cell p0;clear hO hb1 h1)
  | (go_at_call 52;obtain ⟨H2,hL2,hk2,hs2⟩:=H1.out;refine (CU.out _ (HA.out _ hk2)).mono ?_;rintro x w3 ⟨u,rfl,hO3,hb3⟩;obtain ⟨uo,uc,hu3,hN3,hA3,_⟩:=hO3.form;subst hu3;have HN3:=Lh hN3;have HU3:=Lh (show ∀ a,uo=some a→¬ H2 a.block from fun a e hf=>by have:=(hA3 a e).1;have:=(z0l b).lt hL2 _ hf;omega);have HL3:=Lh (hL2.below hb3);have HK3:=Lh (hk2.below hb3);have HS3:=Lh hs2;clear hL2 hk2 hs2 hO3 hb3 hN3 hA3))
 clear c0 c1 c2 c3 c4 c5 f0 f1 f2 f3 f4 f5 p0 p1 hpz hb1' H1 C0 CU H0 HP HA HB0
 have hx3:=HL3.out.small
 go_loopw [14] (fun i wr=>∃ k:Nat,i=.int .i64 k∧k≤U.length∧Hid (LB b H2 wr ⟨e,L,y.used ++ U.take k,y.mark,y.size,y.n⟩)∧Hid (Kept (fun k=>¬ H2 k) w3 wr)) (fun i _=>U.length - (intOf i).toNat)
 case atStart=>exact ⟨0,rfl,Nat.zero_le _,Lh (by rw [List.take_zero,List.append_nil];exact HL3.out),Lh (Kept.refl _ _)⟩
 case round =>
  obtain ⟨k,rfl,hk,HO,HK⟩:=hrel
  by_cases hlt:k < U.length
  ·have HNR:=Lh (HN3.out.keep HK.out (fun a e=>HU3.out a e))
   obtain ⟨bk,off,hao,x0⟩:=HNR.out.at k hlt
   have hwf:=HNR.out.wf _ (List.getElem_mem hlt)
   subst hao
   have k0:(k:Int) < (U.length:Int):=by omega
   obtain ⟨lo2,lc2,mb,h1,_,hUs,_,_,hHm⟩:=HO.out.open
   obtain ⟨⟨c0,c1,c2,c3,c4,c5⟩,_⟩:=z29 h1
   have hbr:=lt_of_block h1
   have HD:=Lh hUs.1
   have HM:=Lh hHm
   have HC2:=Lh c2
   have HCNT:=Lh (show (y.used ++ U.take k).length < maxLen from by rw [List.length_append,List.length_take];unfold maxLen;omega)
   have HKEY:=Lh (lunit_key _ hwf)
   have HW:=Lh hwf
   have HT:=Lh (take_more (S:=y.used) hlt)
   clear h1 hUs hwf hHm c0 c1 c3 c4 c5
   generalize U[k]=z at *
   go_wp2_with (at_mapUpdate;refine wpList_mapUpdate_own _ rfl _ _ _ 125 rfl 231 193 lunit_law Tryz.underlying125 (unitElem (H:=Unit)) mb _ _ rfl HD.out HCNT.out _ _ _ rfl rfl HKEY.out _ [] unitElem_mk ?_;intro w5 hown hgrow;have HO5:=Lh (HO.out.put HC2.out HW.out rfl hown hgrow);have HK5:=Lh (HK.out.grown hgrow (fun k e hk=>hk (by cases e;exact HM.out)));clear hown hgrow)
   go_roundw
   case rel=>exact ⟨k+1,by go_num,by omega,Lh (by rw [← HT.out];exact HO5.out),HK5⟩
   case measure=>simp [intOf];omega
  ·obtain rfl:k=U.length:=by omega
   rw [List.take_of_length_le (Nat.le_refl _)] at HO
   go_wp2_with fail
   go_end0
   exact ⟨rfl,H2,HO.out,HK3.out.then HS3.out HK.out,HS3.out⟩
theorem agg_two {P:Program} {k:TypeId} {f0 f1:Field} (hk:P.underlying k=some (.struct #[f0,f1])) (hc:P.cellsOf k=2) {v:Value} (h:v.formed P k=true):∃ x y,v=.agg #[x,y]:=by
 cases v with
 | agg cs =>
  simp only [Value.formed,hk,hc,beq_iff_eq] at h
  obtain ⟨l⟩:=cs
  match l,h with
  | [x,y],_=>exact ⟨x,y,rfl⟩
 | _=>simp [Value.formed,hk] at h
theorem key_two_inv {P:Program} {k ti:TypeId} {f0 f1:Field} (hk:P.underlying k=some (.struct #[f0,f1])) (hc:P.cellsOf k=2) (hn0:(f0.name != "_")=true) (hn1:(f1.name != "_")=true) (h0:(f0.offset,f0.type)=(0,ti)) (h1:(f1.offset,f1.type)=(1,ti)) (ci:P.cellsOf ti=1) (ui:P.underlying ti=some (.int .i64))
  (hkt:P.keyType k=true) {n:Nat} (hs:P.types.size=n+1) {v:Value} {kl:Lit} (h:keyOf P k v=some kl):∃ x y,v=.agg #[.int .i64 x,.int .i64 y]∧(Lit.int .i64 x).wf=true∧(Lit.int .i64 y).wf=true:=by
 have e0:f0.offset=0:=congrArg Prod.fst h0
 have e1:f0.type=ti:=congrArg Prod.snd h0
 have e2:f1.offset=1:=congrArg Prod.fst h1
 have e3:f1.type=ti:=congrArg Prod.snd h1
 unfold keyOf at h
 rw [hk] at h
 simp only [hkt,Bool.true_and] at h
 split at h
 ·next hf =>
  obtain ⟨x,y,rfl⟩:=agg_two hk hc hf
  rw [hs] at h
  simp only [Value.cells] at h
  unfold Program.keyLits at h
  rw [hk] at h
  simp [hc,hn0,hn1,e0,e1,e2,e3,ci] at h
  have one:∀ (z:Value) (l:List Lit),P.keyLits (n+1) ti [z]=some l→∃ a,z=.int .i64 a∧(Lit.int .i64 a).wf=true:=by
   intro z l hz
   unfold Program.keyLits at hz
   rw [ui] at hz
   cases z with
   | int q a =>
    by_cases hq:q=IntKind.i64∧(Lit.int .i64 a).wf=true
    ·obtain ⟨rfl,h1⟩:=hq
     exact ⟨a,rfl,h1⟩
    ·simp [hq] at hz
   | _=>simp at hz
  cases ex:P.keyLits (n+1) ti [x] with
  | none=>simp [ex] at h
  | some l1 =>
   cases ey:P.keyLits (n+1) ti [y] with
   | none=>simp [ex,ey] at h
   | some l2 =>
    obtain ⟨a,rfl,ha⟩:=one x l1 ex
    obtain ⟨b,rfl,hb⟩:=one y l2 ey
    exact ⟨a,b,rfl,ha,hb⟩
 ·cases h
theorem place_key_row:(150:TypeId) < Tryz.prog.types.size:=of_decide_eq_true (by kernel_rfl)
theorem place_law:Keyed Tryz.prog 150:=Keyed.of_law (deep_law_laid z1q (m:=2) (by omega) place_key_row (by kernel_rfl) (by rw [Tryz.underlying150]))
def klP (x:Int × Int):Lit:=.string (keyBytes [.int .i64 x.1,.int .i64 x.2])
def wfP (x:Int × Int):Prop:=(Lit.int .i64 x.1).wf=true∧(Lit.int .i64 x.2).wf=true
theorem place_key (x:Int × Int) (h:wfP x):keyOf Tryz.prog 150 (.agg #[.int .i64 x.1,.int .i64 x.2])=some (klP x):=by
 obtain ⟨n,hn⟩:=types_succ
 exact key_two Tryz.underlying150 (by kernel_rfl) (by rfl) (by rfl) rfl rfl (by kernel_rfl) Tryz.underlying3 (by kernel_rfl) hn h.1 h.2
theorem place_inv {v:Value} {kl:Lit} (h:keyOf Tryz.prog 150 v=some kl):∃ x:Int × Int,v=.agg #[.int .i64 x.1,.int .i64 x.2]∧wfP x:=by
 obtain ⟨n,hn⟩:=types_succ
 obtain ⟨x,y,e,h1,h2⟩:=key_two_inv Tryz.underlying150 (by kernel_rfl) (by rfl) (by rfl) rfl rfl (by kernel_rfl) Tryz.underlying3 (by kernel_rfl) hn h
 exact ⟨(x,y),e,h1,h2⟩
theorem place_inj {x y:Int × Int} (h:(Value.agg #[.int .i64 x.1,.int .i64 x.2])=.agg #[.int .i64 y.1,.int .i64 y.2]):x=y:=by
 obtain ⟨a,b⟩:=x
 obtain ⟨c,d⟩:=y
 simp at h
 rw [h.1,h.2]
theorem klP_inj {x y:Int × Int} (hx:wfP x) (hy:wfP y) (h:klP x=klP y):x=y:=place_inj (place_law.inj (place_key x hx) (h ▸ place_key y hy))
theorem klP_key {x:Int × Int} (hx:wfP x):WideAt.IsKeyLit (klP x):=place_law.key (place_key x hx)
def setP (S:List (Int × Int)):DataW Unit:=setOf (.agg []) (S.map klP)
theorem setP_snoc (S:List (Int × Int)) (x:Int × Int):setP (S ++ [x])=(setP S).put (klP x) (.agg []):=by
 unfold setP
 rw [List.map_append]
 exact setOf_snoc _ _ _
theorem setP_has {S:List (Int × Int)} (hS:∀ x ∈ S,wfP x) {x:Int × Int} (hx:wfP x):Maps.has (setP S) (klP x)=decide (x ∈ S):=by
 unfold setP
 rw [has_setOf]
 ·rw [Bool.eq_iff_iff,List.any_eq_true,decide_eq_true_eq]
  constructor
  ·rintro ⟨l,hl,hs⟩
   obtain ⟨v,hv,rfl⟩:=List.mem_map.1 hl
   rw [← klP_inj (hS v hv) hx (WideAt.sameKey_eq hs)]
   exact hv
  ·intro h
   exact ⟨klP x,List.mem_map.2 ⟨x,h,rfl⟩,WideAt.sameKey_self (klP_key hx)⟩
 ·intro l hl
  obtain ⟨v,hv,rfl⟩:=List.mem_map.1 hl
  exact klP_key (hS v hv)
def valK (K:List (Int × Int)) (u:Int):Int:=((K.find? (fun e=>e.1 == u)).map (·.2)).getD 0
def pagK (K:List (Int × Int)) (u:Int):Int:=if 4096 < valK K u then 4096 else valK K u
theorem valK_at {D:DataW Unit} {K:List (Int × Int)} (h:MK D K) {u:Int} (hu:(Lit.int .i64 u).wf=true):D.atKey (.int .i64 u) (.lit (.int .i64 0))=.lit (.int .i64 (valK K u)):=by
 unfold valK
 cases e:K.find? (fun e=>e.1 == u) with
 | none =>
  have hn:u ∉ K.map (·.1):=by
   intro hm
   obtain ⟨x,hx,hx2⟩:=List.mem_map.1 hm
   have:=List.find?_eq_none.1 e x hx
   simp [hx2] at this
  exact atKey_of_not_has (by rw [h.hs u hu];exact decide_eq_false hn) _
 | some x =>
  have h1:=List.mem_of_find?_eq_some e
  have h2:x.1=u:=by simpa using List.find?_some e
  rw [← h2]
  exact h.at_ x h1 _
theorem valK_mem {K:List (Int × Int)} (h:(K.map (·.1)).Nodup) {e:Int × Int} (he:e ∈ K):valK K e.1=e.2:=by
 unfold valK
 induction K with
 | nil=>cases he
 | cons x K ih =>
  rw [List.map_cons,List.nodup_cons] at h
  rcases List.mem_cons.1 he with rfl | he
  ·simp
  ·have hne:x.1≠e.1:=fun e2=>h.1 (e2 ▸ List.mem_map.2 ⟨e,he,rfl⟩)
   rw [List.find?_cons_of_neg (by simpa using hne)]
   exact ih h.2 he
theorem valK_pos {K:List (Int × Int)} {u:Int} (h:0 < pagK K u):∃ e ∈ K,e.1=u∧0 < e.2∧pagK K u=min e.2 4096:=by
 unfold pagK at h ⊢
 unfold valK at h ⊢
 cases e:K.find? (fun e=>e.1 == u) with
 | none=>rw [e] at h;simp at h
 | some x =>
  rw [e] at h
  refine ⟨x,List.mem_of_find?_eq_some e,by simpa using List.find?_some e,?_,?_⟩
  ·simp at h
   split at h <;> omega
  ·simp
   split <;> omega
def stepE (K:List (Int × Int)) (i u:Int):List (Int × Int):=if 0 < pagK K u then [(i,pagK K u - 1)] else []
def endsC (K:List (Int × Int)) (i:Int) (c:List Int):List (Int × Int):=c.flatMap (stepE K i)
def endsL (K:List (Int × Int)) (L:List (List Int)) (n k:Nat):List (Int × Int):=(List.range n).flatMap (fun (i:Nat)=>endsC K (i:Int) (L.getD i [])) ++ endsC K (n:Int) ((L.getD n []).take k)
theorem endsL_zero (K:List (Int × Int)) (L:List (List Int)):endsL K L 0 0=[]:=by simp [endsL,endsC]
theorem endsL_succ {K:List (Int × Int)} {L:List (List Int)} {n k:Nat} (hn:n < L.length) (hk:k < L[n].length):endsL K L n (k+1)=endsL K L n k ++ stepE K n L[n][k]:=by
 unfold endsL endsC
 rw [show L.getD n []=L[n] from by simp [hn],List.take_succ_eq_append_getElem hk,List.flatMap_append,← List.append_assoc]
 simp
theorem endsL_chain {K:List (Int × Int)} {L:List (List Int)} {n:Nat} (hn:n < L.length):endsL K L n L[n].length=endsL K L (n+1) 0:=by
 unfold endsL endsC
 rw [show L.getD n []=L[n] from by simp [hn],List.take_of_length_le (Nat.le_refl _),List.range_succ,List.flatMap_append]
 simp [hn]
theorem endsL_mem {K:List (Int × Int)} {L:List (List Int)} {n k:Nat} {x:Int × Int} (h:x ∈ endsL K L n k):∃ i:Nat,i≤n∧∃ u ∈ L.getD i [],0 < pagK K u∧x=((i:Int),pagK K u - 1):=by
 have one:∀ (i:Int) (c:List Int),x ∈ endsC K i c→∃ u ∈ c,0 < pagK K u∧x=(i,pagK K u - 1):=by
  intro i c hx
  obtain ⟨u,hu,hx⟩:=List.mem_flatMap.1 hx
  unfold stepE at hx
  split at hx
  ·next hp=>exact ⟨u,hu,hp,List.mem_singleton.1 hx⟩
  ·cases hx
 rcases List.mem_append.1 h with h | h
 ·obtain ⟨i,hi,hx⟩:=List.mem_flatMap.1 h
  have:=List.mem_range.1 hi
  obtain ⟨u,hu,hp,e⟩:=one _ _ hx
  exact ⟨i,by omega,u,hu,hp,e⟩
 ·obtain ⟨u,hu,hp,e⟩:=one _ _ h
  exact ⟨n,Nat.le_refl _,u,List.mem_of_mem_take hu,hp,e⟩
theorem endsL_in {K:List (Int × Int)} {L:List (List Int)} {n i:Nat} (hi:i < n) {u:Int} (hu:u ∈ L.getD i []) (hp:0 < pagK K u):((i:Int),pagK K u - 1) ∈ endsL K L n 0:=by
 refine List.mem_append_left _ (List.mem_flatMap.2 ⟨i,List.mem_range.2 hi,List.mem_flatMap.2 ⟨u,hu,?_⟩⟩)
 unfold stepE
 rw [if_pos hp]
 exact List.mem_singleton.2 rfl
theorem pagK_most (K:List (Int × Int)) (u:Int):pagK K u≤4096:=by
 unfold pagK
 split <;> omega
theorem endsL_wf {K:List (Int × Int)} {L:List (List Int)} {n k:Nat} (hn:n≤255):∀ x ∈ endsL K L n k,wfP x:=by
 intro x hx
 obtain ⟨i,hi,u,_,hp,rfl⟩:=endsL_mem hx
 have:=pagK_most K u
 exact ⟨WalkArith.wf_i64 (by simp;omega),WalkArith.wf_i64 (by simp;omega)⟩
def Et (w:World) (b:Nat) (K:List (Int × Int)) (L:List (List Int)) (n k:Nat):Prop:=∃ m,w.ownsMap Tryz.prog 150 (unitElem (H:=Unit)) b m (setP (endsL K L n k))∧m≤255 * n+k
theorem Et.made (w:World) (K:List (Int × Int)) (L:List (List Int)):Et (w.alloc (.map #[] 0)) w.heap.size K L 0 0:=⟨0,by rw [endsL_zero];exact World.ownsMap_made _ _ _ _,Nat.le_refl _⟩
theorem Et.chain {w:World} {b:Nat} {K:List (Int × Int)} {L:List (List Int)} {n:Nat} (hn:n < L.length) (hl:L[n].length≤255) (h:Et w b K L n L[n].length):Et w b K L (n+1) 0:=by
 obtain ⟨m,h1,h2⟩:=h
 rw [endsL_chain hn] at h1
 exact ⟨m,h1,by omega⟩
theorem Et.skip {w:World} {b:Nat} {K:List (Int × Int)} {L:List (List Int)} {n k:Nat} (hn:n < L.length) (hk:k < L[n].length) (hp:¬ 0 < pagK K L[n][k]) (h:Et w b K L n k):Et w b K L n (k+1):=by
 obtain ⟨m,h1,h2⟩:=h
 refine ⟨m,?_,by omega⟩
 rw [endsL_succ hn hk]
 unfold stepE
 rw [if_neg hp,List.append_nil]
 exact h1
theorem Et.more {w:World} {b m:Nat} {K:List (Int × Int)} {L:List (List Int)} {n k:Nat} (hn:n < L.length) (hk:k < L[n].length) (hp:0 < pagK K L[n][k]) (hm:m≤255 * n+k) (h:w.ownsMap Tryz.prog 150 (unitElem (H:=Unit)) b (m+1) ((setP (endsL K L n k)).put (klP ((n:Int),pagK K L[n][k] - 1)) (.agg []))):Et w b K L n (k+1):=by
 refine ⟨m+1,?_,by omega⟩
 rw [endsL_succ hn hk]
 unfold stepE
 rw [if_pos hp,setP_snoc]
 exact h
end Go.Proofs.YtkefpbcifcjibaaGreat
