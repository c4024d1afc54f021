/- Joined texts. -/
import Derived.Test.YtkefpbcifcjibaaGreatG12a
import Derived.Test.YtkefpbcifcjibaaGreatG10a
import Derived.Test.YtkefpbcifcjibaaGreatG11a
import Derived.Maps.RangeWalk
import Derived.Test.YtkefpbcifcjibaaGreatH00
set_option linter.unusedVariables false
set_option maxRecDepth 20000
set_option maxHeartbeats 16000000
namespace Go.Proofs.YtkefpbcifcjibaaGreat
open Go.RowKit
def fnO (f:FuncId) (b:Nat):Value:=.func (.func f) #[.pointer (some ⟨b,0,none⟩)] #[]
theorem odeed_start (b:Nat) (w:World):Calls Tryz.prog 120 #[.pointer (some ⟨b,0,none⟩),.int .i64 8] w fun e w'=>e=.returned (fnO 135 b)∧Below w.heap.size w w':=by
 go_enter Tryz.func120,Tryz.ntmps120
 go_wp2
 go_ret
 exact ⟨rfl,Below.refl _ _⟩
theorem odeed_next (b:Nat) (w:World):Calls Tryz.prog 120 #[.pointer (some ⟨b,0,none⟩),.int .i64 6] w fun e w'=>e=.returned (fnO 136 b)∧Below w.heap.size w w':=by
 go_enter Tryz.func120,Tryz.ntmps120
 go_wp2
 go_ret
 exact ⟨rfl,Below.refl _ _⟩
theorem odeed_look (b:Nat) (w:World):Calls Tryz.prog 120 #[.pointer (some ⟨b,0,none⟩),.int .i64 7] w fun e w'=>e=.returned (fnO 137 b)∧Below w.heap.size w w':=by
 go_enter Tryz.func120,Tryz.ntmps120
 go_wp2
 go_ret
 exact ⟨rfl,Below.refl _ _⟩
theorem odeed_none (b:Nat) (k:Int) (w:World) (h8:k≠8) (h6:k≠6) (h7:k≠7):Calls Tryz.prog 120 #[.pointer (some ⟨b,0,none⟩),.int .i64 k] w fun e w'=>e=.returned (fnO 138 b)∧Below w.heap.size w w':=by
 have d8:(k == 8)=false:=beq_eq_false_iff_ne.2 h8
 have d6:(k == 6)=false:=beq_eq_false_iff_ne.2 h6
 have d7:(k == 7)=false:=beq_eq_false_iff_ne.2 h7
 clear h8 h6 h7
 go_enter Tryz.func120,Tryz.ntmps120
 go_wp2
 go_ret
 exact ⟨rfl,Below.refl _ _⟩
theorem odop_start (b:Nat) (G:Nat→Prop) (w:World) (o o':Od) (a:Ak) (c m:Int) (h:OM b G w o)
  (hd:∀ w,Calls Tryz.prog 120 #[.pointer (some ⟨b,0,none⟩),.int .i64 a.kind] w fun e w'=>e=.returned (fnO 135 b)∧Below w.heap.size w w')
  (hf:∀ (H:Nat→Prop) (w:World),OM b H w o→Calls Tryz.prog 135 #[ptrO b,askV a] w fun e w'=>e=.returned (anW c m noT 0)∧Leaves (OM b) H w w' o') :
  Calls Tryz.prog 93 #[ptrO b,askV a] w fun e w'=>e=.returned (anW c m noT o'.epoch)∧Leaves (OM b) G w w' o':=by
 obtain ⟨k,un,ep,pg,sz,n,s,pe,L,ao,cap⟩:=a
 obtain ⟨ue,ut,uk⟩:=o'
 simp only at *
 have HS:=Lh (z0e (z07 b) h #[.int .i64 k,.int .i64 un,.int .i64 ep,.int .i64 pg,.int .i64 sz,.int .i64 n,.string s,.int .i64 pe,.slice ao L.length cap])
 unfold zeroAn at HS
 have hbw:=h.small
 have HD:=Lh hd
 unfold fnO at HD
 have HF:=Lh (show ∀ (H:Nat→Prop) (w:World),OM b H w o→Calls Tryz.prog 135 #[.pointer (some ⟨b,0,none⟩),.agg #[.int .i64 k,.int .i64 un,.int .i64 ep,.int .i64 pg,.int .i64 sz,.int .i64 n,.string s,.int .i64 pe,.slice ao L.length cap]] w fun e w'=>e=.returned (.agg #[.int .i64 c,.int .i64 m,.string ⟨#[]⟩,.int .i64 0,.slice none 0 0,.int .i64 0,.int .i64 0,.int .i64 0])∧Leaves (OM b) H w w' ⟨ue,ut,uk⟩ from hf)
 clear h hd hf
 show Calls _ _ #[.pointer (some ⟨b,0,none⟩),.agg #[.int .i64 k,.int .i64 un,.int .i64 ep,.int .i64 pg,.int .i64 sz,.int .i64 n,.string s,.int .i64 pe,.slice ao L.length cap]] w _
 go_enter Tryz.func93,Tryz.ntmps93
 go_wp2_with (go_at_call 120;refine (HD.out _).mono ?_;rintro e w2 ⟨rfl,hb2⟩;have HT2:=Lh (HS.out.below (z07 b) hb2);clear hb2;obtain ⟨H2,hH2,hU2⟩:=HT2.out.use;have HU2:=Lh hU2;have HF2:=Lh (HF.out H2 _ hH2);clear hU2 hH2;have x:=HT2.out.ask;have x0:=z02 x 0;have x1:=z02 x 1;have x2:=z02 x 2;have x3:=z02 x 3;have x4:=z02 x 4;have x5:=z02 x 5;have x6:=z02 x 6;have x7:=z02 x 7;have x8:=z02 x 8;clear x)
 refine HF2.out.mono ?_
 rintro e w3 ⟨rfl,hl⟩
 have HT3:=Lh (HU2.out _ _ hl)
 clear hl
 obtain ⟨H,hH,_⟩:=HT3.out.use
 obtain ⟨t,_,hc⟩:=hH.cells
 obtain ⟨c0,c1,c2,_⟩:=z09 hc
 have hb:=hH.small
 clear hH hc
 obtain ⟨nl1,nl2⟩:=HT3.out.small
 obtain ⟨⟨ny0,ny1,ny2,ny3,ny4,ny5,ny6,ny7⟩,nfy0,nfy1,nfy2,nfy3,nfy4,nfy5,nfy6,nfy7⟩:=z03 HT3.out.ans
 go_wp2_with fail
 exact z0k (x:=anP c m noT ue) (ao:=none) (cap:=0) rfl (z01 ((Below.refl _ _).alloc (Nat.le_refl _) _) (HT3.out.fin (z07 b)).1) rfl rfl ⟨rfl,(HT3.out.fin (z07 b)).2.below (z07 b) ((Below.refl _ _).alloc (Nat.le_refl _) _)⟩
theorem odop_next (b:Nat) (G:Nat→Prop) (w:World) (o o':Od) (a:Ak) (c m:Int) (h:OM b G w o)
  (hd:∀ w,Calls Tryz.prog 120 #[.pointer (some ⟨b,0,none⟩),.int .i64 a.kind] w fun e w'=>e=.returned (fnO 136 b)∧Below w.heap.size w w')
  (hf:∀ (H:Nat→Prop) (w:World),OM b H w o→Calls Tryz.prog 136 #[ptrO b,askV a] w fun e w'=>e=.returned (anW c m noT 0)∧Leaves (OM b) H w w' o') :
  Calls Tryz.prog 93 #[ptrO b,askV a] w fun e w'=>e=.returned (anW c m noT o'.epoch)∧Leaves (OM b) G w w' o':=by
 obtain ⟨k,un,ep,pg,sz,n,s,pe,L,ao,cap⟩:=a
 obtain ⟨ue,ut,uk⟩:=o'
 simp only at *
 have HS:=Lh (z0e (z07 b) h #[.int .i64 k,.int .i64 un,.int .i64 ep,.int .i64 pg,.int .i64 sz,.int .i64 n,.string s,.int .i64 pe,.slice ao L.length cap])
 unfold zeroAn at HS
 have hbw:=h.small
 have HD:=Lh hd
 unfold fnO at HD
 have HF:=Lh (show ∀ (H:Nat→Prop) (w:World),OM b H w o→Calls Tryz.prog 136 #[.pointer (some ⟨b,0,none⟩),.agg #[.int .i64 k,.int .i64 un,.int .i64 ep,.int .i64 pg,.int .i64 sz,.int .i64 n,.string s,.int .i64 pe,.slice ao L.length cap]] w fun e w'=>e=.returned (.agg #[.int .i64 c,.int .i64 m,.string ⟨#[]⟩,.int .i64 0,.slice none 0 0,.int .i64 0,.int .i64 0,.int .i64 0])∧Leaves (OM b) H w w' ⟨ue,ut,uk⟩ from hf)
 clear h hd hf
 show Calls _ _ #[.pointer (some ⟨b,0,none⟩),.agg #[.int .i64 k,.int .i64 un,.int .i64 ep,.int .i64 pg,.int .i64 sz,.int .i64 n,.string s,.int .i64 pe,.slice ao L.length cap]] w _
 go_enter Tryz.func93,Tryz.ntmps93
 go_wp2_with (go_at_call 120;refine (HD.out _).mono ?_;rintro e w2 ⟨rfl,hb2⟩;have HT2:=Lh (HS.out.below (z07 b) hb2);clear hb2;obtain ⟨H2,hH2,hU2⟩:=HT2.out.use;have HU2:=Lh hU2;have HF2:=Lh (HF.out H2 _ hH2);clear hU2 hH2;have x:=HT2.out.ask;have x0:=z02 x 0;have x1:=z02 x 1;have x2:=z02 x 2;have x3:=z02 x 3;have x4:=z02 x 4;have x5:=z02 x 5;have x6:=z02 x 6;have x7:=z02 x 7;have x8:=z02 x 8;clear x)
 refine HF2.out.mono ?_
 rintro e w3 ⟨rfl,hl⟩
 have HT3:=Lh (HU2.out _ _ hl)
 clear hl
 obtain ⟨H,hH,_⟩:=HT3.out.use
 obtain ⟨t,_,hc⟩:=hH.cells
 obtain ⟨c0,c1,c2,_⟩:=z09 hc
 have hb:=hH.small
 clear hH hc
 obtain ⟨nl1,nl2⟩:=HT3.out.small
 obtain ⟨⟨ny0,ny1,ny2,ny3,ny4,ny5,ny6,ny7⟩,nfy0,nfy1,nfy2,nfy3,nfy4,nfy5,nfy6,nfy7⟩:=z03 HT3.out.ans
 go_wp2_with fail
 exact z0k (x:=anP c m noT ue) (ao:=none) (cap:=0) rfl (z01 ((Below.refl _ _).alloc (Nat.le_refl _) _) (HT3.out.fin (z07 b)).1) rfl rfl ⟨rfl,(HT3.out.fin (z07 b)).2.below (z07 b) ((Below.refl _ _).alloc (Nat.le_refl _) _)⟩
theorem odop_look (b:Nat) (G:Nat→Prop) (w:World) (o o':Od) (a:Ak) (c m:Int) (h:OM b G w o)
  (hd:∀ w,Calls Tryz.prog 120 #[.pointer (some ⟨b,0,none⟩),.int .i64 a.kind] w fun e w'=>e=.returned (fnO 137 b)∧Below w.heap.size w w')
  (hf:∀ (H:Nat→Prop) (w:World),OM b H w o→Calls Tryz.prog 137 #[ptrO b,askV a] w fun e w'=>e=.returned (anW c m noT 0)∧Leaves (OM b) H w w' o') :
  Calls Tryz.prog 93 #[ptrO b,askV a] w fun e w'=>e=.returned (anW c m noT o'.epoch)∧Leaves (OM b) G w w' o':=by
 obtain ⟨k,un,ep,pg,sz,n,s,pe,L,ao,cap⟩:=a
 obtain ⟨ue,ut,uk⟩:=o'
 simp only at *
 have HS:=Lh (z0e (z07 b) h #[.int .i64 k,.int .i64 un,.int .i64 ep,.int .i64 pg,.int .i64 sz,.int .i64 n,.string s,.int .i64 pe,.slice ao L.length cap])
 unfold zeroAn at HS
 have hbw:=h.small
 have HD:=Lh hd
 unfold fnO at HD
 have HF:=Lh (show ∀ (H:Nat→Prop) (w:World),OM b H w o→Calls Tryz.prog 137 #[.pointer (some ⟨b,0,none⟩),.agg #[.int .i64 k,.int .i64 un,.int .i64 ep,.int .i64 pg,.int .i64 sz,.int .i64 n,.string s,.int .i64 pe,.slice ao L.length cap]] w fun e w'=>e=.returned (.agg #[.int .i64 c,.int .i64 m,.string ⟨#[]⟩,.int .i64 0,.slice none 0 0,.int .i64 0,.int .i64 0,.int .i64 0])∧Leaves (OM b) H w w' ⟨ue,ut,uk⟩ from hf)
 clear h hd hf
 show Calls _ _ #[.pointer (some ⟨b,0,none⟩),.agg #[.int .i64 k,.int .i64 un,.int .i64 ep,.int .i64 pg,.int .i64 sz,.int .i64 n,.string s,.int .i64 pe,.slice ao L.length cap]] w _
 go_enter Tryz.func93,Tryz.ntmps93
 go_wp2_with (go_at_call 120;refine (HD.out _).mono ?_;rintro e w2 ⟨rfl,hb2⟩;have HT2:=Lh (HS.out.below (z07 b) hb2);clear hb2;obtain ⟨H2,hH2,hU2⟩:=HT2.out.use;have HU2:=Lh hU2;have HF2:=Lh (HF.out H2 _ hH2);clear hU2 hH2;have x:=HT2.out.ask;have x0:=z02 x 0;have x1:=z02 x 1;have x2:=z02 x 2;have x3:=z02 x 3;have x4:=z02 x 4;have x5:=z02 x 5;have x6:=z02 x 6;have x7:=z02 x 7;have x8:=z02 x 8;clear x)
 refine HF2.out.mono ?_
 rintro e w3 ⟨rfl,hl⟩
 have HT3:=Lh (HU2.out _ _ hl)
 clear hl
 obtain ⟨H,hH,_⟩:=HT3.out.use
 obtain ⟨t,_,hc⟩:=hH.cells
 obtain ⟨c0,c1,c2,_⟩:=z09 hc
 have hb:=hH.small
 clear hH hc
 obtain ⟨nl1,nl2⟩:=HT3.out.small
 obtain ⟨⟨ny0,ny1,ny2,ny3,ny4,ny5,ny6,ny7⟩,nfy0,nfy1,nfy2,nfy3,nfy4,nfy5,nfy6,nfy7⟩:=z03 HT3.out.ans
 go_wp2_with fail
 exact z0k (x:=anP c m noT ue) (ao:=none) (cap:=0) rfl (z01 ((Below.refl _ _).alloc (Nat.le_refl _) _) (HT3.out.fin (z07 b)).1) rfl rfl ⟨rfl,(HT3.out.fin (z07 b)).2.below (z07 b) ((Below.refl _ _).alloc (Nat.le_refl _) _)⟩
theorem odop_refuse (b:Nat) (G:Nat→Prop) (w:World) (o o':Od) (a:Ak) (c m:Int) (h:OM b G w o)
  (hd:∀ w,Calls Tryz.prog 120 #[.pointer (some ⟨b,0,none⟩),.int .i64 a.kind] w fun e w'=>e=.returned (fnO 138 b)∧Below w.heap.size w w')
  (hf:∀ (H:Nat→Prop) (w:World),OM b H w o→Calls Tryz.prog 138 #[ptrO b,askV a] w fun e w'=>e=.returned (anW c m noT 0)∧Leaves (OM b) H w w' o') :
  Calls Tryz.prog 93 #[ptrO b,askV a] w fun e w'=>e=.returned (anW c m noT o'.epoch)∧Leaves (OM b) G w w' o':=by
 obtain ⟨k,un,ep,pg,sz,n,s,pe,L,ao,cap⟩:=a
 obtain ⟨ue,ut,uk⟩:=o'
 simp only at *
 have HS:=Lh (z0e (z07 b) h #[.int .i64 k,.int .i64 un,.int .i64 ep,.int .i64 pg,.int .i64 sz,.int .i64 n,.string s,.int .i64 pe,.slice ao L.length cap])
 unfold zeroAn at HS
 have hbw:=h.small
 have HD:=Lh hd
 unfold fnO at HD
 have HF:=Lh (show ∀ (H:Nat→Prop) (w:World),OM b H w o→Calls Tryz.prog 138 #[.pointer (some ⟨b,0,none⟩),.agg #[.int .i64 k,.int .i64 un,.int .i64 ep,.int .i64 pg,.int .i64 sz,.int .i64 n,.string s,.int .i64 pe,.slice ao L.length cap]] w fun e w'=>e=.returned (.agg #[.int .i64 c,.int .i64 m,.string ⟨#[]⟩,.int .i64 0,.slice none 0 0,.int .i64 0,.int .i64 0,.int .i64 0])∧Leaves (OM b) H w w' ⟨ue,ut,uk⟩ from hf)
 clear h hd hf
 show Calls _ _ #[.pointer (some ⟨b,0,none⟩),.agg #[.int .i64 k,.int .i64 un,.int .i64 ep,.int .i64 pg,.int .i64 sz,.int .i64 n,.string s,.int .i64 pe,.slice ao L.length cap]] w _
 go_enter Tryz.func93,Tryz.ntmps93
 go_wp2_with (go_at_call 120;refine (HD.out _).mono ?_;rintro e w2 ⟨rfl,hb2⟩;have HT2:=Lh (HS.out.below (z07 b) hb2);clear hb2;obtain ⟨H2,hH2,hU2⟩:=HT2.out.use;have HU2:=Lh hU2;have HF2:=Lh (HF.out H2 _ hH2);clear hU2 hH2;have x:=HT2.out.ask;have x0:=z02 x 0;have x1:=z02 x 1;have x2:=z02 x 2;have x3:=z02 x 3;have x4:=z02 x 4;have x5:=z02 x 5;have x6:=z02 x 6;have x7:=z02 x 7;have x8:=z02 x 8;clear x)
 refine HF2.out.mono ?_
 rintro e w3 ⟨rfl,hl⟩
 have HT3:=Lh (HU2.out _ _ hl)
 clear hl
 obtain ⟨H,hH,_⟩:=HT3.out.use
 obtain ⟨t,_,hc⟩:=hH.cells
 obtain ⟨c0,c1,c2,_⟩:=z09 hc
 have hb:=hH.small
 clear hH hc
 obtain ⟨nl1,nl2⟩:=HT3.out.small
 obtain ⟨⟨ny0,ny1,ny2,ny3,ny4,ny5,ny6,ny7⟩,nfy0,nfy1,nfy2,nfy3,nfy4,nfy5,nfy6,nfy7⟩:=z03 HT3.out.ans
 go_wp2_with fail
 exact z0k (x:=anP c m noT ue) (ao:=none) (cap:=0) rfl (z01 ((Below.refl _ _).alloc (Nat.le_refl _) _) (HT3.out.fin (z07 b)).1) rfl rfl ⟨rfl,(HT3.out.fin (z07 b)).2.below (z07 b) ((Below.refl _ _).alloc (Nat.le_refl _) _)⟩
theorem on_ask (b:Nat) (G:Nat→Prop) (w:World) (o:Od) (a:Ak) (h:OM b G w o) (ha:AkIn w a) :
  Calls Tryz.prog 93 #[ptrO b,askV a] w fun e w'=>e=.returned (anW (o.ans a).code (o.ans a).n (o.ans a).data (o.ans a).epoch)∧Leaves (OM b) G w w' (o.done a):=by
 by_cases h8:a.kind=8
 ·have hD:∀ w,Calls Tryz.prog 120 #[.pointer (some ⟨b,0,none⟩),.int .i64 a.kind] w fun e w'=>e=.returned (fnO 135 b)∧Below w.heap.size w w':=by rw [h8];exact odeed_start b
  by_cases he:a.epoch≤o.epoch
  ·rw [show o.ans a=anP 40 0 noT o.epoch from by unfold Od.ans;rw [if_pos h8,if_pos he],show o.done a=o from by unfold Od.done;rw [if_neg (fun h=>by have:=h.2.1;omega),if_neg (fun h=>by have:=h.1;omega)]]
   exact odop_start b G w o o a 40 0 h hD (fun H w h=>on_start_old b H w o a h he)
  by_cases h1:a.page < 0
  ·rw [show o.ans a=anP 1 0 noT o.epoch from by unfold Od.ans;rw [if_pos h8,if_neg he,if_pos (.inl h1)],show o.done a=o from by unfold Od.done;rw [if_neg (fun h=>by have:=h.2.2.1;omega),if_neg (fun h=>by have:=h.1;omega)]]
   exact odop_start b G w o o a 1 0 h hD (fun H w h=>on_start_low b H w o a h he h1)
  by_cases h2:16384 < a.page
  ·rw [show o.ans a=anP 1 0 noT o.epoch from by unfold Od.ans;rw [if_pos h8,if_neg he,if_pos (.inr h2)],show o.done a=o from by unfold Od.done;rw [if_neg (fun h=>by have:=h.2.2.2;omega),if_neg (fun h=>by have:=h.1;omega)]]
   exact odop_start b G w o o a 1 0 h hD (fun H w h=>on_start_high b H w o a h he h2)
  ·rw [show o.ans a=anP 0 0 noT a.epoch from by unfold Od.ans;rw [if_pos h8,if_neg he,if_neg (by omega)],show o.done a=⟨a.epoch,a.page,true⟩ from by unfold Od.done;rw [if_pos ⟨h8,by omega,by omega,by omega⟩]]
   exact odop_start b G w o ⟨a.epoch,a.page,true⟩ a 0 0 h hD (fun H w h=>on_start b H w o a h he ⟨by omega,by omega⟩ ha.1.epoch)
 by_cases h6:a.kind=6
 ·have hD:∀ w,Calls Tryz.prog 120 #[.pointer (some ⟨b,0,none⟩),.int .i64 a.kind] w fun e w'=>e=.returned (fnO 136 b)∧Below w.heap.size w w':=by rw [h6];exact odeed_next b
  by_cases he:a.epoch=o.epoch
  ·cases hn:o.knows
   ·rw [show o.ans a=anP 47 0 noT o.epoch from by unfold Od.ans;rw [if_neg h8,if_pos (.inl h6),if_neg (fun h=>h he),if_pos hn],show o.done a=o from by unfold Od.done;rw [if_neg (fun h=>h8 h.1),if_neg (fun h=>by have:=h.2.2.1;rw [hn] at this;cases this)]]
    exact odop_next b G w o o a 47 0 h hD (fun H w h=>on_next_dumb b H w o a h he hn)
   by_cases ht:o.tail=16384
   ·rw [show o.ans a=anP 44 0 noT o.epoch from by unfold Od.ans;rw [if_neg h8,if_pos (.inl h6),if_neg (fun h=>h he),if_neg (by rw [hn];decide),if_neg (by omega),if_pos ht],show o.done a=o from by unfold Od.done;rw [if_neg (fun h=>h8 h.1),if_neg (fun h=>h.2.2.2 ht)]]
    exact odop_next b G w o o a 44 0 h hD (fun H w h=>on_next_full b H w o a h he hn ht)
   ·rw [show o.ans a=anP 0 o.tail noT o.epoch from by unfold Od.ans;rw [if_neg h8,if_pos (.inl h6),if_neg (fun h=>h he),if_neg (by rw [hn];decide),if_neg (by omega),if_neg ht],show o.done a=⟨o.epoch,o.tail+1,o.knows⟩ from by unfold Od.done;rw [if_neg (fun h=>h8 h.1),if_pos ⟨h6,he,hn,ht⟩]]
    exact odop_next b G w o ⟨o.epoch,o.tail+1,o.knows⟩ a 0 o.tail h hD (fun H w h=>on_next b H w o a h he hn ht)
  ·rw [show o.ans a=anP 40 0 noT o.epoch from by unfold Od.ans;rw [if_neg h8,if_pos (.inl h6),if_pos he],show o.done a=o from by unfold Od.done;rw [if_neg (fun h=>h8 h.1),if_neg (fun h=>he h.2.1)]]
   exact odop_next b G w o o a 40 0 h hD (fun H w h=>on_next_other b H w o a h he)
 have hdone:o.done a=o:=by unfold Od.done;rw [if_neg (fun h=>h8 h.1),if_neg (fun h=>h6 h.1)]
 rw [hdone]
 by_cases h7:a.kind=7
 ·have hD:∀ w,Calls Tryz.prog 120 #[.pointer (some ⟨b,0,none⟩),.int .i64 a.kind] w fun e w'=>e=.returned (fnO 137 b)∧Below w.heap.size w w':=by rw [h7];exact odeed_look b
  by_cases he:a.epoch=o.epoch
  ·cases hn:o.knows
   ·rw [show o.ans a=anP 47 0 noT o.epoch from by unfold Od.ans;rw [if_neg h8,if_pos (.inr h7),if_neg (fun h=>h he),if_pos hn]]
    exact odop_look b G w o o a 47 0 h hD (fun H w h=>on_look_dumb b H w o a h he hn)
   ·rw [show o.ans a=anP 0 o.tail noT o.epoch from by unfold Od.ans;rw [if_neg h8,if_pos (.inr h7),if_neg (fun h=>h he),if_neg (by rw [hn];decide),if_pos h7]]
    exact odop_look b G w o o a 0 o.tail h hD (fun H w h=>on_look b H w o a h he hn)
  ·rw [show o.ans a=anP 40 0 noT o.epoch from by unfold Od.ans;rw [if_neg h8,if_pos (.inr h7),if_pos he]]
   exact odop_look b G w o o a 40 0 h hD (fun H w h=>on_look_other b H w o a h he)
 ·rw [show o.ans a=anP 1 0 noT o.epoch from by unfold Od.ans;rw [if_neg h8,if_neg (fun h=>h.elim h6 h7)]]
  exact odop_refuse b G w o o a 1 0 h (fun w=>odeed_none b a.kind w h8 h6 h7) (fun H w h=>on_refuse b H w o a h)
theorem orderSays:OrderSays OM where
 thing:=z07
 ok:=fun h=>h.1
 new:=on_new
 ask:=on_ask
theorem on_nil_ask (w:World) (a:Ak):Calls Tryz.prog 93 #[.pointer none,askV a] w fun e w'=>e=.returned (ansV (anP 1 0 noT 0) none 0)∧Below w.heap.size w w':=by
 obtain ⟨k,un,ep,pg,sz,n,s,pe,L,ao,cap⟩:=a
 have HW:=Lh (z0z w #[.int .i64 k,.int .i64 un,.int .i64 ep,.int .i64 pg,.int .i64 sz,.int .i64 n,.string s,.int .i64 pe,.slice ao L.length cap] #[.int .i64 0,.int .i64 0,.string ⟨#[]⟩,.int .i64 0,.slice none 0 0,.int .i64 0,.int .i64 0,.int .i64 0] 34 49)
 have HB:=Lh (show Below w.heap.size w ((w.alloc (.cells #[.int .i64 k,.int .i64 un,.int .i64 ep,.int .i64 pg,.int .i64 sz,.int .i64 n,.string s,.int .i64 pe,.slice ao L.length cap] 34)).alloc (.cells #[.int .i64 0,.int .i64 0,.string ⟨#[]⟩,.int .i64 0,.slice none 0 0,.int .i64 0,.int .i64 0,.int .i64 0] 49)) from (z00 _ _).alloc (by simp) _)
 show Calls _ _ #[.pointer none,.agg #[.int .i64 k,.int .i64 un,.int .i64 ep,.int .i64 pg,.int .i64 sz,.int .i64 n,.string s,.int .i64 pe,.slice ao L.length cap]] w _
 go_enter Tryz.func93,Tryz.ntmps93
 go_wp2_with (go_at_call 119;refine (z18 _ _).mono ?_;rintro e w2 ⟨rfl,hb2⟩;have HX:=Lh (z01 hb2 HW.out.2);obtain ⟨⟨x0,x1,x2,x3,x4,x5,x6,x7⟩,f0,f1,f2,f3,f4,f5,f6,f7⟩:=z03 HX.out;have hx:=lt_of_block HX.out;have HB2:=Lh (HB.out.trans (hb2.mono HB.out.size));clear hb2)
 exact z0k (x:=anP 1 0 noT 0) (ao:=none) (cap:=0) rfl (z22 (z19 (z1a (z0x (z1t (z1u (z23 (z24 HX.out _) _) _) _) _) _) _) _) rfl rfl ⟨rfl,((((((((HB2.out.setCell (by simp) _).setCell (by simp) _).setCell (by simp) _).setCell (by simp) _).setCell (by simp) _).setCell (by simp) _).setCell (by simp) _).setCell (by simp) _)⟩
theorem z29 {w:World} {b:Nat} {v0 v1 v2 v3 v4 v5:Value} {t:TypeId} (h:w.heap[b]?=some (.cells #[v0,v1,v2,v3,v4,v5] t (0,0))) :
  (w.cell? ⟨b,0,none⟩=some v0∧w.cell? ⟨b,1,none⟩=some v1∧w.cell? ⟨b,2,none⟩=some v2∧w.cell? ⟨b,3,none⟩=some v3∧w.cell? ⟨b,4,none⟩=some v4∧w.cell? ⟨b,5,none⟩=some v5)∧
  w.frozen? ⟨b,0,none⟩=false∧w.frozen? ⟨b,1,none⟩=false∧w.frozen? ⟨b,2,none⟩=false∧w.frozen? ⟨b,3,none⟩=false∧w.frozen? ⟨b,4,none⟩=false∧w.frozen? ⟨b,5,none⟩=false :=
 ⟨⟨z02 h 0,z02 h 1,z02 h 2,z02 h 3,z02 h 4,z02 h 5⟩,z0a h 0,z0a h 1,z0a h 2,z0a h 3,z0a h 4,z0a h 5⟩
theorem good_small {ep:Int} {L:List (List Int)} (h:goodB ep L=true):L.length≤255∧∀ c ∈ L,c.length≤255:=by
 obtain ⟨_,h2,h3,_⟩:=goodB_iff.1 h
 exact ⟨by omega,fun c hc=>by have:=(chainB_iff.1 (h3 c hc)).1;omega⟩
structure GtU (E:Int) (u:Us):Prop where
 up:u.down=false
 ep:u.epoch≤E
 room:50≤u.p.room
 ok:u.p.Ok
 low:∀ x ∈ u.p.l,x.at_ < 14
theorem GtU.len {E:Int} {u:Us} (h:GtU E u):u.p.l.length≤14:=by
 have h1:=nodup_short 14 (u.p.l.map (·.at_)) h.ok.once (fun x hx=>by
  obtain ⟨y,hy,rfl⟩:=List.mem_map.1 hx
  have h2:=(h.ok.each y hy).1.1
  have h3:=h.low y hy
  have h4:=h.ok.edge
  exact ⟨by omega,h3⟩)
 rwa [List.length_map] at h1
section
variable {E:Int} {u:Us} {k:Ak}
structure AskG (E:Int) (k:Ak):Prop where
 kind:k.kind=1∨k.kind=2∨k.kind=3
 ep:k.epoch=E
 page:0≤k.page∧k.page < 14
 data:k.data.size≤4096
theorem GtU.ans_eq (h:GtU E u) (hk:AskG E k):u.ans k=anP (u.pageE k) 0 (if k.kind=3 then u.p.readS k.page else noS) u.epoch:=by
 have h1:=hk.kind
 unfold Us.ans
 rw [if_neg (by rw [h.up];decide),if_neg (by omega),if_neg (by have:=h.ep;rw [hk.ep];omega),if_neg (by omega)]
theorem GtU.done_eq (h:GtU E u) (hk:AskG E k):u.done k=⟨u.pageP k,u.epoch,u.down⟩:=by
 have h1:=hk.kind
 unfold Us.done
 rw [if_neg (fun e=>e.elim (fun e=>by rw [h.up] at e;exact absurd e (by decide)) (fun e=>by have:=h.ep;have:=hk.ep;omega)),if_neg (by omega)]
theorem GtU.still (h:GtU E u) (hk:AskG E k) (e:u.pageP k=u.p):u.done k=u:=by rw [h.done_eq hk,e]
structure LeafG (E:Int) (u u':Us) (q:Int):Prop where
 ft:GtU E u'
 epoch:u'.epoch=u.epoch
 edge:u'.p.edge=u.p.edge
 off:∀ q',q'≠q→u'.p.kind q'=u.p.kind q'∧u'.p.text q'=u.p.text q'
theorem GtU.add (h:GtU E u) {x:Pg} (hq:0≤x.at_∧x.at_ < 14) (hk:u.p.kind x.at_=0) (hx:(x.kind=1∨x.kind=2)∧x.s.size≤4096) :
  LeafG E u ⟨u.p.add x,u.epoch,u.down⟩ x.at_∧(u.p.add x).kind x.at_=x.kind∧(u.p.add x).text x.at_=x.s:=by
 have hl:=h.len
 have hr:=h.room
 refine ⟨⟨⟨h.up,h.ep,h.room,h.ok.add (there14 hq) hk (by omega) hx,fun y hy=>?_⟩,rfl,rfl,fun q' hq'=>add_off u.p x (fun e=>hq' e.symm)⟩,add_on h.ok (there14 hq) hk⟩
 rcases List.mem_append.1 (show y ∈ u.p.l ++ [x] from hy) with h1 | h1
 ·exact h.low y h1
 ·rw [List.mem_singleton.1 h1];exact hq.2
theorem GtU.write_new (h:GtU E u) (hk:AskG E k) (h1:k.kind=1) (h0:u.p.kind k.page=0):(u.ans k).code=0∧LeafG E u (u.done k) k.page∧(u.done k).p.kind k.page=1∧(u.done k).p.text k.page=k.data:=by
 have hl:=h.len
 have hr:=h.room
 have hd:=hk.data
 have e1:u.p.writeE k.page k.data=0:=by
  unfold Ps.writeE
  rw [if_neg (by rw [there14 hk.page];decide),if_neg (by omega),h0,if_neg (by decide),if_neg (by decide),if_neg (by omega)]
 have e2:u.done k=⟨u.p.add ⟨k.page,1,k.data⟩,u.epoch,u.down⟩:=by
  rw [h.done_eq hk]
  unfold Us.pageP
  rw [if_pos h1]
  unfold Ps.write
  rw [e1,if_pos rfl]
 refine ⟨?_,?_⟩
 ·rw [h.ans_eq hk]
  show u.pageE k=0
  unfold Us.pageE
  rw [if_pos h1,e1]
 ·rw [e2]
  exact h.add (x:=⟨k.page,1,k.data⟩) hk.page h0 ⟨.inl rfl,hd⟩
theorem GtU.write_old (h:GtU E u) (hk:AskG E k) (h1:k.kind=1) (h0:u.p.kind k.page≠0):(u.ans k).code=(if u.p.kind k.page=3 then 43 else 41)∧u.done k=u:=by
 have hd:=hk.data
 have e1:u.p.writeE k.page k.data=(if u.p.kind k.page=3 then 43 else 41):=by
  unfold Ps.writeE
  rw [if_neg (by rw [there14 hk.page];decide),if_neg (by omega),if_pos h0]
 refine ⟨?_,h.still hk ?_⟩
 ·rw [h.ans_eq hk]
  show u.pageE k=_
  unfold Us.pageE
  rw [if_pos h1,e1]
 ·unfold Us.pageP
  rw [if_pos h1]
  unfold Ps.write
  rw [e1,if_neg (by split <;> decide)]
theorem GtU.fill_new (h:GtU E u) (hk:AskG E k) (h1:k.kind=2) (h0:u.p.kind k.page=0):(u.ans k).code=0∧LeafG E u (u.done k) k.page∧(u.done k).p.kind k.page=2:=by
 have hl:=h.len
 have hr:=h.room
 have e1:u.p.fillE k.page=0:=by
  unfold Ps.fillE
  rw [if_neg (by rw [there14 hk.page];decide),h0,if_neg (by decide),if_neg (by decide),if_neg (by decide),if_neg (by omega)]
 have e2:u.done k=⟨u.p.add ⟨k.page,2,⟨#[]⟩⟩,u.epoch,u.down⟩:=by
  rw [h.done_eq hk]
  unfold Us.pageP
  rw [if_neg (by omega),if_pos h1]
  unfold Ps.fill
  rw [if_pos ⟨e1,by rw [h0];decide⟩]
 refine ⟨?_,?_⟩
 ·rw [h.ans_eq hk]
  show u.pageE k=0
  unfold Us.pageE
  rw [if_neg (by omega),if_pos h1,e1]
 ·rw [e2]
  obtain ⟨r1,r2,_⟩:=h.add (x:=⟨k.page,2,⟨#[]⟩⟩) hk.page h0 ⟨.inr rfl,Nat.zero_le _⟩
  exact ⟨r1,r2⟩
theorem GtU.fill_old (h:GtU E u) (hk:AskG E k) (h1:k.kind=2) (h0:u.p.kind k.page≠0):(u.ans k).code=(if u.p.kind k.page=3 then 43 else if u.p.kind k.page=2 then 0 else 41)∧u.done k=u:=by
 have hks:=h.ok.kinds k.page
 have e1:u.p.fillE k.page=(if u.p.kind k.page=3 then 43 else if u.p.kind k.page=2 then 0 else 41):=by
  unfold Ps.fillE
  rw [if_neg (by rw [there14 hk.page];decide)]
  rcases hks with e | e | e | e
  ·exact absurd e h0
  all_goals rw [e];rfl
 refine ⟨?_,h.still hk ?_⟩
 ·rw [h.ans_eq hk]
  show u.pageE k=_
  unfold Us.pageE
  rw [if_neg (by omega),if_pos h1,e1]
 ·unfold Us.pageP
  rw [if_neg (by omega),if_pos h1]
  unfold Ps.fill
  rw [e1]
  refine if_neg (fun e=>?_)
  obtain ⟨e2,e3⟩:=e
  rw [if_neg e3] at e2
  split at e2 <;> omega
theorem GtU.read (h:GtU E u) (hk:AskG E k) (h1:k.kind=3):(u.ans k).code=(if u.p.kind k.page=3 then 43 else if u.p.kind k.page=0 then 42 else if u.p.kind k.page=2 then 46 else 0)∧(u.p.kind k.page=1→(u.ans k).data=u.p.text k.page)∧u.done k=u:=by
 have e1:u.p.readE k.page=(if u.p.kind k.page=3 then 43 else if u.p.kind k.page=0 then 42 else if u.p.kind k.page=2 then 46 else 0):=by
  unfold Ps.readE
  rw [if_neg (by rw [there14 hk.page];decide)]
 rw [h.ans_eq hk]
 refine ⟨?_,fun e=>?_,h.still hk ?_⟩
 ·show u.pageE k=_
  unfold Us.pageE
  rw [if_neg (by omega),if_neg (by omega),if_pos h1,e1]
 ·show (if k.kind=3 then u.p.readS k.page else noS)=_
  rw [if_pos h1]
  unfold Ps.readS
  rw [e1,e]
  rfl
 ·unfold Us.pageP
  rw [if_neg (by omega),if_neg (by omega),if_pos h1]
end
def Tells {α:Type} (T:(Nat→Prop)→World→α→Prop) (G:Nat→Prop) (w:World) (a':α) (x:An) (e:Ending) (w':World):Prop :=
 ∃ (ao:Option Addr) (cap:Nat) (F:Nat→Prop),e=.returned (ansV x ao cap)∧CG F w' (.slice ao x.L.length cap) x.L∧(∀ k,F k→w.heap.size≤k∧k < w'.heap.size)∧
  ∃ G':Nat→Prop,T G' w' a'∧(∀ k,F k→¬ G' k)∧Kept (fun k=>¬ G k) w w'∧∀ k,G' k→G k∨w.heap.size≤k
theorem CG.no (F:Nat→Prop) (w:World):CG F w (.slice Option.none 0 0) []:=⟨Option.none,0,rfl,fun _=>rfl,Nat.le_refl _,fun a e=>(by cases e),fun i h=>absurd h (Nat.not_lt_zero i)⟩
section
variable {α β:Type} {T:(Nat→Prop)→World→α→Prop} {U:(Nat→Prop)→World→β→Prop} {X G:Nat→Prop} {w w':World} {a a':α} {b b':β} {x:An}
theorem Tells.plain (h:Leaves T G w w' a') (hL:x.L=[]):Tells T G w a' x (.returned (ansV x Option.none 0)) w':=by
 obtain ⟨G',h1,h2,h3⟩:=h
 exact ⟨Option.none,0,fun _=>False,rfl,by rw [hL];exact CG.no _ _,fun k hk=>hk.elim,G',h1,fun k hk=>hk.elim,h2,h3⟩
theorem Side.wider (hT:Thing T) (hU:Thing U) (h:Side T U X w a b) (hb:Below w.heap.size w w'):Side T U (fun k=>X k∨(w.heap.size≤k∧k < w'.heap.size)) w' a b:=by
 obtain ⟨h1,F,G,h2,h3,h4,h5⟩:=h
 refine ⟨fun k hk=>?_,F,G,hT.keep h2 (Kept.ofBelow hb (fun _=>True)) (fun _ _=>trivial),hU.keep h3 (Kept.ofBelow hb (fun _=>True)) (fun _ _=>trivial),fun k hk=>?_,h5⟩
 ·rcases hk with hk | hk
  ·exact Nat.lt_of_lt_of_le (h1 k hk) hb.size
  ·exact hk.2
 ·rcases hk with hk | hk
  ·exact h4 k hk
  ·exact ⟨fun hf=>by have:=hT.lt h2 k hf;omega,fun hg=>by have:=hU.lt h3 k hg;omega⟩
theorem Solo.wider (hT:Thing T) (h:Solo T X w a) (hb:Below w.heap.size w w'):Solo T (fun k=>X k∨(w.heap.size≤k∧k < w'.heap.size)) w' a:=by
 obtain ⟨h1,F,h2,h3⟩:=h
 refine ⟨fun k hk=>?_,F,hT.keep h2 (Kept.ofBelow hb (fun _=>True)) (fun _ _=>trivial),fun k hk hf=>?_⟩
 ·rcases hk with hk | hk
  ·exact Nat.lt_of_lt_of_le (h1 k hk) hb.size
  ·exact hk.2
 ·rcases hk with hk | hk
  ·exact h3 k hk hf
  ·have:=hT.lt h2 k hf;omega
theorem CG.here {F:Nat→Prop} {w:World} {ao:Option Addr} {n cap:Nat} {L:List (List Int)} (h:CG F w (.slice ao n cap) L):CL w ao L∧(ao=Option.none→cap=0)∧L.length≤cap:=by
 obtain ⟨bo,cb,e,h1,h2,h3⟩:=h.cl
 obtain ⟨rfl,_,rfl⟩:=Value.slice.inj e
 exact ⟨h1,h2,h3⟩
variable {P:Program} {fn:FuncId} {args:Array Value}
end
def ofV (ep:Int) (L:List (List Int)) (a:Int):Value:=.tuple #[.agg #[.int .i64 (ofC ep L a),.int .i64 (ofP ep L a)],.bool (ofB ep L a)]
def addrV (ep:Int) (L:List (List Int)) (c p:Int):Value:=.tuple #[.int .i64 (max (addrR ep L c p) 0),.bool (decide (0≤addrR ep L c p))]
def numA (l:List Int):Array Value:=(l.map (fun v=>Value.int .i64 v)).toArray
theorem lit_nums {W:World} {b:Nat} {t:TypeId} {l:List Int} (h:W.heap[b]?=some (.cells (numA l) t (0,0))) (hw:∀ v ∈ l,i64w v):NLI W (some ⟨b,0,none⟩) l.length l:=by
 refine ⟨fun j hj=>⟨⟨b,0,rfl,?_⟩,hw _ (List.getElem_mem hj)⟩,fun e=>(by cases e),Nat.le_refl _⟩
 rw [Nat.zero_add,z02 h j]
 simp [numA,hj]
end Go.Proofs.YtkefpbcifcjibaaGreat
namespace Go.Proofs.YtkefpbcifcjibaaGreat
open Go.RowKit Go.Maps
theorem unit_key_row:(155:TypeId) < Tryz.prog.types.size:=of_decide_eq_true (by kernel_rfl)
theorem unit_law:Keyed Tryz.prog 155:=Keyed.of_law (deep_law_laid z1q (m:=2) (by omega) unit_key_row (by kernel_rfl) (by rw [Tryz.underlying155]))
def klU (u:Int):Lit:=.string (keyBytes [.int .i64 u])
theorem types_succ:∃ n,Tryz.prog.types.size=n+1:=⟨Tryz.prog.types.size - 1,by have h:=Nat.lt_of_le_of_lt (Nat.zero_le _) unit_key_row;exact (Nat.succ_pred_eq_of_pos h).symm⟩
theorem unit_key (u:Int) (hu:(Lit.int .i64 u).wf=true):keyOf Tryz.prog 155 (.agg #[.int .i64 u])=some (klU u):=by
 obtain ⟨n,hn⟩:=types_succ
 exact key_one Tryz.underlying155 (by kernel_rfl) (by rfl) rfl (by kernel_rfl) Tryz.underlying3 (by kernel_rfl) hn hu
theorem unit_inj (u v:Int) (h:(Value.agg #[Value.int .i64 u])=.agg #[.int .i64 v]):u=v:=by simpa using h
theorem klU_inj {u v:Int} (hu:(Lit.int .i64 u).wf=true) (hv:(Lit.int .i64 v).wf=true) (h:klU u=klU v):u=v :=
 unit_inj u v (unit_law.inj (unit_key u hu) (h ▸ unit_key v hv))
theorem klU_key {u:Int} (hu:(Lit.int .i64 u).wf=true):WideAt.IsKeyLit (klU u):=unit_law.key (unit_key u hu)
def spotD (i j:Int):DataW Unit:=.agg [.lit (.int .i64 i),.lit (.int .i64 j)]
def spotR:Value→Option (DataW Unit × List MemPlace)
 | .agg a=>match a.toList with
  | [.int .i64 i,.int .i64 j]=>some (spotD i j,[])
  | _=>none
 | _=>none
theorem spotR_mk (i j:Int):spotR (.agg #[.int .i64 i,.int .i64 j])=some (spotD i j,[]):=rfl
theorem spotR_inv {v:Value} {z:DataW Unit × List MemPlace} (h:spotR v=some z):∃ i j,v=.agg #[.int .i64 i,.int .i64 j]∧z=(spotD i j,[]):=by
 unfold spotR at h
 split at h
 ·next a =>
  split at h
  ·next i j e =>
   cases h
   refine ⟨i,j,?_,rfl⟩
   rw [← Array.toArray_toList (xs:=a),e]
  ·cases h
 ·cases h
theorem spotD_inj {i j k l:Int} (h:spotD i j=spotD k l):i=k∧j=l:=by
 unfold spotD at h
 simpa using h
theorem zero_spot (w:World):(zeroValue 192).run Tryz.prog w=.ok (.agg #[.int .i64 0,.int .i64 0]) w:=by kernel_rfl
structure Ms (L:List (List Int)) (D:DataW Unit) (S:List Int):Prop where
 tidy:Tidy D
 hs:∀ u,(Lit.int .i64 u).wf=true→Maps.has D (klU u)=decide (u ∈ S)
 size:Maps.size D=(insAll [] S).length
 spot:∀ u ∈ S,∃ (i j:Nat) (hi:i < L.length) (hj:j < L[i].length),L[i][j]=u∧∀ zd,D.atKey (klU u) zd=spotD i j
theorem Ms.nil (L:List (List Int)):Ms L (.map []) []:=⟨tidy_empty,fun _ _=>rfl,rfl,fun u hu=>by cases hu⟩
theorem Ms.put {L:List (List Int)} {D:DataW Unit} {S:List Int} (h:Ms L D S) (hS:∀ u ∈ S,(Lit.int .i64 u).wf=true) {i j:Nat} (hi:i < L.length) (hj:j < L[i].length) (hu:(Lit.int .i64 L[i][j]).wf=true) :
  Ms L (D.put (klU L[i][j]) (spotD i j)) (S ++ [L[i][j]]):=by
 have hk:=klU_key hu
 refine ⟨h.tidy.put hk _,fun v hv=>?_,?_,fun v hv=>?_⟩
 ·by_cases e:v=L[i][j]
  ·subst e
   rw [has_put_same h.tidy.isMap hk]
   exact (decide_eq_true (by simp)).symm
  ·rw [has_put_other (fun e2=>e (klU_inj hv hu e2)),h.hs v hv]
   simp [e]
 ·rw [size_put h.tidy,h.hs _ hu,h.size,insAll_snoc,insU_length _ _ (insAll_rises _ _ List.Pairwise.nil)]
  by_cases e:L[i][j] ∈ S
  ·simp [e,insAll_mem]
  ·simp [e,insAll_mem]
 ·by_cases e:v=L[i][j]
  ·subst e
   exact ⟨i,j,hi,hj,rfl,fun zd=>atKey_put_same h.tidy.isMap hk _ _⟩
  ·have hv':v ∈ S:=by
    rcases List.mem_append.1 hv with h1 | h1
    ·exact h1
    ·exact absurd (List.mem_singleton.1 h1) e
   obtain ⟨a,b,ha,hb,e1,e2⟩:=h.spot v hv'
   exact ⟨a,b,ha,hb,e1,fun zd=>by rw [atKey_put_other (fun e3=>e (klU_inj (hS v hv') hu e3))];exact e2 zd⟩
def Mt (w:World) (b:Nat) (L:List (List Int)) (S:List Int):Prop:=∃ D,w.ownsMap Tryz.prog 155 spotR b S.length D∧Ms L D S
theorem Mt.made (w:World) (L:List (List Int)):Mt (w.alloc (.map #[] 0)) w.heap.size L []:=⟨_,World.ownsMap_made _ _ _ _,Ms.nil L⟩
theorem Mt.below {w w':World} {b:Nat} {L:List (List Int)} {S:List Int} (h:Mt w b L S) (hb:Below w.heap.size w w'):Mt w' b L S:=by
 obtain ⟨D,⟨es,clock,h1,h2⟩,h3⟩:=h
 exact ⟨D,⟨es,clock,z01 hb h1,h2⟩,h3⟩
theorem preU_wf2 {w:World} {ao:Option Addr} {L:List (List Int)} (h:CL w ao L):∀ u ∈ L.flatten,(Lit.int .i64 u).wf=true:=by
 have:=preU_wf h L.length 0
 rwa [preU_all] at this
theorem met_any (ep:Int) (ao:Option Addr) (cap:Nat) (L:List (List Int)) (w:World) (h:CL w ao L) (hl:L.length≤255∧∀ c ∈ L,c.length≤255) :
  Calls Tryz.prog 82 #[.agg #[.int .i64 ep,.slice ao L.length cap]] w fun e w'=>∃ b,e=.returned (.map (some b))∧w.heap.size≤b∧Mt w' b L L.flatten∧Below w.heap.size w w':=by
 have HB0:=Lh ((Below.refl w.heap.size w).alloc (Nat.le_refl _) (.cells #[.int .i64 ep,.slice ao L.length cap] 24))
 have hl':(L.length:Int)≤255:=by have:=hl.1;omega
 have HT:=Lh h
 have HM:=Lh hl
 have hmm:=@run_makeMap Tryz.prog
 clear h hl
 go_enter Tryz.func82,Tryz.ntmps82
 go_wp2_with fail
 go_loopw [12] (fun i wr=>∃ n:Nat,i=.int .i64 n∧n≤L.length∧Hid (Mt wr (w.heap.size+1) L (preU L n 0))∧Hid (Below (w.heap.size+1) (w.alloc (.cells #[.int .i64 ep,.slice ao L.length cap] 24)) wr)) (fun i _=>L.length - (intOf i).toNat)
 case atStart=>exact ⟨0,rfl,Nat.zero_le _,Lh (by rw [preU_zero];have h:=Mt.made (w.alloc (.cells #[.int .i64 ep,.slice ao L.length cap] 24)) L;simpa using h),Lh ((Below.refl _ _).alloc (by simp) _)⟩
 case round =>
  obtain ⟨n,rfl,hn,HO,HB⟩:=hrel
  by_cases hlt:n < L.length
  ·have HWB:=Lh (HB0.out.trans (HB.out.mono (by omega)))
   obtain ⟨bk,off,ai,ci,hao,c0w,hN⟩:=HT.out n hlt
   subst hao
   have c0:wr.cell? ⟨bk,off+n,none⟩=some (.slice ai L[n].length ci):=z0s HWB.out (block_lt_of_cell c0w) c0w
   have HNN:=Lh hN
   have k0:(n:Int) < (L.length:Int):=by omega
   have m0:=HM.out.2 _ (List.getElem_mem hlt)
   have m0':(L[n].length:Int)≤255:=by omega
   clear c0w hN
   go_wp2_with fail
   go_loopw [19] (fun j wq=>∃ k:Nat,j=.int .i64 k∧k≤L[n].length∧Hid (Mt wq (w.heap.size+1) L (preU L n k))∧Hid (Below (w.heap.size+1) (w.alloc (.cells #[.int .i64 ep,.slice (some ⟨bk,off,none⟩) L.length cap] 24)) wq)) (fun j _=>L[n].length - (intOf j).toNat)
   case atStart=>exact ⟨0,rfl,Nat.zero_le _,HO,HB⟩
   case round =>
    obtain ⟨k,rfl,hk,HO2,HB2⟩:=hrel
    clear c0
    have HWQ:=Lh (HB0.out.trans (HB2.out.mono (by omega)))
    by_cases hkt:k < L[n].length
    ·obtain ⟨b5,o5,hai,c5⟩:=(HNN.out.below HWQ.out).at k hkt
     have hwf:=HNN.out.wf _ (List.getElem_mem hkt)
     subst hai
     have k5:(k:Int) < (L[n].length:Int):=by omega
     obtain ⟨D,hD,hMs⟩:=HO2.out
     have HD:=Lh hD
     have HKEY:=Lh (unit_key _ hwf)
     have HPUT:=Lh (hMs.put (preU_wf HT.out n k) hlt hkt hwf)
     have HPS:=Lh (preU_succ hlt hkt)
     have HCNT:=Lh (show (preU L n k).length < maxLen from by have:=preU_len (k:=k) HM.out hlt;unfold maxLen;omega)
     have hB:w.heap.size+1≤wr.heap.size:=by have:=HB2.out.size;simpa using this
     clear hwf hD hMs
     rw [← HPS.out] at HPUT
     generalize L[n][k]=u at *
     go_wp2_with (at_mapUpdate;refine wpList_mapUpdate_own _ rfl _ _ _ 145 rfl 155 192 unit_law Tryz.underlying145 spotR (w.heap.size+1) _ _ rfl HD.out HCNT.out _ _ _ rfl rfl HKEY.out (spotD n k) [] (spotR_mk _ _) ?_;intro w1 hown1 hgrow1;have HO3:=Lh hown1;have HB3:=Lh (HB2.out.grown hgrow1 hB (fun k e=>by cases e;exact Nat.le_refl _));clear hown1 hgrow1)
     exact ⟨⟨k+1,by go_num,by omega,Lh ⟨_,by rw [show (preU L n (k+1)).length=(preU L n k).length+1 from by rw [HPS.out,List.length_append];rfl];exact HO3.out,HPUT.out⟩,HB3⟩,by simp [intOf];omega⟩
    ·obtain rfl:k=L[n].length:=by omega
     have HPC:=Lh (preU_chain hlt)
     rw [HPC.out] at HO2
     go_wp2_with fail
     go_roundw
     case rel=>exact ⟨n+1,by go_num,by omega,HO2,HB2⟩
     case measure=>simp [intOf];omega
  ·obtain rfl:n=L.length:=by omega
   have HWB:=Lh (HB0.out.trans (HB.out.mono (by omega)))
   rw [preU_all] at HO
   go_wp2_with fail
   go_ret
   exact ⟨_,rfl,by omega,HO.out,HWB.out⟩
def Grp (l:List Pg) (ed:Int) (left:Lit→Bool) (t:Int):Prop:=(t=ed∨∃ x ∈ l,t=x.at_+1)∧ed≤t∧∀ x ∈ l,left (klA x.at_)=false→x.at_+1≤t
theorem Grp.start {D:DataW Unit} {l:List Pg} (h:Mp D l) (ed:Int):Grp l ed (Maps.has D) ed:=by
 refine ⟨.inl rfl,Int.le_refl _,fun x hx hl=>?_⟩
 rw [h.hs _ (h.wf x hx),decide_eq_true (List.mem_map.2 ⟨x,hx,rfl⟩)] at hl
 cases hl
theorem Mp.met {D:DataW Unit} {l:List Pg} (h:Mp D l) {u:Int} (hu:(Lit.int .i64 u).wf=true) {y:DataW Unit} (hat:∀ z,D.atKey (klA u) z=y):∃ x ∈ l,x.at_=u:=by
 have h1:=has_true_of_atKey hat
 rw [h.hs u hu] at h1
 obtain ⟨x,hx,e⟩:=List.mem_map.1 (of_decide_eq_true h1)
 exact ⟨x,hx,e⟩
theorem Grp.step {D:DataW Unit} {l:List Pg} {ed t u:Int} {left:Lit→Bool} (h:Grp l ed left t) (hM:Mp D l) (hu:∃ x ∈ l,x.at_=u):Grp l ed (fun z=>left z && !z.sameKey (klA u)) (max t (u+1)):=by
 obtain ⟨x,hx,rfl⟩:=hu
 refine ⟨?_,by have:=h.2.1;omega,fun y hy hl=>?_⟩
 ·rcases Int.le_total t (x.at_+1) with h4 | h4
  ·exact .inr ⟨x,hx,by omega⟩
  ·rw [show max t (x.at_+1)=t by omega];exact h.1
 ·by_cases e:y.at_=x.at_
  ·rw [e];omega
  ·have h1:(left (klA y.at_) && !(klA y.at_).sameKey (klA x.at_))=false:=hl
   rw [sameKey_ne (fun e2=>e (klA_inj (hM.wf y hy) (hM.wf x hx) e2))] at h1
   have:=h.2.2 y hy (by simpa using h1)
   omega
theorem Grp.done {l:List Pg} {ed t:Int} {left:Lit→Bool} (h:Grp l ed left t) (h0:∀ z,left z=false):t=tailP l ed:=tailP_of h.1 h.2.1 (fun x hx=>h.2.2 x hx (h0 _))
theorem ptail_any (G:Nat→Prop) (w:World) (b:Nat) (p:Ps) (h:PGm G w b p) (hok:p.Ok) :
  Calls Tryz.prog 191 #[.pointer (some ⟨b,0,none⟩)] w fun e w'=>e=.returned (.int .i64 p.tail)∧Below w.heap.size w w':=by
 obtain ⟨mb,h1,⟨D,hD,hM⟩,_⟩:=h
 obtain ⟨c0,c1,c2,_⟩:=z09 h1
 have HD:=Lh hD
 have HM:=Lh hM
 have HBL:=Lh hD.lt
 have HOK:=Lh hok.each
 have HED:=Lh hok.edge
 have HT:=Lh (show tailP p.l p.edge=p.tail from rfl)
 generalize p.tail=tl at *
 generalize p.edge=ed at *
 clear h1 hD hM hok
 go_enter Tryz.func191,Tryz.ntmps191
 go_wp2_with (at_range;refine wpList_range_own _ rfl _ 232 rfl 279 277 pspot_law Tryz.underlying232 sheetR mb _ _ rfl HD.out ?_;intro w3 hrg0 hg0 hs0)
 go_frame
 have hbr:=HBL.out
 have HX3:=Lh (show Below w.heap.size w w3 from (Below.refl _ _).grown hg0 (Nat.le_refl _) (fun j hj=>by cases hj))
 have hed:=HED.out
 clear hg0 c0 c1 c2
 go_loopw [3] (fun v wr=>∃ (left:Lit→Bool) (cnt:Nat) (t:Int),v=.int .i64 t∧Hid (wr.ranges Tryz.prog 279 sheetR mb w.heap.size p.l.length D left cnt)∧Hid (Grp p.l ed left t)∧0≤t∧t≤4096∧Hid (Below w.heap.size w wr)) (fun _ wr=>wr.rangeLeft mb w.heap.size)
 case atStart=>exact ⟨_,_,ed,rfl,Lh hrg0,Lh (Grp.start HM.out ed),by omega,by omega,HX3⟩
 case round =>
  obtain ⟨left,cnt,t,rfl,HR,HG,t0,t1,HX⟩:=hrel
  clear hrg0
  go_wp2_with (at_next;refine wpList_next_ranges (α:=Int) (β:=Int × ByteArray) _ rfl _ rfl 279 pspot_law sheetR (fun x=>.agg #[.int .i64 x]) (fun c=>.agg #[.int .i64 c.1,.string c.2]) (fun key kl hkey=>by obtain ⟨u,e,_⟩:=pspot_inv hkey;exact ⟨u,e⟩) (fun v y hv=>by obtain ⟨k,s,e,_⟩:=sheetR_inv hv;exact ⟨(k,s),e⟩) mb w.heap.size _ _ _ _ rfl HR.out ?_ ?_)
  ·intro hc0 hl0
   have HF:=Lh (HG.out.done hl0)
   go_wp2_with fail
   go_ret
   rw [← HT.out,← HF.out]
   exact ⟨rfl,HX.out⟩
  ·intro x y1 y2 kl z1 z2 w4 cnt4 hkey hlk hv hat hrg4 hlt hg4 hs4 hen
   obtain ⟨u,e,hwf⟩:=pspot_inv hkey
   obtain rfl:x=u:=agg1_inj e
   obtain rfl:kl=klA x:=Option.some.inj (hkey.symm.trans (pspot_key x hwf))
   have hin:=HM.out.met hwf hat
   have hxb:0≤x∧x < 4096:=by
    obtain ⟨q,hq,rfl⟩:=hin
    have:=(HOK.out q hq).1
    omega
   have hg5:=HG.out.step HM.out hin
   have HG5:=Lh hg5
   have HB4:=HX.out.grown hg4 HX.out.size (fun j hj=>by cases hj;exact Nat.le_refl _)
   have HX4:=Lh (HB4.alloc HB4.size (.cells #[.int .i64 x] 279))
   have HR4:=Lh (hrg4.alloc (.cells #[.int .i64 x] 279))
   obtain ⟨x0,x1⟩:=hxb
   clear e hkey hlk hv hat hrg4 hg4 hwf hin hg5 HB4
   obtain ⟨t2,ht2⟩:∃ t2,(if t < x+1 then x+1 else t)=t2:=⟨_,rfl⟩
   have h5:max t (x+1)=t2:=by rw [← ht2];split <;> omega
   rw [h5] at HG5
   have t20:0≤t2:=by omega
   have t21:t2≤4096:=by omega
   clear h5
   go_wp2_with fail
   go_roundw
   case rel=>exact ⟨_,cnt4,t2,rfl,HR4,HG5,t20,t21,HX4⟩
   case measure=>rw [HR4.out.left_eq,HR.out.left_eq];exact hlt
theorem ptail_nil (w:World):Calls Tryz.prog 191 #[.pointer none] w fun e w'=>e=.returned (.int .i64 0)∧w=w':=by
 go_enter Tryz.func191,Tryz.ntmps191
 go_wp2_with fail
 go_ret
 exact ⟨rfl,rfl⟩
theorem z25 {f:FuncId} {a:Array Value} {w:World} {v:Value} (h:Calls Tryz.prog f a w fun e w'=>e=.returned v∧w=w'):Calls Tryz.prog f a w fun e w'=>e=.returned v∧Below w.heap.size w w':=h.mono fun e w' ⟨h1,h2⟩=>⟨h1,h2 ▸ Below.refl _ _⟩
theorem pageSays:PageSays PGm where
 lt:=fun h=>h.lt
 keep:=fun h hk hG=>h.keep hk hG
 new_yes:=fun room w hr=>pnew_yes room w hr
 new_no:=fun room w hr _=>pnew_no room w hr
 write:=fun G w b p a s h hok _ hs=>pwrite_any G w b p a s h hok hs
 fill:=fun G w b p a h hok _=>pfill_any G w b p a h hok
 trim:=fun G w b p a h hok ha=>ptrim_any G w b p a h hok ha
 read:=fun G w b p a h hok _=>pread_any G w b p a h hok
 kind:=fun G w b p a h _ _=>z25 (kind_any G w b p a h)
 tail:=fun G w b p h hok=>ptail_any G w b p h hok
 nil_write:=fun a s w hs=>z25 (pwrite_nil a s w hs)
 nil_fill:=fun a w=>z25 (pfill_nil a w)
 nil_trim:=fun a w=>z25 (ptrim_nil a w)
 nil_read:=fun a w=>z25 (pread_nil a w)
 nil_kind:=fun a w=>z25 (kind_nil a w)
 nil_tail:=fun w=>z25 (ptail_nil w)
end Go.Proofs.YtkefpbcifcjibaaGreat
