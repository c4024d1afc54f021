/- Joined texts. -/
import Derived.StillTailTactics
import Derived.Test.YtkefpbcifcjibaaGreatG20a
import Derived.Test.YtkefpbcifcjibaaGreatG16a
import Derived.Laws.ResultCell
import Derived.Laws.Rows
import Derived.Test.YtkefpbcifcjibaaGreatG11a
import Derived.Test.YtkefpbcifcjibaaGreatG03a
import Derived.Test.YtkefpbcifcjibaaGreatG13a
import Derived.Test.YtkefpbcifcjibaaGreatH00
set_option linter.unusedVariables false
set_option maxRecDepth 20000
set_option maxHeartbeats 16000000
namespace Go.Proofs.YtkefpbcifcjibaaGreat
open Go.RowKit
section
variable {UG:Nat→Nat→(Nat→Prop)→World→Us→Prop} {OG:Nat→(Nat→Prop)→World→Od→Prop} {LG:Nat→(Nat→Prop)→World→Ly→Prop}
theorem rp_new_bad (HT:Three UG OG LG) (ep:Int) (ao:Option Addr) (cap:Nat) (L:List (List Int)) (room:Int) (w:World) (h:CL w ao L) (hl:fewL L) (hg:goodB ep L=false) :
  Calls Tryz.prog 58 #[.agg #[.int .i64 ep,.slice ao L.length cap],.int .i64 room] w fun e w'=>e=.returned (.tuple #[.pointer none,.int .i64 11])∧Below w.heap.size w w':=by
 have CN:=Lh (HT.l.new_no ep ao cap L _ (h.below (z00 w (.cells #[.int .i64 ep,.slice ao L.length cap] 24))) hl hg)
 have B0:=Lh (z00 w (.cells #[.int .i64 ep,.slice ao L.length cap] 24))
 clear h hl hg
 go_enter Tryz.func58,Tryz.ntmps58
 go_wp2_with (go_at_call 90;refine CN.out.mono ?_;rintro e w1 ⟨rfl,hb1⟩;have B1:=Lh (B0.out.trans (hb1.mono B0.out.size));clear hb1)
 go_ret2
 exact ⟨rfl,B1.out⟩
theorem MkP.all {w0 W:World} {r:Nat} {N:Nd} (HT:Three UG OG LG) (h:MkP UG OG LG w0 r N 16 W) {W2:World} (h2:Below W.heap.size W W2):∃ (A:Array Value) (ro rl:Nat) (B:Nat→Nat × Nat) (G:Nat→Prop),TabP A 16 B ro rl∧W.heap[r]?=some (.cells A 118 (0,0))∧BundG 19 (nodeP UG OG LG r A ro rl B N) G W2∧(∀ k,G k→w0.heap.size≤k):=by
 obtain ⟨A,ro,rl,B,G,hT,hB,hG,hb0⟩:=h
 obtain ⟨F,h3,h4⟩:=hB.look (i:=2) (by omega)
 exact ⟨A,ro,rl,B,G,hT,h3.1,hB.keep (fun i _=>z0r HT r A ro rl B N i) (Kept.ofBelow h2 (fun _=>True)) (fun _ _=>trivial),hG⟩
theorem mkp_small {w0 W:World} {r:Nat} {N:Nd} {i:Nat} (h:MkP UG OG LG w0 r N i W):(∃ A:Array Value,A.size=18∧W.heap[r]?=some (.cells A 118 (0,0)))∧Below w0.heap.size w0 W∧w0.heap.size≤r:=by
 obtain ⟨A,ro,rl,B,G,hT,hB,hG,hb0⟩:=h
 obtain ⟨F,h3,h4⟩:=hB.look (i:=2) (by omega)
 exact ⟨⟨A,hT.size,h3.1⟩,hb0,hG r (h4 r ((h3.2 r).2 rfl))⟩
theorem rp_new_room (HT:Three UG OG LG) (ep:Int) (ao:Option Addr) (cap:Nat) (L:List (List Int)) (room:Int) (w:World) (h:CL w ao L) (hl:fewL L) (hg:goodB ep L=true) (hr:room < 1∨4096 < room) (hi:i64w room) :
  Calls Tryz.prog 58 #[.agg #[.int .i64 ep,.slice ao L.length cap],.int .i64 room] w fun e w'=>e=.returned (.tuple #[.pointer none,.int .i64 1])∧Below w.heap.size w w':=by
 have CN:=Lh (HT.l.new_yes ep ao cap L _ (h.below (z00 w (.cells #[.int .i64 ep,.slice ao L.length cap] 24))) hl hg)
 have B0:=Lh (z00 w (.cells #[.int .i64 ep,.slice ao L.length cap] 24))
 have CO:=Lh HT.o.new
 have CU:=Lh (fun w=>HT.u.new_no room w hr hi)
 unfold ptrL at CN
 unfold ptrO at CO
 clear h hl hg hr hi
 go_enter Tryz.func58,Tryz.ntmps58
 go_wp2_with (first
  | (go_at_call 90;refine CN.out.mono ?_;rintro e w1 ⟨rl,G1,rfl,hl1,hg1,hb1⟩;have L1:=Lh hl1;have K1:=Lh hg1;have B1:=Lh hb1;clear hb1 hl1 hg1)
  | (go_at_call 91;refine (CO.out _).mono ?_;rintro e w2 ⟨ro,G2,rfl,hl2,hg2,hb2⟩;have L2:=Lh hl2;have K2:=Lh hg2;have B2:=Lh hb2;clear hb2 hl2 hg2))
 have M0:=Lh (mkp_start HT (w0:=w.alloc (.cells #[.int .i64 ep,.slice ao L.length cap] 24)) (N:=⟨fun _=>newU room,newO,newL ep L⟩) (A:=#[.pointer none,.pointer none,.pointer none,.pointer none,.pointer none,.pointer none,.pointer none,.pointer none,.pointer none,.pointer none,.pointer none,.pointer none,.pointer none,.pointer none,.pointer none,.pointer none,.pointer (some ⟨ro,0,none⟩),.pointer (some ⟨rl,0,none⟩)]) (B:=fun _=>(0,0)) (ro:=ro) (rl:=rl) L1.out K1.out B1.out L2.out K2.out B2.out ⟨rfl,fun i hi=>absurd hi (Nat.not_lt_zero i),rfl,rfl⟩)
 clear CN CO L1 K1 B1 L2 K2 B2
 go_loopw [7,22] (fun v7 j wr=>v7=.int .i64 0∧j=.int .i64 0∧Hid (MkP UG OG LG (w.alloc (.cells #[.int .i64 ep,.slice ao L.length cap] 24)) w2.heap.size ⟨fun _=>newU room,newO,newL ep L⟩ 0 wr)) (fun _ _ _=>0)
 case atStart=>exact ⟨rfl,rfl,M0⟩
 case round =>
  clear M0
  obtain ⟨rfl,rfl,HM⟩:=hrel
  obtain ⟨⟨A,hA,hh⟩,hb0,hz0⟩:=mkp_small HM.out
  have HB:=Lh (show Below w.heap.size w wr.drew from (B0.out.trans (hb0.mono B0.out.size)).drew)
  have HD:=Lh (show wr.drew.heap[w2.heap.size]?=some (.cells A 118 (0,0)) from hh)
  have HZ:=Lh (Nat.le_trans B0.out.size hz0)
  have lr0:=lt_of_block hh
  clear hb0 hz0 hh HM
  go_wp2_with fail
  go_region_with (go_at_call 92;(refine (CU.out _).mono ?_;rintro e w4 ⟨rfl,hb4⟩;have HB4:=Lh (HB.out.trans (hb4.mono HB.out.size));have hh4:=z01 hb4 HD.out;have lr:=lt_of_block hh4;have ch:w4.cell? ⟨w2.heap.size,0,none⟩=some A[0]:=(z02 hh4 0).trans (by simp [hA]);have fh:=z0a hh4 0;clear hb4 hh4))
  all_goals
   go_wp2_with fail
   go_ret2
   exact ⟨rfl,HB4.out.setCell HZ.out _⟩
theorem start_ok {ep:Int} (he:i64w ep) (w:World):AkIn w (startA ep):=⟨⟨z04 (x:=8) (by omega),z04 (x:=0) (by omega),he,z04 (x:=0) (by omega),z04 (x:=0) (by omega),z04 (x:=0) (by omega),Nat.zero_le _,z04 (x:=0) (by omega),Nat.zero_le _,(fun c hc=>by cases hc),fun _=>rfl,Nat.le_refl _⟩,CL.nil _ _⟩
theorem rp_new_yes (HT:Three UG OG LG) (ep:Int) (ao:Option Addr) (cap:Nat) (L:List (List Int)) (room:Int) (w:World) (h:CL w ao L) (hl:fewL L) (hg:goodB ep L=true) (hr:1≤room∧room≤4096) (he:i64w ep) :
  Calls Tryz.prog 58 #[.agg #[.int .i64 ep,.slice ao L.length cap],.int .i64 room] w fun e w'=>∃ (r:Nat) (G:Nat→Prop),e=.returned (.tuple #[.pointer (some ⟨r,0,none⟩),.int .i64 0])∧RM UG OG LG r G w' (newN ep L room)∧(∀ k,G k→w.heap.size≤k)∧Below w.heap.size w w':=by
 have CN:=Lh (HT.l.new_yes ep ao cap L _ (h.below (z00 w (.cells #[.int .i64 ep,.slice ao L.length cap] 24))) hl hg)
 have B0:=Lh (z00 w (.cells #[.int .i64 ep,.slice ao L.length cap] 24))
 have P0:=Lh (heap_alloc_new w (.cells #[.int .i64 ep,.slice ao L.length cap] 24))
 have CO:=Lh HT.o.new
 have CU:=Lh (fun w=>HT.u.new_yes room w hr)
 have HE:=Lh he
 unfold ptrL at CN
 unfold ptrO at CO
 unfold ptrV at CU
 clear h hl hg hr he
 go_enter Tryz.func58,Tryz.ntmps58
 go_wp2_with (first
  | (go_at_call 90;refine CN.out.mono ?_;rintro e w1 ⟨rl,G1,rfl,hl1,hg1,hb1⟩;have L1:=Lh hl1;have K1:=Lh hg1;have B1:=Lh hb1;clear hb1 hl1 hg1)
  | (go_at_call 91;refine (CO.out _).mono ?_;rintro e w2 ⟨ro,G2,rfl,hl2,hg2,hb2⟩;have L2:=Lh hl2;have K2:=Lh hg2;have B2:=Lh hb2;clear hb2 hl2 hg2))
 have M0:=Lh (mkp_start HT (w0:=w.alloc (.cells #[.int .i64 ep,.slice ao L.length cap] 24)) (N:=⟨fun _=>newU room,newO,newL ep L⟩) (A:=#[.pointer none,.pointer none,.pointer none,.pointer none,.pointer none,.pointer none,.pointer none,.pointer none,.pointer none,.pointer none,.pointer none,.pointer none,.pointer none,.pointer none,.pointer none,.pointer none,.pointer (some ⟨ro,0,none⟩),.pointer (some ⟨rl,0,none⟩)]) (B:=fun _=>(0,0)) (ro:=ro) (rl:=rl) L1.out K1.out B1.out L2.out K2.out B2.out ⟨rfl,fun i hi=>absurd hi (Nat.not_lt_zero i),rfl,rfl⟩)
 clear CN CO L1 K1 B1 L2 K2 B2
 go_loopw [7,22] (fun v7 j wr=>v7=.int .i64 0∧∃ i:Nat,j=.int .i64 i∧i≤16∧Hid (MkP UG OG LG (w.alloc (.cells #[.int .i64 ep,.slice ao L.length cap] 24)) w2.heap.size ⟨fun _=>newU room,newO,newL ep L⟩ i wr)) (fun _ j _=>16 - (intOf j).toNat)
 case atStart=>exact ⟨rfl,0,rfl,by omega,M0⟩
 case round =>
  clear M0
  obtain ⟨rfl,i,rfl,hi,HM⟩:=hrel
  by_cases hlt:i < 16
  ·have i0:(i:Int) < 16:=by omega
   have i1:0≤(i:Int):=by omega
   obtain ⟨⟨A,hA,hh⟩,_,_⟩:=mkp_small HM.out
   have HD:=Lh (show wr.drew.heap[w2.heap.size]?=some (.cells A 118 (0,0)) from hh)
   have lr0:=lt_of_block hh
   clear hh
   go_wp2_with fail
   go_region_with (go_at_call 92;refine (CU.out _).mono ?_;rintro e w4 ⟨r4,q4,G4,rfl,h4,g4,b4⟩;have M4:=Lh (HM.out.step HT hlt ((Below.refl wr.heap.size wr).drew.trans b4) h4 g4);have hh4:=z01 b4 HD.out;have lr:=lt_of_block hh4;have ch:w4.cell? ⟨w2.heap.size,i,none⟩=some A[i]:=(z02 hh4 i).trans (by simp [hA,show i < 18 by omega]);have fh:=z0a hh4 i;clear h4 g4 b4 hh4)
   all_goals
    go_wp2_with fail
    go_roundw
    case rel=>exact ⟨rfl,i+1,by go_num,by omega,M4⟩
    case measure=>simp [intOf];omega
  ·obtain rfl:i=16:=by omega
   obtain ⟨_,hb0,_⟩:=mkp_small HM.out
   obtain ⟨A,ro2,rl2,B,G,hT,hh,hB,hG⟩:=HM.out.all HT (W2:=wr.drew) ((Below.refl _ _).drew)
   obtain ⟨F,hF,_,hbu⟩:=hB.use (fun i _=>z0r HT w2.heap.size A ro2 rl2 B _ i) (i:=1) (by omega)
   have hF':OG ro2 F wr.drew newO:=hF
   have CD:=Lh ((HT.o.ask ro2 F _ newO (startA ep) hF' (start_ok HE.out _)).mono (fun e w' h=>(⟨_,h.1,hbu (OG ro2) (RM UG OG LG w2.heap.size) w' _ (newN ep L room) (fun G' W h=>rm_putO hT h) h.2⟩:∃ v,e=.returned v∧Leaves (RM UG OG LG w2.heap.size) G wr.drew w' (newN ep L room))))
   have co:wr.cell? ⟨w2.heap.size,16,none⟩=some (.pointer (some ⟨ro2,0,none⟩)):=(z02 hh 16).trans hT.o
   have hp:=z01 hb0 P0.out
   have cp:wr.cell? ⟨w.heap.size,0,none⟩=some (.int .i64 ep):=z02 hp 0
   have l1:=lt_of_block hh
   have l2:=lt_of_block hp
   have HB:=Lh (B0.out.trans (hb0.mono B0.out.size))
   have HG:=Lh hG
   clear hT hB hG hh hF hF' hbu hp hb0
   go_wp2_with fail
   go_still_tail 7,(by kernel_rfl)
   change wpList _ _ _ _ _ wr.drew
   go_wp2_with fail
   refine CD.out.mono ?_
   rintro e w5 ⟨v,rfl,G5,r1,r2,r3⟩
   go_wp2_with fail
   go_ret2
   have z:w.heap.size≤(w.alloc (.cells #[.int .i64 ep,.slice ao L.length cap] 24)).heap.size:=by simp
   have zr:=HB.out.size
   refine ⟨w2.heap.size,G5,rfl,r1,fun k hk=>?_,HB.out.drew.trans (r2.toBelow zr (fun k hk hg=>?_))⟩
   ·rcases r3 k hk with h | h
    ·exact Nat.le_trans z (HG.out k h)
    ·exact Nat.le_trans zr h
   ·have:=HG.out k hg
    omega
end
theorem row5 (w:World):NLI (w.alloc (.cells #[.int .i64 1,.int .i64 2,.int .i64 3,.int .i64 4,.int .i64 5] 3)) (some ⟨w.heap.size,0,none⟩) 5 [1,2,3,4,5]:=by
 have h:=heap_alloc_new w (.cells #[.int .i64 1,.int .i64 2,.int .i64 3,.int .i64 4,.int .i64 5] 3)
 refine ⟨fun j hj=>?_,(fun e=>by cases e),Nat.le_refl _⟩
 match j,hj with
 | 0,_=>exact ⟨⟨_,_,rfl,z02 h 0⟩,z04 (x:=1) (by omega)⟩
 | 1,_=>exact ⟨⟨_,_,rfl,z02 h 1⟩,z04 (x:=2) (by omega)⟩
 | 2,_=>exact ⟨⟨_,_,rfl,z02 h 2⟩,z04 (x:=3) (by omega)⟩
 | 3,_=>exact ⟨⟨_,_,rfl,z02 h 3⟩,z04 (x:=4) (by omega)⟩
 | 4,_=>exact ⟨⟨_,_,rfl,z02 h 4⟩,z04 (x:=5) (by omega)⟩
 | n+5,hj=>simp at hj;omega
theorem row3 (a b c:Int) (ha:i64w a) (hb:i64w b) (hc:i64w c) (w:World):NLI (w.alloc (.cells #[.int .i64 a,.int .i64 b,.int .i64 c] 3)) (some ⟨w.heap.size,0,none⟩) 3 [a,b,c]:=by
 have h:=heap_alloc_new w (.cells #[.int .i64 a,.int .i64 b,.int .i64 c] 3)
 refine ⟨fun j hj=>?_,(fun e=>by cases e),Nat.le_refl _⟩
 match j,hj with
 | 0,_=>exact ⟨⟨_,_,rfl,z02 h 0⟩,ha⟩
 | 1,_=>exact ⟨⟨_,_,rfl,z02 h 1⟩,hb⟩
 | 2,_=>exact ⟨⟨_,_,rfl,z02 h 2⟩,hc⟩
 | n+3,hj=>simp at hj;omega
theorem is_uu (v:Value) (W:World):(Instr.typeAssert (.iface 68 v) 186 68 true).run Tryz.prog W=.ok (.tuple #[v,.bool true]) W:=by kernel_rfl
theorem is_ou (v:Value) (W:World):(Instr.typeAssert (.iface 116 v) 186 68 true).run Tryz.prog W=.ok (.tuple #[.pointer none,.bool false]) W:=by kernel_rfl
theorem is_oo (v:Value) (W:World):(Instr.typeAssert (.iface 116 v) 186 116 true).run Tryz.prog W=.ok (.tuple #[v,.bool true]) W:=by kernel_rfl
theorem is_lu (v:Value) (W:World):(Instr.typeAssert (.iface 75 v) 186 68 true).run Tryz.prog W=.ok (.tuple #[.pointer none,.bool false]) W:=by kernel_rfl
theorem is_lo (v:Value) (W:World):(Instr.typeAssert (.iface 75 v) 186 116 true).run Tryz.prog W=.ok (.tuple #[.pointer none,.bool false]) W:=by kernel_rfl
theorem is_ll (v:Value) (W:World):(Instr.typeAssert (.iface 75 v) 186 75 true).run Tryz.prog W=.ok (.tuple #[v,.bool true]) W:=by kernel_rfl
def Kinds (l:List Int) (w:World) (e:Ending) (w':World):Prop:=∃ ao:Option Addr,e=.returned (.slice ao l.length l.length)∧NLI w' ao l.length l∧Below w.heap.size w w'
theorem kinds_unit (v:Value) (w:World):Calls Tryz.prog 111 #[.iface 68 v] w (Kinds [1,2,3,4,5] w):=by
 have H:=Lh (row5 w)
 have F0:=is_uu
 go_enter Tryz.func111,Tryz.ntmps111
 go_wp2_with fail
 go_ret
 exact ⟨_,rfl,H.out,(Below.refl _ _).alloc (Nat.le_refl _) _⟩
theorem kinds_order (v:Value) (w:World):Calls Tryz.prog 111 #[.iface 116 v] w (Kinds [6,7,8] w):=by
 have H:=Lh (row3 6 7 8 (z04 (by omega)) (z04 (by omega)) (z04 (by omega)) w)
 have F0:=is_ou
 have F1:=is_oo
 go_enter Tryz.func111,Tryz.ntmps111
 go_wp2_with fail
 go_ret
 exact ⟨_,rfl,H.out,(Below.refl _ _).alloc (Nat.le_refl _) _⟩
theorem kinds_layout (v:Value) (w:World):Calls Tryz.prog 111 #[.iface 75 v] w (Kinds [9,10,11] w):=by
 have H:=Lh (row3 9 10 11 (z04 (by omega)) (z04 (by omega)) (z04 (by omega)) w)
 have F0:=is_lu
 have F1:=is_lo
 have F2:=is_ll
 go_enter Tryz.func111,Tryz.ntmps111
 go_wp2_with fail
 go_ret
 exact ⟨_,rfl,H.out,(Below.refl _ _).alloc (Nat.le_refl _) _⟩
theorem rp_unit_nil (i:Int) (w:World):Calls Tryz.prog 30 #[.pointer none,.int .i64 i] w fun e w'=>e=.returned (.pointer none)∧w=w':=by
 go_enter Tryz.func30,Tryz.ntmps30
 go_wp2_with fail
 go_ret
 exact ⟨rfl,rfl⟩
theorem rp_order_nil (w:World):Calls Tryz.prog 110 #[.pointer none] w fun e w'=>e=.returned (.pointer none)∧w=w':=by
 go_enter Tryz.func110,Tryz.ntmps110
 go_wp2_with fail
 go_ret
 exact ⟨rfl,rfl⟩
theorem rp_layout_nil (w:World):Calls Tryz.prog 35 #[.pointer none] w fun e w'=>e=.returned (.pointer none)∧w=w':=by
 go_enter Tryz.func35,Tryz.ntmps35
 go_wp2_with fail
 go_ret
 exact ⟨rfl,rfl⟩
theorem rp_unit_no (b:Nat) (i:Int) (h:i < 0∨15 < i) (w:World):Calls Tryz.prog 30 #[.pointer (some ⟨b,0,none⟩),.int .i64 i] w fun e w'=>e=.returned (.pointer none)∧w=w':=by
 by_cases h0:i < 0
 ·clear h
  go_enter Tryz.func30,Tryz.ntmps30
  go_wp2_with fail
  go_ret
  exact ⟨rfl,rfl⟩
 ·have h1:16≤i:=by omega
  have h2:0≤i:=by omega
  clear h h0
  go_enter Tryz.func30,Tryz.ntmps30
  go_wp2_with fail
  go_ret
  exact ⟨rfl,rfl⟩
theorem rp_unit_yes {b i:Nat} (hi:i < 16) {w:World} {p:Nat} (hc:w.cell? ⟨b,i,none⟩=some (.pointer (some ⟨p,0,none⟩))):Calls Tryz.prog 30 #[.pointer (some ⟨b,0,none⟩),.int .i64 i] w fun e w'=>e=.returned (.pointer (some ⟨p,0,none⟩))∧w=w':=by
 have h0:0≤(i:Int):=by omega
 have h1:(i:Int) < 16:=by omega
 have hb:=block_lt_of_cell hc
 go_enter Tryz.func30,Tryz.ntmps30
 go_wp2_with fail
 go_ret
 exact ⟨rfl,rfl⟩
theorem rp_order {b:Nat} {w:World} {p:Nat} (hc:w.cell? ⟨b,16,none⟩=some (.pointer (some ⟨p,0,none⟩))):Calls Tryz.prog 110 #[.pointer (some ⟨b,0,none⟩)] w fun e w'=>e=.returned (.pointer (some ⟨p,0,none⟩))∧w=w':=by
 have hb:=block_lt_of_cell hc
 go_enter Tryz.func110,Tryz.ntmps110
 go_wp2_with fail
 go_ret
 exact ⟨rfl,rfl⟩
theorem rp_layout {b:Nat} {w:World} {p:Nat} (hc:w.cell? ⟨b,17,none⟩=some (.pointer (some ⟨p,0,none⟩))):Calls Tryz.prog 35 #[.pointer (some ⟨b,0,none⟩)] w fun e w'=>e=.returned (.pointer (some ⟨p,0,none⟩))∧w=w':=by
 have hb:=block_lt_of_cell hc
 go_enter Tryz.func35,Tryz.ntmps35
 go_wp2_with fail
 go_ret
 exact ⟨rfl,rfl⟩
theorem row_tmp_ret {P:Program} {fn:Func} {p u:Tmp} {ty:TypeId} (h:fn.results=#[.cell p ty,.tmp u]) {a:Act} {w:World} {g:Nat} {t:TypeId} {cs:Array Value} {d:TypeDesc} {x:Value} {R:Ending→World→Prop}
  (hg:w.heap[g]?=some (.cells cs t (0,0))) (hp:a.tmps.getD p undef=.pointer (some ⟨g,0,none⟩)) (hx:a.tmps.getD u undef=x) (hdf:a.defers=[])
  (hu:P.underlying ty=some d) (hd:(match d with | .struct _ | .array _ _=>true | _=>false)=true) (hi:(P.info? ty).map (·.size)=some cs.size)
  (hR:R (.returned (.tuple #[.agg cs,x])) w):bodyPost P fn R .ret a w:=by
 have e:(results fn a.tmps).run P w=.ok (.tuple #[.agg cs,a.tmps.getD u undef]) w:=by
  rw [results_cell_tmp h,hp]
  simp [asAddr,Result.andThen,run_loadVar_row w g t ty cs (0,0) d hg hu hd hi]
 rw [hx] at e
 exact bodyPost_ret e hdf hR
theorem ask_ret {fn:Func} {p:Tmp} (h:fn.results=#[.cell p 34]) {a:Act} {w:World} {g:Nat} {x:Ak} {R:Ending→World→Prop}
  (hg:w.heap[g]?=some (.cells (askC x).toArray 34 (0,0))) (hp:a.tmps.getD p undef=.pointer (some ⟨g,0,none⟩)) (hd:a.defers=[])
  (hR:R (.returned (askV x)) w):bodyPost Tryz.prog fn R .ret a w :=
 bodyPost_ret (results_cell_row h a.tmps w g 34 (askC x).toArray (0,0) _ hp hg Tryz.underlying34 rfl (by kernel_rfl)) hd hR
theorem z0o {fn:Func} {p u:Tmp} (h:fn.results=#[.cell p 34,.tmp u]) {a:Act} {w:World} {g:Nat} {x:Ak} {c:Bool} {R:Ending→World→Prop}
  (hg:w.heap[g]?=some (.cells (askC x).toArray 34 (0,0))) (hp:a.tmps.getD p undef=.pointer (some ⟨g,0,none⟩)) (hx:a.tmps.getD u undef=.bool c) (hd:a.defers=[])
  (hR:R (.returned (.tuple #[askV x,.bool c])) w):bodyPost Tryz.prog fn R .ret a w :=
 row_tmp_ret h hg hp hx hd Tryz.underlying34 rfl (by kernel_rfl) hR
theorem ans_ret2 {fn:Func} {p u:Tmp} (h:fn.results=#[.cell p 49,.tmp u]) {a:Act} {w:World} {g:Nat} {x:An} {ao:Option Addr} {cap:Nat} {c:Bool} {R:Ending→World→Prop}
  (hg:w.heap[g]?=some (.cells (ansC x ao cap).toArray 49 (0,0))) (hp:a.tmps.getD p undef=.pointer (some ⟨g,0,none⟩)) (hx:a.tmps.getD u undef=.bool c) (hd:a.defers=[])
  (hR:R (.returned (heardT x c ao cap)) w):bodyPost Tryz.prog fn R .ret a w :=
 row_tmp_ret h hg hp hx hd Tryz.underlying49 rfl (by kernel_rfl) hR
theorem z0g {w:World} {b:Nat} {t:TypeId} {v0 v1 v2 v3 v4 v5 v6 v7 v8:Value} (h:w.heap[b]?=some (.cells #[v0,v1,v2,v3,v4,v5,v6,v7,v8] t (0,0))) :
  (w.cell? ⟨b,0,none⟩=some v0∧w.cell? ⟨b,1,none⟩=some v1∧w.cell? ⟨b,2,none⟩=some v2∧w.cell? ⟨b,3,none⟩=some v3∧w.cell? ⟨b,4,none⟩=some v4∧w.cell? ⟨b,5,none⟩=some v5∧w.cell? ⟨b,6,none⟩=some v6∧w.cell? ⟨b,7,none⟩=some v7∧w.cell? ⟨b,8,none⟩=some v8)∧
  w.frozen? ⟨b,0,none⟩=false∧w.frozen? ⟨b,1,none⟩=false∧w.frozen? ⟨b,2,none⟩=false∧w.frozen? ⟨b,3,none⟩=false∧w.frozen? ⟨b,4,none⟩=false∧w.frozen? ⟨b,5,none⟩=false∧w.frozen? ⟨b,6,none⟩=false∧w.frozen? ⟨b,7,none⟩=false∧w.frozen? ⟨b,8,none⟩=false :=
 ⟨⟨z02 h 0,z02 h 1,z02 h 2,z02 h 3,z02 h 4,z02 h 5,z02 h 6,z02 h 7,z02 h 8⟩,z0a h 0,z0a h 1,z0a h 2,z0a h 3,z0a h 4,z0a h 5,z0a h 6,z0a h 7,z0a h 8⟩
theorem nset0 {w:World} {b:Nat} {x0 x1 x2 x3 x4 x5 x6 x7 x8:Value} {t:TypeId} (h:w.heap[b]?=some (.cells #[x0,x1,x2,x3,x4,x5,x6,x7,x8] t (0,0))) (u:Value):(w.setCell ⟨b,0,none⟩ u).heap[b]?=some (.cells #[u,x1,x2,x3,x4,x5,x6,x7,x8] t (0,0)) :=
 heap_setCell_same w b 0 #[x0,x1,x2,x3,x4,x5,x6,x7,x8] t u h
theorem nset1 {w:World} {b:Nat} {x0 x1 x2 x3 x4 x5 x6 x7 x8:Value} {t:TypeId} (h:w.heap[b]?=some (.cells #[x0,x1,x2,x3,x4,x5,x6,x7,x8] t (0,0))) (u:Value):(w.setCell ⟨b,1,none⟩ u).heap[b]?=some (.cells #[x0,u,x2,x3,x4,x5,x6,x7,x8] t (0,0)) :=
 heap_setCell_same w b 1 #[x0,x1,x2,x3,x4,x5,x6,x7,x8] t u h
theorem nset2 {w:World} {b:Nat} {x0 x1 x2 x3 x4 x5 x6 x7 x8:Value} {t:TypeId} (h:w.heap[b]?=some (.cells #[x0,x1,x2,x3,x4,x5,x6,x7,x8] t (0,0))) (u:Value):(w.setCell ⟨b,2,none⟩ u).heap[b]?=some (.cells #[x0,x1,u,x3,x4,x5,x6,x7,x8] t (0,0)) :=
 heap_setCell_same w b 2 #[x0,x1,x2,x3,x4,x5,x6,x7,x8] t u h
theorem nset3 {w:World} {b:Nat} {x0 x1 x2 x3 x4 x5 x6 x7 x8:Value} {t:TypeId} (h:w.heap[b]?=some (.cells #[x0,x1,x2,x3,x4,x5,x6,x7,x8] t (0,0))) (u:Value):(w.setCell ⟨b,3,none⟩ u).heap[b]?=some (.cells #[x0,x1,x2,u,x4,x5,x6,x7,x8] t (0,0)) :=
 heap_setCell_same w b 3 #[x0,x1,x2,x3,x4,x5,x6,x7,x8] t u h
theorem nset4 {w:World} {b:Nat} {x0 x1 x2 x3 x4 x5 x6 x7 x8:Value} {t:TypeId} (h:w.heap[b]?=some (.cells #[x0,x1,x2,x3,x4,x5,x6,x7,x8] t (0,0))) (u:Value):(w.setCell ⟨b,4,none⟩ u).heap[b]?=some (.cells #[x0,x1,x2,x3,u,x5,x6,x7,x8] t (0,0)) :=
 heap_setCell_same w b 4 #[x0,x1,x2,x3,x4,x5,x6,x7,x8] t u h
theorem nset5 {w:World} {b:Nat} {x0 x1 x2 x3 x4 x5 x6 x7 x8:Value} {t:TypeId} (h:w.heap[b]?=some (.cells #[x0,x1,x2,x3,x4,x5,x6,x7,x8] t (0,0))) (u:Value):(w.setCell ⟨b,5,none⟩ u).heap[b]?=some (.cells #[x0,x1,x2,x3,x4,u,x6,x7,x8] t (0,0)) :=
 heap_setCell_same w b 5 #[x0,x1,x2,x3,x4,x5,x6,x7,x8] t u h
theorem nset6 {w:World} {b:Nat} {x0 x1 x2 x3 x4 x5 x6 x7 x8:Value} {t:TypeId} (h:w.heap[b]?=some (.cells #[x0,x1,x2,x3,x4,x5,x6,x7,x8] t (0,0))) (u:Value):(w.setCell ⟨b,6,none⟩ u).heap[b]?=some (.cells #[x0,x1,x2,x3,x4,x5,u,x7,x8] t (0,0)) :=
 heap_setCell_same w b 6 #[x0,x1,x2,x3,x4,x5,x6,x7,x8] t u h
theorem nset7 {w:World} {b:Nat} {x0 x1 x2 x3 x4 x5 x6 x7 x8:Value} {t:TypeId} (h:w.heap[b]?=some (.cells #[x0,x1,x2,x3,x4,x5,x6,x7,x8] t (0,0))) (u:Value):(w.setCell ⟨b,7,none⟩ u).heap[b]?=some (.cells #[x0,x1,x2,x3,x4,x5,x6,u,x8] t (0,0)) :=
 heap_setCell_same w b 7 #[x0,x1,x2,x3,x4,x5,x6,x7,x8] t u h
theorem nset8 {w:World} {b:Nat} {x0 x1 x2 x3 x4 x5 x6 x7 x8:Value} {t:TypeId} (h:w.heap[b]?=some (.cells #[x0,x1,x2,x3,x4,x5,x6,x7,x8] t (0,0))) (u:Value):(w.setCell ⟨b,8,none⟩ u).heap[b]?=some (.cells #[x0,x1,x2,x3,x4,x5,x6,x7,u] t (0,0)) :=
 heap_setCell_same w b 8 #[x0,x1,x2,x3,x4,x5,x6,x7,x8] t u h
theorem z1i {w:World} {b:Nat} {t:TypeId} {x0 x1 x2 x3 x4 x5 x6 x7 x8:Value} (h:w.heap[b]?=some (.cells #[x0,x1,x2,x3,x4,x5,x6,x7,x8] t (0,0))) (v0 v1 v2 v3 v4 v5 v6 v7 v8:Value) :
  (World.setCell (World.setCell (World.setCell (World.setCell (World.setCell (World.setCell (World.setCell (World.setCell (World.setCell w ⟨b,0,none⟩ v0) ⟨b,1,none⟩ v1) ⟨b,2,none⟩ v2) ⟨b,3,none⟩ v3) ⟨b,4,none⟩ v4) ⟨b,5,none⟩ v5) ⟨b,6,none⟩ v6) ⟨b,7,none⟩ v7) ⟨b,8,none⟩ v8).heap[b]?=some (.cells #[v0,v1,v2,v3,v4,v5,v6,v7,v8] t (0,0)) :=
 nset8 (nset7 (nset6 (nset5 (nset4 (nset3 (nset2 (nset1 (nset0 h v0) v1) v2) v3) v4) v5) v6) v7) v8
theorem nine_set (w:World) (b:Nat) (v0 v1 v2 v3 v4 v5 v6 v7 v8:Value):Kept (fun k=>k≠b) w (World.setCell (World.setCell (World.setCell (World.setCell (World.setCell (World.setCell (World.setCell (World.setCell (World.setCell w ⟨b,0,none⟩ v0) ⟨b,1,none⟩ v1) ⟨b,2,none⟩ v2) ⟨b,3,none⟩ v3) ⟨b,4,none⟩ v4) ⟨b,5,none⟩ v5) ⟨b,6,none⟩ v6) ⟨b,7,none⟩ v7) ⟨b,8,none⟩ v8) :=
 ((((((((((Kept.refl _ w).setCell (p:=⟨b,0,none⟩) (fun h=>h rfl) v0).setCell (p:=⟨b,1,none⟩) (fun h=>h rfl) v1).setCell (p:=⟨b,2,none⟩) (fun h=>h rfl) v2).setCell (p:=⟨b,3,none⟩) (fun h=>h rfl) v3).setCell (p:=⟨b,4,none⟩) (fun h=>h rfl) v4).setCell (p:=⟨b,5,none⟩) (fun h=>h rfl) v5).setCell (p:=⟨b,6,none⟩) (fun h=>h rfl) v6).setCell (p:=⟨b,7,none⟩) (fun h=>h rfl) v7).setCell (p:=⟨b,8,none⟩) (fun h=>h rfl) v8)
def Ak.at (a:Ak) (ao:Option Addr) (cap:Nat):Ak:=⟨a.kind,a.unit,a.epoch,a.page,a.size,a.n,a.data,a.pe,a.L,ao,cap⟩
theorem at_held {a:Ak} (h:HeldOk a) {w:World} {B:Nat} {v:Value} (hO:OC w B v a.L):∃ (ao:Option Addr) (cap:Nat),v=.slice ao a.L.length cap∧HeldOk (a.at ao cap)∧CK (fun k=>B≤k∧k < w.heap.size) w (a.at ao cap):=by
 have hg:=CG.of hO
 obtain ⟨ao,cap,rfl,h1,h2,h3⟩:=hg.cl
 exact ⟨ao,cap,rfl,⟨⟨h.ok.kind,h.ok.unit,h.ok.epoch,h.ok.page,h.ok.size,h.ok.n,h.ok.data,h.ok.pe,h.ok.len,h.ok.each,h2,h3⟩,h.few,h.data⟩,fun W hW=>(hg.keep hW (fun _ h=>h)).here.1⟩
theorem apart_any (a:Ak) (w:World) (ha:HeldOk a) (hC:CL w a.ao a.L):Calls Tryz.prog 112 #[askV a] w fun e w'=>∃ (ao:Option Addr) (cap:Nat),e=.returned (askV (a.at ao cap))∧HeldOk (a.at ao cap)∧CK (fun k=>w.heap.size≤k∧k < w'.heap.size) w' (a.at ao cap)∧Below w.heap.size w w':=by
 have HH:=Lh (fun (w:World) (B:Nat) (v:Value) (hO:OC w B v a.L)=>at_held ha hO)
 have HF:=Lh ha.few
 have HS:=Lh (show a.data.size≤1099511627776 from by have:=ha.data;omega)
 have HC:=Lh (fun W (hb:Below w.heap.size w W)=>hC.below hb)
 have HB:=Lh (((Below.refl w.heap.size w).alloc (Nat.le_refl _) (.cells (askC a).toArray 34)).alloc (by simp) (.cells #[.int .i64 0,.int .i64 0,.int .i64 0,.int .i64 0,.int .i64 0,.int .i64 0,.string ByteArray.empty,.int .i64 0,.slice none 0 0] 34))
 obtain ⟨h1,h2⟩:=z0z w (askC a).toArray #[.int .i64 0,.int .i64 0,.int .i64 0,.int .i64 0,.int .i64 0,.int .i64 0,.string ByteArray.empty,.int .i64 0,.slice none 0 0] 34 34
 have H1:=Lh h1
 have H2:=Lh h2
 clear ha hC h1 h2
 obtain ⟨k,un,ep,pg,sz,nn,s,pe,L,ao,cap⟩:=a
 simp only at *
 show Calls _ _ #[.agg #[.int .i64 k,.int .i64 un,.int .i64 ep,.int .i64 pg,.int .i64 sz,.int .i64 nn,.string s,.int .i64 pe,.slice ao L.length cap]] w _
 go_enter Tryz.func112,Tryz.ntmps112
 go_wp2_with (first
  | (go_at_call 71;refine (clone_any s _ HS.out).mono ?_;rintro e w1 ⟨rfl,hb1⟩;have HB1:=Lh (HB.out.trans (hb1.mono HB.out.size));have P1:=Lh (z01 hb1 H1.out);have Q1:=Lh (z01 hb1 H2.out);clear hb1;obtain ⟨x,y⟩:=z0g P1.out;have xl:=lt_of_block P1.out;have HC1:=Lh (HC.out _ (HB1.out.setCell (p:=⟨w.heap.size,6,none⟩) (Nat.le_refl _) (.string s))))
  | (go_at_call 46;refine (z14 pe ao cap L _ HC1.out HF.out).mono ?_;rintro e w2 ⟨v,rfl,hO,hb2⟩;obtain ⟨vo,vc,hv,ho,hck⟩:=HH.out w2 _ v hO;subst hv;have HO:=Lh ho;have HK:=Lh hck;have P2:=Lh (z01 hb2 (nset6 P1.out (.string s)));have Q2:=Lh (z01 hb2 (((Kept.refl (fun k=>k≠w.heap.size) w1).setCell (p:=⟨w.heap.size,6,none⟩) (fun h=>h rfl) (.string s)).heap (b:=w.heap.size+1) (by omega) Q1.out));have HB2:=Lh ((HB1.out.setCell (p:=⟨w.heap.size,6,none⟩) (Nat.le_refl _) (.string s)).trans (hb2.mono (by have:=HB1.out.size;simp;omega)));have sB:=Lh (show w.heap.size+1 < (w1.setCell ⟨w.heap.size,6,none⟩ (.string s)).heap.size from (by have:=lt_of_block Q1.out;simpa using this));clear x y hO hb2 ho hck;obtain ⟨x,y⟩:=z0g P2.out;obtain ⟨x',y'⟩:=z0g Q2.out;have xl:=lt_of_block P2.out;have xl':=lt_of_block Q2.out))
 clear x y x' y'
 have k1:Kept (fun k=>k≠w.heap.size) w2 ((w2.setCell ⟨w.heap.size,7,none⟩ (.int .i64 pe)).setCell ⟨w.heap.size,8,none⟩ (.slice vo L.length vc)):=((Kept.refl _ w2).setCell (p:=⟨w.heap.size,7,none⟩) (fun h=>h rfl) _).setCell (p:=⟨w.heap.size,8,none⟩) (fun h=>h rfl) _
 have k2:=(k1.mono (T:=fun k=>w.heap.size+1 < k) (fun k h=>by omega)).trans ((nine_set ((w2.setCell ⟨w.heap.size,7,none⟩ (.int .i64 pe)).setCell ⟨w.heap.size,8,none⟩ (.slice vo L.length vc)) (w.heap.size+1) (.int .i64 k) (.int .i64 un) (.int .i64 ep) (.int .i64 pg) (.int .i64 sz) (.int .i64 nn) (.string s) (.int .i64 pe) (.slice vo L.length vc)).mono (fun k h=>by omega))
 have k3:=(k1.mono (T:=fun k=>k < w.heap.size) (fun k h=>by omega)).trans ((nine_set ((w2.setCell ⟨w.heap.size,7,none⟩ (.int .i64 pe)).setCell ⟨w.heap.size,8,none⟩ (.slice vo L.length vc)) (w.heap.size+1) (.int .i64 k) (.int .i64 un) (.int .i64 ep) (.int .i64 pg) (.int .i64 sz) (.int .i64 nn) (.string s) (.int .i64 pe) (.slice vo L.length vc)).mono (fun k h=>by omega))
 exact ask_ret (x:=⟨k,un,ep,pg,sz,nn,s,pe,L,vo,vc⟩) rfl (z1i (k1.heap (b:=w.heap.size+1) (by omega) Q2.out) (.int .i64 k) (.int .i64 un) (.int .i64 ep) (.int .i64 pg) (.int .i64 sz) (.int .i64 nn) (.string s) (.int .i64 pe) (.slice vo L.length vc)) rfl rfl ⟨vo,vc,rfl,HO.out,(HK.out.keep k2 (fun k hk=>Nat.lt_of_lt_of_le sB.out hk.1)).more (fun k hk=>⟨by have:=sB.out;omega,Nat.lt_of_lt_of_le hk.2 k2.size⟩),HB2.out.trans (k3.toBelow (by have:=lt_of_block Q2.out;omega) (fun k h=>h))⟩
theorem hnew_any (NG:Nat→(Nat→Prop)→World→Nd→Prop) (hN:∀ b,Thing (NG b)) (nb:Nat) (F:Nat→Prop) (w:World) (n:Nd) (hF:NG nb F w n):Calls Tryz.prog 60 #[ptrN nb] w fun e w'=>∃ b:Nat,e=.returned (ptrH b)∧Leaves (HM NG b nb) F w w' ⟨n,[]⟩∧Below w.heap.size w w':=by
 have hb:=z00 w (.cells #[.pointer (some ⟨nb,0,none⟩),.slice none 0 0] 114)
 have hlt:=(hN nb).lt hF
 have hF2:=(hN nb).keep hF (Kept.ofBelow hb (fun _=>True)) (fun _ _=>trivial)
 have HP:=Lh (show Leaves (HM NG w.heap.size nb) F w (w.alloc (.cells #[.pointer (some ⟨nb,0,none⟩),.slice none 0 0] 114)) ⟨n,[]⟩ from
  ⟨fun k=>F k∨k=w.heap.size,⟨Nat.zero_le _,.slice none 0 0,[],F,fun _=>False,heap_alloc_new w _,.inl (OR.nil _ _),rfl,hF2,fun a ha=>(ha.elim (fun h=>by cases h) (fun h=>by cases h)),⟨.inr rfl,fun h=>by have:=hlt _ h;omega,id⟩,fun k hk=>⟨.inl hk,id⟩,fun k hk=>hk.elim,fun k e=>(by cases e),fun k hk=>by
   rcases hk with hk | hk
   ·exact Nat.lt_of_lt_of_le (hlt k hk) hb.size
   ·rw [hk];simp⟩,Kept.ofBelow hb _,fun k hk=>hk.imp id (fun e=>by omega)⟩)
 have HB:=Lh hb
 clear hb hlt hF hF2
 unfold ptrN
 go_enter Tryz.func60,Tryz.ntmps60
 go_wp2_with fail
 go_ret
 exact ⟨w.heap.size,rfl,HP.out,HB.out⟩
theorem hnodes_any {NG:Nat→(Nat→Prop)→World→Nd→Prop} {Z:List Ak} (b nb:Nat) (G:Nat→Prop) (w:World) (h:Hd) (hh:HMz NG Z b nb G w h):Calls Tryz.prog 29 #[.pointer (some ⟨b,0,none⟩)] w fun e w'=>e=.returned (.pointer (some ⟨nb,0,none⟩))∧w=w':=by
 obtain ⟨v,l,hc,_⟩:=hh.cells
 have c0:=z02 hc 0
 have hb:=hh.small
 clear hh hc
 go_enter Tryz.func29,Tryz.ntmps29
 go_wp2_with fail
 go_ret
 exact ⟨rfl,rfl⟩
theorem hnodes_nil (w:World):Calls Tryz.prog 29 #[.pointer none] w fun e w'=>e=.returned (.pointer none)∧w=w':=by
 go_enter Tryz.func29,Tryz.ntmps29
 go_wp2_with fail
 go_ret
 exact ⟨rfl,rfl⟩
theorem ask_akN (a:Ap):a.ask=akN a.ask.kind a.ask.unit a.ask.epoch a.ask.page a.ask.data:=by
 unfold Ap.ask
 repeat' split
 all_goals rfl
section
variable {UG:Nat→Nat→(Nat→Prop)→World→Us→Prop} {OG:Nat→(Nat→Prop)→World→Od→Prop} {LG:Nat→(Nat→Prop)→World→Ly→Prop} {NG:Nat→(Nat→Prop)→World→Nd→Prop} {HG:Nat→Nat→(Nat→Prop)→World→Hd→Prop} {AG:Nat→(Nat→Prop)→World→Ap→Prop}
variable {α:Type} {T:(Nat→Prop)→World→α→Prop} {X:Nat→Prop} {w w':World} {b nb ba:Nat} {h:Hd} {a:Ap} {t:α}
theorem sa_new (AS:AppSays AG) (hT:Thing T) (hs:Solo T X w t) {ep:Int} {ao:Option Addr} {cap:Nat} {L:List (List Int)} {rec_:ByteArray} (hC:CL w ao L) (hf:fewL L) (hn:ao=none→cap=0) (hc:L.length≤cap) (he:i64w ep) (hr:rec_.size≤1000000) :
  Calls Tryz.prog 38 #[.agg #[.int .i64 ep,.slice ao L.length cap],.string rec_] w fun e w'=>∃ ba:Nat,e=.returned (.pointer (some ⟨ba,0,none⟩))∧Side T (AG ba) X w' t (newAp ep L rec_)∧Below w.heap.size w w':=by
 refine (AS.new ep ao cap L rec_ w hC hf hn hc he hr).mono ?_
 rintro e w' ⟨ba,G,h1,h2,h3,h4⟩
 exact ⟨ba,h1,Side.made hT hs h4 h2 h3,h4⟩
theorem sa_ask (AS:AppSays AG) (hT:Thing T) (hs:Side T (AG ba) X w t a) :
  Calls Tryz.prog 39 #[.pointer (some ⟨ba,0,none⟩)] w fun e w'=>∃ (kd un ep pg:Int) (s:ByteArray),a.ask=akN kd un ep pg s∧e=.returned (.tuple #[.agg #[.int .i64 kd,.int .i64 un,.int .i64 ep,.int .i64 pg,.int .i64 0,.int .i64 0,.string s,.int .i64 0,.slice none 0 0],.bool a.asks])∧Side T (AG ba) X w' t a∧Kept X w w':=by
 refine (side_right (R:=fun e=>e=.returned (.tuple #[askV a.ask,.bool a.asks])) hT (AS.thing ba) hs (fun G hG=>AS.ask ba G w a hG)).mono ?_
 rintro e w' ⟨he,h1,h2⟩
 exact ⟨_,_,_,_,_,ask_akN a,by rw [he,ask_akN a];rfl,h1,h2⟩
theorem sa_over (AS:AppSays AG) (hT:Thing T) (hs:Side T (AG ba) X w t a) :
  Calls Tryz.prog 42 #[.pointer (some ⟨ba,0,none⟩)] w fun e w'=>e=.returned (.tuple #[.int .i64 a.overA,.int .i64 a.overE,.bool a.overB])∧Side T (AG ba) X w' t a∧Below w.heap.size w w':=by
 obtain ⟨_,F,G,_,hG,_⟩:=id hs
 exact (AS.over ba G w a hG).mono fun e w' ⟨he,hb⟩=>⟨he,hs.below hT (AS.thing ba) hb,hb⟩
end
section
variable {UG:Nat→Nat→(Nat→Prop)→World→Us→Prop} {OG:Nat→(Nat→Prop)→World→Od→Prop} {LG:Nat→(Nat→Prop)→World→Ly→Prop} {NG:Nat→(Nat→Prop)→World→Nd→Prop} {HG:Nat→Nat→(Nat→Prop)→World→Hd→Prop}
variable {X:Nat→Prop} {w w':World} {b nb:Nat} {h:Hd}
theorem ho_nodes (HS:HandSays UG OG LG NG HG) (hs:Solo (HG b nb) X w h) :
  Calls Tryz.prog 29 #[.pointer (some ⟨b,0,none⟩)] w fun e w'=>e=.returned (.pointer (some ⟨nb,0,none⟩))∧Solo (HG b nb) X w' h∧Below w.heap.size w w':=by
 obtain ⟨_,F,hF,_⟩:=id hs
 exact (HS.nodes b nb F w h hF).mono fun e w' ⟨he,hb⟩=>⟨he,hs.below (HS.thing b nb) hb,hb⟩
end
end Go.Proofs.YtkefpbcifcjibaaGreat
namespace Go.Proofs.YtkefpbcifcjibaaGreat
open Go.RowKit Go.Maps
theorem chained_over {T:(Nat→Prop)→World→Ly→Prop} (hT:Thing T) {H:Nat→Prop} {w w4 W5:World} {s:Ly} {o:Obj} {v:Value} {L:List (List Int)} (h:T H w s) (hb4:Below (w.alloc o).heap.size (w.alloc o) w4) (hO:OC w4 (w.alloc o).heap.size v L) (hk:Kept (fun k=>k≠w.heap.size) w4 W5) (hs:W5.heap.size=w4.heap.size) :
  Leaves (Chained T (fun k=>w.heap.size < k∧k < w4.heap.size) v L) H w W5 s:=by
 have hb0:=z00 w o
 have hz:(w.alloc o).heap.size=w.heap.size+1:=by simp
 rw [hz] at hO
 have hH:=fun k hk=>hT.lt h k hk
 refine ⟨fun k=>H k∨(w.heap.size < k∧k < w4.heap.size),⟨H,?_,?_,fun k hk2=>by rw [hs];exact hk2.2,fun k hk2 hf=>by have:=hH k hf;omega,fun k=>Iff.rfl⟩,?_,fun k hk2=>hk2.imp id (fun h=>by omega)⟩
 ·exact hT.keep (hT.keep (hT.keep h (Kept.ofBelow hb0 (fun _=>True)) (fun _ _=>trivial)) (Kept.ofBelow hb4 (fun _=>True)) (fun _ _=>trivial)) hk (fun k hf e=>by have:=hH k hf;omega)
 ·exact ((CG.of hO).mono (S:=fun k=>w.heap.size < k∧k < w4.heap.size) (fun k hk2=>by omega)).keep hk (fun k hk2=>by omega)
 ·have h1:=(Kept.ofBelow hb0 (fun k=>¬ H k)).below hb4
  refine ⟨hk.os.trans h1.os,hk.tape.trans h1.tape,hk.output.trans h1.output,Nat.le_trans h1.size hk.size,fun k hg hkl=>?_⟩
  rw [hk.block k (by omega) (Nat.lt_of_lt_of_le hkl h1.size)]
  exact h1.block k hg hkl
theorem two_size (W:World) (b i j:Nat) (v u:Value):((W.setCell ⟨b,i,none⟩ v).setCell ⟨b,j,none⟩ u).heap.size=W.heap.size:=by simp [World.setCell]
theorem two_stay (W:World) (b i j:Nat) (v u:Value):Kept (fun k=>k≠b) W ((W.setCell ⟨b,i,none⟩ v).setCell ⟨b,j,none⟩ u):=((Kept.refl _ W).setCell (p:=⟨b,i,none⟩) (fun h=>h rfl) _).setCell (p:=⟨b,j,none⟩) (fun h=>h rfl) _
theorem lp_do_tell (b:Nat) (G:Nat→Prop) (w:World) (y:Ly) (a:Ak) (h:LB b G w y) (hy:y.L.length≤255∧∀ c ∈ y.L,c.length≤255) (hk:a.kind=9) :
  Calls Tryz.prog 195 #[ptrL b,askV a] w fun x w'=>Tells (LB b) G w y ⟨0,y.n,noL,y.ep,y.L,y.mark,y.size,0⟩ x w':=by
 obtain ⟨k,un,ep,pg,sz,n,s,pe,L,ao,cap⟩:=a
 simp only at hk
 have d9:(k == 9)=true:=by rw [hk];rfl
 have HS:=Lh (z13 (z0l b) h 34 49 #[.int .i64 k,.int .i64 un,.int .i64 ep,.int .i64 pg,.int .i64 sz,.int .i64 n,.string s,.int .i64 pe,.slice ao L.length cap] zeroE)
 unfold zeroE at HS
 have C2:=Lh (fun w=>ltold_any y.mark y.size y.n w)
 have CN:=Lh (fun (W:World) H hH=>lp_now b H W y hH hy)
 unfold ptrL at CN
 obtain ⟨H0,hH0,_⟩:=HS.out.use
 obtain ⟨lo,lc,mb,h1,_⟩:=hH0.open
 obtain ⟨⟨c0,c1,c2,c3,c4,c5⟩,_⟩:=z29 h1
 have hb1:=lt_of_block h1
 have HC:=Lh (And.intro c3 (And.intro c4 c5))
 have hbw:=h.small
 obtain ⟨_,_,_,g1,_⟩:=h.open
 obtain ⟨⟨e0,e1,e2,e3,e4,e5⟩,_⟩:=z29 g1
 clear h hy hk hH0 h1 c0 c1 c2 c3 c4 c5 hb1 g1 e0 e1 e2 HC
 show Calls _ _ #[.pointer (some ⟨b,0,none⟩),.agg #[.int .i64 k,.int .i64 un,.int .i64 ep,.int .i64 pg,.int .i64 sz,.int .i64 n,.string s,.int .i64 pe,.slice ao L.length cap]] w _
 go_enter Tryz.func195,Tryz.ntmps195
 go_wp2_with (first
  | (go_at_call 197;refine (C2.out _).mono ?_;rintro x w2 ⟨rfl,hb2⟩;have HS2:=Lh (HS.out.below (z0l b) hb2);clear hb2)
  | (go_at_call 36;obtain ⟨H2,hH2,_,hU2⟩:=HS2.out.use2;refine (CN.out _ H2 (hH2.below (z00 _ _))).mono ?_;rintro x w4 ⟨v,rfl,hO,hb4⟩;obtain ⟨vo,vc,hv,_⟩:=hO.form;subst hv;have HX:=Lh (hU2 (Chained (LB b) (fun k=>w2.heap.size < k∧k < w4.heap.size) (.slice vo y.L.length vc) y.L) _ _ (chained_over (z0l b) hH2 hb4 hO (two_stay w4 w2.heap.size 3 4 (.int .i64 y.ep) (.slice vo y.L.length vc)) (two_size _ _ _ _ _ _)));have HQ:=Lh (z01 hb4 (heap_alloc_new w2 _));have hq:=lt_of_block HQ.out;obtain ⟨⟨q0,q1,q2,q3,q4,q5,q6,q7⟩,r0,r1,r2,r3,r4,r5,r6,r7⟩:=z03 HQ.out;obtain ⟨m1,m2⟩:=HS2.out.small;have HS4:=Lh ((HS2.out.below (z0l b) (z00 w2 (.cells #[.int .i64 0,.int .i64 y.n,.string ⟨#[]⟩,.int .i64 0,.slice none 0 0,.int .i64 y.mark,.int .i64 y.size,.int .i64 0] 49))).below (z0l b) hb4);obtain ⟨⟨x0,x1,x2,x3,x4,x5,x6,x7⟩,f0,f1,f2,f3,f4,f5,f6,f7⟩:=z03 HS4.out.ans;obtain ⟨m3,m4⟩:=HS4.out.small;clear hO hb4 hH2 hU2))
 exact z0k (x:=⟨0,y.n,noL,y.ep,y.L,y.mark,y.size,0⟩) (ao:=vo) (cap:=vc) rfl (z1x HX.out.ans _ _ _ _ _ _ _ _) rfl rfl (z2c (x:=⟨0,y.n,noL,y.ep,y.L,y.mark,y.size,0⟩) (fun k hk=>Nat.le_trans HS2.out.kp.size (Nat.le_of_lt hk.1)) (HX.out.fin (z11 (z0l b) _ _ _) (z1n _ _ _ _ _ _ _ _ _ _)))
theorem lp_do_other (b:Nat) (G:Nat→Prop) (w:World) (y:Ly) (a:Ak) (h:LB b G w y) (h9:a.kind≠9) (h10:a.kind≠10) (h11:a.kind≠11) :
  Calls Tryz.prog 195 #[ptrL b,askV a] w fun x w'=>Tells (LB b) G w y (anP 1 0 noL 0) x w':=by
 obtain ⟨k,un,ep,pg,sz,n,s,pe,L,ao,cap⟩:=a
 simp only at *
 have d9:(k == 9)=false:=beq_eq_false_iff_ne.2 h9
 have d10:(k == 10)=false:=beq_eq_false_iff_ne.2 h10
 have d11:(k == 11)=false:=beq_eq_false_iff_ne.2 h11
 have HS:=Lh (z13 (z0l b) h 34 49 #[.int .i64 k,.int .i64 un,.int .i64 ep,.int .i64 pg,.int .i64 sz,.int .i64 n,.string s,.int .i64 pe,.slice ao L.length cap] zeroE)
 unfold zeroE at HS
 clear h h9 h10 h11
 show Calls _ _ #[.pointer (some ⟨b,0,none⟩),.agg #[.int .i64 k,.int .i64 un,.int .i64 ep,.int .i64 pg,.int .i64 sz,.int .i64 n,.string s,.int .i64 pe,.slice ao L.length cap]] w _
 go_enter Tryz.func195,Tryz.ntmps195
 go_wp2_with (go_at_call 196;refine (lcoded_any _ _).mono ?_;rintro x w2 ⟨rfl,hb2⟩;have HX:=Lh (HS.out.below (z0l b) hb2);obtain ⟨⟨x0,x1,x2,x3,x4,x5,x6,x7⟩,f0,f1,f2,f3,f4,f5,f6,f7⟩:=z03 HX.out.ans;obtain ⟨m1,m2⟩:=HX.out.small;clear hb2)
 exact z0k (x:=anP 1 0 noL 0) (ao:=none) (cap:=0) rfl (z1x HX.out.ans _ _ _ _ _ _ _ _) rfl rfl (Tells.plain (HX.out.fin (z0l b) (z1n _ _ _ _ _ _ _ _ _ _)) rfl)
theorem lp_do_mark (b:Nat) (G:Nat→Prop) (w:World) (y y':Ly) (a:Ak) (h:LB b G w y) (hk:a.kind=11) (c mn mp ms:Int)
  (hc:∀ H W,LB b H W y→Calls Tryz.prog 199 #[ptrL b,.agg #[.int .i64 a.page,.int .i64 a.size,.int .i64 a.n]] W fun x w'=>x=.returned (ansV ⟨c,mn,noL,0,[],mp,ms,0⟩ none 0)∧Leaves (LB b) H W w' y') :
  Calls Tryz.prog 195 #[ptrL b,askV a] w fun x w'=>Tells (LB b) G w y' ⟨c,mn,noL,0,[],mp,ms,0⟩ x w':=by
 obtain ⟨k,un,ep,pg,sz,n,s,pe,L,ao,cap⟩:=a
 simp only at *
 have d11:(k == 11)=true:=by rw [hk];rfl
 have d9:(k == 9)=false:=by rw [hk];rfl
 have d10:(k == 10)=false:=by rw [hk];rfl
 have HS:=Lh (z13 (z0l b) h 34 49 #[.int .i64 k,.int .i64 un,.int .i64 ep,.int .i64 pg,.int .i64 sz,.int .i64 n,.string s,.int .i64 pe,.slice ao L.length cap] zeroE)
 unfold zeroE at HS
 have CM:=Lh (show ∀ H W,LB b H W y→Calls Tryz.prog 199 #[.pointer (some ⟨b,0,none⟩),.agg #[.int .i64 pg,.int .i64 sz,.int .i64 n]] W fun x w'=>x=.returned (.agg #[.int .i64 c,.int .i64 mn,.string ⟨#[]⟩,.int .i64 0,.slice none 0 0,.int .i64 mp,.int .i64 ms,.int .i64 0])∧Leaves (LB b) H W w' y' from hc)
 have hbw:=h.small
 clear h hk hc
 show Calls _ _ #[.pointer (some ⟨b,0,none⟩),.agg #[.int .i64 k,.int .i64 un,.int .i64 ep,.int .i64 pg,.int .i64 sz,.int .i64 n,.string s,.int .i64 pe,.slice ao L.length cap]] w _
 go_enter Tryz.func195,Tryz.ntmps195
 go_wp2_with (go_at_call 199;obtain ⟨H1,hH1,_,hU1⟩:=HS.out.use2;refine (CM.out H1 _ hH1).mono ?_;rintro x w2 ⟨rfl,hl⟩;have HX:=Lh (hU1 (LB b) _ _ hl);obtain ⟨⟨x0,x1,x2,x3,x4,x5,x6,x7⟩,f0,f1,f2,f3,f4,f5,f6,f7⟩:=z03 HX.out.ans;obtain ⟨m1,m2⟩:=HX.out.small;clear hl hH1 hU1)
 exact z0k (x:=⟨c,mn,noL,0,[],mp,ms,0⟩) (ao:=none) (cap:=0) rfl (z1x HX.out.ans _ _ _ _ _ _ _ _) rfl rfl (Tells.plain (HX.out.fin (z0l b) (z1n _ _ _ _ _ _ _ _ _ _)) rfl)
theorem lp_do_change (b:Nat) (G:Nat→Prop) (w:World) (y y':Ly) (a:Ak) (h:LB b G w y) (hA:∀ W,Kept (fun k=>¬ G k) w W→CL W a.ao a.L) (hk:a.kind=10) (c e:Int) (M:List (List Int))
  (hc:∀ H W,LB b H W y→(∀ W2,Kept (fun k=>¬ H k) W W2→CL W2 a.ao a.L)→Calls Tryz.prog 198 #[ptrL b,.agg #[.int .i64 a.pe,.slice a.ao a.L.length a.cap]] W fun x w'=>Tells (LB b) H W y' (anL c e M) x w') :
  Calls Tryz.prog 195 #[ptrL b,askV a] w fun x w'=>Tells (LB b) G w y' (anL c e M) x w':=by
 obtain ⟨k,un,ep,pg,sz,n,s,pe,L,ao,cap⟩:=a
 simp only at *
 have d10:(k == 10)=true:=by rw [hk];rfl
 have d9:(k == 9)=false:=by rw [hk];rfl
 have HS:=Lh (z13 (z0l b) h 34 49 #[.int .i64 k,.int .i64 un,.int .i64 ep,.int .i64 pg,.int .i64 sz,.int .i64 n,.string s,.int .i64 pe,.slice ao L.length cap] zeroE)
 unfold zeroE at HS
 have HA:=Lh hA
 have CM:=Lh (show ∀ H W,LB b H W y→(∀ W2,Kept (fun k=>¬ H k) W W2→CL W2 ao L)→Calls Tryz.prog 198 #[.pointer (some ⟨b,0,none⟩),.agg #[.int .i64 pe,.slice ao L.length cap]] W fun x w'=>∃ (vo:Option Addr) (vc:Nat) (C:Nat→Prop),x=.returned (.agg #[.int .i64 c,.int .i64 0,.string ⟨#[]⟩,.int .i64 e,.slice vo M.length vc,.int .i64 0,.int .i64 0,.int .i64 0])∧(∀ k,C k→W.heap.size≤k)∧Leaves (Chained (LB b) C (.slice vo M.length vc) M) H W w' y' from fun H W h1 h2=>(hc H W h1 h2).mono (fun x w' ht=>tells_chained ht))
 have hbw:=h.small
 clear h hk hc hA
 show Calls _ _ #[.pointer (some ⟨b,0,none⟩),.agg #[.int .i64 k,.int .i64 un,.int .i64 ep,.int .i64 pg,.int .i64 sz,.int .i64 n,.string s,.int .i64 pe,.slice ao L.length cap]] w _
 go_enter Tryz.func195,Tryz.ntmps195
 go_wp2_with (go_at_call 198;obtain ⟨H1,hH1,hk1,hU1⟩:=HS.out.use2;refine (CM.out H1 _ hH1 (fun W hk=>HA.out W (hk1 W hk))).mono ?_;rintro x w2 ⟨vo,vc,C,rfl,hC,hl⟩;have HC:=Lh hC;have HX:=Lh (hU1 _ _ _ hl);obtain ⟨⟨x0,x1,x2,x3,x4,x5,x6,x7⟩,f0,f1,f2,f3,f4,f5,f6,f7⟩:=z03 HX.out.ans;obtain ⟨m1,m2⟩:=HX.out.small;clear hl hH1 hU1 hk1 hC)
 exact z0k (x:=anL c e M) (ao:=vo) (cap:=vc) rfl (z1x HX.out.ans _ _ _ _ _ _ _ _) rfl rfl (z2c (x:=anL c e M) (fun k hk=>Nat.le_trans HS.out.kp.size (HC.out k hk)) (HX.out.fin (z11 (z0l b) _ _ _) (z1n _ _ _ _ _ _ _ _ _ _)))
end Go.Proofs.YtkefpbcifcjibaaGreat
