/- Joined texts. -/
import Derived.Test.YtkefpbcifcjibaaGreatG22b
import Derived.StillTailTactics
import Derived.Deep.RegionHeldLaw
import Derived.Test.YtkefpbcifcjibaaGreatG17a
import Derived.BigQuiet
import Derived.Test.YtkefpbcifcjibaaGreatG04a
import Derived.Test.YtkefpbcifcjibaaGreatG22a
import Derived.Test.YtkefpbcifcjibaaGreatG21a
import Derived.Test.YtkefpbcifcjibaaGreatG13a
import Derived.Test.YtkefpbcifcjibaaGreatG20a
import Derived.Test.YtkefpbcifcjibaaGreatH00
set_option linter.unusedVariables false
set_option maxRecDepth 20000
set_option maxHeartbeats 16000000
namespace Go.Proofs.YtkefpbcifcjibaaGreat
open Go.RowKit
def sameL (A B:List Int):Bool:=decide (A=B)
theorem take_one {α:Type} {A B:List α} {k:Nat} (ha:k < A.length) (hb:k < B.length) (h:A.take k=B.take k) (e:A[k]=B[k]):A.take (k+1)=B.take (k+1):=by
 rw [List.take_succ_eq_append_getElem ha,List.take_succ_eq_append_getElem hb,h,e]
theorem take_all {α:Type} {A B:List α} (hl:A.length=B.length) (e:A.take A.length=B.take A.length):A=B:=by
 rw [List.take_of_length_le (Nat.le_refl _),List.take_of_length_le (by omega)] at e
 exact e
theorem equalI_any (A B:List Int) (ao bo:Option Addr) (ca cb:Nat) (w:World) (la:A.length≤1000000) (lb:B.length≤1000000) (hA:NLI w ao ca A) (hB:NLI w bo cb B) :
  Calls Tryz.prog 88 #[.slice ao A.length ca,.slice bo B.length cb] w fun e w'=>e=.returned (.bool (sameL A B))∧Below w.heap.size w w':=by
 have la':(A.length:Int)≤1000000:=by omega
 have lb':(B.length:Int)≤1000000:=by omega
 by_cases hl:A.length=B.length
 rotate_left
 ·rw [show sameL A B=false from decide_eq_false (fun e=>hl (by rw [e]))]
  have dl:((A.length:Int) != (B.length:Int))=true:=bne_iff_ne.2 (by omega)
  clear hA hB hl la lb
  go_enter Tryz.func88,Tryz.ntmps88
  go_wp2
  go_ret
  exact ⟨rfl,Below.refl _ _⟩
 have HA:=Lh hA
 have HBV:=Lh hB
 have HL:=Lh hl
 have HY:=Lh (show A.take A.length=B.take A.length→sameL A B=true from fun e=>decide_eq_true (take_all hl e))
 have HN:=Lh (show A≠B→sameL A B=false from decide_eq_false)
 have dl:((A.length:Int) != (B.length:Int))=false:=bne_eq_false_iff_eq.2 (by omega)
 generalize sameL A B=R at *
 clear hl hA hB
 go_enter Tryz.func88,Tryz.ntmps88
 go_wp2
 clear dl
 go_loopw [13] (fun i wr=>∃ k:Nat,i=.int .i64 k∧k≤A.length∧Hid (A.take k=B.take k)∧Hid (Below w.heap.size w wr)) (fun i _=>A.length - (intOf i).toNat)
 case atStart=>exact ⟨0,rfl,Nat.zero_le _,Lh (by simp),Lh (Below.refl _ _)⟩
 case round =>
  obtain ⟨k,rfl,hk,HT,HW⟩:=hrel
  by_cases hlt:k < A.length
  ·have hlb:k < B.length:=by have:=HL.out;omega
   obtain ⟨bk,off,rfl,x0⟩:=(HA.out.below HW.out).at k hlt
   obtain ⟨bk2,off2,rfl,y0⟩:=(HBV.out.below HW.out).at k hlb
   have k1:(k:Int) < (B.length:Int):=by omega
   have z3:=block_lt_of_cell x0
   have z4:=block_lt_of_cell y0
   simp only at z3 z4
   by_cases e_v:A[k]=B[k]
   rotate_left
   ·have hne:A≠B:=fun e=>e_v (by simp only [e])
    have HX:=Lh (HN.out hne)
    clear hne
    go_wp2
    go_quiet (fail)
    go_wp2
    go_ret
    rw [HX.out]
    exact ⟨rfl,below_drewN HW.out _⟩
   have HT2:=Lh (take_one hlt hlb HT.out e_v)
   go_wp2
   go_quiet (fail)
   go_wp2
   go_roundw
   case rel=>exact ⟨k+1,by go_num,by omega,HT2,Lh (below_drewN HW.out _)⟩
   case measure=>simp [intOf];omega
  ·obtain rfl:k=A.length:=by omega
   have HX:=Lh (HY.out HT.out)
   go_wp2
   go_ret
   rw [HX.out]
   exact ⟨rfl,HW.out⟩
def sameC (A B:List (List Int)):Bool:=decide (A=B)
theorem equalF_any (A B:List (List Int)) (ao bo:Option Addr) (ca cb:Nat) (w:World) (la:fewL A) (lb:fewL B) (hA:CL w ao A) (hB:CL w bo B) :
  Calls Tryz.prog 87 #[.slice ao A.length ca,.slice bo B.length cb,.func (.func 88) #[] #[]] w fun e w'=>e=.returned (.bool (sameC A B))∧Below w.heap.size w w':=by
 have la':(A.length:Int)≤1000:=by have:=la.1;omega
 have lb':(B.length:Int)≤1000:=by have:=lb.1;omega
 by_cases hl:A.length=B.length
 rotate_left
 ·rw [show sameC A B=false from decide_eq_false (fun e=>hl (by rw [e]))]
  have dl:((A.length:Int) != (B.length:Int))=true:=bne_iff_ne.2 (by omega)
  clear hA hB hl la lb
  go_enter Tryz.func87,Tryz.ntmps87
  go_wp2
  go_ret
  exact ⟨rfl,Below.refl _ _⟩
 have HA:=Lh hA
 have HBV:=Lh hB
 have HL:=Lh hl
 have HFA:=Lh la
 have HFB:=Lh lb
 have HY:=Lh (show A.take A.length=B.take A.length→sameC A B=true from fun e=>decide_eq_true (take_all hl e))
 have HN:=Lh (show A≠B→sameC A B=false from decide_eq_false)
 have dl:((A.length:Int) != (B.length:Int))=false:=bne_eq_false_iff_eq.2 (by omega)
 generalize sameC A B=R at *
 clear hl hA hB la lb
 go_enter Tryz.func87,Tryz.ntmps87
 go_wp2
 clear dl
 go_loopw [17] (fun i wr=>∃ k:Nat,i=.int .i64 k∧k≤A.length∧Hid (A.take k=B.take k)∧Hid (Below w.heap.size w wr)) (fun i _=>A.length - (intOf i).toNat)
 case atStart=>exact ⟨0,rfl,Nat.zero_le _,Lh (by simp),Lh (Below.refl _ _)⟩
 case round =>
  obtain ⟨k,rfl,hk,HT,HW⟩:=hrel
  by_cases hlt:k < A.length
  ·have hlb:k < B.length:=by have:=HL.out;omega
   obtain ⟨bk,off,ai,ci,rfl,x0,hx⟩:=(HA.out.below HW.out) k hlt
   obtain ⟨bk2,off2,ai2,ci2,rfl,y0,hy⟩:=(HBV.out.below HW.out) k hlb
   have k1:(k:Int) < (B.length:Int):=by omega
   have z3:=block_lt_of_cell x0
   have z4:=block_lt_of_cell y0
   simp only at z3 z4
   have HXL:=Lh hx
   have HYL:=Lh hy
   have CE:=Lh (fun W (h1:NLI W ai ci A[k]) (h2:NLI W ai2 ci2 B[k])=>equalI_any A[k] B[k] ai ai2 ci ci2 W (Nat.le_trans (HFA.out.2 _ (List.getElem_mem hlt)) (by decide)) (Nat.le_trans (HFB.out.2 _ (List.getElem_mem hlb)) (by decide)) h1 h2)
   have HE:=Lh (show sameL A[k] B[k]=true→A.take (k+1)=B.take (k+1) from fun e=>take_one hlt hlb HT.out (of_decide_eq_true e))
   have HE2:=Lh (show sameL A[k] B[k]=false→R=false from fun e=>HN.out (fun e2=>of_decide_eq_false e (by simp only [e2])))
   clear hx hy
   generalize A[k]=xa at *
   generalize B[k]=xb at *
   generalize sameL xa xb=c at *
   cases c
   ·have HX:=Lh (HE2.out rfl)
    go_wp2_with (go_at_call 88;refine (CE.out _ HXL.out HYL.out).mono ?_;rintro e w1 ⟨rfl,hb1⟩;have HW1:=Lh (HW.out.trans (hb1.mono HW.out.size));clear hb1)
    go_ret
    rw [HX.out]
    exact ⟨rfl,HW1.out⟩
   ·have HT2:=Lh (HE.out rfl)
    go_wp2_with (go_at_call 88;refine (CE.out _ HXL.out HYL.out).mono ?_;rintro e w1 ⟨rfl,hb1⟩;have HW1:=Lh (HW.out.trans (hb1.mono HW.out.size));clear hb1)
    go_roundw
    case rel=>exact ⟨k+1,by go_num,by omega,HT2,HW1⟩
    case measure=>simp [intOf];omega
  ·obtain rfl:k=A.length:=by omega
   have HX:=Lh (HY.out HT.out)
   go_wp2
   go_ret
   rw [HX.out]
   exact ⟨rfl,HW.out⟩
theorem alike_any (e1:Int) (a1:Option Addr) (c1:Nat) (L1:List (List Int)) (e2:Int) (a2:Option Addr) (c2:Nat) (L2:List (List Int)) (w:World) (h1:CL w a1 L1) (h2:CL w a2 L2) (l1:fewL L1) (l2:fewL L2) :
  Calls Tryz.prog 55 #[.agg #[.int .i64 e1,.slice a1 L1.length c1],.agg #[.int .i64 e2,.slice a2 L2.length c2]] w fun e w'=>e=.returned (.bool (sameP e1 L1 e2 L2))∧Below w.heap.size w w':=by
 have HB0:=Lh (((Below.refl w.heap.size w).alloc (Nat.le_refl _) (.cells #[.int .i64 e1,.slice a1 L1.length c1] 24)).alloc (by simp) (.cells #[.int .i64 e2,.slice a2 L2.length c2] 24))
 have HP:=Lh (PB.two w e1 e2 a1 a2 L1.length L2.length c1 c2)
 obtain ⟨p0,p1⟩:=HP.out.1.cells
 obtain ⟨q0,q1⟩:=HP.out.2.cells
 have CE:=Lh (fun W (h1:CL W a1 L1) (h2:CL W a2 L2)=>equalF_any L1 L2 a1 a2 c1 c2 W l1 l2 h1 h2)
 have H1:=Lh (h1.below HB0.out)
 have H2:=Lh (h2.below HB0.out)
 clear h1 h2 l1 l2
 by_cases he:e1=e2
 ·have HR:=Lh (show sameP e1 L1 e2 L2=sameC L1 L2 from by unfold sameP sameC;rw [he];simp)
  have de:(e1 == e2)=true:=beq_iff_eq.2 he
  rw [HR.out]
  clear he
  generalize sameC L1 L2=R at *
  go_enter Tryz.func55,Tryz.ntmps55
  go_wp2_with (go_at_call 87;refine (CE.out _ H1.out H2.out).mono ?_;rintro e w1 ⟨rfl,hb1⟩;have HB1:=Lh (HB0.out.trans (hb1.mono HB0.out.size));clear hb1)
  go_ret
  exact ⟨rfl,HB1.out⟩
 ·rw [sameP_ep he]
  have de:(e1 == e2)=false:=beq_eq_false_iff_ne.2 he
  clear he
  go_enter Tryz.func55,Tryz.ntmps55
  go_wp2_with fail
  go_ret
  exact ⟨rfl,HB0.out⟩
def zero8:Array Value:=#[.int .i64 0,.int .i64 0,.string ⟨#[]⟩,.int .i64 0,.slice none 0 0,.int .i64 0,.int .i64 0,.int .i64 0]
theorem hp_eight {w:World} {b:Nat} {t:TypeId} {x0 x1 x2 x3 x4 x5 x6 x7:Value} (h:w.heap[b]?=some (.cells #[x0,x1,x2,x3,x4,x5,x6,x7] t (0,0))) (v0 v1 v2 v3 v4 v5 v6 v7:Value) :
  (World.setCell (World.setCell (World.setCell (World.setCell (World.setCell (World.setCell (World.setCell (World.setCell (w) ⟨b,0,none⟩ v0) ⟨b,1,none⟩ v1) ⟨b,2,none⟩ v2) ⟨b,3,none⟩ v3) ⟨b,4,none⟩ v4) ⟨b,5,none⟩ v5) ⟨b,6,none⟩ v6) ⟨b,7,none⟩ v7).heap[b]?=some (.cells #[v0,v1,v2,v3,v4,v5,v6,v7] t (0,0)):=(z22 (z19 (z1a (z0x (z1t (z1u (z23 (z24 h v0) v1) v2) v3) v4) v5) v6) v7)
theorem z1s (w:World) (b:Nat) (v0 v1 v2 v3 v4 v5 v6 v7:Value):Kept (fun k=>k≠b) w (World.setCell (World.setCell (World.setCell (World.setCell (World.setCell (World.setCell (World.setCell (World.setCell (w) ⟨b,0,none⟩ v0) ⟨b,1,none⟩ v1) ⟨b,2,none⟩ v2) ⟨b,3,none⟩ v3) ⟨b,4,none⟩ v4) ⟨b,5,none⟩ v5) ⟨b,6,none⟩ v6) ⟨b,7,none⟩ v7):=(((((((((Kept.refl _ w).setCell (p:=⟨b,0,none⟩) (fun h=>h rfl) v0).setCell (p:=⟨b,1,none⟩) (fun h=>h rfl) v1).setCell (p:=⟨b,2,none⟩) (fun h=>h rfl) v2).setCell (p:=⟨b,3,none⟩) (fun h=>h rfl) v3).setCell (p:=⟨b,4,none⟩) (fun h=>h rfl) v4).setCell (p:=⟨b,5,none⟩) (fun h=>h rfl) v5).setCell (p:=⟨b,6,none⟩) (fun h=>h rfl) v6).setCell (p:=⟨b,7,none⟩) (fun h=>h rfl) v7)
section
variable {UG:Nat→Nat→(Nat→Prop)→World→Us→Prop} {OG:Nat→(Nat→Prop)→World→Od→Prop} {LG:Nat→(Nat→Prop)→World→Ly→Prop} {NG:Nat→(Nat→Prop)→World→Nd→Prop} {b nb:Nat} {G:Nat→Prop} {w W0:World} {h:Hd} {a:Ak} {tz:TypeId} {Z:Array Value} {T:(Nat→Prop)→World→Hd→Prop}
theorem chain_less {α:Type} {T:(Nat→Prop)→World→α→Prop} {C G:Nat→Prop} {v:Value} {L:List (List Int)} {w w':World} {s:α} (h:Leaves (Chained T C v L) G w w' s):Leaves T G w w' s:=by
 obtain ⟨H,⟨H1,h1,_,_,_,h5⟩,r2,r3⟩:=h
 exact ⟨H1,h1,r2,fun k hk=>r3 k ((h5 k).2 (.inl hk))⟩
theorem box_call (S:RpcSays UG OG LG NG) (HT:BoxZ tz Z (HMz NG [] b nb) w W0 G h (askC a).toArray) (ok:AkOk a) (hL:fewL a.L) (hs:a.data.size≤1000000) (hu:h.n.l.used.length≤100000) (hA:∀ W,Kept (fun k=>¬ G k) w W→CL W a.ao a.L) :
  Calls Tryz.prog 77 #[.pointer (some ⟨nb,0,none⟩),askV a] W0.drew fun e w3=>∃ (ao:Option Addr) (cap:Nat) (C:Nat→Prop),e=.returned (ansV (h.n.ans a) ao cap)∧(∀ k,C k→w.heap.size≤k)∧
   BoxZ tz Z (Chained (HMz NG [] b nb) C (.slice ao (h.n.ans a).L.length cap) (h.n.ans a).L) w w3 G ⟨h.n.done a,h.held⟩ (askC a).toArray:=by
 have hT:=z0t S.thing [] b nb
 have l1:=HT.small.1
 obtain ⟨H,hH,hkk,hU⟩:=(show BoxZ tz Z (HMz NG [] b nb) w W0.drew G h (askC a).toArray from HT.drewN hT 1).use2
 obtain ⟨F,hF,hFH,_,hturn⟩:=hH.turn S.thing
 refine (S.ask nb F W0.drew h.n a hF ok hL hs hu (fun W hk=>hA W (hkk W (hk.mono (fun k hn hf=>hn (hFH k hf)))))).mono ?_
 intro e w3 ht
 obtain ⟨ao,cap,C,he,hC,hl⟩:=tells_chained ht
 exact ⟨ao,cap,C,he,fun k hk=>Nat.le_trans (Nat.le_of_lt l1) (hC k hk),hU (Chained (HMz NG [] b nb) C _ _) w3 _ (hturn C _ _ w3 _ hC hl)⟩
theorem box_cells (HT:BoxZ tz Z (HMz NG [] b nb) w W0 G h (askC a).toArray):∃ H v,HMz NG [] b nb H W0 h∧W0.cell? ⟨b,0,none⟩=some (.pointer (some ⟨nb,0,none⟩))∧W0.cell? ⟨b,1,none⟩=some v∧b < W0.heap.size:=by
 obtain ⟨H,h1,_⟩:=HT.th
 obtain ⟨v,l,hc,_⟩:=h1.cells
 exact ⟨H,v,h1,z02 hc 0,z02 hc 1,h1.small⟩
theorem hask_heard (S:RpcSays UG OG LG NG) (b nb:Nat) (G:Nat→Prop) (w:World) (h:Hd) (a:Ak) (hh:HMz NG [] b nb G w h) (ok:AkOk a) (hL:fewL a.L) (hs:a.data.size≤1000000) (hu:h.n.l.used.length≤100000) (hA:∀ W,Kept (fun k=>¬ G k) w W→CL W a.ao a.L) :
  Calls Tryz.prog 41 #[.pointer (some ⟨b,0,none⟩),askV a,.int .i64 0] w fun e w'=>ToldBy (heardT (h.n.ans a) true) (HMz NG [] b nb) G w ⟨h.n.done a,h.held⟩ (h.n.ans a) e w':=by
 have HT0:=boxz_start (tz:=49) (Z:=zero8) (z0t S.thing [] b nb) hh (askC a).toArray
 generalize hW0:((w.alloc (.cells (askC a).toArray 34)).alloc (.cells zero8 49))=W0 at *
 obtain ⟨H,v,hH,cu,_,hb⟩:=box_cells HT0
 have HN:=Lh (hnodes_any b nb H W0 h hH)
 obtain ⟨l1,l2⟩:=HT0.small
 have HP0:=box_call S HT0 ok hL hs hu hA
 clear ok hL hs hu hA
 clear hh hH
 obtain ⟨k,un,ep,pg,sz,nn,s,pe,L,ao,cap⟩:=a
 obtain ⟨n,held⟩:=h
 try simp only at *
 have EW:=Lh (show ((w.alloc (.cells #[.int .i64 k,.int .i64 un,.int .i64 ep,.int .i64 pg,.int .i64 sz,.int .i64 nn,.string s,.int .i64 pe,.slice ao L.length cap] 34)).alloc (.cells #[.int .i64 0,.int .i64 0,.string ⟨#[]⟩,.int .i64 0,.slice none 0 0,.int .i64 0,.int .i64 0,.int .i64 0] 49))=W0 from hW0)
 have HT:=Lh (show BoxZ 49 #[.int .i64 0,.int .i64 0,.string ⟨#[]⟩,.int .i64 0,.slice none 0 0,.int .i64 0,.int .i64 0,.int .i64 0] (HMz NG [] b nb) w W0 G ⟨n,held⟩ #[.int .i64 k,.int .i64 un,.int .i64 ep,.int .i64 pg,.int .i64 sz,.int .i64 nn,.string s,.int .i64 pe,.slice ao L.length cap] from HT0)
 clear hW0 HT0
 generalize hxe:n.ans _=x at HP0 ⊢
 generalize hye:n.done _=y at HP0 ⊢
 clear hxe hye
 obtain ⟨xc,xn,xd,xp,xL,xm,xz,xe⟩:=x
 have HP:=Lh HP0
 clear HP0
 show Calls _ _ #[.pointer (some ⟨b,0,none⟩),.agg #[.int .i64 k,.int .i64 un,.int .i64 ep,.int .i64 pg,.int .i64 sz,.int .i64 nn,.string s,.int .i64 pe,.slice ao L.length cap],.int .i64 0] w _
 go_enter Tryz.func41,Tryz.ntmps41
 go_wp2_with (go_at_call 29;rw [EW.out];refine HN.out.mono ?_;rintro e w1 ⟨rfl,rfl⟩)
 have q:=HT.out.ask
 obtain ⟨⟨q0,q1,q2,q3,q4,q5,q6,q7,q8⟩,_⟩:=z0g q
 clear q
 go_still_tail 5,(by kernel_rfl)
 change wpList _ _ _ _ _ W0.drew
 go_wp2_with fail
 refine HP.out.mono ?_
 rintro e w3 ⟨ao3,cap3,C3,he,hC3,ht3⟩
 subst he
 unfold ansV ansC
 have HC3:=Lh hC3
 have HT3:=Lh ht3
 clear hC3 ht3
 obtain ⟨nl1,nl2⟩:=HT3.out.small
 obtain ⟨⟨ny0,ny1,ny2,ny3,ny4,ny5,ny6,ny7⟩,nf0,nf1,nf2,nf3,nf4,nf5,nf6,nf7⟩:=z03 HT3.out.ans
 go_wp2_with fail
 exact ans_ret2 (x:=⟨xc,xn,xd,xp,xL,xm,xz,xe⟩) (ao:=ao3) (cap:=cap3) (c:=true) rfl (hp_eight HT3.out.ans (.int .i64 xc) (.int .i64 xn) (.string xd) (.int .i64 xp) (.slice ao3 xL.length cap3) (.int .i64 xm) (.int .i64 xz) (.int .i64 xe)) rfl rfl rfl ⟨ao3,cap3,C3,rfl,HC3.out,HT3.out.fin (z11 (z0t S.thing [] b nb) _ _ _) (z1s w3 _ _ _ _ _ _ _ _ _)⟩
theorem hask_deaf (S:RpcSays UG OG LG NG) (b nb:Nat) (G:Nat→Prop) (w:World) (h:Hd) (a:Ak) (hh:HMz NG [] b nb G w h) (ok:AkOk a) (hL:fewL a.L) (hs:a.data.size≤1000000) (hu:h.n.l.used.length≤100000) (hA:∀ W,Kept (fun k=>¬ G k) w W→CL W a.ao a.L) :
  Calls Tryz.prog 41 #[.pointer (some ⟨b,0,none⟩),askV a,.int .i64 2] w fun e w'=>ToldBy (heardT zeroX false) (HMz NG [] b nb) G w ⟨h.n.done a,h.held⟩ zeroX e w':=by
 have HT0:=boxz_start (tz:=49) (Z:=zero8) (z0t S.thing [] b nb) hh (askC a).toArray
 generalize hW0:((w.alloc (.cells (askC a).toArray 34)).alloc (.cells zero8 49))=W0 at *
 obtain ⟨H,v,hH,cu,_,hb⟩:=box_cells HT0
 have HN:=Lh (hnodes_any b nb H W0 h hH)
 obtain ⟨l1,l2⟩:=HT0.small
 have HP0:=box_call S HT0 ok hL hs hu hA
 clear ok hL hs hu hA
 clear hh hH
 obtain ⟨k,un,ep,pg,sz,nn,s,pe,L,ao,cap⟩:=a
 obtain ⟨n,held⟩:=h
 try simp only at *
 have EW:=Lh (show ((w.alloc (.cells #[.int .i64 k,.int .i64 un,.int .i64 ep,.int .i64 pg,.int .i64 sz,.int .i64 nn,.string s,.int .i64 pe,.slice ao L.length cap] 34)).alloc (.cells #[.int .i64 0,.int .i64 0,.string ⟨#[]⟩,.int .i64 0,.slice none 0 0,.int .i64 0,.int .i64 0,.int .i64 0] 49))=W0 from hW0)
 have HT:=Lh (show BoxZ 49 #[.int .i64 0,.int .i64 0,.string ⟨#[]⟩,.int .i64 0,.slice none 0 0,.int .i64 0,.int .i64 0,.int .i64 0] (HMz NG [] b nb) w W0 G ⟨n,held⟩ #[.int .i64 k,.int .i64 un,.int .i64 ep,.int .i64 pg,.int .i64 sz,.int .i64 nn,.string s,.int .i64 pe,.slice ao L.length cap] from HT0)
 clear hW0 HT0
 generalize hxe:n.ans _=x at HP0 ⊢
 generalize hye:n.done _=y at HP0 ⊢
 clear hxe hye
 obtain ⟨xc,xn,xd,xp,xL,xm,xz,xe⟩:=x
 have HP:=Lh HP0
 clear HP0
 show Calls _ _ #[.pointer (some ⟨b,0,none⟩),.agg #[.int .i64 k,.int .i64 un,.int .i64 ep,.int .i64 pg,.int .i64 sz,.int .i64 nn,.string s,.int .i64 pe,.slice ao L.length cap],.int .i64 2] w _
 go_enter Tryz.func41,Tryz.ntmps41
 go_wp2_with (go_at_call 29;rw [EW.out];refine HN.out.mono ?_;rintro e w1 ⟨rfl,rfl⟩)
 have q:=HT.out.ask
 obtain ⟨⟨q0,q1,q2,q3,q4,q5,q6,q7,q8⟩,_⟩:=z0g q
 clear q
 go_still_tail 5,(by kernel_rfl)
 change wpList _ _ _ _ _ W0.drew
 go_wp2_with fail
 refine HP.out.mono ?_
 rintro e w3 ⟨ao3,cap3,C3,he,hC3,ht3⟩
 subst he
 unfold ansV ansC
 have HC3:=Lh hC3
 have HT3:=Lh ht3
 clear hC3 ht3
 obtain ⟨nl1,nl2⟩:=HT3.out.small
 obtain ⟨⟨ny0,ny1,ny2,ny3,ny4,ny5,ny6,ny7⟩,nf0,nf1,nf2,nf3,nf4,nf5,nf6,nf7⟩:=z03 HT3.out.ans
 go_wp2_with fail
 exact ans_ret2 (x:=zeroX) (ao:=none) (cap:=0) (c:=false) rfl (hp_eight HT3.out.ans (.int .i64 0) (.int .i64 0) (.string ⟨#[]⟩) (.int .i64 0) (.slice none 0 0) (.int .i64 0) (.int .i64 0) (.int .i64 0)) rfl rfl rfl (told_plain (chain_less (HT3.out.fin (z11 (z0t S.thing [] b nb) _ _ _) (z1s w3 _ _ _ _ _ _ _ _ _))) rfl rfl)
theorem hask_lost (S:RpcSays UG OG LG NG) (b nb:Nat) (G:Nat→Prop) (w:World) (h:Hd) (a:Ak) (hh:HMz NG [] b nb G w h) (fate:Int) (h0:fate≠0) (h2:fate≠2) (h3:fate≠3) :
  Calls Tryz.prog 41 #[.pointer (some ⟨b,0,none⟩),askV a,.int .i64 fate] w fun e w'=>ToldBy (heardT zeroX false) (HMz NG [] b nb) G w h zeroX e w':=by
 have HT0:=boxz_start (tz:=49) (Z:=zero8) (z0t S.thing [] b nb) hh (askC a).toArray
 generalize hW0:((w.alloc (.cells (askC a).toArray 34)).alloc (.cells zero8 49))=W0 at *
 obtain ⟨H,v,hH,cu,_,hb⟩:=box_cells HT0
 have HN:=Lh (hnodes_any b nb H W0 h hH)
 obtain ⟨l1,l2⟩:=HT0.small
 clear hh hH
 obtain ⟨k,un,ep,pg,sz,nn,s,pe,L,ao,cap⟩:=a
 obtain ⟨n,held⟩:=h
 try simp only at *
 have EW:=Lh (show ((w.alloc (.cells #[.int .i64 k,.int .i64 un,.int .i64 ep,.int .i64 pg,.int .i64 sz,.int .i64 nn,.string s,.int .i64 pe,.slice ao L.length cap] 34)).alloc (.cells #[.int .i64 0,.int .i64 0,.string ⟨#[]⟩,.int .i64 0,.slice none 0 0,.int .i64 0,.int .i64 0,.int .i64 0] 49))=W0 from hW0)
 have HT:=Lh (show BoxZ 49 #[.int .i64 0,.int .i64 0,.string ⟨#[]⟩,.int .i64 0,.slice none 0 0,.int .i64 0,.int .i64 0,.int .i64 0] (HMz NG [] b nb) w W0 G ⟨n,held⟩ #[.int .i64 k,.int .i64 un,.int .i64 ep,.int .i64 pg,.int .i64 sz,.int .i64 nn,.string s,.int .i64 pe,.slice ao L.length cap] from HT0)
 clear hW0 HT0
 have d0:(fate == 0)=false:=beq_eq_false_iff_ne.2 h0
 have d2:(fate == 2)=false:=beq_eq_false_iff_ne.2 h2
 have d3:(fate == 3)=false:=beq_eq_false_iff_ne.2 h3
 have ha:=z03 HT.out.ans
 obtain ⟨⟨ny0,ny1,ny2,ny3,ny4,ny5,ny6,ny7⟩,nf0,nf1,nf2,nf3,nf4,nf5,nf6,nf7⟩:=ha
 clear h0 h2 h3
 show Calls _ _ #[.pointer (some ⟨b,0,none⟩),.agg #[.int .i64 k,.int .i64 un,.int .i64 ep,.int .i64 pg,.int .i64 sz,.int .i64 nn,.string s,.int .i64 pe,.slice ao L.length cap],.int .i64 fate] w _
 go_enter Tryz.func41,Tryz.ntmps41
 go_wp2_with (go_at_call 29;rw [EW.out];refine HN.out.mono ?_;rintro e w1 ⟨rfl,rfl⟩)
 exact ans_ret2 (x:=zeroX) (ao:=none) (cap:=0) (c:=false) rfl (hp_eight HT.out.ans (.int .i64 0) (.int .i64 0) (.string ⟨#[]⟩) (.int .i64 0) (.slice none 0 0) (.int .i64 0) (.int .i64 0) (.int .i64 0)) rfl rfl rfl (told_plain (HT.out.fin (z0t S.thing [] b nb) (z1s W0 _ _ _ _ _ _ _ _ _)) rfl rfl)
theorem hask_full (S:RpcSays UG OG LG NG) (b nb:Nat) (G:Nat→Prop) (w:World) (h:Hd) (a:Ak) (hh:HMz NG [] b nb G w h) (hl:¬ h.held.length < 64) :
  Calls Tryz.prog 41 #[.pointer (some ⟨b,0,none⟩),askV a,.int .i64 3] w fun e w'=>ToldBy (heardT zeroX false) (HMz NG [] b nb) G w h zeroX e w':=by
 have HT0:=boxz_start (tz:=49) (Z:=zero8) (z0t S.thing [] b nb) hh (askC a).toArray
 generalize hW0:((w.alloc (.cells (askC a).toArray 34)).alloc (.cells zero8 49))=W0 at *
 obtain ⟨H,v,hH,cu,_,hb⟩:=box_cells HT0
 have HN:=Lh (hnodes_any b nb H W0 h hH)
 obtain ⟨l1,l2⟩:=HT0.small
 have HH:=Lh (hold_no (a:=a) b nb H W0 h hH hl)
 clear hh hH
 obtain ⟨k,un,ep,pg,sz,nn,s,pe,L,ao,cap⟩:=a
 obtain ⟨n,held⟩:=h
 try simp only at *
 have EW:=Lh (show ((w.alloc (.cells #[.int .i64 k,.int .i64 un,.int .i64 ep,.int .i64 pg,.int .i64 sz,.int .i64 nn,.string s,.int .i64 pe,.slice ao L.length cap] 34)).alloc (.cells #[.int .i64 0,.int .i64 0,.string ⟨#[]⟩,.int .i64 0,.slice none 0 0,.int .i64 0,.int .i64 0,.int .i64 0] 49))=W0 from hW0)
 have HT:=Lh (show BoxZ 49 #[.int .i64 0,.int .i64 0,.string ⟨#[]⟩,.int .i64 0,.slice none 0 0,.int .i64 0,.int .i64 0,.int .i64 0] (HMz NG [] b nb) w W0 G ⟨n,held⟩ #[.int .i64 k,.int .i64 un,.int .i64 ep,.int .i64 pg,.int .i64 sz,.int .i64 nn,.string s,.int .i64 pe,.slice ao L.length cap] from HT0)
 clear hW0 HT0
 have q:=HT.out.ask
 obtain ⟨⟨q0,q1,q2,q3,q4,q5,q6,q7,q8⟩,_⟩:=z0g q
 clear q hl
 show Calls _ _ #[.pointer (some ⟨b,0,none⟩),.agg #[.int .i64 k,.int .i64 un,.int .i64 ep,.int .i64 pg,.int .i64 sz,.int .i64 nn,.string s,.int .i64 pe,.slice ao L.length cap],.int .i64 3] w _
 go_enter Tryz.func41,Tryz.ntmps41
 go_wp2_with (first | (go_at_call 29;rw [EW.out];refine HN.out.mono ?_;rintro e w1 ⟨rfl,rfl⟩) | (go_at_call 78;refine HH.out.mono ?_;rintro e w3 ⟨rfl,hb3⟩;have HT3:=Lh (HT.out.below (z0t S.thing [] b nb) hb3);obtain ⟨nl1,nl2⟩:=HT3.out.small;obtain ⟨⟨ny0,ny1,ny2,ny3,ny4,ny5,ny6,ny7⟩,nf0,nf1,nf2,nf3,nf4,nf5,nf6,nf7⟩:=z03 HT3.out.ans))
 exact ans_ret2 (x:=zeroX) (ao:=none) (cap:=0) (c:=false) rfl (hp_eight HT3.out.ans (.int .i64 0) (.int .i64 0) (.string ⟨#[]⟩) (.int .i64 0) (.slice none 0 0) (.int .i64 0) (.int .i64 0) (.int .i64 0)) rfl rfl rfl (told_plain (HT3.out.fin (z0t S.thing [] b nb) (z1s w3 _ _ _ _ _ _ _ _ _)) rfl rfl)
theorem hask_held (S:RpcSays UG OG LG NG) (b nb:Nat) (G:Nat→Prop) (w:World) (h:Hd) (a:Ak) (hh:HMz NG [] b nb G w h) (ok:AkOk a) (hL:fewL a.L) (hs:a.data.size≤1000000) (hA:∀ W,Kept (fun k=>¬ G k) w W→CL W a.ao a.L) (hl:h.held.length < 64) :
  Calls Tryz.prog 41 #[.pointer (some ⟨b,0,none⟩),askV a,.int .i64 3] w fun e w'=>ToldBy (heardT zeroX false) (HMz NG [] b nb) G w ⟨h.n,h.held ++ [a.plain]⟩ zeroX e w':=by
 have HT0:=boxz_start (tz:=49) (Z:=zero8) (z0t S.thing [] b nb) hh (askC a).toArray
 generalize hW0:((w.alloc (.cells (askC a).toArray 34)).alloc (.cells zero8 49))=W0 at *
 obtain ⟨H,v,hH,cu,_,hb⟩:=box_cells HT0
 have HN:=Lh (hnodes_any b nb H W0 h hH)
 obtain ⟨l1,l2⟩:=HT0.small
 have HH:=Lh (show Calls Tryz.prog 78 #[.pointer (some ⟨b,0,none⟩),askV a] W0 fun e w3=>e=.returned (.tuple #[])∧BoxZ 49 zero8 (HMz NG [] b nb) w w3 G ⟨h.n,h.held ++ [a.plain]⟩ (askC a).toArray from by
  obtain ⟨H2,hH2,hkk,hU⟩:=HT0.use2
  refine (hold_yes S.thing b nb H2 W0 h a hH2 ⟨ok,hL,hs⟩ (fun W hk=>hA W (hkk W hk)) hl).mono ?_
  rintro e w3 ⟨he,hl⟩
  exact ⟨he,hU _ w3 _ hl⟩)
 clear ok hL hs hA
 clear hh hH
 obtain ⟨k,un,ep,pg,sz,nn,s,pe,L,ao,cap⟩:=a
 obtain ⟨n,held⟩:=h
 try simp only at *
 have EW:=Lh (show ((w.alloc (.cells #[.int .i64 k,.int .i64 un,.int .i64 ep,.int .i64 pg,.int .i64 sz,.int .i64 nn,.string s,.int .i64 pe,.slice ao L.length cap] 34)).alloc (.cells #[.int .i64 0,.int .i64 0,.string ⟨#[]⟩,.int .i64 0,.slice none 0 0,.int .i64 0,.int .i64 0,.int .i64 0] 49))=W0 from hW0)
 have HT:=Lh (show BoxZ 49 #[.int .i64 0,.int .i64 0,.string ⟨#[]⟩,.int .i64 0,.slice none 0 0,.int .i64 0,.int .i64 0,.int .i64 0] (HMz NG [] b nb) w W0 G ⟨n,held⟩ #[.int .i64 k,.int .i64 un,.int .i64 ep,.int .i64 pg,.int .i64 sz,.int .i64 nn,.string s,.int .i64 pe,.slice ao L.length cap] from HT0)
 clear hW0 HT0
 have q:=HT.out.ask
 obtain ⟨⟨q0,q1,q2,q3,q4,q5,q6,q7,q8⟩,_⟩:=z0g q
 clear q hl
 show Calls _ _ #[.pointer (some ⟨b,0,none⟩),.agg #[.int .i64 k,.int .i64 un,.int .i64 ep,.int .i64 pg,.int .i64 sz,.int .i64 nn,.string s,.int .i64 pe,.slice ao L.length cap],.int .i64 3] w _
 go_enter Tryz.func41,Tryz.ntmps41
 go_wp2_with (first | (go_at_call 29;rw [EW.out];refine HN.out.mono ?_;rintro e w1 ⟨rfl,rfl⟩) | (go_at_call 78;refine HH.out.mono ?_;rintro e w3 ⟨rfl,ht3⟩;have HT3:=Lh ht3;clear ht3;obtain ⟨nl1,nl2⟩:=HT3.out.small;obtain ⟨⟨ny0,ny1,ny2,ny3,ny4,ny5,ny6,ny7⟩,nf0,nf1,nf2,nf3,nf4,nf5,nf6,nf7⟩:=z03 HT3.out.ans))
 exact ans_ret2 (x:=zeroX) (ao:=none) (cap:=0) (c:=false) rfl (hp_eight HT3.out.ans (.int .i64 0) (.int .i64 0) (.string ⟨#[]⟩) (.int .i64 0) (.slice none 0 0) (.int .i64 0) (.int .i64 0) (.int .i64 0)) rfl rfl rfl (told_plain (HT3.out.fin (z0t S.thing [] b nb) (z1s w3 _ _ _ _ _ _ _ _ _)) rfl rfl)
end
theorem z0u (b:Nat) (G:Nat→Prop) (w:World) (q:Qa) (h:AQ b G w q) :
  Calls Tryz.prog 72 #[ptrP b] w fun e w'=>e=.returned (.bool (decide (q.at_=5)))∧w=w':=by
 obtain ⟨ao,cap,h1,_⟩:=h.open
 obtain ⟨⟨_,_,_,c3,_⟩,_⟩:=z0g h1
 clear h h1
 unfold ptrP
 generalize q.at_=m at *
 by_cases h5:m=5
 ·subst h5
  go_enter Tryz.func72,Tryz.ntmps72
  go_wp2_with fail
  go_ret
  exact ⟨rfl,rfl⟩
 ·have d5:decide (m=5)=false:=decide_eq_false h5
  go_enter Tryz.func72,Tryz.ntmps72
  go_wp2_with fail
  go_ret
  exact ⟨rfl,rfl⟩
theorem ap_isOver_nil (w:World):Calls Tryz.prog 72 #[.pointer none] w fun e w'=>e=.returned (.bool true)∧w=w':=by
 go_enter Tryz.func72,Tryz.ntmps72
 go_wp2_with fail
 go_ret
 exact ⟨rfl,rfl⟩
theorem ap_end (b:Nat) (G:Nat→Prop) (w:World) (q:Qa) (x y:Int) (h:AQ b G w q) :
  Calls Tryz.prog 70 #[ptrP b,.int .i64 x,.int .i64 y] w fun e w'=>e=.returned (.tuple #[])∧Leaves (AQ b) G w w' (q.ends x y):=by
 obtain ⟨ao,cap,h1,_,h3⟩:=h.open
 obtain ⟨⟨c0,c1,c2,c3,c4,c5,c6,c7,c8⟩,f0,f1,f2,f3,f4,f5,f6,f7,f8⟩:=z0g h1
 have H3:=Lh h3
 have H1:=Lh h1
 have hb:=lt_of_block h1
 clear h h1 h3
 unfold ptrP
 go_enter Tryz.func70,Tryz.ntmps70
 go_wp2_with fail
 go_end0
 exact ⟨rfl,H3.out _ _ (((((Kept.refl _ w).setCell (p:=⟨b,3,none⟩) (fun h=>h rfl) _).setCell (p:=⟨b,5,none⟩) (fun h=>h rfl) _).setCell (p:=⟨b,8,none⟩) (fun h=>h rfl) _).setCell (p:=⟨b,2,none⟩) (fun h=>h rfl) _) rfl (nset2 (nset8 (nset5 (nset3 H1.out _) _) _) _)⟩
theorem ap_waits (b:Nat) (G:Nat→Prop) (w:World) (q:Qa) (c:Int) (h:AQ b G w q) :
  Calls Tryz.prog 74 #[ptrP b,.int .i64 c] w fun e w'=>e=.returned (.bool (q.waits c))∧w=w':=by
 obtain ⟨ao,cap,h1,_⟩:=h.open
 obtain ⟨⟨_,_,_,c3,_⟩,_⟩:=z0g h1
 have hb:=lt_of_block h1
 clear h h1
 unfold ptrP Qa.waits
 generalize q.at_=m at *
 by_cases h47:c=47
 ·subst h47
  go_enter Tryz.func74,Tryz.ntmps74
  go_wp2_with fail
  go_ret
  exact ⟨rfl,rfl⟩
 ·have d47:decide (c=47)=false:=decide_eq_false h47
  rw [d47,Bool.false_or]
  by_cases h45:c=45
  ·subst h45
   by_cases h3:m=3
   ·subst h3
    go_enter Tryz.func74,Tryz.ntmps74
    go_wp2_with fail
    go_ret
    exact ⟨rfl,rfl⟩
   ·by_cases h4:m=4
    ·subst h4
     go_enter Tryz.func74,Tryz.ntmps74
     go_wp2_with fail
     go_ret
     exact ⟨rfl,rfl⟩
    ·have e:(decide ((45:Int)=45) && (decide (m≠3) && decide (m≠4)))=true:=by simp [h3,h4]
     rw [e]
     have d3:(m != 3)=true:=by simpa using h3
     have d4:(m != 4)=true:=by simpa using h4
     go_enter Tryz.func74,Tryz.ntmps74
     go_wp2_with fail
     go_ret
     exact ⟨rfl,rfl⟩
  ·have d45:decide (c=45)=false:=decide_eq_false h45
   rw [d45,Bool.false_and]
   have e47:(c == 47)=false:=by simpa using h47
   have e45:(c == 45)=false:=by simpa using h45
   go_enter Tryz.func74,Tryz.ntmps74
   go_wp2_with fail
   go_ret
   exact ⟨rfl,rfl⟩
theorem ap_over (b:Nat) (G:Nat→Prop) (w:World) (q:Qa) (h:AQ b G w q) :
  Calls Tryz.prog 42 #[ptrP b] w fun e w'=>e=.returned (.tuple #[.int .i64 (if q.at_=5 then q.addr else 0),.int .i64 (if q.at_=5 then q.err else 0),.bool (decide (q.at_=5))])∧Below w.heap.size w w':=by
 have C:=Lh (z0u b G w q h)
 obtain ⟨ao,cap,h1,_⟩:=h.open
 obtain ⟨⟨c0,c1,c2,c3,c4,c5,c6,c7,c8⟩,_⟩:=z0g h1
 have hb:=lt_of_block h1
 clear h h1
 unfold ptrP at *
 by_cases h5:q.at_=5
 ·rw [decide_eq_true h5,if_pos h5,if_pos h5]
  rw [decide_eq_true h5] at C
  clear h5 c3
  go_enter Tryz.func42,Tryz.ntmps42
  go_wp2_with (go_at_call 72;refine C.out.mono ?_;rintro e w1 ⟨rfl,rfl⟩)
  go_quiet (fail)
  go_wp2_with fail
  go_ret3
  exact ⟨rfl,below_drewN (Below.refl _ _) _⟩
 ·rw [decide_eq_false h5,if_neg h5,if_neg h5]
  rw [decide_eq_false h5] at C
  clear h5 c3
  go_enter Tryz.func42,Tryz.ntmps42
  go_wp2_with (go_at_call 72;refine C.out.mono ?_;rintro e w1 ⟨rfl,rfl⟩)
  go_ret3
  exact ⟨rfl,Below.refl _ _⟩
theorem ap_nil_over (w:World):Calls Tryz.prog 42 #[.pointer none] w fun e w'=>e=.returned (.tuple #[.int .i64 0,.int .i64 1,.bool true])∧Below w.heap.size w w':=by
 go_enter Tryz.func42,Tryz.ntmps42
 go_wp2_with fail
 go_ret3
 exact ⟨rfl,Below.refl _ _⟩
def RT (UG:Nat→Nat→(Nat→Prop)→World→Us→Prop) (OG:Nat→(Nat→Prop)→World→Od→Prop) (LG:Nat→(Nat→Prop)→World→Ly→Prop) (r:Nat) (A:Array Value) (ro rl:Nat) (B:Nat→Nat × Nat) (G:Nat→Prop) (w:World) (n:Nd):Prop:=TabP A 16 B ro rl∧BundG 19 (nodeP UG OG LG r A ro rl B n) G w
section
variable {UG:Nat→Nat→(Nat→Prop)→World→Us→Prop} {OG:Nat→(Nat→Prop)→World→Od→Prop} {LG:Nat→(Nat→Prop)→World→Ly→Prop} {r:Nat} {A:Array Value} {ro rl:Nat} {B:Nat→Nat × Nat} {n:Nd} {G:Nat→Prop} {w:World}
theorem rt_thing (HT:Three UG OG LG) (r:Nat) (A:Array Value) (ro rl:Nat) (B:Nat→Nat × Nat):Thing (RT UG OG LG r A ro rl B) where
 lt:=by
  rintro G w n ⟨h1,h2⟩
  exact h2.lt (fun i _=>z0r HT r A ro rl B n i)
 keep:=by
  rintro G S w w' n ⟨h1,h2⟩ hk hS
  exact ⟨h1,h2.keep (fun i _=>z0r HT r A ro rl B n i) hk hS⟩
theorem RT.rm (h:RT UG OG LG r A ro rl B G w n):RM UG OG LG r G w n:=⟨A,ro,rl,B,h⟩
theorem RM.rt (h:RM UG OG LG r G w n):∃ A ro rl B,RT UG OG LG r A ro rl B G w n:=h
theorem rt_putL (h1:TabP A 16 B ro rl) {y:Ly} {G':Nat→Prop} {W:World} (h:BundG 19 (swapP (nodeP UG OG LG r A ro rl B n) 0 (fun F W=>LG rl F W y)) G' W):RT UG OG LG r A ro rl B G' W (n.putL y) :=
 ⟨h1,h.same (fun i _ F W hF=>by match i,hF with | 0,hF=>exact hF | 1,hF=>exact hF | 2,hF=>exact hF | j+3,hF=>exact hF)⟩
theorem rt_putO (h1:TabP A 16 B ro rl) {o:Od} {G':Nat→Prop} {W:World} (h:BundG 19 (swapP (nodeP UG OG LG r A ro rl B n) 1 (fun F W=>OG ro F W o)) G' W):RT UG OG LG r A ro rl B G' W (n.putO o) :=
 ⟨h1,h.same (fun i _ F W hF=>by match i,hF with | 0,hF=>exact hF | 1,hF=>exact hF | 2,hF=>exact hF | j+3,hF=>exact hF)⟩
theorem rt_putU (h1:TabP A 16 B ro rl) {k:Nat} {u:Us} {G':Nat→Prop} {W:World} (h:BundG 19 (swapP (nodeP UG OG LG r A ro rl B n) (k+3) (fun F W=>UG (B k).1 (B k).2 F W u)) G' W):RT UG OG LG r A ro rl B G' W (n.putU k u):=by
 refine ⟨h1,h.same (fun i _ F W hF=>?_)⟩
 match i,hF with
 | 0,hF=>exact hF
 | 1,hF=>exact hF
 | 2,hF=>exact hF
 | j+3,hF =>
  unfold swapP at hF
  by_cases e:j=k
  ·subst e
   rw [if_pos rfl] at hF
   show UG _ _ F W ((n.putU j u).u j)
   rw [putU_at]
   exact hF
  ·rw [if_neg (by omega)] at hF
   show UG _ _ F W ((n.putU k u).u j)
   rw [putU_off n u e]
   exact hF
theorem RT.block (h:RT UG OG LG r A ro rl B G w n):w.heap[r]?=some (.cells A 118 (0,0))∧G r:=by
 obtain ⟨F,h3,h4⟩:=h.2.look (i:=2) (by omega)
 exact ⟨h3.1,h4 r ((h3.2 r).2 rfl)⟩
theorem RT.atU (h:RT UG OG LG r A ro rl B G w n) {i:Nat} (hi:i < 16):w.cell? ⟨r,i,none⟩=some (.pointer (some ⟨(B i).1,0,none⟩)):=(z02 h.block.1 i).trans (h.1.at_ i hi)
theorem RT.atO (h:RT UG OG LG r A ro rl B G w n):w.cell? ⟨r,16,none⟩=some (.pointer (some ⟨ro,0,none⟩)):=(z02 h.block.1 16).trans h.1.o
theorem RT.atL (h:RT UG OG LG r A ro rl B G w n):w.cell? ⟨r,17,none⟩=some (.pointer (some ⟨rl,0,none⟩)):=(z02 h.block.1 17).trans h.1.l
theorem pans_L (o:Od) (a:Ak):(o.ans a).L=[]:=by
 unfold Od.ans
 repeat' split
 all_goals rfl
theorem rm_ask (HT:Three UG OG LG) (b:Nat) (G:Nat→Prop) (w:World) (n:Nd) (a:Ak) (h:RM UG OG LG b G w n) (ha:AkOk a) (hL:fewL a.L) (hs:a.data.size≤1000000) (hu:n.l.used.length≤100000) (hA:∀ W,Kept (fun k=>¬ G k) w W→CL W a.ao a.L) :
  Calls Tryz.prog 77 #[ptrN b,askV a] w fun e w'=>Tells (RM UG OG LG b) G w (n.done a) (n.ans a) e w':=by
 obtain ⟨A,ro,rl,B,h⟩:=h.rt
 have hT:=rt_thing HT b A ro rl B
 have CO:=fun (H:Nat→Prop) (W:World) (hH:RT UG OG LG b A ro rl B H W n)=>rp_order hH.atO
 have CL0:=fun (H:Nat→Prop) (W:World) (hH:RT UG OG LG b A ro rl B H W n)=>rp_layout hH.atL
 have kin:∀ {H:Nat→Prop} {W:World},(∀ W2,Kept (fun k=>¬ H k) W W2→Kept (fun k=>¬ G k) w W2)→AkIn W a:=fun {H W} hk=>⟨ha,hA W (hk W (Kept.refl _ W))⟩
 by_cases h1:1≤a.kind∧a.kind≤5
 ·by_cases h2:0≤a.unit∧a.unit≤15
  ·obtain ⟨i,hi⟩:∃ i:Nat,a.unit=i:=⟨a.unit.toNat,by omega⟩
   have hit:a.unit.toNat=i:=by omega
   have hi16:i < 16:=by omega
   rw [show n.ans a=(n.u i).ans a from by unfold Nd.ans;rw [if_pos h1,if_pos h2,hit],show n.done a=n.putU i ((n.u i).done a) from by unfold Nd.done;rw [if_pos h1,if_pos h2,hit]]
   refine (rp_do_unit hT G w n (n.putU i ((n.u i).done a)) h (some ⟨b,0,none⟩) (some ⟨(B i).1,0,none⟩) (some ⟨ro,0,none⟩) (some ⟨rl,0,none⟩) a ((n.u i).ans a) (fun _ _=>True) h1 (fun H W hH=>by rw [hi];exact rp_unit_yes hi16 (hH.atU hi16)) CO CL0 (fun H W hH hk=>?_)).mono (fun e w' ht=>ht.tells.to (fun H W hH=>RT.rm hH))
   refine (bundg_tells (i:=i+3) (V:=UG (B i).1 (B i).2) (v':=(n.u i).done a) (N:=RT UG OG LG b A ro rl B) (s':=n.putU i ((n.u i).done a)) (x:=(n.u i).ans a) (fun i _=>z0r HT b A ro rl B n i) hH.2 (by omega) (fun G' W h=>rt_putU hH.1 h) (fun F hF hFG=>?_)).mono (fun e w' ht=>TellsQ.of ht)
   refine (HT.u.ask (B i).1 (B i).2 F W (n.u i) a hF (kin hk) hs).mono ?_
   rintro e w' ⟨he,hl⟩
   exact tells_plain hl (ans_L _ _) (by rw [he,ansV_U])
  ·rw [show n.ans a=anP 1 0 noS 0 from by unfold Nd.ans;rw [if_pos h1,if_neg h2],show n.done a=n from by unfold Nd.done;rw [if_pos h1,if_neg h2]]
   refine (rp_do_unit hT G w n n h (some ⟨b,0,none⟩) none (some ⟨ro,0,none⟩) (some ⟨rl,0,none⟩) a (anP 1 0 noS 0) (fun _ _=>True) h1 (fun H W hH=>rp_unit_no b a.unit (by omega) W) CO CL0 (fun H W hH hk=>?_)).mono (fun e w' ht=>ht.tells.to (fun H W hH=>RT.rm hH))
   refine (HT.u.nil_ask a W (kin hk) hs).mono ?_
   rintro e w' ⟨he,hb⟩
   exact TellsQ.of (tells_plain (Leaves.same hT hH hb) rfl (by rw [he];rfl))
 by_cases h2:6≤a.kind∧a.kind≤8
 ·rw [show n.ans a=n.o.ans a from by unfold Nd.ans;rw [if_neg h1,if_pos h2],show n.done a=n.putO (n.o.done a) from by unfold Nd.done;rw [if_neg h1,if_pos h2]]
  obtain ⟨x0,CU⟩:∃ x0:Option Addr,∀ H W,RT UG OG LG b A ro rl B H W n→Calls Tryz.prog 30 #[.pointer (some ⟨b,0,none⟩),.int .i64 a.unit] W fun e w'=>e=.returned (.pointer x0)∧W=w':=by
   by_cases hi:0≤a.unit∧a.unit≤15
   ·obtain ⟨i,hi2⟩:∃ i:Nat,a.unit=i:=⟨a.unit.toNat,by omega⟩
    exact ⟨some ⟨(B i).1,0,none⟩,fun H W hH=>by rw [hi2];exact rp_unit_yes (by omega) (hH.atU (by omega))⟩
   ·exact ⟨none,fun H W hH=>rp_unit_no b a.unit (by omega) W⟩
  refine (rp_do_order hT G w n (n.putO (n.o.done a)) h (some ⟨b,0,none⟩) x0 (some ⟨ro,0,none⟩) (some ⟨rl,0,none⟩) a (n.o.ans a) (fun _ _=>True) h2 CU CO CL0 (fun H W hH hk=>?_)).mono (fun e w' ht=>ht.tells.to (fun H W hH=>RT.rm hH))
  refine (bundg_tells (i:=1) (V:=OG ro) (v':=n.o.done a) (N:=RT UG OG LG b A ro rl B) (s':=n.putO (n.o.done a)) (x:=n.o.ans a) (fun i _=>z0r HT b A ro rl B n i) hH.2 (by omega) (fun G' W h=>rt_putO hH.1 h) (fun F hF hFG=>?_)).mono (fun e w' ht=>TellsQ.of ht)
  refine (HT.o.ask ro F W n.o a hF (kin hk)).mono ?_
  rintro e w' ⟨he,hl⟩
  exact tells_plain hl (pans_L _ _) (by rw [he,ansV_O])
 obtain ⟨x0,CU⟩:∃ x0:Option Addr,∀ H W,RT UG OG LG b A ro rl B H W n→Calls Tryz.prog 30 #[.pointer (some ⟨b,0,none⟩),.int .i64 a.unit] W fun e w'=>e=.returned (.pointer x0)∧W=w':=by
  by_cases hi:0≤a.unit∧a.unit≤15
  ·obtain ⟨i,hi2⟩:∃ i:Nat,a.unit=i:=⟨a.unit.toNat,by omega⟩
   exact ⟨some ⟨(B i).1,0,none⟩,fun H W hH=>by rw [hi2];exact rp_unit_yes (by omega) (hH.atU (by omega))⟩
  ·exact ⟨none,fun H W hH=>rp_unit_no b a.unit (by omega) W⟩
 by_cases h3:9≤a.kind∧a.kind≤11
 ·rw [show n.ans a=n.l.ans a from by unfold Nd.ans;rw [if_neg h1,if_neg h2,if_pos h3],show n.done a=n.putL (n.l.done a) from by unfold Nd.done;rw [if_neg h1,if_neg h2,if_pos h3]]
  refine (rp_do_layout hT G w n (n.putL (n.l.done a)) h (some ⟨b,0,none⟩) x0 (some ⟨ro,0,none⟩) (some ⟨rl,0,none⟩) a (n.l.ans a) (fun _ _=>True) h3 CU CO CL0 (fun H W hH hk=>?_)).mono (fun e w' ht=>ht.tells.to (fun H W hH=>RT.rm hH))
  refine (bundg_tells (i:=0) (V:=LG rl) (v':=n.l.done a) (N:=RT UG OG LG b A ro rl B) (s':=n.putL (n.l.done a)) (x:=n.l.ans a) (fun i _=>z0r HT b A ro rl B n i) hH.2 (by omega) (fun G' W h=>rt_putL hH.1 h) (fun F hF hFG=>?_)).mono (fun e w' ht=>TellsQ.of ht)
  exact HT.l.ask rl F W n.l a hF ha hL hu (fun W2 hk2=>hA W2 (hk W2 (hk2.mono (fun k hn hf=>hn (hFG k hf)))))
 ·rw [show n.ans a=anP 1 0 noS 0 from by unfold Nd.ans;rw [if_neg h1,if_neg h2,if_neg h3],show n.done a=n from by unfold Nd.done;rw [if_neg h1,if_neg h2,if_neg h3]]
  refine (rp_do_none hT G w n n h (some ⟨b,0,none⟩) x0 (some ⟨ro,0,none⟩) (some ⟨rl,0,none⟩) a (anP 1 0 noS 0) (fun _ _=>True) (by omega) CU CO CL0).mono ?_
  rintro e w' ⟨he,hl⟩
  exact tells_plain (hl.to (fun H hH=>RT.rm hH)) rfl he
def noneT (G:Nat→Prop) (w:World) (_:Unit):Prop:=∀ k,¬ G k
theorem noneT_thing:Thing noneT where
 lt:=fun h k hk=>absurd hk (h k)
 keep:=fun h _ _=>h
theorem noneT_below {α:Type} {T:(Nat→Prop)→World→α→Prop} {x:α} {w w':World} (h:Leaves T (fun _=>False) w w' x):Below w.heap.size w w':=by
 obtain ⟨_,_,hk,_⟩:=h
 exact hk.toBelow (Nat.le_refl _) (fun k _ h=>h)
theorem noneT_all {H:Nat→Prop} {w w':World} (hH:noneT H w ()) (hb:Below w.heap.size w w'):Leaves noneT H w w' ():=⟨H,hH,Kept.ofBelow hb _,fun k hk=>.inl hk⟩
theorem rm_nil_ask (HT:Three UG OG LG) (HN:∀ (w:World) (a:Ak),AkIn w a→Calls Tryz.prog 178 #[.pointer none,askV a] w fun e w'=>e=.returned (anV 1 0 noS 0)∧Below w.heap.size w w') (a:Ak) (w:World) (ha:AkIn w a) :
  Calls Tryz.prog 77 #[.pointer none,askV a] w fun e w'=>e=.returned (ansV (anP 1 0 noS 0) none 0)∧Below w.heap.size w w':=by
 have h0:noneT (fun _=>False) w ():=fun _ h=>h
 have CU:=fun (H:Nat→Prop) (W:World) (_:noneT H W ())=>rp_unit_nil a.unit W
 have CO:=fun (H:Nat→Prop) (W:World) (_:noneT H W ())=>rp_order_nil W
 have CL0:=fun (H:Nat→Prop) (W:World) (_:noneT H W ())=>rp_layout_nil W
 have fin:∀ e w',TellsQ noneT (fun _=>False) w () (anP 1 0 noS 0) (fun ao cap=>ao=none∧cap=0) e w'→e=.returned (ansV (anP 1 0 noS 0) none 0)∧Below w.heap.size w w':=by
  rintro e w' ⟨ao,cap,C,⟨rfl,rfl⟩,he,_,hl⟩
  exact ⟨he,noneT_below hl⟩
 have kin:∀ {H:Nat→Prop} {W:World},noneT H W ()→(∀ W2,Kept (fun k=>¬ H k) W W2→Kept (fun k=>¬ False) w W2)→AkIn W a:=fun {H W} _ hk=>by
  have h1:=hk W (Kept.refl _ W)
  exact ha.below (h1.toBelow (Nat.le_refl _) (fun k _ h=>h))
 by_cases h1:1≤a.kind∧a.kind≤5
 ·refine (rp_do_unit noneT_thing (fun _=>False) w () () h0 none none none none a (anP 1 0 noS 0) _ h1 CU CO CL0 (fun H W hH hk=>?_)).mono fin
  refine (HN W a (kin hH hk)).mono ?_
  rintro e w' ⟨he,hb⟩
  rw [he]
  exact TellsQ.none (x:=anP 1 0 noS 0) (noneT_all hH hb) rfl
 by_cases h2:6≤a.kind∧a.kind≤8
 ·refine (rp_do_order noneT_thing (fun _=>False) w () () h0 none none none none a (anP 1 0 noS 0) _ h2 CU CO CL0 (fun H W hH hk=>?_)).mono fin
  refine (on_nil_ask W a).mono ?_
  rintro e w' ⟨he,hb⟩
  rw [he]
  exact TellsQ.none (x:=anP 1 0 noS 0) (noneT_all hH hb) rfl
 by_cases h3:9≤a.kind∧a.kind≤11
 ·refine (rp_do_layout noneT_thing (fun _=>False) w () () h0 none none none none a (anP 1 0 noS 0) _ h3 CU CO CL0 (fun H W hH hk=>?_)).mono fin
  refine (HT.l.nil_ask W a (kin hH hk)).mono ?_
  rintro e w' ⟨he,hb⟩
  rw [he]
  exact TellsQ.none (x:=anP 1 0 noS 0) (noneT_all hH hb) rfl
 ·refine (rp_do_none noneT_thing (fun _=>False) w () () h0 none none none none a (anP 1 0 noS 0) (fun _ _=>True) (by omega) CU CO CL0).mono ?_
  rintro e w' ⟨he,hl⟩
  exact ⟨he,noneT_below hl⟩
theorem r_same {f:FuncId} {a:Array Value} {w:World} {v:Value} (h:Calls Tryz.prog f a w fun e w'=>e=.returned v∧w=w'):Calls Tryz.prog f a w fun e w'=>e=.returned v∧Below w.heap.size w w':=h.mono fun e w' ⟨h1,h2⟩=>⟨h1,h2 ▸ Below.refl _ _⟩
theorem rpcSays_of (HT:Three UG OG LG) (HN:∀ (w:World) (a:Ak),AkIn w a→Calls Tryz.prog 178 #[.pointer none,askV a] w fun e w'=>e=.returned (anV 1 0 noS 0)∧Below w.heap.size w w'):RpcSays UG OG LG (RM UG OG LG) where
 units:=HT.u
 order_:=HT.o
 layout_:=HT.l
 thing:=rm_thing HT
 ok:=by
  rintro b G w n ⟨A,ro,rl,B,h1,h2⟩
  refine ⟨fun i hi=>?_,?_,?_⟩
  ·obtain ⟨F,hF,_⟩:=h2.look (i:=i+3) (by omega)
   exact HT.u.ok hF
  ·obtain ⟨F,hF,_⟩:=h2.look (i:=1) (by omega)
   exact HT.o.ok hF
  ·obtain ⟨F,hF,_⟩:=h2.look (i:=0) (by omega)
   exact HT.l.good hF
 new_bad:=fun ep ao cap L room w h hl hg _=>rp_new_bad HT ep ao cap L room w h hl hg
 new_room:=fun ep ao cap L room w h hl hg hr hi=>rp_new_room HT ep ao cap L room w h hl hg hr hi
 new_yes:=fun ep ao cap L room w h hl hg hr=>rp_new_yes HT ep ao cap L room w h hl hg hr (z04 (by have:=(goodB_iff.1 hg).1;omega))
 ask:=fun b G w n a h ha hL hs hu hA=>rm_ask HT b G w n a h ha hL hs hu hA
 unit:=by
  intro b G w n i h hi
  obtain ⟨A,ro,rl,B,h⟩:=h.rt
  refine (rp_unit_yes hi (h.atU hi)).mono ?_
  rintro e w' ⟨he,rfl⟩
  obtain ⟨F,hF,hFG,hbu⟩:=h.2.use (fun i _=>z0r HT b A ro rl B n i) (i:=i+3) (by omega)
  exact ⟨(B i).1,(B i).2,he,Below.refl _ _,F,hF,hFG,fun W u' hl=>hbu (UG (B i).1 (B i).2) (RM UG OG LG b) W _ (n.putU i u') (fun G' W h2=>RT.rm (rt_putU h.1 h2)) hl⟩
 unit_no:=fun b G w n i h hi _=>r_same (rp_unit_no b i hi w)
 order:=by
  intro b G w n h
  obtain ⟨A,ro,rl,B,h⟩:=h.rt
  refine (rp_order h.atO).mono ?_
  rintro e w' ⟨he,rfl⟩
  obtain ⟨F,hF,hFG,hbu⟩:=h.2.use (fun i _=>z0r HT b A ro rl B n i) (i:=1) (by omega)
  exact ⟨ro,he,Below.refl _ _,F,hF,hFG,fun W o' hl=>hbu (OG ro) (RM UG OG LG b) W _ (n.putO o') (fun G' W h2=>RT.rm (rt_putO h.1 h2)) hl⟩
 layout:=by
  intro b G w n h
  obtain ⟨A,ro,rl,B,h⟩:=h.rt
  refine (rp_layout h.atL).mono ?_
  rintro e w' ⟨he,rfl⟩
  obtain ⟨F,hF,hFG,hbu⟩:=h.2.use (fun i _=>z0r HT b A ro rl B n i) (i:=0) (by omega)
  exact ⟨rl,he,Below.refl _ _,F,hF,hFG,fun W l' hl=>hbu (LG rl) (RM UG OG LG b) W _ (n.putL l') (fun G' W h2=>RT.rm (rt_putL h.1 h2)) hl⟩
 nil_ask:=fun a w ha=>rm_nil_ask HT HN a w ha
 nil_unit:=fun i w _=>r_same (rp_unit_nil i w)
 nil_order:=fun w=>r_same (rp_order_nil w)
 nil_layout:=fun w=>r_same (rp_layout_nil w)
end
section
variable {RG:Nat→(Nat→Prop)→World→Rf→Prop} {α:Type} {T:(Nat→Prop)→World→α→Prop} {X:Nat→Prop} {w w':World} {br:Nat} {r:Rf} {a:α}
theorem sr_new (RS:RfmSays RG) (hT:Thing T) (hs:Solo T X w a) {ep:Int} {ao:Option Addr} {cap:Nat} {L:List (List Int)} (hC:CL w ao L) (hf:fewL L) (hn:ao=none→cap=0) (hc:L.length≤cap) (he:i64w ep) :
  Calls Tryz.prog 10 #[.agg #[.int .i64 ep,.slice ao L.length cap]] w fun e w'=>∃ br:Nat,e=.returned (.pointer (some ⟨br,0,none⟩))∧Side T (RG br) X w' a (newRf ep L)∧Below w.heap.size w w':=by
 refine (RS.new ep ao cap L w hC hf hn hc he).mono ?_
 rintro e w' ⟨br,G,h1,h2,h3,h4⟩
 exact ⟨br,h1,Side.made hT hs h4 h2 h3,h4⟩
theorem ask_openR (r:Rf):∃ (kd un qe pg pe:Int) (s:ByteArray) (L:List (List Int)),r.ask=⟨kd,un,qe,pg,0,0,s,pe,L,none,0⟩:=by
 unfold Rf.ask
 repeat' split
 all_goals exact ⟨_,_,_,_,_,_,_,rfl⟩
theorem sr_ask (RS:RfmSays RG) (hT:Thing T) (hs:Side T (RG br) X w a r) {kd un qe pg pe:Int} {s:ByteArray} {L:List (List Int)} (hq:r.ask=⟨kd,un,qe,pg,0,0,s,pe,L,none,0⟩) :
  Calls Tryz.prog 13 #[.pointer (some ⟨br,0,none⟩)] w fun e w'=>∃ (vo:Option Addr) (vc:Nat) (C:Nat→Prop),e=.returned (.tuple #[.agg #[.int .i64 kd,.int .i64 un,.int .i64 qe,.int .i64 pg,.int .i64 0,.int .i64 0,.string s,.int .i64 pe,.slice vo L.length vc],.bool r.asks])∧CG C w' (.slice vo L.length vc) L∧Side T (RG br) (fun k=>X k∨C k) w' a r∧Kept X w w':=by
 refine (side_told_right hT (RS.thing br) hs (fun G hG hX=>RS.ask br G w r hG)).mono ?_
 rintro e w' ⟨ao,cap,C,rfl,h1,h2,h3⟩
 refine ⟨ao,cap,C,?_,?_,h2,h3⟩
 ·unfold askedR
  rw [hq]
  rfl
 ·have:=h1
  rw [hq] at this
  exact this
structure FewR (r:Rf) (x:An):Prop extends FewX x where
 n:r.at_=2→i64w x.n
theorem sr_hear (RS:RfmSays RG) (hT:Thing T) (hs:Side T (RG br) X w a r) {xc xn pe xm xz xe:Int} {xd:ByteArray} {L:List (List Int)} {vo:Option Addr} {vc:Nat} {c:Bool} (hf:FewR r ⟨xc,xn,xd,pe,L,xm,xz,xe⟩) {C:Nat→Prop} (hC:CG C w (.slice vo L.length vc) L) (hX:∀ k,C k→X k) :
  Calls Tryz.prog 21 #[.pointer (some ⟨br,0,none⟩),.agg #[.int .i64 xc,.int .i64 xn,.string xd,.int .i64 pe,.slice vo L.length vc,.int .i64 xm,.int .i64 xz,.int .i64 xe],.bool c] w fun e w'=>e=.returned (.tuple #[])∧Side T (RG br) X w' a (r.hear ⟨xc,xn,xd,pe,L,xm,xz,xe⟩ c)∧Kept X w w' :=
 side_rightX (R:=fun e=>e=.returned (.tuple #[])) hT hs (fun G hG hX2=>RS.hear br G w r ⟨xc,xn,xd,pe,L,xm,xz,xe⟩ vo vc c hG hf.L hf.pe hf.n (fun W hW=>z1e (hC.keep hW (fun k hk=>hX2 k (hX k hk)))))
theorem sr_skip (RS:RfmSays RG) (hT:Thing T) (hs:Side T (RG br) X w a r) :
  Calls Tryz.prog 19 #[.pointer (some ⟨br,0,none⟩)] w fun e w'=>e=.returned (.bool r.mays)∧Side T (RG br) X w' a r.skip∧Kept X w w' :=
 side_right (R:=fun e=>e=.returned (.bool r.mays)) hT (RS.thing br) hs (fun G hG=>RS.skip br G w r hG)
theorem sr_over (RS:RfmSays RG) (hT:Thing T) (hs:Side T (RG br) X w a r) :
  Calls Tryz.prog 15 #[.pointer (some ⟨br,0,none⟩)] w fun e w'=>e=.returned (.tuple #[.int .i64 r.overE,.bool r.overB])∧Side T (RG br) X w' a r∧Below w.heap.size w w':=by
 obtain ⟨_,F,G,_,hG,_⟩:=id hs
 exact (RS.over br G w r hG).mono fun e w' ⟨he,hb⟩=>⟨he,hs.below hT (RS.thing br) hb,hb⟩
end
section
variable {RG:Nat→(Nat→Prop)→World→Rf→Prop} {X:Nat→Prop} {w w':World} {br:Nat} {r:Rf}
end
def Rf.turn (r:Rf) (x:An) (c:Bool):Rf:=if c=true∧x.code=45∧r.mays=true then r.skip else r.hear x c
structure SmR (k:Ak):Prop where
 q:SmQ k
 pe:i64w k.pe
 L:fewL k.L
theorem z1g (h:Hd) (kd un qe pg pe:Int) (s:ByteArray) (L:List (List Int)) (vo:Option Addr) (vc:Nat) (m:Int):h.heard ⟨kd,un,qe,pg,0,0,s,pe,L,vo,vc⟩ m=h.heard ⟨kd,un,qe,pg,0,0,s,pe,L,none,0⟩ m:=by
 unfold Hd.heard
 rw [← plain_ans h.n ⟨kd,un,qe,pg,0,0,s,pe,L,vo,vc⟩]
 rfl
theorem SmR.ok {kd un qe pg pe:Int} {s:ByteArray} {L:List (List Int)} (h:SmR ⟨kd,un,qe,pg,0,0,s,pe,L,none,0⟩) {C:Nat→Prop} {w:World} {vo:Option Addr} {vc:Nat} (hC:CG C w (.slice vo L.length vc) L):AkOk ⟨kd,un,qe,pg,0,0,s,pe,L,vo,vc⟩:=by
 obtain ⟨a2,c2,hv,h1,h2,_⟩:=hC
 obtain ⟨rfl,_,rfl⟩:=Value.slice.inj hv
 have hd:s.size≤1000000:=h.q.data
 have hl:L.length≤255:=h.L.1
 exact ⟨h.q.kind,h.q.unit,h.q.epoch,h.q.page,z04 (x:=0) (by omega),z04 (x:=0) (by omega),by show s.size≤maxLen;unfold maxLen;omega,h.pe,by show L.length≤maxLen;unfold maxLen;omega,fun c hc=>Nat.le_trans (h.L.2 c hc) (by decide),h1,h2⟩
end Go.Proofs.YtkefpbcifcjibaaGreat
