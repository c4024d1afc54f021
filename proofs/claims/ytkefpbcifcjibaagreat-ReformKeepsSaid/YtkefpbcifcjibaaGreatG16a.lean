/- Joined texts. -/
import Derived.Lib.MinMax
import Derived.Test.YtkefpbcifcjibaaGreatG15a
import Derived.Test.YtkefpbcifcjibaaGreatG14a
import Derived.Deep.RegionHeld3
import Derived.Test.YtkefpbcifcjibaaGreatG12a
import Derived.Test.YtkefpbcifcjibaaGreatG08a
import Derived.Test.YtkefpbcifcjibaaGreatG13a
import Derived.Test.YtkefpbcifcjibaaGreatH00
set_option linter.unusedVariables false
set_option maxRecDepth 20000
set_option maxHeartbeats 16000000
namespace Go.Proofs.YtkefpbcifcjibaaGreat
open Go.RowKit
theorem clamp_max (a:Int):∃ m1 m2:Int,max a 0=m1∧min m1 16384=m2∧m2=clampA a∧0≤m2∧m2≤16384:=by
 refine ⟨_,_,rfl,rfl,?_,?_,?_⟩
 ·unfold clampA
  omega
 ·omega
 ·omega
theorem cnt_eq {m c n:Int} (hn:1≤n∧n≤4) (hc:0≤c∧c < n) (hm:0≤m):(m+n - 1 - c) / n=cntB m c n:=by
 unfold cntB
 rcases z0y hn with rfl | rfl | rfl | rfl <;> split <;> omega
theorem pBelow_any (ep:Int) (ao:Option Addr) (cap:Nat) (L:List (List Int)) (a c:Int) (w:World) (h:CL w ao L) (hl:L.length≤255∧∀ c ∈ L,c.length≤255) :
  Calls Tryz.prog 114 #[.agg #[.int .i64 ep,.slice ao L.length cap],.int .i64 a,.int .i64 c] w fun e w'=>e=.returned (.int .i64 (belowR ep L a c))∧Below w.heap.size w w':=by
 have HB0:=Lh ((Below.refl w.heap.size w).alloc (Nat.le_refl _) (.cells #[.int .i64 ep,.slice ao L.length cap] 24))
 have HC:=Lh (h.below HB0.out)
 have HP:=Lh (show PB (w.alloc (.cells #[.int .i64 ep,.slice ao L.length cap] 24)) w.heap.size ep ao L.length cap from heap_alloc_new _ _)
 have CG:=Lh (z0m ep ao cap L _ HC.out hl)
 have hl':(L.length:Int)≤255:=by have:=hl.1;omega
 clear h hl
 by_cases hg:goodB ep L=true
 ·rw [hg] at CG
  obtain ⟨n1,n4⟩:=z0v hg
  by_cases h0:c < 0
  ·rw [show belowR ep L a c=0 from if_neg (by omega)]
   clear hg
   go_enter Tryz.func114,Tryz.ntmps114
   go_wp2_with (go_at_call 44;refine CG.out.mono ?_;rintro e w1 ⟨rfl,hb1⟩;have HB1:=Lh (HB0.out.trans (hb1.mono HB0.out.size));obtain ⟨c0,c1⟩:=(HP.out.below hb1).cells;clear hb1)
   go_ret
   exact ⟨rfl,HB1.out⟩
  by_cases h1:(L.length:Int)≤c
  ·rw [show belowR ep L a c=0 from if_neg (by omega)]
   have h0':0≤c:=by omega
   clear hg h0
   go_enter Tryz.func114,Tryz.ntmps114
   go_wp2_with (go_at_call 44;refine CG.out.mono ?_;rintro e w1 ⟨rfl,hb1⟩;have HB1:=Lh (HB0.out.trans (hb1.mono HB0.out.size));obtain ⟨c0,c1⟩:=(HP.out.below hb1).cells;clear hb1)
   go_ret
   exact ⟨rfl,HB1.out⟩
  have h0':0≤c:=by omega
  have h1':c < (L.length:Int):=by omega
  rw [show belowR ep L a c=cntB (clampA a) c L.length from if_pos ⟨hg,h0',h1'⟩]
  obtain ⟨m1,m2,q1,q2,q3,q4,q5⟩:=clamp_max a
  rw [← q3]
  have HN:=(show (1:Int)≤L.length∧(L.length:Int)≤4 from ⟨by omega,by omega⟩)
  have HR:=cntB_range (a:=m2) HN h0' ⟨q4,q5⟩
  have e1:=cnt_eq HN ⟨h0',h1'⟩ q4
  have e2:IntKind.i64.wrap ((m2+(L.length:Int) - 1 - c).tdiv (L.length:Int))=cntB m2 c L.length:=by
   rw [Int.tdiv_eq_ediv_of_nonneg (by omega),e1];exact IntWalk.i64_in _ (by omega)
  have nz:¬ (L.length:Int)=0:=by omega
  clear hg h0 h1 q3 HR e1 HN
  generalize cntB m2 c L.length=R at *
  go_enter Tryz.func114,Tryz.ntmps114
  go_wp2_with (go_at_call 44;refine CG.out.mono ?_;rintro e w1 ⟨rfl,hb1⟩;have HB1:=Lh (HB0.out.trans (hb1.mono HB0.out.size));obtain ⟨c0,c1⟩:=(HP.out.below hb1).cells;clear hb1)
  go_ret
  exact ⟨rfl,HB1.out⟩
 ·rw [show belowR ep L a c=0 from if_neg (fun e=>hg e.1)]
  rw [Bool.eq_false_iff.2 hg] at CG
  clear hg
  go_enter Tryz.func114,Tryz.ntmps114
  go_wp2_with (go_at_call 44;refine CG.out.mono ?_;rintro e w1 ⟨rfl,hb1⟩;have HB1:=Lh (HB0.out.trans (hb1.mono HB0.out.size));obtain ⟨c0,c1⟩:=(HP.out.below hb1).cells;clear hb1)
  go_ret
  exact ⟨rfl,HB1.out⟩
theorem addrV_no {ep:Int} {L:List (List Int)} {c p:Int} (h:p < 0∨belowR ep L 16384 c≤p):addrV ep L c p=.tuple #[.int .i64 0,.bool false]:=by
 have:addrR ep L c p = -1:=by
  refine addrR_no (fun e=>?_)
  obtain ⟨h1,h2,h3,h4⟩:=e
  obtain ⟨n1,n4⟩:=z0v h1
  rcases h with h | h
  ·omega
  ·rw [show belowR ep L 16384 c=cntB (clampA 16384) c L.length from if_pos ⟨h1,h2⟩,show clampA 16384=16384 from rfl] at h
   have h5:=(cntB_step (a:=16384) (c:=c) (n:=L.length) (k:=p.toNat) ⟨by omega,by omega⟩).1 (by rw [Int.toNat_of_nonneg h3.1];omega)
   omega
 unfold addrV
 rw [this]
 rfl
theorem addrV_yes {ep:Int} {L:List (List Int)} {c p:Int} (h0:0≤p) (h:p < belowR ep L 16384 c):addrV ep L c p=.tuple #[.int .i64 (p * L.length+c),.bool true]∧(0≤p * (L.length:Int)∧p * (L.length:Int)≤65536)∧(0≤c∧c < 4):=by
 unfold belowR at h
 split at h
 ·next hg =>
  obtain ⟨h1,h2⟩:=hg
  obtain ⟨n1,n4⟩:=z0v h1
  rw [show clampA 16384=16384 from rfl] at h
  have h5:=(cntB_step (a:=16384) (c:=c) (n:=L.length) (k:=p.toNat) ⟨by omega,by omega⟩).2 (by omega)
  rw [Int.toNat_of_nonneg h0] at h5
  have h6:=(cntB_range (a:=16384) (c:=c) (n:=L.length) ⟨by omega,by omega⟩ h2.1 ⟨by omega,by omega⟩).2
  have h7:p < 16384:=by
   rcases z0y (n:=L.length) ⟨by omega,by omega⟩ with e | e | e | e <;> rw [e] at h5 <;> omega
  have h8:=mul_small (n:=L.length) ⟨h0,h7⟩ ⟨by omega,by omega⟩
  have:addrR ep L c p=p * L.length+c:=if_pos ⟨h1,h2,⟨h0,h7⟩,by omega⟩
  refine ⟨?_,h8,by omega⟩
  unfold addrV
  rw [this,decide_eq_true (by omega),show max (p * (L.length:Int)+c) 0=p * (L.length:Int)+c by omega]
 ·omega
theorem pAddr_any (ep:Int) (ao:Option Addr) (cap:Nat) (L:List (List Int)) (c p:Int) (w:World) (h:CL w ao L) (hl:L.length≤255∧∀ c ∈ L,c.length≤255) :
  Calls Tryz.prog 84 #[.agg #[.int .i64 ep,.slice ao L.length cap],.agg #[.int .i64 c,.int .i64 p]] w fun e w'=>e=.returned (addrV ep L c p)∧Below w.heap.size w w':=by
 have HB0:=Lh (((Below.refl w.heap.size w).alloc (Nat.le_refl _) (.cells #[.int .i64 ep,.slice ao L.length cap] 24)).alloc (by simp) (.cells #[.int .i64 c,.int .i64 p] 150))
 have HC:=Lh (h.below HB0.out)
 have HP:=Lh (show PB (((w.alloc (.cells #[.int .i64 ep,.slice ao L.length cap] 24)).alloc (.cells #[.int .i64 c,.int .i64 p] 150))) w.heap.size ep ao L.length cap from PB.below (heap_alloc_new _ _) ((Below.refl _ _).alloc (Nat.le_refl _) _))
 have HX:=Lh (show XB (((w.alloc (.cells #[.int .i64 ep,.slice ao L.length cap] 24)).alloc (.cells #[.int .i64 c,.int .i64 p] 150))) (w.heap.size+1) c p from by
  have h:=heap_alloc_new (w.alloc (.cells #[.int .i64 ep,.slice ao L.length cap] 24)) (.cells #[.int .i64 c,.int .i64 p] 150)
  unfold XB
  simpa using h)
 have HM:=Lh hl
 have hl':(L.length:Int)≤255:=by have:=hl.1;omega
 clear h hl
 obtain ⟨W0,hW0⟩:∃ W0,W0=((w.alloc (.cells #[.int .i64 ep,.slice ao L.length cap] 24)).alloc (.cells #[.int .i64 c,.int .i64 p] 150)):=⟨_,rfl⟩
 rw [← hW0] at HB0 HC HP HX
 have CW:=Lh (fun (W:World) (h:Below W0.heap.size W0 W)=>pBelow_any ep ao cap L 16384 c W (HC.out.below h) HM.out)
 by_cases h0:p < 0
 ·rw [addrV_no (.inl h0)]
  obtain ⟨x0,x1⟩:=HX.out.cells
  rw [hW0] at x0 x1
  go_enter Tryz.func84,Tryz.ntmps84
  go_wp2_with fail
  go_quiet (fail)
  go_wp2_with fail
  go_ret2
  rw [← hW0]
  exact ⟨rfl,below_drewN HB0.out _⟩
 have h0':0≤p:=by omega
 have hd0:decide (p < 0)=false:=decide_eq_false h0
 by_cases h1:belowR ep L 16384 c≤p
 ·rw [addrV_no (.inr h1)]
  clear h0
  generalize belowR ep L 16384 c=R at *
  go_enter Tryz.func84,Tryz.ntmps84
  go_wp2_with fail
  rw [← hW0]
  clear hW0
  go_region_held3 (fun W=>W.cell? ⟨w.heap.size,0,none⟩=some (.int .i64 ep)∧W.cell? ⟨w.heap.size,1,none⟩=some (.slice ao L.length cap)∧W.cell? ⟨w.heap.size+1,0,none⟩=some (.int .i64 c)∧W.cell? ⟨w.heap.size+1,1,none⟩=some (.int .i64 p)∧Below W0.heap.size W0 W∧W0.heap.size≤W.heap.size)
   (first | exact two_start HP.out HX.out | exact two_keep hb7 (by assumption))
   (first
    | (go_at_call 114;refine (CW.out _ (two_below (by assumption))).mono ?_;rintro e w7 ⟨rfl,hb7⟩))
  all_goals
   go_wp2_with fail
   go_ret2
   rename_i hS
   exact ⟨rfl,HB0.out.trans (hS.2.2.2.2.1.mono HB0.out.size)⟩
 have h1':p < belowR ep L 16384 c:=by omega
 obtain ⟨HV,mb,cb⟩:=addrV_yes h0' h1'
 rw [HV]
 clear h0 h1 HV
 generalize belowR ep L 16384 c=R at *
 have ME:=Lh mb
 go_enter Tryz.func84,Tryz.ntmps84
 go_wp2_with fail
 rw [← hW0]
 clear hW0
 generalize hq:p * (L.length:Int)=q at *
 go_region_held3 (fun W=>W.cell? ⟨w.heap.size,0,none⟩=some (.int .i64 ep)∧W.cell? ⟨w.heap.size,1,none⟩=some (.slice ao L.length cap)∧W.cell? ⟨w.heap.size+1,0,none⟩=some (.int .i64 c)∧W.cell? ⟨w.heap.size+1,1,none⟩=some (.int .i64 p)∧Below W0.heap.size W0 W∧W0.heap.size≤W.heap.size)
  (first | exact two_start HP.out HX.out | exact two_keep hb7 (by assumption))
  (first
   | (go_at_call 114;refine (CW.out _ (two_below (by assumption))).mono ?_;rintro e w7 ⟨rfl,hb7⟩))
 all_goals
  rename_i hS
  obtain ⟨s0,s1,s2,s3,s4,s5⟩:=hS
  go_wp2_with fail
  go_ret2
  exact ⟨by rw [hq];rfl,HB0.out.trans (s4.mono HB0.out.size)⟩
theorem un_read (b q:Nat) (G:Nat→Prop) (w:World) (u:Us) (a:Ak) (h:UM b q G w u) :
  Calls Tryz.prog 184 #[ptrV b,askV a] w fun e w'=>e=.returned (anV (u.p.readE a.page) 0 (u.p.readS a.page) 0)∧Leaves (UM b q) G w w' ⟨u.p,u.epoch,u.down⟩:=by
 obtain ⟨k,un,ep,pg,sz,n,s,pe,L,ao,cap⟩:=a
 obtain ⟨p,ue,dn⟩:=u
 simp only at *
 have CC:=Lh z1o
 have HS:=Lh (z0e (z08 b q) h #[.int .i64 k,.int .i64 un,.int .i64 ep,.int .i64 pg,.int .i64 sz,.int .i64 n,.string s,.int .i64 pe,.slice ao L.length cap])
 unfold zeroAn at HS
 have hbw:=h.small
 clear h
 show Calls _ _ #[.pointer (some ⟨b,0,none⟩),.agg #[.int .i64 k,.int .i64 un,.int .i64 ep,.int .i64 pg,.int .i64 sz,.int .i64 n,.string s,.int .i64 pe,.slice ao L.length cap]] w _
 go_enter Tryz.func184,Tryz.ntmps184
 go_wp2_with fail
 generalize hW0:((w.alloc (.cells #[.int .i64 k,.int .i64 un,.int .i64 ep,.int .i64 pg,.int .i64 sz,.int .i64 n,.string s,.int .i64 pe,.slice ao L.length cap] 34)).alloc (.cells #[.int .i64 0,.int .i64 0,.string ⟨#[]⟩,.int .i64 0,.slice none 0 0,.int .i64 0,.int .i64 0,.int .i64 0] 49))=W0 at *
 clear hW0
 obtain ⟨l1,l2⟩:=HS.out.small
 have HD:=Lh (HS.out.drewN (z08 b q) 1)
 obtain ⟨H,hH,hU⟩:=(HS.out.drewN (z08 b q) 1).use
 have x3:W0.cell? ⟨w.heap.size,3,none⟩=some (.int .i64 pg):=z02 HS.out.ask 3
 have x6:W0.cell? ⟨w.heap.size,6,none⟩=some (.string s):=z02 HS.out.ask 6
 have c0:W0.cell? ⟨b,0,none⟩=some (.pointer (some ⟨q,0,none⟩)):=(z09 hH.cells).1
 have hb:b < W0.heap.size:=hH.small
 obtain ⟨F,hF,hok,hnx⟩:=hH.ready
 have HNX:=Lh (fun W2 p' h1 h2=>hU W2 _ (hnx W2 p' h1 h2))
 clear hnx hU hH
 go_region_held3 (fun W=>W.cell? ⟨w.heap.size,3,none⟩=some (.int .i64 pg)∧W.cell? ⟨b,0,none⟩=some (.pointer (some ⟨q,0,none⟩)))
  (first | assumption | exact ⟨x3,c0⟩)
  (first | (go_at_call 189;refine (pread_any F _ q p pg hF hok).mono ?_;rintro e w2 ⟨rfl,hb2⟩;have HT2:=Lh (HD.out.below (z08 b q) hb2);clear hb2;obtain ⟨K2,hK2,_⟩:=HT2.out.th;have S2:w2.cell? ⟨w.heap.size,3,none⟩=some (.int .i64 pg)∧w2.cell? ⟨b,0,none⟩=some (.pointer (some ⟨q,0,none⟩)):=⟨z02 HT2.out.ask 3,(z09 hK2.cells).1⟩;clear hK2))
 go_wp2_with (go_at_call 179;refine (CC.out _ _).mono ?_;rintro e w3 ⟨rfl,hb3⟩;have HT3:=Lh (HT2.out.below (z08 b q) hb3);clear hb3;obtain ⟨nl1,nl2⟩:=HT3.out.small;obtain ⟨⟨ny0,ny1,ny2,ny3,ny4,ny5,ny6,ny7⟩,nfy0,nfy1,nfy2,nfy3,nfy4,nfy5,nfy6,nfy7⟩:=z03 HT3.out.ans)
 exact z0k (x:=anP (p.readE pg) 0 (p.readS pg) 0) (ao:=none) (cap:=0) rfl (z01 ((Below.refl _ _).alloc (Nat.le_refl _) _) (HT3.out.fin (z08 b q)).1) rfl rfl ⟨rfl,(HT3.out.fin (z08 b q)).2.below (z08 b q) ((Below.refl _ _).alloc (Nat.le_refl _) _)⟩
theorem un_seal (b q:Nat) (G:Nat→Prop) (w:World) (u:Us) (a:Ak) (h:UM b q G w u) (hw:i64w a.epoch) :
  Calls Tryz.prog 186 #[ptrV b,askV a] w fun e w'=>e=.returned (anV 0 u.p.tail noS 0)∧Leaves (UM b q) G w w' ⟨u.p,a.epoch,u.down⟩:=by
 obtain ⟨k,un,ep,pg,sz,n,s,pe,L,ao,cap⟩:=a
 obtain ⟨p,ue,dn⟩:=u
 simp only at *
 have HS:=Lh (z0e (z08 b q) h #[.int .i64 k,.int .i64 un,.int .i64 ep,.int .i64 pg,.int .i64 sz,.int .i64 n,.string s,.int .i64 pe,.slice ao L.length cap])
 unfold zeroAn at HS
 have hbw:=h.small
 obtain ⟨c0,c1,c2,f0,f1,f2⟩:=z09 h.cells
 obtain ⟨H,hH,hU⟩:=HS.out.use
 have HE:=hU _ _ (hH.seal hw)
 rw [World.setCell_alloc_past (hn:=by simp;omega),World.setCell_alloc_past (hn:=hbw)] at HE
 replace HE:=Lh HE
 obtain ⟨H2,hH2,_⟩:=HE.out.use
 obtain ⟨F,hF,hok,_⟩:=hH2.ready
 clear h hU hH hH2
 show Calls _ _ #[.pointer (some ⟨b,0,none⟩),.agg #[.int .i64 k,.int .i64 un,.int .i64 ep,.int .i64 pg,.int .i64 sz,.int .i64 n,.string s,.int .i64 pe,.slice ao L.length cap]] w _
 go_enter Tryz.func186,Tryz.ntmps186
 go_wp2_with (first | (go_at_call 191;refine (ptail_any F _ q p hF hok).mono ?_;rintro e w2 ⟨rfl,hb2⟩;have HT3:=Lh (HE.out.below (z08 b q) hb2);clear hb2;obtain ⟨nl1,nl2⟩:=HT3.out.small;obtain ⟨⟨ny0,ny1,ny2,ny3,ny4,ny5,ny6,ny7⟩,nfy0,nfy1,nfy2,nfy3,nfy4,nfy5,nfy6,nfy7⟩:=z03 HT3.out.ans))
 exact z0k (x:=anP 0 p.tail noS 0) (ao:=none) (cap:=0) rfl (HT3.out.fin (z08 b q)).1 rfl rfl ⟨rfl,(HT3.out.fin (z08 b q)).2⟩
theorem sublist_idx {α:Type} {l1 l2:List α} (h:l1.Sublist l2):∃ σ:Nat→Nat,(∀ i (hi:i < l1.length),∃ h2:σ i < l2.length,l2[σ i]=l1[i])∧∀ i j,i < j→j < l1.length→σ i < σ j:=by
 induction h with
 | slnil=>exact ⟨id,fun i hi=>absurd hi (Nat.not_lt_zero i),fun i j _ hj=>absurd hj (Nat.not_lt_zero j)⟩
 | cons a _ ih =>
  obtain ⟨σ,h1,h2⟩:=ih
  refine ⟨fun i=>σ i+1,fun i hi=>?_,fun i j hij hj=>by have:=h2 i j hij hj;show σ i+1 < σ j+1;omega⟩
  obtain ⟨g1,g2⟩:=h1 i hi
  exact ⟨by rw [List.length_cons];show σ i+1 < _+1;omega,by simpa using g2⟩
 | cons_cons a _ ih =>
  obtain ⟨σ,h1,h2⟩:=ih
  refine ⟨fun i=>if i=0 then 0 else σ (i - 1)+1,fun i hi=>?_,fun i j hij hj=>?_⟩
  ·cases i with
   | zero=>exact ⟨by simp,by simp⟩
   | succ i =>
    obtain ⟨g1,g2⟩:=h1 i (by simpa using hi)
    exact ⟨by simp;omega,by simpa using g2⟩
  ·cases j with
   | zero=>omega
   | succ j =>
    cases i with
    | zero=>simp
    | succ i =>
     have:=h2 i j (by omega) (by simpa using hj)
     simp
     omega
structure Base (n:Nd):Prop where
 each:∀ i,(n.u i).p.Ok∧50≤(n.u i).p.room∧∀ x ∈ (n.u i).p.l,x.at_ < 14
structure Turned (E:Int) (M:List (List Int)) (n1:Nd) (qe:Int) (qL:List (List Int)) (n2:Nd):Prop where
 next:nextB E M qe qL=true
 same:Same n1 n2 qe
 base:Base n1
 ep:∀ i,(n1.u i).epoch≤qe
 up:∀ u ∈ unitsR qL,(n1.u u.toNat).down=false
 out:∀ u ∈ unitsR qL,u ∉ unitsR M→∀ q,(n1.u u.toNat).p.kind q=0
theorem unG_mem {E:Int} {M:List (List Int)} {a:Int} {j:Nat} (h:ofB E M a=true) (hj:j < lenG E M a):(unG E M a j:Int) ∈ unitsR M:=by
 obtain ⟨k,hk,_,e,_,_,_⟩:=z12 h
 have hu:=(unG_is h hj).1
 unfold lenG at hj
 rw [e] at hj hu
 rw [z1z,List.mem_flatten,← hu]
 refine ⟨M[k],List.getElem_mem hk,?_⟩
 have:M[k].getD j 0=M[k][j]:=by simp [hj]
 rw [this]
 exact List.getElem_mem hj
section
variable {E:Int} {M:List (List Int)} {n1 n2:Nd} {qe:Int} {qL:List (List Int)} {a:Int}
theorem Turned.gt (T:Turned E M n1 qe qL n2):GtN qe qL n2:=by
 refine ⟨fun a j ha hj=>?_⟩
 have hm:=unG_mem ha hj
 have hu:=T.up _ hm
 rw [Int.toNat_natCast] at hu
 obtain ⟨b1,b2,b3⟩:=T.base.each (unG qe qL a j)
 refine ⟨by rw [T.same.down];exact hu,?_,by rw [T.same.p];exact b2,by rw [T.same.p];exact b1,by rw [T.same.p];exact b3⟩
 rcases T.same.epoch (unG qe qL a j) with e | e
 ·rw [e];exact T.ep _
 ·omega
theorem Turned.goods (T:Turned E M n1 qe qL n2):goodB E M=true∧goodB qe qL=true∧qe=E+1∧qL.length=M.length:=by
 obtain ⟨h1,h2,h3,h4,_⟩:=nextB_iff.1 T.next
 exact ⟨h1,h2,h3,h4⟩
theorem Turned.of (T:Turned E M n1 qe qL n2):(ofB qe qL a=true↔ofB E M a=true)∧ofP qe qL a=ofP E M a:=by
 obtain ⟨h1,h2,_,h4⟩:=T.goods
 have e:ofB qe qL a=true↔ofB E M a=true:=by
  rw [ofB_iff,ofB_iff]
  exact ⟨fun g=>⟨h1,g.2⟩,fun g=>⟨h2,g.2⟩⟩
 refine ⟨e,?_⟩
 unfold ofP
 by_cases g:ofB E M a=true
 ·rw [if_pos g,if_pos (e.2 g),h4]
 ·rw [if_neg g,if_neg (fun h=>g (e.1 h))]
theorem Turned.chain (T:Turned E M n1 qe qL n2) (ha:ofB qe qL a=true):∃ (t:Nat) (σ:Nat→Nat),1≤t∧t≤lenG qe qL a∧(∀ j,j < t→σ j < lenG E M a∧unG qe qL a j=unG E M a (σ j))∧(∀ i j,i < j→j < t→σ i < σ j)∧∀ j,t≤j→j < lenG qe qL a→(unG qe qL a j:Int) ∉ unitsR M:=by
 have hb:=T.of.1.1 ha
 obtain ⟨k,hk,m1,e1,_⟩:=z12 ha
 obtain ⟨l,hl,m2,e2,_⟩:=z12 hb
 have hll:=T.goods.2.2.2
 have hkl:k=l:=by
  rw [hll] at m1
  omega
 subst hkl
 obtain ⟨t,t1,t2,t3,t4⟩:=next_chain T.next hl hk
 obtain ⟨σ,s1,s2⟩:=sublist_idx t3
 have lq:lenG qe qL a=qL[k].length:=by unfold lenG;rw [e1]
 have lo:lenG E M a=M[k].length:=by unfold lenG;rw [e2]
 have uq:∀ j,j < qL[k].length→(unG qe qL a j:Int)=qL[k].getD j 0:=fun j hj=>by
  have:=(unG_is ha (j:=j) (by omega)).1
  rw [e1] at this
  exact this.symm
 have uo:∀ j,j < M[k].length→(unG E M a j:Int)=M[k].getD j 0:=fun j hj=>by
  have:=(unG_is hb (j:=j) (by omega)).1
  rw [e2] at this
  exact this.symm
 have lt:(qL[k].take t).length=t:=by rw [List.length_take];omega
 refine ⟨t,σ,t1,by omega,fun j hj=>?_,fun i j hij hj=>s2 i j hij (by omega),fun j hj hjl=>?_⟩
 ·obtain ⟨g1,g2⟩:=s1 j (by omega)
  refine ⟨by omega,?_⟩
  have h1:=uq j (by omega)
  have h2:=uo (σ j) g1
  have h3:qL[k].getD j 0=M[k].getD (σ j) 0:=by
   have d1:qL[k].getD j 0=qL[k][j]'(by omega):=by simp [show j < qL[k].length by omega]
   have d2:M[k].getD (σ j) 0=M[k][σ j]:=by simp [g1]
   rw [d1,d2,g2,List.getElem_take]
  omega
 ·rw [uq j (by omega)]
  have d1:qL[k].getD j 0=qL[k][j]'(by omega):=by simp [show j < qL[k].length by omega]
  rw [d1]
  refine t4 _ ?_
  rw [List.mem_drop_iff_getElem]
  exact ⟨j - t,by omega,by congr 1;omega⟩
theorem Turned.have (T:Turned E M n1 qe qL n2) (ha:ofB qe qL a=true):∃ (t:Nat) (σ:Nat→Nat),1≤t∧t≤lenG qe qL a∧(∀ j,j < t→σ j < lenG E M a∧GK qe qL n2 a j=GK E M n1 a (σ j)∧GX qe qL n2 a j=GX E M n1 a (σ j))∧(∀ i j,i < j→j < t→σ i < σ j)∧∀ j,t≤j→j < lenG qe qL a→GK qe qL n2 a j=0:=by
 obtain ⟨t,σ,h1,h2,h3,h4,h5⟩:=T.chain ha
 have hp:=(T.of (a:=a)).2
 refine ⟨t,σ,h1,h2,fun j hj=>?_,h4,fun j hj hjl=>?_⟩
 ·obtain ⟨g1,g2⟩:=h3 j hj
  refine ⟨g1,?_,?_⟩
  ·unfold GK
   rw [g2,T.same.p,hp]
  ·unfold GX
   rw [g2,T.same.p,hp]
 ·have hm:=unG_mem ha hjl
  have:=T.out _ hm (h5 j hj hjl) (ofP qe qL a)
  rw [Int.toNat_natCast] at this
  unfold GK
  rw [T.same.p]
  exact this
theorem Turned.pre (T:Turned E M n1 qe qL n2) (ha:ofB qe qL a=true) (hp:PreG E M n1 a):PreG qe qL n2 a:=by
 obtain ⟨t,σ,h1,h2,h3,h4,h5⟩:=T.have ha
 intro j hj h0
 have hjt:j+1 < t:=by
  rcases Nat.lt_or_ge (j+1) t with g | g
  ·exact g
  ·exact absurd (h5 (j+1) g hj) h0
 obtain ⟨a1,a2,a3⟩:=h3 (j+1) hjt
 obtain ⟨b1,b2,b3⟩:=h3 j (by omega)
 have hs:=h4 j (j+1) (by omega) hjt
 obtain ⟨g1,g2⟩:=hp.down (σ (j+1) - σ j) (σ j) (by omega) (by rw [show σ j+(σ (j+1) - σ j)=σ (j+1) by omega,← a2];exact h0)
 rw [show σ j+(σ (j+1) - σ j)=σ (j+1) by omega] at g1 g2
 rw [b2,a2,b3,a3]
 exact ⟨g1,g2⟩
end
theorem GNod.start {E:Int} {M:List (List Int)} {n:Nd} {a:Int} (hg:GtN E M n) (ha:AdG E M a) (hp:PreG E M n a) (h3:GK E M n a 0≠3) :
  GNod E M n (if GK E M n a 0=0 then 2 else GK E M n a 0) (GX E M n a 0) a true n:=by
 have hlen:=z1b ha.of
 have hd:∀ j,j < lenG E M a→GK E M n a j≠0→GK E M n a 0=GK E M n a j∧(GK E M n a 0=1→GX E M n a 0=GX E M n a j):=fun j hj h0=>by
  have:=hp.down j 0 (by omega) (by rw [Nat.zero_add];exact h0)
  rw [Nat.zero_add] at this
  exact this
 have hk:=hg.kinds ha.of (j:=0) (by omega)
 by_cases e0:GK E M n a 0=0
 ·rw [if_pos e0]
  refine ⟨hg,fun j hj=>?_,by omega,fun e=>by omega,fun _=>.inl rfl,fun e=>by omega,fun e=>by omega,hp,fun b i _ _ _=>⟨rfl,rfl⟩,fun _ _=>rfl,fun _=>rfl,rfl,rfl,fun _=>rfl⟩
  by_cases e:GK E M n a j=0
  ·exact .inl e
  ·have:=(hd j hj e).1;omega
 ·rw [if_neg e0]
  refine ⟨hg,fun j hj=>?_,by omega,fun e=>e,fun e=>.inr e,fun e=>absurd e e0,fun e=>absurd e h3,hp,fun b i _ _ _=>⟨rfl,rfl⟩,fun _ _=>rfl,fun _=>rfl,rfl,rfl,fun _=>rfl⟩
  by_cases e:GK E M n a j=0
  ·exact .inl e
  ·obtain ⟨g1,g2⟩:=hd j hj e
   exact .inr ⟨g1.symm,fun h1=>(g2 h1).symm⟩
section
variable {α β:Type} {T:(Nat→Prop)→World→α→Prop} {U:(Nat→Prop)→World→β→Prop} {C G:Nat→Prop} {v:Value} {L:List (List Int)} {w w':World} {s s':α} {x:An} {e:Ending}
variable {n i:Nat} {V:Nat→(Nat→Prop)→World→Prop} {N:(Nat→Prop)→World→β→Prop} {z:β} {P:Program} {fn:FuncId} {args:Array Value}
theorem bundg_leaves (hT:∀ i,i < n→Part (V i)) {F:Nat→Nat→Prop} (h1:∀ i,i < n→V i (F i) w) (h2:∀ i j,i < n→j < n→i≠j→∀ k,F i k→¬ F j k) (h3:∀ k,G k↔∃ i,i < n∧F i k) (hi:i < n)
  (hN:∀ G' W,BundG n (swapP V i (fun F W=>T F W s')) G' W→N G' W z) (hl:Leaves T (F i) w w' s'):Leaves N G w w' z:=by
 obtain ⟨F',r1,r2,r3⟩:=hl
 obtain ⟨G',s1,s2,s3,s4⟩:=bundg_turn (C:=fun _=>False) (U:=fun F W=>T F W s') hT h1 h2 h3 hi (fun k hk=>hk.elim) r1 (fun k hk=>hk.elim) r2 r3
 exact ⟨G',hN G' w' s1,s3,s4⟩
theorem BundG.use (hT:∀ i,i < n→Part (V i)) (h:BundG n V G w) (hi:i < n):∃ F:Nat→Prop,V i F w∧(∀ k,F k→G k)∧
  ∀ {α β:Type} (T:(Nat→Prop)→World→α→Prop) (N:(Nat→Prop)→World→β→Prop) (w':World) (s':α) (z:β),(∀ G' W,BundG n (swapP V i (fun F W=>T F W s')) G' W→N G' W z)→Leaves T F w w' s'→Leaves N G w w' z:=by
 obtain ⟨F,h1,h2,h3⟩:=h
 exact ⟨F i,h1 i hi,fun k hf=>(h3 k).2 ⟨i,hi,hf⟩,fun T N w' s' z hN hl=>bundg_leaves hT h1 h2 h3 hi hN hl⟩
end
theorem z26 {ep:Int} {L:List (List Int)} (h:goodB ep L=true):(unitsR L).length≤16:=by
 obtain ⟨_,h2,h3,_⟩:=goodB_iff.1 h
 have h4:=(z1r [] L.flatten List.Pairwise.nil).1
 have h5:=flat_le L 4 (fun c hc=>(chainB_iff.1 (h3 c hc)).1.2)
 have h6:4 * L.length≤4 * 4:=Nat.mul_le_mul_left _ h2.2
 unfold unitsR
 rw [List.length_nil] at h4
 omega
theorem done_good {y:Ly} (h:goodB y.ep y.L=true) (a:Ak):goodB (y.done a).ep (y.done a).L=true:=by
 unfold Ly.done
 split
 ·split
  ·next hm=>exact may_good hm
  ·exact h
 ·split <;> exact h
end Go.Proofs.YtkefpbcifcjibaaGreat
namespace Go.Proofs.YtkefpbcifcjibaaGreat
open Go.RowKit Go.Maps
theorem lwithin_any (v a b:Int) (w:World) :
  Calls Tryz.prog 202 #[.int .i64 v,.int .i64 a,.int .i64 b] w fun e w'=>e=.returned (.bool (inB v a b))∧w=w':=by
 by_cases h1:a≤v
 ·by_cases h2:v≤b
  ·rw [show inB v a b=true from decide_eq_true ⟨h1,h2⟩]
   go_enter Tryz.func202,Tryz.ntmps202
   go_wp2_with fail
   go_ret
   exact ⟨rfl,rfl⟩
  ·rw [show inB v a b=false from decide_eq_false (fun h=>h2 h.2)]
   have h3:decide (v≤b)=false:=decide_eq_false h2
   clear h2
   go_enter Tryz.func202,Tryz.ntmps202
   go_wp2_with fail
   go_ret
   exact ⟨rfl,rfl⟩
 ·rw [show inB v a b=false from decide_eq_false (fun h=>h1 h.1)]
  have h3:decide (a≤v)=false:=decide_eq_false h1
  clear h1
  go_enter Tryz.func202,Tryz.ntmps202
  go_wp2_with fail
  go_ret
  exact ⟨rfl,rfl⟩
def goodI (p s n:Int):Bool:=inB p 0 16383 && inB s 1 65536 && inB n 0 16384
theorem goodI_no {a:Ak} (h:badM a):goodI a.page a.size a.n=false:=by
 unfold badM at h
 unfold goodI inB
 by_cases h1:0≤a.page∧a.page≤16383
 ·by_cases h2:1≤a.size∧a.size≤65536
  ·have h3:¬ (0≤a.n∧a.n≤16384):=by omega
   rw [decide_eq_false h3,Bool.and_false]
  ·rw [decide_eq_false h2,Bool.and_false,Bool.false_and]
 ·rw [decide_eq_false h1,Bool.false_and,Bool.false_and]
theorem goodI_yes {a:Ak} (h:¬ badM a):goodI a.page a.size a.n=true:=by
 unfold badM at h
 unfold goodI inB
 rw [decide_eq_true (by omega:0≤a.page∧a.page≤16383),decide_eq_true (by omega:1≤a.size∧a.size≤65536),decide_eq_true (by omega:0≤a.n∧a.n≤16384)]
 rfl
theorem lgood_any (p s n:Int) (w:World) :
  Calls Tryz.prog 201 #[.agg #[.int .i64 p,.int .i64 s,.int .i64 n]] w fun e w'=>e=.returned (.bool (goodI p s n))∧Below w.heap.size w w':=by
 have C0:=Lh (fun w=>lwithin_any p 0 16383 w)
 have C1:=Lh (fun w=>lwithin_any s 1 65536 w)
 have C2:=Lh (fun w=>lwithin_any n 0 16384 w)
 have HB:=Lh (z00 w (.cells #[.int .i64 p,.int .i64 s,.int .i64 n] 127))
 unfold goodI
 generalize inB p 0 16383=g0 at *
 generalize inB s 1 65536=g1 at *
 generalize inB n 0 16384=g2 at *
 cases g0 <;> cases g1 <;> cases g2
 all_goals
  go_enter Tryz.func201,Tryz.ntmps201
  go_wp2_with (go_at_call 202;first | (with_reducible refine (C0.out _).mono ?_;rintro e w1 ⟨rfl,rfl⟩) | (with_reducible refine (C1.out _).mono ?_;rintro e w1 ⟨rfl,rfl⟩) | (with_reducible refine (C2.out _).mono ?_;rintro e w1 ⟨rfl,rfl⟩))
  go_ret
  exact ⟨rfl,HB.out⟩
theorem ltold_any (p s n:Int) (w:World) :
  Calls Tryz.prog 197 #[.agg #[.int .i64 p,.int .i64 s,.int .i64 n]] w fun e w'=>e=.returned (.agg #[.int .i64 0,.int .i64 n,.string ⟨#[]⟩,.int .i64 0,.slice none 0 0,.int .i64 p,.int .i64 s,.int .i64 0])∧Below w.heap.size w w':=by
 have H:=z0z w #[.int .i64 p,.int .i64 s,.int .i64 n] #[.int .i64 0,.int .i64 n,.string ⟨#[]⟩,.int .i64 0,.slice none 0 0,.int .i64 p,.int .i64 s,.int .i64 0] 127 49
 go_enter Tryz.func197,Tryz.ntmps197
 go_wp2_with fail
 exact z0k (x:=anM n p s) (ao:=none) (cap:=0) rfl H.2 rfl rfl ⟨rfl,(z00 _ _).alloc (by simp) _⟩
theorem lcoded_any (c:Int) (w:World):Calls Tryz.prog 196 #[.int .i64 c] w fun e w'=>e=.returned (.agg #[.int .i64 c,.int .i64 0,.string ⟨#[]⟩,.int .i64 0,.slice none 0 0,.int .i64 0,.int .i64 0,.int .i64 0])∧Below w.heap.size w w':=by
 go_enter Tryz.func196,Tryz.ntmps196
 go_wp2
 exact z0k (x:=anP c 0 noL 0) (ao:=none) (cap:=0) rfl (heap_alloc_new _ _) rfl rfl ⟨rfl,(Below.refl _ _).alloc (Nat.le_refl _) _⟩
theorem lindex_any (l:List Int) (u:Int) (ao:Option Addr) (cap:Nat) (w:World) (h:NLI w ao cap l) (hl:l.length≤1000000) :
  Calls Tryz.prog 85 #[.slice ao l.length cap,.int .i64 u] w fun e w'=>∃ r:Int,e=.returned (.int .i64 r)∧w=w'∧((0≤r∧hasB l u=true)∨(r < 0∧hasB l u=false)):=by
 have HY:=Lh (fun k (hk:k < l.length)=>show u=l[k]→hasB l u=true from fun e=>decide_eq_true (by rw [e];exact List.getElem_mem hk))
 have HN:=Lh (show u ∉ l.take l.length→hasB l u=false from fun e=>by rw [List.take_of_length_le (Nat.le_refl _)] at e;exact decide_eq_false e)
 generalize hasB l u=R at *
 have HA:=Lh h
 have hl':(l.length:Int)≤1000000:=by omega
 clear h
 go_enter Tryz.func85,Tryz.ntmps85
 go_wp2_with fail
 go_loop [8] (fun i=>∃ k:Nat,i=.int .i64 k∧k≤l.length∧Hid (u ∉ l.take k)) (fun i=>l.length - (intOf i).toNat)
 case atStart=>exact ⟨0,rfl,Nat.zero_le _,Lh (by simp)⟩
 case round =>
  obtain ⟨k,rfl,hk,HT⟩:=hrel
  by_cases hlt:k < l.length
  ·obtain ⟨bk,off,rfl,c0⟩:=HA.out.at k hlt
   have k0:(k:Int) < (l.length:Int):=by omega
   by_cases he:u=l[k]
   ·have HX:=Lh (HY.out k hlt he)
    have d0:(u == l[k])=true:=beq_iff_eq.2 he
    clear he
    generalize l[k]=z at *
    go_wp2_with fail
    go_ret
    exact ⟨_,rfl,rfl,.inl ⟨by omega,HX.out⟩⟩
   ·have HT2:=Lh (show u ∉ l.take (k+1) from by
     rw [List.take_succ_eq_append_getElem hlt,List.mem_append,List.mem_singleton]
     exact fun h=>h.elim HT.out he)
    have d0:(u == l[k])=false:=beq_eq_false_iff_ne.2 he
    clear he
    generalize l[k]=z at *
    go_wp2_with fail
    go_round
    case rel=>exact ⟨k+1,by go_num,by omega,HT2⟩
    case measure=>simp [intOf];omega
  ·obtain rfl:k=l.length:=by omega
   have HX:=Lh (HN.out HT.out)
   go_wp2_with fail
   go_ret
   exact ⟨_,rfl,rfl,.inr ⟨by decide,HX.out⟩⟩
theorem z2b (l:List Int) (u:Int) (ao:Option Addr) (cap:Nat) (w:World) (h:NLI w ao cap l) (hl:l.length≤1000000) :
  Calls Tryz.prog 51 #[.slice ao l.length cap,.int .i64 u] w fun e w'=>e=.returned (.bool (hasB l u))∧w=w':=by
 have CI:=Lh (lindex_any l u ao cap w h hl)
 clear h hl
 cases hb:hasB l u
 ·rw [hb] at CI
  clear hb
  go_enter Tryz.func51,Tryz.ntmps51
  go_wp2_with (go_at_call 85;refine CI.out.mono ?_;rintro e w1 ⟨r,rfl,rfl,hr⟩;have hr0:decide (0≤r)=false:=decide_eq_false (Int.not_le.2 (hr.elim (fun h=>by cases h.2) (fun h=>h.1)));clear hr)
  go_ret
  exact ⟨rfl,rfl⟩
 ·rw [hb] at CI
  clear hb
  go_enter Tryz.func51,Tryz.ntmps51
  go_wp2_with (go_at_call 85;refine CI.out.mono ?_;rintro e w1 ⟨r,rfl,rfl,hr⟩;have hr0:decide (0≤r)=true:=decide_eq_true (hr.elim (fun h=>h.1) (fun h=>by cases h.2));clear hr)
  go_ret
  exact ⟨rfl,rfl⟩
end Go.Proofs.YtkefpbcifcjibaaGreat
