/- Joined texts. -/
import Derived.Deep.RegionHeld3
import Derived.Test.YtkefpbcifcjibaaGreatG21a
import Derived.Test.YtkefpbcifcjibaaGreatG14a
import Derived.Test.YtkefpbcifcjibaaGreatG08a
import Derived.Test.YtkefpbcifcjibaaGreatG20a
import Derived.Test.YtkefpbcifcjibaaGreatH00
set_option linter.unusedVariables false
set_option maxRecDepth 20000
set_option maxHeartbeats 16000000
namespace Go.Proofs.YtkefpbcifcjibaaGreat
open Go.RowKit
theorem eight_put {w:World} {b:Nat} {x0 x1 x2 x3 x4 x5 x6 x7:Value} {t:TypeId} (h:w.heap[b]?=some (.cells #[x0,x1,x2,x3,x4,x5,x6,x7] t (0,0))) (v0 v1 v2 v3 v4 v5 v6 v7:Value) :
  ((((((((w.setCell ⟨b,0,none⟩ v0).setCell ⟨b,1,none⟩ v1).setCell ⟨b,2,none⟩ v2).setCell ⟨b,3,none⟩ v3).setCell ⟨b,4,none⟩ v4).setCell ⟨b,5,none⟩ v5).setCell ⟨b,6,none⟩ v6).setCell ⟨b,7,none⟩ v7).heap[b]?=some (.cells #[v0,v1,v2,v3,v4,v5,v6,v7] t (0,0)) :=
 z22 (z19 (z1a (z0x (z1t (z1u (z23 (z24 h v0) v1) v2) v3) v4) v5) v6) v7
theorem eight_left (W:World) (b:Nat) (v0 v1 v2 v3 v4 v5 v6 v7:Value):Kept (fun k=>k≠b) W ((((((((W.setCell ⟨b,0,none⟩ v0).setCell ⟨b,1,none⟩ v1).setCell ⟨b,2,none⟩ v2).setCell ⟨b,3,none⟩ v3).setCell ⟨b,4,none⟩ v4).setCell ⟨b,5,none⟩ v5).setCell ⟨b,6,none⟩ v6).setCell ⟨b,7,none⟩ v7) :=
 ((((((((Kept.refl _ W).setCell (p:=⟨b,0,none⟩) (fun h=>h rfl) _).setCell (p:=⟨b,1,none⟩) (fun h=>h rfl) _).setCell (p:=⟨b,2,none⟩) (fun h=>h rfl) _).setCell (p:=⟨b,3,none⟩) (fun h=>h rfl) _).setCell (p:=⟨b,4,none⟩) (fun h=>h rfl) _).setCell (p:=⟨b,5,none⟩) (fun h=>h rfl) _).setCell (p:=⟨b,6,none⟩) (fun h=>h rfl) _).setCell (p:=⟨b,7,none⟩) (fun h=>h rfl) _
def TellsQ {α:Type} (T:(Nat→Prop)→World→α→Prop) (G:Nat→Prop) (w:World) (a':α) (x:An) (Q:Option Addr→Nat→Prop) (e:Ending) (w':World):Prop :=
 ∃ (ao:Option Addr) (cap:Nat) (C:Nat→Prop),Q ao cap∧e=.returned (ansV x ao cap)∧(∀ k,C k→w.heap.size≤k)∧Leaves (Chained T C (.slice ao x.L.length cap) x.L) G w w' a'
theorem TellsQ.of {α:Type} {T:(Nat→Prop)→World→α→Prop} {G:Nat→Prop} {w w':World} {a':α} {x:An} {e:Ending} (h:Tells T G w a' x e w'):TellsQ T G w a' x (fun _ _=>True) e w':=by
 obtain ⟨ao,cap,C,h1,h2,h3⟩:=tells_chained h
 exact ⟨ao,cap,C,trivial,h1,h2,h3⟩
theorem TellsQ.tells {α:Type} {T:(Nat→Prop)→World→α→Prop} {G:Nat→Prop} {w w':World} {a':α} {x:An} {Q:Option Addr→Nat→Prop} {e:Ending} (h:TellsQ T G w a' x Q e w'):Tells T G w a' x e w':=by
 obtain ⟨ao,cap,C,_,h1,h2,h3⟩:=h
 subst h1
 exact z2c h2 h3
theorem TellsQ.none {α:Type} {T:(Nat→Prop)→World→α→Prop} {G:Nat→Prop} {w w':World} {a':α} {x:An} (h:Leaves T G w w' a') (hL:x.L=[]):TellsQ T G w a' x (fun ao cap=>ao=Option.none∧cap=0) (.returned (ansV x Option.none 0)) w':=by
 obtain ⟨G',h1,h2,h3⟩:=h
 exact ⟨Option.none,0,fun _=>False,⟨rfl,rfl⟩,rfl,fun k hk=>hk.elim,G',⟨G',h1,(by rw [hL];exact CG.no _ _),fun k hk=>hk.elim,fun k hk=>hk.elim,fun k=>⟨fun h=>.inl h,fun h=>h.elim id (fun h=>h.elim)⟩⟩,h2,h3⟩
theorem at3_0 (v0 v1 v2:Value) (W:World):(Instr.index 187 (.agg #[v0,v1,v2]) (.int .i64 0)).run Tryz.prog W=.ok v0 W:=by kernel_rfl
theorem at3_1 (v0 v1 v2:Value) (W:World):(Instr.index 187 (.agg #[v0,v1,v2]) (.int .i64 1)).run Tryz.prog W=.ok v1 W:=by kernel_rfl
theorem at3_2 (v0 v1 v2:Value) (W:World):(Instr.index 187 (.agg #[v0,v1,v2]) (.int .i64 2)).run Tryz.prog W=.ok v2 W:=by kernel_rfl
theorem meth_unit (m:Nat) (p:Option Addr) (W:World):(method (m+1) 68 (.pointer p) "Do").run Tryz.prog W=.ok (178,.pointer p) W:=by kernel_rfl
theorem meth_order (m:Nat) (p:Option Addr) (W:World):(method (m+1) 116 (.pointer p) "Do").run Tryz.prog W=.ok (93,.pointer p) W:=by kernel_rfl
theorem meth_layout (m:Nat) (p:Option Addr) (W:World):(method (m+1) 75 (.pointer p) "Do").run Tryz.prog W=.ok (195,.pointer p) W:=by kernel_rfl
theorem in_unit (k:Int) (b:Bool) (h:decide (1≤k∧k≤5)=b) (ao:Option Addr) (W:World) (hn:NLI W ao 5 [1,2,3,4,5]):Calls Tryz.prog 51 #[.slice ao 5 5,.int .i64 k] W fun e w'=>e=.returned (.bool b)∧W=w':=by
 have hb:hasB [1,2,3,4,5] k=b:=by
  rw [← h]
  unfold hasB
  rw [decide_eq_decide]
  simp only [List.mem_cons,List.mem_nil_iff,or_false]
  omega
 have h1:=z2b [1,2,3,4,5] k ao 5 W hn (by decide)
 rw [hb] at h1
 exact h1
theorem in_order (k:Int) (b:Bool) (h:decide (6≤k∧k≤8)=b) (ao:Option Addr) (W:World) (hn:NLI W ao 3 [6,7,8]):Calls Tryz.prog 51 #[.slice ao 3 3,.int .i64 k] W fun e w'=>e=.returned (.bool b)∧W=w':=by
 have hb:hasB [6,7,8] k=b:=by
  rw [← h]
  unfold hasB
  rw [decide_eq_decide]
  simp only [List.mem_cons,List.mem_nil_iff,or_false]
  omega
 have h1:=z2b [6,7,8] k ao 3 W hn (by decide)
 rw [hb] at h1
 exact h1
theorem in_layout (k:Int) (b:Bool) (h:decide (9≤k∧k≤11)=b) (ao:Option Addr) (W:World) (hn:NLI W ao 3 [9,10,11]):Calls Tryz.prog 51 #[.slice ao 3 3,.int .i64 k] W fun e w'=>e=.returned (.bool b)∧W=w':=by
 have hb:hasB [9,10,11] k=b:=by
  rw [← h]
  unfold hasB
  rw [decide_eq_decide]
  simp only [List.mem_cons,List.mem_nil_iff,or_false]
  omega
 have h1:=z2b [9,10,11] k ao 3 W hn (by decide)
 rw [hb] at h1
 exact h1
theorem rp_do_unit {α:Type} {T:(Nat→Prop)→World→α→Prop} (hT:Thing T) (G:Nat→Prop) (w:World) (n n':α) (h:T G w n) (po x0 x1 x2:Option Addr) (a:Ak) (x:An) (Q:Option Addr→Nat→Prop) (hk:1≤a.kind∧a.kind≤5)
  (HU:∀ H W,T H W n→Calls Tryz.prog 30 #[.pointer po,.int .i64 a.unit] W fun e w'=>e=.returned (.pointer x0)∧W=w')
  (HO:∀ H W,T H W n→Calls Tryz.prog 110 #[.pointer po] W fun e w'=>e=.returned (.pointer x1)∧W=w')
  (HL:∀ H W,T H W n→Calls Tryz.prog 35 #[.pointer po] W fun e w'=>e=.returned (.pointer x2)∧W=w')
  (HP:∀ H W,T H W n→(∀ W2,Kept (fun k=>¬ H k) W W2→Kept (fun k=>¬ G k) w W2)→Calls Tryz.prog 178 #[.pointer x0,askV a] W (TellsQ T H W n' x Q)) :
  Calls Tryz.prog 77 #[.pointer po,askV a] w (TellsQ T G w n' x Q):=by
 obtain ⟨k,un,ep,pg,sz,nn,s,pe,L,ao,cap⟩:=a
 obtain ⟨xc,xn,xd,xp,xL,xm,xz,xe⟩:=x
 simp only at hk
 have HS:=Lh (z13 hT h 34 49 #[.int .i64 k,.int .i64 un,.int .i64 ep,.int .i64 pg,.int .i64 sz,.int .i64 nn,.string s,.int .i64 pe,.slice ao L.length cap] zeroAn)
 unfold zeroAn at HS
 have e0:=Lh (show decide (1≤k∧k≤5)=true from decide_eq_true (by omega))
 have CI0:=Lh (fun ao W hn=>in_unit k true e0.out ao W hn)
 have CK0:=Lh (kinds_unit (.pointer x0))
 have e1:=Lh (show decide (6≤k∧k≤8)=false from decide_eq_false (by omega))
 have CI1:=Lh (fun ao W hn=>in_order k false e1.out ao W hn)
 have CK1:=Lh (kinds_order (.pointer x1))
 have e2:=Lh (show decide (9≤k∧k≤11)=false from decide_eq_false (by omega))
 have CI2:=Lh (fun ao W hn=>in_layout k false e2.out ao W hn)
 have CK2:=Lh (kinds_layout (.pointer x2))
 have CU:=Lh HU
 have CO:=Lh HO
 have CL0:=Lh HL
 have CP:=Lh (show ∀ H W,T H W n→(∀ W2,Kept (fun k=>¬ H k) W W2→Kept (fun k=>¬ G k) w W2)→Calls Tryz.prog 178 #[.pointer x0,.agg #[.int .i64 k,.int .i64 un,.int .i64 ep,.int .i64 pg,.int .i64 sz,.int .i64 nn,.string s,.int .i64 pe,.slice ao L.length cap]] W (TellsQ T H W n' ⟨xc,xn,xd,xp,xL,xm,xz,xe⟩ Q) from HP)
 obtain ⟨H0,hH0,_⟩:=HS.out.use2
 have HH:=Lh hH0
 clear h hk HU HO HL e0 e1 e2 hH0 HP
 show Calls _ _ #[.pointer po,.agg #[.int .i64 k,.int .i64 un,.int .i64 ep,.int .i64 pg,.int .i64 sz,.int .i64 nn,.string s,.int .i64 pe,.slice ao L.length cap]] w _
 go_enter Tryz.func77,Tryz.ntmps77
 obtain ⟨g1,g2⟩:=HS.out.small
 go_wp2_with (first
  | (go_at_call 30;refine (CU.out _ _ HH.out).mono ?_;rintro e w1 ⟨rfl,rfl⟩)
  | (go_at_call 110;refine (CO.out _ _ HH.out).mono ?_;rintro e w1 ⟨rfl,rfl⟩)
  | (go_at_call 35;refine (CL0.out _ _ HH.out).mono ?_;rintro e w1 ⟨rfl,rfl⟩))
 go_loopw [19] (fun v wr=>(v=.int .i64 0)∧Hid (BoxV 34 49 #[.int .i64 k,.int .i64 un,.int .i64 ep,.int .i64 pg,.int .i64 sz,.int .i64 nn,.string s,.int .i64 pe,.slice ao L.length cap] #[.int .i64 0,.int .i64 0,.string ⟨#[]⟩,.int .i64 0,.slice none 0 0,.int .i64 0,.int .i64 0,.int .i64 0] T w wr G n)) (fun v _=>3 - (intOf v).toNat)
 case atStart=>exact ⟨rfl,HS⟩
 case round =>
  clear HS HH
  obtain ⟨hv,HB⟩:=hrel
  have HD:=Lh (HB.out.below hT (Below.refl _ _).drew)
  obtain ⟨m1,m2⟩:=HB.out.small
  have q0:wr.drew.cell? ⟨w.heap.size,0,none⟩=some (.int .i64 k):=z02 HD.out.ask 0
  subst hv
  have A0:=at3_0
  go_wp2_with fail
  go_region_held3 (fun W=>W.cell? ⟨w.heap.size,0,none⟩=some (.int .i64 k))
   (first | exact q0 | assumption | exact z02 HB2.out.ask 0)
   (first
    | (go_at_call 51;refine (CI0.out _ _ HN.out).mono ?_;rintro e w3 ⟨rfl,rfl⟩)
    | (go_at_call 111;refine (CK0.out _).mono ?_;rintro e w2 ⟨ao1,rfl,hn,hb2⟩;have HN:=Lh hn;have HB2:=Lh (HD.out.below hT hb2);obtain ⟨s1,s2⟩:=HB2.out.small;clear hn hb2))
  have M0:=meth_unit
  have c0:=z02 HB2.out.ask 0
  have c1:=z02 HB2.out.ask 1
  have c2:=z02 HB2.out.ask 2
  have c3:=z02 HB2.out.ask 3
  have c4:=z02 HB2.out.ask 4
  have c5:=z02 HB2.out.ask 5
  have c6:=z02 HB2.out.ask 6
  have c7:=z02 HB2.out.ask 7
  have c8:=z02 HB2.out.ask 8
  go_wp2_with (go_at_call 178;obtain ⟨H1,hH1,hk1,hU1⟩:=HB2.out.use2;refine (CP.out H1 _ hH1 hk1).mono ?_;rintro e w4 ⟨ao4,cap4,C,hQ,rfl,hC,hl⟩;unfold ansV ansC;have HQ:=Lh hQ;have HC:=Lh hC;have HX:=Lh (hU1 _ _ _ hl);obtain ⟨⟨y0,y1,y2,y3,y4,y5,y6,y7⟩,f0,f1,f2,f3,f4,f5,f6,f7⟩:=z03 HX.out.ans;obtain ⟨l1,l2⟩:=HX.out.small;clear hQ hC hl hH1 hU1 hk1)
  exact z0k (x:=⟨xc,xn,xd,xp,xL,xm,xz,xe⟩) (ao:=ao4) (cap:=cap4) rfl (eight_put HX.out.ans _ _ _ _ _ _ _ _) rfl rfl ⟨ao4,cap4,C,HQ.out,rfl,fun k hk=>Nat.le_trans (Nat.le_of_lt s1) (HC.out k hk),HX.out.fin (z11 hT _ _ _) (eight_left _ _ _ _ _ _ _ _ _ _)⟩
theorem rp_do_order {α:Type} {T:(Nat→Prop)→World→α→Prop} (hT:Thing T) (G:Nat→Prop) (w:World) (n n':α) (h:T G w n) (po x0 x1 x2:Option Addr) (a:Ak) (x:An) (Q:Option Addr→Nat→Prop) (hk:6≤a.kind∧a.kind≤8)
  (HU:∀ H W,T H W n→Calls Tryz.prog 30 #[.pointer po,.int .i64 a.unit] W fun e w'=>e=.returned (.pointer x0)∧W=w')
  (HO:∀ H W,T H W n→Calls Tryz.prog 110 #[.pointer po] W fun e w'=>e=.returned (.pointer x1)∧W=w')
  (HL:∀ H W,T H W n→Calls Tryz.prog 35 #[.pointer po] W fun e w'=>e=.returned (.pointer x2)∧W=w')
  (HP:∀ H W,T H W n→(∀ W2,Kept (fun k=>¬ H k) W W2→Kept (fun k=>¬ G k) w W2)→Calls Tryz.prog 93 #[.pointer x1,askV a] W (TellsQ T H W n' x Q)) :
  Calls Tryz.prog 77 #[.pointer po,askV a] w (TellsQ T G w n' x Q):=by
 obtain ⟨k,un,ep,pg,sz,nn,s,pe,L,ao,cap⟩:=a
 obtain ⟨xc,xn,xd,xp,xL,xm,xz,xe⟩:=x
 simp only at hk
 have HS:=Lh (z13 hT h 34 49 #[.int .i64 k,.int .i64 un,.int .i64 ep,.int .i64 pg,.int .i64 sz,.int .i64 nn,.string s,.int .i64 pe,.slice ao L.length cap] zeroAn)
 unfold zeroAn at HS
 have e0:=Lh (show decide (1≤k∧k≤5)=false from decide_eq_false (by omega))
 have CI0:=Lh (fun ao W hn=>in_unit k false e0.out ao W hn)
 have CK0:=Lh (kinds_unit (.pointer x0))
 have e1:=Lh (show decide (6≤k∧k≤8)=true from decide_eq_true (by omega))
 have CI1:=Lh (fun ao W hn=>in_order k true e1.out ao W hn)
 have CK1:=Lh (kinds_order (.pointer x1))
 have e2:=Lh (show decide (9≤k∧k≤11)=false from decide_eq_false (by omega))
 have CI2:=Lh (fun ao W hn=>in_layout k false e2.out ao W hn)
 have CK2:=Lh (kinds_layout (.pointer x2))
 have CU:=Lh HU
 have CO:=Lh HO
 have CL0:=Lh HL
 have CP:=Lh (show ∀ H W,T H W n→(∀ W2,Kept (fun k=>¬ H k) W W2→Kept (fun k=>¬ G k) w W2)→Calls Tryz.prog 93 #[.pointer x1,.agg #[.int .i64 k,.int .i64 un,.int .i64 ep,.int .i64 pg,.int .i64 sz,.int .i64 nn,.string s,.int .i64 pe,.slice ao L.length cap]] W (TellsQ T H W n' ⟨xc,xn,xd,xp,xL,xm,xz,xe⟩ Q) from HP)
 obtain ⟨H0,hH0,_⟩:=HS.out.use2
 have HH:=Lh hH0
 clear h hk HU HO HL e0 e1 e2 hH0 HP
 show Calls _ _ #[.pointer po,.agg #[.int .i64 k,.int .i64 un,.int .i64 ep,.int .i64 pg,.int .i64 sz,.int .i64 nn,.string s,.int .i64 pe,.slice ao L.length cap]] w _
 go_enter Tryz.func77,Tryz.ntmps77
 obtain ⟨g1,g2⟩:=HS.out.small
 go_wp2_with (first
  | (go_at_call 30;refine (CU.out _ _ HH.out).mono ?_;rintro e w1 ⟨rfl,rfl⟩)
  | (go_at_call 110;refine (CO.out _ _ HH.out).mono ?_;rintro e w1 ⟨rfl,rfl⟩)
  | (go_at_call 35;refine (CL0.out _ _ HH.out).mono ?_;rintro e w1 ⟨rfl,rfl⟩))
 go_loopw [19] (fun v wr=>(v=.int .i64 0∨v=.int .i64 1)∧Hid (BoxV 34 49 #[.int .i64 k,.int .i64 un,.int .i64 ep,.int .i64 pg,.int .i64 sz,.int .i64 nn,.string s,.int .i64 pe,.slice ao L.length cap] #[.int .i64 0,.int .i64 0,.string ⟨#[]⟩,.int .i64 0,.slice none 0 0,.int .i64 0,.int .i64 0,.int .i64 0] T w wr G n)) (fun v _=>3 - (intOf v).toNat)
 case atStart=>exact ⟨.inl rfl,HS⟩
 case round =>
  clear HS HH
  obtain ⟨hv,HB⟩:=hrel
  have HD:=Lh (HB.out.below hT (Below.refl _ _).drew)
  obtain ⟨m1,m2⟩:=HB.out.small
  have q0:wr.drew.cell? ⟨w.heap.size,0,none⟩=some (.int .i64 k):=z02 HD.out.ask 0
  rcases hv with rfl | rfl
  ·have A0:=at3_0
   go_wp2_with fail
   go_region_held3 (fun W=>W.cell? ⟨w.heap.size,0,none⟩=some (.int .i64 k))
    (first | exact q0 | assumption | exact z02 HB2.out.ask 0)
    (first
     | (go_at_call 51;refine (CI0.out _ _ HN.out).mono ?_;rintro e w3 ⟨rfl,rfl⟩)
     | (go_at_call 111;refine (CK0.out _).mono ?_;rintro e w2 ⟨ao1,rfl,hn,hb2⟩;have HN:=Lh hn;have HB2:=Lh (HD.out.below hT hb2);obtain ⟨s1,s2⟩:=HB2.out.small;clear hn hb2))
   go_wp2_with fail
   go_roundw
   case rel=>exact ⟨.inr rfl,HB2⟩
   case measure=>simp [intOf]
  ·have A1:=at3_1
   go_wp2_with fail
   go_region_held3 (fun W=>W.cell? ⟨w.heap.size,0,none⟩=some (.int .i64 k))
    (first | exact q0 | assumption | exact z02 HB2.out.ask 0)
    (first
     | (go_at_call 51;refine (CI1.out _ _ HN.out).mono ?_;rintro e w3 ⟨rfl,rfl⟩)
     | (go_at_call 111;refine (CK1.out _).mono ?_;rintro e w2 ⟨ao1,rfl,hn,hb2⟩;have HN:=Lh hn;have HB2:=Lh (HD.out.below hT hb2);obtain ⟨s1,s2⟩:=HB2.out.small;clear hn hb2))
   have M0:=meth_order
   have c0:=z02 HB2.out.ask 0
   have c1:=z02 HB2.out.ask 1
   have c2:=z02 HB2.out.ask 2
   have c3:=z02 HB2.out.ask 3
   have c4:=z02 HB2.out.ask 4
   have c5:=z02 HB2.out.ask 5
   have c6:=z02 HB2.out.ask 6
   have c7:=z02 HB2.out.ask 7
   have c8:=z02 HB2.out.ask 8
   go_wp2_with (go_at_call 93;obtain ⟨H1,hH1,hk1,hU1⟩:=HB2.out.use2;refine (CP.out H1 _ hH1 hk1).mono ?_;rintro e w4 ⟨ao4,cap4,C,hQ,rfl,hC,hl⟩;unfold ansV ansC;have HQ:=Lh hQ;have HC:=Lh hC;have HX:=Lh (hU1 _ _ _ hl);obtain ⟨⟨y0,y1,y2,y3,y4,y5,y6,y7⟩,f0,f1,f2,f3,f4,f5,f6,f7⟩:=z03 HX.out.ans;obtain ⟨l1,l2⟩:=HX.out.small;clear hQ hC hl hH1 hU1 hk1)
   exact z0k (x:=⟨xc,xn,xd,xp,xL,xm,xz,xe⟩) (ao:=ao4) (cap:=cap4) rfl (eight_put HX.out.ans _ _ _ _ _ _ _ _) rfl rfl ⟨ao4,cap4,C,HQ.out,rfl,fun k hk=>Nat.le_trans (Nat.le_of_lt s1) (HC.out k hk),HX.out.fin (z11 hT _ _ _) (eight_left _ _ _ _ _ _ _ _ _ _)⟩
theorem rp_do_layout {α:Type} {T:(Nat→Prop)→World→α→Prop} (hT:Thing T) (G:Nat→Prop) (w:World) (n n':α) (h:T G w n) (po x0 x1 x2:Option Addr) (a:Ak) (x:An) (Q:Option Addr→Nat→Prop) (hk:9≤a.kind∧a.kind≤11)
  (HU:∀ H W,T H W n→Calls Tryz.prog 30 #[.pointer po,.int .i64 a.unit] W fun e w'=>e=.returned (.pointer x0)∧W=w')
  (HO:∀ H W,T H W n→Calls Tryz.prog 110 #[.pointer po] W fun e w'=>e=.returned (.pointer x1)∧W=w')
  (HL:∀ H W,T H W n→Calls Tryz.prog 35 #[.pointer po] W fun e w'=>e=.returned (.pointer x2)∧W=w')
  (HP:∀ H W,T H W n→(∀ W2,Kept (fun k=>¬ H k) W W2→Kept (fun k=>¬ G k) w W2)→Calls Tryz.prog 195 #[.pointer x2,askV a] W (TellsQ T H W n' x Q)) :
  Calls Tryz.prog 77 #[.pointer po,askV a] w (TellsQ T G w n' x Q):=by
 obtain ⟨k,un,ep,pg,sz,nn,s,pe,L,ao,cap⟩:=a
 obtain ⟨xc,xn,xd,xp,xL,xm,xz,xe⟩:=x
 simp only at hk
 have HS:=Lh (z13 hT h 34 49 #[.int .i64 k,.int .i64 un,.int .i64 ep,.int .i64 pg,.int .i64 sz,.int .i64 nn,.string s,.int .i64 pe,.slice ao L.length cap] zeroAn)
 unfold zeroAn at HS
 have e0:=Lh (show decide (1≤k∧k≤5)=false from decide_eq_false (by omega))
 have CI0:=Lh (fun ao W hn=>in_unit k false e0.out ao W hn)
 have CK0:=Lh (kinds_unit (.pointer x0))
 have e1:=Lh (show decide (6≤k∧k≤8)=false from decide_eq_false (by omega))
 have CI1:=Lh (fun ao W hn=>in_order k false e1.out ao W hn)
 have CK1:=Lh (kinds_order (.pointer x1))
 have e2:=Lh (show decide (9≤k∧k≤11)=true from decide_eq_true (by omega))
 have CI2:=Lh (fun ao W hn=>in_layout k true e2.out ao W hn)
 have CK2:=Lh (kinds_layout (.pointer x2))
 have CU:=Lh HU
 have CO:=Lh HO
 have CL0:=Lh HL
 have CP:=Lh (show ∀ H W,T H W n→(∀ W2,Kept (fun k=>¬ H k) W W2→Kept (fun k=>¬ G k) w W2)→Calls Tryz.prog 195 #[.pointer x2,.agg #[.int .i64 k,.int .i64 un,.int .i64 ep,.int .i64 pg,.int .i64 sz,.int .i64 nn,.string s,.int .i64 pe,.slice ao L.length cap]] W (TellsQ T H W n' ⟨xc,xn,xd,xp,xL,xm,xz,xe⟩ Q) from HP)
 obtain ⟨H0,hH0,_⟩:=HS.out.use2
 have HH:=Lh hH0
 clear h hk HU HO HL e0 e1 e2 hH0 HP
 show Calls _ _ #[.pointer po,.agg #[.int .i64 k,.int .i64 un,.int .i64 ep,.int .i64 pg,.int .i64 sz,.int .i64 nn,.string s,.int .i64 pe,.slice ao L.length cap]] w _
 go_enter Tryz.func77,Tryz.ntmps77
 obtain ⟨g1,g2⟩:=HS.out.small
 go_wp2_with (first
  | (go_at_call 30;refine (CU.out _ _ HH.out).mono ?_;rintro e w1 ⟨rfl,rfl⟩)
  | (go_at_call 110;refine (CO.out _ _ HH.out).mono ?_;rintro e w1 ⟨rfl,rfl⟩)
  | (go_at_call 35;refine (CL0.out _ _ HH.out).mono ?_;rintro e w1 ⟨rfl,rfl⟩))
 go_loopw [19] (fun v wr=>(v=.int .i64 0∨v=.int .i64 1∨v=.int .i64 2)∧Hid (BoxV 34 49 #[.int .i64 k,.int .i64 un,.int .i64 ep,.int .i64 pg,.int .i64 sz,.int .i64 nn,.string s,.int .i64 pe,.slice ao L.length cap] #[.int .i64 0,.int .i64 0,.string ⟨#[]⟩,.int .i64 0,.slice none 0 0,.int .i64 0,.int .i64 0,.int .i64 0] T w wr G n)) (fun v _=>3 - (intOf v).toNat)
 case atStart=>exact ⟨.inl rfl,HS⟩
 case round =>
  clear HS HH
  obtain ⟨hv,HB⟩:=hrel
  have HD:=Lh (HB.out.below hT (Below.refl _ _).drew)
  obtain ⟨m1,m2⟩:=HB.out.small
  have q0:wr.drew.cell? ⟨w.heap.size,0,none⟩=some (.int .i64 k):=z02 HD.out.ask 0
  rcases hv with rfl | rfl | rfl
  ·have A0:=at3_0
   go_wp2_with fail
   go_region_held3 (fun W=>W.cell? ⟨w.heap.size,0,none⟩=some (.int .i64 k))
    (first | exact q0 | assumption | exact z02 HB2.out.ask 0)
    (first
     | (go_at_call 51;refine (CI0.out _ _ HN.out).mono ?_;rintro e w3 ⟨rfl,rfl⟩)
     | (go_at_call 111;refine (CK0.out _).mono ?_;rintro e w2 ⟨ao1,rfl,hn,hb2⟩;have HN:=Lh hn;have HB2:=Lh (HD.out.below hT hb2);obtain ⟨s1,s2⟩:=HB2.out.small;clear hn hb2))
   go_wp2_with fail
   go_roundw
   case rel=>exact ⟨.inr (.inl rfl),HB2⟩
   case measure=>simp [intOf]
  ·have A1:=at3_1
   go_wp2_with fail
   go_region_held3 (fun W=>W.cell? ⟨w.heap.size,0,none⟩=some (.int .i64 k))
    (first | exact q0 | assumption | exact z02 HB2.out.ask 0)
    (first
     | (go_at_call 51;refine (CI1.out _ _ HN.out).mono ?_;rintro e w3 ⟨rfl,rfl⟩)
     | (go_at_call 111;refine (CK1.out _).mono ?_;rintro e w2 ⟨ao1,rfl,hn,hb2⟩;have HN:=Lh hn;have HB2:=Lh (HD.out.below hT hb2);obtain ⟨s1,s2⟩:=HB2.out.small;clear hn hb2))
   go_wp2_with fail
   go_roundw
   case rel=>exact ⟨.inr (.inr rfl),HB2⟩
   case measure=>simp [intOf]
  ·have A2:=at3_2
   go_wp2_with fail
   go_region_held3 (fun W=>W.cell? ⟨w.heap.size,0,none⟩=some (.int .i64 k))
    (first | exact q0 | assumption | exact z02 HB2.out.ask 0)
    (first
     | (go_at_call 51;refine (CI2.out _ _ HN.out).mono ?_;rintro e w3 ⟨rfl,rfl⟩)
     | (go_at_call 111;refine (CK2.out _).mono ?_;rintro e w2 ⟨ao1,rfl,hn,hb2⟩;have HN:=Lh hn;have HB2:=Lh (HD.out.below hT hb2);obtain ⟨s1,s2⟩:=HB2.out.small;clear hn hb2))
   have M0:=meth_layout
   have c0:=z02 HB2.out.ask 0
   have c1:=z02 HB2.out.ask 1
   have c2:=z02 HB2.out.ask 2
   have c3:=z02 HB2.out.ask 3
   have c4:=z02 HB2.out.ask 4
   have c5:=z02 HB2.out.ask 5
   have c6:=z02 HB2.out.ask 6
   have c7:=z02 HB2.out.ask 7
   have c8:=z02 HB2.out.ask 8
   go_wp2_with (go_at_call 195;obtain ⟨H1,hH1,hk1,hU1⟩:=HB2.out.use2;refine (CP.out H1 _ hH1 hk1).mono ?_;rintro e w4 ⟨ao4,cap4,C,hQ,rfl,hC,hl⟩;unfold ansV ansC;have HQ:=Lh hQ;have HC:=Lh hC;have HX:=Lh (hU1 _ _ _ hl);obtain ⟨⟨y0,y1,y2,y3,y4,y5,y6,y7⟩,f0,f1,f2,f3,f4,f5,f6,f7⟩:=z03 HX.out.ans;obtain ⟨l1,l2⟩:=HX.out.small;clear hQ hC hl hH1 hU1 hk1)
   exact z0k (x:=⟨xc,xn,xd,xp,xL,xm,xz,xe⟩) (ao:=ao4) (cap:=cap4) rfl (eight_put HX.out.ans _ _ _ _ _ _ _ _) rfl rfl ⟨ao4,cap4,C,HQ.out,rfl,fun k hk=>Nat.le_trans (Nat.le_of_lt s1) (HC.out k hk),HX.out.fin (z11 hT _ _ _) (eight_left _ _ _ _ _ _ _ _ _ _)⟩
theorem rp_do_none {α:Type} {T:(Nat→Prop)→World→α→Prop} (hT:Thing T) (G:Nat→Prop) (w:World) (n n':α) (h:T G w n) (po x0 x1 x2:Option Addr) (a:Ak) (x:An) (Q:Option Addr→Nat→Prop) (hk:a.kind < 1∨11 < a.kind)
  (HU:∀ H W,T H W n→Calls Tryz.prog 30 #[.pointer po,.int .i64 a.unit] W fun e w'=>e=.returned (.pointer x0)∧W=w')
  (HO:∀ H W,T H W n→Calls Tryz.prog 110 #[.pointer po] W fun e w'=>e=.returned (.pointer x1)∧W=w')
  (HL:∀ H W,T H W n→Calls Tryz.prog 35 #[.pointer po] W fun e w'=>e=.returned (.pointer x2)∧W=w')
  : Calls Tryz.prog 77 #[.pointer po,askV a] w fun e w'=>e=.returned (ansV (anP 1 0 noS 0) none 0)∧Leaves T G w w' n:=by
 obtain ⟨k,un,ep,pg,sz,nn,s,pe,L,ao,cap⟩:=a
 simp only at hk
 have HS:=Lh (z13 hT h 34 49 #[.int .i64 k,.int .i64 un,.int .i64 ep,.int .i64 pg,.int .i64 sz,.int .i64 nn,.string s,.int .i64 pe,.slice ao L.length cap] zeroAn)
 unfold zeroAn at HS
 have e0:=Lh (show decide (1≤k∧k≤5)=false from decide_eq_false (by omega))
 have CI0:=Lh (fun ao W hn=>in_unit k false e0.out ao W hn)
 have CK0:=Lh (kinds_unit (.pointer x0))
 have e1:=Lh (show decide (6≤k∧k≤8)=false from decide_eq_false (by omega))
 have CI1:=Lh (fun ao W hn=>in_order k false e1.out ao W hn)
 have CK1:=Lh (kinds_order (.pointer x1))
 have e2:=Lh (show decide (9≤k∧k≤11)=false from decide_eq_false (by omega))
 have CI2:=Lh (fun ao W hn=>in_layout k false e2.out ao W hn)
 have CK2:=Lh (kinds_layout (.pointer x2))
 have CU:=Lh HU
 have CO:=Lh HO
 have CL0:=Lh HL
 obtain ⟨H0,hH0,_⟩:=HS.out.use2
 have HH:=Lh hH0
 clear h hk HU HO HL e0 e1 e2 hH0
 show Calls _ _ #[.pointer po,.agg #[.int .i64 k,.int .i64 un,.int .i64 ep,.int .i64 pg,.int .i64 sz,.int .i64 nn,.string s,.int .i64 pe,.slice ao L.length cap]] w _
 go_enter Tryz.func77,Tryz.ntmps77
 obtain ⟨g1,g2⟩:=HS.out.small
 go_wp2_with (first
  | (go_at_call 30;refine (CU.out _ _ HH.out).mono ?_;rintro e w1 ⟨rfl,rfl⟩)
  | (go_at_call 110;refine (CO.out _ _ HH.out).mono ?_;rintro e w1 ⟨rfl,rfl⟩)
  | (go_at_call 35;refine (CL0.out _ _ HH.out).mono ?_;rintro e w1 ⟨rfl,rfl⟩))
 go_loopw [19] (fun v wr=>(v=.int .i64 0∨v=.int .i64 1∨v=.int .i64 2∨v=.int .i64 3)∧Hid (BoxV 34 49 #[.int .i64 k,.int .i64 un,.int .i64 ep,.int .i64 pg,.int .i64 sz,.int .i64 nn,.string s,.int .i64 pe,.slice ao L.length cap] #[.int .i64 0,.int .i64 0,.string ⟨#[]⟩,.int .i64 0,.slice none 0 0,.int .i64 0,.int .i64 0,.int .i64 0] T w wr G n)) (fun v _=>3 - (intOf v).toNat)
 case atStart=>exact ⟨.inl rfl,HS⟩
 case round =>
  clear HS HH
  obtain ⟨hv,HB⟩:=hrel
  have HD:=Lh (HB.out.below hT (Below.refl _ _).drew)
  obtain ⟨m1,m2⟩:=HB.out.small
  have q0:wr.drew.cell? ⟨w.heap.size,0,none⟩=some (.int .i64 k):=z02 HD.out.ask 0
  rcases hv with rfl | rfl | rfl | rfl
  ·have A0:=at3_0
   go_wp2_with fail
   go_region_held3 (fun W=>W.cell? ⟨w.heap.size,0,none⟩=some (.int .i64 k))
    (first | exact q0 | assumption | exact z02 HB2.out.ask 0)
    (first
     | (go_at_call 51;refine (CI0.out _ _ HN.out).mono ?_;rintro e w3 ⟨rfl,rfl⟩)
     | (go_at_call 111;refine (CK0.out _).mono ?_;rintro e w2 ⟨ao1,rfl,hn,hb2⟩;have HN:=Lh hn;have HB2:=Lh (HD.out.below hT hb2);obtain ⟨s1,s2⟩:=HB2.out.small;clear hn hb2))
   go_wp2_with fail
   go_roundw
   case rel=>exact ⟨.inr (.inl rfl),HB2⟩
   case measure=>simp [intOf]
  ·have A1:=at3_1
   go_wp2_with fail
   go_region_held3 (fun W=>W.cell? ⟨w.heap.size,0,none⟩=some (.int .i64 k))
    (first | exact q0 | assumption | exact z02 HB2.out.ask 0)
    (first
     | (go_at_call 51;refine (CI1.out _ _ HN.out).mono ?_;rintro e w3 ⟨rfl,rfl⟩)
     | (go_at_call 111;refine (CK1.out _).mono ?_;rintro e w2 ⟨ao1,rfl,hn,hb2⟩;have HN:=Lh hn;have HB2:=Lh (HD.out.below hT hb2);obtain ⟨s1,s2⟩:=HB2.out.small;clear hn hb2))
   go_wp2_with fail
   go_roundw
   case rel=>exact ⟨.inr (.inr (.inl rfl)),HB2⟩
   case measure=>simp [intOf]
  ·have A2:=at3_2
   go_wp2_with fail
   go_region_held3 (fun W=>W.cell? ⟨w.heap.size,0,none⟩=some (.int .i64 k))
    (first | exact q0 | assumption | exact z02 HB2.out.ask 0)
    (first
     | (go_at_call 51;refine (CI2.out _ _ HN.out).mono ?_;rintro e w3 ⟨rfl,rfl⟩)
     | (go_at_call 111;refine (CK2.out _).mono ?_;rintro e w2 ⟨ao1,rfl,hn,hb2⟩;have HN:=Lh hn;have HB2:=Lh (HD.out.below hT hb2);obtain ⟨s1,s2⟩:=HB2.out.small;clear hn hb2))
   go_wp2_with fail
   go_roundw
   case rel=>exact ⟨.inr (.inr (.inr rfl)),HB2⟩
   case measure=>simp [intOf]
  ·obtain ⟨⟨y0,y1,y2,y3,y4,y5,y6,y7⟩,f0,f1,f2,f3,f4,f5,f6,f7⟩:=z03 HB.out.ans
   go_wp2_with fail
   exact z0k (x:=anP 1 0 noS 0) (ao:=none) (cap:=0) rfl (eight_put HB.out.ans _ _ _ _ _ _ _ _) rfl rfl ⟨rfl,HB.out.fin hT (eight_left _ _ _ _ _ _ _ _ _ _)⟩
section
variable {FG:Nat→(Nat→Prop)→World→Fe→Prop} {α:Type} {T:(Nat→Prop)→World→α→Prop} {X:Nat→Prop} {w w':World} {bf:Nat} {f:Fe} {t:α}
theorem sf_new (FS:FetchSays FG) (hT:Thing T) (hs:Solo T X w t) {ep:Int} {ao:Option Addr} {cap:Nat} {L:List (List Int)} {addr:Int} {fill:Bool} (hC:CL w ao L) (hf:fewL L) (hn:ao=none→cap=0) (hc:L.length≤cap) (he:i64w ep) (hr:i64w addr) :
  Calls Tryz.prog 66 #[.agg #[.int .i64 ep,.slice ao L.length cap],.int .i64 addr,.bool fill] w fun e w'=>∃ bf:Nat,e=.returned (.pointer (some ⟨bf,0,none⟩))∧Side T (FG bf) X w' t (newFe ep L addr fill)∧Below w.heap.size w w':=by
 refine (FS.new ep ao cap L addr fill w hC hf hn hc he hr).mono ?_
 rintro e w' ⟨bf,G,h1,h2,h3,h4⟩
 exact ⟨bf,h1,Side.made hT hs h4 h2 h3,h4⟩
theorem sf_ask (FS:FetchSays FG) (hT:Thing T) (hs:Side T (FG bf) X w t f) :
  Calls Tryz.prog 67 #[.pointer (some ⟨bf,0,none⟩)] w fun e w'=>∃ (kd un ep pg:Int) (s:ByteArray),f.ask=akN kd un ep pg s∧e=.returned (.tuple #[.agg #[.int .i64 kd,.int .i64 un,.int .i64 ep,.int .i64 pg,.int .i64 0,.int .i64 0,.string s,.int .i64 0,.slice none 0 0],.bool f.asks])∧Side T (FG bf) X w' t f∧Kept X w w':=by
 refine (side_right (R:=fun e=>e=.returned (.tuple #[askV f.ask,.bool f.asks])) hT (FS.thing bf) hs (fun G hG=>FS.ask bf G w f hG)).mono ?_
 rintro e w' ⟨he,h1,h2⟩
 exact ⟨_,_,_,_,_,ask_akF f,by rw [he,ask_akF f];rfl,h1,h2⟩
theorem sf_over (FS:FetchSays FG) (hT:Thing T) (hs:Side T (FG bf) X w t f) :
  Calls Tryz.prog 69 #[.pointer (some ⟨bf,0,none⟩)] w fun e w'=>e=.returned (.tuple #[.int .i64 f.overK,.string f.overS,.int .i64 f.overE,.bool f.overB])∧Side T (FG bf) X w' t f∧Below w.heap.size w w':=by
 obtain ⟨_,F,G,_,hG,_⟩:=id hs
 exact (FS.over bf G w f hG).mono fun e w' ⟨he,hb⟩=>⟨he,hs.below hT (FS.thing bf) hb,hb⟩
end
end Go.Proofs.YtkefpbcifcjibaaGreat
