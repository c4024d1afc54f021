/- Joined texts. -/
import Derived.Test.YtkefpbcifcjibaaGreatG11a
import Derived.Test.YtkefpbcifcjibaaGreatG10a
import Derived.Test.YtkefpbcifcjibaaGreatG07a
import Derived.Test.YtkefpbcifcjibaaGreatG08a
import Derived.Test.YtkefpbcifcjibaaGreatG12a
import Derived.Test.YtkefpbcifcjibaaGreatH00
set_option linter.unusedVariables false
set_option maxRecDepth 20000
set_option maxHeartbeats 16000000
namespace Go.Proofs.YtkefpbcifcjibaaGreat
open Go.RowKit
theorem rnext_no (e1:Int) (ao1:Option Addr) (c1:Nat) (L1:List (List Int)) (e2:Int) (ao2:Option Addr) (c2:Nat) (L2:List (List Int)) (w:World) (h1:CL w ao1 L1) (h2:CL w ao2 L2)
  (l1:L1.length≤255∧∀ c ∈ L1,c.length≤255) (l2:L2.length≤255∧∀ c ∈ L2,c.length≤255) (hno:goodB e1 L1=false∨goodB e2 L2=false∨e2≠e1+1∨L2.length≠L1.length) :
  Calls Tryz.prog 23 #[.agg #[.int .i64 e1,.slice ao1 L1.length c1],.agg #[.int .i64 e2,.slice ao2 L2.length c2]] w fun e w'=>e=.returned (.bool false)∧Below w.heap.size w w':=by
 have HB0:=Lh (((Below.refl w.heap.size w).alloc (Nat.le_refl _) (.cells #[.int .i64 e1,.slice ao1 L1.length c1] 24)).alloc (by simp) (.cells #[.int .i64 e2,.slice ao2 L2.length c2] 24))
 have HP:=Lh (PB.two w e1 e2 ao1 ao2 L1.length L2.length c1 c2)
 have H1:=Lh (h1.below HB0.out)
 have H2:=Lh (h2.below HB0.out)
 have M1:=Lh l1
 have M2:=Lh l2
 have m1:(L1.length:Int)≤255:=by omega
 have m2:(L2.length:Int)≤255:=by omega
 have CG:=Lh (z2a e1 ao1 c1 L1 _ H1.out M1.out)
 clear h1 h2 l1 l2
 by_cases g1:goodB e1 L1=false
 ·rw [g1] at CG
  clear hno g1
  go_enter Tryz.func23,Tryz.ntmps23
  go_wp2_with (go_at_call 43;refine CG.out.mono ?_;rintro e w1 ⟨rfl,hb1⟩)
  go_ret
  exact ⟨rfl,HB0.out.trans (hb1.mono HB0.out.size)⟩
 have g1':goodB e1 L1=true:=by simpa using g1
 obtain ⟨⟨x1,x2⟩,_⟩:=goodB_iff.1 g1'
 rw [g1'] at CG
 have CQ:=Lh (fun (w1:World) hb=>z2a e2 ao2 c2 L2 w1 (H2.out.below hb) M2.out)
 by_cases g2:goodB e2 L2=false
 ·rw [g2] at CQ
  clear hno g1 g1' g2
  go_enter Tryz.func23,Tryz.ntmps23
  go_wp2_with (first | (go_at_call 43;with_reducible refine (CQ.out _ HBX.out).mono ?_;rintro e w2 ⟨rfl,hb2⟩) | (go_at_call 43;refine CG.out.mono ?_;rintro e w1 ⟨rfl,hb1⟩;obtain ⟨y0,y1⟩:=(HP.out.2.below hb1).cells;have HBX:=Lh hb1;clear hb1))
  go_ret
  exact ⟨rfl,(HB0.out.trans (HBX.out.mono HB0.out.size)).trans (hb2.mono (Nat.le_trans HB0.out.size HBX.out.size))⟩
 have g2':goodB e2 L2=true:=by simpa using g2
 obtain ⟨⟨z1,z2⟩,_⟩:=goodB_iff.1 g2'
 rw [g2'] at CQ
 by_cases q:e2=e1+1
 ·have d1:(e2 != e1+1)=false:=bne_eq_false_iff_eq.2 q
  have hq:L2.length≠L1.length:=by
   rcases hno with h | h | h | h
   ·exact absurd h g1
   ·exact absurd h g2
   ·exact absurd q h
   ·exact h
  have d2:((L2.length:Int) != (L1.length:Int))=true:=bne_iff_ne.2 (by omega)
  clear hno g1 g1' g2 g2' q hq
  go_enter Tryz.func23,Tryz.ntmps23
  go_wp2_with (first | (go_at_call 43;with_reducible refine (CQ.out _ HBX.out).mono ?_;rintro e w2 ⟨rfl,hb2⟩;obtain ⟨v0,v1⟩:=((HP.out.1.below HBX.out).below hb2).cells;obtain ⟨v2,v3⟩:=((HP.out.2.below HBX.out).below hb2).cells) | (go_at_call 43;refine CG.out.mono ?_;rintro e w1 ⟨rfl,hb1⟩;obtain ⟨y0,y1⟩:=(HP.out.2.below hb1).cells;have HBX:=Lh hb1;clear hb1))
  go_ret
  exact ⟨rfl,(HB0.out.trans (HBX.out.mono HB0.out.size)).trans (hb2.mono (Nat.le_trans HB0.out.size HBX.out.size))⟩
 ·have d1:(e2 != e1+1)=true:=bne_iff_ne.2 q
  clear hno g1 g1' g2 g2' q
  go_enter Tryz.func23,Tryz.ntmps23
  go_wp2_with (first | (go_at_call 43;with_reducible refine (CQ.out _ HBX.out).mono ?_;rintro e w2 ⟨rfl,hb2⟩;obtain ⟨v0,v1⟩:=((HP.out.1.below HBX.out).below hb2).cells;obtain ⟨v2,v3⟩:=((HP.out.2.below HBX.out).below hb2).cells) | (go_at_call 43;refine CG.out.mono ?_;rintro e w1 ⟨rfl,hb1⟩;obtain ⟨y0,y1⟩:=(HP.out.2.below hb1).cells;have HBX:=Lh hb1;clear hb1))
  go_ret
  exact ⟨rfl,(HB0.out.trans (HBX.out.mono HB0.out.size)).trans (hb2.mono (Nat.le_trans HB0.out.size HBX.out.size))⟩
theorem not_take_succ {l:List Int} {k:Nat} {u:Int} (hk:k < l.length) (h:u ∉ l.take k) (e:l[k]≠u):u ∉ l.take (k+1):=by
 rw [List.take_succ_eq_append_getElem hk,List.mem_append,List.mem_singleton]
 rintro (h1 | h1)
 ·exact h h1
 ·exact e h1.symm
theorem z17 (l:List Int) (u:Int) (ao:Option Addr) (cap:Nat) (w:World) (h:NLI w ao cap l) (hl:l.length≤1000000) :
  Calls Tryz.prog 28 #[.slice ao l.length cap,.int .i64 u] w fun e w'=>e=.returned (.bool (hasB l u))∧w=w':=by
 have HY:=Lh (fun k (hk:k < l.length)=>show l[k]=u→hasB l u=true from fun e=>decide_eq_true (by rw [← e];exact List.getElem_mem hk))
 have HN:=Lh (show u ∉ l.take l.length→hasB l u=false from fun e=>by rw [List.take_of_length_le (Nat.le_refl _)] at e;exact decide_eq_false e)
 generalize hasB l u=R at *
 have HA:=Lh h
 have hl':(l.length:Int)≤1000000:=by omega
 clear h
 go_enter Tryz.func28,Tryz.ntmps28
 go_wp2_with fail
 go_loop [5] (fun i=>∃ k:Nat,i=.int .i64 k∧k≤l.length∧Hid (u ∉ l.take k)) (fun i=>l.length - (intOf i).toNat)
 case atStart=>exact ⟨0,rfl,Nat.zero_le _,Lh (by simp)⟩
 case round =>
  obtain ⟨k,rfl,hk,HT⟩:=hrel
  by_cases hlt:k < l.length
  ·obtain ⟨bk,off,rfl,c0⟩:=HA.out.at k hlt
   by_cases he:l[k]=u
   ·have HX:=Lh (HY.out k hlt he)
    have d1:(l[k] == u)=true:=beq_iff_eq.2 he
    clear he
    go_wp2_with fail
    go_ret
    rw [HX.out]
    exact ⟨rfl,rfl⟩
   ·have HT2:=Lh (not_take_succ hlt HT.out he)
    have d1:(l[k] == u)=false:=beq_eq_false_iff_ne.2 he
    clear he
    go_wp2_with fail
    go_round
    case rel=>exact ⟨k+1,by go_num,by omega,HT2⟩
    case measure=>simp [intOf];omega
  ·obtain rfl:k=l.length:=by omega
   have HX:=Lh (HN.out HT.out)
   go_wp2_with fail
   go_ret
   rw [HX.out]
   exact ⟨rfl,rfl⟩
theorem seq_end {U old now rest:List Int} {y:Nat} (h:¬ ∃ h:y < now.length,now[y] ∈ old):seqB U old (now.drop y) rest (decide (0 < y))=(decide (0 < y) && outB U (now.drop y)):=by
 by_cases hy:y < now.length
 ·rw [List.drop_eq_getElem_cons hy]
  show (if now[y] ∈ old then _ else _)=_
  rw [if_neg (fun e=>h ⟨hy,e⟩)]
  rfl
 ·rw [List.drop_of_length_le (by omega)]
  show decide (0 < y)=_
  simp [outB]
theorem rnext_yes (e1:Int) (ao1:Option Addr) (c1:Nat) (L1:List (List Int)) (e2:Int) (ao2:Option Addr) (c2:Nat) (L2:List (List Int)) (w:World) (h1:CL w ao1 L1) (h2:CL w ao2 L2)
  (l1:L1.length≤255∧∀ c ∈ L1,c.length≤255) (l2:L2.length≤255∧∀ c ∈ L2,c.length≤255) (g1:goodB e1 L1=true) (g2:goodB e2 L2=true) (q:e2=e1+1) (hq:L2.length=L1.length) :
  Calls Tryz.prog 23 #[.agg #[.int .i64 e1,.slice ao1 L1.length c1],.agg #[.int .i64 e2,.slice ao2 L2.length c2]] w fun e w'=>e=.returned (.bool ((L1.zip L2).all (fun c=>seqB (unitsR L1) c.1 c.2 c.1 false)))∧Below w.heap.size w w':=by
 have HB0:=Lh (((Below.refl w.heap.size w).alloc (Nat.le_refl _) (.cells #[.int .i64 e1,.slice ao1 L1.length c1] 24)).alloc (by simp) (.cells #[.int .i64 e2,.slice ao2 L2.length c2] 24))
 have HP:=Lh (PB.two w e1 e2 ao1 ao2 L1.length L2.length c1 c2)
 have H1:=Lh (h1.below HB0.out)
 have H2:=Lh (h2.below HB0.out)
 have M1:=Lh l1
 have M2:=Lh l2
 have m1:(L1.length:Int)≤255:=by omega
 have m2:(L2.length:Int)≤255:=by omega
 have CG:=Lh (z2a e1 ao1 c1 L1 _ H1.out M1.out)
 have CQ:=Lh (fun (w1:World) hb=>z2a e2 ao2 c2 L2 w1 (H2.out.below hb) M2.out)
 obtain ⟨⟨x1,x2⟩,_⟩:=goodB_iff.1 g1
 rw [g1] at CG
 rw [g2] at CQ
 have d1:(e2 != e1+1)=false:=bne_eq_false_iff_eq.2 q
 have d2:((L2.length:Int) != (L1.length:Int))=false:=bne_eq_false_iff_eq.2 (by omega)
 have HQ:=Lh hq
 have HNO:=Lh (fun k h1 h2=>@zip_no L1 L2 (fun c=>seqB (unitsR L1) c.1 c.2 c.1 false) k h1 h2)
 have HYES:=Lh (@zip_yes L1 L2 (fun c=>seqB (unitsR L1) c.1 c.2 c.1 false))
 have HUL:=Lh (show (unitsR L1).length≤70000 from by
  have h3:=(z1r [] L1.flatten List.Pairwise.nil).1
  have h4:=flat_le L1 255 l1.2
  have h5:255 * L1.length≤255 * 255:=Nat.mul_le_mul_left _ l1.1
  unfold unitsR
  rw [List.length_nil] at h3
  omega)
 have CU:=Lh (fun (w1:World) hb=>z1p e1 ao1 c1 L1 w1 (H1.out.below hb) M1.out)
 clear h1 h2 l1 l2 g1 g2 q hq
 dsimp only at HNO HYES ⊢
 generalize (L1.zip L2).all (fun c=>seqB (unitsR L1) c.1 c.2 c.1 false)=R at *
 generalize unitsR L1=U at *
 go_enter Tryz.func23,Tryz.ntmps23
 go_wp2_with (first
  | (go_at_call 43;with_reducible refine (CQ.out _ HBX.out).mono ?_;rintro e w2 ⟨rfl,hb2⟩;have HBY:=Lh (HBX.out.trans (hb2.mono HBX.out.size));obtain ⟨v0,v1⟩:=(HP.out.1.below HBY.out).cells;obtain ⟨v2,v3⟩:=(HP.out.2.below HBY.out).cells;clear hb2)
  | (go_at_call 43;refine CG.out.mono ?_;rintro e w1 ⟨rfl,hb1⟩;obtain ⟨y0,y1⟩:=(HP.out.2.below hb1).cells;have HBX:=Lh hb1;clear hb1)
  | (go_at_call 27;refine (CU.out _ HBY.out).mono ?_;rintro e w3 ⟨bo,cb,rfl,hN,hb3⟩;have HBZ:=Lh (HBY.out.trans (hb3.mono HBY.out.size));have HN:=Lh hN;obtain ⟨t0,t1⟩:=(HP.out.1.below HBZ.out).cells;obtain ⟨t2,t3⟩:=(HP.out.2.below HBZ.out).cells;clear v0 v1 v2 v3 hN hb3))
 have HW:=Lh (HB0.out.trans (HBZ.out.mono HB0.out.size))
 have C1:=Lh (H1.out.below HBZ.out)
 have C2:=Lh (H2.out.below HBZ.out)
 clear y0 y1 CG CQ CU HP H1 H2 HBX HBY
 go_loopw [6] (fun i wr=>∃ k q:Nat,i=.int .i64 k∧k≤L1.length∧wr=w3.drewN q∧Hid (∀ i,i < k→∀ (h1:i < L1.length) (h2:i < L2.length),seqB U L1[i] L2[i] L1[i] false=true)) (fun i _=>L1.length - (intOf i).toNat)
 case atStart=>exact ⟨0,0,rfl,Nat.zero_le _,rfl,Lh (fun i hi=>absurd hi (Nat.not_lt_zero i))⟩
 case round =>
  obtain ⟨k,q,rfl,hk,rfl,HA⟩:=hrel
  by_cases hlt:k < L1.length
  ·have hlt2:k < L2.length:=by have:=HQ.out;omega
   obtain ⟨bk,off,ai,ci,hao,c0,hN1⟩:=C1.out k hlt
   obtain ⟨bk2,off2,bi,di,hao2,c02,hN2⟩:=C2.out k hlt2
   subst hao hao2
   have k0:(k:Int) < (L1.length:Int):=by omega
   have k1:(k:Int) < (L2.length:Int):=by omega
   have mo:=M1.out.2 _ (List.getElem_mem hlt)
   have mn:=M2.out.2 _ (List.getElem_mem hlt2)
   have HNK:=Lh (HNO.out k hlt hlt2)
   have HAK:=Lh (show seqB U L1[k] L2[k] L1[k] false=true→∀ i,i < k+1→∀ (h1:i < L1.length) (h2:i < L2.length),seqB U L1[i] L2[i] L1[i] false=true from fun e i hi h1 h2=>by
    by_cases e2:i=k
    ·subst e2;exact e
    ·exact HA.out i (by omega) h1 h2)
   have HRI:=Lh (show seqB U L1[k] (L2[k].drop 0) (L1[k].drop 0) (decide (0 < 0))=seqB U L1[k] L2[k] L1[k] false from by rw [List.drop_zero,List.drop_zero];rfl)
   have HN1:=Lh hN1
   have HN2:=Lh hN2
   clear hN1 hN2 d1 d2
   generalize seqB U L1[k] L2[k] L1[k] false=Ri at *
   generalize L1[k]=old at *
   generalize L2[k]=now at *
   have mo':(old.length:Int)≤255:=by omega
   have mn':(now.length:Int)≤255:=by omega
   go_wp2_with fail
   go_quiet (fail)
   go_wp2_with fail
   go_loopw [9,10] (fun a n wq=>∃ x y q2:Nat,a=.int .i64 x∧n=.int .i64 y∧x≤old.length∧y≤now.length∧wq=w3.drewN q2∧Hid (seqB U old (now.drop y) (old.drop x) (decide (0 < y))=Ri)) (fun _ n _=>now.length - (intOf n).toNat)
   case atStart=>exact ⟨0,0,q+nq,rfl,rfl,Nat.zero_le _,Nat.zero_le _,by first | rfl | simp,HRI⟩
   case round =>
    obtain ⟨x,y,q2,rfl,rfl,hx,hy,rfl,HS⟩:=hrel
    clear HRI
    by_cases hyt:y < now.length
    ·obtain ⟨b9,o9,hbi,c9⟩:=HN2.out.at y hyt
     subst hbi
     have y0:(y:Int) < (now.length:Int):=by omega
     by_cases hz:now[y] ∈ old
     ·have CH:=Lh (fun q=>z17 old now[y] ai ci (w3.drewN q) (HN1.out.below (below_drewN (Below.refl _ _) q)) (by omega))
      rw [show hasB old now[y]=true from decide_eq_true hz] at CH
      have HF:=Lh (fun (r:List Int) (t:Int) (h:(old.drop x).dropWhile (fun t=>t != now[y])=t :: r)=>(seq_found (U:=U) (m:=decide (0 < y)) hyt hz h).symm.trans HS.out)
      have HL:=Lh (fun (h:(old.drop x).dropWhile (fun t=>t != now[y])=[])=>(seq_lost (U:=U) (m:=decide (0 < y)) hyt hz h).symm.trans HS.out)
      clear hz
      generalize now[y]=z at *
      go_wp2_with (go_at_call 28;refine (CH.out _).mono ?_;rintro e w' ⟨rfl,rfl⟩)
      go_loopw [9] (fun a ws=>∃ x3 q3:Nat,a=.int .i64 x3∧x3≤old.length∧ws=w3.drewN q3∧Hid ((old.drop x).dropWhile (fun t=>t != z)=(old.drop x3).dropWhile (fun t=>t != z))) (fun a _=>old.length - (intOf a).toNat)
      case atStart=>exact ⟨x,q2,rfl,hx,rfl,Lh rfl⟩
      case round =>
       obtain ⟨x3,q3,rfl,hx3,rfl,HD⟩:=hrel
       by_cases hxt:x3 < old.length
       ·obtain ⟨b8,o8,hai,c8⟩:=HN1.out.at x3 hxt
        subst hai
        have z0:(x3:Int) < (old.length:Int):=by omega
        by_cases he:old[x3]=z
        ·have HD2:=Lh (HF.out (old.drop (x3+1)) old[x3] (HD.out.trans (drop_stop hxt (bne_eq_false_iff_eq.2 he))))
         have b1:(old[x3] != z)=false:=bne_eq_false_iff_eq.2 he
         have b2:((x3:Int) == (old.length:Int))=false:=beq_eq_false_iff_ne.2 (by omega)
         have b3:(x3 == old.length)=false:=beq_eq_false_iff_ne.2 (by omega)
         generalize old[x3]=o at *
         clear he
         go_wp2_with fail
         go_quiet (fail)
         go_wp2_with fail
         go_roundw
         case rel=>exact ⟨x3+1,y+1,q3+nq,by go_num,by go_num,by omega,by omega,by first | rfl | simp,HD2⟩
         case measure=>simp [intOf];omega
        ·have HD2:=Lh (HD.out.trans (drop_at hxt (bne_iff_ne.2 he)))
         have b1:(old[x3] != z)=true:=bne_iff_ne.2 he
         generalize old[x3]=o at *
         clear he
         go_wp2_with fail
         go_quiet (fail)
         go_wp2_with fail
         go_roundw
         case rel=>exact ⟨x3+1,q3+nq,by go_num,by omega,by first | rfl | simp,HD2⟩
         case measure=>simp [intOf];omega
       ·have b1:decide ((x3:Int) < (old.length:Int))=false:=decide_eq_false (by omega)
        have b4:decide (x3 < old.length)=false:=decide_eq_false (by omega)
        have b2:((x3:Int) == (old.length:Int))=true:=beq_iff_eq.2 (by omega)
        have b3:(x3 == old.length)=true:=beq_iff_eq.2 (by omega)
        have HX:=Lh (HNK.out ((HL.out (HD.out.trans (by rw [List.drop_of_length_le (by omega)];rfl))).symm))
        clear hxt
        go_wp2_with fail
        go_quiet (fail)
        go_wp2_with fail
        go_ret
        rw [HX.out]
        exact ⟨rfl,below_drewN HW.out _⟩
     ·have CH:=Lh (fun q=>z17 old now[y] ai ci (w3.drewN q) (HN1.out.below (below_drewN (Below.refl _ _) q)) (by omega))
      rw [show hasB old now[y]=false from decide_eq_false hz] at CH
      have HE:=Lh ((seq_end (U:=U) (rest:=old.drop x) (show ¬ ∃ h:y < now.length,now[y] ∈ old from fun ⟨_,h⟩=>hz h)).symm.trans HS.out)
      clear hz
      generalize now[y]=z at *
      by_cases hy0:y=0
      ·have HX:=Lh (HNK.out (HE.out.symm.trans (by rw [decide_eq_false (show ¬ 0 < y by omega)];rfl)))
       have p0:((y:Int) == 0)=true:=beq_iff_eq.2 (by omega)
       have p1:(y == 0)=true:=beq_iff_eq.2 hy0
       clear hy0
       go_wp2_with (go_at_call 28;refine (CH.out _).mono ?_;rintro e w' ⟨rfl,rfl⟩)
       go_ret
       rw [HX.out]
       exact ⟨rfl,below_drewN HW.out _⟩
      ·have p0:((y:Int) == 0)=false:=beq_eq_false_iff_ne.2 (by omega)
       have p1:(y == 0)=false:=beq_eq_false_iff_ne.2 hy0
       have HO:=Lh (show outB U (now.drop y)=Ri from by have:=HE.out;rwa [decide_eq_true (show 0 < y by omega),Bool.true_and] at this)
       have CA:=Lh (fun u=>z17 U u bo cb (w3.drewN q2) (HN.out.below (below_drewN (Below.refl _ _) q2)) (by have:=HUL.out;omega))
       clear HE hy0
       go_wp2_with (go_at_call 28;refine (CH.out _).mono ?_;rintro e w' ⟨rfl,rfl⟩)
       go_loop [10] (fun n=>∃ y4:Nat,n=.int .i64 y4∧y4≤now.length∧Hid (outB U (now.drop y4)=Ri)) (fun n=>now.length - (intOf n).toNat)
       case atStart=>exact ⟨y,rfl,hy,HO⟩
       case round =>
        obtain ⟨y4,rfl,hy4,HO4⟩:=hrel
        skip
        by_cases h4:y4 < now.length
        ·obtain ⟨b7,o7,hbi7,c7⟩:=HN2.out.at y4 h4
         cases hbi7
         have r0:(y4:Int) < (now.length:Int):=by omega
         by_cases hin:now[y4] ∈ U
         ·have HX:=Lh (HNK.out (HO4.out.symm.trans (out_no h4 hin)))
          have c4:=CA.out now[y4]
          rw [show hasB U now[y4]=true from decide_eq_true hin] at c4
          clear hin
          generalize now[y4]=z4 at *
          go_wp2_with (go_at_call 28;refine c4.mono ?_;rintro e w' ⟨rfl,rfl⟩)
          go_ret
          rw [HX.out]
          exact ⟨rfl,below_drewN HW.out _⟩
         ·have HO5:=Lh ((out_step h4 hin).symm.trans HO4.out)
          have c4:=CA.out now[y4]
          rw [show hasB U now[y4]=false from decide_eq_false hin] at c4
          clear hin
          generalize now[y4]=z4 at *
          go_wp2_with (go_at_call 28;refine c4.mono ?_;rintro e w' ⟨rfl,rfl⟩)
          go_round
          case rel=>exact ⟨y4+1,by go_num,by omega,HO5⟩
          case measure=>simp [intOf];omega
        ·have HT:=Lh (HAK.out (HO4.out.symm.trans (by rw [List.drop_of_length_le (by omega)];rfl)))
         go_wp2_with fail
         go_roundw
         case rel=>exact ⟨k+1,q2,by go_num,by omega,rfl,HT⟩
         case measure=>simp [intOf];omega
    ·have HE:=Lh ((seq_end (U:=U) (rest:=old.drop x) (show ¬ ∃ h:y < now.length,now[y] ∈ old from fun ⟨h,_⟩=>hyt h)).symm.trans HS.out)
     have y9:decide ((y:Int) < (now.length:Int))=false:=decide_eq_false (by omega)
     have y8:decide (y < now.length)=false:=decide_eq_false (by omega)
     by_cases hy0:y=0
     ·have HX:=Lh (HNK.out (HE.out.symm.trans (by rw [decide_eq_false (show ¬ 0 < y by omega)];rfl)))
      have p0:((y:Int) == 0)=true:=beq_iff_eq.2 (by omega)
      have p1:(y == 0)=true:=beq_iff_eq.2 hy0
      clear hy0
      go_wp2_with fail
      go_ret
      rw [HX.out]
      exact ⟨rfl,below_drewN HW.out _⟩
     ·have p0:((y:Int) == 0)=false:=beq_eq_false_iff_ne.2 (by omega)
      have p1:(y == 0)=false:=beq_eq_false_iff_ne.2 hy0
      have HO:=Lh (show outB U (now.drop y)=Ri from by have:=HE.out;rwa [decide_eq_true (show 0 < y by omega),Bool.true_and] at this)
      have CA:=Lh (fun u=>z17 U u bo cb (w3.drewN q2) (HN.out.below (below_drewN (Below.refl _ _) q2)) (by have:=HUL.out;omega))
      clear HE hy0
      go_wp2_with fail
      go_loop [10] (fun n=>∃ y4:Nat,n=.int .i64 y4∧y4≤now.length∧Hid (outB U (now.drop y4)=Ri)) (fun n=>now.length - (intOf n).toNat)
      case atStart=>exact ⟨y,rfl,hy,HO⟩
      case round =>
       obtain ⟨y4,rfl,hy4,HO4⟩:=hrel
       clear y8 y9
       by_cases h4:y4 < now.length
       ·obtain ⟨b7,o7,hbi7,c7⟩:=HN2.out.at y4 h4
        subst hbi7
        have r0:(y4:Int) < (now.length:Int):=by omega
        by_cases hin:now[y4] ∈ U
        ·have HX:=Lh (HNK.out (HO4.out.symm.trans (out_no h4 hin)))
         have c4:=CA.out now[y4]
         rw [show hasB U now[y4]=true from decide_eq_true hin] at c4
         clear hin
         generalize now[y4]=z4 at *
         go_wp2_with (go_at_call 28;refine c4.mono ?_;rintro e w' ⟨rfl,rfl⟩)
         go_ret
         rw [HX.out]
         exact ⟨rfl,below_drewN HW.out _⟩
        ·have HO5:=Lh ((out_step h4 hin).symm.trans HO4.out)
         have c4:=CA.out now[y4]
         rw [show hasB U now[y4]=false from decide_eq_false hin] at c4
         clear hin
         generalize now[y4]=z4 at *
         go_wp2_with (go_at_call 28;refine c4.mono ?_;rintro e w' ⟨rfl,rfl⟩)
         go_round
         case rel=>exact ⟨y4+1,by go_num,by omega,HO5⟩
         case measure=>simp [intOf];omega
       ·have HT:=Lh (HAK.out (HO4.out.symm.trans (by rw [List.drop_of_length_le (by omega)];rfl)))
        go_wp2_with fail
        go_roundw
        case rel=>exact ⟨k+1,q2,by go_num,by omega,rfl,HT⟩
        case measure=>simp [intOf];omega
  ·obtain rfl:k=L1.length:=by omega
   have HX:=Lh (HYES.out HA.out)
   go_wp2_with fail
   go_ret
   rw [HX.out]
   exact ⟨rfl,below_drewN HW.out _⟩
theorem rnext_any (e1:Int) (ao1:Option Addr) (c1:Nat) (L1:List (List Int)) (e2:Int) (ao2:Option Addr) (c2:Nat) (L2:List (List Int)) (w:World) (h1:CL w ao1 L1) (h2:CL w ao2 L2)
  (l1:L1.length≤255∧∀ c ∈ L1,c.length≤255) (l2:L2.length≤255∧∀ c ∈ L2,c.length≤255) :
  Calls Tryz.prog 23 #[.agg #[.int .i64 e1,.slice ao1 L1.length c1],.agg #[.int .i64 e2,.slice ao2 L2.length c2]] w fun e w'=>e=.returned (.bool (nextB e1 L1 e2 L2))∧Below w.heap.size w w':=by
 by_cases hno:goodB e1 L1=false∨goodB e2 L2=false∨e2≠e1+1∨L2.length≠L1.length
 ·rw [show nextB e1 L1 e2 L2=false from by
   unfold nextB
   rcases hno with h | h | h | h
   ·rw [h];rfl
   ·rw [h];simp
   ·simp [h]
   ·simp [h]]
  exact rnext_no e1 ao1 c1 L1 e2 ao2 c2 L2 w h1 h2 l1 l2 hno
 ·have g1:goodB e1 L1=true:=by
   cases e:goodB e1 L1
   ·exact absurd (.inl e) hno
   ·rfl
  have g2:goodB e2 L2=true:=by
   cases e:goodB e2 L2
   ·exact absurd (.inr (.inl e)) hno
   ·rfl
  have q:e2=e1+1:=by
   by_cases e:e2=e1+1
   ·exact e
   ·exact absurd (.inr (.inr (.inl e))) hno
  have hq:L2.length=L1.length:=by
   by_cases e:L2.length=L1.length
   ·exact e
   ·exact absurd (.inr (.inr (.inr e))) hno
  rw [show nextB e1 L1 e2 L2=(L1.zip L2).all (fun c=>seqB (unitsR L1) c.1 c.2 c.1 false) from by
   unfold nextB
   rw [g1,g2]
   simp [q,hq]]
  exact rnext_yes e1 ao1 c1 L1 e2 ao2 c2 L2 w h1 h2 l1 l2 g1 g2 q hq
end Go.Proofs.YtkefpbcifcjibaaGreat
