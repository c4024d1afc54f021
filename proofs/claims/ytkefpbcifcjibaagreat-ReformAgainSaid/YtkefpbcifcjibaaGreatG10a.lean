/- Joined texts. -/
import Derived.Deep.RegionHeld3
import Derived.Deep.RegionHeldLaw
import Derived.Test.YtkefpbcifcjibaaGreatG09a
import Derived.Deep.RegionLaw
import Derived.Test.YtkefpbcifcjibaaGreatG08a
import Derived.Test.YtkefpbcifcjibaaGreatG03b
import Derived.Test.YtkefpbcifcjibaaGreatH00
set_option linter.unusedVariables false
set_option maxRecDepth 20000
set_option maxHeartbeats 16000000
namespace Go.Proofs.YtkefpbcifcjibaaGreat
open Go.RowKit
theorem flat_le (L:List (List Int)) (m:Nat) (h:∀ c ∈ L,c.length≤m):L.flatten.length≤m * L.length:=by
 induction L with
 | nil=>simp
 | cons c L ih =>
  have h1:=h c (by simp)
  have h2:=ih (fun d hd=>h d (by simp [hd]))
  rw [List.flatten_cons,List.length_append,List.length_cons,Nat.mul_succ]
  omega
def uptoU (L:List (List Int)) (i k:Nat):List Int:=insAll [] ((L.take i).flatten ++ (L.getD i []).take k)
theorem uptoU_len (L:List (List Int)) (i k:Nat) (hl:L.length≤255∧∀ c ∈ L,c.length≤3000) (hi:i < L.length) (hk:k≤L[i].length):(uptoU L i k).length≤800000:=by
 have h1:=(z1r [] ((L.take i).flatten ++ (L.getD i []).take k) List.Pairwise.nil).1
 have h2:=flat_le (L.take i) 3000 (fun c hc=>hl.2 c (List.mem_of_mem_take hc))
 have h3:=hl.2 L[i] (List.getElem_mem hi)
 rw [List.length_append,List.length_nil] at h1
 have h4:((L.getD i []).take k).length≤k:=List.length_take_le _ _
 have h5:(L.take i).length≤255:=by rw [List.length_take];omega
 have h6:3000 * (L.take i).length≤3000 * 255:=Nat.mul_le_mul_left _ h5
 unfold uptoU
 omega
theorem uptoU_next (L:List (List Int)) (i k:Nat) (hi:i < L.length) (hk:k < L[i].length):uptoU L i (k+1)=insU L[i][k] (uptoU L i k):=by
 unfold uptoU
 have e:L.getD i []=L[i]:=by simp [hi]
 rw [e,List.take_succ_eq_append_getElem hk,← List.append_assoc,insAll_snoc]
theorem uptoU_chain (L:List (List Int)) (i:Nat) (hi:i < L.length):uptoU L i L[i].length=uptoU L (i+1) 0:=by
 unfold uptoU
 have e:L.getD i []=L[i]:=by simp [hi]
 rw [e,List.take_of_length_le (Nat.le_refl _),List.take_zero,List.append_nil,List.take_succ_eq_append_getElem hi,List.flatten_append]
 simp
theorem uptoU_all (L:List (List Int)):uptoU L L.length 0=unitsR L:=by
 unfold uptoU unitsR
 rw [List.take_zero,List.append_nil,List.take_of_length_le (Nat.le_refl _)]
theorem z1h (ep:Int) (ao:Option Addr) (cap:Nat) (L:List (List Int)) (w:World) (h:CL w ao L) (hl:L.length≤255∧∀ c ∈ L,c.length≤3000) :
  Calls Tryz.prog 27 #[.agg #[.int .i64 ep,.slice ao L.length cap]] w fun e w'=>∃ v,e=.returned v∧OI w' w.heap.size v (unitsR L)∧Below w.heap.size w w':=by
 have HB0:=Lh ((Below.refl w.heap.size w).alloc (Nat.le_refl _) (.cells #[.int .i64 ep,.slice ao L.length cap] 24))
 have HC:=Lh h
 have hl':(L.length:Int)≤255:=by omega
 have HM:=Lh hl
 clear h hl
 go_enter Tryz.func27,Tryz.ntmps27
 go_wp2_with fail
 go_loopw [3,4] (fun v i wr=>∃ n:Nat,i=.int .i64 n∧n≤L.length∧OI wr (w.heap.size+1) v (uptoU L n 0)∧Below (w.heap.size+1) (w.alloc (.cells #[.int .i64 ep,.slice ao L.length cap] 24)) wr) (fun _ i _=>L.length - (intOf i).toNat)
 case atStart=>exact ⟨0,rfl,Nat.zero_le _,OI.nil _ _,Below.refl _ _⟩
 case round =>
  obtain ⟨n,rfl,hn,hO,hb⟩:=hrel
  have b1:wr.cell? ⟨w.heap.size,1,none⟩=some (.slice ao L.length cap):=bcell0 hb (by simp) (by omega)
  have HW:=Lh (HB0.out.trans (hb.mono (by omega)))
  have hsz:w.heap.size+1≤wr.heap.size:=by have:=hb.size;simpa using this
  by_cases hlt:n < L.length
  ·obtain ⟨bk,off,ai,ci,hao,c0,_⟩:=(HC.out.below HW.out) n hlt
   subst hao
   have HO:=Lh hO
   have HB:=Lh hb
   clear hO hb
   go_wp2_with fail
   go_loopw [3,5] (fun v i wq=>∃ k:Nat,i=.int .i64 k∧k≤L[n].length∧OI wq (w.heap.size+1) v (uptoU L n k)∧Below (w.heap.size+1) (w.alloc (.cells #[.int .i64 ep,.slice (some ⟨bk,off,none⟩) L.length cap] 24)) wq) (fun _ i _=>L[n].length - (intOf i).toNat)
   case atStart=>exact ⟨0,rfl,Nat.zero_le _,HO.out,HB.out⟩
   case round =>
    obtain ⟨k,rfl,hk,hO2,hb2⟩:=hrel
    rename_i wr0 _ _ _ _ _ _ _
    skip
    have b1':wr.cell? ⟨w.heap.size,1,none⟩=some (.slice (some ⟨bk,off,none⟩) L.length cap):=bcell0 hb2 (by simp) (by omega)
    have HW2:=Lh (HB0.out.trans (hb2.mono (by omega)))
    have hsz2:w.heap.size+1≤wr.heap.size:=by have:=hb2.size;simpa using this
    have hm:=HM.out.2 L[n] (List.getElem_mem hlt)
    obtain ⟨bk',off',ai',ci',hao',c0',hN⟩:=(HC.out.below HW2.out) n hlt
    cases hao'
    by_cases hkt:k < L[n].length
    ·obtain ⟨b5,o5,hai,c5⟩:=hN.at k hkt
     subst hai
     have HR:=Lh (hN.rng k hkt)
     have HX:=Lh (uptoU_next L n k hlt hkt)
     have hD:=uptoU_len L n k HM.out hlt hk
     generalize uptoU L n k=D at *
     have HWF:=Lh (hN.wf _ (List.getElem_mem hkt))
     generalize L[n][k]=u at *
     obtain ⟨lo,lc,hv,hND,hlo,_⟩:=hO2.form
     subst hv
     have HND:=Lh hND
     have HO2:=Lh hO2
     have HB2:=Lh hb2
     clear hO2 hb2 hND hN b1 c0
     have hD':(D.length:Int)≤800000:=by omega
     go_wp2_with fail
     go_loop [7] (fun i=>∃ j:Nat,i=.int .i64 j∧j≤D.length∧Hid (∀ i (h:i < D.length),i < j→D[i] < u)) (fun i=>D.length - (intOf i).toNat)
     case atStart=>exact ⟨0,rfl,Nat.zero_le _,Lh (fun i _ hi=>absurd hi (Nat.not_lt_zero i))⟩
     case round =>
      obtain ⟨j,rfl,hj,HJ⟩:=hrel
      by_cases hjt:j < D.length
      ·obtain ⟨b6,o6,hlo',c6⟩:=HND.out.at j hjt
       subst hlo'
       by_cases hlt2:D[j] < u
       ·have HJ2:=Lh (show ∀ i (h:i < D.length),i < j+1→D[i] < u from fun i h hi=>by
         by_cases e:i=j
         ·subst e;exact hlt2
         ·exact HJ.out i h (by omega))
        generalize D[j]=x at *
        go_wp2_with fail
        go_round
        case rel=>exact ⟨j+1,by go_num,by omega,HJ2⟩
        case measure=>simp [intOf];omega
       ·have HI:=Lh (insU_at u D j hj HJ.out (fun _=>hlt2))
        by_cases heq:D[j]=u
        ·have HDD:=Lh (show uptoU L n (k+1)=D from by rw [HX.out,HI.out,if_pos ⟨hjt,heq⟩])
         have d1:(D[j] != u)=false:=bne_eq_false_iff_eq.2 heq
         have d2:((j:Int) == (D.length:Int))=false:=beq_eq_false_iff_ne.2 (by omega)
         have d3:(j == D.length)=false:=beq_eq_false_iff_ne.2 (by omega)
         generalize hx:D[j]=x at *
         have HXX:=Lh hx
         have HEQ:=Lh heq
         clear hx heq
         go_wp2_with fail
         go_roundw
         case rel=>exact ⟨k+1,by go_num,by omega,by rw [HDD.out];exact HO2.out,HB2.out⟩
         case measure=>simp [intOf];omega
        ·have HDD:=Lh (show uptoU L n (k+1)=D.take j ++ u :: D.drop j from by rw [HX.out,HI.out,if_neg (by rintro ⟨_,h⟩;exact heq h)])
         have d1:(D[j] != u)=true:=bne_iff_ne.2 heq
         have d2:((j:Int) == (D.length:Int))=false:=beq_eq_false_iff_ne.2 (by omega)
         have d3:(j == D.length)=false:=beq_eq_false_iff_ne.2 (by omega)
         generalize hx:D[j]=x at *
         have HXX:=Lh hx
         have HEQ:=Lh heq
         have hlc:j < lc:=by have:=HND.out.2.2;omega
         have HS2:=Lh (fun (W:World) (hb:Below wr.heap.size wr W)=>show NLI W (some ⟨b6,o6,none⟩) lc (D.take j) from (HND.out.take j (by omega)).below hb)
         have HS3:=Lh (fun (W:World) (hb:Below wr.heap.size wr W)=>show NLI W (some ⟨b6,o6+j,none⟩) (lc - j) (D.drop j) from (HND.out.drop j).below hb)
         have hl1:(D.take j).length=j:=by rw [List.length_take];omega
         have HL1:=Lh hl1
         have HL2:=Lh (show (D.drop j).length=D.length - j from List.length_drop)
         have i1:(0:Int)≤(j:Int):=by omega
         have i2:(j:Int)≤(lc:Int):=by omega
         have i3:(j:Int)≤(D.length:Int):=by omega
         have i4:(D.length:Int)≤(lc:Int):=by have:=HND.out.2.2;omega
         have i5:¬ lc=j:=by omega
         clear hx heq hl1
         go_wp2_with fail
         have HFa:=Lh (show OI (wr.alloc (.cells #[] 3)).drew wr.heap.size (.slice (some ⟨wr.heap.size,0,none⟩) 0 0) [] from (OI.made wr (Nat.le_refl _)).drew)
         have HFb:=Lh (show OI ((wr.alloc (.cells #[] 3)).alloc (.cells #[.int .i64 u] 3)).drew wr.heap.size (.slice (some ⟨wr.heap.size,0,none⟩) 0 0) [] from ((OI.made wr (Nat.le_refl _)).alloc _).drew)
         have HFc:=Lh (show OI ((wr.alloc (.cells #[.int .i64 u] 3)).alloc (.cells #[] 3)).drew wr.heap.size (.slice (some ⟨wr.heap.size+1,0,none⟩) 0 0) [] from by have:=(OI.made (wr.alloc (.cells #[.int .i64 u] 3)) (B:=wr.heap.size) (by simp)).drew;simpa using this)
         have HUb:=Lh (show NLI ((wr.alloc (.cells #[] 3)).alloc (.cells #[.int .i64 u] 3)).drew (some ⟨wr.heap.size+1,0,none⟩) 1 [u] from by have:=(NLI.made (wr.alloc (.cells #[] 3)) u HWF.out).drew;simpa using this)
         have HUc:=Lh (show NLI ((wr.alloc (.cells #[.int .i64 u] 3)).alloc (.cells #[] 3)).drew (some ⟨wr.heap.size,0,none⟩) 1 [u] from ((NLI.made wr u HWF.out).alloc _).drew)
         have HBa:=Lh (show Below wr.heap.size wr (wr.alloc (.cells #[] 3)).drew from ((Below.refl _ _).alloc (Nat.le_refl _) _).drew)
         have HBb:=Lh (show Below wr.heap.size wr ((wr.alloc (.cells #[] 3)).alloc (.cells #[.int .i64 u] 3)).drew from (((Below.refl _ _).alloc (Nat.le_refl _) _).alloc (by simp) _).drew)
         have HBc:=Lh (show Below wr.heap.size wr ((wr.alloc (.cells #[.int .i64 u] 3)).alloc (.cells #[] 3)).drew from (((Below.refl _ _).alloc (Nat.le_refl _) _).alloc (by simp) _).drew)
         go_region_held3 (fun W=>Below wr.heap.size wr W) (first | assumption | exact HBa.out | exact HBb.out | exact HBc.out | exact (Below.refl _ _).drew | exact Below.alloc (by assumption) (Below.size (by assumption)) _ | exact ((Below.refl _ _).alloc (Nat.le_refl _) _).drew) (first | (refine z0d rfl (.tmp 59) (.tmp 62) rfl (B:=wr.heap.size) (v:=.slice (some ⟨wr.heap.size,0,none⟩) 0 0) (D:=[]) rfl HFa.out (ao:=some ⟨b6,o6,none⟩) (cap:=lc) (l:=D.take j) (m:=j) HL1.out rfl (HS2.out _ HBa.out) (by simp;omega) HBa.out.size ?_;intro v1 w1 hI hg _;rw [List.nil_append] at hI;have hb1:=HBa.out.grown hg HBa.out.size (fun k e=>by cases e;first | exact Nat.le_refl _ | exact Nat.le_succ _);have HI1:=Lh hI;clear hI hg) | (refine z0d rfl (.tmp 59) (.tmp 62) rfl (B:=wr.heap.size) (v:=.slice (some ⟨wr.heap.size,0,none⟩) 0 0) (D:=[]) rfl HFb.out (ao:=some ⟨b6,o6,none⟩) (cap:=lc) (l:=D.take j) (m:=j) HL1.out rfl (HS2.out _ HBb.out) (by simp;omega) HBb.out.size ?_;intro v1 w1 hI hg _;rw [List.nil_append] at hI;have hb1:=HBb.out.grown hg HBb.out.size (fun k e=>by cases e;first | exact Nat.le_refl _ | exact Nat.le_succ _);have HI1:=Lh hI;have HU1:=Lh (HUb.out.grown hg (fun a e=>by cases e;intro e2;have e3:=Option.some.inj e2;simp at e3));clear hI hg) | (refine z0d rfl (.tmp 59) (.tmp 62) rfl (B:=wr.heap.size) (v:=.slice (some ⟨wr.heap.size+1,0,none⟩) 0 0) (D:=[]) rfl HFc.out (ao:=some ⟨b6,o6,none⟩) (cap:=lc) (l:=D.take j) (m:=j) HL1.out rfl (HS2.out _ HBc.out) (by simp;omega) HBc.out.size ?_;intro v1 w1 hI hg _;rw [List.nil_append] at hI;have hb1:=HBc.out.grown hg HBc.out.size (fun k e=>by cases e;first | exact Nat.le_refl _ | exact Nat.le_succ _);have HI1:=Lh hI;have HU1:=Lh (HUc.out.grown hg (fun a e=>by cases e;intro e2;have e3:=Option.some.inj e2;simp at e3));clear hI hg) | (refine z0d rfl (.tmp 63) (.tmp 65) rfl (B:=wr.heap.size) (D:=D.take j) rfl (HI1.out.alloc _) (ao:=some ⟨w1.heap.size,0,none⟩) (cap:=1) (l:=[u]) (m:=1) rfl rfl (NLI.made w1 u HWF.out) (by rw [HL1.out];simp;omega) (by have:=hb1.size;simp;omega) ?_;intro v2 w2 hI hg _;have hb2:=(hb1.alloc hb1.size _).grown hg (by have:=hb1.size;simp;omega) (fun k e=>(HI1.out.1.lt k e).1);have HI2:=Lh hI;clear hI hg) | (refine z0d rfl (.tmp 63) (.tmp 65) rfl (B:=wr.heap.size) (D:=D.take j) rfl HI1.out (ao:=some ⟨_,0,none⟩) (cap:=1) (l:=[u]) (m:=1) rfl rfl HU1.out (by rw [HL1.out];simp;omega) hb1.size ?_;intro v2 w2 hI hg _;have hb2:=hb1.grown hg hb1.size (fun k e=>(HI1.out.1.lt k e).1);have HI2:=Lh hI;clear hI hg) | (refine z0d rfl (.tmp 66) (.tmp 69) rfl (B:=wr.heap.size) (D:=D.take j ++ [u]) rfl HI2.out (ao:=some ⟨b6,o6+j,none⟩) (cap:=lc - j) (l:=D.drop j) (m:=D.length - j) HL2.out rfl (HS3.out _ hb2) (by rw [List.length_append,HL1.out,HL2.out];simp;omega) hb2.size ?_;intro v3 w3 hI hg _;have hb3:=hb2.grown hg hb2.size (fun k e=>(HI2.out.1.lt k e).1);rw [List.append_assoc] at hI;have HI3:=Lh hI;clear hI hg))
         all_goals
          go_wp2_with fail
          go_roundw
          case rel=>exact ⟨k+1,by go_num,by omega,by rw [HDD.out];exact HI3.out.lower hsz2,HB2.out.trans (hb3.mono hsz2)⟩
          case measure=>simp [intOf];omega
      ·have HI:=Lh (insU_at u D j hj HJ.out (fun h=>absurd h hjt))
       have HDD:=Lh (show uptoU L n (k+1)=D.take j ++ u :: D.drop j from by rw [HX.out,HI.out,if_neg (by rintro ⟨h,_⟩;exact hjt h)])
       have d2:((j:Int) == (D.length:Int))=true:=beq_iff_eq.2 (by omega)
       have d3:(j == D.length)=true:=beq_iff_eq.2 (by omega)
       have hlc:=HND.out.2.2
       have hge:D.length≤j:=by omega
       have hge':(D.length:Int)≤(j:Int):=by omega
       have hnil:D.drop j=[]:=List.drop_of_length_le hge
       have HNIL:=Lh hnil
       clear hnil hjt
       rcases HO2.out.form2 with hlo0 | ⟨g,hlo0⟩
       ·subst hlo0
        have HS2:=Lh (fun (W:World) (hb:Below wr.heap.size wr W)=>show NLI W none lc (D.take j) from (HND.out.take j hj).below hb)
        have HS3:=Lh (fun (W:World) (hb:Below wr.heap.size wr W)=>show NLI W none (lc - j) (D.drop j) from by rw [HNIL.out];exact ⟨NL.nil _ _,fun _=>by have:=HND.out.of_none.2;omega,Nat.zero_le _⟩)
        have hl1:(D.take j).length=j:=by rw [List.length_take];omega
        have HL1:=Lh hl1
        have HL2:=Lh (show (D.drop j).length=0 from by rw [HNIL.out];rfl)
        have i1:(0:Int)≤(j:Int):=by omega
        have i2:(j:Int)≤(lc:Int):=by omega
        have i3:(j:Int)≤(D.length:Int):=by omega
        have i4:(D.length:Int)≤(lc:Int):=by omega
        clear hl1
        go_wp2_with fail
        have HFa:=Lh (show OI (wr.alloc (.cells #[] 3)).drew wr.heap.size (.slice (some ⟨wr.heap.size,0,none⟩) 0 0) [] from (OI.made wr (Nat.le_refl _)).drew)
        have HFb:=Lh (show OI ((wr.alloc (.cells #[] 3)).alloc (.cells #[.int .i64 u] 3)).drew wr.heap.size (.slice (some ⟨wr.heap.size,0,none⟩) 0 0) [] from ((OI.made wr (Nat.le_refl _)).alloc _).drew)
        have HFc:=Lh (show OI ((wr.alloc (.cells #[.int .i64 u] 3)).alloc (.cells #[] 3)).drew wr.heap.size (.slice (some ⟨wr.heap.size+1,0,none⟩) 0 0) [] from by have:=(OI.made (wr.alloc (.cells #[.int .i64 u] 3)) (B:=wr.heap.size) (by simp)).drew;simpa using this)
        have HUb:=Lh (show NLI ((wr.alloc (.cells #[] 3)).alloc (.cells #[.int .i64 u] 3)).drew (some ⟨wr.heap.size+1,0,none⟩) 1 [u] from by have:=(NLI.made (wr.alloc (.cells #[] 3)) u HWF.out).drew;simpa using this)
        have HUc:=Lh (show NLI ((wr.alloc (.cells #[.int .i64 u] 3)).alloc (.cells #[] 3)).drew (some ⟨wr.heap.size,0,none⟩) 1 [u] from ((NLI.made wr u HWF.out).alloc _).drew)
        have HBa:=Lh (show Below wr.heap.size wr (wr.alloc (.cells #[] 3)).drew from ((Below.refl _ _).alloc (Nat.le_refl _) _).drew)
        have HBb:=Lh (show Below wr.heap.size wr ((wr.alloc (.cells #[] 3)).alloc (.cells #[.int .i64 u] 3)).drew from (((Below.refl _ _).alloc (Nat.le_refl _) _).alloc (by simp) _).drew)
        have HBc:=Lh (show Below wr.heap.size wr ((wr.alloc (.cells #[.int .i64 u] 3)).alloc (.cells #[] 3)).drew from (((Below.refl _ _).alloc (Nat.le_refl _) _).alloc (by simp) _).drew)
        go_region_held3 (fun W=>Below wr.heap.size wr W) (first | assumption | exact HBa.out | exact HBb.out | exact HBc.out | exact (Below.refl _ _).drew | exact Below.alloc (by assumption) (Below.size (by assumption)) _ | exact ((Below.refl _ _).alloc (Nat.le_refl _) _).drew) (first | (refine z0d rfl (.tmp 59) (.tmp 62) rfl (B:=wr.heap.size) (v:=.slice (some ⟨wr.heap.size,0,none⟩) 0 0) (D:=[]) rfl HFa.out (ao:=none) (cap:=lc) (l:=D.take j) (m:=j) HL1.out rfl (HS2.out _ HBa.out) (by simp;omega) HBa.out.size ?_;intro v1 w1 hI hg _;rw [List.nil_append] at hI;have hb1:=HBa.out.grown hg HBa.out.size (fun k e=>by cases e;first | exact Nat.le_refl _ | exact Nat.le_succ _);have HI1:=Lh hI;clear hI hg) | (refine z0d rfl (.tmp 59) (.tmp 62) rfl (B:=wr.heap.size) (v:=.slice (some ⟨wr.heap.size,0,none⟩) 0 0) (D:=[]) rfl HFb.out (ao:=none) (cap:=lc) (l:=D.take j) (m:=j) HL1.out rfl (HS2.out _ HBb.out) (by simp;omega) HBb.out.size ?_;intro v1 w1 hI hg _;rw [List.nil_append] at hI;have hb1:=HBb.out.grown hg HBb.out.size (fun k e=>by cases e;first | exact Nat.le_refl _ | exact Nat.le_succ _);have HI1:=Lh hI;have HU1:=Lh (HUb.out.grown hg (fun a e=>by cases e;intro e2;have e3:=Option.some.inj e2;simp at e3));clear hI hg) | (refine z0d rfl (.tmp 59) (.tmp 62) rfl (B:=wr.heap.size) (v:=.slice (some ⟨wr.heap.size+1,0,none⟩) 0 0) (D:=[]) rfl HFc.out (ao:=none) (cap:=lc) (l:=D.take j) (m:=j) HL1.out rfl (HS2.out _ HBc.out) (by simp;omega) HBc.out.size ?_;intro v1 w1 hI hg _;rw [List.nil_append] at hI;have hb1:=HBc.out.grown hg HBc.out.size (fun k e=>by cases e;first | exact Nat.le_refl _ | exact Nat.le_succ _);have HI1:=Lh hI;have HU1:=Lh (HUc.out.grown hg (fun a e=>by cases e;intro e2;have e3:=Option.some.inj e2;simp at e3));clear hI hg) | (refine z0d rfl (.tmp 63) (.tmp 65) rfl (B:=wr.heap.size) (D:=D.take j) rfl (HI1.out.alloc _) (ao:=some ⟨w1.heap.size,0,none⟩) (cap:=1) (l:=[u]) (m:=1) rfl rfl (NLI.made w1 u HWF.out) (by rw [HL1.out];simp;omega) (by have:=hb1.size;simp;omega) ?_;intro v2 w2 hI hg _;have hb2:=(hb1.alloc hb1.size _).grown hg (by have:=hb1.size;simp;omega) (fun k e=>(HI1.out.1.lt k e).1);have HI2:=Lh hI;clear hI hg) | (refine z0d rfl (.tmp 63) (.tmp 65) rfl (B:=wr.heap.size) (D:=D.take j) rfl HI1.out (ao:=some ⟨_,0,none⟩) (cap:=1) (l:=[u]) (m:=1) rfl rfl HU1.out (by rw [HL1.out];simp;omega) hb1.size ?_;intro v2 w2 hI hg _;have hb2:=hb1.grown hg hb1.size (fun k e=>(HI1.out.1.lt k e).1);have HI2:=Lh hI;clear hI hg) | (refine z0d rfl (.tmp 66) (.tmp 69) rfl (B:=wr.heap.size) (D:=D.take j ++ [u]) rfl HI2.out (ao:=none) (cap:=lc - j) (l:=D.drop j) (m:=0) HL2.out rfl (HS3.out _ hb2) (by rw [List.length_append,HL1.out,HL2.out];simp;omega) hb2.size ?_;intro v3 w3 hI hg _;have hb3:=hb2.grown hg hb2.size (fun k e=>(HI2.out.1.lt k e).1);rw [List.append_assoc] at hI;have HI3:=Lh hI;clear hI hg))
        all_goals
         go_wp2_with fail
         go_roundw
         case rel=>exact ⟨k+1,by go_num,by omega,by rw [HDD.out];exact HI3.out.lower hsz2,HB2.out.trans (hb3.mono hsz2)⟩
         case measure=>simp [intOf];omega
       ·subst hlo0
        have HS2:=Lh (fun (W:World) (hb:Below wr.heap.size wr W)=>show NLI W (some ⟨g,0,none⟩) lc (D.take j) from (HND.out.take j hj).below hb)
        by_cases hcap:lc=j
        ·subst hcap
         have HS3:=Lh (fun (W:World) (hb:Below wr.heap.size wr W)=>show NLI W (some ⟨g,0,none⟩) 0 (D.drop lc) from by rw [HNIL.out];exact ⟨NL.nil _ _,fun _=>rfl,Nat.le_refl _⟩)
         have hl1:(D.take lc).length=lc:=by rw [List.length_take];omega
         have HL1:=Lh hl1
         have HL2:=Lh (show (D.drop lc).length=0 from by rw [HNIL.out];rfl)
         have i1:(0:Int)≤(lc:Int):=by omega
         have i2:(lc:Int)≤(lc:Int):=by omega
         have i3:(lc:Int)≤(D.length:Int):=by omega
         have i4:(D.length:Int)≤(lc:Int):=by omega
         clear hl1
         go_wp2_with fail
         have HFa:=Lh (show OI (wr.alloc (.cells #[] 3)).drew wr.heap.size (.slice (some ⟨wr.heap.size,0,none⟩) 0 0) [] from (OI.made wr (Nat.le_refl _)).drew)
         have HFb:=Lh (show OI ((wr.alloc (.cells #[] 3)).alloc (.cells #[.int .i64 u] 3)).drew wr.heap.size (.slice (some ⟨wr.heap.size,0,none⟩) 0 0) [] from ((OI.made wr (Nat.le_refl _)).alloc _).drew)
         have HFc:=Lh (show OI ((wr.alloc (.cells #[.int .i64 u] 3)).alloc (.cells #[] 3)).drew wr.heap.size (.slice (some ⟨wr.heap.size+1,0,none⟩) 0 0) [] from by have:=(OI.made (wr.alloc (.cells #[.int .i64 u] 3)) (B:=wr.heap.size) (by simp)).drew;simpa using this)
         have HUb:=Lh (show NLI ((wr.alloc (.cells #[] 3)).alloc (.cells #[.int .i64 u] 3)).drew (some ⟨wr.heap.size+1,0,none⟩) 1 [u] from by have:=(NLI.made (wr.alloc (.cells #[] 3)) u HWF.out).drew;simpa using this)
         have HUc:=Lh (show NLI ((wr.alloc (.cells #[.int .i64 u] 3)).alloc (.cells #[] 3)).drew (some ⟨wr.heap.size,0,none⟩) 1 [u] from ((NLI.made wr u HWF.out).alloc _).drew)
         have HBa:=Lh (show Below wr.heap.size wr (wr.alloc (.cells #[] 3)).drew from ((Below.refl _ _).alloc (Nat.le_refl _) _).drew)
         have HBb:=Lh (show Below wr.heap.size wr ((wr.alloc (.cells #[] 3)).alloc (.cells #[.int .i64 u] 3)).drew from (((Below.refl _ _).alloc (Nat.le_refl _) _).alloc (by simp) _).drew)
         have HBc:=Lh (show Below wr.heap.size wr ((wr.alloc (.cells #[.int .i64 u] 3)).alloc (.cells #[] 3)).drew from (((Below.refl _ _).alloc (Nat.le_refl _) _).alloc (by simp) _).drew)
         go_region_held3 (fun W=>Below wr.heap.size wr W) (first | assumption | exact HBa.out | exact HBb.out | exact HBc.out | exact (Below.refl _ _).drew | exact Below.alloc (by assumption) (Below.size (by assumption)) _ | exact ((Below.refl _ _).alloc (Nat.le_refl _) _).drew) (first | (refine z0d rfl (.tmp 59) (.tmp 62) rfl (B:=wr.heap.size) (v:=.slice (some ⟨wr.heap.size,0,none⟩) 0 0) (D:=[]) rfl HFa.out (ao:=some ⟨g,0,none⟩) (cap:=lc) (l:=D.take lc) (m:=lc) HL1.out rfl (HS2.out _ HBa.out) (by simp;omega) HBa.out.size ?_;intro v1 w1 hI hg _;rw [List.nil_append] at hI;have hb1:=HBa.out.grown hg HBa.out.size (fun k e=>by cases e;first | exact Nat.le_refl _ | exact Nat.le_succ _);have HI1:=Lh hI;clear hI hg) | (refine z0d rfl (.tmp 59) (.tmp 62) rfl (B:=wr.heap.size) (v:=.slice (some ⟨wr.heap.size,0,none⟩) 0 0) (D:=[]) rfl HFb.out (ao:=some ⟨g,0,none⟩) (cap:=lc) (l:=D.take lc) (m:=lc) HL1.out rfl (HS2.out _ HBb.out) (by simp;omega) HBb.out.size ?_;intro v1 w1 hI hg _;rw [List.nil_append] at hI;have hb1:=HBb.out.grown hg HBb.out.size (fun k e=>by cases e;first | exact Nat.le_refl _ | exact Nat.le_succ _);have HI1:=Lh hI;have HU1:=Lh (HUb.out.grown hg (fun a e=>by cases e;intro e2;have e3:=Option.some.inj e2;simp at e3));clear hI hg) | (refine z0d rfl (.tmp 59) (.tmp 62) rfl (B:=wr.heap.size) (v:=.slice (some ⟨wr.heap.size+1,0,none⟩) 0 0) (D:=[]) rfl HFc.out (ao:=some ⟨g,0,none⟩) (cap:=lc) (l:=D.take lc) (m:=lc) HL1.out rfl (HS2.out _ HBc.out) (by simp;omega) HBc.out.size ?_;intro v1 w1 hI hg _;rw [List.nil_append] at hI;have hb1:=HBc.out.grown hg HBc.out.size (fun k e=>by cases e;first | exact Nat.le_refl _ | exact Nat.le_succ _);have HI1:=Lh hI;have HU1:=Lh (HUc.out.grown hg (fun a e=>by cases e;intro e2;have e3:=Option.some.inj e2;simp at e3));clear hI hg) | (refine z0d rfl (.tmp 63) (.tmp 65) rfl (B:=wr.heap.size) (D:=D.take lc) rfl (HI1.out.alloc _) (ao:=some ⟨w1.heap.size,0,none⟩) (cap:=1) (l:=[u]) (m:=1) rfl rfl (NLI.made w1 u HWF.out) (by rw [HL1.out];simp;omega) (by have:=hb1.size;simp;omega) ?_;intro v2 w2 hI hg _;have hb2:=(hb1.alloc hb1.size _).grown hg (by have:=hb1.size;simp;omega) (fun k e=>(HI1.out.1.lt k e).1);have HI2:=Lh hI;clear hI hg) | (refine z0d rfl (.tmp 63) (.tmp 65) rfl (B:=wr.heap.size) (D:=D.take lc) rfl HI1.out (ao:=some ⟨_,0,none⟩) (cap:=1) (l:=[u]) (m:=1) rfl rfl HU1.out (by rw [HL1.out];simp;omega) hb1.size ?_;intro v2 w2 hI hg _;have hb2:=hb1.grown hg hb1.size (fun k e=>(HI1.out.1.lt k e).1);have HI2:=Lh hI;clear hI hg) | (refine z0d rfl (.tmp 66) (.tmp 69) rfl (B:=wr.heap.size) (D:=D.take lc ++ [u]) rfl HI2.out (ao:=some ⟨g,0,none⟩) (cap:=0) (l:=D.drop lc) (m:=0) HL2.out rfl (HS3.out _ hb2) (by rw [List.length_append,HL1.out,HL2.out];simp;omega) hb2.size ?_;intro v3 w3 hI hg _;have hb3:=hb2.grown hg hb2.size (fun k e=>(HI2.out.1.lt k e).1);rw [List.append_assoc] at hI;have HI3:=Lh hI;clear hI hg))
         all_goals
          go_wp2_with fail
          go_roundw
          case rel=>exact ⟨k+1,by go_num,by omega,by rw [HDD.out];exact HI3.out.lower hsz2,HB2.out.trans (hb3.mono hsz2)⟩
          case measure=>simp [intOf];omega
        ·have HS3:=Lh (fun (W:World) (hb:Below wr.heap.size wr W)=>show NLI W (some ⟨g,j,none⟩) (lc - j) (D.drop j) from by have:=(HND.out.drop j).below hb;rwa [Nat.zero_add] at this)
         have hl1:(D.take j).length=j:=by rw [List.length_take];omega
         have HL1:=Lh hl1
         have HL2:=Lh (show (D.drop j).length=0 from by rw [HNIL.out];rfl)
         have i1:(0:Int)≤(j:Int):=by omega
         have i2:(j:Int)≤(lc:Int):=by omega
         have i3:(j:Int)≤(D.length:Int):=by omega
         have i4:(D.length:Int)≤(lc:Int):=by omega
         clear hl1
         go_wp2_with fail
         have HFa:=Lh (show OI (wr.alloc (.cells #[] 3)).drew wr.heap.size (.slice (some ⟨wr.heap.size,0,none⟩) 0 0) [] from (OI.made wr (Nat.le_refl _)).drew)
         have HFb:=Lh (show OI ((wr.alloc (.cells #[] 3)).alloc (.cells #[.int .i64 u] 3)).drew wr.heap.size (.slice (some ⟨wr.heap.size,0,none⟩) 0 0) [] from ((OI.made wr (Nat.le_refl _)).alloc _).drew)
         have HFc:=Lh (show OI ((wr.alloc (.cells #[.int .i64 u] 3)).alloc (.cells #[] 3)).drew wr.heap.size (.slice (some ⟨wr.heap.size+1,0,none⟩) 0 0) [] from by have:=(OI.made (wr.alloc (.cells #[.int .i64 u] 3)) (B:=wr.heap.size) (by simp)).drew;simpa using this)
         have HUb:=Lh (show NLI ((wr.alloc (.cells #[] 3)).alloc (.cells #[.int .i64 u] 3)).drew (some ⟨wr.heap.size+1,0,none⟩) 1 [u] from by have:=(NLI.made (wr.alloc (.cells #[] 3)) u HWF.out).drew;simpa using this)
         have HUc:=Lh (show NLI ((wr.alloc (.cells #[.int .i64 u] 3)).alloc (.cells #[] 3)).drew (some ⟨wr.heap.size,0,none⟩) 1 [u] from ((NLI.made wr u HWF.out).alloc _).drew)
         have HBa:=Lh (show Below wr.heap.size wr (wr.alloc (.cells #[] 3)).drew from ((Below.refl _ _).alloc (Nat.le_refl _) _).drew)
         have HBb:=Lh (show Below wr.heap.size wr ((wr.alloc (.cells #[] 3)).alloc (.cells #[.int .i64 u] 3)).drew from (((Below.refl _ _).alloc (Nat.le_refl _) _).alloc (by simp) _).drew)
         have HBc:=Lh (show Below wr.heap.size wr ((wr.alloc (.cells #[.int .i64 u] 3)).alloc (.cells #[] 3)).drew from (((Below.refl _ _).alloc (Nat.le_refl _) _).alloc (by simp) _).drew)
         go_region_held3 (fun W=>Below wr.heap.size wr W) (first | assumption | exact HBa.out | exact HBb.out | exact HBc.out | exact (Below.refl _ _).drew | exact Below.alloc (by assumption) (Below.size (by assumption)) _ | exact ((Below.refl _ _).alloc (Nat.le_refl _) _).drew) (first | (refine z0d rfl (.tmp 59) (.tmp 62) rfl (B:=wr.heap.size) (v:=.slice (some ⟨wr.heap.size,0,none⟩) 0 0) (D:=[]) rfl HFa.out (ao:=some ⟨g,0,none⟩) (cap:=lc) (l:=D.take j) (m:=j) HL1.out rfl (HS2.out _ HBa.out) (by simp;omega) HBa.out.size ?_;intro v1 w1 hI hg _;rw [List.nil_append] at hI;have hb1:=HBa.out.grown hg HBa.out.size (fun k e=>by cases e;first | exact Nat.le_refl _ | exact Nat.le_succ _);have HI1:=Lh hI;clear hI hg) | (refine z0d rfl (.tmp 59) (.tmp 62) rfl (B:=wr.heap.size) (v:=.slice (some ⟨wr.heap.size,0,none⟩) 0 0) (D:=[]) rfl HFb.out (ao:=some ⟨g,0,none⟩) (cap:=lc) (l:=D.take j) (m:=j) HL1.out rfl (HS2.out _ HBb.out) (by simp;omega) HBb.out.size ?_;intro v1 w1 hI hg _;rw [List.nil_append] at hI;have hb1:=HBb.out.grown hg HBb.out.size (fun k e=>by cases e;first | exact Nat.le_refl _ | exact Nat.le_succ _);have HI1:=Lh hI;have HU1:=Lh (HUb.out.grown hg (fun a e=>by cases e;intro e2;have e3:=Option.some.inj e2;simp at e3));clear hI hg) | (refine z0d rfl (.tmp 59) (.tmp 62) rfl (B:=wr.heap.size) (v:=.slice (some ⟨wr.heap.size+1,0,none⟩) 0 0) (D:=[]) rfl HFc.out (ao:=some ⟨g,0,none⟩) (cap:=lc) (l:=D.take j) (m:=j) HL1.out rfl (HS2.out _ HBc.out) (by simp;omega) HBc.out.size ?_;intro v1 w1 hI hg _;rw [List.nil_append] at hI;have hb1:=HBc.out.grown hg HBc.out.size (fun k e=>by cases e;first | exact Nat.le_refl _ | exact Nat.le_succ _);have HI1:=Lh hI;have HU1:=Lh (HUc.out.grown hg (fun a e=>by cases e;intro e2;have e3:=Option.some.inj e2;simp at e3));clear hI hg) | (refine z0d rfl (.tmp 63) (.tmp 65) rfl (B:=wr.heap.size) (D:=D.take j) rfl (HI1.out.alloc _) (ao:=some ⟨w1.heap.size,0,none⟩) (cap:=1) (l:=[u]) (m:=1) rfl rfl (NLI.made w1 u HWF.out) (by rw [HL1.out];simp;omega) (by have:=hb1.size;simp;omega) ?_;intro v2 w2 hI hg _;have hb2:=(hb1.alloc hb1.size _).grown hg (by have:=hb1.size;simp;omega) (fun k e=>(HI1.out.1.lt k e).1);have HI2:=Lh hI;clear hI hg) | (refine z0d rfl (.tmp 63) (.tmp 65) rfl (B:=wr.heap.size) (D:=D.take j) rfl HI1.out (ao:=some ⟨_,0,none⟩) (cap:=1) (l:=[u]) (m:=1) rfl rfl HU1.out (by rw [HL1.out];simp;omega) hb1.size ?_;intro v2 w2 hI hg _;have hb2:=hb1.grown hg hb1.size (fun k e=>(HI1.out.1.lt k e).1);have HI2:=Lh hI;clear hI hg) | (refine z0d rfl (.tmp 66) (.tmp 69) rfl (B:=wr.heap.size) (D:=D.take j ++ [u]) rfl HI2.out (ao:=some ⟨g,j,none⟩) (cap:=lc - j) (l:=D.drop j) (m:=0) HL2.out rfl (HS3.out _ hb2) (by rw [List.length_append,HL1.out,HL2.out];simp;omega) hb2.size ?_;intro v3 w3 hI hg _;have hb3:=hb2.grown hg hb2.size (fun k e=>(HI2.out.1.lt k e).1);rw [List.append_assoc] at hI;have HI3:=Lh hI;clear hI hg))
         all_goals
          go_wp2_with fail
          go_roundw
          case rel=>exact ⟨k+1,by go_num,by omega,by rw [HDD.out];exact HI3.out.lower hsz2,HB2.out.trans (hb3.mono hsz2)⟩
          case measure=>simp [intOf];omega
    ·obtain rfl:k=L[n].length:=by omega
     rw [uptoU_chain L n hlt] at hO2
     have HO2:=Lh hO2
     have HB2:=Lh hb2
     clear hO2 hb2
     go_wp2_with fail
     go_roundw
     case rel=>exact ⟨n+1,by go_num,by omega,HO2.out,HB2.out⟩
     case measure=>simp [intOf];omega
  ·obtain rfl:n=L.length:=by omega
   rw [uptoU_all] at hO
   obtain ⟨bo,cb,rfl,hN,_,_⟩:=hO.form
   go_wp2_with fail
   go_ret
   exact ⟨_,rfl,hO.lower (Nat.le_succ _),HW.out⟩
theorem z1p (ep:Int) (ao:Option Addr) (cap:Nat) (L:List (List Int)) (w:World) (h:CL w ao L) (hl:L.length≤255∧∀ c ∈ L,c.length≤255) :
  Calls Tryz.prog 27 #[.agg #[.int .i64 ep,.slice ao L.length cap]] w fun e w'=>∃ bo cb,e=.returned (.slice bo (unitsR L).length cb)∧NLI w' bo cb (unitsR L)∧Below w.heap.size w w':=by
 refine (z1h ep ao cap L w h ⟨hl.1,fun c hc=>Nat.le_trans (hl.2 c hc) (by decide)⟩).mono ?_
 rintro e w' ⟨v,rfl,hO,hb⟩
 obtain ⟨bo,cb,rfl,hN,_,_⟩:=hO.form
 exact ⟨bo,cb,rfl,hN,hb⟩
theorem below_kept {B:Nat} {w w':World} (h:Below B w w') (hB:B≤w.heap.size):Kept (fun k=>k < B) w w' :=
 ⟨h.os,h.tape,h.output,h.size,fun k hk _=>h.block k hk⟩
def CP (w:World) (B:Nat) (v:Value) (vs:List Value) (L:List (List Int)):Prop :=
 w.ownsRow B 65 1 v L.length vs∧vs.length=L.length∧(∀ i (h:i < L.length) x,vs[i]?=some x→OI w B x L[i]∧∀ k,x.ownBlock=some k→v.ownBlock≠some k)∧
 ∀ (i j:Nat) (x y:Value) (k:Nat),i < j→vs[i]?=some x→vs[j]?=some y→x.ownBlock=some k→y.ownBlock≠some k
theorem CP.nil (w:World) (B:Nat):CP w B (.slice none 0 0) [] []:=⟨World.ownsRow_nil _ _ _ _,rfl,fun i h=>absurd h (Nat.not_lt_zero i),fun i j x y k _ hx=>by cases i <;> cases hx⟩
theorem CP.keep {S:Nat→Prop} {w w':World} {B:Nat} {v:Value} {vs:List Value} {L:List (List Int)} (h:CP w B v vs L) (hk:Kept S w w') (hS:∀ k,B≤k→k < w.heap.size→S k):CP w' B v vs L:=by
 obtain ⟨h1,h2,h3,h4⟩:=h
 exact ⟨hk.owns h1 (fun k e=>hS k (h1.lt k e).1 (h1.lt k e).2),h2,fun i hi x hx=>⟨(h3 i hi x hx).1.keep hk hS,(h3 i hi x hx).2⟩,h4⟩
theorem CP.below {w w':World} {B:Nat} {v:Value} {vs:List Value} {L:List (List Int)} (h:CP w B v vs L) (hb:Below w.heap.size w w'):CP w' B v vs L:=h.keep (Kept.ofBelow hb (fun _=>True)) (fun _ _ _=>trivial)
theorem CP.form {w:World} {B:Nat} {v:Value} {vs:List Value} {L:List (List Int)} (h:CP w B v vs L):∃ bo cb,v=.slice bo L.length cb:=by
 rcases h.1.2 with ⟨rfl,h0⟩ | ⟨g,cap,cur,rfl,_⟩
 ·exact ⟨none,0,by rw [h0]⟩
 ·exact ⟨_,_,rfl⟩
theorem run_app_copy (w:World) (ty:TypeId) {B:Nat} {v:Value} {vs:List Value} {L:List (List Int)} (h:CP w B v vs L) {x:Value} {l:List Int} (hO:OI w B x l) (hf:∀ k,x.ownBlock=some k→v.ownBlock≠some k∧∀ (i:Nat) (y:Value),vs[i]?=some y→y.ownBlock≠some k) (hz:L.length+1≤1000000) (hB:B≤w.heap.size) :
  ∃ v' w',(Builtin.append_ #[22,22] ty #[v,.slice (some ⟨w.heap.size,0,none⟩) 1 1]).run Tryz.prog (w.alloc (.cells #[x] 65))=.ok v' w'∧CP w' B v' (vs ++ [x]) (L ++ [l])∧Below B w w':=by
 obtain ⟨i0,hi,hz0,hz1,hz2⟩:=info_parts ints_info
 have hb1:Below w.heap.size w (w.alloc (.cells #[x] 65)):=(Below.refl _ _).alloc (Nat.le_refl _) _
 obtain ⟨h1,h2,h3,h4⟩:=h.below hb1
 obtain ⟨ax,cx,hx,_,_,_⟩:=hO.form
 obtain ⟨v',w',hr,h5,hg,_,hat⟩:=run_append_own_at (P:=Tryz.prog) (w.alloc (.cells #[x] 65)) B 22 ty 65 i0 (.slice none 0 0) 1 24 Tryz.underlying22 hi hz0 hz1 hz2 rfl (by decide) v L.length vs h1 ⟨w.heap.size,0,none⟩ 1 1 [x] rfl (made_slice w _ _) (fun u hu=>by rw [List.mem_singleton.1 hu,hx];rfl) (by unfold maxLen;omega) (by omega) (Nat.le_trans hB hb1.size)
 have far:∀ k,k < w.heap.size→v.ownBlock≠some k→v'.ownBlock≠some k:=by
  intro k hl hne
  rcases hat with e | e
  ·rw [e];exact hne
  ·rw [e]
   intro e2
   have e3:=Option.some.inj e2
   have:=hb1.size
   omega
 refine ⟨v',w',hr,⟨by rw [List.length_append];exact h5,by rw [List.length_append,List.length_append,h2];rfl,fun i hi y hy=>?_,fun i j y z k hij hy hz hk=>?_⟩,(hb1.mono hB).grown hg (Nat.le_trans hB hb1.size) (fun k hk=>(h.1.lt k hk).1)⟩
 ·by_cases hil:i < L.length
  ·rw [List.getElem?_append_left (by omega)] at hy
   have e:(L ++ [l])[i]=L[i]:=List.getElem_append_left hil
   rw [e]
   obtain ⟨h6,h7⟩:=h3 i hil y hy
   refine ⟨h6.kept hg ?_,fun k hk=>far k ((h.2.2.1 i hil y hy).1.1.lt k hk).2 (h7 k hk)⟩
   cases e:y.ownBlock with
   | none=>exact .inl rfl
   | some k=>exact .inr (fun e2=>h7 k e e2.symm)
  ·obtain rfl:i=L.length:=by rw [List.length_append] at hi;simp at hi;omega
   rw [List.getElem?_append_right (by omega),h2,Nat.sub_self] at hy
   obtain rfl:x=y:=by simpa using hy
   have e:(L ++ [l])[L.length]=l:=by simp
   rw [e]
   refine ⟨(hO.alloc _).kept hg ?_,fun k hk=>far k (hO.1.lt k hk).2 (hf k hk).1⟩
   cases e:x.ownBlock with
   | none=>exact .inl rfl
   | some k=>exact .inr (fun e2=>(hf k e).1 e2.symm)
 ·by_cases hjl:j < L.length
  ·rw [List.getElem?_append_left (by omega)] at hy hz
   exact h4 i j y z k hij hy hz hk
  ·have hjx:j=L.length:=by
    have:=List.getElem?_eq_some_iff.1 hz
    obtain ⟨hj,_⟩:=this
    rw [List.length_append,h2] at hj
    simp at hj
    omega
   subst hjx
   rw [List.getElem?_append_left (by omega)] at hy
   rw [List.getElem?_append_right (by omega),h2,Nat.sub_self] at hz
   obtain rfl:x=z:=by simpa using hz
   intro e
   exact (hf k e).2 i y hy hk
theorem step_app_copy {ops:Array Oper} {o:Oper} {a:Act} {w:World} {K:Act→World→Prop} {Q:Exit→Act→World→Prop} {E:Prop} (hgd:o.guard=none) (s x:Operand)
  (ho:o.op=Op.call { callee:=Callee.builtin Builtin.append,args:=#[s,x],argTypes:=#[22,22] }) {B:Nat} {v:Value} {vs:List Value} {L:List (List Int)} (hs:a.eval s=v) (h:CP w B v vs L)
  {y:Value} {l:List Int} (hx:a.eval x=.slice (some ⟨w.heap.size,0,none⟩) 1 1) (hO:OI w B y l) (hf:∀ k,y.ownBlock=some k→v.ownBlock≠some k∧∀ (i:Nat) (z:Value),vs[i]?=some z→z.ownBlock≠some k) (hz:L.length+1≤1000000) (hB:B≤w.heap.size)
  (hK:∀ v' w',CP w' B v' (vs ++ [y]) (L ++ [l])→Below B w w'→K (a.put o.dst v') w') :
  if Region.wanted o (yielded ops a.tmps)=true then Oper.wp Tryz.prog o a (w.alloc (.cells #[y] 65)) K Q else E:=by
 have hw:Region.wanted o (yielded ops a.tmps)=true:=by simp [Region.wanted,hgd]
 rw [if_pos hw]
 obtain ⟨v',w',hr,h2,h3⟩:=run_app_copy w o.type h hO hf hz hB
 unfold Oper.wp
 simp [execOp,ho,resolve,invoke,builtin,hs,hx,hr,Result.andThen]
 exact hK v' w' h2 h3
theorem CP.fresh {w w1:World} {B:Nat} {v y:Value} {vs:List Value} {L:List (List Int)} {l:List Int} (h:CP w B v vs L) (hO:OI w1 w.heap.size y l):∀ k,y.ownBlock=some k→v.ownBlock≠some k∧∀ (i:Nat) (z:Value),vs[i]?=some z→z.ownBlock≠some k:=by
 intro k hk
 have h1:=(hO.1.lt k hk).1
 refine ⟨fun e=>by have:=(h.1.lt k e).2;omega,fun i z hz e=>?_⟩
 have hi:i < L.length:=by
  obtain ⟨hi,_⟩:=List.getElem?_eq_some_iff.1 hz
  rw [h.2.1] at hi
  exact hi
 have:=((h.2.2.1 i hi z hz).1.1.lt k e).2
 omega
theorem CP.take {w:World} {B:Nat} {v:Value} {vs:List Value} {L:List (List Int)} {n:Nat} (hn:n < L.length) (h:CP w B v vs (L.take n ++ [L[n]])):CP w B v vs (L.take (n+1)):=by
 rw [List.take_succ_eq_append_getElem hn]
 exact h
def OM (b:Nat) (G:Nat→Prop) (w:World) (o:Od):Prop :=
 o.Ok∧(∃ t:Int,(o.knows=true→t=o.tail)∧w.heap[b]?=some (.cells #[.int .i64 o.epoch,.int .i64 t,.bool o.knows] 200 (0,0)))∧∀ k,G k↔k=b
theorem z07 (b:Nat):Thing (OM b) where
 lt:=by
  rintro G w u ⟨_,⟨t,_,h1⟩,h2⟩ k hk
  rw [(h2 k).1 hk]
  exact lt_of_block h1
 keep:=by
  rintro G S w w' u ⟨h0,⟨t,ht,h1⟩,h2⟩ hk hS
  exact ⟨h0,⟨t,ht,hk.heap (hS b ((h2 b).2 rfl)) h1⟩,h2⟩
section
variable {w:World} {b:Nat} {G:Nat→Prop} {o:Od}
theorem OM.small (h:OM b G w o):b < w.heap.size:=by obtain ⟨_,⟨t,_,h1⟩,_⟩:=h;exact lt_of_block h1
theorem OM.cells (h:OM b G w o):∃ t:Int,(o.knows=true→t=o.tail)∧w.heap[b]?=some (.cells #[.int .i64 o.epoch,.int .i64 t,.bool o.knows] 200 (0,0)):=h.2.1
theorem om_keeps (b:Nat) (w:World) (v0 v1 v2:Value):Kept (fun k=>k≠b) w (((w.setCell ⟨b,0,none⟩ v0).setCell ⟨b,1,none⟩ v1).setCell ⟨b,2,none⟩ v2) :=
 (((Kept.refl _ w).setCell (p:=⟨b,0,none⟩) (fun h=>h rfl) _).setCell (p:=⟨b,1,none⟩) (fun h=>h rfl) _).setCell (p:=⟨b,2,none⟩) (fun h=>h rfl) _
theorem OM.begins (h:OM b G w o) {ep pg:Int} (he:i64w ep) (hp:0≤pg∧pg≤16384) :
  Leaves (OM b) G w (((w.setCell ⟨b,0,none⟩ (.int .i64 ep)).setCell ⟨b,1,none⟩ (.int .i64 pg)).setCell ⟨b,2,none⟩ (.bool true)) ⟨ep,pg,true⟩:=by
 obtain ⟨k0,⟨t,kt,k1⟩,k2⟩:=h
 exact ⟨G,⟨⟨he,hp⟩,⟨pg,fun _=>rfl,three_set2 (three_set1 (three_set0 k1 _) _) _⟩,k2⟩,(om_keeps b w _ _ _).mono (fun k hg e=>hg ((k2 k).2 e)),fun k hk=>.inl hk⟩
theorem OM.steps (h:OM b G w o) (ht:o.tail≠16384):Leaves (OM b) G w (w.setCell ⟨b,1,none⟩ (.int .i64 (o.tail+1))) ⟨o.epoch,o.tail+1,o.knows⟩:=by
 obtain ⟨k0,⟨t,kt,k1⟩,k2⟩:=h
 have hk:Kept (fun k=>k≠b) w (w.setCell ⟨b,1,none⟩ (.int .i64 (o.tail+1))):=(Kept.refl _ w).setCell (p:=⟨b,1,none⟩) (fun h=>h rfl) _
 exact ⟨G,⟨⟨k0.epoch,by have:=k0.tail;show 0≤o.tail+1∧o.tail+1≤16384;omega⟩,⟨o.tail+1,fun _=>rfl,three_set1 k1 _⟩,k2⟩,hk.mono (fun k hg e=>hg ((k2 k).2 e)),fun k hk=>.inl hk⟩
end
theorem on_new (w:World):Calls Tryz.prog 91 #[] w fun e w'=>∃ (b:Nat) (G:Nat→Prop),e=.returned (ptrO b)∧OM b G w' newO∧(∀ k,G k→w.heap.size≤k)∧Below w.heap.size w w':=by
 go_enter Tryz.func91,Tryz.ntmps91
 go_wp2_with fail
 go_ret
 exact ⟨w.heap.size,fun k=>k=w.heap.size,rfl,⟨newO_ok,⟨0,(fun h=>by cases h),heap_alloc_new _ _⟩,fun k=>Iff.rfl⟩,fun k hk=>by omega,(Below.refl _ _).alloc (Nat.le_refl _) _⟩
theorem z18 (c:Int) (w:World):Calls Tryz.prog 119 #[.int .i64 c] w fun e w'=>e=.returned (.agg #[.int .i64 c,.int .i64 0,.string ⟨#[]⟩,.int .i64 0,.slice none 0 0,.int .i64 0,.int .i64 0,.int .i64 0])∧Below w.heap.size w w':=by
 go_enter Tryz.func119,Tryz.ntmps119
 go_wp2
 exact z0k (x:=anP c 0 noT 0) (ao:=none) (cap:=0) rfl (heap_alloc_new _ _) rfl rfl ⟨rfl,(Below.refl _ _).alloc (Nat.le_refl _) _⟩
def PB (w:World) (b:Nat) (ep:Int) (ao:Option Addr) (n cap:Nat):Prop:=w.heap[b]?=some (.cells #[.int .i64 ep,.slice ao n cap] 24 (0,0))
theorem PB.below {w w':World} {b:Nat} {ep:Int} {ao:Option Addr} {n cap:Nat} (h:PB w b ep ao n cap) (hb:Below w.heap.size w w'):PB w' b ep ao n cap:=z01 hb h
theorem PB.cells {w:World} {b:Nat} {ep:Int} {ao:Option Addr} {n cap:Nat} (h:PB w b ep ao n cap):w.cell? ⟨b,0,none⟩=some (.int .i64 ep)∧w.cell? ⟨b,1,none⟩=some (.slice ao n cap):=⟨z02 h 0,z02 h 1⟩
theorem PB.two (w:World) (e1 e2:Int) (a1 a2:Option Addr) (n1 n2 c1 c2:Nat):PB ((w.alloc (.cells #[.int .i64 e1,.slice a1 n1 c1] 24)).alloc (.cells #[.int .i64 e2,.slice a2 n2 c2] 24)) w.heap.size e1 a1 n1 c1∧
  PB ((w.alloc (.cells #[.int .i64 e1,.slice a1 n1 c1] 24)).alloc (.cells #[.int .i64 e2,.slice a2 n2 c2] 24)) (w.heap.size+1) e2 a2 n2 c2:=by
 refine ⟨PB.below (heap_alloc_new _ _) ((Below.refl _ _).alloc (Nat.le_refl _) _),?_⟩
 have:=heap_alloc_new (w.alloc (.cells #[.int .i64 e1,.slice a1 n1 c1] 24)) (.cells #[.int .i64 e2,.slice a2 n2 c2] 24)
 have e:(w.alloc (.cells #[.int .i64 e1,.slice a1 n1 c1] 24)).heap.size=w.heap.size+1:=by simp
 rw [e] at this
 exact this
def Told (w:World) (bo:Option Addr) (cb:Nat) (L:List (List Int)):Prop:=CL w bo L∧(bo=none→cb=0)∧L.length≤cb
def PIn (w:World) (ep:Int) (ao:Option Addr) (cap:Nat) (L:List (List Int)):Prop:=Told w ao cap L∧(-9223372036854775808≤ep∧ep≤9223372036854775807)∧L.length≤maxLen∧∀ c ∈ L,c.length≤maxLen
structure Ap where
 ep:Int
 L:List (List Int)
 txt:ByteArray
 at_:Int
 was:Int
 addr:Int
 i:Nat
 maybe:Bool
 e:Int
def newAp (ep:Int) (L:List (List Int)) (rec:ByteArray):Ap :=
 if goodB ep L=false then ⟨ep,L,rec,6,0,0,0,false,1⟩ else if 4096 < rec.size then ⟨ep,L,rec,6,0,0,0,false,2⟩ else ⟨ep,L,rec,2,0,0,0,false,0⟩
def Ap.unitK (a:Ap) (kind:Int) (s:ByteArray):Ak:=⟨kind,(chainR a.ep a.L a.addr).getD a.i 0,a.ep,ofP a.ep a.L a.addr,0,0,s,0,[],none,0⟩
def layK:Ak:=⟨9,0,0,0,0,0,⟨#[]⟩,0,[],none,0⟩
def nextK (ep:Int):Ak:=⟨6,0,ep,0,0,0,⟨#[]⟩,0,[],none,0⟩
def zeroK:Ak:=⟨0,0,0,0,0,0,⟨#[]⟩,0,[],none,0⟩
def Ap.asks (a:Ap):Bool:=decide (a.at_≠6)
def Ap.ask (a:Ap):Ak :=
 if a.at_=1∨a.at_=5 then layK else if a.at_=2 then nextK a.ep else if a.at_=3 then a.unitK 1 a.txt else if a.at_=4 then a.unitK 3 ⟨#[]⟩ else zeroK
def Ap.ends (a:Ap) (e:Int):Ap:={ a with at_:=6,e:=e }
def Ap.full (a:Ap):Ap:=a.ends (if a.maybe=true then 69 else 44)
def Ap.wrote (a:Ap):Ap:=if a.i+1=(chainR a.ep a.L a.addr).length then { a with at_:=6,e:=0,i:=a.i+1 } else { a with at_:=3,i:=a.i+1 }
def Ap.hear (a:Ap) (x:An) (heard:Bool):Ap :=
 if a.at_=6 then a else
 let b:Ap:={ a with maybe:=a.maybe || (decide (a.at_=3) && (!heard || decide (x.code=0))) }
 if heard=false∨x.code=47 then b
 else if x.code=45 then (if a.at_=3∨a.at_=4 then { b with at_:=5,was:=a.at_ } else b)
 else if x.code=40 then { b with at_:=1 }
 else if a.at_=1 then (if x.code=0∧goodB x.pe x.L=true then { b with ep:=x.pe,L:=x.L,at_:=2 } else b)
 else if a.at_=5 then (if x.code=0∧goodB x.pe x.L=true∧x.pe≠a.ep then { b with ep:=x.pe,L:=x.L,at_:=2 } else { b with at_:=a.was })
 else if a.at_=2 then (if x.code=0∧0≤x.n∧x.n < 16384 then { b with addr:=x.n,i:=0,at_:=3 } else if x.code=44 then b.full else b)
 else if a.at_=3 then (if x.code=0 then b.wrote else if x.code=41 then { b with at_:=4 } else if x.code=43 then { b with at_:=2 } else if x.code=44 then b.full else b.ends x.code)
 else (if x.code=0∧x.data=a.txt then b.wrote else if x.code=0∨x.code=46∨x.code=43 then { b with at_:=2 } else if x.code=42 then { b with at_:=3 } else b.ends x.code)
def Ap.overA (a:Ap):Int:=if a.at_=6∧a.e=0 then a.addr else 0
def Ap.overE (a:Ap):Int:=if a.at_=6 then a.e else 0
def Ap.overB (a:Ap):Bool:=decide (a.at_=6)
end Go.Proofs.YtkefpbcifcjibaaGreat
namespace Go.Proofs.YtkefpbcifcjibaaGreat
open Go.RowKit Go.Maps
theorem isNone_nil (a:Int) (w:World):Calls Tryz.prog 193 #[.pointer none,.int .i64 a] w fun e w'=>e=.returned (.bool true)∧w=w':=by
 go_enter Tryz.func193,Tryz.ntmps193
 go_wp2
 go_ret
 exact ⟨rfl,rfl⟩
theorem pgIsNone_any (b:Nat) (a:Int) (w:World):Calls Tryz.prog 193 #[.pointer (some ⟨b,0,none⟩),.int .i64 a] w fun e w'=>e=.returned (.bool (!thereB a))∧w=w':=by
 have hd:=Lh (show (decide (a < 0) || decide (4096≤a)) = !thereB a from by
  unfold thereB
  by_cases h0:a < 0
  ·simp [h0,show ¬ 0≤a from by omega]
  ·by_cases h1:4096≤a
   ·simp [h1,show ¬ a < 4096 from by omega]
   ·simp [h0,h1,show 0≤a from by omega,show a < 4096 from by omega])
 go_enter Tryz.func193,Tryz.ntmps193
 go_wp2
 all_goals
  go_ret
  rw [← hd.out]
  first | exact ⟨rfl,rfl⟩ | exact ⟨by simp [*],rfl⟩
theorem sheet_kind (k:Int) (s:ByteArray) (W:World):(Instr.field 277 (.agg #[.int .i64 k,.string s]) 0).run Tryz.prog W=.ok (.int .i64 k) W:=by kernel_rfl
theorem sheet_text (k:Int) (s:ByteArray) (W:World):(Instr.field 277 (.agg #[.int .i64 k,.string s]) 1).run Tryz.prog W=.ok (.string s) W:=by kernel_rfl
theorem kind_any (G:Nat→Prop) (w:World) (b:Nat) (p:Ps) (a:Int) (h:PGm G w b p) :
  Calls Tryz.prog 192 #[.pointer (some ⟨b,0,none⟩),.int .i64 a] w fun e w'=>e=.returned (.int .i64 (p.kind a))∧w=w':=by
 have CN:=Lh (pgIsNone_any b a w)
 obtain ⟨mb,h1,h2,_⟩:=h
 by_cases ht:thereB a=true
 ·rw [ht] at CN
  obtain ⟨c0,c1,c2,_⟩:=z09 h1
  by_cases he:a < p.edge
  ·have HE:=Lh (show p.kind a=3 from by unfold Ps.kind;rw [if_pos ht,if_pos he])
   clear h1 h2 ht
   generalize p.edge=ed at *
   go_enter Tryz.func192,Tryz.ntmps192
   go_wp2_with (go_at_call 193;refine CN.out.mono ?_;rintro e w1 ⟨rfl,rfl⟩)
   go_ret
   rw [HE.out]
   exact ⟨rfl,rfl⟩
  ·have HE:=Lh (kindL_of ht he)
   have he':p.edge≤a:=by omega
   have hl:=h2.look (there_wf ht)
   have hf:=sheet_kind
   clear h1 h2 ht he
   generalize p.edge=ed at *
   generalize kindL p.l a=kk at *
   generalize textL p.l a=tt at *
   go_enter Tryz.func192,Tryz.ntmps192
   go_wp2_with (go_at_call 193;refine CN.out.mono ?_;rintro e w1 ⟨rfl,rfl⟩)
   go_ret
   rw [HE.out]
   exact ⟨rfl,rfl⟩
 ·have HE:=Lh (show p.kind a=0 from by unfold Ps.kind;rw [if_neg ht])
  rw [Bool.eq_false_iff.2 ht] at CN
  clear h1 h2 ht
  go_enter Tryz.func192,Tryz.ntmps192
  go_wp2_with (go_at_call 193;refine CN.out.mono ?_;rintro e w1 ⟨rfl,rfl⟩)
  go_ret
  rw [HE.out]
  exact ⟨rfl,rfl⟩
theorem kind_nil (a:Int) (w:World):Calls Tryz.prog 192 #[.pointer none,.int .i64 a] w fun e w'=>e=.returned (.int .i64 0)∧w=w':=by
 have CN:=Lh (isNone_nil a w)
 go_enter Tryz.func192,Tryz.ntmps192
 go_wp2_with (go_at_call 193;refine CN.out.mono ?_;rintro e w1 ⟨rfl,rfl⟩)
 go_ret
 exact ⟨rfl,rfl⟩
theorem pnew_yes (room:Int) (w:World) (h:1≤room∧room≤4096):Calls Tryz.prog 118 #[.int .i64 room] w fun e w'=>∃ (b:Nat) (G:Nat→Prop),e=.returned (.tuple #[.pointer (some ⟨b,0,none⟩),.int .i64 0])∧PGm G w' b (newP room)∧(∀ k,G k→w.heap.size≤k)∧Below w.heap.size w w':=by
 obtain ⟨h0,h1⟩:=h
 have hmm:=@run_makeMap Tryz.prog
 go_enter Tryz.func118,Tryz.ntmps118
 go_wp2
 go_ret2
 refine ⟨_,fun k=>k=w.heap.size∨k=w.heap.size+1,rfl,⟨w.heap.size,?_,?_,?_,?_,.inl rfl,?_⟩,?_,?_⟩
 ·have:=heap_alloc_new (w.alloc (.map #[] 0)) (.cells #[.int .i64 room,.int .i64 0,.map (some w.heap.size)] 234)
  simpa [newP] using this
 ·exact (Tp.made w).below ((Below.refl _ _).alloc (Nat.le_refl _) _)
 ·simp
 ·exact .inr (by simp)
 ·rintro k (rfl | rfl) <;> simp <;> omega
 ·rintro k (rfl | rfl) <;> omega
 ·exact ((Below.refl _ _).alloc (Nat.le_refl _) _).alloc (by simp) _
theorem pnew_no (room:Int) (w:World) (h:room < 1∨4096 < room):Calls Tryz.prog 118 #[.int .i64 room] w fun e w'=>e=.returned (.tuple #[.pointer none,.int .i64 1])∧Below w.heap.size w w':=by
 by_cases h0:room < 1
 ·clear h
  go_enter Tryz.func118,Tryz.ntmps118
  go_wp2
  go_ret2
  exact ⟨rfl,Below.refl _ _⟩
 ·have h0':1≤room:=by omega
  have h1:4096 < room:=by omega
  clear h h0
  go_enter Tryz.func118,Tryz.ntmps118
  go_wp2
  go_ret2
  exact ⟨rfl,Below.refl _ _⟩
end Go.Proofs.YtkefpbcifcjibaaGreat
