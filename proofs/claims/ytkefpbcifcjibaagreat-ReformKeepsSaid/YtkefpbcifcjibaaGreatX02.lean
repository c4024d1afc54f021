/- Joined texts. -/
import Derived.Test.YtkefpbcifcjibaaGreatX01
import Derived.Test.YtkefpbcifcjibaaGreatG06a
import Derived.Test.YtkefpbcifcjibaaGreatG01a
import Derived.Test.YtkefpbcifcjibaaGreatG02a
import Derived.Test.YtkefpbcifcjibaaGreatG07a
import Derived.Laws.Rows
import Derived.Laws.Tables
import Derived.Laws.CopyOwn
import Derived.Test.YtkefpbcifcjibaaGreatG08a
import Derived.Test.YtkefpbcifcjibaaGreatH00
set_option linter.unusedVariables false
set_option maxRecDepth 20000
set_option maxHeartbeats 16000000
namespace Go.Proofs.YtkefpbcifcjibaaGreat
open Go.RowKit
theorem quiet_drq {P:Program} {f:FuncId} {args:Array Value} {w:World} {q n:Nat} {v:Value}
  (h:Calls P f args (w.drewN (q+n)) fun e w'=>e=.returned v∧∃ k,w'=(w.drewN (q+n)).drewN k):Calls P f args (w.drewN (q+n)) fun e w''=>e=.returned v∧∃ m,w''=w.drewN (q+m) :=
 h.mono fun _ _ ⟨he,k,hm⟩=>⟨he,n+k,by rw [hm];simp [Nat.add_assoc]⟩
theorem takeI_succ {A B:List Int} {k:Nat} (ha:k < A.length) (hb:k < B.length) (h:A.take k=B.take k) (e:A[k]=B[k]):A.take (k+1)=B.take (k+1):=by
 rw [List.take_succ_eq_append_getElem ha,List.take_succ_eq_append_getElem hb,h,e]
theorem neI_at {A B:List Int} {k:Nat} (ha:k < A.length) (hb:k < B.length) (e:A[k]≠B[k]):A≠B:=by
 intro h
 subst h
 exact e rfl
def intsB (A B:List Int):Bool:=decide (A=B)
theorem keepInts_any (A B:List Int) (ao bo:Option Addr) (ca cb:Nat) (w:World) (hA:NLI w ao ca A) (hB:NLI w bo cb B) (lA:A.length≤1000000) (lB:B.length≤1000000) :
  Calls Tryz.prog 65 #[.slice ao A.length ca,.slice bo B.length cb] w fun e w'=>e=.returned (.bool (intsB A B))∧∃ n,w'=w.drewN n:=by
 by_cases hl:A.length=B.length
 ·have HN:=Lh (fun k (ha:k < A.length) (hb:k < B.length)=>show A[k]≠B[k]→intsB A B=false from fun e=>decide_eq_false (neI_at ha hb e))
  have HY:=Lh (show A.take A.length=B.take A.length→intsB A B=true from fun e=>by
   rw [List.take_of_length_le (Nat.le_refl _),List.take_of_length_le (by omega)] at e
   exact decide_eq_true e)
  generalize intsB A B=R at *
  have hl1:((A.length:Int) != (B.length:Int))=false:=bne_eq_false_iff_eq.2 (by omega)
  have HA:=Lh hA
  have HB:=Lh hB
  have HL:=Lh hl
  have lA':(A.length:Int)≤1000000:=by omega
  have lB':(B.length:Int)≤1000000:=by omega
  clear hA hB hl
  go_enter Tryz.func65,Tryz.ntmps65
  go_wp2_with fail
  go_loopw [5] (fun i wr=>∃ k q:Nat,i=.int .i64 k∧k≤A.length∧wr=w.drewN q∧Hid (A.take k=B.take k)) (fun i _=>A.length - (intOf i).toNat)
  case atStart=>exact ⟨0,0,rfl,Nat.zero_le _,rfl,Lh (by simp)⟩
  case round =>
   obtain ⟨k,q,rfl,hk,rfl,HT⟩:=hrel
   by_cases hlt:k < A.length
   ·have hlb:k < B.length:=by have:=HL.out;omega
    obtain ⟨bk,off,rfl,c0⟩:=HA.out.at k hlt
    obtain ⟨bk2,off2,rfl,c1⟩:=HB.out.at k hlb
    have c0':(w.drewN q).cell? ⟨bk,off+k,none⟩=some (.int .i64 A[k]):=c0
    have c1':(w.drewN q).cell? ⟨bk2,off2+k,none⟩=some (.int .i64 B[k]):=c1
    have k0:(k:Int) < (A.length:Int):=by omega
    have k1:(k:Int) < (B.length:Int):=by omega
    clear hl1
    by_cases he:A[k]=B[k]
    ·have HT2:=Lh (takeI_succ hlt hlb HT.out he)
     have d1:(A[k] != B[k])=false:=bne_eq_false_iff_eq.2 he
     clear he
     go_wp2_with fail
     go_quiet (fail)
     go_wp2_with fail
     go_roundw
     case rel=>exact ⟨k+1,q+nq,by go_num,by omega,by first | rfl | simp,HT2⟩
     case measure=>simp [intOf];omega
    ·have HX:=Lh (HN.out k hlt hlb he)
     have d1:(A[k] != B[k])=true:=bne_iff_ne.2 he
     clear he
     go_wp2_with fail
     go_quiet (fail)
     go_wp2_with fail
     go_ret
     rw [HX.out]
     exact ⟨rfl,q+nq,by simp⟩
   ·obtain rfl:k=A.length:=by omega
    have HX:=Lh (HY.out HT.out)
    go_wp2_with fail
    go_ret
    rw [HX.out]
    exact ⟨rfl,_,rfl⟩
 ·rw [show intsB A B=false from decide_eq_false (show ¬ A=B from fun e=>hl (by rw [e]))]
  have hl1:((A.length:Int) != (B.length:Int))=true:=bne_iff_ne.2 (by omega)
  clear hl
  go_enter Tryz.func65,Tryz.ntmps65
  go_wp2_with fail
  go_ret
  exact ⟨rfl,0,rfl⟩
theorem sameP_len {ea eb:Int} {A B:List (List Int)} (h:A.length≠B.length):sameP ea A eb B=false:=decide_eq_false (fun e=>h (by rw [e.2]))
theorem takeC_succ {A B:List (List Int)} {k:Nat} (ha:k < A.length) (hb:k < B.length) (h:A.take k=B.take k) (e:A[k]=B[k]):A.take (k+1)=B.take (k+1):=by
 rw [List.take_succ_eq_append_getElem ha,List.take_succ_eq_append_getElem hb,h,e]
theorem sameP_at {ea eb:Int} {A B:List (List Int)} {k:Nat} (ha:k < A.length) (hb:k < B.length) (e:A[k]≠B[k]):sameP ea A eb B=false:=decide_eq_false (by
 rintro ⟨_,h⟩
 subst h
 exact e rfl)
theorem sameP_all {ea eb:Int} {A B:List (List Int)} (h:ea=eb) (hl:A.length=B.length) (e:A.take A.length=B.take A.length):sameP ea A eb B=true:=by
 rw [List.take_of_length_le (Nat.le_refl _),List.take_of_length_le (by omega)] at e
 exact decide_eq_true ⟨h,e⟩
theorem z20 (ea:Int) (ao:Option Addr) (ca:Nat) (A:List (List Int)) (eb:Int) (bo:Option Addr) (cb:Nat) (B:List (List Int)) (w:World) (hA:CL w ao A) (hB:CL w bo B)
  (lA:A.length≤1000000∧∀ c ∈ A,c.length≤1000000) (lB:B.length≤1000000∧∀ c ∈ B,c.length≤1000000) :
  Calls Tryz.prog 34 #[.agg #[.int .i64 ea,.slice ao A.length ca],.agg #[.int .i64 eb,.slice bo B.length cb]] w fun e w'=>e=.returned (.bool (sameP ea A eb B))∧Below w.heap.size w w':=by
 have HB0:=Lh (((Below.refl w.heap.size w).alloc (Nat.le_refl _) (.cells #[.int .i64 ea,.slice ao A.length ca] 24)).alloc (by simp) (.cells #[.int .i64 eb,.slice bo B.length cb] 24))
 have HA:=Lh (hA.below HB0.out)
 have HB:=Lh (hB.below HB0.out)
 have lA':(A.length:Int)≤1000000:=by omega
 have lB':(B.length:Int)≤1000000:=by omega
 have LA:=Lh lA.2
 have LB:=Lh lB.2
 clear hA hB lA lB
 by_cases he:ea=eb
 ·have hd1:(ea != eb)=false:=bne_eq_false_iff_eq.2 he
  by_cases hl:A.length=B.length
  ·have HN:=Lh (fun k (ha:k < A.length) (hb:k < B.length)=>@sameP_at ea eb A B k ha hb)
   have HY:=Lh (@sameP_all ea eb A B he hl)
   have hl1:((A.length:Int) != (B.length:Int))=false:=bne_eq_false_iff_eq.2 (by omega)
   have HL:=Lh hl
   generalize sameP ea A eb B=R at *
   clear he hl
   go_enter Tryz.func34,Tryz.ntmps34
   go_wp2_with fail
   go_loopw [5] (fun i wr=>∃ k q:Nat,i=.int .i64 k∧k≤A.length∧wr=(((w.alloc (.cells #[.int .i64 ea,.slice ao A.length ca] 24)).alloc (.cells #[.int .i64 eb,.slice bo B.length cb] 24))).drewN q∧Hid (A.take k=B.take k)) (fun i _=>A.length - (intOf i).toNat)
   case atStart=>exact ⟨0,0,rfl,Nat.zero_le _,rfl,Lh (by simp)⟩
   case round =>
    obtain ⟨k,q,rfl,hk,rfl,HT⟩:=hrel
    by_cases hlt:k < A.length
    ·have hlb:k < B.length:=by have:=HL.out;omega
     obtain ⟨bk,off,ai,ci,hao,c0,hN1⟩:=HA.out k hlt
     obtain ⟨bk2,off2,bi,di,hbo,c1,hN2⟩:=HB.out k hlb
     subst hao hbo
     have k0:(k:Int) < (A.length:Int):=by omega
     have k1:(k:Int) < (B.length:Int):=by omega
     have m0:=LA.out A[k] (List.getElem_mem hlt)
     have m1:=LB.out B[k] (List.getElem_mem hlb)
     have CI:=Lh (fun n=>quiet_drq (w:=((w.alloc (.cells #[.int .i64 ea,.slice (some ⟨bk,off,none⟩) A.length ca] 24)).alloc (.cells #[.int .i64 eb,.slice (some ⟨bk2,off2,none⟩) B.length cb] 24))) (q:=q) (n:=n) (keepInts_any A[k] B[k] ai bi ci di _ (hN1.below (below_drewN (Below.refl _ _) _)) (hN2.below (below_drewN (Below.refl _ _) _)) m0 m1))
     clear hl1 hd1 hN1 hN2 m0 m1
     by_cases he:A[k]=B[k]
     ·have HT2:=Lh (takeC_succ hlt hlb HT.out he)
      have HI:=Lh (show intsB A[k] B[k]=true from decide_eq_true he)
      rw [HI.out] at CI
      clear he
      go_wp2_with fail
      go_quiet ((go_at_call 65;exact CI.out _))
      go_wp2_with fail
      go_roundw
      case rel=>exact ⟨k+1,q+nq,by go_num,by omega,by first | rfl | simp,HT2⟩
      case measure=>simp [intOf];omega
     ·have HX:=Lh (HN.out k hlt hlb he)
      have HI:=Lh (show intsB A[k] B[k]=false from decide_eq_false he)
      rw [HI.out] at CI
      clear he
      go_wp2_with fail
      go_quiet ((go_at_call 65;exact CI.out _))
      go_wp2_with fail
      go_ret
      rw [HX.out]
      exact ⟨rfl,below_drewN (below_drewN HB0.out _) _⟩
    ·obtain rfl:k=A.length:=by omega
     have HX:=Lh (HY.out HT.out)
     go_wp2_with fail
     go_ret
     rw [HX.out]
     exact ⟨rfl,below_drewN HB0.out _⟩
  ·have HX:=Lh (@sameP_len ea eb A B hl)
   have hl1:((A.length:Int) != (B.length:Int))=true:=bne_iff_ne.2 (by omega)
   clear he hl
   go_enter Tryz.func34,Tryz.ntmps34
   go_wp2_with fail
   go_ret
   rw [HX.out]
   exact ⟨rfl,HB0.out⟩
 ·have HX:=Lh (@sameP_ep ea eb A B he)
  have hd1:(ea != eb)=true:=bne_iff_ne.2 he
  clear he
  go_enter Tryz.func34,Tryz.ntmps34
  go_wp2_with fail
  go_ret
  rw [HX.out]
  exact ⟨rfl,HB0.out⟩
end Go.Proofs.YtkefpbcifcjibaaGreat
