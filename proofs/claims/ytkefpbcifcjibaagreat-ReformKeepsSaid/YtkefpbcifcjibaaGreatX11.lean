/- Joined texts. -/
import Derived.Test.YtkefpbcifcjibaaGreatX01
import Derived.Test.YtkefpbcifcjibaaGreatX02
import Derived.Test.YtkefpbcifcjibaaGreatX03
import Derived.Test.YtkefpbcifcjibaaGreatX05
import Derived.Test.YtkefpbcifcjibaaGreatX06
import Derived.Test.YtkefpbcifcjibaaGreatX07
import Derived.Test.YtkefpbcifcjibaaGreatG06a
import Derived.Test.YtkefpbcifcjibaaGreatG04a
import Derived.Test.YtkefpbcifcjibaaGreatG08a
import Derived.Test.YtkefpbcifcjibaaGreatG09a
import Derived.Test.YtkefpbcifcjibaaGreatG27b
import Derived.Test.YtkefpbcifcjibaaGreatG26a
import Derived.Test.YtkefpbcifcjibaaGreatG26b
import Derived.Test.YtkefpbcifcjibaaGreatG28a
import Derived.Test.YtkefpbcifcjibaaGreatG21a
import Derived.Laws.MakeOwn
import Derived.Laws.NewBlocks
import Derived.Test.YtkefpbcifcjibaaGreatG02a
import Derived.Laws.AppendOwn
import Derived.Laws.AppendOwnNone
import Derived.Test.YtkefpbcifcjibaaGreatG03a
import Derived.Laws.BytesArg
import Derived.Test.YtkefpbcifcjibaaGreatG30a
import Derived.Test.YtkefpbcifcjibaaGreatG16a
set_option linter.unusedVariables false
set_option maxRecDepth 20000
set_option maxHeartbeats 16000000
namespace Go.Proofs.YtkefpbcifcjibaaGreat
open Go.RowKit
theorem OI.cellAt {w:World} {B g n cap:Nat} {U:List Int} (h:OI w B (.slice (some ⟨g,0,none⟩) n cap) U) {k:Nat} (hk:k < U.length):w.cell? ⟨g,0+k,none⟩=some (.int .i64 U[k]):=by
 obtain ⟨g2,c2,e,_,_,_,hc⟩:=h.spotK hk
 injection e with e1 e2 e3
 injection e1 with e1
 injection e1 with e1
 subst e1
 exact hc
end Go.Proofs.YtkefpbcifcjibaaGreat
namespace Go.Proofs.YtkefpbcifcjibaaGreat
open Go.ChangeShapes Go.WideShapes Go.ChangeAt Go.RowKit
def byteOk (_:World) (x:Int):Prop:=0≤x∧x < 256
section
variable {H:Type} {enc:TypeId × Value→H} {P:Program} {w:World} {base:Nat} {spare:Nat→Bool} {held:Bool}
theorem byte_cs {n:Nat} {cs:List Value} {y:DataW H × List MemPlace} {e:TypeId} (he:P.underlying e=some (.int .u8)) (hl:cs.length=1) (hf:DataW.trod enc P w base spare held n e cs=some y):∃ x,cs=byteC x∧byteOk w x:=by
 obtain ⟨x,e0,_,wf⟩:=DataW.trod_int he hf
 refine ⟨x,e0,?_⟩
 have h:=wf
 simp [Lit.wf] at h
 have e1:IntKind.u8.min=0:=by decide
 have e2:IntKind.u8.max=255:=by decide
 unfold byteOk
 omega
end
end Go.Proofs.YtkefpbcifcjibaaGreat
namespace Go.Proofs.YtkefpbcifcjibaaGreat
open Go.RowKit
section
variable {E:Int} {M:List (List Int)} {n n1 n2:Nd} {m:Nat} {txt:Nat→ByteArray} {qe:Int} {qL:List (List Int)}
theorem PutN.get {t:Int} {S:ByteArray} (P:PutN qe qL n t S n1 (lenG qe qL t)) (ha:AdG qe qL t):GNod qe qL n1 1 S t true n1:=by
 have hlen:=z1b ha.of
 have hp:PreG qe qL n1 t:=fun j hj _=>by
  obtain ⟨g1,g2⟩:=P.got j (by omega) (by omega)
  obtain ⟨g3,g4⟩:=P.got (j+1) hj hj
  rw [g1,g2,g3,g4]
  exact ⟨rfl,fun _=>rfl⟩
 obtain ⟨g1,g2⟩:=P.got 0 (by omega) (by omega)
 have:=GNod.start P.ft ha hp (by rw [g1];decide)
 rw [g1,g2,if_neg (by decide)] at this
 exact this
end
theorem Fell.crash {n n1:Nd} {qL:List (List Int)} (F:Fell n n1 qL) {i:Nat} (hi:(i:Int) ∉ unitsR qL):Fell n (n1.putU i ⟨(n1.u i).p,(n1.u i).epoch,true⟩) qL:=by
 refine ⟨fun j=>?_,fun j=>?_,fun j hj=>?_,F.o,F.l⟩
 all_goals by_cases e:j=i
 ·subst e
  rw [putU_at]
  exact F.p j
 ·rw [putU_off _ _ e]
  exact F.p j
 ·subst e
  rw [putU_at]
  exact F.ep j
 ·rw [putU_off _ _ e]
  exact F.ep j
 ·subst e
  exact .inr hi
 ·rw [putU_off _ _ e] at hj
  exact F.down j hj
section
variable {UG:Nat→Nat→(Nat→Prop)→World→Us→Prop} {OG:Nat→(Nat→Prop)→World→Od→Prop} {LG:Nat→(Nat→Prop)→World→Ly→Prop} {NG:Nat→(Nat→Prop)→World→Nd→Prop} {HG:Nat→Nat→(Nat→Prop)→World→Hd→Prop} {X:Nat→Prop} {w:World} {b nb:Nat} {h:Hd}
theorem ho_unitX (HS:HandSays UG OG LG NG HG) (hs:Solo (HG b nb) X w h) {i:Nat} (hi:i < 16) :
  Calls Tryz.prog 30 #[.pointer (some ⟨nb,0,none⟩),.int .i64 i] w fun e w'=>∃ bu pb:Nat,e=.returned (.pointer (some ⟨bu,0,none⟩))∧Below w.heap.size w w'∧∃ F:Nat→Prop,UG bu pb F w' (h.n.u i)∧∀ W u',Leaves (UG bu pb) F w' W u'→Solo (HG b nb) X W ⟨h.n.putU i u',h.held⟩∧Kept X w' W:=by
 obtain ⟨h1,G,hG,h3⟩:=hs
 obtain ⟨F,hF,hFG,hW⟩:=HS.within hG
 refine (HS.rpc.unit nb F w h.n i hF hi).mono ?_
 rintro e w' ⟨bu,pb,he,hb,F2,k1,k2,k3⟩
 refine ⟨bu,pb,he,hb,F2,k1,fun W u' hl=>?_⟩
 have r:=k3 W u' hl
 have r0:Leaves (NG nb) F w W (h.n.putU i u'):=r.ahead (fun k hk=>(HS.rpc.thing nb).lt hF k hk) hb
 obtain ⟨G',g1,g2,g3⟩:=hW W _ r0
 refine ⟨⟨fun k hk=>Nat.lt_of_lt_of_le (h1 k hk) g2.size,G',g1,fun k hk hg=>?_⟩,?_⟩
 ·rcases g3 k hg with g | g
  ·exact h3 k hk g
  ·have:=h1 k hk;omega
 ·obtain ⟨_,_,q2,_⟩:=r
  exact q2.mono (fun k hk hf=>h3 k hk (hFG k hf))
end
end Go.Proofs.YtkefpbcifcjibaaGreat
namespace Go.Proofs.YtkefpbcifcjibaaGreat
open Go.ChangeShapes Go.WideShapes Go.ChangeAt Go.RowKit
def SL (w:World) (ao:Option Addr) (L:List ByteArray):Prop:=∀ i (h:i < L.length),∃ bk off,ao=some ⟨bk,off,none⟩∧w.cell? ⟨bk,off+i,none⟩=some (.string L[i])
theorem SL.below {w w':World} {ao:Option Addr} {L:List ByteArray} (h:SL w ao L) (hb:Below w.heap.size w w'):SL w' ao L:=by
 intro i hi
 obtain ⟨bk,off,h1,h2⟩:=h i hi
 exact ⟨bk,off,h1,z0s hb (block_lt_of_cell h2) h2⟩
def SLI (w:World) (ao:Option Addr) (cap:Nat) (L:List ByteArray):Prop:=SL w ao L∧(ao=none→cap=0)
section
variable {H:Type} {enc:TypeId × Value→H} {P:Program} {w:World} {base:Nat} {spare:Nat→Bool} {held:Bool}
theorem open_strs {r:Reach} {b0:Nat} {t e:TypeId} {v:Value} {d:DataW H} {p:List MemPlace} (ht:P.underlying t=some (.slice e)) (he:P.underlying e=some .string) (hc:P.cellsOf e=1)
  (hv:Value.okWide P w r b0 t v) (h:DataW.Trod enc P w base spare held t v d p) :
  ∃ ao cap L,v=.slice ao L.length cap∧L.length≤maxLen∧SLI w ao cap L:=by
 obtain ⟨a0,n0,k0,rfl⟩:=okWide_slice ht hv
 obtain ⟨fuel,hf⟩:=h
 simp only [Value.cells] at hf
 rcases Deep.open_slice ht hf with ⟨h0,_⟩ | ⟨a,len,cap,m,n,D,Pl,hcs,_,hl,hm,hmm,_,hi⟩
 ·simp at h0
  obtain ⟨rfl,rfl,rfl⟩:=h0
  exact ⟨none,0,[],rfl,Nat.zero_le _,fun i hi=>absurd hi (Nat.not_lt_zero i),fun _=>rfl⟩
 simp at hcs
 obtain ⟨rfl,rfl,rfl⟩:=hcs
 have hlm:n0≤m:=by rw [hmm];split <;> omega
 rw [hc] at hi
 have each:∀ i,i < n0→∃ x:ByteArray,w.cell? (a.add (i * 1))=some (.string x):=by
  intro i hin
  obtain ⟨cs,hcl,htr⟩:=hi i (by omega)
  obtain ⟨_,hlen,hat⟩:=World.cells?_some hcl
  match cs,hlen with
  | [x0],_ =>
   obtain ⟨q0,e0,_,wf0⟩:=DataW.trod_string he htr
   simp at e0
   subst e0
   have a0:=hat 0 (by omega)
   rw [Deep.add_add] at a0
   exact ⟨q0,a0⟩
 obtain ⟨F,hF⟩:=Deep.choose_lt each
 refine ⟨some a,k0,(List.range n0).map F,by simp,by simp;omega,fun i hi=>?_,fun e=>by cases e⟩
 have hin:i < n0:=by simpa using hi
 rw [List.getElem_map,List.getElem_range]
 have b0:=hF i hin
 have z0:=hF 0 (by omega)
 have hs:=cell_spot z0
 obtain ⟨bk,off,sp⟩:=a
 rw [show ((⟨bk,off,sp⟩:Addr).add (0 * 1))=⟨bk,off,sp⟩ from rfl] at hs
 simp only at hs
 subst hs
 rw [addr_plus,Nat.mul_one] at b0
 exact ⟨bk,off,rfl,b0⟩
end
end Go.Proofs.YtkefpbcifcjibaaGreat
namespace Go.Proofs.YtkefpbcifcjibaaGreat
open Go.RowKit
def txtK (L:List ByteArray) (k:Nat):ByteArray:=strOfNums [(k:Int)] ++ L.getD k ⟨#[]⟩
theorem txtK_at {L:List ByteArray} {k:Nat} (hk:k < L.length):txtK L k=strOfNums [(k:Int)] ++ L[k]:=by
 unfold txtK
 rw [List.getD_eq_getElem?_getD,List.getElem?_eq_getElem hk]
 rfl
theorem txtK_size {L:List ByteArray} {k:Nat} (hk:k < L.length) (h:L[k].size≤500):(txtK L k).size≤4096:=by
 rw [txtK_at hk,ByteArray.size_append,show (strOfNums [(k:Int)]).size=1 from rfl]
 omega
theorem convK (k:Nat) (W:World):(convert 57 9 (.slice (some ⟨W.heap.size,0,none⟩) 1 1)).run Tryz.prog (W.alloc (.cells #[.int .u8 (k:Int)] 5))=.ok (.string (strOfNums [(k:Int)])) (W.alloc (.cells #[.int .u8 (k:Int)] 5)):=by
 refine run_convert_bytes_arg _ 57 5 Tryz.underlying57 Tryz.underlying5 W.heap.size 0 1 1 [(k:Int)] rfl ?_ 9 Tryz.underlying9
 intro i hi
 obtain rfl:i=0:=by omega
 exact z02 (heap_alloc_new W _) 0
theorem convK2 (k g:Nat) (W:World) (h:W.cell? ⟨g,0,none⟩=some (.int .u8 (k:Int))):(convert 57 9 (.slice (some ⟨g,0,none⟩) 1 1)).run Tryz.prog W=.ok (.string (strOfNums [(k:Int)])) W:=by
 refine run_convert_bytes_arg _ 57 5 Tryz.underlying57 Tryz.underlying5 g 0 1 1 [(k:Int)] rfl ?_ 9 Tryz.underlying9
 intro i hi
 obtain rfl:i=0:=by omega
 exact h
theorem u8K (k:Nat) (h:k < 256):IntKind.u8.wrap (k:Int)=(k:Int):=by
 rw [IntKind.wrap_u8]
 omega
theorem QN.see {M:List (List Int)} {qe:Int} {qL:List (List Int)} {m:Nat} {txt:Nat→ByteArray} {n:Nd} (Q:QN M qe qL m txt n) (hq:goodB qe qL=true) (hm:m≤14):SeN qe qL m n:=⟨hq,Q.le,Q.lL,Q.o,by omega,by have:=Q.used;omega⟩
section
variable {UG:Nat→Nat→(Nat→Prop)→World→Us→Prop} {OG:Nat→(Nat→Prop)→World→Od→Prop} {LG:Nat→(Nat→Prop)→World→Ly→Prop} {NG:Nat→(Nat→Prop)→World→Nd→Prop} {HG:Nat→Nat→(Nat→Prop)→World→Hd→Prop} {FG:Nat→(Nat→Prop)→World→Fe→Prop}
theorem get_put (HS:HandSays UG OG LG NG HG) (FS:FetchSays FG) (b nb:Nat) (X:Nat→Prop) (w:World) (h0:Hd) (hs:Solo (HG b nb) X w h0) {M:List (List Int)} {qe:Int} {qL:List (List Int)} {m:Nat} {txt:Nat→ByteArray} {n:Nd} (Q:QN M qe qL m txt n) (hq:goodB qe qL=true) (hm:m < 14) (S:ByteArray) (hz:S.size≤4096) (P:PutN qe qL n m S h0.n (lenG qe qL m))
  (ao:Option Addr) (cap:Nat) (hC:CL w ao qL) (hn:ao=none→cap=0) (hc:qL.length≤cap) :
  Calls Tryz.prog 37 #[.pointer (some ⟨b,0,none⟩),.agg #[.int .i64 qe,.slice ao qL.length cap],.int .i64 m,.bool true,.slice none 0 0] w fun e w'=>e=.returned (.tuple #[.int .i64 1,.string S,.int .i64 0,.bool true])∧∃ h':Hd,Solo (HG b nb) X w' h'∧Kept X w w':=by
 have ha:=Q.ad hq m hm
 refine (get_any HS FS b nb X w h0 hs qe qL 1 S m true (P.get ha) ha (by rw [P.l];exact Q.le) (by rw [P.l];exact Q.lL) (fun _=>hz) (by rw [P.l];have:=Q.used;omega) qe qL (.inl ⟨rfl,rfl⟩) ao cap hC hn hc none 0).mono ?_
 rintro e w' ⟨he,h',_,h7,h8⟩
 exact ⟨he,h',h7,h8⟩
end
end Go.Proofs.YtkefpbcifcjibaaGreat
