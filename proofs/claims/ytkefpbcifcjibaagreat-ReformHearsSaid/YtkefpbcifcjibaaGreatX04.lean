/- Joined texts. -/
import Derived.Test.YtkefpbcifcjibaaGreatG02a
import Derived.Test.YtkefpbcifcjibaaGreatG03a
import Derived.Test.YtkefpbcifcjibaaGreatG04a
import Derived.Test.YtkefpbcifcjibaaGreatG05a
import Derived.Test.YtkefpbcifcjibaaGreatG06a
import Derived.Test.YtkefpbcifcjibaaGreatG08a
import Derived.Test.YtkefpbcifcjibaaGreatH00
set_option linter.unusedVariables false
set_option maxRecDepth 20000
set_option maxHeartbeats 16000000
namespace Go.Proofs.YtkefpbcifcjibaaGreat
open Go.ChangeShapes Go.WideShapes Go.ChangeAt Go.RowKit
section
variable {H:Type} {enc:TypeId × Value→H} {P:Program} {w:World} {base:Nat} {spare:Nat→Bool} {held:Bool}
theorem one_at {cs:List Value} {i:Nat} {x:Value} (e:(cs.drop i).take 1=[x]):cs[i]?=some x:=by
 have h2:((cs.drop i).take 1)[0]?=some x:=by rw [e];rfl
 simpa [List.getElem?_take,List.getElem?_drop] using h2
theorem fld_int {n i:Nat} {fs:Array Field} {cs:List Value} {xs:List (DataW H × List MemPlace)} {t0:TypeId} (hg:∀ (i:Nat) (f:Field),fs[i]?=some f→DataW.trod enc P w base spare held n f.type ((cs.drop f.offset).take (P.cellsOf f.type))=xs[i]?)
  (hf:fs[i]?.map (fun f=>(f.offset,f.type))=some (i,t0)) (hx:i < xs.length) (hc:P.cellsOf t0=1) (hu:P.underlying t0=some (.int .i64)):∃ y,cs[i]?=some (.int .i64 y)∧i64w y:=by
 obtain ⟨f,h1,h2⟩:=Option.map_eq_some_iff.1 hf
 obtain ⟨h3,h4⟩:=Prod.mk.inj h2
 have g:=hg i f h1
 rw [h3,h4,hc,List.getElem?_eq_getElem hx] at g
 obtain ⟨y,e,_,wf⟩:=DataW.trod_int hu g
 exact ⟨y,one_at e,wf⟩
theorem fld_text {n i:Nat} {fs:Array Field} {cs:List Value} {xs:List (DataW H × List MemPlace)} {t0:TypeId} (hg:∀ (i:Nat) (f:Field),fs[i]?=some f→DataW.trod enc P w base spare held n f.type ((cs.drop f.offset).take (P.cellsOf f.type))=xs[i]?)
  (hf:fs[i]?.map (fun f=>(f.offset,f.type))=some (i,t0)) (hx:i < xs.length) (hc:P.cellsOf t0=1) (hu:P.underlying t0=some .string):∃ y:ByteArray,cs[i]?=some (.string y)∧y.size≤maxLen:=by
 obtain ⟨f,h1,h2⟩:=Option.map_eq_some_iff.1 hf
 obtain ⟨h3,h4⟩:=Prod.mk.inj h2
 have g:=hg i f h1
 rw [h3,h4,hc,List.getElem?_eq_getElem hx] at g
 obtain ⟨y,e,_,wf⟩:=DataW.trod_string hu g
 exact ⟨y,one_at e,wf⟩
end
section
variable {H:Type} {enc:TypeId × Value→H} {P:Program} {w:World} {base:Nat} {spare:Nat→Bool} {held:Bool}
theorem proj_cs {n:Nat} {cs:List Value} {y:DataW H × List MemPlace} {t ti tc te:TypeId} {g0 g1:Field} (ht:P.underlying t=some (.struct #[g0,g1])) (hc:P.cellsOf t=2)
  (h0:(g0.offset,g0.type)=(0,ti)) (h1:(g1.offset,g1.type)=(1,tc)) (ci:P.cellsOf ti=1) (cc:P.cellsOf tc=1)
  (ui:P.underlying ti=some (.int .i64)) (uc:P.underlying tc=some (.slice te)) (ue:P.underlying te=some (.slice ti)) (ce:P.cellsOf te=1) (hl:cs.length=2)
  (hf:DataW.trod enc P w base spare held n t cs=some y) :
  ∃ ep ao cap L,cs=[.int .i64 ep,.slice ao L.length cap]∧i64w ep∧CL w ao L∧(ao=none→cap=0)∧L.length≤cap∧L.length≤maxLen∧∀ c ∈ L,c.length≤maxLen:=by
 obtain ⟨xs,n,_,_,_,hxl,hg⟩:=DataW.trod_struct ht hf
 have hxl2:xs.length=2:=hxl
 simp only [Prod.mk.injEq] at h0 h1
 have a0:=hg 0 g0 rfl
 have a1:=hg 1 g1 rfl
 rw [h0.1,h0.2,ci,List.getElem?_eq_getElem (by omega)] at a0
 rw [h1.1,h1.2,cc,List.getElem?_eq_getElem (by omega)] at a1
 obtain ⟨ep,e0,_,wf⟩:=DataW.trod_int ui a0
 obtain ⟨ao,cap,L,e1,h2,h3,h4,h5,h6⟩:=chains_cs uc ue ui ce ci a1
 refine ⟨ep,ao,cap,L,?_,wf,h2,h3,h4,h5,fun c hcm=>by obtain ⟨i,hi,rfl⟩:=List.getElem_of_mem hcm;exact h6 i hi⟩
 match cs,hl with
 | [x,y],_ =>
  simp at e0 e1
  rw [e0,e1]
end
end Go.Proofs.YtkefpbcifcjibaaGreat
namespace Go.Proofs.YtkefpbcifcjibaaGreat
open Go.RowKit
section
variable {α β:Type} {T:(Nat→Prop)→World→α→Prop} {U:(Nat→Prop)→World→β→Prop} {X Y G:Nat→Prop} {w w':World} {a a':α} {b b':β}
theorem Solo.of (h:T G w a) (hG:∀ k,X k→¬ G k) (hX:∀ k,X k→k < w.heap.size):Solo T X w a:=⟨hX,G,h,hG⟩
section
variable {P:Program} {fn:FuncId} {args:Array Value} {R:Ending→Prop}
end
end
end Go.Proofs.YtkefpbcifcjibaaGreat
namespace Go.Proofs.YtkefpbcifcjibaaGreat
open Go.ChangeShapes Go.WideShapes Go.ChangeAt Go.RowKit
structure AnIn (w:World) (x:An) (ao:Option Addr) (cap:Nat):Prop where
 code:i64w x.code
 n:i64w x.n
 data:x.data.size≤maxLen
 pe:i64w x.pe
 mark:i64w x.mark
 size:i64w x.size
 epoch:i64w x.epoch
 len:x.L.length≤maxLen
 each:∀ c ∈ x.L,c.length≤maxLen
 nil:ao=none→cap=0
 room:x.L.length≤cap
 here:CL w ao x.L
theorem AnIn.below {w w':World} {x:An} {ao:Option Addr} {cap:Nat} (h:AnIn w x ao cap) (hb:Below w.heap.size w w'):AnIn w' x ao cap:=⟨h.code,h.n,h.data,h.pe,h.mark,h.size,h.epoch,h.len,h.each,h.nil,h.room,h.here.below hb⟩
section
variable {H:Type} {enc:TypeId × Value→H} {P:Program} {w:World} {base:Nat} {spare:Nat→Bool} {held:Bool}
theorem fld_int_at {n i o:Nat} {fs:Array Field} {cs:List Value} {xs:List (DataW H × List MemPlace)} {t0:TypeId} (hg:∀ (i:Nat) (f:Field),fs[i]?=some f→DataW.trod enc P w base spare held n f.type ((cs.drop f.offset).take (P.cellsOf f.type))=xs[i]?)
  (hf:fs[i]?.map (fun f=>(f.offset,f.type))=some (o,t0)) (hx:i < xs.length) (hc:P.cellsOf t0=1) (hu:P.underlying t0=some (.int .i64)):∃ y,cs[o]?=some (.int .i64 y)∧i64w y:=by
 obtain ⟨f,h1,h2⟩:=Option.map_eq_some_iff.1 hf
 obtain ⟨h3,h4⟩:=Prod.mk.inj h2
 have g:=hg i f h1
 rw [h3,h4,hc,List.getElem?_eq_getElem hx] at g
 obtain ⟨y,e,_,wf⟩:=DataW.trod_int hu g
 exact ⟨y,one_at e,wf⟩
structure AnsT (P:Program) (t ti ts tp tc te:TypeId):Prop where
 ans:∃ fs:Array Field,P.underlying t=some (.struct fs)∧fs.size=7∧fs.map (fun (f:Field)=>(f.offset,f.type))=#[(0,ti),(1,ti),(2,ts),(3,tp),(5,ti),(6,ti),(7,ti)]
 cells:P.cellsOf t=8
 proj:∃ g0 g1:Field,P.underlying tp=some (.struct #[g0,g1])∧(g0.offset,g0.type)=(0,ti)∧(g1.offset,g1.type)=(1,tc)
 cp:P.cellsOf tp=2
 ci:P.cellsOf ti=1
 cs:P.cellsOf ts=1
 cc:P.cellsOf tc=1
 ce:P.cellsOf te=1
 ui:P.underlying ti=some (.int .i64)
 us:P.underlying ts=some .string
 uc:P.underlying tc=some (.slice te)
 ue:P.underlying te=some (.slice ti)
theorem ans_cs {n:Nat} {cs:List Value} {y:DataW H × List MemPlace} {t ti ts tp tc te:TypeId} (T:AnsT P t ti ts tp tc te) (hl:cs.length=8) (hf:DataW.trod enc P w base spare held n t cs=some y):∃ (x:An) (ao:Option Addr) (cap:Nat),cs=ansC x ao cap∧AnIn w x ao cap:=by
 obtain ⟨fs,ht,hz,hfs⟩:=T.ans
 obtain ⟨g0,g1,hp,q0,q1⟩:=T.proj
 obtain ⟨xs,m,_,_,_,hxl,hg⟩:=DataW.trod_struct ht hf
 rw [hz] at hxl
 have at':∀ i:Nat,fs[i]?.map (fun (f:Field)=>(f.offset,f.type))=(#[(0,ti),(1,ti),(2,ts),(3,tp),(5,ti),(6,ti),(7,ti)]:Array (Nat × TypeId))[i]?:=by
  intro i
  rw [← hfs,Array.getElem?_map]
 obtain ⟨y0,e0,w0⟩:=fld_int (i:=0) (t0:=ti) hg (at' 0) (by omega) T.ci T.ui
 obtain ⟨y1,e1,w1⟩:=fld_int (i:=1) (t0:=ti) hg (at' 1) (by omega) T.ci T.ui
 obtain ⟨y2,e2,w2⟩:=fld_text (i:=2) (t0:=ts) hg (at' 2) (by omega) T.cs T.us
 obtain ⟨f,h1,h2⟩:=Option.map_eq_some_iff.1 (at' 3)
 obtain ⟨h3,h4⟩:=Prod.mk.inj h2
 have g:=hg 3 f h1
 rw [h3,h4,T.cp,List.getElem?_eq_getElem (by omega)] at g
 obtain ⟨pe,ao,cap,L,e3,w3,hC,k1,k2,k3,k4⟩:=proj_cs hp T.cp q0 q1 T.ci T.cc T.ui T.uc T.ue T.ce (by rw [List.length_take,List.length_drop];omega) g
 obtain ⟨y5,e5,w5⟩:=fld_int_at (i:=4) (o:=5) (t0:=ti) hg (at' 4) (by omega) T.ci T.ui
 obtain ⟨y6,e6,w6⟩:=fld_int_at (i:=5) (o:=6) (t0:=ti) hg (at' 5) (by omega) T.ci T.ui
 obtain ⟨y7,e7,w7⟩:=fld_int_at (i:=6) (o:=7) (t0:=ti) hg (at' 6) (by omega) T.ci T.ui
 refine ⟨⟨y0,y1,y2,pe,L,y5,y6,y7⟩,ao,cap,?_,⟨w0,w1,w2,w3,w5,w6,w7,k3,k4,k1,k2,hC⟩⟩
 match cs,hl with
 | [x0,x1,x2,x3,x4,x5,x6,x7],_ =>
  simp at e0 e1 e2 e3 e5 e6 e7
  obtain ⟨e3,e4⟩:=e3
  subst e0 e1 e2 e3 e4 e5 e6 e7
  rfl
end
theorem ansT:AnsT Tryz.prog 49 3 9 24 22 65 :=
 ⟨⟨_,Tryz.underlying49,rfl,by kernel_rfl⟩,by kernel_rfl,⟨_,_,Tryz.underlying24,rfl,rfl⟩,by kernel_rfl,by kernel_rfl,by kernel_rfl,by kernel_rfl,by kernel_rfl,Tryz.underlying3,Tryz.underlying9,Tryz.underlying22,Tryz.underlying65⟩
def largeX (x:An):Bool:=decide (6000 < x.data.size) || largeB x.L
theorem largeAns_any (x:An) (ao:Option Addr) (cap:Nat) (w:World) (h:AnIn w x ao cap) :
  Calls Tryz.prog 18 #[ansV x ao cap] w fun e w'=>e=.returned (.bool (largeX x))∧Below w.heap.size w w':=by
 obtain ⟨_,_,hd,_,_,_,_,hl,hm,_,_,hC⟩:=h
 obtain ⟨c,n,s,pe,L,mk,sz,ep⟩:=x
 simp only at hd hl hm hC
 have HB0:=Lh ((Below.refl w.heap.size w).alloc (Nat.le_refl _) (.cells #[.int .i64 c,.int .i64 n,.string s,.int .i64 pe,.slice ao L.length cap,.int .i64 mk,.int .i64 sz,.int .i64 ep] 49))
 have CL1:=Lh (large_any pe ao cap L _ (hC.below HB0.out) hl hm)
 unfold maxLen at hd
 have hs':(s.size:Int)≤9223372036854775807:=by omega
 show Calls _ _ #[.agg #[.int .i64 c,.int .i64 n,.string s,.int .i64 pe,.slice ao L.length cap,.int .i64 mk,.int .i64 sz,.int .i64 ep]] w _
 by_cases hb:6000 < s.size
 ·have hb':(6000:Int) < (s.size:Int):=by omega
  rw [show largeX ⟨c,n,s,pe,L,mk,sz,ep⟩=true from by unfold largeX;rw [decide_eq_true hb];rfl]
  clear hl hm hC hd hb
  go_enter Tryz.func18,Tryz.ntmps18
  go_wp2_with fail
  go_ret
  exact ⟨rfl,HB0.out⟩
 ·have hb':decide ((6000:Int) < (s.size:Int))=false:=decide_eq_false (by omega)
  rw [show largeX ⟨c,n,s,pe,L,mk,sz,ep⟩=largeB L from by unfold largeX;rw [decide_eq_false hb];rfl]
  clear hl hm hC hd hb
  go_enter Tryz.func18,Tryz.ntmps18
  go_wp2_with (go_at_call 8;refine CL1.out.mono ?_;rintro e w1 ⟨rfl,hb1⟩)
  go_ret
  exact ⟨rfl,HB0.out.trans (hb1.mono HB0.out.size)⟩
end Go.Proofs.YtkefpbcifcjibaaGreat
