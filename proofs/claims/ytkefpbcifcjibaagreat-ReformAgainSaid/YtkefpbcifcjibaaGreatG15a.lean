/- Joined texts. -/
import Derived.StillTailTactics
import Derived.Test.YtkefpbcifcjibaaGreatG14a
import Derived.Test.YtkefpbcifcjibaaGreatG08a
import Derived.Test.YtkefpbcifcjibaaGreatG13a
import Derived.Deep.RegionLaw
import Derived.Deep.RegionWith
import Derived.Test.YtkefpbcifcjibaaGreatG14b
import Derived.Test.YtkefpbcifcjibaaGreatG04a
import Derived.Test.YtkefpbcifcjibaaGreatH00
set_option linter.unusedVariables false
set_option maxRecDepth 20000
set_option maxHeartbeats 16000000
namespace Go.Proofs.YtkefpbcifcjibaaGreat
open Go.RowKit
theorem z1o (c:Int) (w:World):Calls Tryz.prog 179 #[.int .i64 c] w fun e w'=>e=.returned (.agg #[.int .i64 c,.int .i64 0,.string ⟨#[]⟩,.int .i64 0,.slice none 0 0,.int .i64 0,.int .i64 0,.int .i64 0])∧Below w.heap.size w w':=coded_any c w
theorem un_write (b q:Nat) (G:Nat→Prop) (w:World) (u:Us) (a:Ak) (h:UM b q G w u) (hs:a.data.size≤1000000) :
  Calls Tryz.prog 182 #[ptrV b,askV a] w fun e w'=>e=.returned (anV (u.p.writeE a.page a.data) 0 noS 0)∧Leaves (UM b q) G w w' ⟨u.p.write a.page a.data,u.epoch,u.down⟩:=by
 obtain ⟨k,un,ep,pg,sz,n,s,pe,L,ao,cap⟩:=a
 obtain ⟨p,ue,dn⟩:=u
 simp only at *
 have CC:=Lh z1o
 have HS:=Lh (z0e (z08 b q) h #[.int .i64 k,.int .i64 un,.int .i64 ep,.int .i64 pg,.int .i64 sz,.int .i64 n,.string s,.int .i64 pe,.slice ao L.length cap])
 unfold zeroAn at HS
 have hbw:=h.small
 clear h
 show Calls _ _ #[.pointer (some ⟨b,0,none⟩),.agg #[.int .i64 k,.int .i64 un,.int .i64 ep,.int .i64 pg,.int .i64 sz,.int .i64 n,.string s,.int .i64 pe,.slice ao L.length cap]] w _
 go_enter Tryz.func182,Tryz.ntmps182
 go_wp2_with fail
 generalize hW0:((w.alloc (.cells #[.int .i64 k,.int .i64 un,.int .i64 ep,.int .i64 pg,.int .i64 sz,.int .i64 n,.string s,.int .i64 pe,.slice ao L.length cap] 34)).alloc (.cells #[.int .i64 0,.int .i64 0,.string ⟨#[]⟩,.int .i64 0,.slice none 0 0,.int .i64 0,.int .i64 0,.int .i64 0] 49))=W0 at *
 clear hW0
 obtain ⟨l1,l2⟩:=HS.out.small
 obtain ⟨H,hH,hU⟩:=(HS.out.drewN (z08 b q) 1).use
 have x3:W0.cell? ⟨w.heap.size,3,none⟩=some (.int .i64 pg):=z02 HS.out.ask 3
 have x6:W0.cell? ⟨w.heap.size,6,none⟩=some (.string s):=z02 HS.out.ask 6
 have c0:W0.cell? ⟨b,0,none⟩=some (.pointer (some ⟨q,0,none⟩)):=(z09 hH.cells).1
 have hb:b < W0.heap.size:=hH.small
 obtain ⟨F,hF,hok,hnx⟩:=hH.ready
 have HNX:=Lh (fun W2 p' h1 h2=>hU W2 _ (hnx W2 p' h1 h2))
 clear hnx hU hH
 go_still_tail 8,(by kernel_rfl)
 change wpList _ _ _ _ _ W0.drew
 go_wp2_with (first | (go_at_call 187;refine (pwrite_any F _ q p pg s hF hok hs).mono ?_;rintro e w2 ⟨rfl,hl⟩;have HT2:=Lh (HNX.out _ _ (hok.write pg s) hl);clear hl) | (go_at_call 179;refine (CC.out _ _).mono ?_;rintro e w3 ⟨rfl,hb3⟩;have HT3:=Lh (HT2.out.below (z08 b q) hb3);clear hb3;obtain ⟨nl1,nl2⟩:=HT3.out.small;obtain ⟨⟨ny0,ny1,ny2,ny3,ny4,ny5,ny6,ny7⟩,nfy0,nfy1,nfy2,nfy3,nfy4,nfy5,nfy6,nfy7⟩:=z03 HT3.out.ans))
 exact z0k (x:=anP (p.writeE pg s) 0 noS 0) (ao:=none) (cap:=0) rfl (HT3.out.fin (z08 b q)).1 rfl rfl ⟨rfl,(HT3.out.fin (z08 b q)).2⟩
theorem un_fill (b q:Nat) (G:Nat→Prop) (w:World) (u:Us) (a:Ak) (h:UM b q G w u) :
  Calls Tryz.prog 183 #[ptrV b,askV a] w fun e w'=>e=.returned (anV (u.p.fillE a.page) 0 noS 0)∧Leaves (UM b q) G w w' ⟨u.p.fill a.page,u.epoch,u.down⟩:=by
 obtain ⟨k,un,ep,pg,sz,n,s,pe,L,ao,cap⟩:=a
 obtain ⟨p,ue,dn⟩:=u
 simp only at *
 have CC:=Lh z1o
 have HS:=Lh (z0e (z08 b q) h #[.int .i64 k,.int .i64 un,.int .i64 ep,.int .i64 pg,.int .i64 sz,.int .i64 n,.string s,.int .i64 pe,.slice ao L.length cap])
 unfold zeroAn at HS
 have hbw:=h.small
 clear h
 show Calls _ _ #[.pointer (some ⟨b,0,none⟩),.agg #[.int .i64 k,.int .i64 un,.int .i64 ep,.int .i64 pg,.int .i64 sz,.int .i64 n,.string s,.int .i64 pe,.slice ao L.length cap]] w _
 go_enter Tryz.func183,Tryz.ntmps183
 go_wp2_with fail
 generalize hW0:((w.alloc (.cells #[.int .i64 k,.int .i64 un,.int .i64 ep,.int .i64 pg,.int .i64 sz,.int .i64 n,.string s,.int .i64 pe,.slice ao L.length cap] 34)).alloc (.cells #[.int .i64 0,.int .i64 0,.string ⟨#[]⟩,.int .i64 0,.slice none 0 0,.int .i64 0,.int .i64 0,.int .i64 0] 49))=W0 at *
 clear hW0
 obtain ⟨l1,l2⟩:=HS.out.small
 obtain ⟨H,hH,hU⟩:=(HS.out.drewN (z08 b q) 1).use
 have x3:W0.cell? ⟨w.heap.size,3,none⟩=some (.int .i64 pg):=z02 HS.out.ask 3
 have x6:W0.cell? ⟨w.heap.size,6,none⟩=some (.string s):=z02 HS.out.ask 6
 have c0:W0.cell? ⟨b,0,none⟩=some (.pointer (some ⟨q,0,none⟩)):=(z09 hH.cells).1
 have hb:b < W0.heap.size:=hH.small
 obtain ⟨F,hF,hok,hnx⟩:=hH.ready
 have HNX:=Lh (fun W2 p' h1 h2=>hU W2 _ (hnx W2 p' h1 h2))
 clear hnx hU hH
 go_still_tail 6,(by kernel_rfl)
 change wpList _ _ _ _ _ W0.drew
 go_wp2_with (first | (go_at_call 188;refine (pfill_any F _ q p pg hF hok).mono ?_;rintro e w2 ⟨rfl,hl⟩;have HT2:=Lh (HNX.out _ _ (hok.fill pg) hl);clear hl) | (go_at_call 179;refine (CC.out _ _).mono ?_;rintro e w3 ⟨rfl,hb3⟩;have HT3:=Lh (HT2.out.below (z08 b q) hb3);clear hb3;obtain ⟨nl1,nl2⟩:=HT3.out.small;obtain ⟨⟨ny0,ny1,ny2,ny3,ny4,ny5,ny6,ny7⟩,nfy0,nfy1,nfy2,nfy3,nfy4,nfy5,nfy6,nfy7⟩:=z03 HT3.out.ans))
 exact z0k (x:=anP (p.fillE pg) 0 noS 0) (ao:=none) (cap:=0) rfl (HT3.out.fin (z08 b q)).1 rfl rfl ⟨rfl,(HT3.out.fin (z08 b q)).2⟩
theorem un_trim (b q:Nat) (G:Nat→Prop) (w:World) (u:Us) (a:Ak) (h:UM b q G w u) (hw:i64w a.page) :
  Calls Tryz.prog 185 #[ptrV b,askV a] w fun e w'=>e=.returned (anV (Ps.trimE a.page) 0 noS 0)∧Leaves (UM b q) G w w' ⟨u.p.trim a.page,u.epoch,u.down⟩:=by
 obtain ⟨k,un,ep,pg,sz,n,s,pe,L,ao,cap⟩:=a
 obtain ⟨p,ue,dn⟩:=u
 simp only at *
 have CC:=Lh z1o
 have HS:=Lh (z0e (z08 b q) h #[.int .i64 k,.int .i64 un,.int .i64 ep,.int .i64 pg,.int .i64 sz,.int .i64 n,.string s,.int .i64 pe,.slice ao L.length cap])
 unfold zeroAn at HS
 have hbw:=h.small
 clear h
 show Calls _ _ #[.pointer (some ⟨b,0,none⟩),.agg #[.int .i64 k,.int .i64 un,.int .i64 ep,.int .i64 pg,.int .i64 sz,.int .i64 n,.string s,.int .i64 pe,.slice ao L.length cap]] w _
 go_enter Tryz.func185,Tryz.ntmps185
 go_wp2_with fail
 generalize hW0:((w.alloc (.cells #[.int .i64 k,.int .i64 un,.int .i64 ep,.int .i64 pg,.int .i64 sz,.int .i64 n,.string s,.int .i64 pe,.slice ao L.length cap] 34)).alloc (.cells #[.int .i64 0,.int .i64 0,.string ⟨#[]⟩,.int .i64 0,.slice none 0 0,.int .i64 0,.int .i64 0,.int .i64 0] 49))=W0 at *
 clear hW0
 obtain ⟨l1,l2⟩:=HS.out.small
 obtain ⟨H,hH,hU⟩:=(HS.out.drewN (z08 b q) 1).use
 have x3:W0.cell? ⟨w.heap.size,3,none⟩=some (.int .i64 pg):=z02 HS.out.ask 3
 have x6:W0.cell? ⟨w.heap.size,6,none⟩=some (.string s):=z02 HS.out.ask 6
 have c0:W0.cell? ⟨b,0,none⟩=some (.pointer (some ⟨q,0,none⟩)):=(z09 hH.cells).1
 have hb:b < W0.heap.size:=hH.small
 obtain ⟨F,hF,hok,hnx⟩:=hH.ready
 have HNX:=Lh (fun W2 p' h1 h2=>hU W2 _ (hnx W2 p' h1 h2))
 clear hnx hU hH
 go_still_tail 6,(by kernel_rfl)
 change wpList _ _ _ _ _ W0.drew
 go_wp2_with (first | (go_at_call 190;refine (ptrim_any F _ q p pg hF hok (i64_of_wf hw)).mono ?_;rintro e w2 ⟨rfl,hl⟩;have HT2:=Lh (HNX.out _ _ (hok.trim pg) hl);clear hl) | (go_at_call 179;refine (CC.out _ _).mono ?_;rintro e w3 ⟨rfl,hb3⟩;have HT3:=Lh (HT2.out.below (z08 b q) hb3);clear hb3;obtain ⟨nl1,nl2⟩:=HT3.out.small;obtain ⟨⟨ny0,ny1,ny2,ny3,ny4,ny5,ny6,ny7⟩,nfy0,nfy1,nfy2,nfy3,nfy4,nfy5,nfy6,nfy7⟩:=z03 HT3.out.ans))
 exact z0k (x:=anP (Ps.trimE pg) 0 noS 0) (ao:=none) (cap:=0) rfl (HT3.out.fin (z08 b q)).1 rfl rfl ⟨rfl,(HT3.out.fin (z08 b q)).2⟩
theorem results_place {P:Program} {fn:Func} {p u:Tmp} {ty:TypeId} (h:fn.results=#[.cell p ty,.tmp u]) (tmps:Array Value) (w:World) (g:Nat) (t:TypeId) (cs:Array Value) (fr:Nat × Nat) (d:TypeDesc)
  (hp:tmps.getD p undef=.pointer (some ⟨g,0,none⟩)) (hg:w.heap[g]?=some (.cells cs t fr))
  (hu:P.underlying ty=some d) (hd:(match d with | .struct _ | .array _ _=>true | _=>false)=true) (hi:(P.info? ty).map (·.size)=some cs.size) :
  (results fn tmps).run P w=.ok (.tuple #[.agg cs,tmps.getD u undef]) w:=by
 rw [results_cell_tmp h,hp]
 simp [asAddr,Result.andThen,run_loadVar_row w g t ty cs fr d hg hu hd hi]
theorem of_ret {fn:Func} {p u:Tmp} (h:fn.results=#[.cell p 150,.tmp u]) {a:Act} {w:World} {g:Nat} {x y:Value} {c:Bool} {R:Ending→World→Prop}
  (hg:w.heap[g]?=some (.cells #[x,y] 150 (0,0))) (hp:a.tmps.getD p undef=.pointer (some ⟨g,0,none⟩)) (hx:a.tmps.getD u undef=.bool c) (hd:a.defers=[])
  (hR:R (.returned (.tuple #[.agg #[x,y],.bool c])) w):bodyPost Tryz.prog fn R .ret a w:=by
 have e:=results_place (P:=Tryz.prog) h a.tmps w g 150 #[x,y] (0,0) _ hp hg Tryz.underlying150 rfl (by kernel_rfl)
 rw [hx] at e
 exact bodyPost_ret e hd hR
theorem ofV_no {ep:Int} {L:List (List Int)} {a:Int} (h:ofB ep L a=false):ofV ep L a=.tuple #[.agg #[.int .i64 0,.int .i64 0],.bool false]:=by
 unfold ofV ofC ofP
 rw [h]
 rfl
theorem ofV_is {ep:Int} {L:List (List Int)} {a:Int} (h:ofB ep L a=true):ofV ep L a=.tuple #[.agg #[.int .i64 (a % (L.length:Int)),.int .i64 (a / (L.length:Int))],.bool true]:=by
 unfold ofV ofC ofP
 rw [h]
 rfl
theorem pOf_any (ep:Int) (ao:Option Addr) (cap:Nat) (L:List (List Int)) (a:Int) (w:World) (h:CL w ao L) (hl:L.length≤255∧∀ c ∈ L,c.length≤255) :
  Calls Tryz.prog 100 #[.agg #[.int .i64 ep,.slice ao L.length cap],.int .i64 a] w fun e w'=>e=.returned (ofV ep L a)∧Below w.heap.size w w':=by
 have HB0:=Lh (((Below.refl w.heap.size w).alloc (Nat.le_refl _) (.cells #[.int .i64 ep,.slice ao L.length cap] 24)).alloc (by simp) (.cells #[.int .i64 0,.int .i64 0] 150))
 have HC:=Lh (h.below HB0.out)
 have HP:=Lh (show PB (((w.alloc (.cells #[.int .i64 ep,.slice ao L.length cap] 24)).alloc (.cells #[.int .i64 0,.int .i64 0] 150))) w.heap.size ep ao L.length cap from PB.below (heap_alloc_new _ _) ((Below.refl _ _).alloc (Nat.le_refl _) _))
 have HG:=Lh (show (((w.alloc (.cells #[.int .i64 ep,.slice ao L.length cap] 24)).alloc (.cells #[.int .i64 0,.int .i64 0] 150))).heap[w.heap.size+1]?=some (.cells #[.int .i64 0,.int .i64 0] 150 (0,0)) from by
  have h:=heap_alloc_new (w.alloc (.cells #[.int .i64 ep,.slice ao L.length cap] 24)) (.cells #[.int .i64 0,.int .i64 0] 150)
  simpa using h)
 have CG:=Lh (z0m ep ao cap L _ HC.out hl)
 have hl':(L.length:Int)≤255:=by have:=hl.1;omega
 clear h hl
 by_cases hg:goodB ep L=true
 ·rw [hg] at CG
  obtain ⟨n1,n4⟩:=z0v hg
  by_cases h0:a < 0
  ·rw [ofV_no (Bool.eq_false_iff.2 (fun e=>by have:=(ofB_iff.1 e).2;omega))]
   clear hg
   go_enter Tryz.func100,Tryz.ntmps100
   go_wp2_with (go_at_call 44;refine CG.out.mono ?_;rintro e w1 ⟨rfl,hb1⟩;have HB1:=Lh (HB0.out.trans (hb1.mono HB0.out.size));have HG1:=Lh (z01 hb1 HG.out);obtain ⟨c0,c1,f0,f1⟩:=z05 HG1.out;obtain ⟨b0,b1⟩:=(HP.out.below hb1).cells;clear hb1)
   exact of_ret rfl (z27 (two_set0 HG1.out _) _) rfl rfl rfl ⟨rfl,(HB1.out.setCell (by simp) _).setCell (by simp) _⟩
  ·by_cases h1:16384≤a
   ·rw [ofV_no (Bool.eq_false_iff.2 (fun e=>by have:=(ofB_iff.1 e).2;omega))]
    have h0':0≤a:=by omega
    clear hg h0
    go_enter Tryz.func100,Tryz.ntmps100
    go_wp2_with (go_at_call 44;refine CG.out.mono ?_;rintro e w1 ⟨rfl,hb1⟩;have HB1:=Lh (HB0.out.trans (hb1.mono HB0.out.size));have HG1:=Lh (z01 hb1 HG.out);obtain ⟨c0,c1,f0,f1⟩:=z05 HG1.out;obtain ⟨b0,b1⟩:=(HP.out.below hb1).cells;clear hb1)
    exact of_ret rfl (z27 (two_set0 HG1.out _) _) rfl rfl rfl ⟨rfl,(HB1.out.setCell (by simp) _).setCell (by simp) _⟩
   ·have h0':0≤a:=by omega
    have h1':a < 16384:=by omega
    rw [ofV_is (ofB_iff.2 ⟨hg,h0',h1'⟩)]
    obtain ⟨r1,r2,_⟩:=of_range (n:=L.length) ⟨by omega,by omega⟩ ⟨h0',h1'⟩
    have e1:IntKind.i64.wrap (a.tmod (L.length:Int))=a % (L.length:Int):=by rw [Int.tmod_eq_emod_of_nonneg h0'];exact IntWalk.i64_in _ (by omega)
    have e2:IntKind.i64.wrap (a.tdiv (L.length:Int))=a / (L.length:Int):=by rw [Int.tdiv_eq_ediv_of_nonneg h0'];exact IntWalk.i64_in _ (by omega)
    have nz:¬ (L.length:Int)=0:=by omega
    clear hg h0 h1 r1 r2
    go_enter Tryz.func100,Tryz.ntmps100
    go_wp2_with (go_at_call 44;refine CG.out.mono ?_;rintro e w1 ⟨rfl,hb1⟩;have HB1:=Lh (HB0.out.trans (hb1.mono HB0.out.size));have HG1:=Lh (z01 hb1 HG.out);obtain ⟨c0,c1,f0,f1⟩:=z05 HG1.out;obtain ⟨b0,b1⟩:=(HP.out.below hb1).cells;clear hb1)
    go_region
    go_wp2_with fail
    exact of_ret rfl (z27 (two_set0 HG1.out _) _) rfl rfl rfl ⟨rfl,((HB1.out.setCell (by simp) _).setCell (by simp) _).drew⟩
 ·have hg':goodB ep L=false:=Bool.eq_false_iff.2 hg
  rw [ofV_no (Bool.eq_false_iff.2 (fun e=>hg (ofB_iff.1 e).1))]
  rw [hg'] at CG
  clear hg hg'
  go_enter Tryz.func100,Tryz.ntmps100
  go_wp2_with (go_at_call 44;refine CG.out.mono ?_;rintro e w1 ⟨rfl,hb1⟩;have HB1:=Lh (HB0.out.trans (hb1.mono HB0.out.size));have HG1:=Lh (z01 hb1 HG.out);obtain ⟨c0,c1,f0,f1⟩:=z05 HG1.out;obtain ⟨b0,b1⟩:=(HP.out.below hb1).cells;clear hb1)
  exact of_ret rfl (z27 (two_set0 HG1.out _) _) rfl rfl rfl ⟨rfl,(HB1.out.setCell (by simp) _).setCell (by simp) _⟩
structure GNod (E:Int) (M:List (List Int)) (n0:Nd) (V:Int) (S:ByteArray) (a:Int) (fill:Bool) (n:Nd):Prop where
 ft:GtN E M n
 each:∀ j,j < lenG E M a→GK E M n a j=0∨(GK E M n a j=V∧(V=1→GX E M n a j=S))
 kind:V=0∨V=1∨V=2∨V=3
 one:V=1→GK E M n a 0=1
 two:V=2→fill=true∨GK E M n a 0=2
 nil:V=0→fill=false
 trim:V=3→∀ j,j < lenG E M a→GK E M n a j=3
 pre:PreG E M n a
 off:∀ b i,ofB E M b=true→i < lenG E M b→b≠a→GK E M n b i=GK E M n0 b i∧GX E M n b i=GX E M n0 b i
 rest:∀ i,(∀ j,j < lenG E M a→i≠unG E M a j)→n.u i=n0.u i
 epoch:∀ i,(n.u i).epoch=(n0.u i).epoch
 o:n.o=n0.o
 l:n.l=n0.l
 same:V=0∨V=3→n=n0
def foundG (V:Int) (S:ByteArray):ByteArray:=if V=1 then S else noS
def PlG (E:Int) (M:List (List Int)) (n:Nd) (V:Int) (S:ByteArray) (a:Int) (fill:Bool) (f:Fe):Prop :=
 f.at_=2∨(f.at_=3∧V≠3)∨(f.at_=4∧V=2∧fill=true)∨
 (f.at_=5∧(1≤f.i∧f.i < lenG E M a)∧(V=1∨V=2)∧f.kind=V∧f.s=foundG V S∧∀ j,j < f.i→GK E M n a j=V)∨
 (f.at_=7∧f.kind=V∧f.s=foundG V S∧f.e=0∧∀ j,j < lenG E M a→GK E M n a j=V)
structure FPg (E:Int) (M:List (List Int)) (a:Int) (fill:Bool) (f:Fe):Prop where
 ep:f.ep=E
 chains:f.L=M
 addr:f.addr=a
 fill:f.fill=fill
def rankG (f:Fe):Nat:=if f.at_=2 then 6 else if f.at_=3 then 5 else if f.at_=4 then 4 else if f.at_=5 then 4 - f.i else 0
theorem one_lowG {P:Nat→Prop} (h:P 0):∀ j,j < 1→P j:=fun j hj=>by
 have e:j=0:=by omega
 rw [e]
 exact h
section
variable {E:Int} {M:List (List Int)} {n0 n n':Nd} {V:Int} {S:ByteArray} {a:Int} {fill:Bool} {f:Fe}
theorem GNod.put (h:GNod E M n0 V S a fill n) (hv:V=1∨V=2) {j:Nat} (hj:j < lenG E M a) (hb:∀ i,i < j→GK E M n a i=V) (ha:ofB E M a=true) (hm:MovedG E M n n' a j) (hk:GK E M n' a j=V) (hx:V=1→GX E M n' a j=S) (h1:V=1→j≠0) :
  GNod E M n0 V S a fill n'∧∀ i,i < j+1→GK E M n' a i=V:=by
 have up:∀ i,i < j+1→GK E M n' a i=V:=fun i hi=>by
  by_cases e:i=j
  ·rw [e];exact hk
  ·rw [(hm.off a i ha (by omega) (fun g=>e g.2)).1];exact hb i (by omega)
 have each':∀ i,i < lenG E M a→GK E M n' a i=0∨(GK E M n' a i=V∧(V=1→GX E M n' a i=S)):=fun i hi=>by
  by_cases e:i=j
  ·rw [e];exact .inr ⟨hk,hx⟩
  ·obtain ⟨g1,g2⟩:=hm.off a i ha hi (fun g=>e g.2)
   rw [g1,g2]
   exact h.each i hi
 refine ⟨⟨hm.ft,each',h.kind,fun e=>?_,fun e=>.inr ?_,fun e=>by omega,fun e=>by omega,fun i hi h0=>?_,fun b i hbo hi hb=>?_,fun i hi=>?_,fun i=>(hm.epoch i).trans (h.epoch i),hm.o.trans h.o,hm.l.trans h.l,fun e=>by omega⟩,up⟩
 ·rw [(hm.off a 0 ha (by omega) (fun g=>h1 e g.2.symm)).1];exact h.one e
 ·rw [up 0 (by omega)];exact e
 ·have e1:GK E M n' a i≠0:=by
   by_cases g1:i < j+1
   ·rw [up i g1];omega
   ·rw [(hm.off a (i+1) ha hi (fun g=>by omega)).1] at h0
    rw [(hm.off a i ha (by omega) (fun g=>by omega)).1,(h.pre i hi h0).1]
    exact h0
  rcases each' i (by omega) with g | ⟨g1,g2⟩
  ·exact absurd g e1
  ·rcases each' (i+1) hi with k | ⟨k1,k2⟩
   ·exact absurd k h0
   ·exact ⟨g1.trans k1.symm,fun e=>(g2 (g1 ▸ e)).trans (k2 (g1 ▸ e)).symm⟩
 ·obtain ⟨g1,g2⟩:=hm.off b i hbo hi (fun g=>hb g.1)
  rw [g1,g2]
  exact h.off b i hbo hi hb
 ·rw [hm.same i (hi j hj)]
  exact h.rest i hi
theorem FPg.unitK (h:FPg E M a fill f) (ha:AdG E M a) (kd:Int) {i:Nat} (hi:i < lenG E M a) (s:ByteArray):f.unitK kd i s=⟨kd,(unG E M a i:Int),E,ofP E M a,0,0,s,0,[],none,0⟩:=by
 unfold Fe.unitK Fe.chain
 rw [h.ep,h.chains,h.addr,(unG_is ha.of hi).1]
theorem asksG (ha:AdG E M a) {kd:Int} (hk:kd=1∨kd=2∨kd=3) (i:Nat) {s:ByteArray} (hs:s.size≤4096):AskH E M a i ⟨kd,(unG E M a i:Int),E,ofP E M a,0,0,s,0,[],none,0⟩ :=
 ⟨⟨hk,rfl,⟨by obtain ⟨_,_,_,_,p,q,_⟩:=z12 ha.of;show 0≤ofP E M a;rw [p];exact q,ha.page⟩,hs⟩,rfl,rfl⟩
theorem FPg.len (h:FPg E M a fill f) (ha:AdG E M a):f.chain.length=lenG E M a:=by
 unfold Fe.chain
 rw [h.ep,h.chains,h.addr]
 rfl
theorem mendG_place (hp:FPg E M a fill f) (ha:AdG E M a) (hv:V=1∨V=2) (hk:f.kind=V) (hs:f.s=foundG V S) {i:Nat} (hi:1≤i∧i≤lenG E M a) (hb:∀ j,j < i→GK E M n a j=V):FPg E M a fill (f.mend i)∧PlG E M n V S a fill (f.mend i)∧rankG (f.mend i)≤4 - i:=by
 unfold Fe.mend
 rw [hp.len ha]
 by_cases e:i=lenG E M a
 ·rw [if_pos e]
  exact ⟨⟨hp.ep,hp.chains,hp.addr,hp.fill⟩,.inr (.inr (.inr (.inr ⟨rfl,hk,hs,rfl,by rw [← e];exact hb⟩))),Nat.zero_le _⟩
 ·rw [if_neg e]
  exact ⟨⟨hp.ep,hp.chains,hp.addr,hp.fill⟩,.inr (.inr (.inr (.inl ⟨rfl,⟨hi.1,by show i < lenG E M a;omega⟩,hv,hk,hs,hb⟩))),Nat.le_refl _⟩
theorem firstG_place (h:GNod E M n0 V S a fill n) (hp:FPg E M a fill f) (ha:AdG E M a) (h3:V≠3) {x:An} (hc:x.code=(if GK E M n a 0=3 then 43 else if GK E M n a 0=0 then 42 else if GK E M n a 0=2 then 46 else 0)) (hx:GK E M n a 0=1→x.data=GX E M n a 0) :
  FPg E M a fill (f.first x)∧PlG E M n V S a fill (f.first x)∧rankG (f.first x)≤4:=by
 have hl:=z1b ha.of
 rcases h.each 0 (by omega) with h0 | ⟨h0,hS⟩
 ·have hc':x.code=42:=by rw [hc,h0];rfl
  unfold Fe.first
  rw [hc',if_neg (by decide),if_neg (by decide),if_neg (by decide),if_pos rfl,hp.fill]
  cases fill with
  | true =>
   have hv:V=2:=by
    rcases h.kind with e | e | e | e
    ·exact absurd (h.nil e) (by decide)
    ·have:=h.one e;omega
    ·exact e
    ·exact absurd e h3
   exact ⟨⟨hp.ep,hp.chains,hp.addr,hp.fill⟩,.inr (.inr (.inl ⟨rfl,hv,rfl⟩)),Nat.le_refl _⟩
  | false =>
   have hv:V=0:=by
    rcases h.kind with e | e | e | e
    ·exact e
    ·have:=h.one e;omega
    ·rcases h.two e with g | g
     ·exact absurd g (by decide)
     ·omega
    ·exact absurd e h3
   refine ⟨⟨hp.ep,hp.chains,hp.addr,hp.fill⟩,.inr (.inr (.inr (.inr ⟨rfl,hv.symm,?_,rfl,fun j hj=>?_⟩))),Nat.zero_le _⟩
   ·unfold foundG
    rw [hv]
    rfl
   ·rcases h.each j hj with g | g
    ·rw [g,hv]
    ·exact g.1
 ·rcases h.kind with e | e | e | e
  ·have hc':x.code=42:=by rw [hc,h0,e];rfl
   have hf:=h.nil e
   unfold Fe.first
   rw [hc',if_neg (by decide),if_neg (by decide),if_neg (by decide),if_pos rfl,hp.fill,hf]
   refine ⟨⟨hp.ep,hp.chains,hp.addr,hp.fill.trans hf⟩,.inr (.inr (.inr (.inr ⟨rfl,e.symm,?_,rfl,fun j hj=>?_⟩))),Nat.zero_le _⟩
   ·unfold foundG
    rw [e]
    rfl
   ·rcases h.each j hj with g | g
    ·rw [g,e]
    ·exact g.1
  ·have hc':x.code=0:=by rw [hc,h0,e];rfl
   unfold Fe.first
   rw [if_pos hc']
   obtain ⟨g1,g2,g3⟩:=mendG_place (n:=n) (V:=V) (S:=S) (f:=f.found 1 x.data) (i:=1) ⟨hp.ep,hp.chains,hp.addr,hp.fill⟩ ha (.inl e) e.symm (by show x.data=_;unfold foundG;rw [if_pos e,hx (h0.trans e),hS e]) ⟨Nat.le_refl _,hl.1⟩ (one_lowG h0)
   exact ⟨g1,g2,Nat.le_trans g3 (by omega)⟩
  ·have hc':x.code=46:=by rw [hc,h0,e];rfl
   unfold Fe.first
   rw [hc',if_neg (by decide),if_pos rfl]
   obtain ⟨g1,g2,g3⟩:=mendG_place (n:=n) (V:=V) (S:=S) (f:=f.found 2 noS) (i:=1) ⟨hp.ep,hp.chains,hp.addr,hp.fill⟩ ha (.inr e) e.symm (by show noS=_;unfold foundG;rw [if_neg (by omega)]) ⟨Nat.le_refl _,hl.1⟩ (one_lowG h0)
   exact ⟨g1,g2,Nat.le_trans g3 (by omega)⟩
  ·exact absurd e h3
theorem GNod.turn (h:GNod E M n0 V S a fill n) (hp:FPg E M a fill f) (hl:PlG E M n V S a fill f) (ha:AdG E M a) (hS:V=1→S.size≤4096) (h7:f.at_≠7) :
  (GNod E M n0 V S a fill (n.done f.ask)∧PlG E M (n.done f.ask) V S a fill f)∧FPg E M a fill (f.hear (n.ans f.ask) true)∧PlG E M (n.done f.ask) V S a fill (f.hear (n.ans f.ask) true)∧rankG (f.hear (n.ans f.ask) true) < rankG f:=by
 have hlen:=z1b ha.of
 have nS:(noS:ByteArray).size≤4096:=by decide
 have hh:∀ x:An,x.code≠45→x.code≠40→f.at_≠1→f.at_≠6→f.hear x true=(if f.at_=2 then (if x.code=0 then f.ends 1 x.data 0 else if x.code=46 then f.ends 2 noS 0 else if x.code=43 then f.ends 3 noS 0 else if x.code=42 then (if f.chain.length=1 then f.first x else f.to 3) else f.ends 0 noS x.code)
   else if f.at_=3 then f.first x
   else if f.at_=4 then (if x.code=0 then (f.found 2 noS).mend 1 else if x.code=41 then f.to 3 else if x.code=43 then f.ends 3 noS 0 else f.ends 0 noS x.code)
   else (if x.code=0∨x.code=41 then f.mend (f.i+1) else if x.code=43 then f.ends 3 noS 0 else f.ends 0 noS x.code)):=fun x e1 e2 e3 e4=>by
  unfold Fe.hear
  rw [if_neg (fun g=>g.elim h7 Bool.noConfusion),if_neg e1,if_neg e2,if_neg e3,if_neg e4]
 rcases id hl with p | ⟨p,v3⟩ | ⟨p,v2,hfl⟩ | ⟨p,⟨i1,i2⟩,hv,pk,ps,pb⟩ | ⟨p,_⟩
 ·
  have ek:f.ask=f.unitK 3 (f.chain.length - 1) ⟨#[]⟩:=by unfold Fe.ask;rw [if_neg (by omega),if_pos p]
  rw [hp.len ha,hp.unitK ha 3 (by omega)] at ek
  have hA:=asksG ha (.inr (.inr rfl)) (lenG E M a - 1) (s:=⟨#[]⟩) nS
  rw [← ek] at hA
  obtain ⟨r1,r2,r3⟩:=h.ft.read hA ha.of (by omega) (by rw [ek])
  rw [r3]
  refine ⟨⟨h,hl⟩,?_⟩
  have hk3:rankG f=6:=by unfold rankG;rw [if_pos p]
  rw [hk3]
  rcases h.each (lenG E M a - 1) (by omega) with g | ⟨g1,g2⟩
  ·have hc:(n.ans f.ask).code=42:=by rw [r1,g];rfl
   rw [hh _ (by omega) (by omega) (by omega) (by omega),if_pos p,hc,if_neg (by decide),if_neg (by decide),if_neg (by decide),if_pos rfl,hp.len ha]
   have v3:V≠3:=fun e=>by have:=h.trim e (lenG E M a - 1) (by omega);omega
   by_cases e1:lenG E M a=1
   ·rw [if_pos e1]
    rw [e1] at g r1 r2
    obtain ⟨q1,q2,q3⟩:=firstG_place h hp ha v3 r1 r2
    exact ⟨q1,q2,by omega⟩
   ·rw [if_neg e1]
    exact ⟨⟨hp.ep,hp.chains,hp.addr,hp.fill⟩,.inr (.inl ⟨rfl,v3⟩),by show 5 < 6;omega⟩
  ·have hall:V≠0→∀ j,j < lenG E M a→GK E M n a j=V:=fun hv0 j hj=>by
    have hd:=(h.pre.down (lenG E M a - 1 - j) j (by omega) (by rw [show j+(lenG E M a - 1 - j)=lenG E M a - 1 by omega,g1];exact hv0)).1
    rw [hd,show j+(lenG E M a - 1 - j)=lenG E M a - 1 by omega,g1]
   rcases h.kind with e | e | e | e
   ·have g:GK E M n a (lenG E M a - 1)=0:=g1.trans e
    have hc:(n.ans f.ask).code=42:=by rw [r1,g];rfl
    rw [hh _ (by omega) (by omega) (by omega) (by omega),if_pos p,hc,if_neg (by decide),if_neg (by decide),if_neg (by decide),if_pos rfl,hp.len ha]
    have v3:V≠3:=by omega
    by_cases e1:lenG E M a=1
    ·rw [if_pos e1]
     rw [e1] at r1 r2
     obtain ⟨q1,q2,q3⟩:=firstG_place h hp ha v3 r1 r2
     exact ⟨q1,q2,by omega⟩
    ·rw [if_neg e1]
     exact ⟨⟨hp.ep,hp.chains,hp.addr,hp.fill⟩,.inr (.inl ⟨rfl,v3⟩),by show 5 < 6;omega⟩
   ·have hc:(n.ans f.ask).code=0:=by rw [r1,g1,e];rfl
    rw [hh _ (by omega) (by omega) (by omega) (by omega),if_pos p,if_pos hc]
    refine ⟨⟨hp.ep,hp.chains,hp.addr,hp.fill⟩,.inr (.inr (.inr (.inr ⟨rfl,e.symm,?_,rfl,hall (by omega)⟩))),by show 0 < 6;omega⟩
    show (n.ans f.ask).data=_
    rw [r2 (g1.trans e),g2 e]
    unfold foundG
    rw [if_pos e]
   ·have hc:(n.ans f.ask).code=46:=by rw [r1,g1,e];rfl
    rw [hh _ (by omega) (by omega) (by omega) (by omega),if_pos p,hc,if_neg (by decide),if_pos rfl]
    exact ⟨⟨hp.ep,hp.chains,hp.addr,hp.fill⟩,.inr (.inr (.inr (.inr ⟨rfl,e.symm,by show noS=_;unfold foundG;rw [if_neg (by omega)],rfl,hall (by omega)⟩))),by show 0 < 6;omega⟩
   ·have hc:(n.ans f.ask).code=43:=by rw [r1,g1,e];rfl
    rw [hh _ (by omega) (by omega) (by omega) (by omega),if_pos p,hc,if_neg (by decide),if_neg (by decide),if_pos rfl]
    exact ⟨⟨hp.ep,hp.chains,hp.addr,hp.fill⟩,.inr (.inr (.inr (.inr ⟨rfl,e.symm,by show noS=_;unfold foundG;rw [if_neg (by omega)],rfl,hall (by omega)⟩))),by show 0 < 6;omega⟩
 ·
  have ek:f.ask=f.unitK 3 0 ⟨#[]⟩:=by unfold Fe.ask;rw [if_neg (by omega),if_neg (by omega),if_pos p]
  rw [hp.unitK ha 3 (by omega)] at ek
  have hA:=asksG ha (.inr (.inr rfl)) 0 (s:=⟨#[]⟩) nS
  rw [← ek] at hA
  obtain ⟨r1,r2,r3⟩:=h.ft.read hA ha.of (by omega) (by rw [ek])
  have hk3:rankG f=5:=by unfold rankG;rw [if_neg (by omega),if_pos p]
  have hne:(n.ans f.ask).code≠45∧(n.ans f.ask).code≠40:=by
   rw [r1]
   repeat' split
   all_goals exact ⟨by decide,by decide⟩
  rw [r3,hk3,hh _ hne.1 hne.2 (by omega) (by omega),if_neg (by omega),if_pos p]
  obtain ⟨q1,q2,q3⟩:=firstG_place h hp ha v3 r1 r2
  exact ⟨⟨h,hl⟩,q1,q2,by omega⟩
 ·
  have ek:f.ask=f.unitK 2 0 ⟨#[]⟩:=by unfold Fe.ask;rw [if_neg (by omega),if_neg (by omega),if_neg (by omega),if_pos p]
  rw [hp.unitK ha 2 (by omega)] at ek
  have hA:=asksG ha (.inr (.inl rfl)) 0 (s:=⟨#[]⟩) nS
  rw [← ek] at hA
  have hk3:rankG f=4:=by unfold rankG;rw [if_neg (by omega),if_neg (by omega),if_pos p]
  have key:(n.ans f.ask).code=0∧GNod E M n0 V S a fill (n.done f.ask)∧GK E M (n.done f.ask) a 0=V:=by
   by_cases h0:GK E M n a 0=0
   ·obtain ⟨r1,r2,r3⟩:=h.ft.fill_new hA ha.of (by omega) (by rw [ek]) h0
    obtain ⟨q1,q2⟩:=h.put (.inr v2) (by omega) (fun i hi=>by omega) ha.of r2 (r3.trans v2.symm) (fun e=>by omega) (fun e=>by omega)
    exact ⟨r1,q1,q2 0 (by omega)⟩
   ·obtain ⟨r1,r2⟩:=h.ft.fill_old hA ha.of (by omega) (by rw [ek]) h0
    have g:GK E M n a 0=V:=(h.each 0 (by omega)).elim (fun g=>absurd g h0) (fun g=>g.1)
    rw [r2]
    exact ⟨by rw [r1,g,v2];rfl,h,g⟩
  obtain ⟨hc,k1,k2⟩:=key
  rw [hk3,hh _ (by omega) (by omega) (by omega) (by omega),if_neg (by omega),if_neg (by omega),if_pos p,if_pos hc]
  obtain ⟨g1,g2,g3⟩:=mendG_place (n:=n.done f.ask) (V:=V) (S:=S) (f:=f.found 2 noS) (i:=1) ⟨hp.ep,hp.chains,hp.addr,hp.fill⟩ ha (.inr v2) v2.symm (by show noS=_;unfold foundG;rw [if_neg (by omega)]) ⟨Nat.le_refl _,hlen.1⟩ (one_lowG k2)
  exact ⟨⟨k1,.inr (.inr (.inl ⟨p,v2,hfl⟩))⟩,g1,g2,by omega⟩
 ·
  have hk3:rankG f=4 - f.i:=by unfold rankG;rw [if_neg (by omega),if_neg (by omega),if_neg (by omega),if_pos p]
  have key:((n.ans f.ask).code=0∨(n.ans f.ask).code=41)∧GNod E M n0 V S a fill (n.done f.ask)∧∀ j,j < f.i+1→GK E M (n.done f.ask) a j=V:=by
   rcases hv with v | v
   ·have ek:f.ask=f.unitK 1 f.i f.s:=by unfold Fe.ask;rw [if_neg (by omega),if_neg (by omega),if_neg (by omega),if_neg (by omega),if_pos p,if_pos (by omega)]
    rw [hp.unitK ha 1 i2] at ek
    have es:f.s=S:=by rw [ps];unfold foundG;rw [if_pos v]
    have hA:=asksG ha (.inl rfl) f.i (s:=f.s) (by rw [es];exact hS v)
    rw [← ek] at hA
    by_cases h0:GK E M n a f.i=0
    ·obtain ⟨r1,r2,r3,r4⟩:=h.ft.write_new hA ha.of i2 (by rw [ek]) h0
     obtain ⟨q1,q2⟩:=h.put (.inl v) i2 pb ha.of r2 (r3.trans v.symm) (fun _=>by rw [r4,ek];exact es) (fun _=>by omega)
     exact ⟨.inl r1,q1,q2⟩
    ·obtain ⟨r1,r2⟩:=h.ft.write_old hA ha.of i2 (by rw [ek]) h0
     have g:GK E M n a f.i=V:=(h.each f.i i2).elim (fun g=>absurd g h0) (fun g=>g.1)
     rw [r2]
     exact ⟨.inr (by rw [r1,g,v];rfl),h,fun j hj=>by by_cases e:j=f.i;(· rw [e];exact g);(· exact pb j (by omega))⟩
   ·have ek:f.ask=f.unitK 2 f.i ⟨#[]⟩:=by unfold Fe.ask;rw [if_neg (by omega),if_neg (by omega),if_neg (by omega),if_neg (by omega),if_pos p,if_neg (by omega)]
    rw [hp.unitK ha 2 i2] at ek
    have hA:=asksG ha (.inr (.inl rfl)) f.i (s:=⟨#[]⟩) nS
    rw [← ek] at hA
    by_cases h0:GK E M n a f.i=0
    ·obtain ⟨r1,r2,r3⟩:=h.ft.fill_new hA ha.of i2 (by rw [ek]) h0
     obtain ⟨q1,q2⟩:=h.put (.inr v) i2 pb ha.of r2 (r3.trans v.symm) (fun e=>by omega) (fun e=>by omega)
     exact ⟨.inl r1,q1,q2⟩
    ·obtain ⟨r1,r2⟩:=h.ft.fill_old hA ha.of i2 (by rw [ek]) h0
     have g:GK E M n a f.i=V:=(h.each f.i i2).elim (fun g=>absurd g h0) (fun g=>g.1)
     rw [r2]
     exact ⟨.inl (by rw [r1,g,v];rfl),h,fun j hj=>by by_cases e:j=f.i;(· rw [e];exact g);(· exact pb j (by omega))⟩
  obtain ⟨hc,k1,k2⟩:=key
  rw [hk3,hh _ (by omega) (by omega) (by omega) (by omega),if_neg (by omega),if_neg (by omega),if_neg (by omega),if_pos hc]
  obtain ⟨g1,g2,g3⟩:=mendG_place (n:=n.done f.ask) hp ha hv pk ps (i:=f.i+1) ⟨by omega,by omega⟩ k2
  exact ⟨⟨k1,.inr (.inr (.inr (.inl ⟨p,⟨i1,i2⟩,hv,pk,ps,fun j hj=>k2 j (by omega)⟩)))⟩,g1,g2,by omega⟩
 ·exact absurd p h7
end
def BundG (n:Nat) (T:Nat→(Nat→Prop)→World→Prop) (G:Nat→Prop) (w:World):Prop :=
 ∃ F:Nat→Nat→Prop,(∀ i,i < n→T i (F i) w)∧(∀ i j,i < n→j < n→i≠j→∀ k,F i k→¬ F j k)∧∀ k,G k↔∃ i,i < n∧F i k
section
variable {n i:Nat} {T:Nat→(Nat→Prop)→World→Prop} {U:(Nat→Prop)→World→Prop} {G C:Nat→Prop} {w w':World}
theorem BundG.lt (hT:∀ i,i < n→Part (T i)) (h:BundG n T G w):∀ k,G k→k < w.heap.size:=by
 obtain ⟨F,h1,h2,h3⟩:=h
 intro k hk
 obtain ⟨i,hi,hf⟩:=(h3 k).1 hk
 exact (hT i hi).lt (h1 i hi) k hf
theorem BundG.keep (hT:∀ i,i < n→Part (T i)) (h:BundG n T G w) {S:Nat→Prop} (hk:Kept S w w') (hS:∀ k,G k→S k):BundG n T G w':=by
 obtain ⟨F,h1,h2,h3⟩:=h
 exact ⟨F,fun i hi=>(hT i hi).keep (h1 i hi) hk (fun k hf=>hS k ((h3 k).2 ⟨i,hi,hf⟩)),h2,h3⟩
theorem BundG.same {T2:Nat→(Nat→Prop)→World→Prop} (h:BundG n T G w) (e:∀ i,i < n→∀ F W,T i F W→T2 i F W):BundG n T2 G w:=by
 obtain ⟨F,h1,h2,h3⟩:=h
 exact ⟨F,fun i hi=>e i hi _ _ (h1 i hi),h2,h3⟩
theorem BundG.look (h:BundG n T G w) (hi:i < n):∃ F,T i F w∧∀ k,F k→G k:=by
 obtain ⟨F,h1,h2,h3⟩:=h
 exact ⟨F i,h1 i hi,fun k hf=>(h3 k).2 ⟨i,hi,hf⟩⟩
theorem bundg_turn {F:Nat→Nat→Prop} {F':Nat→Prop} (hT:∀ i,i < n→Part (T i)) (h1:∀ i,i < n→T i (F i) w) (h2:∀ i j,i < n→j < n→i≠j→∀ k,F i k→¬ F j k) (h3:∀ k,G k↔∃ i,i < n∧F i k) (hi:i < n) (hC:∀ k,C k→w.heap.size≤k)
  (r1:U F' w') (r2:∀ k,C k→¬ F' k) (r3:Kept (fun k=>¬ F i k) w w') (r4:∀ k,F' k→F i k∨w.heap.size≤k) :
  ∃ G':Nat→Prop,BundG n (swapP T i U) G' w'∧(∀ k,C k→¬ G' k)∧Kept (fun k=>¬ G k) w w'∧∀ k,G' k→G k∨w.heap.size≤k:=by
 refine ⟨fun k=>∃ j,j < n∧(if j=i then F' else F j) k,⟨fun j=>if j=i then F' else F j,fun j hj=>?_,fun j l hj hl hne k hf hg=>?_,fun k=>Iff.rfl⟩,?_,r3.mono (fun k hn hf=>hn ((h3 k).2 ⟨i,hi,hf⟩)),?_⟩
 ·unfold swapP
  by_cases e:j=i
  ·simp only [e,if_true]
   exact r1
  ·simp only [e,if_false]
   exact (hT j hj).keep (h1 j hj) r3 (fun k hf hg=>h2 j i hj hi e k hf hg)
 ·by_cases e:j=i
  ·have e2:l≠i:=fun h=>hne (e.trans h.symm)
   simp only [e,if_true] at hf
   simp only [e2,if_false] at hg
   rcases r4 k hf with h | h
   ·exact h2 i l hi hl (fun h=>e2 h.symm) k h hg
   ·have:=(hT l hl).lt (h1 l hl) k hg;omega
  ·simp only [e,if_false] at hf
   by_cases e2:l=i
   ·simp only [e2,if_true] at hg
    rcases r4 k hg with h | h
    ·exact h2 j i hj hi e k hf h
    ·have:=(hT j hj).lt (h1 j hj) k hf;omega
   ·simp only [e2,if_false] at hg
    exact h2 j l hj hl hne k hf hg
 ·rintro k hk ⟨j,hj,hf⟩
  by_cases e:j=i
  ·simp only [e,if_true] at hf
   exact r2 k hk hf
  ·simp only [e,if_false] at hf
   have:=(hT j hj).lt (h1 j hj) k hf
   have:=hC k hk
   omega
 ·rintro k ⟨j,hj,hf⟩
  by_cases e:j=i
  ·simp only [e,if_true] at hf
   rcases r4 k hf with h | h
   ·exact .inl ((h3 k).2 ⟨i,hi,h⟩)
   ·exact .inr h
  ·simp only [e,if_false] at hf
   exact .inl ((h3 k).2 ⟨j,hj,hf⟩)
theorem bundg_tells {α β:Type} {V:(Nat→Prop)→World→α→Prop} {N:(Nat→Prop)→World→β→Prop} {v':α} {s':β} {x:An} {P:Program} {fn:FuncId} {args:Array Value} (hT:∀ i,i < n→Part (T i)) (h:BundG n T G w) (hi:i < n)
  (hN:∀ G' W,BundG n (swapP T i (fun F W=>V F W v')) G' W→N G' W s') (hc:∀ F:Nat→Prop,T i F w→(∀ k,F k→G k)→Calls P fn args w fun e w'=>Tells V F w v' x e w'):Calls P fn args w fun e w'=>Tells N G w s' x e w':=by
 obtain ⟨F,h1,h2,h3⟩:=h
 refine (hc (F i) (h1 i hi) (fun k hf=>(h3 k).2 ⟨i,hi,hf⟩)).mono ?_
 rintro e w' ⟨ao,cap,C,he,hC1,hC2,F',r1,r2,r3,r4⟩
 obtain ⟨G',s1,s2,s3,s4⟩:=bundg_turn (U:=fun F W=>V F W v') hT h1 h2 h3 hi (fun k hk=>(hC2 k hk).1) r1 r2 r3 r4
 exact ⟨ao,cap,C,he,hC1,hC2,G',hN G' w' s1,s2,s3,s4⟩
theorem BundG.more (hT:∀ i,i < n→Part (T i)) (h:BundG n T G w) (hb:Below w.heap.size w w') {H:Nat→Prop} (hu:U H w') (hH:∀ k,H k→w.heap.size≤k):BundG (n+1) (swapP T n U) (fun k=>G k∨H k) w':=by
 obtain ⟨F,h1,h2,h3⟩:=h
 have hold:∀ j,j < n→T j (F j) w':=fun j hj=>(hT j hj).keep (h1 j hj) (Kept.ofBelow hb (fun _=>True)) (fun _ _=>trivial)
 refine ⟨fun j=>if j=n then H else F j,fun j hj=>?_,fun j l hj hl hne k hf hg=>?_,fun k=>⟨fun hk=>?_,?_⟩⟩
 ·unfold swapP
  by_cases e:j=n
  ·simp only [e,if_true]
   exact hu
  ·simp only [e,if_false]
   exact hold j (by omega)
 ·by_cases e:j=n
  ·have e2:l≠n:=fun h=>hne (e.trans h.symm)
   simp only [e,if_true] at hf
   simp only [e2,if_false] at hg
   have:=(hT l (by omega)).lt (h1 l (by omega)) k hg
   have:=hH k hf
   omega
  ·simp only [e,if_false] at hf
   by_cases e2:l=n
   ·simp only [e2,if_true] at hg
    have:=(hT j (by omega)).lt (h1 j (by omega)) k hf
    have:=hH k hg
    omega
   ·simp only [e2,if_false] at hg
    exact h2 j l (by omega) (by omega) hne k hf hg
 ·rcases hk with hk | hk
  ·obtain ⟨j,hj,hf⟩:=(h3 k).1 hk
   exact ⟨j,by omega,by show (if j=n then H else F j) k;rw [if_neg (by omega)];exact hf⟩
  ·exact ⟨n,by omega,by show (if n=n then H else F n) k;rw [if_pos rfl];exact hk⟩
 ·rintro ⟨j,hj,hf⟩
  by_cases e:j=n
  ·rw [if_pos e] at hf
   exact .inr hf
  ·rw [if_neg e] at hf
   exact .inl ((h3 k).2 ⟨j,by omega,hf⟩)
end
theorem may_good {y:Ly} {e:Int} {Q:List (List Int)} (h:y.may e Q=true):goodB e Q=true:=by
 unfold Ly.may nextB at h
 simp only [Bool.and_eq_true] at h
 exact h.1.2.1
end Go.Proofs.YtkefpbcifcjibaaGreat
namespace Go.Proofs.YtkefpbcifcjibaaGreat
open Go.RowKit Go.Maps
theorem flat_small {L:List (List Int)} (hl:L.length≤255∧∀ c ∈ L,c.length≤255):L.flatten.length≤70000:=by
 have h4:=flat_le L 255 hl.2
 have h5:255 * L.length≤255 * 255:=Nat.mul_le_mul_left _ hl.1
 omega
theorem Ms.le {L:List (List Int)} {D:DataW Unit} (h:Ms L D L.flatten):Maps.size D≤L.flatten.length:=by
 rw [h.size]
 have h3:=(z1r [] L.flatten List.Pairwise.nil).1
 simpa using h3
theorem punitsO_any (ep:Int) (ao:Option Addr) (cap:Nat) (L:List (List Int)) (w:World) (h:CL w ao L) (hl:L.length≤255∧∀ c ∈ L,c.length≤255) :
  Calls Tryz.prog 52 #[.agg #[.int .i64 ep,.slice ao L.length cap]] w fun e w'=>∃ v,e=.returned v∧OI w' w.heap.size v (unitsR L)∧Below w.heap.size w w':=by
 have HB0:=Lh ((Below.refl w.heap.size w).alloc (Nat.le_refl _) (.cells #[.int .i64 ep,.slice ao L.length cap] 24))
 have HC:=Lh (h.below HB0.out)
 have HM:=Lh hl
 have CM:=Lh (met_any ep ao cap L _ HC.out HM.out)
 have HSM:=Lh (flat_small hl)
 have HWF:=Lh (preU_wf2 h)
 clear h hl
 go_enter Tryz.func52,Tryz.ntmps52
 go_wp2_with (first
  | (go_at_call 82;refine CM.out.mono ?_;rintro e w1 ⟨b,rfl,hb,⟨D,hD,hMs⟩,hb1⟩;obtain ⟨nn,hnn⟩:∃ nn,nn=L.flatten.length:=⟨_,rfl⟩;rw [← hnn] at hD;have HNN:=Lh hnn;have HD:=Lh hD;clear hnn;have HMS:=Lh hMs;have HB1:=Lh (HB0.out.trans (hb1.mono (by simp)));have HBL:=Lh hD.lt;clear hb hD hMs hb1)
  | (at_range;refine wpList_range_own _ rfl _ 145 rfl 155 192 unit_law Tryz.underlying145 spotR b _ _ rfl HD.out ?_;intro w2 hrg0 hg0 hs0))
 go_frame
 have HB2:=Lh (HB1.out.grown hg0 HB1.out.size (fun j hj=>by cases hj))
 have hbr:=HBL.out
 have hB1:=HB1.out.size
 clear hg0
 go_loopw [3] (fun v wr=>∃ (left:Lit→Bool) (cnt:Nat) (l:List Int),Hid (wr.ranges Tryz.prog 155 spotR b w1.heap.size nn D left cnt)∧Hid (OI wr w2.heap.size v l)∧Hid (Coll L.flatten left l)∧Hid (l.length+cnt≤nn)∧Hid (Below w.heap.size w wr)∧w2.heap.size≤wr.heap.size) (fun _ wr=>wr.rangeLeft b w1.heap.size)
 case atStart=>exact ⟨_,_,[],Lh hrg0,Lh (OI.nil _ _),Lh (Coll.start HMS.out),Lh (by rw [HNN.out];have:=HMS.out.le;exact (Nat.zero_add _).symm ▸ this),HB2,Nat.le_refl _⟩
 case round =>
  obtain ⟨left,cnt,l,HR,HO,HL,HN,HB,hsz⟩:=hrel
  clear hrg0
  go_wp2_with (at_next;refine wpList_next_ranges (α:=Int) (β:=Int × Int) _ rfl _ rfl 155 unit_law spotR (fun x=>.agg #[.int .i64 x]) (fun c=>.agg #[.int .i64 c.1,.int .i64 c.2]) (fun key kl hkey=>by obtain ⟨u,e,_⟩:=unit_inv hkey;exact ⟨u,e⟩) (fun v y hv=>by obtain ⟨i,j,e,_⟩:=spotR_inv hv;exact ⟨(i,j),e⟩) b w1.heap.size _ _ _ _ rfl HR.out ?_ ?_)
  ·intro hc0 hl0
   have HX:=Lh (sort_units HL.out.1 (HL.out.done hl0 HWF.out HO.out.2))
   have hlen:l.length≤1000000:=by have:=HN.out;have:=HSM.out;have:=HNN.out;omega
   have CS:=Lh (sort_ownO (HO.out.lower (show w.heap.size≤w2.heap.size by omega)) hlen HB.out.size)
   rw [HX.out] at CS
   go_wp2_with (go_at_call 86;refine CS.out.mono ?_;rintro e w3 ⟨rfl,hO3,hb3⟩;have HO3:=Lh hO3;have HB3:=Lh (HB.out.trans hb3);clear hO3 hb3)
   go_ret
   exact ⟨_,rfl,HO3.out,HB3.out⟩
  ·intro x ci cj kl y1 y2 w3 cnt3 hkey hlk hv hat hrg3 hlt hg3 hs3 hen
   obtain ⟨u,e,hwf⟩:=unit_inv hkey
   obtain rfl:x=u:=unit_inj x u e
   obtain rfl:kl=klU x:=Option.some.inj (hkey.symm.trans (unit_key x hwf))
   have HCO:=Lh (HL.out.step HMS.out hwf hlk hat)
   have HR3:=Lh hrg3
   have HW:=Lh hwf
   have HO3:=Lh (HO.out.kept hg3 (by
    cases e:u3.ownBlock with
    | none=>exact .inl rfl
    | some k=>exact .inr (fun e2=>by have:=(HO.out.1.lt k e).1;have:=Option.some.inj e2;omega)))
   have HB3:=Lh (HB.out.grown hg3 HB.out.size (fun j hj=>by cases hj;exact hB1))
   have hlen:l.length+1≤1000000:=by have:=HN.out;have:=HSM.out;have:=HNN.out;omega
   have HN3:=Lh (show (l ++ [x]).length+cnt3≤nn from by have:=HN.out;rw [List.length_append];simp;omega)
   have HMK:=Lh (show NLI ((w3.alloc (.cells #[.int .i64 x] 155)).alloc (.cells #[.int .i64 x] 3)) (some ⟨wr.heap.size+1,0,none⟩) 1 [x] from by
    have h1:=NLI.made (w3.alloc (.cells #[.int .i64 x] 155)) x hwf
    rw [show (w3.alloc (.cells #[.int .i64 x] 155)).heap.size=wr.heap.size+1 from by simp [hs3]] at h1
    exact h1)
   clear e hkey hlk hv hat hrg3 hg3 hwf
   go_wp2_with (refine wpList_app_ints (o:=⟨some 16,_,_,_,_,_⟩) rfl (.tmp 12) (.tmp 15) rfl (B:=w2.heap.size) (v:=u3) (D:=l) rfl ((HO3.out.alloc _).alloc _) (ao:=some ⟨_,0,none⟩) (cap:=1) (l:=[x]) (m:=1) rfl rfl HMK.out hlen (by simp;omega) ?_;intro v7 w7 hI hg _;have HO7:=Lh hI;have HR7:=Lh (((HR3.out.alloc _).alloc _).kept hg (fun e=>by have:=(HO3.out.1.lt _ e.symm).1;omega) (fun e=>by have:=(HO3.out.1.lt _ e.symm).1;omega));have HB7:=Lh (((HB3.out.alloc HB3.out.size _).alloc (by have:=HB3.out.size;simp;omega) _).grown hg (by have:=HB3.out.size;simp;omega) (fun k e=>by have:=(HO3.out.1.lt k e).1;omega));have hsz7:w2.heap.size≤w7.heap.size:=(by have:=hg.size;simp at this;omega);clear hI hg)
   go_roundw
   case rel=>exact ⟨_,cnt3,l ++ [x],HR7,HO7,HCO,HN3,HB7,hsz7⟩
   case measure=>rw [HR7.out.left_eq,HR.out.left_eq];exact hlt
theorem punits_any (ep:Int) (ao:Option Addr) (cap:Nat) (L:List (List Int)) (w:World) (h:CL w ao L) (hl:L.length≤255∧∀ c ∈ L,c.length≤255) :
  Calls Tryz.prog 52 #[.agg #[.int .i64 ep,.slice ao L.length cap]] w fun e w'=>∃ bo cb,e=.returned (.slice bo (unitsR L).length cb)∧NLI w' bo cb (unitsR L)∧Below w.heap.size w w':=by
 refine (punitsO_any ep ao cap L w h hl).mono ?_
 rintro e w' ⟨v,rfl,hO,hb⟩
 obtain ⟨bo,cb,e,hN,_⟩:=hO.form
 exact ⟨bo,cb,by rw [e],hN,hb⟩
theorem pnext_no (e1:Int) (ao1:Option Addr) (c1:Nat) (L1:List (List Int)) (e2:Int) (ao2:Option Addr) (c2:Nat) (L2:List (List Int)) (w:World) (h1:CL w ao1 L1) (h2:CL w ao2 L2)
  (l1:L1.length≤255∧∀ c ∈ L1,c.length≤255) (l2:L2.length≤255∧∀ c ∈ L2,c.length≤255) (hno:goodB e1 L1=false∨goodB e2 L2=false∨e2≠e1+1∨L2.length≠L1.length) :
  Calls Tryz.prog 56 #[.agg #[.int .i64 e1,.slice ao1 L1.length c1],.agg #[.int .i64 e2,.slice ao2 L2.length c2]] w fun e w'=>e=.returned (.bool false)∧Below w.heap.size w w':=by
 have HB0:=Lh (((Below.refl w.heap.size w).alloc (Nat.le_refl _) (.cells #[.int .i64 e1,.slice ao1 L1.length c1] 24)).alloc (by simp) (.cells #[.int .i64 e2,.slice ao2 L2.length c2] 24))
 have HP:=Lh (PB.two w e1 e2 ao1 ao2 L1.length L2.length c1 c2)
 have H1:=Lh (h1.below HB0.out)
 have H2:=Lh (h2.below HB0.out)
 have M1:=Lh l1
 have M2:=Lh l2
 have m1:(L1.length:Int)≤255:=by omega
 have m2:(L2.length:Int)≤255:=by omega
 have CG:=Lh (z0m e1 ao1 c1 L1 _ H1.out M1.out)
 clear h1 h2 l1 l2
 by_cases g1:goodB e1 L1=false
 ·rw [g1] at CG
  clear hno g1
  go_enter Tryz.func56,Tryz.ntmps56
  go_wp2_with (go_at_call 44;refine CG.out.mono ?_;rintro e w1 ⟨rfl,hb1⟩)
  go_ret
  exact ⟨rfl,HB0.out.trans (hb1.mono HB0.out.size)⟩
 have g1':goodB e1 L1=true:=by simpa using g1
 obtain ⟨⟨x1,x2⟩,_⟩:=goodB_iff.1 g1'
 rw [g1'] at CG
 have CQ:=Lh (fun (w1:World) hb=>z0m e2 ao2 c2 L2 w1 (H2.out.below hb) M2.out)
 by_cases g2:goodB e2 L2=false
 ·rw [g2] at CQ
  clear hno g1 g1' g2
  go_enter Tryz.func56,Tryz.ntmps56
  go_wp2_with (first | (go_at_call 44;with_reducible refine (CQ.out _ HBX.out).mono ?_;rintro e w2 ⟨rfl,hb2⟩) | (go_at_call 44;refine CG.out.mono ?_;rintro e w1 ⟨rfl,hb1⟩;obtain ⟨y0,y1⟩:=(HP.out.2.below hb1).cells;have HBX:=Lh hb1;clear hb1))
  go_ret
  exact ⟨rfl,(HB0.out.trans (HBX.out.mono HB0.out.size)).trans (hb2.mono (Nat.le_trans HB0.out.size HBX.out.size))⟩
 have g2':goodB e2 L2=true:=by simpa using g2
 obtain ⟨⟨z1,z2⟩,_⟩:=goodB_iff.1 g2'
 rw [g2'] at CQ
 by_cases q:e2=e1+1
 ·have d1:(e2 != e1+1)=false:=bne_eq_false_iff_eq.2 q
  have hq:L2.length≠L1.length:=by
   rcases hno with h | h | h | h
   ·exact absurd h g1
   ·exact absurd h g2
   ·exact absurd q h
   ·exact h
  have d2:((L2.length:Int) != (L1.length:Int))=true:=bne_iff_ne.2 (by omega)
  clear hno g1 g1' g2 g2' q hq
  go_enter Tryz.func56,Tryz.ntmps56
  go_wp2_with (first | (go_at_call 44;with_reducible refine (CQ.out _ HBX.out).mono ?_;rintro e w2 ⟨rfl,hb2⟩;obtain ⟨v0,v1⟩:=((HP.out.1.below HBX.out).below hb2).cells;obtain ⟨v2,v3⟩:=((HP.out.2.below HBX.out).below hb2).cells) | (go_at_call 44;refine CG.out.mono ?_;rintro e w1 ⟨rfl,hb1⟩;obtain ⟨y0,y1⟩:=(HP.out.2.below hb1).cells;have HBX:=Lh hb1;clear hb1))
  go_ret
  exact ⟨rfl,(HB0.out.trans (HBX.out.mono HB0.out.size)).trans (hb2.mono (Nat.le_trans HB0.out.size HBX.out.size))⟩
 ·have d1:(e2 != e1+1)=true:=bne_iff_ne.2 q
  clear hno g1 g1' g2 g2' q
  go_enter Tryz.func56,Tryz.ntmps56
  go_wp2_with (first | (go_at_call 44;with_reducible refine (CQ.out _ HBX.out).mono ?_;rintro e w2 ⟨rfl,hb2⟩;obtain ⟨v0,v1⟩:=((HP.out.1.below HBX.out).below hb2).cells;obtain ⟨v2,v3⟩:=((HP.out.2.below HBX.out).below hb2).cells) | (go_at_call 44;refine CG.out.mono ?_;rintro e w1 ⟨rfl,hb1⟩;obtain ⟨y0,y1⟩:=(HP.out.2.below hb1).cells;have HBX:=Lh hb1;clear hb1))
  go_ret
  exact ⟨rfl,(HB0.out.trans (HBX.out.mono HB0.out.size)).trans (hb2.mono (Nat.le_trans HB0.out.size HBX.out.size))⟩
theorem good_rows {ep:Int} {L:List (List Int)} (h:goodB ep L=true) {n:Nat} (hn:n < L.length):∀ i j (hi:i < L[n].length) (hj:j < L[n].length),L[n][i]=L[n][j]→i=j :=
 fun _ _ hi hj e=>row_one (goodB_iff.1 h).2.2.2 hn hi hj e
theorem pnext_yes (e1:Int) (ao1:Option Addr) (c1:Nat) (L1:List (List Int)) (e2:Int) (ao2:Option Addr) (c2:Nat) (L2:List (List Int)) (w:World) (h1:CL w ao1 L1) (h2:CL w ao2 L2)
  (l1:L1.length≤255∧∀ c ∈ L1,c.length≤255) (l2:L2.length≤255∧∀ c ∈ L2,c.length≤255) (g1:goodB e1 L1=true) (g2:goodB e2 L2=true) (q:e2=e1+1) (hq:L2.length=L1.length) :
  Calls Tryz.prog 56 #[.agg #[.int .i64 e1,.slice ao1 L1.length c1],.agg #[.int .i64 e2,.slice ao2 L2.length c2]] w fun e w'=>e=.returned (.bool ((L1.zip L2).all (fun c=>seqB (unitsR L1) c.1 c.2 c.1 false)))∧Below w.heap.size w w':=by
 have HB0:=Lh (((Below.refl w.heap.size w).alloc (Nat.le_refl _) (.cells #[.int .i64 e1,.slice ao1 L1.length c1] 24)).alloc (by simp) (.cells #[.int .i64 e2,.slice ao2 L2.length c2] 24))
 have HP:=Lh (PB.two w e1 e2 ao1 ao2 L1.length L2.length c1 c2)
 have H1:=Lh (h1.below HB0.out)
 have H2:=Lh (h2.below HB0.out)
 have M1:=Lh l1
 have M2:=Lh l2
 have m1:(L1.length:Int)≤255:=by omega
 have m2:(L2.length:Int)≤255:=by omega
 have CG:=Lh (z0m e1 ao1 c1 L1 _ H1.out M1.out)
 have CQ:=Lh (fun (w1:World) hb=>z0m e2 ao2 c2 L2 w1 (H2.out.below hb) M2.out)
 have CM:=Lh (fun (w1:World) hb=>met_any e1 ao1 c1 L1 w1 (H1.out.below hb) M1.out)
 have HG1:=Lh (goodB_iff.1 g1).2.2.2
 have HG2:=Lh (fun n h=>@good_rows e2 L2 g2 n h)
 obtain ⟨⟨x1,x2⟩,_⟩:=goodB_iff.1 g1
 rw [g1] at CG
 rw [g2] at CQ
 have d1:(e2 != e1+1)=false:=bne_eq_false_iff_eq.2 q
 have d2:((L2.length:Int) != (L1.length:Int))=false:=bne_eq_false_iff_eq.2 (by omega)
 have HQ:=Lh hq
 have HNO:=Lh (fun k h1 h2=>@zip_no L1 L2 (fun c=>seqB (unitsR L1) c.1 c.2 c.1 false) k h1 h2)
 have HYES:=Lh (@zip_yes L1 L2 (fun c=>seqB (unitsR L1) c.1 c.2 c.1 false))
 have CF:=Lh (fun (k:Nat) (hk1:k < L1.length) (hk:k < L2.length) (ai:Option Addr) (ci b:Nat) (w1:World) (hN:NLI w1 ai ci L2[k]) (hM:Mt w1 b L1 L1.flatten)=>follows_any L2[k] ai ci k b L1 w1 hk1 hN hM HG1.out (HG2.out k hk) (M2.out.2 _ (List.getElem_mem hk)))
 clear h1 h2 l1 l2 g1 g2 q hq
 dsimp only at HNO HYES ⊢
 generalize (L1.zip L2).all (fun c=>seqB (unitsR L1) c.1 c.2 c.1 false)=R at *
 generalize unitsR L1=U at *
 go_enter Tryz.func56,Tryz.ntmps56
 go_wp2_with (first
  | (go_at_call 44;with_reducible refine (CQ.out _ HBX.out).mono ?_;rintro e w2 ⟨rfl,hb2⟩;have HBY:=Lh (HBX.out.trans (hb2.mono HBX.out.size));obtain ⟨v0,v1⟩:=(HP.out.1.below HBY.out).cells;obtain ⟨v2,v3⟩:=(HP.out.2.below HBY.out).cells;clear hb2)
  | (go_at_call 44;refine CG.out.mono ?_;rintro e w1 ⟨rfl,hb1⟩;obtain ⟨y0,y1⟩:=(HP.out.2.below hb1).cells;have HBX:=Lh hb1;clear hb1)
  | (go_at_call 82;refine (CM.out _ HBY.out).mono ?_;rintro e w3 ⟨b,rfl,hb,hM,hb3⟩;have HBZ:=Lh (HBY.out.trans (hb3.mono HBY.out.size));have HM:=Lh hM;obtain ⟨t2,t3⟩:=(HP.out.2.below HBZ.out).cells;clear v0 v1 v2 v3 hb hM hb3))
 have HW:=Lh (HB0.out.trans (HBZ.out.mono HB0.out.size))
 have C2:=Lh (H2.out.below HBZ.out)
 clear y0 y1 CG CQ CM H1 H2 HBX HBY
 go_loopw [38] (fun i wr=>∃ k:Nat,i=.int .i64 k∧k≤L2.length∧Hid (Below w3.heap.size w3 wr)∧Hid (∀ i,i < k→∀ (h1:i < L1.length) (h2:i < L2.length),seqB U L1[i] L2[i] L1[i] false=true)) (fun i _=>L2.length - (intOf i).toNat)
 case atStart=>exact ⟨0,rfl,Nat.zero_le _,Lh (Below.refl _ _),Lh (fun i hi=>absurd hi (Nat.not_lt_zero i))⟩
 case round =>
  obtain ⟨k,rfl,hk,HB,HA⟩:=hrel
  have HWR:=Lh (HW.out.trans (HB.out.mono HW.out.size))
  by_cases hlt:k < L2.length
  ·have hlt1:k < L1.length:=by have:=HQ.out;omega
   obtain ⟨bk2,off2,bi,di,hao2,c02,hN2⟩:=(C2.out.below HB.out) k hlt
   subst hao2
   have k1:(k:Int) < (L2.length:Int):=by omega
   have HNK:=Lh (HNO.out k hlt1 hlt)
   have HAK:=Lh (show seqB U L1[k] L2[k] L1[k] false=true→∀ i,i < k+1→∀ (h1:i < L1.length) (h2:i < L2.length),seqB U L1[i] L2[i] L1[i] false=true from fun e i hi h1 h2=>by
    by_cases e2:i=k
    ·subst e2;exact e
    ·exact HA.out i (by omega) h1 h2)
   have CK:=Lh (CF.out k hlt1 hlt bi di b wr hN2 (HM.out.below HB.out))
   clear hN2 d1 d2
   generalize seqB U L1[k] L2[k] L1[k] false=Ri at *
   cases Ri with
   | true =>
    have HAK2:=Lh (HAK.out rfl)
    go_wp2_with (go_at_call 89;refine CK.out.mono ?_;rintro e w4 ⟨rfl,hb4⟩;have HB4:=Lh (HB.out.trans (hb4.mono HB.out.size));clear hb4)
    go_roundw
    case rel=>exact ⟨k+1,by go_num,by omega,HB4,HAK2⟩
    case measure=>simp [intOf];omega
   | false =>
    have HX:=Lh (HNK.out rfl)
    go_wp2_with (go_at_call 89;refine CK.out.mono ?_;rintro e w4 ⟨rfl,hb4⟩;have HB4:=Lh (HWR.out.trans (hb4.mono HWR.out.size));clear hb4)
    go_ret
    rw [HX.out]
    exact ⟨rfl,HB4.out⟩
  ·obtain rfl:k=L2.length:=by omega
   have HX:=Lh (HYES.out (fun i hi h1 h2=>HA.out i h2 h1 h2))
   go_wp2_with fail
   go_ret
   rw [HX.out]
   exact ⟨rfl,HWR.out⟩
theorem pnext_any (e1:Int) (ao1:Option Addr) (c1:Nat) (L1:List (List Int)) (e2:Int) (ao2:Option Addr) (c2:Nat) (L2:List (List Int)) (w:World) (h1:CL w ao1 L1) (h2:CL w ao2 L2)
  (l1:L1.length≤255∧∀ c ∈ L1,c.length≤255) (l2:L2.length≤255∧∀ c ∈ L2,c.length≤255) :
  Calls Tryz.prog 56 #[.agg #[.int .i64 e1,.slice ao1 L1.length c1],.agg #[.int .i64 e2,.slice ao2 L2.length c2]] w fun e w'=>e=.returned (.bool (nextB e1 L1 e2 L2))∧Below w.heap.size w w':=by
 by_cases hno:goodB e1 L1=false∨goodB e2 L2=false∨e2≠e1+1∨L2.length≠L1.length
 ·rw [show nextB e1 L1 e2 L2=false from by
   unfold nextB
   rcases hno with h | h | h | h
   ·rw [h];rfl
   ·rw [h];simp
   ·simp [h]
   ·simp [h]]
  exact pnext_no e1 ao1 c1 L1 e2 ao2 c2 L2 w h1 h2 l1 l2 hno
 ·have g1:goodB e1 L1=true:=by
   cases e:goodB e1 L1
   ·exact absurd (.inl e) hno
   ·rfl
  have g2:goodB e2 L2=true:=by
   cases e:goodB e2 L2
   ·exact absurd (.inr (.inl e)) hno
   ·rfl
  have q:e2=e1+1:=by
   by_cases e:e2=e1+1
   ·exact e
   ·exact absurd (.inr (.inr (.inl e))) hno
  have hq:L2.length=L1.length:=by
   by_cases e:L2.length=L1.length
   ·exact e
   ·exact absurd (.inr (.inr (.inr e))) hno
  rw [show nextB e1 L1 e2 L2=(L1.zip L2).all (fun c=>seqB (unitsR L1) c.1 c.2 c.1 false) from by
   unfold nextB
   rw [g1,g2]
   simp [q,hq]]
  exact pnext_yes e1 ao1 c1 L1 e2 ao2 c2 L2 w h1 h2 l1 l2 g1 g2 q hq
theorem lunit_row:(231:TypeId) < Tryz.prog.types.size:=of_decide_eq_true (by kernel_rfl)
theorem lunit_law:Keyed Tryz.prog 231:=Keyed.of_law (deep_law_laid z1q (m:=2) (by omega) lunit_row (by kernel_rfl) (by rw [Tryz.underlying231]))
theorem lunit_key (u:Int) (hu:(Lit.int .i64 u).wf=true):keyOf Tryz.prog 231 (.agg #[.int .i64 u])=some (klU u):=by
 obtain ⟨n,hn⟩:=types_succ
 exact key_one Tryz.underlying231 (by kernel_rfl) (by rfl) rfl (by kernel_rfl) Tryz.underlying3 (by kernel_rfl) hn hu
theorem zero_none (w:World):(zeroValue 193).run Tryz.prog w=.ok (.agg #[]) w:=by kernel_rfl
def Usd (w:World) (b:Nat) (S:List Int):Prop:=w.ownsMap Tryz.prog 231 (unitElem (H:=Unit)) b S.length (setD klU S)∧wfL S
theorem Usd.made (w:World):Usd (w.alloc (.map #[] 0)) w.heap.size []:=⟨World.ownsMap_made _ _ _ _,wfL.nil⟩
theorem Usd.keep {w w':World} {b:Nat} {S:List Int} (h:Usd w b S) (e:w'.heap[b]?=w.heap[b]?):Usd w' b S:=by
 obtain ⟨⟨es,clock,h1,h2⟩,h3⟩:=h
 exact ⟨⟨es,clock,e.trans h1,h2⟩,h3⟩
theorem Usd.lt {w:World} {b:Nat} {S:List Int} (h:Usd w b S):b < w.heap.size:=h.1.lt
theorem Usd.below {w w':World} {b:Nat} {S:List Int} (h:Usd w b S) (hb:Below w.heap.size w w'):Usd w' b S:=h.keep (hb.block b h.lt)
theorem Usd.has {w:World} {b:Nat} {S:List Int} (h:Usd w b S) {u:Int} (hu:(Lit.int .i64 u).wf=true):Maps.has (setD klU S) (klU u)=decide (u ∈ S):=setD_has lunit_law lunit_key unit_inj h.2 hu
def LB (b:Nat) (G:Nat→Prop) (w:World) (y:Ly):Prop :=
 ∃ (v:Value) (mb:Nat) (F:Nat→Prop),w.heap[b]?=some (.cells #[.int .i64 y.ep,v,.map (some mb),.int .i64 y.mark,.int .i64 y.size,.int .i64 y.n] 129 (0,0))∧CG F w v y.L∧Usd w mb y.used∧b≠mb∧G b∧G mb∧(∀ k,F k→G k∧k≠b∧k≠mb)∧∀ k,G k→k < w.heap.size
def LM (b:Nat) (G:Nat→Prop) (w:World) (y:Ly):Prop:=goodB y.ep y.L=true∧LB b G w y
theorem z0l (b:Nat):Thing (LB b) where
 lt:=by
  rintro G w y ⟨v,mb,F,_,_,_,_,_,_,_,h⟩ k hk
  exact h k hk
 keep:=by
  rintro G S w w' y ⟨v,mb,F,h1,h2,h3,h4,h5,h6,h7,h8⟩ hk hS
  exact ⟨v,mb,F,hk.heap (hS b h5) h1,h2.keep hk (fun k hf=>hS k (h7 k hf).1),h3.keep (hk.block mb (hS mb h6) (h8 mb h6)),h4,h5,h6,h7,fun k hg=>Nat.lt_of_lt_of_le (h8 k hg) hk.size⟩
theorem lm_thing (b:Nat):Thing (LM b) where
 lt:=by
  rintro G w y ⟨_,h⟩ k hk
  exact (z0l b).lt h k hk
 keep:=by
  rintro G S w w' y ⟨h0,h⟩ hk hS
  exact ⟨h0,(z0l b).keep h hk hS⟩
section
variable {w W W2:World} {b:Nat} {G H:Nat→Prop} {y:Ly}
theorem LB.open (h:LB b G w y):∃ ao cap mb,w.heap[b]?=some (.cells #[.int .i64 y.ep,.slice ao y.L.length cap,.map (some mb),.int .i64 y.mark,.int .i64 y.size,.int .i64 y.n] 129 (0,0))∧CL w ao y.L∧Usd w mb y.used∧b≠mb∧G b∧G mb:=by
 obtain ⟨v,mb,F,h1,h2,h3,h4,h5,h6,h7,h8⟩:=h
 obtain ⟨ao,cap,rfl,h9,_⟩:=h2.cl
 exact ⟨ao,cap,mb,h1,h9,h3,h4,h5,h6⟩
theorem LB.small (h:LB b G w y):b < w.heap.size:=by
 obtain ⟨_,_,_,h1,_⟩:=h.open
 exact lt_of_block h1
theorem LB.below (h:LB b G w y) {w':World} (hb:Below w.heap.size w w'):LB b G w' y:=(z0l b).keep h (Kept.ofBelow hb (fun _=>True)) (fun _ _=>trivial)
theorem LB.chains (h:LB b H W y) (hb:Below W.heap.size W W2) {e:Int} {v:Value} {L:List (List Int)} (hO:OC W2 W.heap.size v L) :
  Leaves (LB b) H W ((W2.setCell ⟨b,0,none⟩ (.int .i64 e)).setCell ⟨b,1,none⟩ v) ⟨e,L,y.used,y.mark,y.size,y.n⟩:=by
 obtain ⟨v0,mb,F,h1,h2,h3,h4,h5,h6,h7,h8⟩:=h
 have hr:=lt_of_block h1
 have hm:=h3.lt
 have hk:Kept (fun k=>k≠b) W2 ((W2.setCell ⟨b,0,none⟩ (.int .i64 e)).setCell ⟨b,1,none⟩ v):=((Kept.refl _ W2).setCell (p:=⟨b,0,none⟩) (fun h=>h rfl) _).setCell (p:=⟨b,1,none⟩) (fun h=>h rfl) _
 have e1:=z01 hb h1
 have e2:=heap_setCell_same W2 b 0 _ _ (.int .i64 e) e1
 have e3:=heap_setCell_same _ b 1 _ _ v e2
 have hs:((W2.setCell ⟨b,0,none⟩ (.int .i64 e)).setCell ⟨b,1,none⟩ v).heap.size=W2.heap.size:=by simp [World.setCell]
 refine ⟨fun k=>H k∨(W.heap.size≤k∧k < W2.heap.size),⟨v,mb,fun k=>W.heap.size≤k∧k < W2.heap.size,e3,?_,(h3.below hb).keep (hk.block mb (fun e=>h4 e.symm) (Nat.lt_of_lt_of_le hm hb.size)),h4,.inl h5,.inl h6,fun k hk2=>⟨.inr hk2,by omega,by omega⟩,fun k hk2=>?_⟩,(Kept.ofBelow hb _).trans (hk.mono (fun k hn e=>hn (e ▸ h5))),fun k hk2=>hk2.imp id (fun h=>h.1)⟩
 ·exact (CG.of hO).keep hk (fun k hk=>by omega)
 ·rw [hs]
  rcases hk2 with hk2 | hk2
  ·exact Nat.lt_of_lt_of_le (h8 k hk2) hb.size
  ·exact hk2.2
theorem LB.put (h:LB b H W y) {mb:Nat} {u:Int} {n:Nat} (hc:W.cell? ⟨b,2,none⟩=some (.map (some mb))) (hu:(Lit.int .i64 u).wf=true) (hn:n=y.used.length+1) (ho:W2.ownsMap Tryz.prog 231 (unitElem (H:=Unit)) mb n ((setD klU y.used).put (klU u) (.agg []))) (hg:W.grownBy W2 (some mb)) :
  LB b H W2 ⟨y.ep,y.L,y.used ++ [u],y.mark,y.size,y.n⟩:=by
 obtain ⟨v0,mb',F,h1,h2,h3,h4,h5,h6,h7,h8⟩:=h
 have e:mb'=mb:=by
  have h9:W.cell? ⟨b,2,none⟩=some (.map (some mb')):=z02 h1 2
  rw [hc] at h9
  injection h9 with h9
  injection h9 with h9
  exact (Option.some.inj h9).symm
 subst e
 have hk:Kept (fun k=>k≠mb') W W2:=(Kept.refl _ W).grown hg (fun k e hk=>hk (Option.some.inj e).symm)
 refine ⟨v0,mb',F,hk.heap h4 h1,h2.keep hk (fun k hf=>(h7 k hf).2.2),⟨?_,h3.2.append (wfL.one hu)⟩,h4,h5,h6,h7,fun k hk2=>Nat.lt_of_lt_of_le (h8 k hk2) hk.size⟩
 show W2.ownsMap _ _ _ mb' (y.used ++ [u]).length (setD klU (y.used ++ [u]))
 rw [setD_snoc,show (y.used ++ [u]).length=n from by rw [hn,List.length_append];rfl]
 exact ho
theorem LB.mark (h:LB b H W y) (m z n:Int):Leaves (LB b) H W (((W.setCell ⟨b,3,none⟩ (.int .i64 m)).setCell ⟨b,4,none⟩ (.int .i64 z)).setCell ⟨b,5,none⟩ (.int .i64 n)) ⟨y.ep,y.L,y.used,m,z,n⟩:=by
 obtain ⟨v0,mb,F,h1,h2,h3,h4,h5,h6,h7,h8⟩:=h
 have hk:Kept (fun k=>k≠b) W (((W.setCell ⟨b,3,none⟩ (.int .i64 m)).setCell ⟨b,4,none⟩ (.int .i64 z)).setCell ⟨b,5,none⟩ (.int .i64 n)):=(((Kept.refl _ W).setCell (p:=⟨b,3,none⟩) (fun h=>h rfl) _).setCell (p:=⟨b,4,none⟩) (fun h=>h rfl) _).setCell (p:=⟨b,5,none⟩) (fun h=>h rfl) _
 have e1:=heap_setCell_same _ b 5 _ _ (.int .i64 n) (heap_setCell_same _ b 4 _ _ (.int .i64 z) (heap_setCell_same W b 3 _ _ (.int .i64 m) h1))
 exact ⟨H,⟨v0,mb,F,e1,h2.keep hk (fun k hf=>(h7 k hf).2.1),h3.keep (hk.block mb (fun e=>h4 e.symm) h3.lt),h4,h5,h6,h7,fun k hk2=>by simpa [World.setCell] using h8 k hk2⟩,hk.mono (fun k hn e=>hn (e ▸ h5)),fun k hk2=>.inl hk2⟩
end
section
variable {α:Type} {T:(Nat→Prop)→World→α→Prop} {G:Nat→Prop} {w W W2:World} {a a':α}
theorem Leaves.to {β:Type} {U:(Nat→Prop)→World→β→Prop} {b:β} (h:Leaves T G w W a) (hs:∀ H,T H W a→U H W b):Leaves U G w W b:=by
 obtain ⟨H,h1,h2,h3⟩:=h
 exact ⟨H,hs H h1,h2,h3⟩
end
end Go.Proofs.YtkefpbcifcjibaaGreat
