/- Joined texts. -/
import Derived.Laws.ResultCell
import Derived.Laws.Rows
import Derived.Test.YtkefpbcifcjibaaGreatG06a
import Derived.Test.YtkefpbcifcjibaaGreatG02a
import Derived.Test.YtkefpbcifcjibaaGreatG01a
import Derived.Test.YtkefpbcifcjibaaGreatG02b
import Derived.Maps.AppendAt
import Derived.Laws.OwnMore
import Derived.OwnWalk
import Derived.Test.YtkefpbcifcjibaaGreatG04a
import Derived.Test.YtkefpbcifcjibaaGreatH00
set_option linter.unusedVariables false
set_option maxRecDepth 20000
set_option maxHeartbeats 16000000
namespace Go.Proofs.YtkefpbcifcjibaaGreat
open Go.RowKit
theorem z0k {fn:Func} {p:Tmp} (h:fn.results=#[.cell p 49]) {a:Act} {w:World} {g:Nat} {x:An} {ao:Option Addr} {cap:Nat} {R:Ending→World→Prop}
  (hg:w.heap[g]?=some (.cells (ansC x ao cap).toArray 49 (0,0))) (hp:a.tmps.getD p undef=.pointer (some ⟨g,0,none⟩)) (hd:a.defers=[])
  (hR:R (.returned (ansV x ao cap)) w):bodyPost Tryz.prog fn R .ret a w :=
 bodyPost_ret (results_cell_row h a.tmps w g 49 (ansC x ao cap).toArray (0,0) _ hp hg Tryz.underlying49 rfl (by kernel_rfl)) hd hR
theorem z03 {w:World} {b:Nat} {v0 v1 v2 v3 v4 v5 v6 v7:Value} {t:TypeId} (h:w.heap[b]?=some (.cells #[v0,v1,v2,v3,v4,v5,v6,v7] t (0,0))) :
  (w.cell? ⟨b,0,none⟩=some v0∧w.cell? ⟨b,1,none⟩=some v1∧w.cell? ⟨b,2,none⟩=some v2∧w.cell? ⟨b,3,none⟩=some v3∧w.cell? ⟨b,4,none⟩=some v4∧w.cell? ⟨b,5,none⟩=some v5∧w.cell? ⟨b,6,none⟩=some v6∧w.cell? ⟨b,7,none⟩=some v7)∧
  w.frozen? ⟨b,0,none⟩=false∧w.frozen? ⟨b,1,none⟩=false∧w.frozen? ⟨b,2,none⟩=false∧w.frozen? ⟨b,3,none⟩=false∧w.frozen? ⟨b,4,none⟩=false∧w.frozen? ⟨b,5,none⟩=false∧w.frozen? ⟨b,6,none⟩=false∧w.frozen? ⟨b,7,none⟩=false :=
 ⟨⟨z02 h 0,z02 h 1,z02 h 2,z02 h 3,z02 h 4,z02 h 5,z02 h 6,z02 h 7⟩,z0a h 0,z0a h 1,z0a h 2,z0a h 3,z0a h 4,z0a h 5,z0a h 6,z0a h 7⟩
theorem z24 {w:World} {b:Nat} {x0 x1 x2 x3 x4 x5 x6 x7:Value} {t:TypeId} (h:w.heap[b]?=some (.cells #[x0,x1,x2,x3,x4,x5,x6,x7] t (0,0))) (u:Value):(w.setCell ⟨b,0,none⟩ u).heap[b]?=some (.cells #[u,x1,x2,x3,x4,x5,x6,x7] t (0,0)) :=
 heap_setCell_same w b 0 #[x0,x1,x2,x3,x4,x5,x6,x7] t u h
theorem z23 {w:World} {b:Nat} {x0 x1 x2 x3 x4 x5 x6 x7:Value} {t:TypeId} (h:w.heap[b]?=some (.cells #[x0,x1,x2,x3,x4,x5,x6,x7] t (0,0))) (u:Value):(w.setCell ⟨b,1,none⟩ u).heap[b]?=some (.cells #[x0,u,x2,x3,x4,x5,x6,x7] t (0,0)) :=
 heap_setCell_same w b 1 #[x0,x1,x2,x3,x4,x5,x6,x7] t u h
theorem z1u {w:World} {b:Nat} {x0 x1 x2 x3 x4 x5 x6 x7:Value} {t:TypeId} (h:w.heap[b]?=some (.cells #[x0,x1,x2,x3,x4,x5,x6,x7] t (0,0))) (u:Value):(w.setCell ⟨b,2,none⟩ u).heap[b]?=some (.cells #[x0,x1,u,x3,x4,x5,x6,x7] t (0,0)) :=
 heap_setCell_same w b 2 #[x0,x1,x2,x3,x4,x5,x6,x7] t u h
theorem z1t {w:World} {b:Nat} {x0 x1 x2 x3 x4 x5 x6 x7:Value} {t:TypeId} (h:w.heap[b]?=some (.cells #[x0,x1,x2,x3,x4,x5,x6,x7] t (0,0))) (u:Value):(w.setCell ⟨b,3,none⟩ u).heap[b]?=some (.cells #[x0,x1,x2,u,x4,x5,x6,x7] t (0,0)) :=
 heap_setCell_same w b 3 #[x0,x1,x2,x3,x4,x5,x6,x7] t u h
theorem z0x {w:World} {b:Nat} {x0 x1 x2 x3 x4 x5 x6 x7:Value} {t:TypeId} (h:w.heap[b]?=some (.cells #[x0,x1,x2,x3,x4,x5,x6,x7] t (0,0))) (u:Value):(w.setCell ⟨b,4,none⟩ u).heap[b]?=some (.cells #[x0,x1,x2,x3,u,x5,x6,x7] t (0,0)) :=
 heap_setCell_same w b 4 #[x0,x1,x2,x3,x4,x5,x6,x7] t u h
theorem z1a {w:World} {b:Nat} {x0 x1 x2 x3 x4 x5 x6 x7:Value} {t:TypeId} (h:w.heap[b]?=some (.cells #[x0,x1,x2,x3,x4,x5,x6,x7] t (0,0))) (u:Value):(w.setCell ⟨b,5,none⟩ u).heap[b]?=some (.cells #[x0,x1,x2,x3,x4,u,x6,x7] t (0,0)) :=
 heap_setCell_same w b 5 #[x0,x1,x2,x3,x4,x5,x6,x7] t u h
theorem z19 {w:World} {b:Nat} {x0 x1 x2 x3 x4 x5 x6 x7:Value} {t:TypeId} (h:w.heap[b]?=some (.cells #[x0,x1,x2,x3,x4,x5,x6,x7] t (0,0))) (u:Value):(w.setCell ⟨b,6,none⟩ u).heap[b]?=some (.cells #[x0,x1,x2,x3,x4,x5,u,x7] t (0,0)) :=
 heap_setCell_same w b 6 #[x0,x1,x2,x3,x4,x5,x6,x7] t u h
theorem z22 {w:World} {b:Nat} {x0 x1 x2 x3 x4 x5 x6 x7:Value} {t:TypeId} (h:w.heap[b]?=some (.cells #[x0,x1,x2,x3,x4,x5,x6,x7] t (0,0))) (u:Value):(w.setCell ⟨b,7,none⟩ u).heap[b]?=some (.cells #[x0,x1,x2,x3,x4,x5,x6,u] t (0,0)) :=
 heap_setCell_same w b 7 #[x0,x1,x2,x3,x4,x5,x6,x7] t u h
theorem z1c {S:Nat→Prop} {w W:World} (h:Kept S w W) {b o:Nat} (hb:w.heap.size≤b) (v:Value):Kept S w (W.setCell ⟨b,o,none⟩ v):=by
 have h1:Kept (fun k=>S k∧k < w.heap.size) w (W.setCell ⟨b,o,none⟩ v):=(h.mono (fun k hk=>hk.1)).setCell (p:=⟨b,o,none⟩) (fun hk=>by have:=hk.2;simp at this;omega) v
 exact ⟨h1.os,h1.tape,h1.output,h1.size,fun k hk hl=>h1.block k ⟨hk,hl⟩ hl⟩
def largeB (L:List (List Int)):Bool:=decide (50 < L.length) || L.any (fun c=>decide (50 < c.length))
theorem largeB_no {L:List (List Int)} (h:largeB L=false):L.length≤50∧∀ c ∈ L,c.length≤50:=by
 simp only [largeB,Bool.or_eq_false_iff,decide_eq_false_iff_not,List.any_eq_false,decide_eq_true_eq] at h
 exact ⟨by omega,fun c hc=>by have:=h.2 c hc;omega⟩
theorem largeB_many {L:List (List Int)} (h:50 < L.length):largeB L=true:=by simp [largeB,h]
theorem largeB_one {L:List (List Int)} {k:Nat} (hk:k < L.length) (h:50 < L[k].length):largeB L=true:=by
 simp only [largeB,Bool.or_eq_true,List.any_eq_true,decide_eq_true_eq]
 exact .inr ⟨L[k],List.getElem_mem hk,h⟩
theorem largeB_none {L:List (List Int)} (h:L.length≤50) (h2:∀ c ∈ L,c.length≤50):largeB L=false:=by
 simp only [largeB,Bool.or_eq_false_iff,decide_eq_false_iff_not,List.any_eq_false,decide_eq_true_eq]
 exact ⟨by omega,fun c hc=>by have:=h2 c hc;omega⟩
theorem all_take_succ {α:Type} {p:α→Prop} {L:List α} {k:Nat} (hk:k < L.length) (h:∀ c ∈ L.take k,p c) (e:p L[k]):∀ c ∈ L.take (k+1),p c:=by
 intro c hc
 rw [List.take_succ_eq_append_getElem hk,List.mem_append,List.mem_singleton] at hc
 rcases hc with hc | rfl
 ·exact h c hc
 ·exact e
theorem large_any (ep:Int) (ao:Option Addr) (cap:Nat) (L:List (List Int)) (w:World) (h:CL w ao L) (hl:L.length≤maxLen) (hm:∀ c ∈ L,c.length≤maxLen) :
  Calls Tryz.prog 8 #[.agg #[.int .i64 ep,.slice ao L.length cap]] w fun e w'=>e=.returned (.bool (largeB L))∧Below w.heap.size w w':=by
 have HB:=Lh ((Below.refl w.heap.size w).alloc (Nat.le_refl _) (.cells #[.int .i64 ep,.slice ao L.length cap] 24))
 have HC:=Lh (h.below HB.out)
 have HM:=Lh hm
 have HY:=Lh (fun k hk=>@largeB_one L k hk)
 have HN:=Lh (fun e=>@largeB_none L e)
 have HT:=Lh (@largeB_many L)
 unfold maxLen at hl
 have hl':(L.length:Int)≤9223372036854775807:=by omega
 generalize largeB L=R at *
 clear h hm
 by_cases h50:50 < L.length
 ·obtain rfl:=HT.out h50
  have h5:(50:Int) < (L.length:Int):=by omega
  go_enter Tryz.func8,Tryz.ntmps8
  go_wp2_with fail
  go_ret
  exact ⟨rfl,HB.out⟩
 ·have h5:(L.length:Int)≤50:=by omega
  go_enter Tryz.func8,Tryz.ntmps8
  go_wp2_with fail
  go_loop [3] (fun i=>∃ k:Nat,i=.int .i64 k∧k≤L.length∧Hid (∀ c ∈ L.take k,c.length≤50)) (fun i=>L.length - (intOf i).toNat)
  case atStart=>exact ⟨0,rfl,Nat.zero_le _,Lh (by simp)⟩
  case round =>
   obtain ⟨k,rfl,hk,HA⟩:=hrel
   by_cases hlt:k < L.length
   ·obtain ⟨bk,off,ai,ci,rfl,c0,_⟩:=HC.out k hlt
    have m0:=HM.out L[k] (List.getElem_mem hlt)
    unfold maxLen at m0
    by_cases he:50 < L[k].length
    ·obtain rfl:=HY.out k hlt he
     have d1:(50:Int) < (L[k].length:Int):=by omega
     go_wp2_with fail
     go_ret
     exact ⟨rfl,HB.out⟩
    ·have HA2:=Lh (all_take_succ hlt HA.out (by omega))
     have d1:(L[k].length:Int)≤50:=by omega
     clear he
     go_wp2_with fail
     go_round
     case rel=>exact ⟨k+1,by go_num,by omega,HA2⟩
     case measure=>simp [intOf];omega
   ·obtain rfl:k=L.length:=by omega
    obtain rfl:=HN.out (by omega) (by have:=HA.out;rwa [List.take_of_length_le (Nat.le_refl _)] at this)
    go_wp2_with fail
    go_ret
    exact ⟨rfl,HB.out⟩
structure Us where
 p:Ps
 epoch:Int
 down:Bool
def noS:ByteArray:=⟨#[]⟩
def Us.pageE (u:Us) (a:Ak):Int:=if a.kind=1 then u.p.writeE a.page a.data else if a.kind=2 then u.p.fillE a.page else if a.kind=3 then u.p.readE a.page else Ps.trimE a.page
def Us.pageP (u:Us) (a:Ak):Ps:=if a.kind=1 then u.p.write a.page a.data else if a.kind=2 then u.p.fill a.page else if a.kind=3 then u.p else u.p.trim a.page
def Us.ans (u:Us) (a:Ak):An :=
 if u.down=true then anP 45 0 noS 0 else if a.kind < 1∨5 < a.kind then anP 1 0 noS u.epoch else if a.epoch < u.epoch then anP 40 0 noS u.epoch
 else if a.kind=5 then anP 0 u.p.tail noS a.epoch else anP (u.pageE a) 0 (if a.kind=3 then u.p.readS a.page else noS) u.epoch
def Us.done (u:Us) (a:Ak):Us :=
 if u.down=true∨(a.kind < 1∨5 < a.kind)∨a.epoch < u.epoch then u
 else if a.kind=5 then ⟨u.p,a.epoch,u.down⟩ else ⟨u.pageP a,u.epoch,u.down⟩
def newU (room:Int):Us:=⟨newP room,0,false⟩
theorem ans_L (u:Us) (a:Ak):(u.ans a).L=[]:=by
 unfold Us.ans
 repeat' split
 all_goals rfl
structure Od where
 epoch:Int
 tail:Int
 knows:Bool
def noT:ByteArray:=⟨#[]⟩
def Od.ans (o:Od) (a:Ak):An :=
 if a.kind=8 then (if a.epoch≤o.epoch then anP 40 0 noT o.epoch else if a.page < 0∨16384 < a.page then anP 1 0 noT o.epoch else anP 0 0 noT a.epoch)
 else if a.kind=6∨a.kind=7 then (if a.epoch≠o.epoch then anP 40 0 noT o.epoch else if o.knows=false then anP 47 0 noT o.epoch else if a.kind=7 then anP 0 o.tail noT o.epoch else if o.tail=16384 then anP 44 0 noT o.epoch else anP 0 o.tail noT o.epoch)
 else anP 1 0 noT o.epoch
def Od.done (o:Od) (a:Ak):Od :=
 if a.kind=8∧o.epoch < a.epoch∧0≤a.page∧a.page≤16384 then ⟨a.epoch,a.page,true⟩
 else if a.kind=6∧a.epoch=o.epoch∧o.knows=true∧o.tail≠16384 then ⟨o.epoch,o.tail+1,o.knows⟩ else o
def newO:Od:=⟨-1,0,false⟩
structure Od.Ok (o:Od):Prop where
 epoch:i64w o.epoch
 tail:0≤o.tail∧o.tail≤16384
theorem newO_ok:newO.Ok:=⟨WalkArith.wf_i64 (n:=-1) (by decide),by decide⟩
def anW (c n:Int) (s:ByteArray) (e:Int):Value:=.agg #[.int .i64 c,.int .i64 n,.string s,.int .i64 0,.slice none 0 0,.int .i64 0,.int .i64 0,.int .i64 e]
theorem ansV_O (o:Od) (a:Ak):ansV (o.ans a) none 0=anW (o.ans a).code (o.ans a).n (o.ans a).data (o.ans a).epoch:=by
 unfold Od.ans
 repeat' split
 all_goals rfl
structure Ly where
 ep:Int
 L:List (List Int)
 used:List Int
 mark:Int
 size:Int
 n:Int
def noL:ByteArray:=⟨#[]⟩
def Ly.may (y:Ly) (e:Int) (Q:List (List Int)):Bool:=nextB y.ep y.L e Q && (unitsR Q).all (fun u=>decide (u ∈ unitsR y.L) || !decide (u ∈ y.used))
def badM (a:Ak):Prop:=a.page < 0∨16384≤a.page∨a.size < 1∨65536 < a.size∨a.n < 0∨16384 < a.n
instance (a:Ak):Decidable (badM a):=by unfold badM;infer_instance
def anL (c:Int) (e:Int) (L:List (List Int)):An:=⟨c,0,noL,e,L,0,0,0⟩
def anM (n mark size:Int):An:=⟨0,n,noL,0,[],mark,size,0⟩
def Ly.ans (y:Ly) (a:Ak):An :=
 if a.kind=9 then ⟨0,y.n,noL,y.ep,y.L,y.mark,y.size,0⟩
 else if a.kind=10 then (if y.may a.pe a.L=true then anL 0 a.pe a.L else anL 48 y.ep y.L)
 else if a.kind=11 then (if badM a then anP 1 0 noL 0 else if y.n < a.n then anM a.n a.page a.size else anM y.n y.mark y.size)
 else anP 1 0 noL 0
def Ly.done (y:Ly) (a:Ak):Ly :=
 if a.kind=10 then (if y.may a.pe a.L=true then ⟨a.pe,a.L,y.used ++ unitsR a.L,y.mark,y.size,y.n⟩ else y)
 else if a.kind=11∧¬ badM a∧y.n < a.n then ⟨y.ep,y.L,y.used,a.page,a.size,a.n⟩ else y
def newL (ep:Int) (L:List (List Int)):Ly:=⟨ep,L,unitsR L,-1,0,-1⟩
structure Ly.Ok (y:Ly) (k:Nat):Prop where
 good:goodB y.ep y.L=true
 few:y.used.length≤k
 n:-1≤y.n∧y.n≤16384
 mark:-1≤y.mark∧y.mark≤16384
 size:0≤y.size∧y.size≤65536
structure RowK {α:Type} (P:Program) (TS T:TypeId) (n:Nat) (f:α→List Value):Prop where
 under:P.underlying TS=some (.slice T)
 info:∃ (i:TypeInfo) (z:Value) (bytes:Nat),P.info? T=some i∧i.zero=some z∧i.size=n∧i.bytes=bytes∧z.cells.size=n∧bytes≤1000
 pos:0 < n
 len:∀ x,(f x).length=n
 one:∀ x,∀ u ∈ f x,u.oneCell'=true
section
variable {α:Type} {P:Program} {TS T:TypeId} {n:Nat} {f:α→List Value}
theorem RowK.flat_len (h:RowK P TS T n f) (l:List α):(l.flatMap f).length=l.length * n:=by
 induction l with
 | nil=>simp
 | cons x l ih=>rw [List.flatMap_cons,List.length_append,h.len,ih,List.length_cons,Nat.succ_mul,Nat.add_comm]
theorem RowK.flat_at (h:RowK P TS T n f) (l:List α) (i:Nat) (hi:i < l.length) (j:Nat) (hj:j < n):(l.flatMap f)[i * n+j]?=(f l[i])[j]?:=by
 induction l generalizing i with
 | nil=>cases hi
 | cons x l ih =>
  rw [List.flatMap_cons]
  cases i with
  | zero=>rw [Nat.zero_mul,Nat.zero_add,List.getElem?_append_left (by rw [h.len];exact hj)];rfl
  | succ i =>
   rw [List.getElem?_append_right (by rw [h.len,Nat.succ_mul];omega),h.len,show (i+1) * n+j - n=i * n+j by rw [Nat.succ_mul];omega]
   exact ih i (by simpa using hi)
theorem RowK.flat_one (h:RowK P TS T n f) (l:List α):∀ u ∈ l.flatMap f,u.oneCell'=true:=by
 intro u hu
 obtain ⟨x,_,hx⟩:=List.mem_flatMap.1 hu
 exact h.one x u hx
def OR {α:Type} (T:TypeId) (n:Nat) (f:α→List Value) (w:World) (B:Nat) (v:Value) (l:List α):Prop:=w.ownsRow B T n v l.length (l.flatMap f)
theorem OR.nil (w:World) (B:Nat):OR T n f w B (.slice none 0 0) []:=World.ownsRow_nil _ _ _ _
theorem OR.keep {S:Nat→Prop} {w w':World} {B:Nat} {v:Value} {l:List α} (h:OR T n f w B v l) (hk:Kept S w w') (hS:∀ k,v.ownBlock=some k→S k):OR T n f w' B v l:=hk.owns h hS
theorem OR.lower {w:World} {B B':Nat} {v:Value} {l:List α} (h:OR T n f w B v l) (hb:B'≤B):OR T n f w B' v l:=by
 refine ⟨h.1,?_⟩
 rcases h.2 with h2 | ⟨g,cap,cur,h3,h4,r⟩
 ·exact .inl h2
 ·exact .inr ⟨g,cap,cur,h3,Nat.le_trans hb h4,r⟩
theorem OR.form (K:RowK P TS T n f) {w:World} {B:Nat} {v:Value} {l:List α} (h:OR T n f w B v l):∃ ao cap,v=.slice ao l.length cap∧Row w ao n f l∧l.length≤cap∧(ao=none→cap=0)∧(∀ a,ao=some a→B≤a.block∧a.block < w.heap.size)∧v.ownBlock=ao.map (·.block)∧∀ a,ao=some a→a=⟨a.block,0,none⟩:=by
 rcases h.2 with ⟨rfl,h0⟩ | ⟨g,cap,cur,rfl,hbg,hh,hnc,_,hcs,ht⟩
 ·have:l=[]:=List.eq_nil_of_length_eq_zero h0
  subst this
  exact ⟨none,0,rfl,Row.nil w none n f,Nat.le_refl _,fun _=>rfl,(fun a e=>by cases e),rfl,(fun a e=>by cases e)⟩
 ·refine ⟨some ⟨g,0,none⟩,cap,rfl,fun i hi=>⟨g,0,rfl,fun j v hv=>?_⟩,hnc,(fun e=>by cases e),(fun a e=>by cases e;exact ⟨hbg,lt_of_block hh⟩),rfl,(fun a e=>by cases e;rfl)⟩
  have hj:j < n:=by
   obtain ⟨h1,_⟩:=List.getElem?_eq_some_iff.1 hv
   rw [K.len] at h1
   exact h1
  have h1:=K.flat_at l i hi j hj
  rw [← ht,hv,List.getElem?_take] at h1
  have hin:i * n+j < l.length * n:=by
   have:=Nat.mul_le_mul_right n (show i+1≤l.length by omega)
   rw [Nat.succ_mul] at this
   omega
  rw [if_pos hin] at h1
  rw [Nat.zero_add,← (by simpa using h1:cur[i * n+j]?=some v)]
  simp [World.cell?,hh]
theorem Row.news (K:RowK P TS T n f) {w:World} {ad:Addr} {l:List α} (h:Row w (some ad) n f l):∀ (j:Nat) (u:Value),(l.flatMap f)[j]?=some u→w.cell? (ad.add j)=some u:=by
 intro j u hj
 have hlen:=K.flat_len l
 have hpos:=K.pos
 have hjl:j < l.length * n:=by
  obtain ⟨h1,_⟩:=List.getElem?_eq_some_iff.1 hj
  omega
 have hi:j / n < l.length:=Nat.div_lt_of_lt_mul (by rw [Nat.mul_comm];exact hjl)
 have hm:j % n < n:=Nat.mod_lt _ hpos
 have ej:j=j / n * n+j % n:=by rw [Nat.mul_comm];exact (Nat.div_add_mod j n).symm
 obtain ⟨b2,o2,e,h1⟩:=h (j / n) hi
 cases e
 rw [addr_plus]
 rw [ej,K.flat_at l _ hi _ hm] at hj
 have:=h1 _ _ hj
 rw [Nat.add_assoc,← ej] at this
 exact this
theorem run_app_rows (K:RowK P TS T n f) (w:World) (ty:TypeId) {B:Nat} {v:Value} {D:List α} (h:OR T n f w B v D) {ao:Option Addr} {cap:Nat} {l:List α} (hN:Row w ao n f l) (hn:ao=none→cap=0) (hc:l.length≤cap) (hz:D.length+l.length≤1000000) (hB:B≤w.heap.size) :
  ∃ v' w',(Builtin.append_ #[TS,TS] ty #[v,.slice ao l.length cap]).run P w=.ok v' w'∧OR T n f w' B v' (D ++ l)∧w.grownBy w' v.ownBlock∧(v'.ownBlock=v.ownBlock∨v'.ownBlock=some w.heap.size):=by
 obtain ⟨i0,z,bytes,hi,hz0,hz1,hz2,hz3,hz4⟩:=K.info
 cases ao with
 | none =>
  obtain rfl:cap=0:=hn rfl
  have hl0:l=[]:=List.eq_nil_of_length_eq_zero (by omega)
  subst hl0
  refine ⟨v,w,run_append_owned_none (P:=P) (w:=w) B TS ty T i0 n K.under hi v _ _ h,by rw [List.append_nil];exact h,⟨rfl,rfl,rfl,Nat.le_refl _,fun _ _ _=>rfl⟩,.inl rfl⟩
 | some ad =>
  have hbig:(D.length+l.length) * bytes≤140737488355328:=Nat.le_trans (Nat.mul_le_mul hz hz4) (by decide)
  obtain ⟨v',w',hr,h1,h2,_,h4⟩:=run_append_own_at (P:=P) w B TS ty T i0 z n bytes K.under hi hz0 hz1 hz2 hz3 K.pos v D.length (D.flatMap f) h ad l.length cap (l.flatMap f) (K.flat_len l) (hN.news K) (K.flat_one l) (by unfold maxLen;omega) hbig hB
  exact ⟨v',w',hr,by unfold OR;rw [List.length_append,List.flatMap_append];exact h1,h2,h4⟩
theorem Row.one {W:World} {b:Nat} {t:TypeId} {x:α} (h:W.heap[b]?=some (.cells (f x).toArray t (0,0))):Row W (some ⟨b,0,none⟩) n f [x]:=by
 intro i hi
 obtain rfl:i=0:=by simpa using hi
 refine ⟨b,0,rfl,fun j v hv=>?_⟩
 rw [Nat.zero_mul,Nat.add_zero,Nat.zero_add,z02 h j]
 simpa using hv
theorem Row.drop {w:World} {b o:Nat} {l:List α} (h:Row w (some ⟨b,o,none⟩) n f l) (k:Nat):Row w (some ⟨b,o+k * n,none⟩) n f (l.drop k):=by
 intro i hi
 rw [List.length_drop] at hi
 obtain ⟨bk,off,e,h1⟩:=h (k+i) (by omega)
 cases e
 refine ⟨b,o+k * n,rfl,fun j v hv=>?_⟩
 rw [List.getElem_drop] at hv
 have:=h1 j v hv
 rw [Nat.add_mul] at this
 rw [show o+k * n+i * n+j=o+(k * n+i * n)+j by omega]
 exact this
theorem Row.keep {S:Nat→Prop} {w w':World} {ao:Option Addr} {l:List α} (h:Row w ao n f l) (hk:Kept S w w') (hS:∀ a,ao=some a→S a.block):Row w' ao n f l:=by
 intro i hi
 obtain ⟨bk,off,e,h1⟩:=h i hi
 exact ⟨bk,off,e,fun j v hv=>(World.cell?_of_block (a:=⟨bk,off+i * n+j,none⟩) (hk.block bk (hS _ e) (block_lt_of_cell (h1 j v hv)))).trans (h1 j v hv)⟩
end
theorem ask_rows:RowK Tryz.prog 110 34 9 askC where
 under:=Tryz.underlying110
 info:=by
  have h:(Tryz.prog.info? 34).map (fun i=>(i.zero,i.size,i.bytes))=some (some (.agg #[.int .i64 0,.int .i64 0,.int .i64 0,.int .i64 0,.int .i64 0,.int .i64 0,.string ByteArray.empty,.int .i64 0,.slice none 0 0]),9,96):=by kernel_rfl
  obtain ⟨i0,hi,hz0,hz1,hz2⟩:=info_parts h
  exact ⟨i0,_,96,hi,hz0,hz1,hz2,rfl,by decide⟩
 pos:=by decide
 len:=fun x=>rfl
 one:=fun x u hu=>by
  unfold askC at hu
  simp at hu
  rcases hu with h | h | h | h | h | h | h | h | h <;> (rw [h];rfl)
def fromP (l:List Pg) (m:Int):List Pg:=l.filter (fun x=>decide (m≤x.at_))
end Go.Proofs.YtkefpbcifcjibaaGreat
