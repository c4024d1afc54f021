/- Joined texts. -/
import Derived.LaidEqlPtr
import Derived.Test.YtkefpbcifcjibaaGreatG19a
import Derived.Test.YtkefpbcifcjibaaGreatG18a
import Derived.Test.YtkefpbcifcjibaaGreatG06a
import Derived.Test.YtkefpbcifcjibaaGreatG04a
import Derived.Test.YtkefpbcifcjibaaGreatG08a
import Derived.ArgAppend
import Derived.Deep.RegionLawGrows
import Derived.Test.YtkefpbcifcjibaaGreatG07a
import Derived.Test.YtkefpbcifcjibaaGreatG10a
import Derived.Test.YtkefpbcifcjibaaGreatG11a
import Derived.Lib.MinMax
import Derived.Test.YtkefpbcifcjibaaGreatH00
set_option linter.unusedVariables false
set_option maxRecDepth 20000
set_option maxHeartbeats 16000000
namespace Go.Proofs.YtkefpbcifcjibaaGreat
open Go.RowKit
section
variable {α β:Type} {T:(Nat→Prop)→World→α→Prop} {U:(Nat→Prop)→World→β→Prop} {X:Nat→Prop} {w:World} {a:α} {b:β}
theorem Side.left (h:Side T U X w a b):Solo T X w a:=by
 obtain ⟨h1,F,G,h2,h3,h4,h5⟩:=h
 exact ⟨h1,F,h2,fun k hk=>(h4 k hk).1⟩
end
section
variable {UG:Nat→Nat→(Nat→Prop)→World→Us→Prop} {OG:Nat→(Nat→Prop)→World→Od→Prop} {LG:Nat→(Nat→Prop)→World→Ly→Prop} {NG:Nat→(Nat→Prop)→World→Nd→Prop} {HG:Nat→Nat→(Nat→Prop)→World→Hd→Prop} {X:Nat→Prop} {w w':World} {b nb r rn:Nat} {n m:Nd} {h:Hd}
theorem rh_made {T:(Nat→Prop)→World→Hd→Prop} (hT:Thing T) (hs:Side T (RN rn) X w h m):Side T (RH w.heap.size rn) X (w.alloc (.cells #[.pointer (some ⟨rn,0,none⟩),.slice none 0 0] 112)) h ⟨m,[]⟩:=by
 have hb:Below w.heap.size w (w.alloc (.cells #[.pointer (some ⟨rn,0,none⟩),.slice none 0 0] 112)):=z00 _ _
 obtain ⟨h1,F,G,h2,h3,h4,h5⟩:=hs
 have kp:=Kept.ofBelow hb (fun _=>True)
 refine ⟨fun k hk=>Nat.lt_of_lt_of_le (h1 k hk) hb.size,F,fun k=>G k∨k=w.heap.size,hT.keep h2 kp (fun _ _=>trivial),⟨Nat.zero_le _,.slice none 0 0,G,heap_alloc_new _ _,OR.nil _ _,(rn_thing rn).keep h3 kp (fun _ _=>trivial),.inr rfl,fun hg=>?_,fun k hk=>.inl hk,fun k e=>(by cases e),fun k hk=>?_⟩,fun k hk=>⟨(h4 k hk).1,fun hg=>?_⟩,fun k hk hg=>?_⟩
 ·exact Nat.lt_irrefl _ ((rn_thing rn).lt h3 _ hg)
 ·rcases hk with hk | hk
  ·exact Nat.lt_of_lt_of_le ((rn_thing rn).lt h3 k hk) hb.size
  ·subst hk;simp
 ·rcases hg with hg | hg
  ·exact (h4 k hk).2 hg
  ·have:=h1 k hk;omega
 ·rcases hg with hg | hg
  ·exact h5 k hk hg
  ·have:=hT.lt h2 k hk;omega
theorem h_new {U:(Nat→Prop)→World→Nd→Prop} (HS:HandSays UG OG LG NG HG) (hU:Thing U) (hs:Side (NG nb) U X w n m) :
  Calls Tryz.prog 60 #[.pointer (some ⟨nb,0,none⟩)] w fun e w'=>∃ b:Nat,e=.returned (.pointer (some ⟨b,0,none⟩))∧Side (HG b nb) U X w' ⟨n,[]⟩ m∧Below w.heap.size w w':=by
 obtain ⟨h1,F,G,h2,h3,h4,h5⟩:=hs
 refine (HS.new nb F w n h2).mono ?_
 rintro e w' ⟨b,he,⟨F',k1,k2,k3⟩,hb⟩
 refine ⟨b,he,⟨fun k hk=>Nat.lt_of_lt_of_le (h1 k hk) hb.size,F',G,k1,hU.keep h3 (Kept.ofBelow hb (fun _=>True)) (fun _ _=>trivial),fun k hk=>⟨fun hf=>?_,(h4 k hk).2⟩,fun k hk hg=>?_⟩,hb⟩
 ·rcases k3 k hf with h | h
  ·exact (h4 k hk).1 h
  ·have:=h1 k hk;omega
 ·rcases k3 k hk with h | h
  ·exact h5 k h hg
  ·have:=hU.lt h3 k hg;omega
theorem h_nodes {U:(Nat→Prop)→World→Hd→Prop} {h2:Hd} (HS:HandSays UG OG LG NG HG) (hU:Thing U) (hs:Side (HG b nb) U X w h h2) :
  Calls Tryz.prog 29 #[.pointer (some ⟨b,0,none⟩)] w fun e w'=>e=.returned (.pointer (some ⟨nb,0,none⟩))∧Side (HG b nb) U X w' h h2∧Below w.heap.size w w':=by
 obtain ⟨_,F,_,hF,_⟩:=id hs
 exact (HS.nodes b nb F w h hF).mono fun e w' ⟨he,hb⟩=>⟨he,hs.below (HS.thing b nb) hU hb,hb⟩
end
theorem nodesInfo:(Tryz.prog.info? 118).isSome=true:=by kernel_rfl
theorem nodes_eq (b:Nat) (w:World):(binOp .eql 69 (.pointer (some ⟨b,0,none⟩)) (.pointer (some ⟨b,0,none⟩))).run Tryz.prog w=.ok (.bool true) w:=by
 obtain ⟨j,hj⟩:=Option.isSome_iff_exists.1 nodesInfo
 exact run_eql_ptr_same w _ Tryz.underlying69 hj
theorem made14_yes {UG:Nat→Nat→(Nat→Prop)→World→Us→Prop} {OG:Nat→(Nat→Prop)→World→Od→Prop} {LG:Nat→(Nat→Prop)→World→Ly→Prop} {NG:Nat→(Nat→Prop)→World→Nd→Prop} {HG:Nat→Nat→(Nat→Prop)→World→Hd→Prop} (HS:HandSays UG OG LG NG HG) (ep:Int) (ao:Option Addr) (cap:Nat) (L:List (List Int)) (room:Int) (w:World) (h:CL w ao L) (hl:fewL L) (hg:goodB ep L=true) (hr:1≤room∧room≤4096) (he:i64w ep) :
  Calls Tryz.prog 25 #[.agg #[.int .i64 ep,.slice ao L.length cap],.int .i64 room] w fun e w'=>∃ b nb r rn:Nat,e=.returned (.tuple #[.pointer (some ⟨b,0,none⟩),.pointer (some ⟨r,0,none⟩),.bool true])∧Side (HG b nb) (RH r rn) (fun k=>k < w.heap.size) w' ⟨newN ep L room,[]⟩ ⟨newN ep L room,[]⟩∧Below w.heap.size w w':=by
 have HB0:=Lh (z00 w (.cells #[.int .i64 ep,.slice ao L.length cap] 24))
 have HX0:=Lh (show (w.alloc (.cells #[.int .i64 ep,.slice ao L.length cap] 24)).heap[w.heap.size]?=some (.cells #[.int .i64 ep,.slice ao L.length cap] 24 (0,0)) from heap_alloc_new _ _)
 have HC:=Lh (h.below HB0.out)
 have H1000:=Lh (show L.length≤1000∧∀ c ∈ L,c.length≤1000 from ⟨Nat.le_trans hl.1 (by decide),fun c hc=>Nat.le_trans (hl.2 c hc) (by decide)⟩)
 have TT:=Lh (fun b=>HS.rpc.thing b)
 obtain ⟨c0,c1,_,_⟩:=z05 HX0.out
 have CN:=Lh (fun (go:Option Addr) (gc:Nat) (w:World) (h:CL w go L)=>n_new HS.rpc (cap:=gc) h hl hg hr)
 have CM:=Lh (fun (w:World) (h:CL w ao L)=>rn_new_yes ep ao cap L room w h hl hg hr he)
 have TH:=Lh (fun b nb=>HS.thing b nb)
 have EQ:=fun b w=>nodes_eq b w
 unfold ptrN at CN
 generalize newN ep L room=N at *
 clear h hl hg hr he
 go_enter Tryz.func25,Tryz.ntmps25
 go_wp2_with (first
  | (go_at_call 11;refine (z1d ep ao cap L _ HC.out H1000.out).mono ?_;rintro e w3 ⟨v,rfl,hO,hb3⟩;obtain ⟨go,gc,hv,hN3,_,_⟩:=hO.form;subst hv;have HN3:=Lh hN3;have B3:=Lh (HB0.out.trans (hb3.mono HB0.out.size));have HC3:=Lh (HC.out.below hb3);have HX3:=Lh (z01 hb3 HX0.out);clear hO hN3 hb3 c0 c1)
  | (go_at_call 58;refine (CN.out go gc _ HN3.out).mono ?_;rintro e w4 ⟨b,rfl,hs4,hb4⟩;have S4:=Lh (hs4.less (fun k hk=>Nat.lt_of_lt_of_le hk B3.out.size));have B4:=Lh (B3.out.trans (hb4.mono B3.out.size));have HC4:=Lh (HC3.out.below hb4);obtain ⟨c0,c1,_,_⟩:=z05 (z01 hb4 HX3.out);clear hs4 hb4)
  | (go_at_call 59;refine (CM.out _ HC4.out).mono ?_;rintro e w5 ⟨r,G5,rfl,hr5,hg5,hb5⟩;have D5:=Lh (show Side (NG b) (RN r) (fun k=>k < w.heap.size) w5 N N from Side.made (TT.out b) S4.out hb5 hr5 hg5);have B5:=Lh (B4.out.trans (hb5.mono B4.out.size));clear hr5 hg5 hb5 c0 c1)
  | (go_at_call 60;refine (h_new HS (rn_thing r) D5.out).mono ?_;rintro e w6 ⟨hb,rfl,hs6,hb6⟩;have D6:=Lh (rh_made (TH.out hb b) hs6);have B6:=Lh ((B5.out.trans (hb6.mono B5.out.size)).alloc (B5.out.trans (hb6.mono B5.out.size)).size (.cells #[.pointer (some ⟨r,0,none⟩),.slice none 0 0] 112));clear hs6 hb6)
  | (go_at_call 29;refine (h_nodes HS (rh_thing w6.heap.size r) D6.out).mono ?_;rintro e w7 ⟨rfl,hs7,hb7⟩;have D7:=Lh hs7;have B7:=Lh (B6.out.trans (hb7.mono B6.out.size));clear hs7 hb7))
 go_ret3
 exact ⟨hb,b,w6.heap.size,r,rfl,D7.out,B7.out⟩
structure HeldOk (a:Ak):Prop where
 ok:AkOk a
 few:fewL a.L
 data:a.data.size≤1000000
def CK (C:Nat→Prop) (w:World) (a:Ak):Prop:=∀ W,Kept C w W→CL W a.ao a.L
theorem CK.keep {C S:Nat→Prop} {w w':World} {a:Ak} (h:CK C w a) (hk:Kept S w w') (hS:∀ k,C k→S k):CK C w' a:=fun W hW=>h W ((hk.mono hS).trans hW)
theorem CK.more {C D:Nat→Prop} {w:World} {a:Ak} (h:CK C w a) (hC:∀ k,C k→D k):CK D w a:=fun W hW=>h W (hW.mono hC)
theorem CK.here {C:Nat→Prop} {w:World} {a:Ak} (h:CK C w a):CL w a.ao a.L:=h w (Kept.refl _ _)
def HR (w:World) (v:Value) (l:List Ak):Prop :=
 OR 34 9 askC w 0 v l∨∃ g cur,v=.slice (some ⟨g,0,none⟩) l.length l.length∧w.heap[g]?=some (.cells cur 34 (0,0))∧l.length * 9≤cur.size∧cur.toList.take (l.length * 9)=l.flatMap askC
section
variable {w w':World} {v:Value} {l:List Ak}
theorem HR.keep {S:Nat→Prop} (h:HR w v l) (hk:Kept S w w') (hS:∀ k,v.ownBlock=some k→S k):HR w' v l:=by
 rcases h with h | ⟨g,cur,rfl,h1,h2,h3⟩
 ·exact .inl (h.keep hk hS)
 ·exact .inr ⟨g,cur,rfl,hk.heap (hS g rfl) h1,h2,h3⟩
theorem head_row {g:Nat} {cur:Array Value} {t:TypeId} (h:w.heap[g]?=some (.cells cur t (0,0))) (h3:cur.toList.take (l.length * 9)=l.flatMap askC):Row w (some ⟨g,0,none⟩) 9 askC l:=by
 refine fun i hi=>⟨g,0,rfl,fun j x hv=>?_⟩
 have hj:j < 9:=by
  obtain ⟨h1,_⟩:=List.getElem?_eq_some_iff.1 hv
  exact h1
 have h1:=ask_rows.flat_at l i hi j hj
 rw [← h3,hv,List.getElem?_take,if_pos (by omega)] at h1
 rw [Nat.zero_add,← (by simpa using h1:cur[i * 9+j]?=some x)]
 simp [World.cell?,h]
theorem HR.form (h:HR w v l):∃ (ao:Option Addr) (cap:Nat),v=.slice ao l.length cap∧Row w ao 9 askC l∧l.length≤cap∧(ao=none→cap=0)∧v.ownBlock=ao.map (·.block)∧
  ∀ a,ao=some a→a=⟨a.block,0,none⟩∧∃ cur,w.heap[a.block]?=some (.cells cur 34 (0,0))∧l.length * 9≤cur.size∧cur.toList.take (l.length * 9)=l.flatMap askC:=by
 rcases h with h | ⟨g,cur,rfl,h1,h2,h3⟩
 ·rcases h.2 with ⟨rfl,h0⟩ | ⟨g,cap,cur,rfl,_,hh,hnc,_,hcs,ht⟩
  ·have:l=[]:=List.eq_nil_of_length_eq_zero h0
   subst this
   exact ⟨none,0,rfl,Row.nil w none 9 askC,Nat.le_refl _,fun _=>rfl,rfl,fun a e=>by cases e⟩
  ·exact ⟨some ⟨g,0,none⟩,cap,rfl,head_row hh ht,hnc,(fun e=>by cases e),rfl,fun a e=>by cases e;exact ⟨rfl,cur,hh,by rw [hcs];exact Nat.mul_le_mul_right 9 hnc,ht⟩⟩
 ·exact ⟨some ⟨g,0,none⟩,l.length,rfl,head_row h1 h3,Nat.le_refl _,(fun e=>by cases e),rfl,fun a e=>by cases e;exact ⟨rfl,cur,h1,h2,h3⟩⟩
theorem HR.lt (h:HR w v l):∀ k,v.ownBlock=some k→k < w.heap.size:=by
 intro k e
 obtain ⟨ao,cap,rfl,_,_,_,h4,h5⟩:=h.form
 cases ao with
 | none=>rw [h4] at e;cases e
 | some a =>
  rw [h4] at e
  cases e
  obtain ⟨_,cur,h6,_⟩:=h5 a rfl
  exact lt_of_block h6
theorem run_app_held (h:HR w v l) (ty:TypeId) {ad:Addr} {cap:Nat} {N:List Ak} (hN:Row w (some ad) 9 askC N) (hp:0 < N.length) (hc:N.length≤cap) (hz:l.length+N.length≤1000000) :
  ∃ v' w',(Builtin.append_ #[110,110] ty #[v,.slice (some ad) N.length cap]).run Tryz.prog w=.ok v' w'∧OR 34 9 askC w' 0 v' (l ++ N)∧w.grownBy w' v.ownBlock∧∀ k,v'.ownBlock=some k→v.ownBlock=some k∨w.heap.size≤k:=by
 rcases h with h | ⟨g,cur,rfl,h1,h2,h3⟩
 ·obtain ⟨v',w',hr,r1,r2,r3⟩:=run_app_rows ask_rows w ty h hN (fun e=>by cases e) hc hz (Nat.zero_le _)
  refine ⟨v',w',hr,r1,r2,fun k e=>?_⟩
  rcases r3 with r3 | r3
  ·exact .inl (by rw [← r3];exact e)
  ·rw [r3] at e;cases e;exact .inr (Nat.le_refl _)
 ·obtain ⟨i0,z,bytes,hi,hz0,hz1,hz2,hz3,hz4⟩:=ask_rows.info
  have hbig:(l.length+N.length) * bytes≤140737488355328:=Nat.le_trans (Nat.mul_le_mul hz hz4) (by decide)
  obtain ⟨v',w',hr,r1,r2⟩:=run_append_arg_grows (P:=Tryz.prog) w 110 ty 34 i0 z 9 bytes ask_rows.under hi hz0 hz1 hz2 hz3 (by decide) ⟨g,0,none⟩ l.length l.length (l.flatMap askC) (ask_rows.flat_len l) ((head_row h1 h3).news ask_rows) ad N.length cap (N.flatMap askC) (ask_rows.flat_len N) (hN.news ask_rows) (by omega) (by unfold maxLen;omega) hbig
  have r3:OR 34 9 askC w' w.heap.size v' (l ++ N):=by
   unfold OR
   rw [List.length_append,List.flatMap_append]
   exact r1
  obtain ⟨r4,r5,r6,r7,r8⟩:=r2
  refine ⟨v',w',hr,r3.lower (Nat.zero_le _),⟨r4,r5,r6,r7,fun k hk _=>r8 k hk (by simp)⟩,fun k e=>.inr (r3.lt k e).1⟩
theorem step_app_held {ops:Array Oper} {o:Oper} {a:Act} {K':Act→World→Prop} {Q:Exit→Act→World→Prop} {E:Prop} (hgd:o.guard=none) (s x:Operand)
  (ho:o.op=Op.call { callee:=Callee.builtin Builtin.append,args:=#[s,x],argTypes:=#[110,110] }) (hs:a.eval s=v) (h:HR w v l)
  {ad:Addr} {cap:Nat} {N:List Ak} {m:Nat} (hm:N.length=m) (hx:a.eval x=.slice (some ad) m cap) (hN:Row w (some ad) 9 askC N) (hp:0 < m) (hc:m≤cap) (hz:l.length+m≤1000000)
  (hQ:∀ v' w',OR 34 9 askC w' 0 v' (l ++ N)→w.grownBy w' v.ownBlock→(∀ k,v'.ownBlock=some k→v.ownBlock=some k∨w.heap.size≤k)→K' (a.put o.dst v') w') :
  if Region.wanted o (yielded ops a.tmps)=true then Oper.wp Tryz.prog o a w K' Q else E:=by
 have hw:Region.wanted o (yielded ops a.tmps)=true:=by simp [Region.wanted,hgd]
 rw [if_pos hw]
 subst hm
 obtain ⟨v',w',hr,h2,h3,h4⟩:=run_app_held h o.type hN hp hc hz
 unfold Oper.wp
 simp [execOp,ho,resolve,invoke,builtin,hs,hx,hr,Result.andThen]
 exact hQ v' w' h2 h3 h4
end
section
variable {NG:Nat→(Nat→Prop)→World→Nd→Prop} {Z:List Ak} {b nb:Nat} {G:Nat→Prop} {w:World} {h:Hd}
def HMz (NG:Nat→(Nat→Prop)→World→Nd→Prop) (Z:List Ak) (b nb:Nat) (G:Nat→Prop) (w:World) (h:Hd):Prop :=
 h.held.length≤64∧∃ (v:Value) (l:List Ak) (F C:Nat→Prop),w.heap[b]?=some (.cells #[.pointer (some ⟨nb,0,none⟩),v] 114 (0,0))∧HR w v l∧l.map Ak.plain=h.held∧NG nb F w h.n∧
  (∀ a,a ∈ l∨a ∈ Z→HeldOk a∧CK C w a)∧(G b∧¬ F b∧¬ C b)∧(∀ k,F k→G k∧¬ C k)∧(∀ k,C k→G k)∧(∀ k,v.ownBlock=some k→G k∧¬ F k∧¬ C k∧k≠b)∧∀ k,G k→k < w.heap.size
def HM (NG:Nat→(Nat→Prop)→World→Nd→Prop):Nat→Nat→(Nat→Prop)→World→Hd→Prop:=HMz NG []
theorem z0t (hN:∀ b,Thing (NG b)) (Z:List Ak) (b nb:Nat):Thing (HMz NG Z b nb) where
 lt:=by
  rintro G w h ⟨_,v,l,F,C,_,_,_,_,_,_,_,_,_,h1⟩
  exact h1
 keep:=by
  rintro G S w w' h ⟨h0,v,l,F,C,h1,h2,h3,h4,h5,h6,h7,h8,h9,h10⟩ hk hS
  exact ⟨h0,v,l,F,C,hk.heap (hS b h6.1) h1,h2.keep hk (fun k e=>hS k (h9 k e).1),h3,(hN nb).keep h4 hk (fun k hf=>hS k (h7 k hf).1),fun a ha=>⟨(h5 a ha).1,(h5 a ha).2.keep hk (fun k hc=>hS k (h8 k hc))⟩,h6,h7,h8,h9,fun k hg=>Nat.lt_of_lt_of_le (h10 k hg) hk.size⟩
theorem HMz.less {Y:List Ak} (hh:HMz NG Z b nb G w h) (hY:∀ a ∈ Y,a ∈ Z):HMz NG Y b nb G w h:=by
 obtain ⟨h0,v,l,F,C,h1,h2,h3,h4,h5,h6⟩:=hh
 exact ⟨h0,v,l,F,C,h1,h2,h3,h4,fun a ha=>h5 a (ha.imp id (hY a)),h6⟩
theorem HMz.cells (hh:HMz NG Z b nb G w h):∃ (v:Value) (l:List Ak),w.heap[b]?=some (.cells #[.pointer (some ⟨nb,0,none⟩),v] 114 (0,0))∧HR w v l∧l.map Ak.plain=h.held∧∀ a ∈ l,HeldOk a∧CL w a.ao a.L:=by
 obtain ⟨h0,v,l,F,C,h1,h2,h3,h4,h5,h6⟩:=hh
 exact ⟨v,l,h1,h2,h3,fun a ha=>⟨(h5 a (.inl ha)).1,(h5 a (.inl ha)).2.here⟩⟩
theorem HMz.small (hh:HMz NG Z b nb G w h):b < w.heap.size:=by
 obtain ⟨v,l,h1,_⟩:=hh.cells
 exact lt_of_block h1
theorem HMz.turn (hN:∀ b,Thing (NG b)) (hh:HMz NG Z b nb G w h):∃ F:Nat→Prop,NG nb F w h.n∧(∀ k,F k→G k)∧(∀ a ∈ Z,HeldOk a∧∀ W,Kept (fun k=>¬ F k) w W→CL W a.ao a.L)∧
  ∀ (D:Nat→Prop) (x:Value) (L:List (List Int)) W n',(∀ k,D k→w.heap.size≤k)→Leaves (Chained (NG nb) D x L) F w W n'→Leaves (Chained (HMz NG Z b nb) D x L) G w W ⟨n',h.held⟩:=by
 obtain ⟨h0,v,l,F,C,h1,h2,h3,h4,h5,h6,h7,h8,h9,h10⟩:=hh
 refine ⟨F,h4,fun k hk=>(h7 k hk).1,fun a ha=>⟨(h5 a (.inr ha)).1,fun W hW=>(h5 a (.inr ha)).2 W (hW.mono (fun k hc hf=>(h7 k hf).2 hc))⟩,fun D x L W n' hD hl=>?_⟩
 obtain ⟨H,⟨H1,k1,k2,k3,k4,k5⟩,r2,r3⟩:=hl
 have hn:∀ k,H1 k→F k∨w.heap.size≤k:=fun k hk=>r3 k ((k5 k).2 (.inl hk))
 have hsz:=r2.size
 have hout:∀ k,G k→¬ F k→¬ H1 k:=fun k hg hf hk=>by
  rcases hn k hk with h | h
  ·exact hf h
  ·have:=h10 k hg;omega
 refine ⟨fun k=>((G k∧¬ F k)∨H1 k)∨D k,⟨fun k=>(G k∧¬ F k)∨H1 k,⟨h0,v,l,H1,C,r2.heap h6.2.1 h1,h2.keep r2 (fun k e=>(h9 k e).2.1),h3,k1,fun a ha=>⟨(h5 a ha).1,(h5 a ha).2.keep r2 (fun k hc hf=>(h7 k hf).2 hc)⟩,⟨.inl ⟨h6.1,h6.2.1⟩,hout b h6.1 h6.2.1,h6.2.2⟩,fun k hk=>⟨.inr hk,fun hc=>hout k (h8 k hc) (fun hf=>(h7 k hf).2 hc) hk⟩,fun k hc=>.inl ⟨h8 k hc,fun hf=>(h7 k hf).2 hc⟩,fun k e=>⟨.inl ⟨(h9 k e).1,(h9 k e).2.1⟩,hout k (h9 k e).1 (h9 k e).2.1,(h9 k e).2.2.1,(h9 k e).2.2.2⟩,fun k hk=>?_⟩,k2,k3,fun k hk hg=>?_,fun k=>Iff.rfl⟩,r2.mono (fun k hg hf=>hg (h7 k hf).1),fun k hk=>?_⟩
 ·rcases hk with hk | hk
  ·exact Nat.lt_of_lt_of_le (h10 k hk.1) hsz
  ·exact (hN nb).lt k1 k hk
 ·rcases hg with hg | hg
  ·have:=h10 k hg.1;have:=hD k hk;omega
  ·exact k4 k hk hg
 ·rcases hk with (hk | hk) | hk
  ·exact .inl hk.1
  ·exact (hn k hk).imp (fun h=>(h7 k h).1) id
  ·exact .inr (hD k hk)
theorem HMz.within (hN:∀ b,Thing (NG b)) (hh:HMz NG Z b nb G w h):∃ F:Nat→Prop,NG nb F w h.n∧(∀ k,F k→G k)∧∀ W n',Leaves (NG nb) F w W n'→Leaves (HMz NG Z b nb) G w W ⟨n',h.held⟩:=by
 obtain ⟨F,h1,h2,_,h3⟩:=hh.turn hN
 refine ⟨F,h1,h2,fun W n' hl=>?_⟩
 obtain ⟨G',⟨H,k1,_,_,_,k5⟩,r2,r3⟩:=h3 (fun _=>False) _ _ W n' (fun k hk=>hk.elim) (chained_plain (x:=zeroX) hl rfl)
 exact ⟨H,k1,r2,fun k hk=>r3 k ((k5 k).2 (.inl hk))⟩
theorem HMz.opened (hN:∀ b,Thing (NG b)) (hh:HMz NG Z b nb G w h):∃ (v:Value) (l:List Ak),w.heap[b]?=some (.cells #[.pointer (some ⟨nb,0,none⟩),v] 114 (0,0))∧HR w v l∧l.map Ak.plain=h.held∧(∀ a,a ∈ l∨a ∈ Z→HeldOk a∧CL w a.ao a.L)∧(∀ k,v.ownBlock=some k→G k∧k≠b)∧
  ∀ W,Below w.heap.size w W→∀ (w2:World) (v2:Value) (l2 Z2:List Ak) (D:Nat→Prop),Kept (fun k=>v.ownBlock≠some k) W w2→HR w2 v2 l2→(∀ k,v2.ownBlock=some k→v.ownBlock=some k∨W.heap.size≤k)→(∀ k,D k→W.heap.size≤k∧k < w2.heap.size∧v2.ownBlock≠some k)→l2.length≤64→
   (∀ a,a ∈ l2∨a ∈ Z2→a ∈ l∨a ∈ Z∨(HeldOk a∧CK D w2 a))→Leaves (HMz NG Z2 b nb) G W (w2.setCell ⟨b,1,none⟩ v2) ⟨h.n,l2.map Ak.plain⟩:=by
 obtain ⟨h0,v,l,F,C,h1,h2,h3,h4,h5,h6,h7,h8,h9,h10⟩:=hh
 refine ⟨v,l,h1,h2,h3,fun a ha=>⟨(h5 a ha).1,(h5 a ha).2.here⟩,fun k e=>⟨(h9 k e).1,(h9 k e).2.2.2⟩,fun W hW w2 v2 l2 Z2 D hk hR hv hD hl hm=>?_⟩
 have hKW:Kept (fun _=>True) w W:=Kept.ofBelow hW _
 replace h1:=z01 hW h1
 replace h2:=h2.keep hKW (fun _ _=>trivial)
 replace h4:=(hN nb).keep h4 hKW (fun _ _=>trivial)
 replace h5:=fun a ha=>(⟨(h5 a ha).1,(h5 a ha).2.keep hKW (fun _ _=>trivial)⟩:HeldOk a∧CK C W a)
 replace h10:=fun k hg=>Nat.lt_of_lt_of_le (h10 k hg) hW.size
 have hc:=h1
 have hb:=h10 b h6.1
 have hz:=hk.size
 have hs:(w2.setCell ⟨b,1,none⟩ v2).heap.size=w2.heap.size:=by simp [World.setCell]
 have hk1:Kept (fun k=>k≠b) w2 (w2.setCell ⟨b,1,none⟩ v2):=(Kept.refl _ w2).setCell (p:=⟨b,1,none⟩) (fun h=>h rfl) _
 have hkF:Kept (fun k=>v.ownBlock≠some k∧k≠b) W (w2.setCell ⟨b,1,none⟩ v2):=(hk.mono (fun k h=>h.1)).trans (hk1.mono (fun k h=>h.2))
 have hvb:v.ownBlock≠some b:=fun e=>(h9 b e).2.2.2 rfl
 have hob:=hR.lt
 refine ⟨fun k=>G k∨(W.heap.size≤k∧k < w2.heap.size),⟨?_,v2,l2,F,fun k=>C k∨D k,z27 (hk.heap hvb hc) v2,hR.keep hk1 (fun k e=>?_),rfl,(hN nb).keep h4 hkF (fun k hf=>⟨fun e=>(h9 k e).2.1 hf,fun e=>h6.2.1 (e ▸ hf)⟩),fun a ha=>?_,⟨.inl h6.1,h6.2.1,fun hcd=>?_⟩,fun k hf=>⟨.inl (h7 k hf).1,fun hcd=>?_⟩,fun k hcd=>?_,fun k e=>?_,fun k hk=>?_⟩,?_,fun k hk=>?_⟩
 ·show (l2.map Ak.plain).length≤64
  rw [List.length_map];exact hl
 ·rcases hv k e with h | h
  ·exact (h9 k h).2.2.2
  ·omega
 ·rcases hm a ha with h | h | h
  ·exact ⟨(h5 a (.inl h)).1,((h5 a (.inl h)).2.keep hkF (fun k hc=>⟨fun e=>(h9 k e).2.2.1 hc,fun e=>h6.2.2 (e ▸ hc)⟩)).more (fun k hc=>.inl hc)⟩
  ·exact ⟨(h5 a (.inr h)).1,((h5 a (.inr h)).2.keep hkF (fun k hc=>⟨fun e=>(h9 k e).2.2.1 hc,fun e=>h6.2.2 (e ▸ hc)⟩)).more (fun k hc=>.inl hc)⟩
  ·exact ⟨h.1,(h.2.keep hk1 (fun k hd e=>by have:=hD k hd;omega)).more (fun k hc=>.inr hc)⟩
 ·rcases hcd with h | h
  ·exact h6.2.2 h
  ·have:=hD b h;omega
 ·rcases hcd with h | h
  ·exact (h7 k hf).2 h
  ·have:=hD k h;have:=h10 k (h7 k hf).1;omega
 ·rcases hcd with h | h
  ·exact .inl (h8 k h)
  ·exact .inr ⟨(hD k h).1,(hD k h).2.1⟩
 ·have hlt:=hob k e
  rcases hv k e with h | h
  ·refine ⟨.inl (h9 k h).1,(h9 k h).2.1,fun hcd=>?_,(h9 k h).2.2.2⟩
   rcases hcd with h' | h'
   ·exact (h9 k h).2.2.1 h'
   ·exact (hD k h').2.2 e
  ·refine ⟨.inr ⟨h,hlt⟩,fun hf=>?_,fun hcd=>?_,by omega⟩
   ·have:=h10 k (h7 k hf).1;omega
   ·rcases hcd with h' | h'
    ·have:=h10 k (h8 k h');omega
    ·exact (hD k h').2.2 e
 ·rw [hs]
  rcases hk with hk | hk
  ·exact Nat.lt_of_lt_of_le (h10 k hk) hz
  ·exact hk.2
 ·exact hkF.mono (fun k hg=>⟨fun e=>hg (h9 k e).1,fun e=>hg (e ▸ h6.1)⟩)
 ·exact hk.imp id (fun h=>h.1)
end
def MkP (UG:Nat→Nat→(Nat→Prop)→World→Us→Prop) (OG:Nat→(Nat→Prop)→World→Od→Prop) (LG:Nat→(Nat→Prop)→World→Ly→Prop) (w0:World) (r:Nat) (N:Nd) (i:Nat) (W:World):Prop :=
 ∃ (A:Array Value) (ro rl:Nat) (B:Nat→Nat × Nat) (G:Nat→Prop),TabP A i B ro rl∧BundG (i+3) (nodeP UG OG LG r A ro rl B N) G W∧(∀ k,G k→w0.heap.size≤k)∧Below w0.heap.size w0 W
theorem mkp_start {UG:Nat→Nat→(Nat→Prop)→World→Us→Prop} {OG:Nat→(Nat→Prop)→World→Od→Prop} {LG:Nat→(Nat→Prop)→World→Ly→Prop} (HT:Three UG OG LG) {w0 w1 w2:World} {rl ro:Nat} {G1 G2:Nat→Prop} {N:Nd} {A:Array Value} {B:Nat→Nat × Nat} (h1:LG rl G1 w1 N.l) (g1:∀ k,G1 k→w0.heap.size≤k) (b1:Below w0.heap.size w0 w1) (h2:OG ro G2 w2 N.o) (g2:∀ k,G2 k→w1.heap.size≤k) (b2:Below w1.heap.size w1 w2) (hT:TabP A 0 B ro rl) :
  MkP UG OG LG w0 w2.heap.size N 0 (w2.alloc (.cells A 118)):=by
 have hp:=fun i (_:i < 0)=>z0r HT w2.heap.size A ro rl B N i
 have q0:BundG 0 (nodeP UG OG LG w2.heap.size A ro rl B N) (fun _=>False) w0:=⟨fun _ _=>False,fun i hi=>absurd hi (Nat.not_lt_zero i),fun i j hi=>absurd hi (Nat.not_lt_zero i),fun k=>⟨fun h=>h.elim,fun ⟨i,hi,_⟩=>absurd hi (Nat.not_lt_zero i)⟩⟩
 have q1:=(q0.more (fun i _=>z0r HT w2.heap.size A ro rl B N i) b1 (U:=fun F W=>LG rl F W N.l) h1 g1).same (T2:=nodeP UG OG LG w2.heap.size A ro rl B N) (fun i hi F W hF=>by
  match i,hi,hF with
  | 0,_,hF=>exact hF
  | j+1,hi,_=>omega)
 have q2:=(q1.more (fun i _=>z0r HT w2.heap.size A ro rl B N i) b2 (U:=fun F W=>OG ro F W N.o) h2 g2).same (T2:=nodeP UG OG LG w2.heap.size A ro rl B N) (fun i hi F W hF=>by
  match i,hi,hF with
  | 0,_,hF=>exact hF
  | 1,_,hF=>exact hF
  | j+2,hi,_=>omega)
 have b3:Below w2.heap.size w2 (w2.alloc (.cells A 118)):=(Below.refl _ _).alloc (Nat.le_refl _) _
 have q3:=(q2.more (fun i _=>z0r HT w2.heap.size A ro rl B N i) b3 (U:=fun F W=>W.heap[w2.heap.size]?=some (.cells A 118 (0,0))∧∀ k,F k↔k=w2.heap.size) (H:=fun k=>k=w2.heap.size) ⟨heap_alloc_new _ _,fun k=>Iff.rfl⟩ (fun k hk=>by omega)).same (T2:=nodeP UG OG LG w2.heap.size A ro rl B N) (fun i hi F W hF=>by
  match i,hi,hF with
  | 0,_,hF=>exact hF
  | 1,_,hF=>exact hF
  | 2,_,hF=>exact hF
  | j+3,hi,_=>omega)
 have z1:=b1.size
 have z2:=b2.size
 refine ⟨A,ro,rl,B,_,hT,q3,fun k hk=>?_,(b1.trans (b2.mono z1)).alloc (by omega) _⟩
 rcases hk with ((hk | hk) | hk) | hk
 ·exact hk.elim
 ·exact g1 k hk
 ·have:=g2 k hk;omega
 ·omega
theorem MkP.step {UG:Nat→Nat→(Nat→Prop)→World→Us→Prop} {OG:Nat→(Nat→Prop)→World→Od→Prop} {LG:Nat→(Nat→Prop)→World→Ly→Prop} (HT:Three UG OG LG) {w0 W w2:World} {r i r2 q2:Nat} {N:Nd} {G2:Nat→Prop} (h:MkP UG OG LG w0 r N i W) (hi:i < 16) (hb:Below W.heap.size W w2) (hu:UG r2 q2 G2 w2 (N.u i)) (hg:∀ k,G2 k→W.heap.size≤k):MkP UG OG LG w0 r N (i+1) (w2.setCell ⟨r,i,none⟩ (ptrV r2)):=by
 obtain ⟨A,ro,rl,B,G,hT,hB,hG,hb0⟩:=h
 have q1:=(hB.more (fun i _=>z0r HT r A ro rl B N i) hb (U:=fun F W=>UG r2 q2 F W (N.u i)) hu hg).same (T2:=nodeP UG OG LG r A ro rl (fun j=>if j=i then (r2,q2) else B j) N) (fun k hk F W hF=>by
  unfold swapP at hF
  match k,hk,hF with
  | 0,_,hF=>rw [if_neg (by omega)] at hF;exact hF
  | 1,_,hF=>rw [if_neg (by omega)] at hF;exact hF
  | 2,_,hF=>rw [if_neg (by omega)] at hF;exact hF
  | j+3,_,hF =>
   by_cases e:j=i
   ·subst e
    rw [if_pos rfl] at hF
    show UG (if j=j then (r2,q2) else B j).1 (if j=j then (r2,q2) else B j).2 F W (N.u j)
    rw [if_pos rfl]
    exact hF
   ·rw [if_neg (by omega)] at hF
    show UG (if j=i then (r2,q2) else B j).1 (if j=i then (r2,q2) else B j).2 F W (N.u j)
    rw [if_neg e]
    exact hF)
 obtain ⟨F,h2f,hFG,huse⟩:=q1.use (fun i _=>z0r HT r A ro rl _ N i) (i:=2) (by omega)
 have hA:w2.heap[r]?=some (.cells A 118 (0,0)):=h2f.1
 have hF2:∀ k,F k↔k=r:=h2f.2
 have hrG:=hFG r ((hF2 r).2 rfl)
 have hk:Kept (fun k=>k≠r) w2 (w2.setCell ⟨r,i,none⟩ (ptrV r2)):=(Kept.refl _ w2).setCell (p:=⟨r,i,none⟩) (fun h=>h rfl) _
 have hl:Leaves (fun (F:Nat→Prop) (W:World) (_:Unit)=>W.heap[r]?=some (.cells (A.setIfInBounds i (ptrV r2)) 118 (0,0))∧∀ k,F k↔k=r) F w2 (w2.setCell ⟨r,i,none⟩ (ptrV r2)) () :=
  ⟨F,⟨heap_setCell_same w2 r i A _ _ hA,hF2⟩,hk.mono (fun k hn e=>hn ((hF2 k).2 e)),fun k hk=>.inl hk⟩
 obtain ⟨G',s1,s2,s3⟩:=huse _ (fun (G':Nat→Prop) (W:World) (_:Unit)=>BundG (i+1+3) (nodeP UG OG LG r (A.setIfInBounds i (ptrV r2)) ro rl (fun j=>if j=i then (r2,q2) else B j) N) G' W) _ () () (fun G' W h=>BundG.same (n:=i+1+3) (show BundG (i+1+3) _ G' W from (by rw [show i+1+3=i+3+1 by omega];exact h)) (fun k _ F W hF=>by
  match k,hF with
  | 0,hF=>exact hF
  | 1,hF=>exact hF
  | 2,hF=>exact hF
  | j+3,hF=>exact hF)) hl
 have z0:=hb0.size
 have z1:=hb.size
 refine ⟨_,ro,rl,_,G',hT.put hi (r2,q2),s1,fun k hk=>?_,?_⟩
 ·rcases s3 k hk with (h | h) | h
  ·exact hG k h
  ·have:=hg k h;omega
  ·omega
 ·refine (hb0.trans (hb.mono z0)).trans (hk.toBelow (by omega) (fun k hk e=>?_))
  rcases hrG with h | h
  ·have:=hG r h;omega
  ·have:=hg r h;omega
structure AppSays (AG:Nat→(Nat→Prop)→World→Ap→Prop):Prop where
 thing:∀ b,Thing (AG b)
 new:∀ (ep:Int) (ao:Option Addr) (cap:Nat) (L:List (List Int)) (rec:ByteArray) (w:World),CL w ao L→fewL L→(ao=none→cap=0)→L.length≤cap→i64w ep→rec.size≤1000000→Calls Tryz.prog 38 #[.agg #[.int .i64 ep,.slice ao L.length cap],.string rec] w fun e w'=>∃ (b:Nat) (G:Nat→Prop),e=.returned (ptrP b)∧AG b G w' (newAp ep L rec)∧(∀ k,G k→w.heap.size≤k)∧Below w.heap.size w w'
 ask:∀ (b:Nat) (G:Nat→Prop) (w:World) (a:Ap),AG b G w a→Calls Tryz.prog 39 #[ptrP b] w fun e w'=>e=.returned (.tuple #[askV a.ask,.bool a.asks])∧Leaves (AG b) G w w' a
 hear:∀ (b:Nat) (G:Nat→Prop) (w:World) (a:Ap) (x:An) (ao:Option Addr) (cap:Nat) (c:Bool),AG b G w a→fewL x.L→i64w x.pe→(∀ W,Kept (fun k=>¬ G k) w W→CL W ao x.L)→Calls Tryz.prog 40 #[ptrP b,ansV x ao cap,.bool c] w fun e w'=>e=.returned (.tuple #[])∧Leaves (AG b) G w w' (a.hear x c)
 over:∀ (b:Nat) (G:Nat→Prop) (w:World) (a:Ap),AG b G w a→Calls Tryz.prog 42 #[ptrP b] w fun e w'=>e=.returned (.tuple #[.int .i64 a.overA,.int .i64 a.overE,.bool a.overB])∧Below w.heap.size w w'
 nil_ask:∀ (w:World),Calls Tryz.prog 39 #[.pointer none] w fun e w'=>e=.returned (.tuple #[askV zeroK,.bool false])∧Below w.heap.size w w'
 nil_hear:∀ (x:An) (ao:Option Addr) (cap:Nat) (c:Bool) (w:World),Calls Tryz.prog 40 #[.pointer none,ansV x ao cap,.bool c] w fun e w'=>e=.returned (.tuple #[])∧Below w.heap.size w w'
 nil_over:∀ (w:World),Calls Tryz.prog 42 #[.pointer none] w fun e w'=>e=.returned (.tuple #[.int .i64 0,.int .i64 1,.bool true])∧Below w.heap.size w w'
structure FetchSays (FG:Nat→(Nat→Prop)→World→Fe→Prop):Prop where
 thing:∀ b,Thing (FG b)
 new:∀ (ep:Int) (ao:Option Addr) (cap:Nat) (L:List (List Int)) (addr:Int) (fill:Bool) (w:World),CL w ao L→fewL L→(ao=none→cap=0)→L.length≤cap→i64w ep→i64w addr→Calls Tryz.prog 66 #[.agg #[.int .i64 ep,.slice ao L.length cap],.int .i64 addr,.bool fill] w fun e w'=>∃ (b:Nat) (G:Nat→Prop),e=.returned (ptrP b)∧FG b G w' (newFe ep L addr fill)∧(∀ k,G k→w.heap.size≤k)∧Below w.heap.size w w'
 ask:∀ (b:Nat) (G:Nat→Prop) (w:World) (f:Fe),FG b G w f→Calls Tryz.prog 67 #[ptrP b] w fun e w'=>e=.returned (.tuple #[askV f.ask,.bool f.asks])∧Leaves (FG b) G w w' f
 hear:∀ (b:Nat) (G:Nat→Prop) (w:World) (f:Fe) (x:An) (ao:Option Addr) (cap:Nat) (c:Bool),FG b G w f→fewL x.L→i64w x.pe→x.data.size≤1000000→(∀ W,Kept (fun k=>¬ G k) w W→CL W ao x.L)→Calls Tryz.prog 68 #[ptrP b,ansV x ao cap,.bool c] w fun e w'=>e=.returned (.tuple #[])∧Leaves (FG b) G w w' (f.hear x c)
 over:∀ (b:Nat) (G:Nat→Prop) (w:World) (f:Fe),FG b G w f→Calls Tryz.prog 69 #[ptrP b] w fun e w'=>e=.returned (.tuple #[.int .i64 f.overK,.string f.overS,.int .i64 f.overE,.bool f.overB])∧Below w.heap.size w w'
 nil_ask:∀ (w:World),Calls Tryz.prog 67 #[.pointer none] w fun e w'=>e=.returned (.tuple #[askV zeroK,.bool false])∧Below w.heap.size w w'
 nil_hear:∀ (x:An) (ao:Option Addr) (cap:Nat) (c:Bool) (w:World),Calls Tryz.prog 68 #[.pointer none,ansV x ao cap,.bool c] w fun e w'=>e=.returned (.tuple #[])∧Below w.heap.size w w'
 nil_over:∀ (w:World),Calls Tryz.prog 69 #[.pointer none] w fun e w'=>e=.returned (.tuple #[.int .i64 0,.string ⟨#[]⟩,.int .i64 1,.bool true])∧Below w.heap.size w w'
theorem ask_akF (f:Fe):f.ask=⟨f.ask.kind,f.ask.unit,f.ask.epoch,f.ask.page,0,0,f.ask.data,0,[],none,0⟩:=by
 unfold Fe.ask
 repeat' split
 all_goals rfl
def askedR (r:Rf) (ao:Option Addr) (cap:Nat):Value:=.tuple #[askV ⟨r.ask.kind,r.ask.unit,r.ask.epoch,r.ask.page,0,0,r.ask.data,r.ask.pe,r.ask.L,ao,cap⟩,.bool r.asks]
structure RfmSays (RG:Nat→(Nat→Prop)→World→Rf→Prop):Prop where
 thing:∀ b,Thing (RG b)
 new:∀ (ep:Int) (ao:Option Addr) (cap:Nat) (L:List (List Int)) (w:World),CL w ao L→fewL L→(ao=none→cap=0)→L.length≤cap→i64w ep→Calls Tryz.prog 10 #[.agg #[.int .i64 ep,.slice ao L.length cap]] w fun e w'=>∃ (b:Nat) (G:Nat→Prop),e=.returned (ptrP b)∧RG b G w' (newRf ep L)∧(∀ k,G k→w.heap.size≤k)∧Below w.heap.size w w'
 ask:∀ (b:Nat) (G:Nat→Prop) (w:World) (r:Rf),RG b G w r→Calls Tryz.prog 13 #[ptrP b] w fun e w'=>ToldBy (askedR r) (RG b) G w r (anL 0 0 r.ask.L) e w'
 hear:∀ (b:Nat) (G:Nat→Prop) (w:World) (r:Rf) (x:An) (ao:Option Addr) (cap:Nat) (c:Bool),RG b G w r→fewL x.L→i64w x.pe→(r.at_=2→i64w x.n)→(∀ W,Kept (fun k=>¬ G k) w W→CL W ao x.L)→Calls Tryz.prog 21 #[ptrP b,ansV x ao cap,.bool c] w fun e w'=>e=.returned (.tuple #[])∧Leaves (RG b) G w w' (r.hear x c)
 over:∀ (b:Nat) (G:Nat→Prop) (w:World) (r:Rf),RG b G w r→Calls Tryz.prog 15 #[ptrP b] w fun e w'=>e=.returned (.tuple #[.int .i64 r.overE,.bool r.overB])∧Below w.heap.size w w'
 skip:∀ (b:Nat) (G:Nat→Prop) (w:World) (r:Rf),RG b G w r→Calls Tryz.prog 19 #[ptrP b] w fun e w'=>e=.returned (.bool r.mays)∧Leaves (RG b) G w w' r.skip
 nil_ask:∀ (w:World),Calls Tryz.prog 13 #[.pointer none] w fun e w'=>e=.returned (.tuple #[askV zeroK,.bool false])∧Below w.heap.size w w'
 nil_hear:∀ (x:An) (ao:Option Addr) (cap:Nat) (c:Bool) (w:World),Calls Tryz.prog 21 #[.pointer none,ansV x ao cap,.bool c] w fun e w'=>e=.returned (.tuple #[])∧Below w.heap.size w w'
 nil_over:∀ (w:World),Calls Tryz.prog 15 #[.pointer none] w fun e w'=>e=.returned (.tuple #[.int .i64 1,.bool true])∧Below w.heap.size w w'
 nil_skip:∀ (w:World),Calls Tryz.prog 19 #[.pointer none] w fun e w'=>e=.returned (.bool false)∧Below w.heap.size w w'
end Go.Proofs.YtkefpbcifcjibaaGreat
namespace Go.Proofs.YtkefpbcifcjibaaGreat
open Go.RowKit Go.Maps
theorem lp_turn (b:Nat) (G:Nat→Prop) (w:World) (y:Ly) (h:LB b G w y) (hy:y.L.length≤255∧∀ c ∈ y.L,c.length≤255) (e:Int) (ao:Option Addr) (cap:Nat) (L:List (List Int)) (hA:∀ W,Kept (fun k=>¬ G k) w W→CL W ao L) (hL:L.length≤255∧∀ c ∈ L,c.length≤255) (hu:y.used.length≤100000) (hm:y.may e L=true) :
  Calls Tryz.prog 198 #[ptrL b,.agg #[.int .i64 e,.slice ao L.length cap]] w fun x w'=>Tells (LB b) G w ⟨e,L,y.used ++ unitsR L,y.mark,y.size,y.n⟩ (anL 0 e L) x w':=by
 have HS:=Lh (z13 (z0l b) h 24 49 #[.int .i64 e,.slice ao L.length cap] zeroE)
 unfold zeroE at HS
 have HA:=Lh hA
 have HY:=Lh hy
 have HL:=Lh hL
 have HU:=Lh hu
 have HM:=Lh hm
 have CM:=Lh (fun (W:World) H hH hk=>lp_may b H W y hH hy e ao cap L (hA W hk) hL)
 rw [hm] at CM
 have CC:=Lh (fun (W:World) H hH hk=>lp_count b H W y hH e ao cap L hk hL hu)
 have CN:=Lh (fun (W:World) H hH=>lp_now b H W ⟨e,L,y.used ++ unitsR L,y.mark,y.size,y.n⟩ hH hL)
 unfold ptrL at CM CC CN
 have hbw:=h.small
 clear h hA hy hL hu hm
 unfold ptrL
 go_enter Tryz.func198,Tryz.ntmps198
 go_wp2_with (first
  | (go_at_call 200;obtain ⟨H0,hH0,_⟩:=HS.out.use;refine (CM.out _ H0 hH0 HS.out.kp).mono ?_;rintro x w1 ⟨rfl,hb1⟩;have HS1:=Lh (HS.out.below (z0l b) hb1);obtain ⟨p0,p1,_⟩:=z05 HS1.out.ask;obtain ⟨l1,l2⟩:=HS1.out.small;clear hb1 hH0)
  | (go_at_call 117;obtain ⟨H1,hH1,hk1,hU1⟩:=HS1.out.use2;refine (CC.out _ H1 hH1 (fun W hk=>HA.out W (hk1 W hk))).mono ?_;rintro x w2 ⟨rfl,hl⟩;have HS2:=Lh (hU1 (LB b) _ _ hl);clear hl hH1 hk1 hU1)
  | (go_at_call 36;obtain ⟨H2,hH2,_,hU2⟩:=HS2.out.use2;refine (CN.out _ H2 hH2).mono ?_;rintro x w3 ⟨v,rfl,hO,hb3⟩;obtain ⟨vo,vc,hv,_⟩:=hO.form;subst hv;have HS3:=Lh (hU2 (Chained (LB b) (fun k=>w2.heap.size≤k∧k < w3.heap.size) (.slice vo L.length vc) L) _ _ (chained_new (z0l b) hH2 hb3 hO));obtain ⟨⟨x0,x1,x2,x3,x4,x5,x6,x7⟩,f0,f1,f2,f3,f4,f5,f6,f7⟩:=z03 HS3.out.ans;obtain ⟨m1,m2⟩:=HS3.out.small;clear hO hb3 hH2 hU2))
 exact z0k (x:=anL 0 e L) (ao:=vo) (cap:=vc) rfl (z1x HS3.out.ans _ _ _ _ _ _ _ _) rfl rfl (z2c (x:=anL 0 e L) (fun k hk=>Nat.le_trans HS2.out.kp.size hk.1) (HS3.out.fin (z11 (z0l b) _ _ _) (z1n _ _ _ _ _ _ _ _ _ _)))
theorem lp_stay (b:Nat) (G:Nat→Prop) (w:World) (y:Ly) (h:LB b G w y) (hy:y.L.length≤255∧∀ c ∈ y.L,c.length≤255) (e:Int) (ao:Option Addr) (cap:Nat) (L:List (List Int)) (hA:∀ W,Kept (fun k=>¬ G k) w W→CL W ao L) (hL:L.length≤255∧∀ c ∈ L,c.length≤255) (hm:y.may e L=false) :
  Calls Tryz.prog 198 #[ptrL b,.agg #[.int .i64 e,.slice ao L.length cap]] w fun x w'=>Tells (LB b) G w y (anL 48 y.ep y.L) x w':=by
 have HS:=Lh (z13 (z0l b) h 24 49 #[.int .i64 e,.slice ao L.length cap] zeroE)
 unfold zeroE at HS
 have HA:=Lh hA
 have HY:=Lh hy
 have CM:=Lh (fun (W:World) H hH hk=>lp_may b H W y hH hy e ao cap L (hA W hk) hL)
 rw [hm] at CM
 have CN:=Lh (fun (W:World) H hH=>lp_now b H W y hH hy)
 unfold ptrL at CM CN
 have hbw:=h.small
 clear h hA hy hL hm
 unfold ptrL
 go_enter Tryz.func198,Tryz.ntmps198
 go_wp2_with (first
  | (go_at_call 200;obtain ⟨H0,hH0,_⟩:=HS.out.use;refine (CM.out _ H0 hH0 HS.out.kp).mono ?_;rintro x w2 ⟨rfl,hb1⟩;have HS2:=Lh (HS.out.below (z0l b) hb1);clear hb1 hH0)
  | (go_at_call 36;obtain ⟨H2,hH2,_,hU2⟩:=HS2.out.use2;refine (CN.out _ H2 hH2).mono ?_;rintro x w3 ⟨v,rfl,hO,hb3⟩;obtain ⟨vo,vc,hv,_⟩:=hO.form;subst hv;have HS3:=Lh (hU2 (Chained (LB b) (fun k=>w2.heap.size≤k∧k < w3.heap.size) (.slice vo y.L.length vc) y.L) _ _ (chained_new (z0l b) hH2 hb3 hO));obtain ⟨⟨x0,x1,x2,x3,x4,x5,x6,x7⟩,f0,f1,f2,f3,f4,f5,f6,f7⟩:=z03 HS3.out.ans;obtain ⟨m1,m2⟩:=HS3.out.small;clear hO hb3 hH2 hU2))
 exact z0k (x:=anL 48 y.ep y.L) (ao:=vo) (cap:=vc) rfl (z1x HS3.out.ans _ _ _ _ _ _ _ _) rfl rfl (z2c (x:=anL 48 y.ep y.L) (fun k hk=>Nat.le_trans HS2.out.kp.size hk.1) (HS3.out.fin (z11 (z0l b) _ _ _) (z1n _ _ _ _ _ _ _ _ _ _)))
theorem below_grown {w w':World} (h:Below w.heap.size w w'):w.grownBy w' none:=⟨h.os,h.tape,h.output,h.size,fun k hk _=>h.block k hk⟩
def Grt (n:Int) (S:List (Int × Int)) (left:Lit→Bool) (t:Int):Prop:=(t=0∨∃ x ∈ S,t=x.2 * n+x.1+1)∧∀ x ∈ S,left (klP x)=false→x.2 * n+x.1+1≤t
theorem Grt.start {n:Int} {S:List (Int × Int)} (hS:∀ x ∈ S,wfP x):Grt n S (Maps.has (setP S)) 0:=by
 refine ⟨.inl rfl,fun x hx hl=>?_⟩
 rw [setP_has hS (hS x hx),decide_eq_true hx] at hl
 cases hl
theorem met_in {S:List (Int × Int)} (hS:∀ x ∈ S,wfP x) {x:Int × Int} (hx:wfP x) {y:DataW Unit} (hat:∀ z,(setP S).atKey (klP x) z=y):x ∈ S:=by
 have h1:=has_true_of_atKey hat
 rw [setP_has hS hx] at h1
 exact of_decide_eq_true h1
theorem Grt.step {n t:Int} {S:List (Int × Int)} {left:Lit→Bool} (h:Grt n S left t) (hS:∀ x ∈ S,wfP x) {x:Int × Int} (hx:x ∈ S):Grt n S (fun z=>left z && !z.sameKey (klP x)) (max t (x.2 * n+x.1+1)):=by
 refine ⟨?_,fun y hy hl=>?_⟩
 ·rcases Int.le_total t (x.2 * n+x.1+1) with h4 | h4
  ·exact .inr ⟨x,hx,by omega⟩
  ·rw [show max t (x.2 * n+x.1+1)=t by omega];exact h.1
 ·by_cases e:y=x
  ·subst e;omega
  ·have h1:(left (klP y) && !(klP y).sameKey (klP x))=false:=hl
   rw [sameKey_ne (fun e2=>e (klP_inj (hS y hy) (hS x hx) e2))] at h1
   have:=h.2 y hy (by simpa using h1)
   omega
theorem gain_of {n i v:Int} (h:0 < v):gain n i v=(min v 4096 - 1) * n+i+1:=by
 unfold gain
 rw [if_neg (by omega)]
theorem Grt.done {K:List (Int × Int)} {L:List (List Int)} {left:Lit→Bool} {t:Int} (h:Grt L.length (endsL K L L.length 0) left t) (h0:∀ z,left z=false) (ht:0≤t) (hK:(K.map (·.1)).Nodup):t=tailN L K L.length:=by
 refine tailN_of ht ?_ (fun i hi u hu e he hf=>?_)
 ·rcases h.1 with h1 | ⟨x,hx,h1⟩
  ·exact .inl h1
  ·obtain ⟨i,hi,u,hu,hp,rfl⟩:=endsL_mem hx
   obtain ⟨e,he,hf,hv,hpg⟩:=valK_pos hp
   have hil:i < L.length:=by
    rcases Nat.lt_or_ge i L.length with h5 | h5
    ·exact h5
    ·rw [show L.getD i []=[] from by simp [h5]] at hu;cases hu
   exact .inr ⟨i,hil,u,hu,e,he,hf,by rw [gain_of hv,← hpg];exact h1⟩
 ·by_cases hv:0 < e.2
  ·have hp:pagK K u=min e.2 4096:=by
    unfold pagK
    rw [← hf,valK_mem hK he]
    split <;> omega
   have:=h.2 _ (endsL_in (K:=K) hi hu (by rw [hp];omega)) (h0 _)
   rw [gain_of hv,← hp]
   exact this
  ·unfold gain
   rw [if_pos (by omega)]
   exact ht
theorem ends_addr {ep:Int} {K:List (Int × Int)} {L:List (List Int)} (hg:goodB ep L=true) {x:Int × Int} (hx:x ∈ endsL K L L.length 0):addrV ep L x.1 x.2=.tuple #[.int .i64 (x.2 * L.length+x.1),.bool true]∧0≤x.2 * (L.length:Int)+x.1∧x.2 * (L.length:Int)+x.1 < 16384:=by
 obtain ⟨n1,n4⟩:=z0v hg
 obtain ⟨i,hi,u,hu,hp,rfl⟩:=endsL_mem hx
 have hil:i < L.length:=by
  rcases Nat.lt_or_ge i L.length with h5 | h5
  ·exact h5
  ·rw [show L.getD i []=[] from by simp [h5]] at hu;cases hu
 have hm:=pagK_most K u
 generalize pagK K u=p at *
 have h1:0≤(p - 1) * (L.length:Int)+i∧(p - 1) * (L.length:Int)+i < 16384:=by
  rcases z0y (n:=L.length) ⟨by omega,by omega⟩ with e | e | e | e <;> rw [e] <;> omega
 have:addrR ep L i (p - 1)=(p - 1) * L.length+i:=if_pos ⟨hg,⟨by omega,by omega⟩,⟨by omega,by omega⟩,h1.2⟩
 refine ⟨?_,h1⟩
 show addrV ep L i (p - 1)=_
 unfold addrV
 rw [this,decide_eq_true h1.1,show max ((p - 1) * (L.length:Int)+i) 0=(p - 1) * (L.length:Int)+i by omega]
theorem pTail_any (ep:Int) (ao:Option Addr) (cap:Nat) (L:List (List Int)) (tb:Nat) (K:List (Int × Int)) (w:World) (h:CL w ao L) (hl:L.length≤255∧∀ c ∈ L,c.length≤255) (hK:Tm w tb K) :
  Calls Tryz.prog 49 #[.agg #[.int .i64 ep,.slice ao L.length cap],.map (some tb)] w fun e w'=>e=.returned (.int .i64 (tailR ep L K))∧Below w.heap.size w w':=by
 have HB0:=Lh ((Below.refl w.heap.size w).alloc (Nat.le_refl _) (.cells #[.int .i64 ep,.slice ao L.length cap] 24))
 have HC:=Lh (h.below HB0.out)
 have HP:=Lh (show PB (w.alloc (.cells #[.int .i64 ep,.slice ao L.length cap] 24)) w.heap.size ep ao L.length cap from heap_alloc_new _ _)
 have HKN:=Lh (show (K.map (·.1)).Nodup from by obtain ⟨D,_,h3⟩:=hK;exact h3.once)
 have HK:=Lh (hK.below HB0.out)
 have HM:=Lh hl
 have CG:=Lh (z0m ep ao cap L _ HC.out hl)
 have hl':(L.length:Int)≤255:=by have:=hl.1;omega
 clear h hl hK
 by_cases hg:goodB ep L=true
 ·rw [hg] at CG
  rw [show tailR ep L K=tailN L K L.length from if_pos hg]
  have HAD:=Lh (fun x hx=>@ends_addr ep K L hg x hx)
  have HSW:=Lh (endsL_wf (K:=K) (L:=L) (n:=L.length) (k:=0) HM.out.1)
  clear hg
  go_enter Tryz.func49,Tryz.ntmps49
  go_wp2_with (first
   | (go_at_call 44;refine CG.out.mono ?_;rintro e w1 ⟨rfl,hb1⟩;have HB1:=Lh (HB0.out.trans (hb1.mono HB0.out.size));have HP1:=Lh (HP.out.below hb1);have HC1:=Lh (HC.out.below hb1);have HK1:=Lh (HK.out.below hb1);obtain ⟨c0,c1⟩:=HP1.out.cells;clear hb1)
   | (go_at_call 83;refine (ends_any ep ao cap L tb K w1 HC1.out HM.out HK1.out).mono ?_;rintro e w2 ⟨b,rfl,hb,⟨m,hD,_⟩,hb2⟩;have HD:=Lh hD;have HB2:=Lh (HB1.out.trans (hb2.mono HB1.out.size));have HP2:=Lh (HP1.out.below hb2);have HC2:=Lh (HC1.out.below hb2);have HBL:=Lh hD.lt;have HWB:=Lh (Nat.le_trans HB1.out.size hb);clear hb hD hb2 c0 c1)
   | (at_range;refine wpList_range_own _ rfl _ 147 rfl 150 193 place_law Tryz.underlying147 (unitElem (H:=Unit)) b _ _ rfl HD.out ?_;intro w3 hrg0 hg0 hs0))
  go_frame
  have HB3:=Lh (HB2.out.grown hg0 HB2.out.size (fun j hj=>by cases hj))
  have HX3:=Lh (show Below w2.heap.size w2 w3 from (Below.refl _ _).grown hg0 (Nat.le_refl _) (fun j hj=>by cases hj))
  have hbr:=HBL.out
  have hwb:=HWB.out
  have hw2:=HB2.out.size
  clear hg0
  go_loopw [5] (fun v wr=>∃ (left:Lit→Bool) (cnt:Nat) (t:Int),v=.int .i64 t∧Hid (wr.ranges Tryz.prog 150 (unitElem (H:=Unit)) b w2.heap.size m (setP (endsL K L L.length 0)) left cnt)∧Hid (Grt L.length (endsL K L L.length 0) left t)∧0≤t∧t≤16384∧Hid (Below w2.heap.size w2 wr)) (fun _ wr=>wr.rangeLeft b w2.heap.size)
  case atStart=>exact ⟨_,_,0,rfl,Lh hrg0,Lh (Grt.start HSW.out),by omega,by omega,HX3⟩
  case round =>
   obtain ⟨left,cnt,t,rfl,HR,HG,t0,t1,HX⟩:=hrel
   clear hrg0
   go_wp2_with (at_next;refine wpList_next_ranges (α:=Int × Int) (β:=Unit) _ rfl _ rfl 150 place_law (unitElem (H:=Unit)) (fun x=>.agg #[.int .i64 x.1,.int .i64 x.2]) (fun _=>.agg #[]) (fun key kl hkey=>by obtain ⟨x,e,_⟩:=place_inv hkey;exact ⟨x,e⟩) (fun v y hv=>⟨(),(unitElem_inv hv).1⟩) b w2.heap.size _ _ _ _ rfl HR.out ?_ ?_)
   ·intro hc0 hl0
    have HT:=Lh (HG.out.done hl0 t0 HKN.out)
    have HF:=Lh (HB2.out.trans (HX.out.mono hw2))
    go_wp2_with fail
    go_ret
    rw [← HT.out]
    exact ⟨rfl,HF.out⟩
   ·intro x1 x2 kl y1 y2 w4 cnt4 hkey hlk hv hat hrg4 hlt hg4 hs4 hen
    obtain ⟨x,e,hwf⟩:=place_inv hkey
    obtain rfl:(x1,x2)=x:=place_inj (x:=(x1,x2)) e
    obtain rfl:kl=klP (x1,x2):=Option.some.inj (hkey.symm.trans (place_key (x1,x2) hwf))
    have hin:=met_in HSW.out hwf hat
    obtain ⟨ha,hA0,hA1⟩:=HAD.out _ hin
    have hg5:=HG.out.step HSW.out hin
    simp only at ha hA0 hA1 hg5
    have HA:=Lh ha
    have HG5:=Lh hg5
    have HX4:=Lh (((HX.out.grown hg4 HX.out.size (fun j hj=>by cases hj;exact Nat.le_refl _)).alloc (HX.out.grown hg4 HX.out.size (fun j hj=>by cases hj;exact Nat.le_refl _)).size (.cells #[.int .i64 x1,.int .i64 x2] 150)))
    have HP4:=Lh (HP2.out.below HX4.out)
    have HR4:=Lh (hrg4.alloc (.cells #[.int .i64 x1,.int .i64 x2] 150))
    have CA:=Lh (pAddr_any ep ao cap L x1 x2 _ (HC2.out.below HX4.out) HM.out)
    obtain ⟨c0,c1⟩:=HP4.out.cells
    have hw4:w2.heap.size < w4.heap.size:=hrg4.lt
    clear e hkey hlk hv hat hrg4 hg4 hwf hin ha hg5
    generalize x2 * (L.length:Int)+x1=A at *
    obtain ⟨t2,ht2⟩:∃ t2,max t (A+1)=t2:=⟨_,rfl⟩
    have h5:max t (A+1)=t2:=ht2
    rw [h5] at HG5
    have t20:0≤t2:=by omega
    have t21:t2≤16384:=by omega
    clear h5
    go_wp2_with (go_at_call 84;refine CA.out.mono ?_;rintro e w5 ⟨rfl,hb5⟩;rw [HA.out];have HR5:=Lh (HR4.out.kept (below_grown hb5) (by simp) (by simp));have HX5:=Lh (HX4.out.trans (hb5.mono HX4.out.size));clear hb5 c0 c1)
    go_roundw
    case rel=>exact ⟨_,cnt4,t2,rfl,HR5,HG5,t20,t21,HX5⟩
    case measure=>rw [HR5.out.left_eq,HR.out.left_eq];exact hlt
 ·rw [show tailR ep L K=0 from if_neg hg]
  rw [Bool.eq_false_iff.2 hg] at CG
  clear hg
  go_enter Tryz.func49,Tryz.ntmps49
  go_wp2_with (go_at_call 44;refine CG.out.mono ?_;rintro e w1 ⟨rfl,hb1⟩;have HB1:=Lh (HB0.out.trans (hb1.mono HB0.out.size));clear hb1)
  go_ret
  exact ⟨rfl,HB1.out⟩
end Go.Proofs.YtkefpbcifcjibaaGreat
