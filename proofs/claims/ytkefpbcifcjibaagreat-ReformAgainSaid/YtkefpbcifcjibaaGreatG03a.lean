/- Joined texts. -/
import Derived.Deep.Slices
import Derived.Test.YtkefpbcifcjibaaGreatG02a
import Derived.Lib.Strings
import Derived.Lib.BufferWrite
import Derived.Lib.UnsafeStr
import Derived.Laws.MakeOwn
import Derived.WalkKit
import Derived.DeepKeys4
import Derived.Maps.Own
import Derived.Maps.OwnOps
import Derived.Maps.OwnSet
import Derived.Maps.Views
set_option linter.unusedVariables false
set_option maxRecDepth 20000
set_option maxHeartbeats 16000000
namespace Go.Proofs.YtkefpbcifcjibaaGreat
open Go.ChangeShapes Go.WideShapes Go.ChangeAt Go.RowKit
theorem addr_plus (b o n:Nat):(⟨b,o,none⟩:Addr).add n=⟨b,o+n,none⟩:=by
 unfold Addr.add
 split
 ·next h=>rw [h];rfl
 ·rfl
theorem cell_spot {w:World} {a:Addr} {v:Value} (h:w.cell? a=some v):a.spot=none:=by
 unfold World.cell? at h
 split at h
 ·split at h
  ·cases h
  ·next hs=>simpa using hs
 ·cases h
section
variable {H:Type} {enc:TypeId × Value→H} {P:Program} {w:World} {base:Nat} {spare:Nat→Bool} {held:Bool}
end
end Go.Proofs.YtkefpbcifcjibaaGreat
namespace Go.Proofs.YtkefpbcifcjibaaGreat
open Go.RowKit
theorem infoU8c:(Tryz.prog.info? 5).map (fun i=>(i.zero,i.size,i.bytes))=some (some (.int .u8 0),1,1):=by kernel_rfl
theorem clone_steps (s:ByteArray) (w:World) (hlim:s.size≤1099511627776) (h0:s.size≠0) :
  ∃ (M Y:Array Value),(∀ W:World,(Instr.makeSlice 57 (.int .i64 (s.size:Int)) (.int .i64 (s.size:Int))).run Tryz.prog W=.ok (.slice (some ⟨W.heap.size,0,none⟩) s.size s.size) (W.alloc (.cells M 5)))∧
   (Builtin.copy_ #[57,9] 3 #[.slice (some ⟨w.heap.size,0,none⟩) s.size s.size,.string s]).run Tryz.prog (w.alloc (.cells M 5))=.ok (goInt s.size) ((w.alloc (.cells M 5)).setRow w.heap.size Y)∧
   (Builtin.unsafeString_ #[216,3] 9 #[.pointer (some ⟨w.heap.size,0,none⟩),.int .i64 (s.size:Int)]).run Tryz.prog ((w.alloc (.cells M 5)).setRow w.heap.size Y)=.ok (.string s) (((w.alloc (.cells M 5)).setRow w.heap.size Y).freeze ⟨w.heap.size,0,none⟩ s.size)∧
   Below w.heap.size w (((w.alloc (.cells M 5)).setRow w.heap.size Y).freeze ⟨w.heap.size,0,none⟩ s.size):=by
 obtain ⟨i0,hi,hz0,hz1,hz2⟩:=info_parts infoU8c
 have hinfo:(Tryz.prog.info? 5).map (·.size)=some 1:=by rw [hi];simp [hz1]
 have hM:(madeCells (Value.int .u8 0).cells (s.size * 1)).size=s.size:=by rw [size_madeCells];simp
 have hYl:((madeCells (Value.int .u8 0).cells (s.size * 1)).toList.take 0 ++ Lib.byteCells s.data.toList ++ (madeCells (Value.int .u8 0).cells (s.size * 1)).toList.drop (0+s.size))=Lib.byteCells s.data.toList:=by
  rw [List.take_zero,List.nil_append,List.drop_of_length_le (by rw [Array.length_toList,hM];omega),List.append_nil]
 refine ⟨madeCells (Value.int .u8 0).cells (s.size * 1),(Lib.byteCells s.data.toList).toArray,fun W=>?_,?_,?_,?_⟩
 ·have h:=run_make (P:=Tryz.prog) W 57 5 i0 (.int .u8 0) Tryz.underlying57 hi hz0 .i64 .i64 (s.size:Int) (s.size:Int) (by omega) (by omega) (by rw [hz2];omega) (by omega)
  simpa [hz1] using h
 ·have h:=Lib.run_copy_row_string (P:=Tryz.prog) (w.alloc (.cells (madeCells (Value.int .u8 0).cells (s.size * 1)) 5)) 57 9 3 5 w.heap.size 0 s.size s.size s _ 5 Tryz.underlying57 hinfo (heap_alloc_new w _) (Nat.le_refl _) (by rw [hM];omega)
  rw [hYl] at h
  exact h
 ·have hg:((w.alloc (.cells (madeCells (Value.int .u8 0).cells (s.size * 1)) 5)).setRow w.heap.size (Lib.byteCells s.data.toList).toArray).heap[w.heap.size]?=some (.cells (Lib.byteCells s.data.toList).toArray 5 (0,0)):=setRow_heap _ _ _ _ 5 (0,0) (heap_alloc_new w _)
  have hs:(Lib.byteCells s.data.toList).toArray.size=s.size:=by rw [List.size_toArray,Lib.byteCells_length,← Lib.size_eq]
  have h:=Lib.run_unsafeString_row (P:=Tryz.prog) _ 216 3 9 5 Tryz.underlying216 (by kernel_rfl) w.heap.size s.size (by unfold World.shape?;rw [hg];show some (_,(Lib.byteCells s.data.toList).toArray.size)=_;rw [hs]) s.data.toList (fun e=>h0 (by rw [Lib.size_eq,e];rfl)) (by rw [← Lib.size_eq];exact Nat.le_refl _) (by rw [← Lib.size_eq];omega)
   (fun j x hx=>Lib.cells_of_row hg s.size j _ (by rw [List.take_of_length_le (by rw [Array.length_toList,hs];exact Nat.le_refl _)];simp [Lib.byteCells,hx]))
  rw [← Lib.size_eq] at h
  exact h
 ·have hb:Below w.heap.size (w.alloc (.cells (madeCells (Value.int .u8 0).cells (s.size * 1)) 5)) ((w.alloc (.cells (madeCells (Value.int .u8 0).cells (s.size * 1)) 5)).setRow w.heap.size (Lib.byteCells s.data.toList).toArray):=⟨rfl,rfl,rfl,by simp,fun k hk=>setRow_other _ _ _ _ (by omega)⟩
  exact Lib.below_freeze ((((Below.refl _ w).alloc (Nat.le_refl _) _)).trans hb) (p:=⟨w.heap.size,0,none⟩) (Nat.le_refl _) _
theorem clone_in (s:ByteArray) (w:World) (hlim:s.size≤1099511627776) :
  Calls Tryz.prog 108 #[.string s] w fun e w'=>e=.returned (.string s)∧Below w.heap.size w w':=by
 by_cases h0:s.size=0
 ·obtain rfl:s=⟨#[]⟩:=ByteArray.ext (Array.eq_empty_of_size_eq_zero h0)
  go_enter Tryz.func108,Tryz.ntmps108
  go_wp2
  go_ret
  exact ⟨rfl,Below.refl _ _⟩
 ·obtain ⟨M,Y,hmk,hcp,hus,hb⟩:=clone_steps s w hlim h0
  have d0:((s.size:Int) == 0)=false:=by simpa [beq_eq_false_iff_ne] using h0
  go_enter Tryz.func108,Tryz.ntmps108
  go_wp2
  go_ret
  exact ⟨rfl,hb⟩
theorem clone_any (s:ByteArray) (w:World) (hlim:s.size≤1099511627776) :
  Calls Tryz.prog 71 #[.string s] w fun e w'=>e=.returned (.string s)∧Below w.heap.size w w':=by
 go_enter Tryz.func71,Tryz.ntmps71
 go_wp2_with (go_at_call 108;refine (clone_in s _ hlim).mono ?_;rintro e w1 ⟨rfl,hb1⟩)
 go_ret
 exact ⟨rfl,hb1⟩
structure Thing {α:Type} (T:(Nat→Prop)→World→α→Prop):Prop where
 lt:∀ {G:Nat→Prop} {w:World} {a:α},T G w a→∀ k,G k→k < w.heap.size
 keep:∀ {G S:Nat→Prop} {w w':World} {a:α},T G w a→Kept S w w'→(∀ k,G k→S k)→T G w' a
def Leaves {α:Type} (T:(Nat→Prop)→World→α→Prop) (G:Nat→Prop) (w w':World) (a:α):Prop:=∃ G':Nat→Prop,T G' w' a∧Kept (fun k=>¬ G k) w w'∧∀ k,G' k→G k∨w.heap.size≤k
section
variable {α β:Type} {T:(Nat→Prop)→World→α→Prop} {U:(Nat→Prop)→World→β→Prop} {X Y G:Nat→Prop} {w w':World} {a a':α} {b b':β}
theorem Leaves.same (hT:Thing T) (h:T G w a) (hb:Below w.heap.size w w'):Leaves T G w w' a :=
 ⟨G,hT.keep h (Kept.ofBelow hb (fun _=>True)) (fun _ _=>trivial),Kept.ofBelow hb _,fun _ hk=>.inl hk⟩
theorem Leaves.below (hT:Thing T) {w2:World} (h:Leaves T G w w' a) (hb:Below w'.heap.size w' w2):Leaves T G w w2 a:=by
 obtain ⟨G',h1,h2,h3⟩:=h
 exact ⟨G',hT.keep h1 (Kept.ofBelow hb (fun _=>True)) (fun _ _=>trivial),h2.below hb,h3⟩
theorem Leaves.ahead {w0:World} (hG:∀ k,G k→k < w0.heap.size) (hb:Below w0.heap.size w0 w) (h:Leaves T G w w' a):Leaves T G w0 w' a:=by
 obtain ⟨G',h1,h2,h3⟩:=h
 exact ⟨G',h1,(Kept.ofBelow hb _).trans h2,fun k hk=>(h3 k hk).imp id (fun h=>Nat.le_trans hb.size h)⟩
def Solo (T:(Nat→Prop)→World→α→Prop) (X:Nat→Prop) (w:World) (a:α):Prop:=(∀ k,X k→k < w.heap.size)∧∃ F:Nat→Prop,T F w a∧∀ k,X k→¬ F k
def Side (T:(Nat→Prop)→World→α→Prop) (U:(Nat→Prop)→World→β→Prop) (X:Nat→Prop) (w:World) (a:α) (b:β):Prop :=
 (∀ k,X k→k < w.heap.size)∧∃ F G:Nat→Prop,T F w a∧U G w b∧(∀ k,X k→¬ F k∧¬ G k)∧∀ k,F k→¬ G k
theorem Solo.below (hT:Thing T) (h:Solo T X w a) (hb:Below w.heap.size w w'):Solo T X w' a:=by
 obtain ⟨h1,F,h2,h3⟩:=h
 exact ⟨fun k hk=>Nat.lt_of_lt_of_le (h1 k hk) hb.size,F,hT.keep h2 (Kept.ofBelow hb (fun _=>True)) (fun _ _=>trivial),h3⟩
theorem Solo.less (h:Solo T X w a) (hy:∀ k,Y k→X k):Solo T Y w a:=by
 obtain ⟨h1,F,h2,h3⟩:=h
 exact ⟨fun k hk=>h1 k (hy k hk),F,h2,fun k hk=>h3 k (hy k hk)⟩
theorem Side.below (hT:Thing T) (hU:Thing U) (h:Side T U X w a b) (hb:Below w.heap.size w w'):Side T U X w' a b:=by
 obtain ⟨h1,F,G,h2,h3,h4,h5⟩:=h
 exact ⟨fun k hk=>Nat.lt_of_lt_of_le (h1 k hk) hb.size,F,G,hT.keep h2 (Kept.ofBelow hb (fun _=>True)) (fun _ _=>trivial),hU.keep h3 (Kept.ofBelow hb (fun _=>True)) (fun _ _=>trivial),h4,h5⟩
theorem Side.less (h:Side T U X w a b) (hy:∀ k,Y k→X k):Side T U Y w a b:=by
 obtain ⟨h1,F,G,h2,h3,h4,h5⟩:=h
 exact ⟨fun k hk=>h1 k (hy k hk),F,G,h2,h3,fun k hk=>h4 k (hy k hk),h5⟩
theorem Side.beside (hT:Thing T) (hU:Thing U) (h:Side T U X w a b) (x:Obj):Side T U (fun k=>X k∨k=w.heap.size) (w.alloc x) a b:=by
 have hb:Below w.heap.size w (w.alloc x):=(Below.refl _ _).alloc (Nat.le_refl _) x
 obtain ⟨h1,F,G,h2,h3,h4,h5⟩:=h
 refine ⟨fun k hk=>?_,F,G,hT.keep h2 (Kept.ofBelow hb (fun _=>True)) (fun _ _=>trivial),hU.keep h3 (Kept.ofBelow hb (fun _=>True)) (fun _ _=>trivial),fun k hk=>?_,h5⟩
 ·rcases hk with hk | hk
  ·exact Nat.lt_of_lt_of_le (h1 k hk) hb.size
  ·rw [hk];simp
 ·rcases hk with hk | hk
  ·exact h4 k hk
  ·rw [hk]
   exact ⟨fun hf=>Nat.lt_irrefl _ (hT.lt h2 _ hf),fun hg=>Nat.lt_irrefl _ (hU.lt h3 _ hg)⟩
theorem Side.made (hT:Thing T) (h:Solo T X w a) (hb:Below w.heap.size w w') (hu:U G w' b) (hG:∀ k,G k→w.heap.size≤k):Side T U X w' a b:=by
 obtain ⟨h1,F,h2,h3⟩:=h
 refine ⟨fun k hk=>Nat.lt_of_lt_of_le (h1 k hk) hb.size,F,G,hT.keep h2 (Kept.ofBelow hb (fun _=>True)) (fun _ _=>trivial),hu,fun k hk=>⟨h3 k hk,fun hg=>?_⟩,fun k hf hg=>?_⟩
 ·have:=h1 k hk;have:=hG k hg;omega
 ·have:=hT.lt h2 k hf;have:=hG k hg;omega
section
variable {P:Program} {fn:FuncId} {args:Array Value} {R:Ending→Prop}
theorem solo_call (hT:Thing T) (h:Solo T X w a) (hc:∀ F:Nat→Prop,T F w a→Calls P fn args w fun e w'=>R e∧Leaves T F w w' a'):Calls P fn args w fun e w'=>R e∧Solo T X w' a'∧Kept X w w':=by
 obtain ⟨h1,F,h2,h3⟩:=h
 refine (hc F h2).mono ?_
 rintro e w' ⟨he,F',r1,r2,r3⟩
 refine ⟨he,⟨fun k hk=>Nat.lt_of_lt_of_le (h1 k hk) r2.size,F',r1,fun k hk hf=>?_⟩,r2.mono h3⟩
 rcases r3 k hf with h | h
 ·exact h3 k hk h
 ·have:=h1 k hk;omega
theorem side_left (hT:Thing T) (hU:Thing U) (h:Side T U X w a b) (hc:∀ F:Nat→Prop,T F w a→Calls P fn args w fun e w'=>R e∧Leaves T F w w' a'):Calls P fn args w fun e w'=>R e∧Side T U X w' a' b∧Kept X w w':=by
 obtain ⟨h1,F,G,h2,h3,h4,h5⟩:=h
 refine (hc F h2).mono ?_
 rintro e w' ⟨he,F',r1,r2,r3⟩
 refine ⟨he,⟨fun k hk=>Nat.lt_of_lt_of_le (h1 k hk) r2.size,F',G,r1,hU.keep h3 r2 (fun k hg hf=>h5 k hf hg),fun k hk=>⟨fun hf=>?_,(h4 k hk).2⟩,fun k hk hg=>?_⟩,r2.mono (fun k hk=>(h4 k hk).1)⟩
 ·rcases r3 k hf with h | h
  ·exact (h4 k hk).1 h
  ·have:=h1 k hk;omega
 ·rcases r3 k hk with h | h
  ·exact h5 k h hg
  ·have:=hU.lt h3 k hg;omega
theorem Side.swap (h:Side T U X w a b):Side U T X w b a:=by
 obtain ⟨h1,F,G,h2,h3,h4,h5⟩:=h
 exact ⟨h1,G,F,h3,h2,fun k hk=>⟨(h4 k hk).2,(h4 k hk).1⟩,fun k hg hf=>h5 k hf hg⟩
theorem side_right (hT:Thing T) (hU:Thing U) (h:Side T U X w a b) (hc:∀ G:Nat→Prop,U G w b→Calls P fn args w fun e w'=>R e∧Leaves U G w w' b'):Calls P fn args w fun e w'=>R e∧Side T U X w' a b'∧Kept X w w' :=
 (side_left hU hT h.swap hc).mono fun e w' ⟨he,h1,h2⟩=>⟨he,h1.swap,h2⟩
end
end
end Go.Proofs.YtkefpbcifcjibaaGreat
namespace Go.Proofs.YtkefpbcifcjibaaGreat
open Go.RowKit Go.Maps
section
variable {P:Program}
theorem lits_int {d:Nat} {t:TypeId} (ht:P.underlying t=some (.int .i64)) {u:Int} (hu:(Lit.int .i64 u).wf=true):P.keyLits (d+1) t [.int .i64 u]=some [.int .i64 u]:=by
 simp [Program.keyLits,ht,hu]
theorem key_one {k ti:TypeId} {f0:Field} (hk:P.underlying k=some (.struct #[f0])) (hc:P.cellsOf k=1) (hn:(f0.name != "_")=true) (h0:(f0.offset,f0.type)=(0,ti)) (ci:P.cellsOf ti=1) (ui:P.underlying ti=some (.int .i64))
  (hkt:P.keyType k=true) {n:Nat} (hs:P.types.size=n+1) {u:Int} (hu:(Lit.int .i64 u).wf=true):keyOf P k (.agg #[.int .i64 u])=some (.string (keyBytes [.int .i64 u])):=by
 have e0:f0.offset=0:=congrArg Prod.fst h0
 have e1:f0.type=ti:=congrArg Prod.snd h0
 unfold keyOf
 rw [hk]
 simp only [hkt,Value.formed,hk,hc,Bool.true_and]
 rw [if_pos (by rfl),hs]
 have:P.keyLits (n+1+1) k [.int .i64 u]=some [.int .i64 u]:=by
  unfold Program.keyLits
  rw [hk]
  simp [hc,hn,e0,e1,ci,lits_int ui hu]
 simp only [Value.cells]
 rw [this]
 rfl
theorem key_two {k ti:TypeId} {f0 f1:Field} (hk:P.underlying k=some (.struct #[f0,f1])) (hc:P.cellsOf k=2) (hn0:(f0.name != "_")=true) (hn1:(f1.name != "_")=true) (h0:(f0.offset,f0.type)=(0,ti)) (h1:(f1.offset,f1.type)=(1,ti)) (ci:P.cellsOf ti=1) (ui:P.underlying ti=some (.int .i64))
  (hkt:P.keyType k=true) {n:Nat} (hs:P.types.size=n+1) {u v:Int} (hu:(Lit.int .i64 u).wf=true) (hv:(Lit.int .i64 v).wf=true):keyOf P k (.agg #[.int .i64 u,.int .i64 v])=some (.string (keyBytes [.int .i64 u,.int .i64 v])):=by
 have e0:f0.offset=0:=congrArg Prod.fst h0
 have e1:f0.type=ti:=congrArg Prod.snd h0
 have e2:f1.offset=1:=congrArg Prod.fst h1
 have e3:f1.type=ti:=congrArg Prod.snd h1
 unfold keyOf
 rw [hk]
 simp only [hkt,Value.formed,hk,hc,Bool.true_and]
 rw [if_pos (by rfl),hs]
 have:P.keyLits (n+1+1) k [.int .i64 u,.int .i64 v]=some [.int .i64 u,.int .i64 v]:=by
  unfold Program.keyLits
  rw [hk]
  simp [hc,hn0,hn1,e0,e1,e2,e3,ci,lits_int ui hu,lits_int ui hv]
 simp only [Value.cells]
 rw [this]
 rfl
def setD (kl:Int→Lit) (S:List Int):DataW Unit:=setOf (.agg []) (S.map kl)
theorem setD_snoc (kl:Int→Lit) (S:List Int) (u:Int):setD kl (S ++ [u])=(setD kl S).put (kl u) (.agg []):=by
 unfold setD
 rw [List.map_append]
 exact setOf_snoc _ _ _
theorem setD_has {k:TypeId} (K:Keyed P k) {val:Int→Value} {kl:Int→Lit} (hkey:∀ u,(Lit.int .i64 u).wf=true→keyOf P k (val u)=some (kl u)) (hinj:∀ u v,val u=val v→u=v)
  {S:List Int} (hS:∀ u ∈ S,(Lit.int .i64 u).wf=true) {u:Int} (hu:(Lit.int .i64 u).wf=true):Maps.has (setD kl S) (kl u)=decide (u ∈ S):=by
 unfold setD
 rw [has_setOf]
 ·rw [Bool.eq_iff_iff,List.any_eq_true,decide_eq_true_eq]
  constructor
  ·rintro ⟨l,hl,hs⟩
   obtain ⟨v,hv,rfl⟩:=List.mem_map.1 hl
   have hl2:kl v=kl u:=WideAt.sameKey_eq hs
   have:=K.inj (hkey v (hS v hv)) (hl2 ▸ hkey u hu)
   rw [← hinj v u this]
   exact hv
  ·intro h
   exact ⟨kl u,List.mem_map.2 ⟨u,h,rfl⟩,WideAt.sameKey_self (K.key (hkey u hu))⟩
 ·intro x hx
  obtain ⟨v,hv,rfl⟩:=List.mem_map.1 hx
  exact K.key (hkey v (hS v hv))
end
end Go.Proofs.YtkefpbcifcjibaaGreat
