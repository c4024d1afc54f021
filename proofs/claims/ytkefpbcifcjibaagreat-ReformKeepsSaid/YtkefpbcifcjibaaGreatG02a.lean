/- Joined texts. -/
import Derived.Test.YtkefpbcifcjibaaGreatG01a
import Derived.Test.YtkefpbcifcjibaaGreatRows
import Derived.WalkKit
import Derived.ProofKit
import Derived.OpenShut
import Derived.ShutString
import Derived.ChangeOld
import Derived.Below
import Derived.Carry
import Derived.WalkSmall
import Derived.Test.YtkefpbcifcjibaaGreatG01b
import Derived.OneCell
import Derived.Laws.OwnMore
import Derived.Lib.AppendStr
set_option linter.unusedVariables false
set_option maxRecDepth 20000
set_option maxHeartbeats 16000000
namespace Go.Proofs.YtkefpbcifcjibaaGreat
theorem results_tmp4 {fn:Func} {t u v x:Tmp} (h:fn.results=#[.tmp t,.tmp u,.tmp v,.tmp x]) (tmps:Array Value) (P:Program) (w:World) :
  (results fn tmps).run P w=.ok (.tuple #[tmps.getD t undef,tmps.getD u undef,tmps.getD v undef,tmps.getD x undef]) w:=by
 simp [results,h]
end Go.Proofs.YtkefpbcifcjibaaGreat
namespace Go.Proofs.YtkefpbcifcjibaaGreat
open Go.ChangeShapes Go.WideShapes Go.ChangeAt Go.RowKit
theorem own:ownKnob Tryz.prog.godebug=none:=by kernel_rfl
theorem z1q:laidOutB Tryz.prog=true:=by kernel_rfl
section
variable {H:Type} {enc:TypeId × Value→H} {P:Program} {w:World} {base:Nat} {spare:Nat→Bool} {held:Bool}
end
theorem i64_of_wf {a:Int} (h:(Lit.int .i64 a).wf=true):-9223372036854775808≤a∧a≤9223372036854775807:=by
 have:=bounds_i64 h
 exact ⟨by omega,by omega⟩
end Go.Proofs.YtkefpbcifcjibaaGreat
namespace Go.Proofs.YtkefpbcifcjibaaGreat
open Go.RowKit
structure Kept (S:Nat→Prop) (w w':World):Prop where
 os:w'.os=w.os
 tape:w'.tape=w.tape
 output:w'.output=w.output
 size:w.heap.size≤w'.heap.size
 block:∀ k,S k→k < w.heap.size→w'.heap[k]?=w.heap[k]?
theorem Kept.refl (S:Nat→Prop) (w:World):Kept S w w:=⟨rfl,rfl,rfl,Nat.le_refl _,fun _ _ _=>rfl⟩
theorem Kept.trans {S:Nat→Prop} {a b c:World} (h:Kept S a b) (k:Kept S b c):Kept S a c :=
 ⟨k.os.trans h.os,k.tape.trans h.tape,k.output.trans h.output,Nat.le_trans h.size k.size,fun i hs hi=>(k.block i hs (Nat.lt_of_lt_of_le hi h.size)).trans (h.block i hs hi)⟩
theorem Kept.mono {S T:Nat→Prop} {w w':World} (h:Kept S w w') (ht:∀ k,T k→S k):Kept T w w':=⟨h.os,h.tape,h.output,h.size,fun k hk=>h.block k (ht k hk)⟩
theorem Kept.ofBelow {w w':World} (h:Below w.heap.size w w') (S:Nat→Prop):Kept S w w':=⟨h.os,h.tape,h.output,h.size,fun k _ hk=>h.block k hk⟩
theorem Kept.toBelow {S:Nat→Prop} {B:Nat} {w w':World} (h:Kept S w w') (hb:B≤w.heap.size) (hs:∀ k,k < B→S k):Below B w w' :=
 ⟨h.os,h.tape,h.output,h.size,fun k hk=>h.block k (hs k hk) (Nat.lt_of_lt_of_le hk hb)⟩
theorem Kept.below {S:Nat→Prop} {a b c:World} (h:Kept S a b) (hb:Below b.heap.size b c):Kept S a c:=h.trans (Kept.ofBelow hb S)
theorem Kept.drew {S:Nat→Prop} {a w:World} (h:Kept S a w):Kept S a w.drew:=⟨h.os,h.tape,h.output,h.size,h.block⟩
theorem Kept.alloc {S:Nat→Prop} {a w:World} (h:Kept S a w) (o:Obj):Kept S a (w.alloc o):=h.trans (Kept.ofBelow ((Below.refl _ _).alloc (Nat.le_refl _) o) S)
theorem Kept.setCell {S:Nat→Prop} {a w:World} (h:Kept S a w) {p:Addr} (hp:¬ S p.block) (u:Value):Kept S a (w.setCell p u) :=
 h.trans ⟨rfl,rfl,rfl,by simp [World.setCell],fun k hk _=>Below.heap_setCell _ _ _ _ (fun e=>hp (e ▸ hk))⟩
theorem Kept.grown {S:Nat→Prop} {a w w':World} {row:Option Nat} (h:Kept S a w) (hg:w.grownBy w' row) (hr:∀ k,row=some k→¬ S k):Kept S a w' :=
 h.trans ⟨hg.os,hg.tape,hg.output,hg.size,fun k hk hl=>hg.block k hl (fun e=>hr k e.symm hk)⟩
theorem Kept.heap {S:Nat→Prop} {w w':World} (h:Kept S w w') {b:Nat} {o:Obj} (hb:S b) (hx:w.heap[b]?=some o):w'.heap[b]?=some o :=
 (h.block b hb (lt_of_block hx)).trans hx
theorem Kept.owns {S:Nat→Prop} {w w':World} (h:Kept S w w') {base:Nat} {e:TypeId} {size:Nat} {v:Value} {n:Nat} {xs:List Value} (ho:w.ownsRow base e size v n xs) (hv:∀ k,v.ownBlock=some k→S k):w'.ownsRow base e size v n xs:=by
 refine ⟨ho.1,?_⟩
 rcases ho.2 with h2 | ⟨g,cap,cur,hv',hg,hh,r⟩
 ·exact .inl h2
 ·exact .inr ⟨g,cap,cur,hv',hg,h.heap (hv g (by rw [hv'];rfl)) hh,r⟩
theorem z0s {B:Nat} {w w':World} (hb:Below B w w') {b o:Nat} {v:Value} (hl:b < B) (h:w.cell? ⟨b,o,none⟩=some v):w'.cell? ⟨b,o,none⟩=some v:=(hb.cell (p:=⟨b,o,none⟩) hl).trans h
theorem z01 {w w':World} (h:Below w.heap.size w w') {b:Nat} {o:Obj} (hx:w.heap[b]?=some o):w'.heap[b]?=some o:=(h.block b (lt_of_block hx)).trans hx
theorem z02 {w:World} {b:Nat} {cs:Array Value} {t:TypeId} (h:w.heap[b]?=some (.cells cs t (0,0))) (i:Nat):w.cell? ⟨b,i,none⟩=cs[i]?:=by simp [World.cell?,h]
theorem z0a {w:World} {b:Nat} {cs:Array Value} {t:TypeId} (h:w.heap[b]?=some (.cells cs t (0,0))) (i:Nat):w.frozen? ⟨b,i,none⟩=false:=by simp [World.frozen?,h]
theorem z05 {w:World} {b:Nat} {x y:Value} {t:TypeId} (h:w.heap[b]?=some (.cells #[x,y] t (0,0))) :
  w.cell? ⟨b,0,none⟩=some x∧w.cell? ⟨b,1,none⟩=some y∧w.frozen? ⟨b,0,none⟩=false∧w.frozen? ⟨b,1,none⟩=false:=⟨z02 h 0,z02 h 1,z0a h 0,z0a h 1⟩
theorem two_set0 {w:World} {b:Nat} {x y:Value} {t:TypeId} (h:w.heap[b]?=some (.cells #[x,y] t (0,0))) (u:Value):(w.setCell ⟨b,0,none⟩ u).heap[b]?=some (.cells #[u,y] t (0,0)) :=
 heap_setCell_same w b 0 #[x,y] t u h
theorem z27 {w:World} {b:Nat} {x y:Value} {t:TypeId} (h:w.heap[b]?=some (.cells #[x,y] t (0,0))) (u:Value):(w.setCell ⟨b,1,none⟩ u).heap[b]?=some (.cells #[x,u] t (0,0)) :=
 heap_setCell_same w b 1 #[x,y] t u h
theorem z09 {w:World} {b:Nat} {x y z:Value} {t:TypeId} (h:w.heap[b]?=some (.cells #[x,y,z] t (0,0))) :
  w.cell? ⟨b,0,none⟩=some x∧w.cell? ⟨b,1,none⟩=some y∧w.cell? ⟨b,2,none⟩=some z∧w.frozen? ⟨b,0,none⟩=false∧w.frozen? ⟨b,1,none⟩=false∧w.frozen? ⟨b,2,none⟩=false :=
 ⟨z02 h 0,z02 h 1,z02 h 2,z0a h 0,z0a h 1,z0a h 2⟩
theorem three_set0 {w:World} {b:Nat} {x y z:Value} {t:TypeId} (h:w.heap[b]?=some (.cells #[x,y,z] t (0,0))) (u:Value):(w.setCell ⟨b,0,none⟩ u).heap[b]?=some (.cells #[u,y,z] t (0,0)) :=
 heap_setCell_same w b 0 #[x,y,z] t u h
theorem three_set1 {w:World} {b:Nat} {x y z:Value} {t:TypeId} (h:w.heap[b]?=some (.cells #[x,y,z] t (0,0))) (u:Value):(w.setCell ⟨b,1,none⟩ u).heap[b]?=some (.cells #[x,u,z] t (0,0)) :=
 heap_setCell_same w b 1 #[x,y,z] t u h
theorem three_set2 {w:World} {b:Nat} {x y z:Value} {t:TypeId} (h:w.heap[b]?=some (.cells #[x,y,z] t (0,0))) (u:Value):(w.setCell ⟨b,2,none⟩ u).heap[b]?=some (.cells #[x,y,u] t (0,0)) :=
 heap_setCell_same w b 2 #[x,y,z] t u h
section
variable {P:Program} (w:World)
end
end Go.Proofs.YtkefpbcifcjibaaGreat
