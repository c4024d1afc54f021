/- Joined texts. -/
import Derived.Test.YtkefpbcifcjibaaGreatG07a
import Derived.Test.YtkefpbcifcjibaaGreatG03a
import Derived.Test.YtkefpbcifcjibaaGreatG06a
import Derived.Laws.Rows
import Derived.Laws.Tables
import Derived.Laws.CopyOwn
import Derived.Test.YtkefpbcifcjibaaGreatH00
set_option linter.unusedVariables false
set_option maxRecDepth 20000
set_option maxHeartbeats 16000000
namespace Go.Proofs.YtkefpbcifcjibaaGreat
open Go.RowKit
def ptrO (b:Nat):Value:=.pointer (some ⟨b,0,none⟩)
def RO (r:Nat) (G:Nat→Prop) (w:World) (o:Od):Prop:=o.Ok∧w.heap[r]?=some (.cells #[.int .i64 o.epoch,.int .i64 o.tail,.bool o.knows] 209 (0,0))∧∀ k,G k↔k=r
theorem ro_thing (r:Nat):Thing (RO r) where
 lt:=by
  rintro G w u ⟨_,h1,h2⟩ k hk
  rw [(h2 k).1 hk]
  exact lt_of_block h1
 keep:=by
  rintro G S w w' u ⟨h0,h1,h2⟩ hk hS
  exact ⟨h0,hk.heap (hS r ((h2 r).2 rfl)) h1,h2⟩
theorem ro_new (w:World):Calls Tryz.prog 95 #[] w fun e w'=>∃ (r:Nat) (G:Nat→Prop),e=.returned (ptrO r)∧RO r G w' newO∧(∀ k,G k→w.heap.size≤k)∧Below w.heap.size w w':=by
 go_enter Tryz.func95,Tryz.ntmps95
 go_wp2_with fail
 go_ret
 exact ⟨w.heap.size,fun k=>k=w.heap.size,rfl,⟨newO_ok,heap_alloc_new _ _,fun k=>Iff.rfl⟩,fun k hk=>by omega,(Below.refl _ _).alloc (Nat.le_refl _) _⟩
def askB (a:Ak):Array Value:=(askC a).toArray
structure OdW (w W:World) (r:Nat) (o:Od) (a:Ak) (Y:Array Value):Prop where
 ask:W.heap[w.heap.size]?=some (.cells (askB a) 34 (0,0))
 zero:W.heap[w.heap.size+1]?=some (.cells #[.int .i64 0,.int .i64 0,.string ⟨#[]⟩,.int .i64 0,.slice none 0 0,.int .i64 0,.int .i64 0,.int .i64 0] 49 (0,0))
 ans:W.heap[w.heap.size+1+1]?=some (.cells Y 49 (0,0))
 ob:W.heap[r]?=some (.cells #[.int .i64 o.epoch,.int .i64 o.tail,.bool o.knows] 209 (0,0))
 kp:Kept (fun k=>k≠r) w W
 lt:r < w.heap.size
theorem od_start {w:World} {r:Nat} {G:Nat→Prop} {o:Od} (h:RO r G w o) (a:Ak) (Y:Array Value):OdW w (((w.alloc (.cells (askB a) 34)).alloc (.cells #[.int .i64 0,.int .i64 0,.string ⟨#[]⟩,.int .i64 0,.slice none 0 0,.int .i64 0,.int .i64 0,.int .i64 0] 49)).alloc (.cells Y 49)) r o a Y:=by
 have hb:Below w.heap.size w (((w.alloc (.cells (askB a) 34)).alloc (.cells #[.int .i64 0,.int .i64 0,.string ⟨#[]⟩,.int .i64 0,.slice none 0 0,.int .i64 0,.int .i64 0,.int .i64 0] 49)).alloc (.cells Y 49)):=(((Below.refl _ _).alloc (Nat.le_refl _) _).alloc (by simp) _).alloc (by simp;omega) _
 obtain ⟨h1,h2⟩:=z0z w (askB a) #[.int .i64 0,.int .i64 0,.string ⟨#[]⟩,.int .i64 0,.slice none 0 0,.int .i64 0,.int .i64 0,.int .i64 0] 34 49
 have hb2:=(Below.refl ((w.alloc (.cells (askB a) 34)).alloc (.cells #[.int .i64 0,.int .i64 0,.string ⟨#[]⟩,.int .i64 0,.slice none 0 0,.int .i64 0,.int .i64 0,.int .i64 0] 49)).heap.size ((w.alloc (.cells (askB a) 34)).alloc (.cells #[.int .i64 0,.int .i64 0,.string ⟨#[]⟩,.int .i64 0,.slice none 0 0,.int .i64 0,.int .i64 0,.int .i64 0] 49))).alloc (Nat.le_refl _) (.cells Y 49)
 refine ⟨z01 hb2 h1,z01 hb2 h2,?_,z01 hb h.2.1,Kept.ofBelow hb _,lt_of_block h.2.1⟩
 have h:=heap_alloc_new ((w.alloc (.cells (askB a) 34)).alloc (.cells #[.int .i64 0,.int .i64 0,.string ⟨#[]⟩,.int .i64 0,.slice none 0 0,.int .i64 0,.int .i64 0,.int .i64 0] 49)) (.cells Y 49)
 have e:((w.alloc (.cells (askB a) 34)).alloc (.cells #[.int .i64 0,.int .i64 0,.string ⟨#[]⟩,.int .i64 0,.slice none 0 0,.int .i64 0,.int .i64 0,.int .i64 0] 49)).heap.size=w.heap.size+1+1:=by simp
 rw [e] at h
 exact h
section
variable {w W:World} {r:Nat} {o:Od} {a:Ak} {Y:Array Value}
theorem OdW.below (h:OdW w W r o a Y) {W2:World} (hb:Below W.heap.size W W2):OdW w W2 r o a Y:=⟨z01 hb h.ask,z01 hb h.zero,z01 hb h.ans,z01 hb h.ob,h.kp.below hb,h.lt⟩
theorem OdW.drewN (h:OdW w W r o a Y) (n:Nat):OdW w (W.drewN n) r o a Y:=h.below (below_drewN (Below.refl _ _) n)
theorem OdW.small (h:OdW w W r o a Y):w.heap.size < W.heap.size∧w.heap.size+1 < W.heap.size∧w.heap.size+1+1 < W.heap.size∧r < w.heap.size:=⟨lt_of_block h.ask,lt_of_block h.zero,lt_of_block h.ans,h.lt⟩
theorem OdW.put (h:OdW w W r o a Y) (i:Nat) (v:Value):OdW w (W.setCell ⟨w.heap.size+1+1,i,none⟩ v) r o a (Y.setIfInBounds i v):=by
 have hlt:=h.lt
 have hk:Kept (fun k=>k≠w.heap.size+1+1) W (W.setCell ⟨w.heap.size+1+1,i,none⟩ v):=(Kept.refl _ W).setCell (p:=⟨w.heap.size+1+1,i,none⟩) (fun h=>h rfl) v
 exact ⟨hk.heap (by omega) h.ask,hk.heap (by omega) h.zero,heap_setCell_same W _ i Y _ v h.ans,hk.heap (by omega) h.ob,z1c h.kp (by omega) v,h.lt⟩
theorem OdW.set0 (h:OdW w W r o a Y) (x:Int):OdW w (W.setCell ⟨r,0,none⟩ (.int .i64 x)) r ⟨x,o.tail,o.knows⟩ a Y:=by
 have hlt:=h.lt
 have hk:Kept (fun k=>k≠r) W (W.setCell ⟨r,0,none⟩ (.int .i64 x)):=(Kept.refl _ W).setCell (p:=⟨r,0,none⟩) (fun h=>h rfl) _
 exact ⟨hk.heap (by omega) h.ask,hk.heap (by omega) h.zero,hk.heap (by omega) h.ans,three_set0 h.ob _,h.kp.trans hk,h.lt⟩
theorem OdW.set1 (h:OdW w W r o a Y) (x:Int):OdW w (W.setCell ⟨r,1,none⟩ (.int .i64 x)) r ⟨o.epoch,x,o.knows⟩ a Y:=by
 have hlt:=h.lt
 have hk:Kept (fun k=>k≠r) W (W.setCell ⟨r,1,none⟩ (.int .i64 x)):=(Kept.refl _ W).setCell (p:=⟨r,1,none⟩) (fun h=>h rfl) _
 exact ⟨hk.heap (by omega) h.ask,hk.heap (by omega) h.zero,hk.heap (by omega) h.ans,three_set1 h.ob _,h.kp.trans hk,h.lt⟩
theorem OdW.set2 (h:OdW w W r o a Y) (x:Bool):OdW w (W.setCell ⟨r,2,none⟩ (.bool x)) r ⟨o.epoch,o.tail,x⟩ a Y:=by
 have hlt:=h.lt
 have hk:Kept (fun k=>k≠r) W (W.setCell ⟨r,2,none⟩ (.bool x)):=(Kept.refl _ W).setCell (p:=⟨r,2,none⟩) (fun h=>h rfl) _
 exact ⟨hk.heap (by omega) h.ask,hk.heap (by omega) h.zero,hk.heap (by omega) h.ans,three_set2 h.ob _,h.kp.trans hk,h.lt⟩
theorem OdW.fin (h:OdW w W r o a Y) (hok:o.Ok) {G:Nat→Prop} (hG:∀ k,G k↔k=r) {v0 v1 v2 v3 v4 v5 v6 v7:Value} :
  ((((((((W.setCell ⟨w.heap.size+1,0,none⟩ v0).setCell ⟨w.heap.size+1,1,none⟩ v1).setCell ⟨w.heap.size+1,2,none⟩ v2).setCell ⟨w.heap.size+1,3,none⟩ v3).setCell ⟨w.heap.size+1,4,none⟩ v4).setCell ⟨w.heap.size+1,5,none⟩ v5).setCell ⟨w.heap.size+1,6,none⟩ v6).setCell ⟨w.heap.size+1,7,none⟩ v7).heap[w.heap.size+1]?=some (.cells #[v0,v1,v2,v3,v4,v5,v6,v7] 49 (0,0))∧Leaves (RO r) G w ((((((((W.setCell ⟨w.heap.size+1,0,none⟩ v0).setCell ⟨w.heap.size+1,1,none⟩ v1).setCell ⟨w.heap.size+1,2,none⟩ v2).setCell ⟨w.heap.size+1,3,none⟩ v3).setCell ⟨w.heap.size+1,4,none⟩ v4).setCell ⟨w.heap.size+1,5,none⟩ v5).setCell ⟨w.heap.size+1,6,none⟩ v6).setCell ⟨w.heap.size+1,7,none⟩ v7) o:=by
 have hlt:=h.lt
 constructor
 ·exact (z22 (z19 (z1a (z0x (z1t (z1u (z23 (z24 h.zero _) _) _) _) _) _) _) _)
 ·have hk:Kept (fun k=>k≠w.heap.size+1) W ((((((((W.setCell ⟨w.heap.size+1,0,none⟩ v0).setCell ⟨w.heap.size+1,1,none⟩ v1).setCell ⟨w.heap.size+1,2,none⟩ v2).setCell ⟨w.heap.size+1,3,none⟩ v3).setCell ⟨w.heap.size+1,4,none⟩ v4).setCell ⟨w.heap.size+1,5,none⟩ v5).setCell ⟨w.heap.size+1,6,none⟩ v6).setCell ⟨w.heap.size+1,7,none⟩ v7):=(((((((((Kept.refl _ W).setCell (p:=⟨w.heap.size+1,0,none⟩) (fun h=>h rfl) _).setCell (p:=⟨w.heap.size+1,1,none⟩) (fun h=>h rfl) _).setCell (p:=⟨w.heap.size+1,2,none⟩) (fun h=>h rfl) _).setCell (p:=⟨w.heap.size+1,3,none⟩) (fun h=>h rfl) _).setCell (p:=⟨w.heap.size+1,4,none⟩) (fun h=>h rfl) _).setCell (p:=⟨w.heap.size+1,5,none⟩) (fun h=>h rfl) _).setCell (p:=⟨w.heap.size+1,6,none⟩) (fun h=>h rfl) _).setCell (p:=⟨w.heap.size+1,7,none⟩) (fun h=>h rfl) _)
  exact ⟨G,⟨hok,hk.heap (by omega) h.ob,hG⟩,(z1c (z1c (z1c (z1c (z1c (z1c (z1c (z1c h.kp (by omega) _) (by omega) _) (by omega) _) (by omega) _) (by omega) _) (by omega) _) (by omega) _) (by omega) _).mono (fun k hk e=>hk ((hG k).2 e)),fun k hk=>.inl hk⟩
end
def ptrU (b:Nat):Value:=.pointer (some ⟨b,0,none⟩)
def RU (r q:Nat) (G:Nat→Prop) (w:World) (u:Us):Prop :=
 (u.p.Ok∧i64w u.epoch)∧w.heap[r]?=some (.cells #[ptrU q,.int .i64 u.epoch,.bool u.down] 214 (0,0))∧G r∧∃ F:Nat→Prop,RG F w q u.p∧(∀ k,F k→G k)∧¬ F r∧∀ k,G k→F k∨k=r
theorem rg_lt {G:Nat→Prop} {w:World} {b:Nat} {p:Ps} (h:RG G w b p):∀ k,G k→k < w.heap.size:=by
 obtain ⟨v,_,_,_,_,h5⟩:=h
 exact h5
theorem ru_thing (r q:Nat):Thing (RU r q) where
 lt:=by
  rintro G w u ⟨_,h1,_,F,h3,_,_,h6⟩ k hk
  rcases h6 k hk with h | h
  ·exact rg_lt h3 k h
  ·rw [h];exact lt_of_block h1
 keep:=by
  rintro G S w w' u ⟨h0,h1,h2,F,h3,h4,h5,h6⟩ hk hS
  exact ⟨h0,hk.heap (hS r h2) h1,h2,F,h3.keep hk (fun k hf=>hS k (h4 k hf)),h4,h5,h6⟩
theorem ru_new_yes (room:Int) (w:World) (h:1≤room∧room≤4096) :
  Calls Tryz.prog 96 #[.int .i64 room] w fun e w'=>∃ (r q:Nat) (G:Nat→Prop),e=.returned (.tuple #[ptrU r,.int .i64 0])∧RU r q G w' (newU room)∧(∀ k,G k→w.heap.size≤k)∧Below w.heap.size w w':=by
 have CN:=Lh (rnew_yes room w h)
 have HN:=Lh (newP_ok h)
 go_enter Tryz.func96,Tryz.ntmps96
 go_wp2_with (go_at_call 121;refine CN.out.mono ?_;rintro e w1 ⟨rfl,hg1,hb1⟩;have HG:=Lh hg1;have HB:=Lh hb1;clear hg1 hb1)
 go_ret2
 have hlt:=rg_lt HG.out w.heap.size rfl
 have hb2:Below w1.heap.size w1 (w1.alloc (.cells #[.pointer (some ⟨w.heap.size,0,none⟩),.int .i64 0,.bool false] 214)):=(Below.refl _ _).alloc (Nat.le_refl _) _
 refine ⟨w1.heap.size,w.heap.size,fun k=>k=w.heap.size∨k=w1.heap.size,rfl,⟨⟨HN.out,WalkArith.wf_i64 (n:=0) (by decide)⟩,heap_alloc_new _ _,.inr rfl,fun k=>k=w.heap.size,HG.out.below hb2,fun k hk=>.inl hk,by omega,fun k hk=>hk⟩,fun k hk=>by rcases hk with h | h <;> omega,HB.out.alloc HB.out.size _⟩
structure Nd where
 u:Nat→Us
 o:Od
 l:Ly
def Nd.putU (n:Nd) (i:Nat) (x:Us):Nd:=⟨fun j=>if j=i then x else n.u j,n.o,n.l⟩
def Nd.putO (n:Nd) (x:Od):Nd:=⟨n.u,x,n.l⟩
def Nd.putL (n:Nd) (x:Ly):Nd:=⟨n.u,n.o,x⟩
theorem putU_at (n:Nd) (i:Nat) (x:Us):(n.putU i x).u i=x:=if_pos rfl
theorem putU_off (n:Nd) {i j:Nat} (x:Us) (h:j≠i):(n.putU i x).u j=n.u j:=if_neg h
def Nd.ans (n:Nd) (a:Ak):An :=
 if 1≤a.kind∧a.kind≤5 then (if 0≤a.unit∧a.unit≤15 then (n.u a.unit.toNat).ans a else anP 1 0 noS 0)
 else if 6≤a.kind∧a.kind≤8 then n.o.ans a
 else if 9≤a.kind∧a.kind≤11 then n.l.ans a
 else anP 1 0 noS 0
def Nd.done (n:Nd) (a:Ak):Nd :=
 if 1≤a.kind∧a.kind≤5 then (if 0≤a.unit∧a.unit≤15 then n.putU a.unit.toNat ((n.u a.unit.toNat).done a) else n)
 else if 6≤a.kind∧a.kind≤8 then n.putO (n.o.done a)
 else if 9≤a.kind∧a.kind≤11 then n.putL (n.l.done a)
 else n
def startA (ep:Int):Ak:=⟨8,0,ep,0,0,0,⟨#[]⟩,0,[],none,0⟩
def newN (ep:Int) (L:List (List Int)) (room:Int):Nd:=⟨fun _=>newU room,newO.done (startA ep),newL ep L⟩
def zeroAn:Array Value:=#[.int .i64 0,.int .i64 0,.string ⟨#[]⟩,.int .i64 0,.slice none 0 0,.int .i64 0,.int .i64 0,.int .i64 0]
structure Boxed {α:Type} (T:(Nat→Prop)→World→α→Prop) (w W:World) (G:Nat→Prop) (s:α) (A:Array Value):Prop where
 ask:W.heap[w.heap.size]?=some (.cells A 34 (0,0))
 ans:W.heap[w.heap.size+1]?=some (.cells zeroAn 49 (0,0))
 th:∃ H:Nat→Prop,T H W s∧∀ k,H k→G k∨w.heap.size+1 < k
 kp:Kept (fun k=>¬ G k) w W
 lt:∀ k,G k→k < w.heap.size
section
variable {α:Type} {T:(Nat→Prop)→World→α→Prop} {w W:World} {G:Nat→Prop} {s s':α} {A:Array Value}
theorem z0e (hT:Thing T) (h:T G w s) (A:Array Value):Boxed T w ((w.alloc (.cells A 34)).alloc (.cells zeroAn 49)) G s A:=by
 have hb:Below w.heap.size w ((w.alloc (.cells A 34)).alloc (.cells zeroAn 49)):=((Below.refl _ _).alloc (Nat.le_refl _) _).alloc (by simp) _
 obtain ⟨h1,h2⟩:=z0z w A zeroAn 34 49
 exact ⟨h1,h2,⟨G,hT.keep h (Kept.ofBelow hb (fun _=>True)) (fun _ _=>trivial),fun k hk=>.inl hk⟩,Kept.ofBelow hb _,fun k hk=>hT.lt h k hk⟩
theorem Boxed.below (hT:Thing T) (h:Boxed T w W G s A) {W2:World} (hb:Below W.heap.size W W2):Boxed T w W2 G s A:=by
 obtain ⟨H,h1,h2⟩:=h.th
 exact ⟨z01 hb h.ask,z01 hb h.ans,⟨H,hT.keep h1 (Kept.ofBelow hb (fun _=>True)) (fun _ _=>trivial),h2⟩,h.kp.below hb,h.lt⟩
theorem Boxed.drewN (hT:Thing T) (h:Boxed T w W G s A) (n:Nat):Boxed T w (W.drewN n) G s A:=h.below hT (below_drewN (Below.refl _ _) n)
theorem Boxed.small (h:Boxed T w W G s A):w.heap.size < W.heap.size∧w.heap.size+1 < W.heap.size:=⟨lt_of_block h.ask,lt_of_block h.ans⟩
theorem Boxed.leaves (h:Boxed T w W G s A):Leaves T G w W s:=by
 obtain ⟨H,h1,h2⟩:=h.th
 exact ⟨H,h1,h.kp,fun k hk=>(h2 k hk).imp id (fun h=>by omega)⟩
theorem Boxed.use2 (h:Boxed T w W G s A):∃ H:Nat→Prop,T H W s∧(∀ W2,Kept (fun k=>¬ H k) W W2→Kept (fun k=>¬ G k) w W2)∧∀ {β:Type} (U:(Nat→Prop)→World→β→Prop) W2 (s':β),Leaves U H W W2 s'→Boxed U w W2 G s' A:=by
 obtain ⟨H,h1,h2⟩:=h.th
 obtain ⟨s1,s2⟩:=h.small
 have off:∀ k,k < W.heap.size→¬ G k→k≤w.heap.size+1→¬ H k:=fun k _ hg hk hf=>by
  rcases h2 k hf with h3 | h3
  ·exact hg h3
  ·omega
 have ng:∀ k,w.heap.size≤k→¬ G k:=fun k hk hg=>by have:=h.lt k hg;omega
 have kk:∀ W2,Kept (fun k=>¬ H k) W W2→Kept (fun k=>¬ G k) w W2:=fun W2 r2=>by
  have hk:=h.kp
  refine ⟨r2.os.trans hk.os,r2.tape.trans hk.tape,r2.output.trans hk.output,Nat.le_trans hk.size r2.size,fun k hg hkl=>?_⟩
  rw [r2.block k (off k (Nat.lt_of_lt_of_le hkl hk.size) hg (by omega)) (Nat.lt_of_lt_of_le hkl hk.size)]
  exact hk.block k hg hkl
 refine ⟨H,h1,kk,fun U W2 s' hl=>?_⟩
 obtain ⟨H',r1,r2,r3⟩:=hl
 refine ⟨r2.heap (off _ s1 (ng _ (by omega)) (by omega)) h.ask,r2.heap (off _ s2 (ng _ (by omega)) (by omega)) h.ans,⟨H',r1,fun k hk=>?_⟩,kk W2 r2,h.lt⟩
 rcases r3 k hk with h3 | h3
 ·exact h2 k h3
 ·exact .inr (by omega)
theorem Boxed.use (h:Boxed T w W G s A):∃ H:Nat→Prop,T H W s∧∀ W2 s',Leaves T H W W2 s'→Boxed T w W2 G s' A:=by
 obtain ⟨H,h1,_,h3⟩:=h.use2
 exact ⟨H,h1,fun W2 s' hl=>h3 T W2 s' hl⟩
theorem Boxed.fin (hT:Thing T) (h:Boxed T w W G s A) {v0 v1 v2 v3 v4 v5 v6 v7:Value} :
  ((((((((W.setCell ⟨w.heap.size+1,0,none⟩ v0).setCell ⟨w.heap.size+1,1,none⟩ v1).setCell ⟨w.heap.size+1,2,none⟩ v2).setCell ⟨w.heap.size+1,3,none⟩ v3).setCell ⟨w.heap.size+1,4,none⟩ v4).setCell ⟨w.heap.size+1,5,none⟩ v5).setCell ⟨w.heap.size+1,6,none⟩ v6).setCell ⟨w.heap.size+1,7,none⟩ v7).heap[w.heap.size+1]?=some (.cells #[v0,v1,v2,v3,v4,v5,v6,v7] 49 (0,0))∧Leaves T G w ((((((((W.setCell ⟨w.heap.size+1,0,none⟩ v0).setCell ⟨w.heap.size+1,1,none⟩ v1).setCell ⟨w.heap.size+1,2,none⟩ v2).setCell ⟨w.heap.size+1,3,none⟩ v3).setCell ⟨w.heap.size+1,4,none⟩ v4).setCell ⟨w.heap.size+1,5,none⟩ v5).setCell ⟨w.heap.size+1,6,none⟩ v6).setCell ⟨w.heap.size+1,7,none⟩ v7) s:=by
 constructor
 ·exact (z22 (z19 (z1a (z0x (z1t (z1u (z23 (z24 h.ans _) _) _) _) _) _) _) _)
 ·obtain ⟨H,h1,h2⟩:=h.th
  have hk:Kept (fun k=>k≠w.heap.size+1) W ((((((((W.setCell ⟨w.heap.size+1,0,none⟩ v0).setCell ⟨w.heap.size+1,1,none⟩ v1).setCell ⟨w.heap.size+1,2,none⟩ v2).setCell ⟨w.heap.size+1,3,none⟩ v3).setCell ⟨w.heap.size+1,4,none⟩ v4).setCell ⟨w.heap.size+1,5,none⟩ v5).setCell ⟨w.heap.size+1,6,none⟩ v6).setCell ⟨w.heap.size+1,7,none⟩ v7):=(((((((((Kept.refl _ W).setCell (p:=⟨w.heap.size+1,0,none⟩) (fun h=>h rfl) _).setCell (p:=⟨w.heap.size+1,1,none⟩) (fun h=>h rfl) _).setCell (p:=⟨w.heap.size+1,2,none⟩) (fun h=>h rfl) _).setCell (p:=⟨w.heap.size+1,3,none⟩) (fun h=>h rfl) _).setCell (p:=⟨w.heap.size+1,4,none⟩) (fun h=>h rfl) _).setCell (p:=⟨w.heap.size+1,5,none⟩) (fun h=>h rfl) _).setCell (p:=⟨w.heap.size+1,6,none⟩) (fun h=>h rfl) _).setCell (p:=⟨w.heap.size+1,7,none⟩) (fun h=>h rfl) _)
  refine ⟨H,hT.keep h1 hk (fun k hk e=>?_),(z1c (z1c (z1c (z1c (z1c (z1c (z1c (z1c h.kp (by omega) _) (by omega) _) (by omega) _) (by omega) _) (by omega) _) (by omega) _) (by omega) _) (by omega) _),fun k hk=>(h2 k hk).imp id (fun h=>by omega)⟩
  rcases h2 k hk with h3 | h3
  ·have:=h.lt k h3;omega
  ·omega
end
structure BoxV {α:Type} (ta tz:TypeId) (A Z:Array Value) (T:(Nat→Prop)→World→α→Prop) (w W:World) (G:Nat→Prop) (s:α):Prop where
 ask:W.heap[w.heap.size]?=some (.cells A ta (0,0))
 ans:W.heap[w.heap.size+1]?=some (.cells Z tz (0,0))
 th:∃ H:Nat→Prop,T H W s∧∀ k,H k→G k∨w.heap.size+1 < k
 kp:Kept (fun k=>¬ G k) w W
 lt:∀ k,G k→k < w.heap.size
section
variable {α:Type} {ta tz:TypeId} {A Z:Array Value} {T:(Nat→Prop)→World→α→Prop} {w W:World} {G:Nat→Prop} {s s':α}
theorem z13 (hT:Thing T) (h:T G w s) (ta tz:TypeId) (A Z:Array Value):BoxV ta tz A Z T w ((w.alloc (.cells A ta)).alloc (.cells Z tz)) G s:=by
 have hb:Below w.heap.size w ((w.alloc (.cells A ta)).alloc (.cells Z tz)):=((Below.refl _ _).alloc (Nat.le_refl _) _).alloc (by simp) _
 obtain ⟨h1,h2⟩:=z0z w A Z ta tz
 exact ⟨h1,h2,⟨G,hT.keep h (Kept.ofBelow hb (fun _=>True)) (fun _ _=>trivial),fun k hk=>.inl hk⟩,Kept.ofBelow hb _,fun k hk=>hT.lt h k hk⟩
theorem BoxV.below (hT:Thing T) (h:BoxV ta tz A Z T w W G s) {W2:World} (hb:Below W.heap.size W W2):BoxV ta tz A Z T w W2 G s:=by
 obtain ⟨H,h1,h2⟩:=h.th
 exact ⟨z01 hb h.ask,z01 hb h.ans,⟨H,hT.keep h1 (Kept.ofBelow hb (fun _=>True)) (fun _ _=>trivial),h2⟩,h.kp.below hb,h.lt⟩
theorem BoxV.drewN (hT:Thing T) (h:BoxV ta tz A Z T w W G s) (n:Nat):BoxV ta tz A Z T w (W.drewN n) G s:=h.below hT (below_drewN (Below.refl _ _) n)
theorem BoxV.small (h:BoxV ta tz A Z T w W G s):w.heap.size < W.heap.size∧w.heap.size+1 < W.heap.size:=⟨lt_of_block h.ask,lt_of_block h.ans⟩
theorem BoxV.use2 (h:BoxV ta tz A Z T w W G s):∃ H:Nat→Prop,T H W s∧(∀ W2,Kept (fun k=>¬ H k) W W2→Kept (fun k=>¬ G k) w W2)∧∀ {β:Type} (U:(Nat→Prop)→World→β→Prop) W2 (s':β),Leaves U H W W2 s'→BoxV ta tz A Z U w W2 G s':=by
 obtain ⟨H,h1,h2⟩:=h.th
 obtain ⟨s1,s2⟩:=h.small
 have off:∀ k,k < W.heap.size→¬ G k→k≤w.heap.size+1→¬ H k:=fun k _ hg hk hf=>by
  rcases h2 k hf with h3 | h3
  ·exact hg h3
  ·omega
 have ng:∀ k,w.heap.size≤k→¬ G k:=fun k hk hg=>by have:=h.lt k hg;omega
 have kk:∀ W2,Kept (fun k=>¬ H k) W W2→Kept (fun k=>¬ G k) w W2:=fun W2 r2=>by
  have hk:=h.kp
  refine ⟨r2.os.trans hk.os,r2.tape.trans hk.tape,r2.output.trans hk.output,Nat.le_trans hk.size r2.size,fun k hg hkl=>?_⟩
  rw [r2.block k (off k (Nat.lt_of_lt_of_le hkl hk.size) hg (by omega)) (Nat.lt_of_lt_of_le hkl hk.size)]
  exact hk.block k hg hkl
 refine ⟨H,h1,kk,fun U W2 s' hl=>?_⟩
 obtain ⟨H',r1,r2,r3⟩:=hl
 refine ⟨r2.heap (off _ s1 (ng _ (by omega)) (by omega)) h.ask,r2.heap (off _ s2 (ng _ (by omega)) (by omega)) h.ans,⟨H',r1,fun k hk=>?_⟩,kk W2 r2,h.lt⟩
 rcases r3 k hk with h3 | h3
 ·exact h2 k h3
 ·exact .inr (by omega)
theorem BoxV.use (h:BoxV ta tz A Z T w W G s):∃ H:Nat→Prop,T H W s∧∀ W2 s',Leaves T H W W2 s'→BoxV ta tz A Z T w W2 G s':=by
 obtain ⟨H,h1,_,h3⟩:=h.use2
 exact ⟨H,h1,fun W2 s' hl=>h3 T W2 s' hl⟩
theorem BoxV.fin (hT:Thing T) (h:BoxV ta tz A Z T w W G s) {W2:World} (hk:Kept (fun k=>k≠w.heap.size+1) W W2):Leaves T G w W2 s:=by
 obtain ⟨H,h1,h2⟩:=h.th
 have hw:=h.small
 refine ⟨H,hT.keep h1 hk (fun k hk e=>?_),?_,fun k hk=>(h2 k hk).imp id (fun h=>by omega)⟩
 ·rcases h2 k hk with h3 | h3
  ·have:=h.lt k h3;omega
  ·omega
 ·have hp:=h.kp
  refine ⟨hk.os.trans hp.os,hk.tape.trans hp.tape,hk.output.trans hp.output,Nat.le_trans hp.size hk.size,fun k hg hkl=>?_⟩
  have:=hp.size
  rw [hk.block k (by omega) (by omega)]
  exact hp.block k hg hkl
end
theorem proj_ret {fn:Func} {p:Tmp} (h:fn.results=#[.cell p 24]) {a:Act} {w:World} {g:Nat} {x y:Value} {R:Ending→World→Prop}
  (hg:w.heap[g]?=some (.cells #[x,y] 24 (0,0))) (hp:a.tmps.getD p undef=.pointer (some ⟨g,0,none⟩)) (hd:a.defers=[])
  (hR:R (.returned (.agg #[x,y])) w):bodyPost Tryz.prog fn R .ret a w :=
 bodyPost_ret (results_cell_row h a.tmps w g 24 #[x,y] (0,0) _ hp hg Tryz.underlying24 rfl (by kernel_rfl)) hd hR
def sameP (ea:Int) (A:List (List Int)) (eb:Int) (B:List (List Int)):Bool:=decide (ea=eb∧A=B)
theorem sameP_ep {ea eb:Int} {A B:List (List Int)} (h:ea≠eb):sameP ea A eb B=false:=decide_eq_false (fun e=>h e.1)
def ptrV (b:Nat):Value:=.pointer (some ⟨b,0,none⟩)
def anV (c n:Int) (s:ByteArray) (e:Int):Value:=.agg #[.int .i64 c,.int .i64 n,.string s,.int .i64 0,.slice none 0 0,.int .i64 0,.int .i64 0,.int .i64 e]
theorem ansV_U (u:Us) (a:Ak):ansV (u.ans a) none 0=anV (u.ans a).code (u.ans a).n (u.ans a).data (u.ans a).epoch:=by
 unfold Us.ans
 repeat' split
 all_goals rfl
structure UnitSays (UG:Nat→Nat→(Nat→Prop)→World→Us→Prop):Prop where
 thing:∀ b pb,Thing (UG b pb)
 ok:∀ {b pb:Nat} {G:Nat→Prop} {w:World} {u:Us},UG b pb G w u→u.p.Ok∧i64w u.epoch
 new_yes:∀ (room:Int) (w:World),1≤room∧room≤4096→Calls Tryz.prog 92 #[.int .i64 room] w fun e w'=>∃ (b pb:Nat) (G:Nat→Prop),e=.returned (.tuple #[ptrV b,.int .i64 0])∧UG b pb G w' (newU room)∧(∀ k,G k→w.heap.size≤k)∧Below w.heap.size w w'
 new_no:∀ (room:Int) (w:World),room < 1∨4096 < room→i64w room→Calls Tryz.prog 92 #[.int .i64 room] w fun e w'=>e=.returned (.tuple #[.pointer none,.int .i64 1])∧Below w.heap.size w w'
 ask:∀ (b pb:Nat) (G:Nat→Prop) (w:World) (u:Us) (a:Ak),UG b pb G w u→AkIn w a→a.data.size≤1000000→Calls Tryz.prog 178 #[ptrV b,askV a] w fun e w'=>e=.returned (anV (u.ans a).code (u.ans a).n (u.ans a).data (u.ans a).epoch)∧Leaves (UG b pb) G w w' (u.done a)
 crash:∀ (b pb:Nat) (G:Nat→Prop) (w:World) (u:Us),UG b pb G w u→Calls Tryz.prog 31 #[ptrV b] w fun e w'=>e=.returned (.tuple #[])∧Leaves (UG b pb) G w w' ⟨u.p,u.epoch,true⟩
 tail:∀ (b pb:Nat) (G:Nat→Prop) (w:World) (u:Us),UG b pb G w u→Calls Tryz.prog 191 #[ptrV pb] w fun e w'=>e=.returned (.int .i64 u.p.tail)∧Below w.heap.size w w'
 nil_ask:∀ (a:Ak) (w:World),AkIn w a→a.data.size≤1000000→Calls Tryz.prog 178 #[.pointer none,askV a] w fun e w'=>e=.returned (anV 1 0 noS 0)∧Below w.heap.size w w'
 nil_crash:∀ (w:World),Calls Tryz.prog 31 #[.pointer none] w fun e w'=>e=.returned (.tuple #[])∧Below w.heap.size w w'
section
variable {UG:Nat→Nat→(Nat→Prop)→World→Us→Prop} {X:Nat→Prop} {w:World} {b pb:Nat} {u:Us}
end
theorem z04 {x:Int} (h:-1000000000000≤x∧x≤1000000000000):i64w x:=WalkArith.wf_i64 (by omega)
def hasB (l:List Int) (u:Int):Bool:=decide (u ∈ l)
def ptrP (b:Nat):Value:=.pointer (some ⟨b,0,none⟩)
def wide (a:Int):Prop:=-9223372036854775808≤a∧a≤9223372036854775807
structure PageSays (PG:(Nat→Prop)→World→Nat→Ps→Prop):Prop where
 lt:∀ {G:Nat→Prop} {w:World} {b:Nat} {p:Ps},PG G w b p→∀ k,G k→k < w.heap.size
 keep:∀ {G T:Nat→Prop} {w w':World} {b:Nat} {p:Ps},PG G w b p→Kept T w w'→(∀ k,G k→T k)→PG G w' b p
 new_yes:∀ (room:Int) (w:World),1≤room∧room≤4096→Calls Tryz.prog 118 #[.int .i64 room] w fun e w'=>∃ (b:Nat) (G:Nat→Prop),e=.returned (.tuple #[ptrP b,.int .i64 0])∧PG G w' b (newP room)∧(∀ k,G k→w.heap.size≤k)∧Below w.heap.size w w'
 new_no:∀ (room:Int) (w:World),room < 1∨4096 < room→wide room→Calls Tryz.prog 118 #[.int .i64 room] w fun e w'=>e=.returned (.tuple #[.pointer none,.int .i64 1])∧Below w.heap.size w w'
 write:∀ (G:Nat→Prop) (w:World) (b:Nat) (p:Ps) (a:Int) (s:ByteArray),PG G w b p→p.Ok→wide a→s.size≤1000000→Calls Tryz.prog 187 #[ptrP b,.int .i64 a,.string s] w fun e w'=>e=.returned (.int .i64 (p.writeE a s))∧Left PG G w w' b (p.write a s)
 fill:∀ (G:Nat→Prop) (w:World) (b:Nat) (p:Ps) (a:Int),PG G w b p→p.Ok→wide a→Calls Tryz.prog 188 #[ptrP b,.int .i64 a] w fun e w'=>e=.returned (.int .i64 (p.fillE a))∧Left PG G w w' b (p.fill a)
 trim:∀ (G:Nat→Prop) (w:World) (b:Nat) (p:Ps) (a:Int),PG G w b p→p.Ok→wide a→Calls Tryz.prog 190 #[ptrP b,.int .i64 a] w fun e w'=>e=.returned (.int .i64 (Ps.trimE a))∧Left PG G w w' b (p.trim a)
 read:∀ (G:Nat→Prop) (w:World) (b:Nat) (p:Ps) (a:Int),PG G w b p→p.Ok→wide a→Calls Tryz.prog 189 #[ptrP b,.int .i64 a] w fun e w'=>e=.returned (.tuple #[.string (p.readS a),.int .i64 (p.readE a)])∧Below w.heap.size w w'
 kind:∀ (G:Nat→Prop) (w:World) (b:Nat) (p:Ps) (a:Int),PG G w b p→p.Ok→wide a→Calls Tryz.prog 192 #[ptrP b,.int .i64 a] w fun e w'=>e=.returned (.int .i64 (p.kind a))∧Below w.heap.size w w'
 tail:∀ (G:Nat→Prop) (w:World) (b:Nat) (p:Ps),PG G w b p→p.Ok→Calls Tryz.prog 191 #[ptrP b] w fun e w'=>e=.returned (.int .i64 p.tail)∧Below w.heap.size w w'
 nil_write:∀ (a:Int) (s:ByteArray) (w:World),s.size≤maxLen→Calls Tryz.prog 187 #[.pointer none,.int .i64 a,.string s] w fun e w'=>e=.returned (.int .i64 1)∧Below w.heap.size w w'
 nil_fill:∀ (a:Int) (w:World),Calls Tryz.prog 188 #[.pointer none,.int .i64 a] w fun e w'=>e=.returned (.int .i64 1)∧Below w.heap.size w w'
 nil_trim:∀ (a:Int) (w:World),Calls Tryz.prog 190 #[.pointer none,.int .i64 a] w fun e w'=>e=.returned (.int .i64 1)∧Below w.heap.size w w'
 nil_read:∀ (a:Int) (w:World),Calls Tryz.prog 189 #[.pointer none,.int .i64 a] w fun e w'=>e=.returned (.tuple #[.string ⟨#[]⟩,.int .i64 1])∧Below w.heap.size w w'
 nil_kind:∀ (a:Int) (w:World),Calls Tryz.prog 192 #[.pointer none,.int .i64 a] w fun e w'=>e=.returned (.int .i64 0)∧Below w.heap.size w w'
 nil_tail:∀ (w:World),Calls Tryz.prog 191 #[.pointer none] w fun e w'=>e=.returned (.int .i64 0)∧Below w.heap.size w w'
section
variable {PG:(Nat→Prop)→World→Nat→Ps→Prop} {B:Nat} {w0 w:World} {b:Nat} {p:Ps}
end
end Go.Proofs.YtkefpbcifcjibaaGreat
