/- Joined texts. -/
import Derived.Deep.RegionHeld3
import Derived.Deep.RegionHeldLaw
import Derived.Test.YtkefpbcifcjibaaGreatG13a
import Derived.Test.YtkefpbcifcjibaaGreatG01a
import Derived.Test.YtkefpbcifcjibaaGreatG01b
import Derived.Test.YtkefpbcifcjibaaGreatG08a
import Derived.Test.YtkefpbcifcjibaaGreatG07a
import Derived.Test.YtkefpbcifcjibaaGreatG12a
import Derived.Test.YtkefpbcifcjibaaGreatH00
set_option linter.unusedVariables false
set_option maxRecDepth 20000
set_option maxHeartbeats 16000000
namespace Go.Proofs.YtkefpbcifcjibaaGreat
open Go.ChangeShapes Go.WideShapes Go.ChangeAt Go.RowKit
section
variable {H:Type} {enc:TypeId × Value→H} {P:Program} {w:World} {base:Nat} {spare:Nat→Bool} {held:Bool}
end
def XB (w:World) (b:Nat) (c p:Int):Prop:=w.heap[b]?=some (.cells #[.int .i64 c,.int .i64 p] 150 (0,0))
theorem XB.cells {w:World} {b:Nat} {c p:Int} (h:XB w b c p):w.cell? ⟨b,0,none⟩=some (.int .i64 c)∧w.cell? ⟨b,1,none⟩=some (.int .i64 p):=⟨z02 h 0,z02 h 1⟩
theorem below_alloc (w:World) (x:Obj):Below w.heap.size w (w.alloc x):=(Below.refl _ _).alloc (Nat.le_refl _) x
theorem two_keep {W0 W W':World} {b c:Nat} {v0 v1 u0 u1:Value} (hb:Below W.heap.size W W') (h:W.cell? ⟨b,0,none⟩=some v0∧W.cell? ⟨b,1,none⟩=some v1∧W.cell? ⟨c,0,none⟩=some u0∧W.cell? ⟨c,1,none⟩=some u1∧Below W0.heap.size W0 W∧W0.heap.size≤W.heap.size) :
  W'.cell? ⟨b,0,none⟩=some v0∧W'.cell? ⟨b,1,none⟩=some v1∧W'.cell? ⟨c,0,none⟩=some u0∧W'.cell? ⟨c,1,none⟩=some u1∧Below W0.heap.size W0 W'∧W0.heap.size≤W'.heap.size:=by
 obtain ⟨h0,h1,h2,h3,h4,h5⟩:=h
 exact ⟨z0s hb (block_lt_of_cell h0) h0,z0s hb (block_lt_of_cell h1) h1,z0s hb (block_lt_of_cell h2) h2,z0s hb (block_lt_of_cell h3) h3,h4.trans (hb.mono h5),Nat.le_trans h5 hb.size⟩
theorem two_below {W0 W:World} {b c:Nat} {v0 v1 u0 u1:Value} (h:W.cell? ⟨b,0,none⟩=some v0∧W.cell? ⟨b,1,none⟩=some v1∧W.cell? ⟨c,0,none⟩=some u0∧W.cell? ⟨c,1,none⟩=some u1∧Below W0.heap.size W0 W∧W0.heap.size≤W.heap.size):Below W0.heap.size W0 W:=h.2.2.2.2.1
theorem two_start {W:World} {b c:Nat} {e x y:Int} {a:Option Addr} {n cp:Nat} (h1:PB W b e a n cp) (h2:XB W c x y) :
  W.drew.cell? ⟨b,0,none⟩=some (.int .i64 e)∧W.drew.cell? ⟨b,1,none⟩=some (.slice a n cp)∧W.drew.cell? ⟨c,0,none⟩=some (.int .i64 x)∧W.drew.cell? ⟨c,1,none⟩=some (.int .i64 y)∧Below W.heap.size W W.drew∧W.heap.size≤W.drew.heap.size :=
 ⟨h1.cells.1,h1.cells.2,h2.cells.1,h2.cells.2,(Below.refl _ _).drew,Nat.le_refl _⟩
end Go.Proofs.YtkefpbcifcjibaaGreat
namespace Go.Proofs.YtkefpbcifcjibaaGreat
open Go.RowKit
def UM (b q:Nat) (G:Nat→Prop) (w:World) (u:Us):Prop :=
 (u.p.Ok∧i64w u.epoch)∧w.heap[b]?=some (.cells #[ptrV q,.int .i64 u.epoch,.bool u.down] 121 (0,0))∧G b∧∃ F:Nat→Prop,PGm F w q u.p∧(∀ k,F k→G k)∧¬ F b∧∀ k,G k→F k∨k=b
theorem z08 (b q:Nat):Thing (UM b q) where
 lt:=by
  rintro G w u ⟨_,h1,_,F,h3,_,_,h6⟩ k hk
  rcases h6 k hk with h | h
  ·exact h3.lt k h
  ·rw [h];exact lt_of_block h1
 keep:=by
  rintro G S w w' u ⟨h0,h1,h2,F,h3,h4,h5,h6⟩ hk hS
  exact ⟨h0,hk.heap (hS b h2) h1,h2,F,h3.keep hk (fun k hf=>hS k (h4 k hf)),h4,h5,h6⟩
section
variable {w:World} {b q:Nat} {G:Nat→Prop} {u:Us}
theorem UM.cells (h:UM b q G w u):w.heap[b]?=some (.cells #[.pointer (some ⟨q,0,none⟩),.int .i64 u.epoch,.bool u.down] 121 (0,0)):=h.2.1
theorem UM.small (h:UM b q G w u):b < w.heap.size:=lt_of_block h.2.1
theorem UM.ready (h:UM b q G w u):∃ F:Nat→Prop,PGm F w q u.p∧u.p.Ok∧∀ W2 p',p'.Ok→Left PGm F w W2 q p'→Leaves (UM b q) G w W2 ⟨p',u.epoch,u.down⟩:=by
 obtain ⟨⟨k1,k2⟩,k3,k4,F,k5,k6,k7,k8⟩:=h
 refine ⟨F,k5,k1,fun W2 p' hok hl=>?_⟩
 obtain ⟨F',r1,r2,r3⟩:=hl
 have hb:=lt_of_block k3
 refine ⟨fun k=>F' k∨k=b,⟨⟨hok,k2⟩,r2.heap k7 k3,.inr rfl,F',r1,fun k hk=>.inl hk,fun hf=>?_,fun k hk=>hk⟩,?_,fun k hk=>?_⟩
 ·rcases r3 b hf with h3 | h3
  ·exact k7 h3
  ·omega
 ·exact ⟨r2.os,r2.tape,r2.output,r2.size,fun k hg hkl=>r2.block k (fun hf=>hg (k6 k hf)) hkl⟩
 ·rcases hk with hk | hk
  ·exact (r3 k hk).imp (fun h=>k6 k h) id
  ·exact .inl (hk ▸ k4)
theorem UM.seal (h:UM b q G w u) {ep:Int} (he:i64w ep):Leaves (UM b q) G w (w.setCell ⟨b,1,none⟩ (.int .i64 ep)) ⟨u.p,ep,u.down⟩:=by
 obtain ⟨⟨k1,k2⟩,k3,k4,F,k5,k6,k7,k8⟩:=h
 have hk:Kept (fun k=>k≠b) w (w.setCell ⟨b,1,none⟩ (.int .i64 ep)):=(Kept.refl _ w).setCell (p:=⟨b,1,none⟩) (fun h=>h rfl) _
 exact ⟨G,⟨⟨k1,he⟩,three_set1 k3 _,k4,F,k5.keep hk (fun k hf e=>k7 (e ▸ hf)),k6,k7,k8⟩,hk.mono (fun k hg e=>hg (e ▸ k4)),fun k hk=>.inl hk⟩
theorem UM.turn (h:UM b q G w u) (d:Bool):Leaves (UM b q) G w (w.setCell ⟨b,2,none⟩ (.bool d)) ⟨u.p,u.epoch,d⟩:=by
 obtain ⟨k0,k3,k4,F,k5,k6,k7,k8⟩:=h
 have hk:Kept (fun k=>k≠b) w (w.setCell ⟨b,2,none⟩ (.bool d)):=(Kept.refl _ w).setCell (p:=⟨b,2,none⟩) (fun h=>h rfl) _
 exact ⟨G,⟨k0,three_set2 k3 _,k4,F,k5.keep hk (fun k hf e=>k7 (e ▸ hf)),k6,k7,k8⟩,hk.mono (fun k hg e=>hg (e ▸ k4)),fun k hk=>.inl hk⟩
end
theorem un_new_yes (room:Int) (w:World) (h:1≤room∧room≤4096) :
  Calls Tryz.prog 92 #[.int .i64 room] w fun e w'=>∃ (b q:Nat) (G:Nat→Prop),e=.returned (.tuple #[ptrV b,.int .i64 0])∧UM b q G w' (newU room)∧(∀ k,G k→w.heap.size≤k)∧Below w.heap.size w w':=by
 have CN:=Lh (pnew_yes room w h)
 have HN:=Lh (newP_ok h)
 go_enter Tryz.func92,Tryz.ntmps92
 go_wp2_with (go_at_call 118;refine CN.out.mono ?_;rintro e w1 ⟨q,F,rfl,hg1,hg2,hb1⟩;have HG:=Lh hg1;have HF:=Lh hg2;have HB:=Lh hb1;clear hg1 hb1 hg2)
 go_ret2
 have hlt:=HG.out.lt
 have hnf:¬ F w1.heap.size:=fun hf=>Nat.lt_irrefl _ (hlt _ hf)
 have hb2:Below w1.heap.size w1 (w1.alloc (.cells #[.pointer (some ⟨q,0,none⟩),.int .i64 0,.bool false] 121)):=(Below.refl _ _).alloc (Nat.le_refl _) _
 refine ⟨w1.heap.size,q,fun k=>F k∨k=w1.heap.size,rfl,⟨⟨HN.out,WalkArith.wf_i64 (n:=0) (by decide)⟩,heap_alloc_new _ _,.inr rfl,F,HG.out.keep (Kept.ofBelow hb2 (fun _=>True)) (fun _ _=>trivial),fun k hk=>.inl hk,hnf,fun k hk=>hk⟩,fun k hk=>?_,HB.out.alloc HB.out.size _⟩
 rcases hk with h | h
 ·exact HF.out k h
 ·rw [h];exact HB.out.size
theorem un_new_no (room:Int) (w:World) (h:room < 1∨4096 < room) (hr:i64w room) :
  Calls Tryz.prog 92 #[.int .i64 room] w fun e w'=>e=.returned (.tuple #[.pointer none,.int .i64 1])∧Below w.heap.size w w':=by
 have CN:=Lh (pnew_no room w h)
 clear h
 go_enter Tryz.func92,Tryz.ntmps92
 go_wp2_with (go_at_call 118;refine CN.out.mono ?_;rintro e w1 ⟨rfl,hb1⟩;have HB:=Lh hb1;clear hb1)
 go_ret2
 exact ⟨rfl,HB.out⟩
theorem un_crash (b q:Nat) (G:Nat→Prop) (w:World) (u:Us) (h:UM b q G w u) :
  Calls Tryz.prog 31 #[.pointer (some ⟨b,0,none⟩)] w fun e w'=>e=.returned (.tuple #[])∧Leaves (UM b q) G w w' ⟨u.p,u.epoch,true⟩:=by
 have HT:=Lh (h.turn true)
 have hb:=h.small
 obtain ⟨c0,c1,c2,f0,f1,f2⟩:=z09 h.cells
 clear h
 go_enter Tryz.func31,Tryz.ntmps31
 go_wp2
 go_end0
 exact ⟨rfl,HT.out⟩
theorem un_crash_nil (w:World):Calls Tryz.prog 31 #[.pointer none] w fun e w'=>e=.returned (.tuple #[])∧w=w':=by
 go_enter Tryz.func31,Tryz.ntmps31
 go_wp2
 go_end0
 exact ⟨rfl,rfl⟩
theorem coded_any (c:Int) (w:World):Calls Tryz.prog 179 #[.int .i64 c] w fun e w'=>e=.returned (anV c 0 noS 0)∧Below w.heap.size w w':=by
 go_enter Tryz.func179,Tryz.ntmps179
 go_wp2
 exact z0k (x:=anP c 0 noS 0) (ao:=none) (cap:=0) rfl (heap_alloc_new _ _) rfl rfl ⟨rfl,(Below.refl _ _).alloc (Nat.le_refl _) _⟩
def lenG (E:Int) (M:List (List Int)) (a:Int):Nat:=(chainR E M a).length
def unG (E:Int) (M:List (List Int)) (a:Int) (j:Nat):Nat:=((chainR E M a).getD j 0).toNat
structure AdG (E:Int) (M:List (List Int)) (a:Int):Prop where
 of:ofB E M a=true
 page:ofP E M a < 14
theorem flat_apart {M:List (List Int)} (h:M.flatten.Nodup) {k l i j:Nat} (hk:k < M.length) (hl:l < M.length) (hi:i < M[k].length) (hj:j < M[l].length) (e:M[k][i]=M[l][j]):k=l∧i=j:=by
 induction M generalizing k l with
 | nil=>cases hk
 | cons c M ih =>
  rw [List.flatten_cons,List.nodup_append] at h
  obtain ⟨h1,h2,h3⟩:=h
  cases k with
  | zero =>
   cases l with
   | zero =>
    refine ⟨rfl,?_⟩
    have hp:=List.pairwise_iff_getElem.1 h1
    simp only [List.getElem_cons_zero] at e hi hj
    rcases Nat.lt_trichotomy i j with g | g | g
    ·exact absurd e (hp i j hi hj g)
    ·exact g
    ·exact absurd e.symm (hp j i hj hi g)
   | succ l =>
    simp only [List.getElem_cons_zero,List.getElem_cons_succ] at e hi hj
    have hl':l < M.length:=by simpa using hl
    exact absurd e (h3 _ (List.getElem_mem hi) _ (List.mem_flatten.2 ⟨M[l],List.getElem_mem hl',List.getElem_mem hj⟩))
  | succ k =>
   have hk':k < M.length:=by simpa using hk
   cases l with
   | zero =>
    simp only [List.getElem_cons_zero,List.getElem_cons_succ] at e hi hj
    exact absurd e.symm (h3 _ (List.getElem_mem hj) _ (List.mem_flatten.2 ⟨M[k],List.getElem_mem hk',List.getElem_mem hi⟩))
   | succ l =>
    have hl':l < M.length:=by simpa using hl
    simp only [List.getElem_cons_succ] at e hi hj
    obtain ⟨g1,g2⟩:=ih h2 hk' hl' hi hj e
    exact ⟨by omega,g2⟩
section
variable {E:Int} {M:List (List Int)} {a b:Int} {i j:Nat}
theorem z12 (h:ofB E M a=true):∃ k:Nat,∃ hk:k < M.length,a % (M.length:Int)=(k:Int)∧chainR E M a=M[k]∧ofP E M a=a / (M.length:Int)∧0≤a / (M.length:Int)∧chainB M[k]=true:=by
 obtain ⟨hg,ha⟩:=ofB_iff.1 h
 obtain ⟨n1,n4⟩:=z0v hg
 obtain ⟨r1,r2,_⟩:=of_range (n:=M.length) ⟨by omega,by omega⟩ ha
 obtain ⟨k,hk⟩:=Int.eq_ofNat_of_zero_le r1.1
 have hkl:k < M.length:=by omega
 exact ⟨k,hkl,hk,chainR_yes h hkl hk,by unfold ofP;rw [if_pos h],r2.1,(goodB_iff.1 hg).2.2.1 _ (List.getElem_mem hkl)⟩
theorem z1b (h:ofB E M a=true):1≤lenG E M a∧lenG E M a≤4:=by
 obtain ⟨k,hk,_,e,_,_,hc⟩:=z12 h
 unfold lenG
 rw [e]
 exact (chainB_iff.1 hc).1
theorem unG_is (h:ofB E M a=true) (hj:j < lenG E M a):(chainR E M a).getD j 0=(unG E M a j:Int)∧unG E M a j < 16:=by
 obtain ⟨k,hk,_,e,_,_,hc⟩:=z12 h
 unfold lenG at hj
 unfold unG
 rw [e] at hj ⊢
 have e2:M[k].getD j 0=M[k][j]:=by simp [hj]
 rw [e2]
 have:=(chainB_iff.1 hc).2 _ (List.getElem_mem hj)
 omega
theorem unG_apart (ha:ofB E M a=true) (hb:ofB E M b=true) (hj:j < lenG E M a) (hi:i < lenG E M b) (h:unG E M b i=unG E M a j):a % (M.length:Int)=b % (M.length:Int)∧i=j:=by
 obtain ⟨k,hk,m1,e1,p1,_,hc1⟩:=z12 ha
 obtain ⟨l,hl,m2,e2,p2,_,hc2⟩:=z12 hb
 have u1:=(unG_is ha hj).1
 have u2:=(unG_is hb hi).1
 unfold lenG at hi hj
 rw [e1] at hj u1
 rw [e2] at hi u2
 have g1:M[k].getD j 0=M[k][j]:=by simp [hj]
 have g2:M[l].getD i 0=M[l][i]:=by simp [hi]
 have nd:=(goodB_iff.1 (ofB_iff.1 ha).1).2.2.2
 obtain ⟨r1,r2⟩:=flat_apart nd hl hk hi hj (by rw [← g1,← g2,u1,u2,h])
 subst r1
 exact ⟨m1.trans m2.symm,r2⟩
theorem unG_one (ha:ofB E M a=true) (hb:ofB E M b=true) (hj:j < lenG E M a) (hi:i < lenG E M b) (h:unG E M b i=unG E M a j) (hp:ofP E M b=ofP E M a):b=a∧i=j:=by
 obtain ⟨g1,g2⟩:=unG_apart ha hb hj hi h
 obtain ⟨_,_,_,_,p1,_⟩:=z12 ha
 obtain ⟨_,_,_,_,p2,_⟩:=z12 hb
 obtain ⟨n1,n4⟩:=z0v (ofB_iff.1 ha).1
 exact ⟨of_inj (n:=M.length) ⟨by omega,by omega⟩ g1.symm (by rw [← p2,← p1,hp]),g2⟩
end
def GK (E:Int) (M:List (List Int)) (n:Nd) (a:Int) (j:Nat):Int:=(n.u (unG E M a j)).p.kind (ofP E M a)
def GX (E:Int) (M:List (List Int)) (n:Nd) (a:Int) (j:Nat):ByteArray:=(n.u (unG E M a j)).p.text (ofP E M a)
structure GtN (E:Int) (M:List (List Int)) (n:Nd):Prop where
 u:∀ a j,ofB E M a=true→j < lenG E M a→GtU E (n.u (unG E M a j))
structure AskH (E:Int) (M:List (List Int)) (a:Int) (j:Nat) (k:Ak):Prop where
 q:AskG E k
 unit:k.unit=(unG E M a j:Int)
 page:k.page=ofP E M a
structure MovedG (E:Int) (M:List (List Int)) (n n':Nd) (a:Int) (j:Nat):Prop where
 ft:GtN E M n'
 off:∀ b i,ofB E M b=true→i < lenG E M b→¬ (b=a∧i=j)→GK E M n' b i=GK E M n b i∧GX E M n' b i=GX E M n b i
 same:∀ i,i≠unG E M a j→n'.u i=n.u i
 epoch:∀ i,(n'.u i).epoch=(n.u i).epoch
 o:n'.o=n.o
 l:n'.l=n.l
section
variable {E:Int} {M:List (List Int)} {n:Nd} {a:Int} {j:Nat} {k:Ak}
theorem AskH.ans (hk:AskH E M a j k) (ha:ofB E M a=true) (hj:j < lenG E M a):n.ans k=(n.u (unG E M a j)).ans k∧n.done k=n.putU (unG E M a j) ((n.u (unG E M a j)).done k):=by
 have hu:=(unG_is ha hj).2
 have h1:=hk.q.kind
 have h2:=hk.unit
 have e:k.unit.toNat=unG E M a j:=by omega
 constructor
 ·unfold Nd.ans
  rw [if_pos (by omega),if_pos (by omega),e]
 ·unfold Nd.done
  rw [if_pos (by omega),if_pos (by omega),e]
theorem movedG (h:GtN E M n) (ha:ofB E M a=true) (hj:j < lenG E M a) {v:Us} (hl:LeafG E (n.u (unG E M a j)) v (ofP E M a)):MovedG E M n (n.putU (unG E M a j) v) a j:=by
 refine ⟨⟨fun b i hb hi=>?_⟩,fun b i hb hi hn=>?_,fun i hi=>putU_off _ _ hi,fun i=>?_,rfl,rfl⟩
 ·by_cases e:unG E M b i=unG E M a j
  ·rw [e,putU_at];exact hl.ft
  ·rw [putU_off _ _ e];exact h.u b i hb hi
 ·unfold GK GX
  by_cases e:unG E M b i=unG E M a j
  ·rw [e,putU_at]
   by_cases hp:ofP E M b=ofP E M a
   ·exact absurd (unG_one ha hb hj hi e hp) hn
   ·exact hl.off _ hp
  ·rw [putU_off _ _ e]
   exact ⟨rfl,rfl⟩
 ·by_cases e:i=unG E M a j
  ·rw [e,putU_at];exact hl.epoch
  ·rw [putU_off _ _ e]
theorem GtN.write_new (h:GtN E M n) (hk:AskH E M a j k) (ha:ofB E M a=true) (hj:j < lenG E M a) (h1:k.kind=1) (h0:GK E M n a j=0):(n.ans k).code=0∧MovedG E M n (n.done k) a j∧GK E M (n.done k) a j=1∧GX E M (n.done k) a j=k.data:=by
 have hU:=h.u a j ha hj
 unfold GK GX at *
 rw [← hk.page] at h0 ⊢
 obtain ⟨r1,r2,r3,r4⟩:=hU.write_new hk.q h1 h0
 obtain ⟨e1,e2⟩:=hk.ans (n:=n) ha hj
 rw [e1,e2,putU_at]
 exact ⟨r1,movedG h ha hj (hk.page ▸ r2),r3,r4⟩
theorem GtN.write_old (h:GtN E M n) (hk:AskH E M a j k) (ha:ofB E M a=true) (hj:j < lenG E M a) (h1:k.kind=1) (h0:GK E M n a j≠0):(n.ans k).code=(if GK E M n a j=3 then 43 else 41)∧n.done k=n:=by
 have hU:=h.u a j ha hj
 unfold GK at *
 rw [← hk.page] at h0 ⊢
 obtain ⟨r1,r2⟩:=hU.write_old hk.q h1 h0
 obtain ⟨e1,e2⟩:=hk.ans (n:=n) ha hj
 rw [e1,e2,r2,putU_same]
 exact ⟨r1,rfl⟩
theorem GtN.fill_new (h:GtN E M n) (hk:AskH E M a j k) (ha:ofB E M a=true) (hj:j < lenG E M a) (h1:k.kind=2) (h0:GK E M n a j=0):(n.ans k).code=0∧MovedG E M n (n.done k) a j∧GK E M (n.done k) a j=2:=by
 have hU:=h.u a j ha hj
 unfold GK at *
 rw [← hk.page] at h0 ⊢
 obtain ⟨r1,r2,r3⟩:=hU.fill_new hk.q h1 h0
 obtain ⟨e1,e2⟩:=hk.ans (n:=n) ha hj
 rw [e1,e2,putU_at]
 exact ⟨r1,movedG h ha hj (hk.page ▸ r2),r3⟩
theorem GtN.fill_old (h:GtN E M n) (hk:AskH E M a j k) (ha:ofB E M a=true) (hj:j < lenG E M a) (h1:k.kind=2) (h0:GK E M n a j≠0):(n.ans k).code=(if GK E M n a j=3 then 43 else if GK E M n a j=2 then 0 else 41)∧n.done k=n:=by
 have hU:=h.u a j ha hj
 unfold GK at *
 rw [← hk.page] at h0 ⊢
 obtain ⟨r1,r2⟩:=hU.fill_old hk.q h1 h0
 obtain ⟨e1,e2⟩:=hk.ans (n:=n) ha hj
 rw [e1,e2,r2,putU_same]
 exact ⟨r1,rfl⟩
theorem GtN.read (h:GtN E M n) (hk:AskH E M a j k) (ha:ofB E M a=true) (hj:j < lenG E M a) (h1:k.kind=3):(n.ans k).code=(if GK E M n a j=3 then 43 else if GK E M n a j=0 then 42 else if GK E M n a j=2 then 46 else 0)∧(GK E M n a j=1→(n.ans k).data=GX E M n a j)∧n.done k=n:=by
 have hU:=h.u a j ha hj
 unfold GK GX
 rw [← hk.page]
 obtain ⟨r1,r2,r3⟩:=hU.read hk.q h1
 obtain ⟨e1,e2⟩:=hk.ans (n:=n) ha hj
 rw [e1,e2,r3,putU_same]
 exact ⟨r1,r2,rfl⟩
theorem GtN.kinds (h:GtN E M n) (ha:ofB E M a=true) (hj:j < lenG E M a):GK E M n a j=0∨GK E M n a j=1∨GK E M n a j=2∨GK E M n a j=3 :=
 (h.u a j ha hj).ok.kinds _
end
def PreG (E:Int) (M:List (List Int)) (n:Nd) (a:Int):Prop:=∀ j,j+1 < lenG E M a→GK E M n a (j+1)≠0→GK E M n a j=GK E M n a (j+1)∧(GK E M n a j=1→GX E M n a j=GX E M n a (j+1))
theorem PreG.down {E:Int} {M:List (List Int)} {n:Nd} {a:Int} (h:PreG E M n a):∀ d j,j+d < lenG E M a→GK E M n a (j+d)≠0→GK E M n a j=GK E M n a (j+d)∧(GK E M n a j=1→GX E M n a j=GX E M n a (j+d)):=by
 intro d
 induction d with
 | zero=>intro j _ _;exact ⟨rfl,fun _=>rfl⟩
 | succ d ih =>
  intro j hj h0
  obtain ⟨h1,h2⟩:=h (j+d) (by omega) h0
  obtain ⟨h3,h4⟩:=ih j (by omega) (by rw [h1];exact h0)
  refine ⟨h3.trans h1,fun e=>?_⟩
  rw [h4 e]
  exact h2 (h3 ▸ e)
def Chained {α:Type} (T:(Nat→Prop)→World→α→Prop) (C:Nat→Prop) (v:Value) (L:List (List Int)) (H:Nat→Prop) (w:World) (s:α):Prop :=
 ∃ H1:Nat→Prop,T H1 w s∧CG C w v L∧(∀ k,C k→k < w.heap.size)∧(∀ k,C k→¬ H1 k)∧∀ k,H k↔H1 k∨C k
section
variable {α β:Type} {T:(Nat→Prop)→World→α→Prop} {U:(Nat→Prop)→World→β→Prop} {C G:Nat→Prop} {v:Value} {L:List (List Int)} {w w':World} {s s':α} {x:An} {e:Ending}
theorem z11 (hT:Thing T) (C:Nat→Prop) (v:Value) (L:List (List Int)):Thing (Chained T C v L) where
 lt:=by
  rintro H w s ⟨H1,h1,h2,h3,h4,h5⟩ k hk
  rcases (h5 k).1 hk with h | h
  ·exact hT.lt h1 k h
  ·exact h3 k h
 keep:=by
  rintro H S w w' s ⟨H1,h1,h2,h3,h4,h5⟩ hk hS
  exact ⟨H1,hT.keep h1 hk (fun k hf=>hS k ((h5 k).2 (.inl hf))),h2.keep hk (fun k hc=>hS k ((h5 k).2 (.inr hc))),fun k hc=>Nat.lt_of_lt_of_le (h3 k hc) hk.size,h4,h5⟩
theorem tells_chained (h:Tells T G w s' x e w'):∃ (ao:Option Addr) (cap:Nat) (C:Nat→Prop),e=.returned (ansV x ao cap)∧(∀ k,C k→w.heap.size≤k)∧Leaves (Chained T C (.slice ao x.L.length cap) x.L) G w w' s':=by
 obtain ⟨ao,cap,C,he,hC,hF,G',r1,r2,r3,r4⟩:=h
 refine ⟨ao,cap,C,he,fun k hk=>(hF k hk).1,fun k=>G' k∨C k,⟨G',r1,hC,fun k hk=>(hF k hk).2,r2,fun k=>Iff.rfl⟩,r3,fun k hk=>?_⟩
 rcases hk with h | h
 ·exact r4 k h
 ·exact .inr (hF k h).1
theorem z2c {ao:Option Addr} {cap:Nat} (hC:∀ k,C k→w.heap.size≤k) (h:Leaves (Chained T C (.slice ao x.L.length cap) x.L) G w w' s'):Tells T G w s' x (.returned (ansV x ao cap)) w':=by
 obtain ⟨H,⟨H1,h1,h2,h3,h4,h5⟩,r2,r3⟩:=h
 exact ⟨ao,cap,C,rfl,h2,fun k hk=>⟨hC k hk,h3 k hk⟩,H1,h1,h4,r2,fun k hk=>r3 k ((h5 k).2 (.inl hk))⟩
theorem tells_plain (h:Leaves T G w w' s') (hL:x.L=[]) (he:e=.returned (ansV x none 0)):Tells T G w s' x e w':=by
 rw [he]
 exact Tells.plain h hL
theorem chained_new (hT:Thing T) (h:T G w s) (hb:Below w.heap.size w w') (hO:OC w' w.heap.size v L):Leaves (Chained T (fun k=>w.heap.size≤k∧k < w'.heap.size) v L) G w w' s:=by
 refine ⟨fun k=>G k∨(w.heap.size≤k∧k < w'.heap.size),⟨G,hT.keep h (Kept.ofBelow hb (fun _=>True)) (fun _ _=>trivial),CG.of hO,fun k hk=>hk.2,fun k hk hg=>?_,fun k=>Iff.rfl⟩,Kept.ofBelow hb _,fun k hk=>hk.imp id (fun h=>h.1)⟩
 have:=hT.lt h k hg
 omega
theorem Tells.to {γ:Type} {V:(Nat→Prop)→World→γ→Prop} {z:γ} (h:Tells T G w s' x e w') (hs:∀ H W,T H W s'→V H W z):Tells V G w z x e w':=by
 obtain ⟨ao,cap,F,h1,h2,h3,G',h4,h5⟩:=h
 exact ⟨ao,cap,F,h1,h2,h3,G',hs _ _ h4,h5⟩
end
def mayF (N U:List Int) (u:Int):Bool:=hasB N u || !hasB U u
theorem may_no {y:Ly} {e:Int} {Q:List (List Int)} (h:nextB y.ep y.L e Q=false):y.may e Q=false:=by simp [Ly.may,h]
theorem may_yes {y:Ly} {e:Int} {Q:List (List Int)} (h:nextB y.ep y.L e Q=true):y.may e Q=(unitsR Q).all (mayF (unitsR y.L) y.used):=by
 unfold Ly.may
 rw [h,Bool.true_and]
 rfl
theorem units_few {L:List (List Int)} (l1:L.length≤255∧∀ c ∈ L,c.length≤255):(unitsR L).length≤70000:=by
 have h3:=(z1r [] L.flatten List.Pairwise.nil).1
 have h4:=flat_le L 255 l1.2
 have h5:255 * L.length≤255 * 255:=Nat.mul_le_mul_left _ l1.1
 unfold unitsR
 rw [List.length_nil] at h3
 omega
section
variable {w W W':World} {r b B:Nat} {e1 e2:Int} {v1 v2:Value}
theorem mw_on (h:W.cell? ⟨r,0,none⟩=some (.int .i64 e1)∧W.cell? ⟨r,1,none⟩=some v1∧W.cell? ⟨b,0,none⟩=some (.int .i64 e2)∧W.cell? ⟨b,1,none⟩=some v2∧Below B w W∧B≤W.heap.size) (hb:Below W.heap.size W W') :
  W'.cell? ⟨r,0,none⟩=some (.int .i64 e1)∧W'.cell? ⟨r,1,none⟩=some v1∧W'.cell? ⟨b,0,none⟩=some (.int .i64 e2)∧W'.cell? ⟨b,1,none⟩=some v2∧Below B w W'∧B≤W'.heap.size :=
 ⟨z0s hb (block_lt_of_cell h.1) h.1,z0s hb (block_lt_of_cell h.2.1) h.2.1,z0s hb (block_lt_of_cell h.2.2.1) h.2.2.1,z0s hb (block_lt_of_cell h.2.2.2.1) h.2.2.2.1,h.2.2.2.2.1.trans (hb.mono h.2.2.2.2.2),Nat.le_trans h.2.2.2.2.2 hb.size⟩
theorem mw_b (h:W.cell? ⟨r,0,none⟩=some (.int .i64 e1)∧W.cell? ⟨r,1,none⟩=some v1∧W.cell? ⟨b,0,none⟩=some (.int .i64 e2)∧W.cell? ⟨b,1,none⟩=some v2∧Below B w W∧B≤W.heap.size):Below B w W:=h.2.2.2.2.1
end
structure Part (T:(Nat→Prop)→World→Prop):Prop where
 lt:∀ {F:Nat→Prop} {w:World},T F w→∀ k,F k→k < w.heap.size
 keep:∀ {F S:Nat→Prop} {w w':World},T F w→Kept S w w'→(∀ k,F k→S k)→T F w'
theorem Thing.part {α:Type} {T:(Nat→Prop)→World→α→Prop} (h:Thing T) (a:α):Part (fun F w=>T F w a):=⟨fun h1=>h.lt h1,fun h1 h2 h3=>h.keep h1 h2 h3⟩
def swapP (T:Nat→(Nat→Prop)→World→Prop) (i:Nat) (U:(Nat→Prop)→World→Prop):Nat→(Nat→Prop)→World→Prop:=fun j=>if j=i then U else T j
section
variable {n i:Nat} {T:Nat→(Nat→Prop)→World→Prop} {U:(Nat→Prop)→World→Prop} {X Y:Nat→Prop} {w w':World}
end
end Go.Proofs.YtkefpbcifcjibaaGreat
namespace Go.Proofs.YtkefpbcifcjibaaGreat
open Go.RowKit Go.Maps
def inB (v a b:Int):Bool:=decide (a≤v∧v≤b)
theorem pwithin_any (v a b:Int) (w:World) :
  Calls Tryz.prog 79 #[.int .i64 v,.int .i64 a,.int .i64 b] w fun e w'=>e=.returned (.bool (inB v a b))∧w=w':=by
 by_cases h1:a≤v
 ·by_cases h2:v≤b
  ·rw [show inB v a b=true from decide_eq_true ⟨h1,h2⟩]
   go_enter Tryz.func79,Tryz.ntmps79
   go_wp2_with fail
   go_ret
   exact ⟨rfl,rfl⟩
  ·rw [show inB v a b=false from decide_eq_false (fun h=>h2 h.2)]
   have h3:decide (v≤b)=false:=decide_eq_false h2
   clear h2
   go_enter Tryz.func79,Tryz.ntmps79
   go_wp2_with fail
   go_ret
   exact ⟨rfl,rfl⟩
 ·rw [show inB v a b=false from decide_eq_false (fun h=>h1 h.1)]
  have h3:decide (a≤v)=false:=decide_eq_false h1
  clear h1
  go_enter Tryz.func79,Tryz.ntmps79
  go_wp2_with fail
  go_ret
  exact ⟨rfl,rfl⟩
theorem isNone_any (v:Int) (w:World) :
  Calls Tryz.prog 81 #[.int .i64 v] w fun e w'=>e=.returned (.bool (!inB v 0 15))∧w=w':=by
 go_enter Tryz.func81,Tryz.ntmps81
 go_wp2_with (go_at_call 79;refine (pwithin_any _ _ _ _).mono ?_;rintro e w1 ⟨rfl,rfl⟩)
 go_ret
 exact ⟨rfl,rfl⟩
def badB (l:List Int):Bool:=!(l.all fun u=>inB u 0 15)
theorem badB_no {l:List Int} (h:∀ u ∈ l.take l.length,inB u 0 15=true):badB l=false:=by
 rw [List.take_of_length_le (Nat.le_refl _)] at h
 simpa [badB,List.all_eq_true] using h
theorem badB_yes {l:List Int} {k:Nat} (hk:k < l.length) (h:inB l[k] 0 15=false):badB l=true:=by
 cases e:badB l
 ·have:∀ u ∈ l,inB u 0 15=true:=by simpa [badB,List.all_eq_true] using e
  rw [this _ (List.getElem_mem hk)] at h
  cases h
 ·rfl
theorem all_in_succ {l:List Int} {k:Nat} (hk:k < l.length) (h:∀ u ∈ l.take k,inB u 0 15=true) (e:inB l[k] 0 15=true):∀ u ∈ l.take (k+1),inB u 0 15=true:=by
 rw [List.take_succ_eq_append_getElem hk]
 intro u hu
 rcases List.mem_append.1 hu with h1 | h1
 ·exact h u h1
 ·rw [List.mem_singleton.1 h1];exact e
theorem index_any (l:List Int) (ao:Option Addr) (cap:Nat) (w:World) (h:NLI w ao cap l) (hl:l.length≤1000000) :
  Calls Tryz.prog 113 #[.slice ao l.length cap,.func (.func 81) #[] #[]] w fun e w'=>∃ r:Int,e=.returned (.int .i64 r)∧w=w'∧((0≤r∧badB l=true)∨(r < 0∧badB l=false)):=by
 have HY:=Lh (fun k (hk:k < l.length)=>show inB l[k] 0 15=false→badB l=true from fun e=>badB_yes hk e)
 have HN:=Lh (show (∀ u ∈ l.take l.length,inB u 0 15=true)→badB l=false from badB_no)
 generalize badB l=R at *
 have HA:=Lh h
 have hl':(l.length:Int)≤1000000:=by omega
 clear h
 go_enter Tryz.func113,Tryz.ntmps113
 go_wp2_with fail
 go_loop [8] (fun i=>∃ k:Nat,i=.int .i64 k∧k≤l.length∧Hid (∀ u ∈ l.take k,inB u 0 15=true)) (fun i=>l.length - (intOf i).toNat)
 case atStart=>exact ⟨0,rfl,Nat.zero_le _,Lh (by simp)⟩
 case round =>
  obtain ⟨k,rfl,hk,HT⟩:=hrel
  by_cases hlt:k < l.length
  ·obtain ⟨bk,off,rfl,c0⟩:=HA.out.at k hlt
   have k0:(k:Int) < (l.length:Int):=by omega
   by_cases he:inB l[k] 0 15=true
   ·have HT2:=Lh (all_in_succ hlt HT.out he)
    have CI:=Lh (isNone_any l[k] w)
    rw [he] at CI
    clear he
    generalize l[k]=u at *
    go_wp2_with (go_at_call 81;refine CI.out.mono ?_;rintro e w1 ⟨rfl,rfl⟩)
    go_round
    case rel=>exact ⟨k+1,by go_num,by omega,HT2⟩
    case measure=>simp [intOf];omega
   ·have he':inB l[k] 0 15=false:=by simpa using he
    have HX:=Lh (HY.out k hlt he')
    have CI:=Lh (isNone_any l[k] w)
    rw [he'] at CI
    clear he he'
    generalize l[k]=u at *
    go_wp2_with (go_at_call 81;refine CI.out.mono ?_;rintro e w1 ⟨rfl,rfl⟩)
    go_ret
    exact ⟨_,rfl,rfl,.inl ⟨by omega,HX.out⟩⟩
  ·obtain rfl:k=l.length:=by omega
   have HX:=Lh (HN.out HT.out)
   go_wp2_with fail
   go_ret
   exact ⟨_,rfl,rfl,.inr ⟨by decide,HX.out⟩⟩
theorem contains_any (l:List Int) (ao:Option Addr) (cap:Nat) (w:World) (h:NLI w ao cap l) (hl:l.length≤1000000) :
  Calls Tryz.prog 80 #[.slice ao l.length cap,.func (.func 81) #[] #[]] w fun e w'=>e=.returned (.bool (badB l))∧w=w':=by
 have CI:=Lh (index_any l ao cap w h hl)
 have HW:=Lh h
 clear h hl
 by_cases hb:badB l=true
 ·rw [hb] at CI ⊢
  clear hb
  go_enter Tryz.func80,Tryz.ntmps80
  go_wp2_with (go_at_call 113;refine CI.out.mono ?_;rintro e w1 ⟨r,rfl,rfl,hr⟩;have hr0:decide (0≤r)=true:=decide_eq_true (hr.elim (fun h=>h.1) (fun h=>by cases h.2));clear hr)
  go_ret
  exact ⟨rfl,rfl⟩
 ·have hb':badB l=false:=by simpa using hb
  rw [hb'] at CI ⊢
  clear hb hb'
  go_enter Tryz.func80,Tryz.ntmps80
  go_wp2_with (go_at_call 113;refine CI.out.mono ?_;rintro e w1 ⟨r,rfl,rfl,hr⟩;have hr0:decide (0≤r)=false:=decide_eq_false (Int.not_le.2 (hr.elim (fun h=>by cases h.2) (fun h=>h.1)));clear hr)
  go_ret
  exact ⟨rfl,rfl⟩
def standN (L:List (List Int)) (n:Nat):Nat:=(L.take n).flatten.length
theorem standN_succ {L:List (List Int)} {n:Nat} (h:n < L.length):standN L (n+1)=standN L n+L[n].length:=by
 unfold standN
 rw [List.take_succ_eq_append_getElem h,List.flatten_append,List.length_append]
 simp
theorem standN_all (L:List (List Int)):standN L L.length=L.flatten.length:=by
 unfold standN
 rw [List.take_of_length_le (Nat.le_refl _)]
theorem standN_le {L:List (List Int)} (hl:L.length≤255∧∀ c ∈ L,c.length≤255) (n:Nat):standN L n≤70000:=by
 have h2:=flat_le (L.take n) 255 (fun c hc=>hl.2 c (List.mem_of_mem_take hc))
 have h5:(L.take n).length≤255:=by rw [List.length_take];omega
 have h6:255 * (L.take n).length≤255 * 255:=Nat.mul_le_mul_left _ h5
 unfold standN
 omega
theorem chainB_parts (c:List Int):chainB c=(inB c.length 1 4 && !badB c):=by
 unfold chainB badB inB
 rw [Bool.not_not]
 congr 1
 rw [decide_eq_decide]
 omega
theorem goodB_chainB {ep:Int} {L:List (List Int)} {n:Nat} (hn:n < L.length) (h:chainB L[n]=false):goodB ep L=false:=by
 rw [Bool.eq_false_iff]
 intro e
 rw [(goodB_iff.1 e).2.2.1 _ (List.getElem_mem hn)] at h
 cases h
theorem take_chains {L:List (List Int)} {n:Nat} (hn:n < L.length) (h:∀ c ∈ L.take n,chainB c=true) (e:chainB L[n]=true):∀ c ∈ L.take (n+1),chainB c=true:=by
 rw [List.take_succ_eq_append_getElem hn]
 intro u hu
 rcases List.mem_append.1 hu with h1 | h1
 ·exact h u h1
 ·rw [List.mem_singleton.1 h1];exact e
theorem goodB_head {ep:Int} {L:List (List Int)} (h:inB ep 0 2147483647=false∨inB L.length 1 4=false):goodB ep L=false:=by
 rw [Bool.eq_false_iff]
 intro e
 obtain ⟨h1,h2,_⟩:=goodB_iff.1 e
 rcases h with h | h
 ·exact absurd h1 (of_decide_eq_false h)
 ·exact absurd (show (1:Int)≤L.length∧(L.length:Int)≤4 by omega) (of_decide_eq_false h)
theorem goodB_last {ep:Int} {L:List (List Int)} (h1:inB ep 0 2147483647=true) (h2:inB L.length 1 4=true) (h3:∀ c ∈ L.take L.length,chainB c=true) {D:DataW Unit} (h:Ms L D L.flatten) :
  (((Maps.size D:Nat):Int) == ((standN L L.length:Nat):Int))=goodB ep L:=by
 rw [List.take_of_length_le (Nat.le_refl _)] at h3
 have e1:=of_decide_eq_true h1
 have e2:=of_decide_eq_true h2
 have e3:=unitsR_length L
 have e4:Maps.size D=(unitsR L).length:=h.size
 rw [standN_all,Bool.eq_iff_iff,beq_iff_eq,goodB_iff,e4]
 constructor
 ·intro e
  exact ⟨e1,by omega,h3,e3.1 (by omega)⟩
 ·rintro ⟨_,_,_,e⟩
  have:=e3.2 e
  omega
theorem z0m (ep:Int) (ao:Option Addr) (cap:Nat) (L:List (List Int)) (w:World) (h:CL w ao L) (hl:L.length≤255∧∀ c ∈ L,c.length≤255) :
  Calls Tryz.prog 44 #[.agg #[.int .i64 ep,.slice ao L.length cap]] w fun e w'=>e=.returned (.bool (goodB ep L))∧Below w.heap.size w w':=by
 have HB0:=Lh ((Below.refl w.heap.size w).alloc (Nat.le_refl _) (.cells #[.int .i64 ep,.slice ao L.length cap] 24))
 have HC:=Lh (h.below HB0.out)
 have hl':(L.length:Int)≤255:=by have:=hl.1;omega
 have HM:=Lh hl
 have HH:=Lh (fun h=>@goodB_head ep L h)
 have CE:=Lh (fun w=>pwithin_any ep 0 2147483647 w)
 have CN:=Lh (fun w=>pwithin_any L.length 1 4 w)
 clear h hl
 by_cases he:inB ep 0 2147483647=false
 ·rw [HH.out (.inl he)]
  rw [he] at CE
  clear he
  go_enter Tryz.func44,Tryz.ntmps44
  go_wp2_with (go_at_call 79;(with_reducible refine (CE.out _).mono ?_);rintro e w1 ⟨rfl,rfl⟩)
  go_ret
  exact ⟨rfl,HB0.out⟩
 have he':inB ep 0 2147483647=true:=by simpa using he
 by_cases hn:inB L.length 1 4=false
 ·rw [HH.out (.inr hn)]
  rw [he'] at CE
  rw [hn] at CN
  clear he he' hn
  go_enter Tryz.func44,Tryz.ntmps44
  go_wp2_with (go_at_call 79;first | ((with_reducible refine (CE.out _).mono ?_);rintro e w1 ⟨rfl,rfl⟩) | ((with_reducible refine (CN.out _).mono ?_);rintro e w1 ⟨rfl,rfl⟩))
  go_ret
  exact ⟨rfl,HB0.out⟩
 have hn':inB L.length 1 4=true:=by simpa using hn
 have HCH:=Lh (fun n hn=>@goodB_chainB ep L n hn)
 have HLA:=Lh (fun h3 D h=>@goodB_last ep L he' hn' h3 D h)
 have HST:=Lh (fun n=>standN_le HM.out n)
 have HSS:=Lh (fun n h=>@standN_succ L n h)
 have CM:=Lh (met_any ep ao cap L _ HC.out HM.out)
 have HS0:=Lh (show standN L 0=0 from rfl)
 rw [he'] at CE
 rw [hn'] at CN
 clear he he' hn hn'
 generalize goodB ep L=R at *
 go_enter Tryz.func44,Tryz.ntmps44
 go_wp2_with (go_at_call 79;first | ((with_reducible refine (CE.out _).mono ?_);rintro e w1 ⟨rfl,rfl⟩) | ((with_reducible refine (CN.out _).mono ?_);rintro e w1 ⟨rfl,rfl⟩))
 go_loop [3,20] (fun s i=>∃ n:Nat,i=.int .i64 n∧s=.int .i64 (standN L n)∧n≤L.length∧Hid (∀ c ∈ L.take n,chainB c=true)) (fun _ i=>L.length - (intOf i).toNat)
 case atStart=>exact ⟨0,rfl,by rw [HS0.out];rfl,Nat.zero_le _,Lh (by simp)⟩
 case round =>
  obtain ⟨n,rfl,rfl,hn,HA⟩:=hrel
  by_cases hlt:n < L.length
  ·obtain ⟨bk,off,ai,ci,hao,c0,hN⟩:=HC.out n hlt
   subst hao
   have k0:(n:Int) < (L.length:Int):=by omega
   have m0:=HM.out.2 _ (List.getElem_mem hlt)
   have m0':(L[n].length:Int)≤255:=by omega
   have CK:=Lh (contains_any L[n] ai ci _ hN (by omega))
   have CL1:=Lh (fun w=>pwithin_any L[n].length 1 4 w)
   have HP:=Lh (chainB_parts L[n])
   clear hN
   by_cases h1:inB L[n].length 1 4=false
   ·have HX:=Lh (HCH.out n hlt (by rw [HP.out,h1];rfl))
    rw [h1] at CL1
    clear h1
    go_wp2_with (go_at_call 79;refine (CL1.out _).mono ?_;rintro e w1 ⟨rfl,rfl⟩)
    go_ret
    rw [HX.out]
    exact ⟨rfl,HB0.out⟩
   have h1':inB L[n].length 1 4=true:=by simpa using h1
   by_cases h2:badB L[n]=true
   ·have HX:=Lh (HCH.out n hlt (by rw [HP.out,h1',h2];rfl))
    rw [h1'] at CL1
    rw [h2] at CK
    clear h1 h1' h2
    go_wp2_with (first | (go_at_call 79;refine (CL1.out _).mono ?_;rintro e w1 ⟨rfl,rfl⟩) | (go_at_call 80;refine CK.out.mono ?_;rintro e w1 ⟨rfl,rfl⟩))
    go_ret
    rw [HX.out]
    exact ⟨rfl,HB0.out⟩
   have h2':badB L[n]=false:=by simpa using h2
   have HAN:=Lh (take_chains hlt HA.out (by rw [HP.out,h1',h2'];rfl))
   have HSN:=Lh (HSS.out n hlt)
   have st:=HST.out n
   rw [h1'] at CL1
   rw [h2'] at CK
   clear h1 h1' h2 h2'
   generalize standN L n=s at *
   go_wp2_with (first | (go_at_call 79;refine (CL1.out _).mono ?_;rintro e w1 ⟨rfl,rfl⟩) | (go_at_call 80;refine CK.out.mono ?_;rintro e w1 ⟨rfl,rfl⟩))
   go_round
   case rel=>exact ⟨n+1,by go_num,by rw [HSN.out];go_num,by omega,HAN⟩
   case measure=>simp [intOf];omega
  ·obtain rfl:n=L.length:=by omega
   have HX:=Lh (fun D h=>HLA.out HA.out D h)
   have st:=HST.out L.length
   generalize standN L L.length=s at *
   go_wp2_with (first
    | (go_at_call 82;refine CM.out.mono ?_;rintro e w1 ⟨b,rfl,hb,⟨D,hD,hMs⟩,hb1⟩;have HD:=Lh hD;have HR:=Lh (HX.out D hMs);have HB1:=Lh (HB0.out.trans (hb1.mono (by simp)));clear hb hD hMs hb1)
    | (at_len;refine wpList_len_own _ rfl _ 145 rfl 155 192 Tryz.underlying145 spotR _ _ _ rfl HD.out ?_))
   go_ret
   rw [HR.out]
   exact ⟨rfl,HB1.out⟩
theorem owns_below {w w':World} {b n:Nat} {D:DataW Unit} (h:w.ownsMap Tryz.prog 155 spotR b n D) (hb:Below w.heap.size w w'):w'.ownsMap Tryz.prog 155 spotR b n D:=by
 obtain ⟨es,clock,h1,h2⟩:=h
 exact ⟨es,clock,z01 hb h1,h2⟩
section
variable {w:World} {ops:Array Oper} {rest:List Oper} {o:Oper} {a:Act} {Q:Exit→Act→World→Prop}
theorem lookup_in (hg:o.guard=none) (m x:Operand) (hop:o.op=Op.lookup 145 m x true) {b n:Nat} {D:DataW Unit} (hm:a.eval m=.map (some b)) (hown:w.ownsMap Tryz.prog 155 spotR b n D)
  {u i j:Int} (hx:a.eval x=.agg #[.int .i64 u]) (hu:(Lit.int .i64 u).wf=true) (hh:Maps.has D (klU u)=true) (hat:∀ zd,D.atKey (klU u) zd=spotD i j)
  (hK:wpList Tryz.prog ops Q rest (a.put o.dst (.tuple #[.agg #[.int .i64 i,.int .i64 j],.bool true])) w):wpList Tryz.prog ops Q (o :: rest) a w :=
 wpList_lookup_own_ok w hg m x _ hop 155 192 unit_law Tryz.underlying145 spotR (zero_spot w) (spotD 0 0) [] (spotR_mk 0 0) b n D hm hown _ _ hx (unit_key u hu) (fun v ps hv=>by
  obtain ⟨i2,j2,rfl,e⟩:=spotR_inv hv
  have e1:=congrArg Prod.fst e
  simp only [hat] at e1
  obtain ⟨rfl,rfl⟩:=spotD_inj e1
  rw [hh]
  exact hK)
theorem lookup_out (hg:o.guard=none) (m x:Operand) (hop:o.op=Op.lookup 145 m x true) {b n:Nat} {D:DataW Unit} (hm:a.eval m=.map (some b)) (hown:w.ownsMap Tryz.prog 155 spotR b n D)
  {u:Int} (hx:a.eval x=.agg #[.int .i64 u]) (hu:(Lit.int .i64 u).wf=true) (hh:Maps.has D (klU u)=false)
  (hK:wpList Tryz.prog ops Q rest (a.put o.dst (.tuple #[.agg #[.int .i64 0,.int .i64 0],.bool false])) w):wpList Tryz.prog ops Q (o :: rest) a w :=
 wpList_lookup_own_ok w hg m x _ hop 155 192 unit_law Tryz.underlying145 spotR (zero_spot w) (spotD 0 0) [] (spotR_mk 0 0) b n D hm hown _ _ hx (unit_key u hu) (fun v ps hv=>by
  obtain ⟨i2,j2,rfl,e⟩:=spotR_inv hv
  have e1:=congrArg Prod.fst e
  simp only [atKey_of_not_has hh] at e1
  obtain ⟨rfl,rfl⟩:=spotD_inj e1
  rw [hh]
  exact hK)
end
theorem mem_preU {L:List (List Int)} {n k i j:Nat} (hi:i < L.length) (hj:j < L[i].length) (h:i < n∨(i=n∧j < k)):L[i][j] ∈ preU L n k:=by
 unfold preU
 rcases h with h | ⟨rfl,h⟩
 ·refine List.mem_append_left _ (List.mem_flatten.2 ⟨L[i],?_,List.getElem_mem hj⟩)
  rw [List.mem_take_iff_getElem]
  exact ⟨i,by omega,rfl⟩
 ·refine List.mem_append_right _ ?_
  rw [show L.getD i []=L[i] by simp [hi],List.mem_take_iff_getElem]
  exact ⟨j,by omega,rfl⟩
theorem flat_one {L:List (List Int)} (h:L.flatten.Nodup) {i j n k:Nat} (hi:i < L.length) (hj:j < L[i].length) (hn:n < L.length) (hk:k < L[n].length) (e:L[i][j]=L[n][k]):i=n∧j=k:=by
 by_cases h1:i < n∨(i=n∧j < k)
 ·exact absurd (e ▸ mem_preU hi hj h1) (preU_nodup h hn hk)
 ·by_cases h2:n < i∨(n=i∧k < j)
  ·exact absurd (e ▸ mem_preU hn hk h2) (preU_nodup h hi hj)
  ·omega
theorem row_one {L:List (List Int)} (h:L.flatten.Nodup) {n j k:Nat} (hn:n < L.length) (hj:j < L[n].length) (hk:k < L[n].length) (e:L[n][j]=L[n][k]):j=k:=(flat_one h hn hj hn hk e).2
def JF (all old c:List Int) (T:Bool) (k s:Nat) (la:Int):Prop :=
 (s=k∧((k=0∧la = -1)∨∃ (p:Nat) (hp:p < old.length) (hk:k - 1 < c.length),0 < k∧la=p∧old[p]=c[k - 1])∧seqB all old (c.drop k) (old.drop (la+1).toNat) (decide (0 < k))=T)∨
 (s < k∧(decide (0 < s) && outB all (c.drop k))=T)
section
variable {all old c:List Int} {T:Bool} {k s:Nat} {la:Int}
theorem JF.start (h:seqB all old c old false=T):JF all old c T 0 0 (-1):=.inl ⟨rfl,.inl ⟨rfl,rfl⟩,h⟩
theorem seq_not {rest:List Int} {m:Bool} (hk:k < c.length) (h:c[k] ∉ old):seqB all old (c.drop k) rest m=(m && outB all (c.drop k)):=by
 rw [List.drop_eq_getElem_cons hk]
 show (if c[k] ∈ old then _ else _)=_
 rw [if_neg h]
 rfl
theorem JF.out (h:JF all old c T k s la) (hk:k < c.length) (h1:c[k] ∉ old) (h2:c[k] ∉ all):JF all old c T (k+1) s la:=by
 rcases h with ⟨rfl,_,h⟩ | ⟨h3,h⟩
 ·rw [seq_not hk h1,out_step hk h2] at h
  exact .inr ⟨by omega,h⟩
 ·rw [out_step hk h2] at h
  exact .inr ⟨by omega,h⟩
theorem JF.other (h:JF all old c T k s la) (hk:k < c.length) (h1:c[k] ∉ old) (h2:c[k] ∈ all):T=false:=by
 rcases h with ⟨rfl,_,h⟩ | ⟨h3,h⟩
 ·rw [seq_not hk h1,out_no hk h2] at h
  simpa using h.symm
 ·rw [out_no hk h2] at h
  simpa using h.symm
theorem JF.gap (h:JF all old c T k s la) (hk:k < c.length) (h1:s≠k) (h2:c[k] ∈ all):T=false:=by
 rcases h with ⟨h3,_⟩ | ⟨h3,h⟩
 ·exact absurd h3 h1
 ·rw [out_no hk h2] at h
  simpa using h.symm
theorem drop_none {l:List Int} {u:Int} (h:u ∉ l):l.dropWhile (fun t=>t != u)=[]:=by
 induction l with
 | nil=>rfl
 | cons x l ih =>
  rw [List.mem_cons,not_or] at h
  have e:(fun t=>t != u) x=true:=bne_iff_ne.2 fun e=>h.1 e.symm
  exact (List.dropWhile_cons_of_pos (p:=fun t=>t != u) (a:=x) (l:=l) e).trans (ih h.2)
theorem JF.back (h:JF all old c T k s la) (hu:∀ i j (hi:i < old.length) (hj:j < old.length),old[i]=old[j]→i=j) (hk:k < c.length) {j:Nat} (hj:j < old.length) (he:old[j]=c[k]) (hl:(j:Int) < la) (hs:s=k):T=false:=by
 subst hs
 rcases h with ⟨_,h1,h⟩ | ⟨h3,h⟩
 ·rcases h1 with ⟨_,rfl⟩ | ⟨p,hp,hk1,_,rfl,_⟩
  ·omega
  ·rw [seq_lost hk (he ▸ List.getElem_mem hj) (drop_none _)] at h
   ·exact h.symm
   ·intro hm
    obtain ⟨x,hx,e⟩:=List.getElem_of_mem hm
    rw [List.length_drop] at hx
    rw [List.getElem_drop,← he] at e
    have:=hu _ _ _ _ e
    omega
 ·omega
theorem drop_found {l:List Int} {a j:Nat} (hu:∀ i j (hi:i < l.length) (hj:j < l.length),l[i]=l[j]→i=j) (hj:j < l.length) (h:a≤j):(l.drop a).dropWhile (fun t=>t != l[j])=l[j] :: l.drop (j+1):=by
 induction hd:j - a generalizing a with
 | zero =>
  obtain rfl:a=j:=by omega
  exact drop_stop hj (by simp)
 | succ d ih =>
  have ha:a < l.length:=by omega
  rw [drop_at ha (by rw [bne_iff_ne];intro e;have:=hu _ _ _ _ e;omega)]
  exact ih (by omega) (by omega)
theorem JF.on (h:JF all old c T k s la) (hu:∀ i j (hi:i < old.length) (hj:j < old.length),old[i]=old[j]→i=j) (hc:∀ i j (hi:i < c.length) (hj:j < c.length),c[i]=c[j]→i=j) (hk:k < c.length) {j:Nat} (hj:j < old.length) (he:old[j]=c[k]) (hl:¬ (j:Int) < la) (hs:s=k) :
  JF all old c T (k+1) (s+1) j:=by
 subst hs
 rcases h with ⟨_,h1,h⟩ | ⟨h3,h⟩
 ·have hla:(la+1).toNat≤j:=by
   rcases h1 with ⟨_,rfl⟩ | ⟨p,hp,hk1,hk0,rfl,e⟩
   ·omega
   ·have:p≠j:=by
     rintro rfl
     have:=hc _ _ _ _ (e.symm.trans he)
     omega
    omega
  have hf:=drop_found hu hj hla
  rw [he] at hf
  rw [seq_found hk (he ▸ List.getElem_mem hj) hf] at h
  refine .inl ⟨rfl,.inr ⟨j,hj,by simpa using hk,by omega,rfl,by simpa using he⟩,?_⟩
  rw [show ((j:Int)+1).toNat=j+1 by omega]
  exact h
 ·omega
theorem JF.done (h:JF all old c T c.length s la):T=decide (0 < s):=by
 rcases h with ⟨rfl,_,h⟩ | ⟨_,h⟩
 ·rw [List.drop_of_length_le (Nat.le_refl _)] at h
  exact h.symm
 ·rw [List.drop_of_length_le (Nat.le_refl _)] at h
  rw [← h]
  exact Bool.and_true _
end
theorem follows_any (c:List Int) (ao:Option Addr) (cap i b:Nat) (L:List (List Int)) (w:World) (hi:i < L.length) (hN:NLI w ao cap c) (hM:Mt w b L L.flatten) (hL:L.flatten.Nodup) (hc:∀ i j (hi:i < c.length) (hj:j < c.length),c[i]=c[j]→i=j) (hl:c.length≤255) :
  Calls Tryz.prog 89 #[.slice ao c.length cap,.int .i64 i,.map (some b)] w fun e w'=>e=.returned (.bool (seqB (unitsR L) L[i] c L[i] false))∧Below w.heap.size w w':=by
 obtain ⟨D,hD,hMs⟩:=hM
 have HD:=Lh hD
 have HMS:=Lh hMs
 have HNN:=Lh hN
 have hl':(c.length:Int)≤255:=by omega
 have HU:=Lh (fun a b ha hb=>@row_one L hL i a b hi ha hb)
 have HF:=Lh (fun (a b x y:Nat) ha hb hx hy=>@flat_one L hL a b x y ha hb hx hy)
 have HS:=Lh (JF.start (rfl:seqB (unitsR L) L[i] c L[i] false=_))
 have HALL:=Lh (fun u=>(z1z L u))
 have HIN:=Lh (fun u (h:u ∈ L[i])=>show u ∈ L.flatten from List.mem_flatten.2 ⟨_,List.getElem_mem hi,h⟩)
 have HC:=Lh hc
 clear hD hMs hN hc hL
 generalize seqB (unitsR L) L[i] c L[i] false=T at *
 generalize unitsR L=all at *
 go_enter Tryz.func89,Tryz.ntmps89
 go_wp2_with fail
 go_loopw [7,8,15] (fun st la at' wr=>∃ (k s:Nat) (l:Int),at'=.int .i64 k∧st=.int .i64 s∧la=.int .i64 l∧k≤c.length∧s≤k∧Hid (JF all L[i] c T k s l)∧Hid (Below w.heap.size w wr)) (fun _ _ at' _=>c.length - (intOf at').toNat)
 case atStart=>exact ⟨0,0,-1,rfl,rfl,rfl,Nat.zero_le _,Nat.le_refl _,HS,Lh (Below.refl _ _)⟩
 case round =>
  obtain ⟨k,s,l,rfl,rfl,rfl,hk,hsk,HJ,HB⟩:=hrel
  by_cases hlt:k < c.length
  ·obtain ⟨bk,off,hai,c0⟩:=(HNN.out.below HB.out).at k hlt
   have HWF:=Lh (HNN.out.wf _ (List.getElem_mem hlt))
   subst hai
   have k0:(k:Int) < (c.length:Int):=by omega
   have HDW:=Lh (owns_below HD.out HB.out)
   have HB1:=Lh (fun x=>HB.out.alloc HB.out.size x)
   by_cases hin:c[k] ∈ L.flatten
   ·have HA:=Lh ((HALL.out c[k]).2 hin)
    have HH:=Lh ((HMS.out.hs _ HWF.out).trans (decide_eq_true hin))
    obtain ⟨i0,j0,hi0,hj0,e0,hat⟩:=HMS.out.spot _ hin
    have HAT:=Lh hat
    clear hat hin
    by_cases hii:i0=i
    ·subst hii
     have d1:((i0:Int) != (i0:Int))=false:=by simp
     by_cases hjl:(j0:Int) < l
     ·have d2:decide ((j0:Int) < l)=true:=decide_eq_true hjl
      have HX:=Lh (show T=false from by
       by_cases hs:s=k
       ·exact HJ.out.back HU.out hlt hj0 e0 hjl hs
       ·exact HJ.out.gap hlt hs HA.out)
      clear e0
      generalize c[k]=u at *
      go_wp2_with (at_lookup;refine lookup_in rfl _ _ rfl rfl HDW.out rfl HWF.out HH.out HAT.out ?_)
      go_ret
      rw [HX.out]
      exact ⟨rfl,HB1.out _⟩
     have d2:decide ((j0:Int) < l)=false:=decide_eq_false hjl
     by_cases hs:s=k
     ·have HJ2:=Lh (HJ.out.on HU.out HC.out hlt hj0 e0 hjl hs)
      have d3:((k:Int) != (s:Int))=false:=by simp [hs]
      clear e0 hjl hs
      generalize c[k]=u at *
      go_wp2_with (at_lookup;refine lookup_in rfl _ _ rfl rfl HDW.out rfl HWF.out HH.out HAT.out ?_)
      go_quiet (fail)
      go_wp2_with fail
      go_roundw
      case rel=>exact ⟨k+1,s+1,j0,by go_num,by go_num,rfl,by omega,by omega,HJ2,Lh (below_drewN (HB1.out _) _)⟩
      case measure=>simp [intOf];omega
     ·have HX:=Lh (HJ.out.gap hlt hs HA.out)
      have d3:((k:Int) != (s:Int))=true:=bne_iff_ne.2 (by omega)
      clear e0 hjl hs
      generalize c[k]=u at *
      go_wp2_with (at_lookup;refine lookup_in rfl _ _ rfl rfl HDW.out rfl HWF.out HH.out HAT.out ?_)
      go_ret
      rw [HX.out]
      exact ⟨rfl,HB1.out _⟩
    ·have d1:((i0:Int) != (i:Int))=true:=bne_iff_ne.2 (by omega)
     have HX:=Lh (HJ.out.other hlt (fun hm=>by
      obtain ⟨j,hj,e⟩:=List.getElem_of_mem hm
      exact hii (HF.out _ _ _ _ hi0 hj0 hi hj (e0.trans e.symm)).1) HA.out)
     clear e0 hii
     generalize c[k]=u at *
     go_wp2_with (at_lookup;refine lookup_in rfl _ _ rfl rfl HDW.out rfl HWF.out HH.out HAT.out ?_)
     go_ret
     rw [HX.out]
     exact ⟨rfl,HB1.out _⟩
   ·have HJ2:=Lh (HJ.out.out hlt (fun h=>hin (HIN.out _ h)) (fun h=>hin ((HALL.out c[k]).1 h)))
    have HH:=Lh ((HMS.out.hs _ HWF.out).trans (decide_eq_false hin))
    clear hin
    generalize c[k]=u at *
    go_wp2_with (at_lookup;refine lookup_out rfl _ _ rfl rfl HDW.out rfl HWF.out HH.out ?_)
    go_roundw
    case rel=>exact ⟨k+1,s,l,by go_num,rfl,rfl,by omega,by omega,HJ2,Lh (HB1.out _)⟩
    case measure=>simp [intOf];omega
  ·obtain rfl:k=c.length:=by omega
   have HX:=Lh HJ.out.done
   go_wp2_with fail
   go_ret
   rw [HX.out]
   exact ⟨rfl,HB.out⟩
end Go.Proofs.YtkefpbcifcjibaaGreat
