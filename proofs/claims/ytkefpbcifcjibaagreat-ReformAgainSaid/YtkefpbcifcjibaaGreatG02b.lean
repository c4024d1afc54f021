/- Joined texts. -/
import Derived.Test.YtkefpbcifcjibaaGreatG01b
set_option linter.unusedVariables false
set_option maxRecDepth 20000
set_option maxHeartbeats 16000000
namespace Go.Proofs.YtkefpbcifcjibaaGreat
open Go.RowKit
structure Pg where
 at_:Int
 kind:Int
 s:ByteArray
structure Ps where
 l:List Pg
 room:Int
 edge:Int
def thereB (a:Int):Bool:=decide (0≤a∧a < 4096)
def findP (l:List Pg) (a:Int):Option Pg:=l.find? (fun x=>decide (x.at_=a))
def Ps.kind (p:Ps) (a:Int):Int:=if thereB a=true then (if a < p.edge then 3 else match findP p.l a with | some x=>x.kind | none=>0) else 0
def Ps.text (p:Ps) (a:Int):ByteArray:=match findP p.l a with | some x=>x.s | none=>⟨#[]⟩
def Ps.add (p:Ps) (x:Pg):Ps:=⟨p.l ++ [x],p.room,p.edge⟩
def Ps.writeE (p:Ps) (a:Int) (s:ByteArray):Int:=if thereB a=false then 1 else if 4096 < s.size then 2 else if p.kind a=3 then 43 else if p.kind a≠0 then 41 else if p.room≤p.l.length then 44 else 0
def Ps.write (p:Ps) (a:Int) (s:ByteArray):Ps:=if p.writeE a s=0 then p.add ⟨a,1,s⟩ else p
def Ps.fillE (p:Ps) (a:Int):Int:=if thereB a=false then 1 else if p.kind a=3 then 43 else if p.kind a=2 then 0 else if p.kind a=1 then 41 else if p.room≤p.l.length then 44 else 0
def Ps.fill (p:Ps) (a:Int):Ps:=if p.fillE a=0∧p.kind a≠2 then p.add ⟨a,2,⟨#[]⟩⟩ else p
def Ps.readE (p:Ps) (a:Int):Int:=if thereB a=false then 1 else if p.kind a=3 then 43 else if p.kind a=0 then 42 else if p.kind a=2 then 46 else 0
def Ps.readS (p:Ps) (a:Int):ByteArray:=if p.readE a=0 then p.text a else ⟨#[]⟩
def Ps.trimE (b:Int):Int:=if b < 0∨4096 < b then 1 else 0
def Ps.trim (p:Ps) (b:Int):Ps:=if Ps.trimE b=0 then ⟨p.l.filter (fun x=>decide (max p.edge b≤x.at_)),p.room,max p.edge b⟩ else p
def tailP (l:List Pg) (t:Int):Int:=l.foldl (fun t x=>max t (x.at_+1)) t
def Ps.tail (p:Ps):Int:=tailP p.l p.edge
structure Ps.Ok (p:Ps):Prop where
 room:1≤p.room∧p.room≤4096
 edge:0≤p.edge∧p.edge≤4096
 few:(p.l.length:Int)≤p.room
 each:∀ x ∈ p.l,(p.edge≤x.at_∧x.at_ < 4096)∧(x.kind=1∨x.kind=2)∧x.s.size≤4096
 once:(p.l.map (·.at_)).Nodup
theorem thereB_iff {a:Int}:thereB a=true↔0≤a∧a < 4096:=by simp [thereB]
theorem findP_none {l:List Pg} {a:Int}:findP l a=none↔∀ x ∈ l,x.at_≠a:=by
 unfold findP
 rw [List.find?_eq_none]
 simp
theorem z21 {l:List Pg} {a:Int} {x:Pg} (h:findP l a=some x):x ∈ l∧x.at_=a:=by
 unfold findP at h
 exact ⟨List.mem_of_find?_eq_some h,by simpa using List.find?_some h⟩
theorem tailP_spec (l:List Pg) (t:Int):(tailP l t=t∨∃ x ∈ l,tailP l t=x.at_+1)∧t≤tailP l t∧∀ x ∈ l,x.at_+1≤tailP l t:=by
 induction l generalizing t with
 | nil=>exact ⟨.inl rfl,Int.le_refl _,fun x hx=>by cases hx⟩
 | cons y l ih =>
  have hy:tailP (y :: l) t=tailP l (max t (y.at_+1)):=rfl
  obtain ⟨h1,h2,h3⟩:=ih (max t (y.at_+1))
  rw [hy]
  refine ⟨?_,by omega,fun x hx=>?_⟩
  ·rcases h1 with h1 | ⟨x,hx,h1⟩
   ·rcases Int.le_total t (y.at_+1) with h4 | h4
    ·exact .inr ⟨y,List.mem_cons_self,by omega⟩
    ·exact .inl (by omega)
   ·exact .inr ⟨x,List.mem_cons_of_mem _ hx,h1⟩
  ·rcases List.mem_cons.1 hx with rfl | hx
   ·omega
   ·exact h3 x hx
theorem tailP_of {l:List Pg} {t v:Int} (h1:v=t∨∃ x ∈ l,v=x.at_+1) (h2:t≤v) (h3:∀ x ∈ l,x.at_+1≤v):v=tailP l t:=by
 obtain ⟨k1,k2,k3⟩:=tailP_spec l t
 have a1:v≤tailP l t:=by
  rcases h1 with h1 | ⟨x,hx,h1⟩
  ·omega
  ·rw [h1];exact k3 x hx
 have a2:tailP l t≤v:=by
  rcases k1 with k1 | ⟨x,hx,k1⟩
  ·omega
  ·rw [k1];exact h3 x hx
 omega
theorem Ps.Ok.kind_zero {p:Ps} (h:p.Ok) {a:Int} (ht:thereB a=true) (hk:p.kind a=0):p.edge≤a∧∀ x ∈ p.l,x.at_≠a:=by
 unfold Ps.kind at hk
 rw [if_pos ht] at hk
 split at hk
 ·omega
 ·next he =>
  refine ⟨by omega,?_⟩
  split at hk
  ·next x hx =>
   obtain ⟨h1,_⟩:=z21 hx
   have:=(h.each x h1).2.1
   omega
  ·next hn=>exact findP_none.1 hn
theorem Ps.Ok.add {p:Ps} (h:p.Ok) {x:Pg} (ht:thereB x.at_=true) (hk:p.kind x.at_=0) (hr:¬ p.room≤p.l.length) (hx:(x.kind=1∨x.kind=2)∧x.s.size≤4096):(p.add x).Ok:=by
 obtain ⟨h1,h2⟩:=h.kind_zero ht hk
 have h3:=thereB_iff.1 ht
 refine ⟨h.room,h.edge,?_,fun y hy=>?_,?_⟩
 ·show (((p.l ++ [x]).length:Nat):Int)≤p.room
  rw [List.length_append]
  simp
  omega
 ·rcases List.mem_append.1 hy with hy | hy
  ·exact h.each y hy
  ·rw [List.mem_singleton.1 hy]
   exact ⟨⟨h1,h3.2⟩,hx⟩
 ·show ((p.l ++ [x]).map (·.at_)).Nodup
  rw [List.map_append,List.nodup_append]
  refine ⟨h.once,by simp,fun a ha b hb e=>?_⟩
  rw [List.map_singleton,List.mem_singleton] at hb
  subst hb
  obtain ⟨y,hy,rfl⟩:=List.mem_map.1 ha
  exact h2 y hy e
theorem writeE_zero {p:Ps} {a:Int} {s:ByteArray} (h:p.writeE a s=0):thereB a=true∧s.size≤4096∧p.kind a=0∧¬ p.room≤p.l.length:=by
 unfold Ps.writeE at h
 by_cases h1:thereB a=false
 ·rw [if_pos h1] at h;omega
 rw [if_neg h1] at h
 by_cases h2:4096 < s.size
 ·rw [if_pos h2] at h;omega
 rw [if_neg h2] at h
 by_cases h3:p.kind a=3
 ·rw [if_pos h3] at h;omega
 rw [if_neg h3] at h
 by_cases h4:p.kind a≠0
 ·rw [if_pos h4] at h;omega
 rw [if_neg h4] at h
 by_cases h5:p.room≤p.l.length
 ·rw [if_pos h5] at h;omega
 exact ⟨by simpa using h1,by omega,by omega,h5⟩
theorem Ps.Ok.write {p:Ps} (h:p.Ok) (a:Int) (s:ByteArray):(p.write a s).Ok:=by
 unfold Ps.write
 split
 ·next he =>
  obtain ⟨h1,h2,h3,h4⟩:=writeE_zero he
  exact h.add (x:=⟨a,1,s⟩) h1 h3 h4 ⟨.inl rfl,h2⟩
 ·exact h
theorem Ps.Ok.kinds {p:Ps} (h:p.Ok) (a:Int):p.kind a=0∨p.kind a=1∨p.kind a=2∨p.kind a=3:=by
 unfold Ps.kind
 split
 ·split
  ·omega
  ·split
   ·next x hx =>
    have:=(h.each x (z21 hx).1).2.1
    omega
   ·omega
 ·omega
theorem fillE_zero {p:Ps} (h0:p.Ok) {a:Int} (h:p.fillE a=0) (hk:p.kind a≠2):thereB a=true∧p.kind a=0∧¬ p.room≤p.l.length:=by
 unfold Ps.fillE at h
 by_cases h1:thereB a=false
 ·rw [if_pos h1] at h;omega
 rw [if_neg h1] at h
 by_cases h3:p.kind a=3
 ·rw [if_pos h3] at h;omega
 rw [if_neg h3,if_neg hk] at h
 by_cases h4:p.kind a=1
 ·rw [if_pos h4] at h;omega
 rw [if_neg h4] at h
 by_cases h5:p.room≤p.l.length
 ·rw [if_pos h5] at h;omega
 have:=h0.kinds a
 exact ⟨by simpa using h1,by omega,h5⟩
theorem Ps.Ok.fill {p:Ps} (h:p.Ok) (a:Int):(p.fill a).Ok:=by
 unfold Ps.fill
 split
 ·next he =>
  obtain ⟨h1,h2,h3⟩:=fillE_zero h he.1 he.2
  exact h.add (x:=⟨a,2,⟨#[]⟩⟩) h1 h2 h3 ⟨.inr rfl,Nat.zero_le _⟩
 ·exact h
theorem Ps.Ok.trim {p:Ps} (h:p.Ok) (b:Int):(p.trim b).Ok:=by
 unfold Ps.trim
 split
 ·next he =>
  have hb:0≤b∧b≤4096:=by
   unfold Ps.trimE at he
   split at he
   ·omega
   ·omega
  have hm:=h.edge
  refine ⟨h.room,⟨by show 0≤max p.edge b;omega,by show max p.edge b≤4096;omega⟩,?_,fun x hx=>?_,?_⟩
  ·have:=List.length_filter_le (fun x:Pg=>decide (max p.edge b≤x.at_)) p.l
   have:=h.few
   show (((p.l.filter _).length:Nat):Int)≤p.room
   omega
  ·obtain ⟨h1,h2⟩:=List.mem_filter.1 hx
   have h3:=h.each x h1
   exact ⟨⟨of_decide_eq_true h2,h3.1.2⟩,h3.2⟩
  ·exact h.once.sublist ((List.filter_sublist).map _)
 ·exact h
def newP (room:Int):Ps:=⟨[],room,0⟩
theorem newP_ok {room:Int} (h:1≤room∧room≤4096):(newP room).Ok:=⟨h,by show (0:Int)≤0∧(0:Int)≤4096;omega,by show (0:Int)≤room;omega,fun x hx=>(by cases hx),List.Pairwise.nil⟩
def insU (u:Int):List Int→List Int
 | []=>[u]
 | x :: l=>if x < u then x :: insU u l else if x=u then x :: l else u :: x :: l
theorem insU_mem (u y:Int) (l:List Int):y ∈ insU u l↔y=u∨y ∈ l:=by
 induction l with
 | nil=>simp [insU]
 | cons x l ih =>
  unfold insU
  split
  ·rw [List.mem_cons,ih,List.mem_cons]
   constructor
   ·rintro (h | h | h) <;> simp [h]
   ·rintro (h | h | h) <;> simp [h]
  ·split
   ·next h=>subst h;simp
   ·simp
theorem insU_at (u:Int) (l:List Int) (j:Nat) (hj:j≤l.length) (hb:∀ i (h:i < l.length),i < j→l[i] < u) (he:∀ h:j < l.length,¬ l[j] < u) :
  insU u l=if ∃ h:j < l.length,l[j]=u then l else l.take j ++ u :: l.drop j:=by
 induction l generalizing j with
 | nil =>
  obtain rfl:j=0:=by simpa using hj
  simp [insU]
 | cons x l ih =>
  cases j with
  | zero =>
   have h0:¬ x < u:=he (by simp)
   unfold insU
   rw [if_neg h0]
   by_cases hx:x=u
   ·rw [if_pos hx,if_pos ⟨by simp,hx⟩]
   ·rw [if_neg hx,if_neg (by rintro ⟨_,h⟩;exact hx h)]
    rfl
  | succ j =>
   have h0:x < u:=hb 0 (by simp) (by omega)
   have e:=ih j (by simpa using hj) (fun i h hi=>by have:=hb (i+1) (by simpa using h) (by omega);simpa using this) (fun h=>by have:=he (by simpa using h);simpa using this)
   unfold insU
   rw [if_pos h0,e]
   by_cases hx:∃ h:j < l.length,l[j]=u
   ·rw [if_pos hx,if_pos (by obtain ⟨h1,h2⟩:=hx;exact ⟨by simpa using h1,by simpa using h2⟩)]
   ·rw [if_neg hx,if_neg (by rintro ⟨h1,h2⟩;exact hx ⟨by simpa using h1,by simpa using h2⟩)]
    rfl
def Rises (l:List Int):Prop:=l.Pairwise (· < ·)
theorem insU_rises (u:Int) (l:List Int) (h:Rises l):Rises (insU u l):=by
 unfold Rises at *
 induction l with
 | nil=>simp [insU]
 | cons x l ih =>
  rw [List.pairwise_cons] at h
  unfold insU
  split
  ·next hx =>
   rw [List.pairwise_cons]
   refine ⟨fun y hy=>?_,ih h.2⟩
   rcases (insU_mem u y l).1 hy with rfl | hy
   ·exact hx
   ·exact h.1 y hy
  ·split
   ·exact List.pairwise_cons.2 h
   ·next h1 h2 =>
    rw [List.pairwise_cons]
    refine ⟨fun y hy=>?_,List.pairwise_cons.2 h⟩
    rcases List.mem_cons.1 hy with rfl | hy
    ·omega
    ·have:=h.1 y hy;omega
theorem rises_ext {l m:List Int} (hl:Rises l) (hm:Rises m) (h:∀ x,x ∈ l↔x ∈ m):l=m:=by
 unfold Rises at *
 induction l generalizing m with
 | nil =>
  cases m with
  | nil=>rfl
  | cons y m=>exact absurd ((h y).2 (by simp)) (by simp)
 | cons x l ih =>
  cases m with
  | nil=>exact absurd ((h x).1 (by simp)) (by simp)
  | cons y m =>
   rw [List.pairwise_cons] at hl hm
   have e:x=y:=by
    rcases List.mem_cons.1 ((h x).1 (by simp)) with e | hx
    ·exact e
    ·rcases List.mem_cons.1 ((h y).2 (by simp)) with e | hy
     ·exact e.symm
     ·have:=hl.1 y hy;have:=hm.1 x hx;omega
   subst e
   rw [ih hl.2 hm.2 (fun z=>?_)]
   constructor
   ·intro hz
    rcases List.mem_cons.1 ((h z).1 (by simp [hz])) with e | h'
    ·subst e;exact absurd (hl.1 z hz) (by omega)
    ·exact h'
   ·intro hz
    rcases List.mem_cons.1 ((h z).2 (by simp [hz])) with e | h'
    ·subst e;exact absurd (hm.1 z hz) (by omega)
    ·exact h'
theorem rises_nodup {l:List Int} (h:Rises l):l.Nodup:=by
 unfold Rises at h
 exact h.imp (fun hxy e=>by omega)
def insAll (l:List Int) (m:List Int):List Int:=m.foldl (fun a u=>insU u a) l
theorem insAll_snoc (l m:List Int) (u:Int):insAll l (m ++ [u])=insU u (insAll l m):=by
 unfold insAll;rw [List.foldl_append];rfl
theorem insAll_mem (l m:List Int) (y:Int):y ∈ insAll l m↔y ∈ l∨y ∈ m:=by
 induction m generalizing l with
 | nil=>simp [insAll]
 | cons u m ih =>
  show y ∈ insAll (insU u l) m↔_
  rw [ih,insU_mem,List.mem_cons]
  constructor
  ·rintro ((h | h) | h) <;> simp [h]
  ·rintro (h | h | h) <;> simp [h]
theorem insAll_rises (l m:List Int) (h:Rises l):Rises (insAll l m):=by
 induction m generalizing l with
 | nil=>exact h
 | cons u m ih=>exact ih _ (insU_rises u l h)
def unitsR (L:List (List Int)):List Int:=insAll [] L.flatten
theorem z1z (L:List (List Int)) (y:Int):y ∈ unitsR L↔y ∈ L.flatten:=by simp [unitsR,insAll_mem]
theorem unitsR_rises (L:List (List Int)):Rises (unitsR L):=insAll_rises _ _ List.Pairwise.nil
theorem unitsR_of {l:List Int} {L:List (List Int)} (h:Rises l) (hm:∀ x,x ∈ l↔x ∈ L.flatten):l=unitsR L :=
 rises_ext h (unitsR_rises L) (fun x=>(hm x).trans (z1z L x).symm)
theorem insU_length (u:Int) (l:List Int) (h:Rises l):(insU u l).length=l.length+if u ∈ l then 0 else 1:=by
 unfold Rises at h
 induction l with
 | nil=>simp [insU]
 | cons x l ih =>
  rw [List.pairwise_cons] at h
  unfold insU
  split
  ·next hx =>
   rw [List.length_cons,ih h.2,List.length_cons]
   have:u ∈ x :: l↔u ∈ l:=by
    rw [List.mem_cons]
    constructor
    ·rintro (e | e)
     ·omega
     ·exact e
    ·exact fun e=>.inr e
   simp only [this]
   omega
  ·split
   ·next h1 h2=>subst h2;simp
   ·next h1 h2 =>
    have:¬ u ∈ x :: l:=by
     rw [List.mem_cons]
     rintro (e | e)
     ·exact h2 e.symm
     ·have:=h.1 u e;omega
    rw [if_neg this]
    simp
theorem z1r (l m:List Int) (h:Rises l):(insAll l m).length≤l.length+m.length∧((insAll l m).length=l.length+m.length↔m.Nodup∧∀ u ∈ m,u ∉ l):=by
 induction m generalizing l with
 | nil=>simp [insAll]
 | cons u m ih =>
  have hl:=insU_length u l h
  obtain ⟨h1,h2⟩:=ih _ (insU_rises u l h)
  have e:insAll l (u :: m)=insAll (insU u l) m:=rfl
  rw [e,List.length_cons]
  by_cases hu:u ∈ l
  ·rw [if_pos hu] at hl
   refine ⟨by omega,?_⟩
   constructor
   ·intro h3;omega
   ·rintro ⟨_,h4⟩;exact absurd hu (h4 u (by simp))
  ·rw [if_neg hu] at hl
   refine ⟨by omega,?_⟩
   rw [show (insAll (insU u l) m).length=l.length+(m.length+1)↔(insAll (insU u l) m).length=(insU u l).length+m.length by omega,h2,List.nodup_cons]
   constructor
   ·rintro ⟨h3,h4⟩
    refine ⟨⟨fun hm=>h4 u hm ((insU_mem u u l).2 (.inl rfl)),h3⟩,fun v hv=>?_⟩
    rcases List.mem_cons.1 hv with rfl | hv
    ·exact hu
    ·exact fun hvl=>h4 v hv ((insU_mem u v l).2 (.inr hvl))
   ·rintro ⟨⟨h3,h4⟩,h5⟩
    refine ⟨h4,fun v hv hvl=>?_⟩
    rcases (insU_mem u v l).1 hvl with rfl | hvl
    ·exact h3 hv
    ·exact h5 v (by simp [hv]) hvl
theorem unitsR_length (L:List (List Int)):(unitsR L).length=L.flatten.length↔L.flatten.Nodup:=by
 have h:=(z1r [] L.flatten List.Pairwise.nil).2
 simp only [List.length_nil,Nat.zero_add] at h
 rw [show unitsR L=insAll [] L.flatten from rfl,h]
 simp
def chainB (c:List Int):Bool:=decide (1≤c.length∧c.length≤4) && c.all (fun u=>decide (0≤u∧u≤15))
def goodB (ep:Int) (L:List (List Int)):Bool:=decide (0≤ep∧ep≤2147483647) && (decide (1≤L.length∧L.length≤4) && (L.all chainB && decide L.flatten.Nodup))
theorem chainB_iff {c:List Int}:chainB c=true↔(1≤c.length∧c.length≤4)∧∀ u ∈ c,0≤u∧u≤15:=by
 simp [chainB,List.all_eq_true]
theorem goodB_iff {ep:Int} {L:List (List Int)}:goodB ep L=true↔(0≤ep∧ep≤2147483647)∧(1≤L.length∧L.length≤4)∧(∀ c ∈ L,chainB c=true)∧L.flatten.Nodup:=by
 simp [goodB,List.all_eq_true]
def seqB (all old:List Int):List Int→List Int→Bool→Bool
 | [],_,met=>met
 | x :: now,rest,met=>if x ∈ old then (match rest.dropWhile (fun y=>y != x) with | []=>false | _ :: r=>seqB all old now r true) else met && (x :: now).all (fun y=>!decide (y ∈ all))
def nextB (e1:Int) (L1:List (List Int)) (e2:Int) (L2:List (List Int)):Bool :=
 goodB e1 L1 && (goodB e2 L2 && (decide (e2=e1+1) && (decide (L2.length=L1.length) && (L1.zip L2).all (fun c=>seqB (unitsR L1) c.1 c.2 c.1 false))))
end Go.Proofs.YtkefpbcifcjibaaGreat
