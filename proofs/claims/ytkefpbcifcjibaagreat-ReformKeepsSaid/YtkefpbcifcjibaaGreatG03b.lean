/- Joined texts. -/
import Derived.Test.YtkefpbcifcjibaaGreatG02b
set_option linter.unusedVariables false
set_option maxRecDepth 20000
set_option maxHeartbeats 16000000
namespace Go.Proofs.YtkefpbcifcjibaaGreat
open Go.RowKit
def ofB (ep:Int) (L:List (List Int)) (a:Int):Bool:=goodB ep L && decide (0≤a∧a < 16384)
def ofC (ep:Int) (L:List (List Int)) (a:Int):Int:=if ofB ep L a=true then a % (L.length:Int) else 0
def ofP (ep:Int) (L:List (List Int)) (a:Int):Int:=if ofB ep L a=true then a / (L.length:Int) else 0
def addrR (ep:Int) (L:List (List Int)) (c p:Int):Int:=if goodB ep L=true∧(0≤c∧c < L.length)∧(0≤p∧p < 16384)∧p * L.length+c < 16384 then p * L.length+c else -1
def chainR (ep:Int) (L:List (List Int)) (a:Int):List Int:=if ofB ep L a=true then L.getD (a % (L.length:Int)).toNat [] else []
def clampA (a:Int):Int:=max 0 (min a 16384)
def cntB (a c n:Int):Int:=if c < a then (a - c - 1) / n+1 else 0
def belowR (ep:Int) (L:List (List Int)) (a c:Int):Int:=if goodB ep L=true∧(0≤c∧c < L.length) then cntB (clampA a) c L.length else 0
def gain (n i v:Int):Int:=if v≤0 then 0 else (min v 4096 - 1) * n+i+1
def tailJ (n i u:Int) (K:List (Int × Int)) (t:Int):Int:=K.foldl (fun t e=>if e.1=u then max t (gain n i e.2) else t) t
def tailK (n i:Int) (K:List (Int × Int)) (c:List Int) (t:Int):Int:=c.foldl (fun t u=>tailJ n i u K t) t
def tailN (L:List (List Int)) (K:List (Int × Int)) (k:Nat):Int:=(List.range k).foldl (fun (t:Int) (i:Nat)=>tailK L.length i K (L.getD i []) t) 0
def tailR (ep:Int) (L:List (List Int)) (K:List (Int × Int)):Int:=if goodB ep L=true then tailN L K L.length else 0
theorem z0v {ep:Int} {L:List (List Int)} (h:goodB ep L=true):1≤L.length∧L.length≤4:=(goodB_iff.1 h).2.1
theorem ofB_iff {ep:Int} {L:List (List Int)} {a:Int}:ofB ep L a=true↔goodB ep L=true∧0≤a∧a < 16384:=by simp [ofB]
theorem z0y {n:Int} (h:1≤n∧n≤4):n=1∨n=2∨n=3∨n=4:=by omega
theorem of_range {n a:Int} (h:1≤n∧n≤4) (ha:0≤a∧a < 16384):(0≤a % n∧a % n < n)∧(0≤a / n∧a / n < 16384)∧a / n * n+a % n=a:=by
 rcases z0y h with rfl | rfl | rfl | rfl <;> omega
theorem of_inj {n a b:Int} (h:1≤n∧n≤4) (e:a % n=b % n) (f:a / n=b / n):a=b:=by
 rcases z0y h with rfl | rfl | rfl | rfl <;> omega
theorem cntB_range {a c n:Int} (h:1≤n∧n≤4) (hc:0≤c) (ha:0≤a∧a≤16384):0≤cntB a c n∧cntB a c n≤16384:=by
 unfold cntB
 rcases z0y h with rfl | rfl | rfl | rfl <;> split <;> omega
theorem cntB_step {a c n:Int} {k:Nat} (h:1≤n∧n≤4):(c+k * n < a↔(k:Int) < cntB a c n):=by
 unfold cntB
 rcases z0y h with rfl | rfl | rfl | rfl <;> split <;> omega
theorem gain_range {n i v:Int} (hn:1≤n∧n≤4) (hi:0≤i∧i < n):0≤gain n i v∧gain n i v≤16384:=by
 unfold gain
 rcases z0y hn with rfl | rfl | rfl | rfl <;> split <;> omega
theorem tailN_succ (L:List (List Int)) (K:List (Int × Int)) (k:Nat):tailN L K (k+1)=tailK L.length k K (L.getD k []) (tailN L K k):=by
 unfold tailN
 rw [List.range_succ,List.foldl_append]
 rfl
theorem tailJ_spec (n i u:Int) (K:List (Int × Int)) (t:Int):(tailJ n i u K t=t∨∃ e ∈ K,e.1=u∧tailJ n i u K t=gain n i e.2)∧t≤tailJ n i u K t∧∀ e ∈ K,e.1=u→gain n i e.2≤tailJ n i u K t:=by
 induction K generalizing t with
 | nil=>exact ⟨.inl rfl,Int.le_refl _,fun e he=>by cases he⟩
 | cons x K ih =>
  have hx:tailJ n i u (x :: K) t=tailJ n i u K (if x.1=u then max t (gain n i x.2) else t):=rfl
  obtain ⟨h1,h2,h3⟩:=ih (if x.1=u then max t (gain n i x.2) else t)
  rw [hx]
  by_cases hu:x.1=u
  ·rw [if_pos hu] at h1 h2 h3 ⊢
   refine ⟨?_,by omega,fun e he hf=>?_⟩
   ·rcases h1 with h1 | ⟨e,he,hf,h1⟩
    ·rcases Int.le_total t (gain n i x.2) with h4 | h4
     ·exact .inr ⟨x,List.mem_cons_self,hu,by omega⟩
     ·exact .inl (by omega)
    ·exact .inr ⟨e,List.mem_cons_of_mem _ he,hf,h1⟩
   ·rcases List.mem_cons.1 he with rfl | he
    ·omega
    ·exact h3 e he hf
  ·rw [if_neg hu] at h1 h2 h3 ⊢
   refine ⟨?_,h2,fun e he hf=>?_⟩
   ·rcases h1 with h1 | ⟨e,he,hf,h1⟩
    ·exact .inl h1
    ·exact .inr ⟨e,List.mem_cons_of_mem _ he,hf,h1⟩
   ·rcases List.mem_cons.1 he with rfl | he
    ·exact absurd hf hu
    ·exact h3 e he hf
theorem tailK_spec (n i:Int) (K:List (Int × Int)) (c:List Int) (t:Int):(tailK n i K c t=t∨∃ u ∈ c,∃ e ∈ K,e.1=u∧tailK n i K c t=gain n i e.2)∧t≤tailK n i K c t∧∀ u ∈ c,∀ e ∈ K,e.1=u→gain n i e.2≤tailK n i K c t:=by
 induction c generalizing t with
 | nil=>exact ⟨.inl rfl,Int.le_refl _,fun u hu=>by cases hu⟩
 | cons x c ih =>
  have hx:tailK n i K (x :: c) t=tailK n i K c (tailJ n i x K t):=rfl
  obtain ⟨h1,h2,h3⟩:=ih (tailJ n i x K t)
  obtain ⟨k1,k2,k3⟩:=tailJ_spec n i x K t
  rw [hx]
  refine ⟨?_,by omega,fun u hu e he hf=>?_⟩
  ·rcases h1 with h1 | ⟨u,hu,e,he,hf,h1⟩
   ·rw [h1]
    rcases k1 with k1 | ⟨e,he,hf,k1⟩
    ·exact .inl k1
    ·exact .inr ⟨x,List.mem_cons_self,e,he,hf,k1⟩
   ·exact .inr ⟨u,List.mem_cons_of_mem _ hu,e,he,hf,h1⟩
  ·rcases List.mem_cons.1 hu with rfl | hu
   ·have:=k3 e he hf
    omega
   ·exact h3 u hu e he hf
theorem tailN_spec (L:List (List Int)) (K:List (Int × Int)) (k:Nat):(tailN L K k=0∨∃ i,i < k∧∃ u ∈ L.getD i [],∃ e ∈ K,e.1=u∧tailN L K k=gain L.length i e.2)∧0≤tailN L K k∧∀ i,i < k→∀ u ∈ L.getD i [],∀ e ∈ K,e.1=u→gain L.length i e.2≤tailN L K k:=by
 induction k with
 | zero=>exact ⟨.inl rfl,Int.le_refl _,fun i hi=>absurd hi (Nat.not_lt_zero i)⟩
 | succ k ih =>
  obtain ⟨h1,h2,h3⟩:=ih
  obtain ⟨k1,k2,k3⟩:=tailK_spec L.length k K (L.getD k []) (tailN L K k)
  rw [tailN_succ]
  refine ⟨?_,by omega,fun i hi u hu e he hf=>?_⟩
  ·rcases k1 with k1 | ⟨u,hu,e,he,hf,k1⟩
   ·rw [k1]
    rcases h1 with h1 | ⟨i,hi,u,hu,e,he,hf,h1⟩
    ·exact .inl h1
    ·exact .inr ⟨i,by omega,u,hu,e,he,hf,h1⟩
   ·exact .inr ⟨k,by omega,u,hu,e,he,hf,k1⟩
  ·by_cases hik:i=k
   ·subst hik
    exact k3 u hu e he hf
   ·have:=h3 i (by omega) u hu e he hf
    omega
theorem tailN_of {L:List (List Int)} {K:List (Int × Int)} {k:Nat} {t:Int} (h0:0≤t) (h1:t=0∨∃ i,i < k∧∃ u ∈ L.getD i [],∃ e ∈ K,e.1=u∧t=gain L.length i e.2) (h2:∀ i,i < k→∀ u ∈ L.getD i [],∀ e ∈ K,e.1=u→gain L.length i e.2≤t):t=tailN L K k:=by
 obtain ⟨k1,k2,k3⟩:=tailN_spec L K k
 have a1:t≤tailN L K k:=by
  rcases h1 with h1 | ⟨i,hi,u,hu,e,he,hf,h1⟩
  ·omega
  ·rw [h1];exact k3 i hi u hu e he hf
 have a2:tailN L K k≤t:=by
  rcases k1 with k1 | ⟨i,hi,u,hu,e,he,hf,k1⟩
  ·omega
  ·rw [k1];exact h2 i hi u hu e he hf
 omega
theorem gain_zero (n i:Int):gain n i 0=0:=rfl
theorem drop_head {x:Int}:∀ {l:List Int} {y:Int} {r:List Int},l.dropWhile (fun y=>y != x)=y :: r→y=x∧(y :: r).Sublist l
 | [],_,_,h=>by simp at h
 | z :: l,y,r,h=>by
  rw [List.dropWhile_cons] at h
  by_cases e:z=x
  ·rw [if_neg (by simp [e])] at h
   obtain ⟨rfl,rfl⟩:=List.cons.inj h
   exact ⟨e,List.Sublist.refl _⟩
  ·rw [if_pos (by simp [e])] at h
   obtain ⟨g1,g2⟩:=drop_head h
   exact ⟨g1,g2.cons _⟩
theorem seqB_split {all old:List Int}:∀ {now rest:List Int} {met:Bool},seqB all old now rest met=true→∃ t:Nat,t≤now.length∧(met=false→1≤t)∧(now.take t).Sublist rest∧∀ u ∈ now.drop t,u ∉ all
 | [],rest,met,h=>⟨0,Nat.le_refl _,fun e=>by rw [e] at h;exact absurd h (by unfold seqB;decide),by simp,fun u hu=>by simp at hu⟩
 | x :: now,rest,met,h=>by
  unfold seqB at h
  split at h
  ·split at h
   ·cases h
   ·next y r hy =>
    obtain ⟨rfl,g2⟩:=drop_head hy
    obtain ⟨t,t1,_,t3,t4⟩:=seqB_split h
    refine ⟨t+1,by simp;omega,fun _=>by omega,?_,?_⟩
    ·rw [List.take_succ_cons]
     exact (t3.cons_cons _).trans g2
    ·rw [List.drop_succ_cons]
     exact t4
  ·simp only [Bool.and_eq_true,List.all_eq_true,Bool.not_eq_true',decide_eq_false_iff_not] at h
   refine ⟨0,Nat.zero_le _,fun e=>by rw [e] at h;exact absurd h.1 (by decide),by simp,fun u hu=>?_⟩
   rw [List.drop_zero] at hu
   exact h.2 u hu
theorem nextB_iff {e1 e2:Int} {L1 L2:List (List Int)}:nextB e1 L1 e2 L2=true↔goodB e1 L1=true∧goodB e2 L2=true∧e2=e1+1∧L2.length=L1.length∧∀ c ∈ L1.zip L2,seqB (unitsR L1) c.1 c.2 c.1 false=true:=by
 simp [nextB,List.all_eq_true]
theorem next_chain {e1 e2:Int} {L1 L2:List (List Int)} (h:nextB e1 L1 e2 L2=true) {k:Nat} (h1:k < L1.length) (h2:k < L2.length):∃ t:Nat,1≤t∧t≤L2[k].length∧(L2[k].take t).Sublist L1[k]∧∀ u ∈ L2[k].drop t,u ∉ unitsR L1:=by
 obtain ⟨_,_,_,_,h5⟩:=nextB_iff.1 h
 have hz:k < (L1.zip L2).length:=by rw [List.length_zip];omega
 have g:=h5 ((L1.zip L2)[k]) (List.getElem_mem hz)
 rw [List.getElem_zip] at g
 obtain ⟨t,t1,t2,t3,t4⟩:=seqB_split g
 exact ⟨t,t2 rfl,t1,t3,t4⟩
end Go.Proofs.YtkefpbcifcjibaaGreat
