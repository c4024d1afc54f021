/- Joined texts. -/
import Derived.Test.YtkefpbcifcjibaaGreatShelf
import Derived.Test.YtkefpbcifcjibaaGreatG13a
import Derived.Test.YtkefpbcifcjibaaGreatG04a
set_option linter.unusedVariables false
set_option maxRecDepth 20000
set_option maxHeartbeats 16000000
namespace Go.Proofs.YtkefpbcifcjibaaGreat
open Go.RowKit Go.Maps
theorem unit_inv {v:Value} {kl:Lit} (h:keyOf Tryz.prog 155 v=some kl):∃ u,v=.agg #[.int .i64 u]∧(Lit.int .i64 u).wf=true:=by
 obtain ⟨n,hn⟩:=types_succ
 exact key_one_inv Tryz.underlying155 (by kernel_rfl) (by rfl) rfl (by kernel_rfl) Tryz.underlying3 (by kernel_rfl) hn h
def Coll (S:List Int) (left:Lit→Bool) (l:List Int):Prop:=l.Nodup∧∀ u,(Lit.int .i64 u).wf=true→(u ∈ l↔u ∈ S∧left (klU u)=false)
theorem Coll.start {L:List (List Int)} {D:DataW Unit} {S:List Int} (h:Ms L D S):Coll S (Maps.has D) []:=by
 refine ⟨List.Pairwise.nil,fun u hu=>?_⟩
 rw [h.hs u hu]
 simp
theorem Coll.step {L:List (List Int)} {D:DataW Unit} {S l:List Int} {left:Lit→Bool} (hM:Ms L D S) (h:Coll S left l) {u:Int} {y:DataW Unit} (hu:(Lit.int .i64 u).wf=true) (hl:left (klU u)=true) (hat:∀ z,D.atKey (klU u) z=y) :
  Coll S (fun z=>left z && !z.sameKey (klU u)) (l ++ [u]):=by
 have hS:u ∈ S:=by
  have h1:=has_true_of_atKey hat
  rw [hM.hs u hu] at h1
  exact of_decide_eq_true h1
 have hn:u ∉ l:=by
  intro hm
  have:=((h.2 u hu).1 hm).2
  rw [hl] at this
  cases this
 refine ⟨nodup_snoc h.1 hn,fun v hv=>?_⟩
 rw [List.mem_append,List.mem_singleton]
 by_cases e:v=u
 ·subst e
  simp [hS,WideAt.sameKey_self (klU_key hu)]
 ·show v ∈ l∨v=u↔v ∈ S∧(left (klU v) && !(klU v).sameKey (klU u))=false
  rw [h.2 v hv,sameKey_ne (fun e2=>e (klU_inj hv hu e2))]
  simp [e]
theorem Coll.done {S l:List Int} {left:Lit→Bool} (h:Coll S left l) (h0:∀ z,left z=false) (hS:∀ u ∈ S,(Lit.int .i64 u).wf=true) (hl:∀ u ∈ l,(Lit.int .i64 u).wf=true):∀ u,u ∈ l↔u ∈ S:=by
 intro u
 constructor
 ·intro hu
  exact ((h.2 u (hl u hu)).1 hu).1
 ·intro hu
  exact (h.2 u (hS u hu)).2 ⟨hu,h0 _⟩
theorem sort_units {L:List (List Int)} {l:List Int} (hn:l.Nodup) (hm:∀ u,u ∈ l↔u ∈ L.flatten):l.mergeSort (fun x y=>decide (x≤y))=unitsR L:=by
 have hp:=List.mergeSort_perm l (fun x y=>decide (x≤y))
 refine unitsR_of ?_ (fun x=>(hp.mem_iff).trans (hm x))
 have h1:(l.mergeSort (fun x y=>decide (x≤y))).Pairwise (fun a b=>decide (a≤b)=true):=List.pairwise_mergeSort (fun a b c h1 h2=>by simp at *;omega) (fun a b=>by simp;omega) l
 have h2:(l.mergeSort (fun x y=>decide (x≤y))).Nodup:=hp.symm.nodup hn
 unfold Rises
 exact (h1.and h2).imp (fun {a b} h=>by have h3:=of_decide_eq_true h.1;have h4:a≠b:=h.2;omega)
theorem grown_sorted {w:World} {g n:Nat} {os:Array Obj} (d:Array Int):w.grownBy (Sort.grow (Sort.putRow (Value.int .i64) (Sort.ahead w n) g 0 d) os) (some g):=by
 refine ⟨rfl,rfl,rfl,by simp,fun k hk hne=>?_⟩
 rw [Sort.heap_grow_old _ _ (by simpa using hk)]
 have:g≠k:=fun e=>hne (by rw [e])
 simp [Sort.putRow,Sort.mapBlock,Sort.ahead,Array.getElem?_modify,this]
theorem sort_ownO {w:World} {B:Nat} {v:Value} {l:List Int} (h:OI w B v l) (hl:l.length≤1000000) (hB:B≤w.heap.size) :
  Calls Tryz.prog 86 #[v] w fun e w'=>e=.returned (.tuple #[])∧OI w' B v (l.mergeSort fun x y=>decide (x≤y))∧Below B w w':=by
 have hw:wfL (l.mergeSort fun x y=>decide (x≤y)):=fun u hu=>h.2 u ((List.mergeSort_perm l _).mem_iff.1 hu)
 rcases h.1.2 with ⟨rfl,h0⟩ | ⟨g,cap,cur,rfl,hbg,hh,hnc,hcm,hcs,ht⟩
 ·have:l=[]:=List.eq_nil_of_length_eq_zero h0
  subst this
  refine (Tryz.slices_Sort_int_none none 0 w).mono ?_
  rintro e w' ⟨rfl,rfl⟩
  exact ⟨rfl,by rw [show ([]:List Int).mergeSort (fun x y=>decide (x≤y))=[] from by simp];exact OI.nil _ _,Below.refl _ _⟩
 ·have hg:=lt_of_block hh
  have hH:Sort.Holds (Value.int .i64) w g 0 l.toArray:=by
   intro j hj
   have hj':j < l.length:=by simpa using hj
   obtain ⟨bk,off,e1,e2⟩:=(show NLI w (some ⟨g,0,none⟩) cap l from by obtain ⟨a,c,e,hN,_⟩:=h.form;cases e;exact hN).at j hj'
   cases e1
   exact ⟨by rw [e2];simp [hj'],by simp [World.frozen?,hh]⟩
  refine (Tryz.slices_Sort_int g 0 cap l w hH hg (by omega)).mono ?_
  rintro e w' ⟨rfl,n,os,rfl⟩
  generalize hs:(l.mergeSort fun x y=>decide (x≤y))=s at *
  have hlen:s.length=l.length:=by rw [← hs];exact (List.mergeSort_perm l _).length_eq
  have hb:Below B w (Sort.grow (Sort.putRow (Value.int .i64) (Sort.ahead w n) g 0 s.toArray) os):=(Below.refl B w).grown (grown_sorted _) hB (fun k e=>by cases e;exact hbg)
  have hx:(Sort.grow (Sort.putRow (Value.int .i64) (Sort.ahead w n) g 0 s.toArray) os).heap[g]?=some (.cells (Sort.putCells (Value.int .i64) 0 s.toArray cur) 3 (0,0)):=by
   rw [Sort.heap_grow_old _ _ (by simpa [Sort.putRow,Sort.mapBlock,Sort.ahead] using hg)]
   simp [Sort.putRow,Sort.mapBlock,Sort.ahead,Array.getElem?_modify,hh,Sort.onCells]
  refine ⟨rfl,⟨⟨by simp,.inr ⟨g,cap,Sort.putCells (Value.int .i64) 0 s.toArray cur,by rw [hlen],hbg,hx,by omega,hcm,by simpa [Sort.putCells] using hcs,?_⟩⟩,hw⟩,hb⟩
  apply List.ext_getElem?
  intro i
  by_cases hi:i < s.length
  ·have hc:i < cur.size:=by omega
   rw [List.getElem?_take,if_pos (by omega),List.getElem?_map,List.getElem?_eq_getElem hi]
   simp [Sort.putCells,hc,hi]
  ·rw [List.getElem?_take,if_neg (by omega),List.getElem?_map,List.getElem?_eq_none (by omega)]
   rfl
end Go.Proofs.YtkefpbcifcjibaaGreat
