/- Joined texts. -/
import Derived.Test.YtkefpbcifcjibaaGreatG02a
import Derived.Test.YtkefpbcifcjibaaGreatG03a
import Derived.Maps.AppendAt
import Derived.Laws.OwnMore
import Derived.OwnWalk
import Derived.Laws.ResultCell
import Derived.Test.YtkefpbcifcjibaaGreatG02b
import Derived.WalkMore
import Derived.ScopeJumps
set_option linter.unusedVariables false
set_option maxRecDepth 20000
set_option maxHeartbeats 16000000
namespace Go.Proofs.YtkefpbcifcjibaaGreat
open Go.ChangeShapes Go.WideShapes Go.ChangeAt Go.RowKit
def i64w (x:Int):Prop:=(Lit.int .i64 x).wf=true
section
variable {H:Type} {enc:TypeId × Value→H} {P:Program} {w:World} {base:Nat} {spare:Nat→Bool} {held:Bool}
end
def NL (w:World) (ao:Option Addr) (L:List Int):Prop:=∀ i (h:i < L.length),(∃ bk off,ao=some ⟨bk,off,none⟩∧w.cell? ⟨bk,off+i,none⟩=some (.int .i64 L[i]))∧(Lit.int .i64 L[i]).wf=true
theorem NL.below {w w':World} {ao:Option Addr} {L:List Int} (h:NL w ao L) (hb:Below w.heap.size w w'):NL w' ao L:=by
 intro i hi
 obtain ⟨⟨bk,off,h1,h2⟩,h5⟩:=h i hi
 exact ⟨⟨bk,off,h1,z0s hb (block_lt_of_cell h2) h2⟩,h5⟩
section
variable {H:Type} {enc:TypeId × Value→H} {P:Program} {w:World} {base:Nat} {spare:Nat→Bool} {held:Bool}
end
def Row {α:Type} (w:World) (ao:Option Addr) (n:Nat) (f:α→List Value) (L:List α):Prop :=
 ∀ i (h:i < L.length),∃ bk off,ao=some ⟨bk,off,none⟩∧∀ j v,(f L[i])[j]?=some v→w.cell? ⟨bk,off+i * n+j,none⟩=some v
theorem Row.nil {α:Type} (w:World) (ao:Option Addr) (n:Nat) (f:α→List Value):Row w ao n f []:=fun i h=>absurd h (Nat.not_lt_zero i)
section
variable {H:Type} {enc:TypeId × Value→H} {P:Program} {w:World} {base:Nat} {spare:Nat→Bool} {held:Bool}
end
end Go.Proofs.YtkefpbcifcjibaaGreat
namespace Go.Proofs.YtkefpbcifcjibaaGreat
open Go.RowKit
def pgCells (l:List Pg):List Value:=l.flatMap (fun x=>[.int .i64 x.at_,.int .i64 x.kind,.string x.s])
def OG (w:World) (B:Nat) (v:Value) (l:List Pg):Prop:=w.ownsRow B 266 3 v l.length (pgCells l)
theorem OG.nil (w:World) (B:Nat):OG w B (.slice none 0 0) []:=World.ownsRow_nil _ _ _ _
theorem OG.keep {S:Nat→Prop} {w w':World} {B:Nat} {v:Value} {l:List Pg} (h:OG w B v l) (hk:Kept S w w') (hS:∀ k,v.ownBlock=some k→S k):OG w' B v l:=hk.owns h hS
def RG (G:Nat→Prop) (w:World) (b:Nat) (p:Ps):Prop :=
 ∃ v,w.heap[b]?=some (.cells #[v,.int .i64 p.room,.int .i64 p.edge] 237 (0,0))∧OG w 0 v p.l∧(∀ k,v.ownBlock=some k→G k∧k≠b)∧G b∧∀ k,G k→k < w.heap.size
theorem RG.keep {G T:Nat→Prop} {w w':World} {b:Nat} {p:Ps} (h:RG G w b p) (hk:Kept T w w') (hT:∀ k,G k→T k):RG G w' b p:=by
 obtain ⟨v,h1,h2,h3,h4,h5⟩:=h
 exact ⟨v,hk.heap (hT b h4) h1,h2.keep hk (fun k e=>hT k (h3 k e).1),h3,h4,fun k hg=>Nat.lt_of_lt_of_le (h5 k hg) hk.size⟩
theorem RG.below {G:Nat→Prop} {w w':World} {b:Nat} {p:Ps} (h:RG G w b p) (hb:Below w.heap.size w w'):RG G w' b p:=h.keep (T:=fun _=>True) (Kept.ofBelow hb _) (fun _ _=>trivial)
theorem heap_drew (w:World):w.drew.heap=w.heap:=rfl
theorem z0c {w1 W w2:World} (hb:Below W.heap.size W w2) (h:Below w1.heap.size w1 W):Below w1.heap.size w1 w2:=h.trans (hb.mono h.size)
theorem lv_use {α:Type} {T:(Nat→Prop)→World→α→Prop} {G:Nat→Prop} {w W:World} {a:α} (hG:∀ k,G k→k < w.heap.size) (h:Leaves T G w W a) :
  ∃ H:Nat→Prop,T H W a∧∀ W2 a',Leaves T H W W2 a'→Leaves T G w W2 a':=by
 obtain ⟨H,h1,h2,h3⟩:=h
 refine ⟨H,h1,fun W2 a' hl=>?_⟩
 obtain ⟨H',r1,r2,r3⟩:=hl
 refine ⟨H',r1,?_,fun k hk=>?_⟩
 ·refine ⟨r2.os.trans h2.os,r2.tape.trans h2.tape,r2.output.trans h2.output,Nat.le_trans h2.size r2.size,fun k hg hkl=>?_⟩
  have hn:¬ H k:=fun hf=>by
   rcases h3 k hf with h | h
   ·exact hg h
   ·omega
  rw [r2.block k hn (Nat.lt_of_lt_of_le hkl h2.size)]
  exact h2.block k hg hkl
 ·rcases r3 k hk with h | h
  ·exact h3 k h
  ·exact .inr (Nat.le_trans h2.size h)
theorem z06 {P:Program} {c rest:Code} {a:Act} {w:World} {Q:Exit→Act→World→Prop} (l:Nat) (hf:findLabel c l=some rest)
  (h:c.wp P (Exit.jump l (fun a' w'=>rest.wp P (Exit.noGoto Q) a' w') Q) a w):(Code.scope c).wp P Q a w :=
 wp_scope_jumps l (fun a' w'=>rest.wp P (Exit.noGoto Q) a' w') (fun _ _=>0) hf h (fun a w hj=>Code.wp_mono (fun e a w hq=>by
  cases e with
  | goto l=>exact hq.elim
  | _=>exact hq) hj)
theorem z0b {a:Act} {w:World} {Q:Exit→Act→World→Prop}:Exit.noGoto Q .normal a w=Q .normal a w:=rfl
theorem z0h {P:Program} {rest:Code} {a:Act} {w:World} {Q:Exit→Act→World→Prop} {l:Nat} (h:rest.wp P (Exit.noGoto Q) a w):Exit.jump l (fun a' w'=>rest.wp P (Exit.noGoto Q) a' w') Q (.goto l) a w:=⟨rfl,h⟩
theorem zero_place {w1 w2:World} (hb2:Below (w1.alloc (.cells #[.int .i64 0,.int .i64 0] 150)).drew.heap.size (w1.alloc (.cells #[.int .i64 0,.int .i64 0] 150)).drew w2):w2.cell? ⟨w1.heap.size,0,none⟩=some (.int .i64 0)∧w2.cell? ⟨w1.heap.size,1,none⟩=some (.int .i64 0)∧w2.frozen? ⟨w1.heap.size,0,none⟩=false∧w2.frozen? ⟨w1.heap.size,1,none⟩=false∧w1.heap.size < w2.heap.size:=by
 have h:w2.heap[w1.heap.size]?=_:=z01 hb2 (heap_alloc_new w1 (.cells #[.int .i64 0,.int .i64 0] 150))
 obtain ⟨p0,p1,g0,g1⟩:=z05 h
 exact ⟨p0,p1,g0,g1,lt_of_block h⟩
theorem kept_low {S:Nat→Prop} {B:Nat} {w w':World} (hk:Kept S w w') (hS:∀ k,k < B→S k) (hB:B≤w.heap.size):Below B w w' :=
 ⟨hk.os,hk.tape,hk.output,hk.size,fun k hkB=>hk.block k (hS k hkB) (Nat.lt_of_lt_of_le hkB hB)⟩
theorem wp_scope_two {P:Program} {c r1 r2:Code} {a:Act} {w:World} {Q:Exit→Act→World→Prop} (l1 l2:Nat) (hf1:findLabel c l1=some r1) (hf2:findLabel c l2=some r2)
  (h:c.wp P (Exit.jump l1 (fun a1 w1=>r1.wp P (Exit.jump l2 (fun a2 w2=>r2.wp P (Exit.noGoto Q) a2 w2) Q) a1 w1) Q) a w):(Code.scope c).wp P Q a w:=by
 intro b k cs
 have hg1:gotoIn l1 (.inScope c :: k)=some (.code r1 :: .inScope c :: k):=by simp [gotoIn,hf1]
 have hg2:gotoIn l2 (.inScope c :: k)=some (.code r2 :: .inScope c :: k):=by simp [gotoIn,hf2]
 have last:∀ a w,r2.wp P (Exit.noGoto Q) a w→∃ e a' w',Q e a' w'∧Arrives P (lone (b.at a (.code r2 :: .inScope c :: k)) cs w) b k cs e a' w':=by
  intro a w hw
  obtain ⟨e,a₁,w₁,hq,harr⟩:=hw b (.inScope c :: k) cs
  cases e with
  | normal=>exact ⟨.normal,a₁,w₁,hq,Steps.trans harr (.one step_inScope)⟩
  | exit id=>exact ⟨.exit id,a₁,w₁,hq,fun k' hk=>harr k' (by simp [exitTo,hk])⟩
  | goto l'=>exact hq.elim
  | ret=>exact ⟨_,a₁,w₁,hq,harr⟩
  | panic ch=>exact ⟨_,a₁,w₁,hq,harr⟩
  | outgrown=>exact ⟨_,a₁,w₁,hq,harr⟩
 have mid:∀ a w,r1.wp P (Exit.jump l2 (fun a2 w2=>r2.wp P (Exit.noGoto Q) a2 w2) Q) a w→∃ e a' w',Q e a' w'∧Arrives P (lone (b.at a (.code r1 :: .inScope c :: k)) cs w) b k cs e a' w':=by
  intro a w hw
  obtain ⟨e,a₁,w₁,hq,harr⟩:=hw b (.inScope c :: k) cs
  cases e with
  | normal=>exact ⟨.normal,a₁,w₁,hq,Steps.trans harr (.one step_inScope)⟩
  | exit id=>exact ⟨.exit id,a₁,w₁,hq,fun k' hk=>harr k' (by simp [exitTo,hk])⟩
  | goto l' =>
   obtain ⟨rfl,hJ'⟩:=hq
   obtain ⟨e₂,a₂,w₂,hq₂,harr₂⟩:=last a₁ w₁ hJ'
   exact ⟨e₂,a₂,w₂,hq₂,.of_steps (harr _ hg2) harr₂⟩
  | ret=>exact ⟨_,a₁,w₁,hq,harr⟩
  | panic ch=>exact ⟨_,a₁,w₁,hq,harr⟩
  | outgrown=>exact ⟨_,a₁,w₁,hq,harr⟩
 obtain ⟨e,a₁,w₁,hq,harr⟩:=h b (.inScope c :: k) cs
 cases e with
 | normal=>exact ⟨.normal,a₁,w₁,hq,.head step_scope (Steps.trans harr (.one step_inScope))⟩
 | exit id=>exact ⟨.exit id,a₁,w₁,hq,fun k' hk=>.head step_scope (harr k' (by simp [exitTo,hk]))⟩
 | goto l' =>
  obtain ⟨rfl,hJ'⟩:=hq
  obtain ⟨e₂,a₂,w₂,hq₂,harr₂⟩:=mid a₁ w₁ hJ'
  exact ⟨e₂,a₂,w₂,hq₂,.of_steps (.head step_scope (harr _ hg1)) harr₂⟩
 | ret=>exact ⟨_,a₁,w₁,hq,.of_steps (.one step_scope) harr⟩
 | panic ch=>exact ⟨_,a₁,w₁,hq,.of_steps (.one step_scope) harr⟩
 | outgrown=>exact ⟨_,a₁,w₁,hq,.of_steps (.one step_scope) harr⟩
theorem jump_two {P:Program} {r1 r2:Code} {a:Act} {w:World} {Q:Exit→Act→World→Prop} {l l2:Nat} (h:r1.wp P (Exit.jump l2 (fun a2 w2=>r2.wp P (Exit.noGoto Q) a2 w2) Q) a w):Exit.jump l (fun a1 w1=>r1.wp P (Exit.jump l2 (fun a2 w2=>r2.wp P (Exit.noGoto Q) a2 w2) Q) a1 w1) Q (.goto l) a w:=⟨rfl,h⟩
end Go.Proofs.YtkefpbcifcjibaaGreat
namespace Go.Proofs.YtkefpbcifcjibaaGreat
open Go.RowKit Go.Maps
theorem one_cells {P:Program} {k:TypeId} {f0:Field} (hk:P.underlying k=some (.struct #[f0])) (hc:P.cellsOf k=1) {v:Value} (h:v.formed P k=true):∃ x,v=.agg #[x]:=by
 cases v with
 | agg cs =>
  simp only [Value.formed,hk,hc,beq_iff_eq] at h
  obtain ⟨l⟩:=cs
  match l,h with
  | [x],_=>exact ⟨x,rfl⟩
 | _=>simp [Value.formed,hk] at h
theorem key_one_inv {P:Program} {k ti:TypeId} {f0:Field} (hk:P.underlying k=some (.struct #[f0])) (hc:P.cellsOf k=1) (hn:(f0.name != "_")=true) (h0:(f0.offset,f0.type)=(0,ti)) (ci:P.cellsOf ti=1) (ui:P.underlying ti=some (.int .i64))
  (hkt:P.keyType k=true) {n:Nat} (hs:P.types.size=n+1) {v:Value} {kl:Lit} (h:keyOf P k v=some kl):∃ u,v=.agg #[.int .i64 u]∧(Lit.int .i64 u).wf=true:=by
 have e0:f0.offset=0:=congrArg Prod.fst h0
 have e1:f0.type=ti:=congrArg Prod.snd h0
 unfold keyOf at h
 rw [hk] at h
 simp only [hkt,Bool.true_and] at h
 split at h
 ·next hf =>
  obtain ⟨x,rfl⟩:=one_cells hk hc hf
  rw [hs] at h
  simp only [Value.cells] at h
  unfold Program.keyLits at h
  rw [hk] at h
  simp [hc,hn,e0,e1,ci] at h
  unfold Program.keyLits at h
  rw [ui] at h
  cases x with
  | int q a =>
   by_cases hq:q=IntKind.i64∧(Lit.int .i64 a).wf=true
   ·obtain ⟨rfl,h1⟩:=hq
    exact ⟨a,rfl,h1⟩
   ·simp [hq] at h
  | _=>simp at h
 ·cases h
end Go.Proofs.YtkefpbcifcjibaaGreat
