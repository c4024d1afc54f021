/- Joined texts. -/
import Derived.Test.YtkefpbcifcjibaaGreatG06a
import Derived.Test.YtkefpbcifcjibaaGreatG04a
import Derived.Test.YtkefpbcifcjibaaGreatG08a
import Derived.Deep.RegionHeld3
import Derived.Deep.RegionHeldLaw
import Derived.Maps.RangeWalk
import Derived.Test.YtkefpbcifcjibaaGreatG03a
import Derived.Test.YtkefpbcifcjibaaGreatH00
set_option linter.unusedVariables false
set_option maxRecDepth 20000
set_option maxHeartbeats 16000000
namespace Go.Proofs.YtkefpbcifcjibaaGreat
open Go.ChangeShapes Go.WideShapes Go.ChangeAt Go.RowKit
def byteC (x:Int):List Value:=[.int .u8 x]
section
variable {H:Type} {enc:TypeId × Value→H} {P:Program} {w:World} {base:Nat} {spare:Nat→Bool} {held:Bool}
end
theorem byte_at {w:World} {ao:Option Addr} {l:List Int} (h:Row w ao 1 byteC l) {i:Nat} (hi:i < l.length):∃ bk off,ao=some ⟨bk,off,none⟩∧w.cell? ⟨bk,off+i,none⟩=some (.int .u8 l[i]):=by
 obtain ⟨bk,off,h1,h2⟩:=h i hi
 have:=h2 0 _ rfl
 simp at this
 exact ⟨bk,off,h1,this⟩
end Go.Proofs.YtkefpbcifcjibaaGreat
namespace Go.Proofs.YtkefpbcifcjibaaGreat
open Go.RowKit
theorem bcell0 {B:Nat} {W w1:World} (hb:Below B W w1) {b o:Nat} {v:Value} (h:W.cell? ⟨b,o,none⟩=some v) (hl:b < B):w1.cell? ⟨b,o,none⟩=some v:=(hb.cell (p:=⟨b,o,none⟩) hl).trans h
theorem bfree0 {B:Nat} {W w1:World} (hb:Below B W w1) {b o:Nat} (h:W.frozen? ⟨b,o,none⟩=false) (hl:b < B):w1.frozen? ⟨b,o,none⟩=false:=(hb.frozen (p:=⟨b,o,none⟩) hl).trans h
theorem OC.lower {w:World} {B B':Nat} {v:Value} {L:List (List Int)} (h:OC w B v L) (hb:B'≤B):OC w B' v L:=by
 obtain ⟨xs,h1,h2⟩:=h
 refine ⟨xs,⟨h1.1,?_⟩,fun i hi=>?_⟩
 ·rcases h1.2 with h3 | ⟨g,cap,cur,h3,h4,r⟩
  ·exact .inl h3
  ·exact .inr ⟨g,cap,cur,h3,Nat.le_trans hb h4,r⟩
 ·obtain ⟨ai,ci,h3,h4,h5⟩:=h2 i hi
  exact ⟨ai,ci,h3,h4,fun a e=>⟨Nat.le_trans hb (h5 a e).1,(h5 a e).2⟩⟩
theorem z1d (ep:Int) (ao:Option Addr) (cap:Nat) (L:List (List Int)) (w:World) (h:CL w ao L) (hl:L.length≤1000∧∀ c ∈ L,c.length≤1000) :
  Calls Tryz.prog 11 #[.agg #[.int .i64 ep,.slice ao L.length cap]] w fun e w'=>∃ v,e=.returned (.agg #[.int .i64 ep,v])∧OC w' w.heap.size v L∧Below w.heap.size w w':=by
 have HB0:=Lh (((Below.refl w.heap.size w).alloc (Nat.le_refl _) (.cells #[.int .i64 ep,.slice ao L.length cap] 24)).alloc (by simp) (.cells #[.int .i64 0,.slice none 0 0] 24))
 have HC:=Lh h
 have hl':(L.length:Int)≤1000:=by omega
 have hl2:L.length≤1000:=hl.1
 have HM:=Lh hl.2
 clear h hl
 go_enter Tryz.func11,Tryz.ntmps11
 go_wp2_with fail
 go_loopw [3,4] (fun v i wr=>∃ k:Nat,i=.int .i64 k∧k≤L.length∧OC wr (w.heap.size+2) v (L.take k)∧Below (w.heap.size+2) ((w.alloc (.cells #[.int .i64 ep,.slice ao L.length cap] 24)).alloc (.cells #[.int .i64 0,.slice none 0 0] 24)) wr) (fun _ i _=>L.length - (intOf i).toNat)
 case atStart=>exact ⟨0,rfl,Nat.zero_le _,by rw [List.take_zero];exact OC.nil _ _,Below.refl _ _⟩
 case round =>
  obtain ⟨k,rfl,hk,hO,hb⟩:=hrel
  have b1:wr.cell? ⟨w.heap.size,1,none⟩=some (.slice ao L.length cap):=bcell0 hb (by simp) (by omega)
  have HW:=Lh (HB0.out.trans (hb.mono (by omega)))
  have hsz:w.heap.size+2≤wr.heap.size:=by have:=hb.size;simpa using this
  have hsz0:w.heap.size < wr.heap.size:=by omega
  by_cases hlt:k < L.length
  ·obtain ⟨bk,off,ai,ci,hao,c0,hN⟩:=(HC.out.below HW.out) k hlt
   subst hao
   have hbk:=block_lt_of_cell c0
   have m0:=HM.out L[k] (List.getElem_mem hlt)
   have hNd:=Lh hN
   have HT:=Lh (show L.take (k+1)=L.take k ++ [L[k]] from List.take_succ_eq_append_getElem hlt)
   have HO:=Lh hO
   have HB:=Lh hb
   clear hN hO hb
   go_wp2_with (first
    | (refine wpList_app_ints (o:=⟨some 19,_,_,_,_,_⟩) rfl (.tmp 13) (.tmp 18) rfl (B:=wr.heap.size) (v:=.slice (some ⟨wr.heap.size,0,none⟩) 0 0) (D:=[]) rfl (OI.made wr (Nat.le_refl _)) (ao:=ai) (cap:=ci) (l:=L[k]) rfl rfl (hNd.out.alloc _) (by simp;omega) (by simp) ?_;intro v1 w1 hI hg _;rw [List.nil_append] at hI;obtain ⟨a1,c1,hv1,hN1,hA1,_⟩:=hI.form;have HG:=Lh (below_app hg (fun k e=>by cases e;exact Nat.le_refl _));have HN1:=Lh hN1;have HA1:=Lh (HO.out.apart hsz hA1);clear hI hg hN1 hA1;subst hv1)
    | (refine wpList_app_chain (o:=⟨some 21,_,_,_,_,_⟩) (w:=w1) rfl (.tmp 12) (.tmp 20) rfl (B:=w.heap.size+2) (v:=u3) (L:=L.take k) rfl (HO.out.below HG.out) (ai:=a1) (ci:=c1) (l:=L[k]) rfl HN1.out HA1.out (by simp;omega) (Nat.le_trans hsz HG.out.size) ?_;intro v2 w2 hO2 hb2;rw [← HT.out] at hO2;have HO2:=Lh hO2;have HB2:=Lh ((HB.out.trans (HG.out.mono hsz)).trans hb2);clear hO2 hb2))
   go_roundw
   case rel=>exact ⟨k+1,by go_num,by omega,HO2.out,HB2.out⟩
   case measure=>simp [intOf];omega
  ·obtain rfl:k=L.length:=by omega
   rw [List.take_of_length_le (Nat.le_refl _)] at hO
   obtain ⟨bo,cb,rfl,hC2,hn2,hl2,ha2⟩:=hO.form
   have b0:wr.cell? ⟨w.heap.size,0,none⟩=some (.int .i64 ep):=bcell0 hb (by simp) (by omega)
   have f1:wr.frozen? ⟨w.heap.size,1,none⟩=false:=bfree0 hb (by simp) (by omega)
   have r0:wr.cell? ⟨w.heap.size+1,0,none⟩=some (.int .i64 0):=bcell0 hb (by simp) (by omega)
   have r1:wr.cell? ⟨w.heap.size+1,1,none⟩=some (.slice none 0 0):=bcell0 hb (by simp) (by omega)
   have g0:wr.frozen? ⟨w.heap.size+1,0,none⟩=false:=bfree0 hb (by simp) (by omega)
   have g1:wr.frozen? ⟨w.heap.size+1,1,none⟩=false:=bfree0 hb (by simp) (by omega)
   have HR:=Lh ((hb.block (w.heap.size+1) (by omega)).trans (show _=some (.cells #[.int .i64 0,.slice none 0 0] 24 (0,0)) by have:=heap_alloc_new (w.alloc (.cells #[.int .i64 ep,.slice ao L.length cap] 24)) (.cells #[.int .i64 0,.slice none 0 0] 24);simpa using this))
   have HO:=Lh hO
   clear hO hC2 hn2 hl2 ha2 hb
   go_wp2_with fail
   have hR1:=z27 (two_set0 ((((Kept.refl (fun k=>k=w.heap.size+1) wr).setCell (p:=⟨w.heap.size,1,none⟩) (by simp) (.slice bo L.length cb)).heap rfl HR.out)) (.int .i64 ep)) (.slice bo L.length cb)
   have hK:=(((Kept.refl (fun k=>w.heap.size+2≤k) wr).setCell (p:=⟨w.heap.size,1,none⟩) (by simp) (.slice bo L.length cb)).setCell (p:=⟨w.heap.size+1,0,none⟩) (by simp) (.int .i64 ep)).setCell (p:=⟨w.heap.size+1,1,none⟩) (by simp) (.slice bo L.length cb)
   have hO2:=HO.out.keep hK (fun _ h _=>h)
   exact proj_ret rfl hR1 rfl rfl ⟨_,rfl,hO2.lower (by omega),((HW.out.setCell (by simp) _).setCell (by simp) _).setCell (by simp) _⟩
theorem odo_start (r:Nat) (G:Nat→Prop) (w:World) (o:Od) (a:Ak) (h:RO r G w o) (hk:a.kind=8) (he:o.epoch < a.epoch) (hp:0≤a.page∧a.page≤16384) (hw:i64w a.epoch) :
  Calls Tryz.prog 97 #[ptrO r,askV a] w fun e w'=>e=.returned (ansV (o.ans a) none 0)∧Leaves (RO r) G w w' (o.done a):=by
 have ha:o.ans a=anP 0 0 noT a.epoch:=by
  unfold Od.ans;rw [if_pos hk,if_neg (by omega),if_neg (by omega)]
 have hd:o.done a=⟨a.epoch,a.page,true⟩:=by
  unfold Od.done;rw [if_pos ⟨hk,he,hp⟩]
 rw [ha,hd]
 clear ha hd
 obtain ⟨k,un,ep,pg,sz,n,s,pe,L,ao,cap⟩:=a
 obtain ⟨oe,ot,ok⟩:=o
 simp only at *
 have HS:=Lh (show OdW w (((w.alloc (.cells #[.int .i64 k,.int .i64 un,.int .i64 ep,.int .i64 pg,.int .i64 sz,.int .i64 n,.string s,.int .i64 pe,.slice ao L.length cap] 34)).alloc (.cells #[.int .i64 0,.int .i64 0,.string ⟨#[]⟩,.int .i64 0,.slice none 0 0,.int .i64 0,.int .i64 0,.int .i64 0] 49)).alloc (.cells #[.int .i64 0,.int .i64 0,.string ⟨#[]⟩,.int .i64 0,.slice none 0 0,.int .i64 0,.int .i64 0,.int .i64 oe] 49)) r ⟨oe,ot,ok⟩ ⟨k,un,ep,pg,sz,n,s,pe,L,ao,cap⟩ #[.int .i64 0,.int .i64 0,.string ⟨#[]⟩,.int .i64 0,.slice none 0 0,.int .i64 0,.int .i64 0,.int .i64 oe] from od_start h ⟨k,un,ep,pg,sz,n,s,pe,L,ao,cap⟩ #[.int .i64 0,.int .i64 0,.string ⟨#[]⟩,.int .i64 0,.slice none 0 0,.int .i64 0,.int .i64 0,.int .i64 oe])
 have d8:(k == 8)=true:=by rw [hk];rfl
 clear hk
 obtain ⟨hp0,hp1⟩:=hp
 have HP:=Lh (show 0≤pg∧pg≤16384 from ⟨hp0,hp1⟩)
 have HW:=Lh hw
 clear hw
 have HR:=Lh h
 have HOK:=Lh h.1
 have HG:=Lh h.2.2
 obtain ⟨h0,h1,h2⟩:=h
 simp only at h1
 have hlt:=lt_of_block h1
 obtain ⟨c0,c1,c2,_⟩:=z09 h1
 clear h0 h1 h2
 show Calls _ _ #[.pointer (some ⟨r,0,none⟩),.agg #[.int .i64 k,.int .i64 un,.int .i64 ep,.int .i64 pg,.int .i64 sz,.int .i64 n,.string s,.int .i64 pe,.slice ao L.length cap]] w _
 go_enter Tryz.func97,Tryz.ntmps97
 go_wp2_with fail
 generalize hW0:((w.alloc (.cells #[.int .i64 k,.int .i64 un,.int .i64 ep,.int .i64 pg,.int .i64 sz,.int .i64 n,.string s,.int .i64 pe,.slice ao L.length cap] 34)).alloc (.cells #[.int .i64 0,.int .i64 0,.string ⟨#[]⟩,.int .i64 0,.slice none 0 0,.int .i64 0,.int .i64 0,.int .i64 0] 49)).alloc (.cells #[.int .i64 0,.int .i64 0,.string ⟨#[]⟩,.int .i64 0,.slice none 0 0,.int .i64 0,.int .i64 0,.int .i64 oe] 49)=W0 at *
 clear c0 c1 c2 hlt hW0
 obtain ⟨l1,l2,l3,l4⟩:=HS.out.small
 have x2:W0.cell? ⟨w.heap.size,2,none⟩=some (.int .i64 ep):=z02 HS.out.ask 2
 obtain ⟨c0,c1,c2,_⟩:=z09 HS.out.ob
 have hr:=lt_of_block HS.out.ob
 have HSN:=Lh (fun n=>HS.out.drewN n)
 clear HS
 go_quiet (fail)
 have HT:=Lh (HSN.out nq)
 generalize hW1:World.drewN W0 nq=W1 at *
 clear hW1 HSN x2 c0 c1 c2 hr l1 l2 l3 l4
 obtain ⟨l1,l2,l3,l4⟩:=HT.out.small
 obtain ⟨⟨y0,y1,y2,y3,y4,y5,y6,y7⟩,fy0,fy1,fy2,fy3,fy4,fy5,fy6,fy7⟩:=z03 HT.out.ans
 obtain ⟨⟨z0,z1,z2,z3,z4,z5,z6,z7⟩,fz0,fz1,fz2,fz3,fz4,fz5,fz6,fz7⟩:=z03 HT.out.zero
 obtain ⟨c0,c1,c2,f0,f1,f2⟩:=z09 HT.out.ob
 have x0:W1.cell? ⟨w.heap.size,0,none⟩=some (.int .i64 k):=z02 HT.out.ask 0
 have x2:W1.cell? ⟨w.heap.size,2,none⟩=some (.int .i64 ep):=z02 HT.out.ask 2
 have x3:W1.cell? ⟨w.heap.size,3,none⟩=some (.int .i64 pg):=z02 HT.out.ask 3
 go_wp2_with fail
 have HE:=Lh ((((HT.out.set0 ep).set1 pg).set2 true).put 7 (.int .i64 ep))
 go_region
 go_wp2_with fail
 exact z0k (x:=anP 0 0 noT ep) (ao:=none) (cap:=0) rfl (z01 (Below.refl _ _).drew (HE.out.fin ⟨HW.out,HP.out⟩ HG.out).1) rfl rfl ⟨rfl,(HE.out.fin ⟨HW.out,HP.out⟩ HG.out).2.below (ro_thing r) (Below.refl _ _).drew⟩
structure Hd where
 n:Nd
 held:List Ak
def zeroX:An:=anP 0 0 noS 0
def Ak.plain (a:Ak):Ak:=⟨a.kind,a.unit,a.epoch,a.page,a.size,a.n,a.data,a.pe,a.L,none,0⟩
theorem plain_ans (n:Nd) (a:Ak):n.ans a.plain=n.ans a:=rfl
theorem plain_done (n:Nd) (a:Ak):n.done a.plain=n.done a:=rfl
def lessK (l:List Ak) (k:Nat):List Ak:=l.take k ++ l.drop (k+1)
def Hd.heard (h:Hd) (a:Ak) (fate:Int):An:=if fate=0 then h.n.ans a else zeroX
def Hd.asked (h:Hd) (a:Ak) (fate:Int):Hd :=
 if fate=0∨fate=2 then ⟨h.n.done a,h.held⟩ else if fate=3∧h.held.length < 64 then ⟨h.n,h.held ++ [a]⟩ else h
def Hd.has (h:Hd) (k:Int):Bool:=decide (0≤k) && decide (k < h.held.length)
def Hd.does (h:Hd) (k:Int):Hd:=if hk:0≤k∧k < h.held.length then ⟨h.n.done (h.held[k.toNat]'(by omega)),lessK h.held k.toNat⟩ else h
theorem lessK_length {l:List Ak} {k:Nat} (h:k < l.length):(lessK l k).length+1=l.length:=by
 unfold lessK
 rw [List.length_append,List.length_take,List.length_drop]
 omega
theorem lessK_mem {l:List Ak} {k:Nat} {a:Ak} (h:a ∈ lessK l k):a ∈ l:=by
 unfold lessK at h
 rcases List.mem_append.1 h with h | h
 ·exact List.mem_of_mem_take h
 ·exact List.mem_of_mem_drop h
structure OrderSays (OG:Nat→(Nat→Prop)→World→Od→Prop):Prop where
 thing:∀ b,Thing (OG b)
 ok:∀ {b:Nat} {G:Nat→Prop} {w:World} {o:Od},OG b G w o→o.Ok
 new:∀ (w:World),Calls Tryz.prog 91 #[] w fun e w'=>∃ (b:Nat) (G:Nat→Prop),e=.returned (ptrO b)∧OG b G w' newO∧(∀ k,G k→w.heap.size≤k)∧Below w.heap.size w w'
 ask:∀ (b:Nat) (G:Nat→Prop) (w:World) (o:Od) (a:Ak),OG b G w o→AkIn w a→Calls Tryz.prog 93 #[ptrO b,askV a] w fun e w'=>e=.returned (anW (o.ans a).code (o.ans a).n (o.ans a).data (o.ans a).epoch)∧Leaves (OG b) G w w' (o.done a)
section
variable {OG:Nat→(Nat→Prop)→World→Od→Prop} {X:Nat→Prop} {w:World} {b:Nat} {o:Od}
end
end Go.Proofs.YtkefpbcifcjibaaGreat
namespace Go.Proofs.YtkefpbcifcjibaaGreat
open Go.RowKit Go.Maps
theorem pspot_row:(279:TypeId) < Tryz.prog.types.size:=of_decide_eq_true (by kernel_rfl)
theorem pspot_law:Keyed Tryz.prog 279:=Keyed.of_law (deep_law_laid z1q (m:=2) (by omega) pspot_row (by kernel_rfl) (by rw [Tryz.underlying279]))
theorem pspot_succ:∃ n,Tryz.prog.types.size=n+1:=⟨Tryz.prog.types.size - 1,by have h:=Nat.lt_of_le_of_lt (Nat.zero_le _) pspot_row;exact (Nat.succ_pred_eq_of_pos h).symm⟩
def klA (u:Int):Lit:=.string (keyBytes [.int .i64 u])
theorem pspot_key (u:Int) (hu:(Lit.int .i64 u).wf=true):keyOf Tryz.prog 279 (.agg #[.int .i64 u])=some (klA u):=by
 obtain ⟨n,hn⟩:=pspot_succ
 exact key_one Tryz.underlying279 (by kernel_rfl) (by rfl) rfl (by kernel_rfl) Tryz.underlying3 (by kernel_rfl) hn hu
theorem pspot_inv {v:Value} {kl:Lit} (h:keyOf Tryz.prog 279 v=some kl):∃ u,v=.agg #[.int .i64 u]∧(Lit.int .i64 u).wf=true:=by
 obtain ⟨n,hn⟩:=pspot_succ
 exact key_one_inv Tryz.underlying279 (by kernel_rfl) (by rfl) rfl (by kernel_rfl) Tryz.underlying3 (by kernel_rfl) hn h
theorem agg1_inj {u v:Int} (h:(Value.agg #[Value.int .i64 u])=.agg #[.int .i64 v]):u=v:=by simpa using h
theorem klA_inj {u v:Int} (hu:(Lit.int .i64 u).wf=true) (hv:(Lit.int .i64 v).wf=true) (h:klA u=klA v):u=v :=
 agg1_inj (pspot_law.inj (pspot_key u hu) (h ▸ pspot_key v hv))
theorem klA_key {u:Int} (hu:(Lit.int .i64 u).wf=true):WideAt.IsKeyLit (klA u):=pspot_law.key (pspot_key u hu)
def sheetD (k:Int) (s:ByteArray):DataW Unit:=.agg [.lit (.int .i64 k),.lit (.string s.data.toList)]
def sheetR:Value→Option (DataW Unit × List MemPlace)
 | .agg a=>match a.toList with
  | [.int .i64 k,.string s]=>some (sheetD k s,[])
  | _=>none
 | _=>none
theorem sheetR_mk (k:Int) (s:ByteArray):sheetR (.agg #[.int .i64 k,.string s])=some (sheetD k s,[]):=rfl
theorem sheetR_inv {v:Value} {z:DataW Unit × List MemPlace} (h:sheetR v=some z):∃ k s,v=.agg #[.int .i64 k,.string s]∧z=(sheetD k s,[]):=by
 unfold sheetR at h
 split at h
 ·next a =>
  split at h
  ·next i j e =>
   cases h
   refine ⟨i,j,?_,rfl⟩
   rw [← Array.toArray_toList (xs:=a),e]
  ·cases h
 ·cases h
theorem sheetD_inj {k l:Int} {s t:ByteArray} (h:sheetD k s=sheetD l t):k=l∧s=t:=by
 unfold sheetD at h
 simp at h
 exact ⟨h.1,ByteArray.ext h.2⟩
theorem zero_sheet (w:World):(zeroValue 277).run Tryz.prog w=.ok (.agg #[.int .i64 0,.string ⟨#[]⟩]) w:=by kernel_rfl
def kindL (l:List Pg) (a:Int):Int:=match findP l a with | some x=>x.kind | none=>0
def textL (l:List Pg) (a:Int):ByteArray:=match findP l a with | some x=>x.s | none=>⟨#[]⟩
structure Mp (D:DataW Unit) (l:List Pg):Prop where
 tidy:Tidy D
 hs:∀ u,(Lit.int .i64 u).wf=true→Maps.has D (klA u)=decide (u ∈ l.map (·.at_))
 size:Maps.size D=l.length
 tells:∀ x ∈ l,∀ z,D.atKey (klA x.at_) z=sheetD x.kind x.s
 once:(l.map (·.at_)).Nodup
 wf:∀ x ∈ l,(Lit.int .i64 x.at_).wf=true
theorem Mp.nil:Mp (.map []) []:=⟨tidy_empty,fun _ _=>rfl,rfl,fun x hx=>(by cases hx),List.Pairwise.nil,fun x hx=>(by cases hx)⟩
theorem Mp.look {D:DataW Unit} {l:List Pg} (h:Mp D l) {a:Int} (ha:(Lit.int .i64 a).wf=true):D.atKey (klA a) (sheetD 0 ⟨#[]⟩)=sheetD (kindL l a) (textL l a):=by
 unfold kindL textL
 cases e:findP l a with
 | none =>
  have hn:a ∉ l.map (·.at_):=by
   intro hm
   obtain ⟨x,hx,hx2⟩:=List.mem_map.1 hm
   exact findP_none.1 e x hx hx2
  exact atKey_of_not_has (by rw [h.hs a ha];exact decide_eq_false hn) _
 | some x =>
  obtain ⟨h1,h2⟩:=z21 e
  rw [← h2]
  exact h.tells x h1 _
theorem Mp.put {D:DataW Unit} {l:List Pg} (h:Mp D l) {x:Pg} (hx:(Lit.int .i64 x.at_).wf=true) (hn:x.at_ ∉ l.map (·.at_)):Mp (D.put (klA x.at_) (sheetD x.kind x.s)) (l ++ [x]):=by
 have hk:=klA_key hx
 refine ⟨h.tidy.put hk _,fun u hu=>?_,?_,fun y hy z=>?_,?_,fun y hy=>?_⟩
 ·by_cases e:u=x.at_
  ·subst e
   rw [has_put_same h.tidy.isMap hk]
   exact (decide_eq_true (by simp)).symm
  ·rw [has_put_other (fun e2=>e (klA_inj hu hx e2)),h.hs u hu]
   simp [e]
 ·rw [size_put h.tidy,h.hs _ hx,h.size,decide_eq_false hn]
  simp
 ·rcases List.mem_append.1 hy with h1 | h1
  ·have hne:y.at_≠x.at_:=fun e=>hn (e ▸ List.mem_map.2 ⟨y,h1,rfl⟩)
   rw [atKey_put_other (fun e=>hne (klA_inj (h.wf y h1) hx e))]
   exact h.tells y h1 z
  ·rw [List.mem_singleton.1 h1]
   exact atKey_put_same h.tidy.isMap hk _ _
 ·rw [List.map_append,List.nodup_append]
  refine ⟨h.once,by simp,fun a ha b hb e=>?_⟩
  rw [List.map_singleton,List.mem_singleton] at hb
  subst hb
  exact hn (e ▸ ha)
 ·rcases List.mem_append.1 hy with h1 | h1
  ·exact h.wf y h1
  ·rw [List.mem_singleton.1 h1]
   exact hx
def lessP (l:List Pg) (a:Int):List Pg:=l.filter (fun x=>decide (x.at_≠a))
theorem lessP_mem {l:List Pg} {a:Int} {x:Pg}:x ∈ lessP l a↔x ∈ l∧x.at_≠a:=by
 unfold lessP
 simp
theorem lessP_none {l:List Pg} {a:Int} (h:a ∉ l.map (·.at_)):lessP l a=l:=by
 unfold lessP
 rw [List.filter_eq_self]
 intro x hx
 exact decide_eq_true (fun e=>h (List.mem_map.2 ⟨x,hx,e⟩))
theorem lessP_length {l:List Pg} {a:Int} (h:(l.map (·.at_)).Nodup):(lessP l a).length+(if a ∈ l.map (·.at_) then 1 else 0)=l.length:=by
 induction l with
 | nil=>rfl
 | cons x l ih =>
  rw [List.map_cons,List.nodup_cons] at h
  by_cases e:x.at_=a
  ·subst e
   have h1:lessP (x :: l) x.at_=lessP l x.at_:=by
    unfold lessP
    exact List.filter_cons_of_neg (by simp)
   rw [h1,lessP_none h.1,if_pos (by simp)]
   rfl
  ·have h1:lessP (x :: l) a=x :: lessP l a:=by
    unfold lessP
    exact List.filter_cons_of_pos (by simpa using e)
   have h2:=ih h.2
   rw [h1,List.length_cons,List.length_cons]
   by_cases e2:a ∈ l.map (·.at_)
   ·rw [if_pos e2] at h2
    rw [if_pos (show a ∈ (x :: l).map (·.at_) from List.mem_cons_of_mem _ e2)]
    omega
   ·rw [if_neg e2] at h2
    rw [if_neg (show ¬ a ∈ (x :: l).map (·.at_) from fun h3=>by rw [List.map_cons,List.mem_cons] at h3;rcases h3 with h3 | h3;exact e h3.symm;exact e2 h3)]
    omega
theorem Mp.del {D:DataW Unit} {l:List Pg} (h:Mp D l) {a:Int} (ha:(Lit.int .i64 a).wf=true):Mp (D.del (klA a)) (lessP l a):=by
 refine ⟨h.tidy.del _,fun u hu=>?_,?_,fun y hy z=>?_,h.once.sublist ((List.filter_sublist).map _),fun y hy=>h.wf y (lessP_mem.1 hy).1⟩
 ·by_cases e:u=a
  ·subst e
   rw [has_del_same]
   refine (decide_eq_false (fun hm=>?_)).symm
   obtain ⟨x,hx,e⟩:=List.mem_map.1 hm
   exact (lessP_mem.1 hx).2 e
  ·rw [has_del_other (fun e2=>e (klA_inj hu ha e2)),h.hs u hu]
   refine decide_eq_decide.2 ⟨fun hm=>?_,fun hm=>?_⟩
   ·obtain ⟨x,hx,e1⟩:=List.mem_map.1 hm
    exact List.mem_map.2 ⟨x,lessP_mem.2 ⟨hx,by rw [e1];exact e⟩,e1⟩
   ·obtain ⟨x,hx,e1⟩:=List.mem_map.1 hm
    exact List.mem_map.2 ⟨x,(lessP_mem.1 hx).1,e1⟩
 ·have h1:=size_del (k:=klA a) h.tidy
  have h2:=lessP_length (a:=a) h.once
  rw [h.hs a ha,h.size] at h1
  by_cases e:a ∈ l.map (·.at_)
  ·simp [e] at h1 h2
   omega
  ·simp [e] at h1 h2
   omega
 ·obtain ⟨h1,h2⟩:=lessP_mem.1 hy
  rw [atKey_del_other (fun e=>h2 (klA_inj (h.wf y h1) ha e))]
  exact h.tells y h1 z
def Tp (w:World) (b:Nat) (l:List Pg):Prop:=∃ D,w.ownsMap Tryz.prog 279 sheetR b l.length D∧Mp D l
theorem ownsMap_tight {w:World} {b n:Nat} {D:DataW Unit} {k:TypeId} {R:Value→Option (DataW Unit × List MemPlace)} (h:w.ownsMap Tryz.prog k R b n D):w.ownsMap Tryz.prog k R b (Maps.size D) D:=by
 obtain ⟨es,clock,h1,h2,h3,rfl⟩:=h
 exact ⟨es,clock,h1,h2,by rw [size_eq,length_sorted];simp,rfl⟩
theorem Tp.of {w:World} {b n:Nat} {D:DataW Unit} {l:List Pg} (h:w.ownsMap Tryz.prog 279 sheetR b n D) (hM:Mp D l):Tp w b l:=⟨D,by rw [← hM.size];exact ownsMap_tight h,hM⟩
theorem Tp.made (w:World):Tp (w.alloc (.map #[] 0)) w.heap.size []:=⟨_,World.ownsMap_made _ _ _ _,Mp.nil⟩
theorem Tp.keep {w w':World} {b:Nat} {l:List Pg} (h:Tp w b l) (e:w'.heap[b]?=w.heap[b]?):Tp w' b l:=by
 obtain ⟨D,⟨es,clock,h1,h2⟩,h3⟩:=h
 exact ⟨D,⟨es,clock,e.trans h1,h2⟩,h3⟩
theorem Tp.lt {w:World} {b:Nat} {l:List Pg} (h:Tp w b l):b < w.heap.size:=by
 obtain ⟨D,h1,_⟩:=h
 exact h1.lt
theorem Tp.below {w w':World} {b:Nat} {l:List Pg} (h:Tp w b l) (hb:Below w.heap.size w w'):Tp w' b l:=h.keep (hb.block b h.lt)
theorem Tp.look {w:World} {b:Nat} {l:List Pg} (h:Tp w b l) {a:Int} (ha:(Lit.int .i64 a).wf=true):(Instr.lookup 232 (.map (some b)) (.agg #[.int .i64 a]) false).run Tryz.prog w=.ok (.agg #[.int .i64 (kindL l a),.string (textL l a)]) w:=by
 obtain ⟨D,h1,h2⟩:=h
 obtain ⟨v,ps,hr,hv⟩:=h1.lookup pspot_law Tryz.underlying232 (zero_sheet w) (sheetR_mk _ _) (pspot_key a ha)
 rw [h2.look ha] at hv
 obtain ⟨k,s,rfl,e⟩:=sheetR_inv hv
 simp only [Prod.mk.injEq] at e
 obtain ⟨e1,e2⟩:=sheetD_inj e.1
 rw [e1,e2]
 exact hr
theorem Tp.count {w:World} {b:Nat} {l:List Pg} (h:Tp w b l):∀ (ty:TypeId) (W:World),W.heap[b]?=w.heap[b]?→(Builtin.len_ #[232] ty #[.map (some b)]).run Tryz.prog W=.ok (.int .i64 l.length) W:=by
 intro ty W hW
 obtain ⟨D,h1,h2⟩:=h.keep hW
 have h:=h1.len Tryz.underlying232 ty
 rw [h2.size] at h
 exact h
theorem Tp.put {w:World} {b:Nat} {l:List Pg} (h:Tp w b l) {x:Pg} (hx:(Lit.int .i64 x.at_).wf=true) (hn:x.at_ ∉ l.map (·.at_)) (hl:l.length≤100000) :
  ∃ w',(Instr.mapUpdate 232 (.map (some b)) (.agg #[.int .i64 x.at_]) (.agg #[.int .i64 x.kind,.string x.s])).run Tryz.prog w=.ok () w'∧Tp w' b (l ++ [x])∧w.grownBy w' (some b):=by
 obtain ⟨D,h1,h2⟩:=h
 obtain ⟨w',hr,h3,hg⟩:=h1.update pspot_law Tryz.underlying232 (by unfold maxLen;omega) (pspot_key _ hx) (sheetR_mk x.kind x.s)
 exact ⟨w',hr,Tp.of h3 (h2.put hx hn),hg⟩
def PGm (G:Nat→Prop) (w:World) (b:Nat) (p:Ps):Prop:=∃ mb,w.heap[b]?=some (.cells #[.int .i64 p.room,.int .i64 p.edge,.map (some mb)] 234 (0,0))∧Tp w mb p.l∧mb≠b∧G b∧G mb∧∀ k,G k→k < w.heap.size
theorem PGm.lt {G:Nat→Prop} {w:World} {b:Nat} {p:Ps} (h:PGm G w b p):∀ k,G k→k < w.heap.size:=by
 obtain ⟨mb,_,_,_,_,_,h6⟩:=h
 exact h6
theorem PGm.keep {G T:Nat→Prop} {w w':World} {b:Nat} {p:Ps} (h:PGm G w b p) (hk:Kept T w w') (hG:∀ k,G k→T k):PGm G w' b p:=by
 obtain ⟨mb,h1,h2,h3,h4,h5,h6⟩:=h
 exact ⟨mb,hk.heap (hG b h4) h1,h2.keep (hk.block mb (hG mb h5) (h6 mb h5)),h3,h4,h5,fun k hk2=>Nat.lt_of_lt_of_le (h6 k hk2) hk.size⟩
theorem PGm.below {G:Nat→Prop} {w w':World} {b:Nat} {p:Ps} (h:PGm G w b p) (hb:Below w.heap.size w w'):PGm G w' b p:=h.keep (Kept.ofBelow hb (fun _=>True)) (fun _ _=>trivial)
theorem there_wf {a:Int} (h:thereB a=true):(Lit.int .i64 a).wf=true:=by
 have:=thereB_iff.1 h
 exact WalkArith.wf_i64 (by omega)
theorem kindL_of {p:Ps} {a:Int} (ht:thereB a=true) (he:¬ a < p.edge):p.kind a=kindL p.l a:=by
 unfold Ps.kind kindL
 rw [if_pos ht,if_neg he]
 rfl
end Go.Proofs.YtkefpbcifcjibaaGreat
