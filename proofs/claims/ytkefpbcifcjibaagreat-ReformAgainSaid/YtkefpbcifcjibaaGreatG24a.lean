/- Joined texts. -/
import Derived.Deep.AppendSrc
import Derived.Deep.Upon
import Derived.Deep.CutRange
import Derived.Deep.CutBlock
import Derived.Test.YtkefpbcifcjibaaGreatG23a
import Derived.Test.YtkefpbcifcjibaaGreatG23b
import Derived.Test.YtkefpbcifcjibaaGreatG17a
import Derived.Test.YtkefpbcifcjibaaGreatG15a
import Derived.Test.YtkefpbcifcjibaaGreatG11a
import Derived.Test.YtkefpbcifcjibaaGreatG21a
import Derived.Test.YtkefpbcifcjibaaGreatG04a
import Derived.Test.YtkefpbcifcjibaaGreatG14a
import Derived.Test.YtkefpbcifcjibaaGreatG19a
import Derived.Test.YtkefpbcifcjibaaGreatG08a
import Derived.Test.YtkefpbcifcjibaaGreatG10a
import Derived.Test.YtkefpbcifcjibaaGreatG09a
import Derived.Test.YtkefpbcifcjibaaGreatG13a
import Derived.Test.YtkefpbcifcjibaaGreatG22b
import Derived.Test.YtkefpbcifcjibaaGreatH00
set_option linter.unusedVariables false
set_option maxRecDepth 20000
set_option maxHeartbeats 16000000
namespace Go.Proofs.YtkefpbcifcjibaaGreat
open Go.RowKit
theorem step_app_none {ops:Array Oper} {o:Oper} {a:Act} {w:World} {K':Act→World→Prop} {Q:Exit→Act→World→Prop} {E:Prop} (hgd:o.guard=none) (s x:Operand)
  (ho:o.op=Op.call { callee:=Callee.builtin Builtin.append,args:=#[s,x],argTypes:=#[110,110] }) {ao:Option Addr} {n c:Nat} (hs:a.eval s=.slice ao n c) (hc:n≤c) {ad:Addr} {m c2:Nat} (hx:a.eval x=.slice (some ad) m c2) (hm:m=0)
  (hQ:K' (a.put o.dst (.slice ao n c)) w):if Region.wanted o (yielded ops a.tmps)=true then Oper.wp Tryz.prog o a w K' Q else E:=by
 have hw:Region.wanted o (yielded ops a.tmps)=true:=by simp [Region.wanted,hgd]
 rw [if_pos hw]
 subst hm
 obtain ⟨i0,z,bytes,hi,hz0,hz1,hz2,hz3,hz4⟩:=ask_rows.info
 have hr:=run_append_nothing (P:=Tryz.prog) w 110 110 o.type 34 i0 ask_rows.under hi ao n c hc (.slice (some ad) 0 c2) (Src.ofSlice w ask_rows.under ad 0 c2 [] (by simp) (fun j u hj=>by cases hj) (fun u hu=>by cases hu))
 unfold Oper.wp
 simp [execOp,ho,resolve,invoke,builtin,hs,hx,hr,Result.andThen]
 exact hQ
section
variable {NG:Nat→(Nat→Prop)→World→Nd→Prop} {Z:List Ak} {b nb:Nat} {G:Nat→Prop} {w:World} {h:Hd}
theorem Kept.both {S:Nat→Prop} {w w':World} (h:Kept S w w') (hs:w'.heap.size=w.heap.size) (x:Obj):Kept S (w.alloc x) (w'.alloc x):=by
 refine ⟨h.os,h.tape,h.output,by simp [hs],fun k hk hl=>?_⟩
 by_cases e:k=w.heap.size
 ·subst e
  rw [heap_alloc_new w x]
  have:=heap_alloc_new w' x
  rwa [hs] at this
 ·have hl2:k < w.heap.size:=by simp at hl;omega
  rw [heap_alloc_old w x hl2,heap_alloc_old w' x (by omega)]
  exact h.block k hk hl2
theorem leaves_box {α:Type} {T:(Nat→Prop)→World→α→Prop} {G:Nat→Prop} {w W2 w5 w6:World} {s:α} (hT:Thing T) (hlt:∀ k,G k→k < w.heap.size) (hb:Below w.heap.size w W2) (h:Leaves T G W2 w5 s) {q:Nat} (hq:w.heap.size≤q) (hq2:q < W2.heap.size) (hk:Kept (fun k=>k≠q) w5 w6):Leaves T G w w6 s:=by
 obtain ⟨G',t1,k1,s1⟩:=h
 have K5:Kept (fun k=>¬ G k) w w5:=(Kept.ofBelow hb _).trans k1
 refine ⟨G',hT.keep t1 hk (fun k hg e=>?_),⟨hk.os.trans K5.os,hk.tape.trans K5.tape,hk.output.trans K5.output,Nat.le_trans K5.size hk.size,fun k hg hl=>?_⟩,fun k hg=>?_⟩
 ·rcases s1 k hg with h | h
  ·have:=hlt k h;omega
  ·omega
 ·rw [hk.block k (by omega) (Nat.lt_of_lt_of_le hl K5.size)]
  exact K5.block k hg hl
 ·exact (s1 k hg).imp id (fun h=>Nat.le_trans hb.size h)
theorem take_yes (hN:∀ b,Thing (NG b)) (b nb:Nat) (G:Nat→Prop) (w:World) (h:Hd) (k:Nat) (hh:HMz NG [] b nb G w h) (hk:k < h.held.length) :
  Calls Tryz.prog 163 #[.pointer (some ⟨b,0,none⟩),.int .i64 k] w fun e w'=>∃ a:Ak,e=.returned (.tuple #[askV a,.bool true])∧a.plain=h.held[k]∧Leaves (HMz NG [a] b nb) G w w' ⟨h.n,lessK h.held k⟩:=by
 have hlt:=(z0t hN [] b nb).lt hh
 have hbs:=hh.small
 have h64:=hh.1
 obtain ⟨v,l,hc,hR,hm,hok,hGv,hlay⟩:=hh.opened hN
 have hkl:k < l.length:=by rw [← hm,List.length_map] at hk;exact hk
 have hl64:l.length≤64:=by rw [← hm,List.length_map] at h64;exact h64
 have epl:(l[k]).plain=h.held[k]:=by simp only [← hm,List.getElem_map]
 have HLK:=Lh (show (lessK l k).map Ak.plain=lessK h.held k from by rw [plain_less,hm])
 obtain ⟨vo,vc,hv,_,hcap,hno,_,hblk⟩:=hR.form
 obtain ⟨va,rfl⟩:∃ va,vo=some va:=by
  cases vo with
  | none=>have:=hno rfl;omega
  | some a=>exact ⟨a,rfl⟩
 obtain ⟨eva,cur,hcur,hsz,htk⟩:=hblk va rfl
 obtain ⟨g,rfl⟩:∃ g,va=⟨g,0,none⟩:=⟨va.block,eva⟩
 subst hv
 have hcur':w.heap[g]?=some (.cells cur 34 (0,0)):=hcur
 obtain ⟨hgG,hgb⟩:=hGv g rfl
 have hgl:=hlt g hgG
 have HLY:=Lh (fun (W w4:World) (v4:Value) (hW:Below w.heap.size w W) (hk4:Kept (fun j=>j≠g) W w4) (hR4:HR w4 v4 (lessK l k)) (hv4:∀ j,v4.ownBlock=some j→some g=some j∨W.heap.size≤j) =>
  show Leaves (HMz NG [l[k]] b nb) G W (w4.setCell ⟨b,1,none⟩ v4) ⟨h.n,lessK h.held k⟩ from by
   rw [← HLK.out]
   refine hlay W hW w4 v4 (lessK l k) [l[k]] (fun _=>False) (hk4.mono (fun j hj e=>hj (by rw [e];rfl))) hR4 hv4 (fun j hj=>hj.elim) (by have:=lessK_length hkl;omega) (fun x hx=>?_)
   rcases hx with hx | hx
   ·exact .inl (lessK_mem hx)
   ·rw [List.mem_singleton.1 hx]
    exact .inl (List.getElem_mem hkl))
 have HBX:=Lh (fun (W w5 w6:World) (hb:Below w.heap.size w W) (hl:Leaves (HMz NG [l[k]] b nb) G W w5 ⟨h.n,lessK h.held k⟩) (hq:w.heap.size < W.heap.size) (hk6:Kept (fun j=>j≠w.heap.size) w5 w6)=>leaves_box (z0t hN [l[k]] b nb) hlt hb hl (Nat.le_refl _) hq hk6)
 obtain ⟨_,c1,_,_⟩:=z05 hc
 have hx:=fun j hj=>row_at hcur' htk hkl j hj
 have HC:=Lh hc
 have HCU:=Lh hcur'
 have HHD:=Lh (fun cur2 he=>over_head (cur2:=cur2) htk hkl he)
 have HTL:=Lh (fun W W' cur2 h1 h2 he=>over_tail (w:=W) (w':=W') (g:=g) (cur2:=cur2) (k:=k) (t:=34) h1 h2 htk he)
 have HYY:=Lh (fun W h1 j hj=>row_at (w:=W) (g:=g) (t:=34) h1 htk hkl j hj)
 have HLT:=Lh (show (l.take k).length=k from by rw [List.length_take];omega)
 have HLD:=Lh (show (l.drop (k+1)).length=l.length - (k+1) from List.length_drop)
 have HDL:=Lh (show l.take k ++ l.drop (k+1)=lessK l k from rfl)
 have HPL:=Lh epl
 clear hh hc hR hm hok hGv hlay hcur hno hblk h64 eva epl hcur' htk HLK
 generalize l[k]=a at *
 obtain ⟨k0,un,ep,pg,sz,nn,s,pe,L,ao,cap⟩:=a
 have x0:=hx 0 (by omega)
 have x1:=hx 1 (by omega)
 have x2:=hx 2 (by omega)
 have x3:=hx 3 (by omega)
 have x4:=hx 4 (by omega)
 have x5:=hx 5 (by omega)
 have x6:=hx 6 (by omega)
 have x7:=hx 7 (by omega)
 have x8:=hx 8 (by omega)
 simp only [askC,Nat.add_zero,List.getElem?_cons_zero,List.getElem?_cons_succ] at x0 x1 x2 x3 x4 x5 x6 x7 x8
 have i0:IntKind.i64.wrap ((k:Int)+1)=(k:Int)+1:=IntWalk.i64_in _ (by omega)
 have i9:(0:Int)≤(k:Int)+1:=by omega
 have i1:(0:Int)≤(k:Int):=by omega
 have i2:(k:Int) < (l.length:Int):=by omega
 have i3:(k:Int)≤(vc:Int):=by omega
 have i4:(l.length:Int)≤(vc:Int):=by omega
 have i5:(k:Int)+1≤(l.length:Int):=by omega
 have i6:(l.length:Int)≤64:=by omega
 have i7:l.length≤vc:=by omega
 have f0:=z0a HCU.out (k * 9)
 have f1:=z0a HCU.out (k * 9+1)
 have f2:=z0a HCU.out (k * 9+2)
 have f3:=z0a HCU.out (k * 9+3)
 have f4:=z0a HCU.out (k * 9+4)
 have f5:=z0a HCU.out (k * 9+5)
 have f6:=z0a HCU.out (k * 9+6)
 have f7:=z0a HCU.out (k * 9+7)
 have f8:=z0a HCU.out (k * 9+8)
 clear hx
 go_enter Tryz.func163,Tryz.ntmps163
 go_wp2_with fail
 obtain ⟨cur3,o1,o2,o3⟩:=over_heap (w:=w) (o:=k * 9) HCU.out (.int .i64 0) (.int .i64 0) (.int .i64 0) (.int .i64 0) (.int .i64 0) (.int .i64 0) (.string ⟨#[]⟩) (.int .i64 0) (.slice none 0 0)
 have oK:=over_kept w g (k * 9) (.int .i64 0) (.int .i64 0) (.int .i64 0) (.int .i64 0) (.int .i64 0) (.int .i64 0) (.string ⟨#[]⟩) (.int .i64 0) (.slice none 0 0)
 have oS:(World.setCell (World.setCell (World.setCell (World.setCell (World.setCell (World.setCell (World.setCell (World.setCell (World.setCell (w) ⟨g,k * 9,none⟩ (.int .i64 0)) ⟨g,k * 9+1,none⟩ (.int .i64 0)) ⟨g,k * 9+2,none⟩ (.int .i64 0)) ⟨g,k * 9+3,none⟩ (.int .i64 0)) ⟨g,k * 9+4,none⟩ (.int .i64 0)) ⟨g,k * 9+5,none⟩ (.int .i64 0)) ⟨g,k * 9+6,none⟩ (.string ⟨#[]⟩)) ⟨g,k * 9+7,none⟩ (.int .i64 0)) ⟨g,k * 9+8,none⟩ (.slice none 0 0)).heap.size=w.heap.size:=by simp [World.setCell]
 generalize (World.setCell (World.setCell (World.setCell (World.setCell (World.setCell (World.setCell (World.setCell (World.setCell (World.setCell (w) ⟨g,k * 9,none⟩ (.int .i64 0)) ⟨g,k * 9+1,none⟩ (.int .i64 0)) ⟨g,k * 9+2,none⟩ (.int .i64 0)) ⟨g,k * 9+3,none⟩ (.int .i64 0)) ⟨g,k * 9+4,none⟩ (.int .i64 0)) ⟨g,k * 9+5,none⟩ (.int .i64 0)) ⟨g,k * 9+6,none⟩ (.string ⟨#[]⟩)) ⟨g,k * 9+7,none⟩ (.int .i64 0)) ⟨g,k * 9+8,none⟩ (.slice none 0 0))=Wo at *
 obtain ⟨p1,p2⟩:=z0z Wo #[.int .i64 0,.int .i64 0,.int .i64 0,.int .i64 0,.int .i64 0,.int .i64 0,.string ⟨#[]⟩,.int .i64 0,.slice none 0 0] #[.int .i64 k0,.int .i64 un,.int .i64 ep,.int .i64 pg,.int .i64 sz,.int .i64 nn,.string s,.int .i64 pe,.slice ao L.length cap] 34 34
 rw [oS] at p1 p2
 have b3:Below Wo.heap.size Wo ((Wo.alloc (.cells #[.int .i64 0,.int .i64 0,.int .i64 0,.int .i64 0,.int .i64 0,.int .i64 0,.string ⟨#[]⟩,.int .i64 0,.slice none 0 0] 34)).alloc (.cells #[.int .i64 k0,.int .i64 un,.int .i64 ep,.int .i64 pg,.int .i64 sz,.int .i64 nn,.string s,.int .i64 pe,.slice ao L.length cap] 34)):=((Below.refl _ _).alloc (Nat.le_refl _) _).alloc (by simp) _
 have HB2:Below w.heap.size w ((w.alloc (.cells #[.int .i64 0,.int .i64 0,.int .i64 0,.int .i64 0,.int .i64 0,.int .i64 0,.string ⟨#[]⟩,.int .i64 0,.slice none 0 0] 34)).alloc (.cells #[.int .i64 k0,.int .i64 un,.int .i64 ep,.int .i64 pg,.int .i64 sz,.int .i64 nn,.string s,.int .i64 pe,.slice ao L.length cap] 34)):=((Below.refl _ _).alloc (Nat.le_refl _) _).alloc (by simp) _
 have HK3:=(oK.both oS (.cells #[.int .i64 0,.int .i64 0,.int .i64 0,.int .i64 0,.int .i64 0,.int .i64 0,.string ⟨#[]⟩,.int .i64 0,.slice none 0 0] 34)).both (by simp [oS]) (.cells #[.int .i64 k0,.int .i64 un,.int .i64 ep,.int .i64 pg,.int .i64 sz,.int .i64 nn,.string s,.int .i64 pe,.slice ao L.length cap] 34)
 have HG3:=z01 b3 o1
 have HH3:=z01 b3 (oK.heap (b:=b) (fun e=>hgb e.symm) HC.out)
 have s2:((w.alloc (.cells #[.int .i64 0,.int .i64 0,.int .i64 0,.int .i64 0,.int .i64 0,.int .i64 0,.string ⟨#[]⟩,.int .i64 0,.slice none 0 0] 34)).alloc (.cells #[.int .i64 k0,.int .i64 un,.int .i64 ep,.int .i64 pg,.int .i64 sz,.int .i64 nn,.string s,.int .i64 pe,.slice ao L.length cap] 34)).heap.size=w.heap.size+2:=by simp
 have s3:((Wo.alloc (.cells #[.int .i64 0,.int .i64 0,.int .i64 0,.int .i64 0,.int .i64 0,.int .i64 0,.string ⟨#[]⟩,.int .i64 0,.slice none 0 0] 34)).alloc (.cells #[.int .i64 k0,.int .i64 un,.int .i64 ep,.int .i64 pg,.int .i64 sz,.int .i64 nn,.string s,.int .i64 pe,.slice ao L.length cap] 34)).heap.size=w.heap.size+2:=by simp [oS]
 generalize hW2:((w.alloc (.cells #[.int .i64 0,.int .i64 0,.int .i64 0,.int .i64 0,.int .i64 0,.int .i64 0,.string ⟨#[]⟩,.int .i64 0,.slice none 0 0] 34)).alloc (.cells #[.int .i64 k0,.int .i64 un,.int .i64 ep,.int .i64 pg,.int .i64 sz,.int .i64 nn,.string s,.int .i64 pe,.slice ao L.length cap] 34))=W2 at *
 generalize hW3:((Wo.alloc (.cells #[.int .i64 0,.int .i64 0,.int .i64 0,.int .i64 0,.int .i64 0,.int .i64 0,.string ⟨#[]⟩,.int .i64 0,.slice none 0 0] 34)).alloc (.cells #[.int .i64 k0,.int .i64 un,.int .i64 ep,.int .i64 pg,.int .i64 sz,.int .i64 nn,.string s,.int .i64 pe,.slice ao L.length cap] 34))=W3 at *
 have HTAIL:=Lh (HTL.out w W3 cur3 HCU.out HG3 o3)
 have HROW:=Lh (show HR W3.drew (.slice (some ⟨g,0,none⟩) k k) (l.take k) from .inr ⟨g,cur3,by rw [HLT.out],HG3,by rw [HLT.out,o2];omega,by rw [HLT.out];exact HHD.out cur3 o3⟩)
 have HP3:=Lh p1
 have HQ3:=Lh p2
 have HK4:=Lh HK3
 have HB4:=Lh HB2
 have HH4:=Lh HH3
 have hb3:b < W3.heap.size:=by omega
 obtain ⟨_,d1,_,df⟩:=z05 HH3
 clear hW2 hW3 p1 p2 b3 HK3 HB2 HG3 HH3 oK oS o1 o2 o3 x0 x1 x2 x3 x4 x5 x6 x7 x8 f0 f1 f2 f3 f4 f5 f6 f7 f8 c1 hlt HHD HTL HYY HC HCU hsz
 by_cases hlast:k+1=l.length
 ·obtain ⟨qa,hqa⟩:∃ qa:Addr,(if vc=k+1 then some (⟨g,0,none⟩:Addr) else some ⟨g,(k+1) * 9,none⟩)=some qa:=by
   by_cases e:vc=k+1
   ·exact ⟨_,if_pos e⟩
   ·exact ⟨_,if_neg e⟩
  have hm0:=Lh (show l.length - (k+1)=0 from by omega)
  have HL:=Lh (show Leaves (HMz NG [⟨k0,un,ep,pg,sz,nn,s,pe,L,ao,cap⟩] b nb) G W2 (W3.setCell ⟨b,1,none⟩ (.slice (some ⟨g,0,none⟩) k k)).drew ⟨h.n,lessK h.held k⟩ from HLY.out W2 W3.drew (.slice (some ⟨g,0,none⟩) k k) HB4.out HK4.out.drew (by rw [← HDL.out,List.drop_eq_nil_of_le (by omega),List.append_nil];exact HROW.out) (fun j e=>.inl e))
  clear hlast
  have HP5:=Lh ((((Kept.refl (fun j=>j≠b) W3).setCell (p:=⟨b,1,none⟩) (fun h=>h rfl) (Value.slice (some ⟨g,0,none⟩) k k)).drew).heap (b:=w.heap.size) (by omega) HP3.out)
  have HQ5:=Lh ((((Kept.refl (fun j=>j≠b) W3).setCell (p:=⟨b,1,none⟩) (fun h=>h rfl) (Value.slice (some ⟨g,0,none⟩) k k)).drew).heap (b:=w.heap.size+1) (by omega) HQ3.out)
  go_region_law (first | (refine step_app_none rfl (.tmp 44) (.tmp 51) rfl (ao:=some ⟨g,0,none⟩) (n:=k) (c:=k) rfl (Nat.le_refl _) (ad:=qa) (m:=l.length - (k+1)) (c2:=vc - (k+1)) rfl hm0.out ?_))
  all_goals
   generalize hW5:World.drew (World.setCell _ _ _)=W5 at *
   clear hW5
   obtain ⟨⟨y0,y1,y2,y3,y4,y5,y6,y7,y8⟩,z0,z1,z2,z3,z4,z5,z6,z7,z8⟩:=z0g HP5.out
   obtain ⟨⟨t0,t1,t2,t3,t4,t5,t6,t7,t8⟩,_⟩:=z0g HQ5.out
   have l0:=lt_of_block HP5.out
   have l1:=lt_of_block HQ5.out
   go_wp2_with fail
   exact z0o (x:=⟨k0,un,ep,pg,sz,nn,s,pe,L,ao,cap⟩) (c:=true) rfl (z1i HP5.out (.int .i64 k0) (.int .i64 un) (.int .i64 ep) (.int .i64 pg) (.int .i64 sz) (.int .i64 nn) (.string s) (.int .i64 pe) (.slice ao L.length cap)) rfl rfl rfl ⟨_,rfl,HPL.out,HBX.out W2 W5 _ HB4.out HL.out (by omega) (nine_set W5 w.heap.size (.int .i64 k0) (.int .i64 un) (.int .i64 ep) (.int .i64 pg) (.int .i64 sz) (.int .i64 nn) (.string s) (.int .i64 pe) (.slice ao L.length cap))⟩
 ·have hne:¬ vc=k+1:=by omega
  go_region_law (first
   | (refine step_app_held rfl (.tmp 44) (.tmp 51) rfl rfl HROW.out (N:=l.drop (k+1)) (m:=l.length - (k+1)) (ad:=⟨g,(k+1) * 9,none⟩) (cap:=vc - (k+1)) HLD.out rfl (Row.keep HTAIL.out (Kept.refl (fun _=>True) W3).drew (fun _ _=>trivial)) (by omega) (by omega) (by rw [HLT.out];omega) ?_;intro v2 w2 hI hg2 hv2;rw [HDL.out] at hI;obtain ⟨a2,n2,hw2,_,_,_,_,_,_⟩:=hI.form ask_rows;subst hw2;have HL:=Lh (HLY.out W2 w2 _ HB4.out (HK4.out.drew.grown hg2 (fun j e h=>h (Option.some.inj e).symm)) (.inl hI) (fun j e=>(hv2 j e).imp id (fun h=>by have h5:W3.heap.size≤j:=h;omega)));have K24:Kept (fun j=>j≠g) W3 w2:=((Kept.refl _ W3).drew).grown hg2 (fun j e h=>h (Option.some.inj e).symm);have HB5:=Lh (K24.heap (b:=b) (fun e=>hgb e.symm) HH4.out);have qc:=(z05 HB5.out).2.1;have qf:=(z05 HB5.out).2.2.2;have qr:=lt_of_block HB5.out;have HP5:=Lh (((Kept.refl (fun j=>j≠b) w2).setCell (p:=⟨b,1,none⟩) (fun h=>h rfl) (Value.slice a2 (lessK l k).length n2)).heap (b:=w.heap.size) (by omega) (K24.heap (b:=w.heap.size) (by omega) HP3.out));have HQ5:=Lh (((Kept.refl (fun j=>j≠b) w2).setCell (p:=⟨b,1,none⟩) (fun h=>h rfl) (Value.slice a2 (lessK l k).length n2)).heap (b:=w.heap.size+1) (by omega) (K24.heap (b:=w.heap.size+1) (by omega) HQ3.out));clear K24;clear hI hg2 hv2))
  all_goals
   generalize hW5:World.setCell _ _ _=W5 at *
   clear hW5
   obtain ⟨⟨y0,y1,y2,y3,y4,y5,y6,y7,y8⟩,z0,z1,z2,z3,z4,z5,z6,z7,z8⟩:=z0g HP5.out
   obtain ⟨⟨t0,t1,t2,t3,t4,t5,t6,t7,t8⟩,_⟩:=z0g HQ5.out
   have l0:=lt_of_block HP5.out
   have l1:=lt_of_block HQ5.out
   go_wp2_with fail
   exact z0o (x:=⟨k0,un,ep,pg,sz,nn,s,pe,L,ao,cap⟩) (c:=true) rfl (z1i HP5.out (.int .i64 k0) (.int .i64 un) (.int .i64 ep) (.int .i64 pg) (.int .i64 sz) (.int .i64 nn) (.string s) (.int .i64 pe) (.slice ao L.length cap)) rfl rfl rfl ⟨_,rfl,HPL.out,HBX.out W2 W5 _ HB4.out HL.out (by omega) (nine_set W5 w.heap.size (.int .i64 k0) (.int .i64 un) (.int .i64 ep) (.int .i64 pg) (.int .i64 sz) (.int .i64 nn) (.string s) (.int .i64 pe) (.slice ao L.length cap))⟩
end
theorem RfM.cells {w:World} {b:Nat} {G:Nat→Prop} {r:Rf} (h:RfM b G w r):∃ x0 x1 x2 x3 x5 x6 x7:Value,w.heap[b]?=some (.cells #[x0,x1,x2,x3,.int .i64 (r.at_ - 1),x5,x6,x7] 93 (0,0)):=by
 rcases h.2.2 with ⟨e,h⟩ | ⟨_,_,v1,v2,v3,v4,F,h,_⟩
 ·rw [e]
  exact ⟨_,_,_,_,_,_,_,h⟩
 ·exact ⟨_,_,_,_,_,_,_,h⟩
theorem z0q (b:Nat) (G:Nat→Prop) (w:World) (r:Rf) (h:RfM b G w r) :
  Calls Tryz.prog 48 #[ptrP b] w fun e w'=>e=.returned (.bool (decide (r.at_=5)))∧w=w':=by
 have c4:=h.cell4
 have hb:=h.small
 rw [show decide (r.at_=5)=decide (r.at_ - 1=4) from decide_eq_decide.2 (by omega)]
 clear h
 unfold ptrP
 generalize r.at_ - 1=m at *
 by_cases h5:m=4
 ·subst h5
  go_enter Tryz.func48,Tryz.ntmps48
  go_wp2_with fail
  go_ret
  exact ⟨rfl,rfl⟩
 ·have d5:decide (m=4)=false:=decide_eq_false h5
  go_enter Tryz.func48,Tryz.ntmps48
  go_wp2_with fail
  go_ret
  exact ⟨rfl,rfl⟩
theorem mp_isOver_nil (w:World):Calls Tryz.prog 48 #[.pointer none] w fun e w'=>e=.returned (.bool true)∧w=w':=by
 go_enter Tryz.func48,Tryz.ntmps48
 go_wp2_with fail
 go_ret
 exact ⟨rfl,rfl⟩
theorem mp_end (b:Nat) (G:Nat→Prop) (w:World) (r:Rf) (y:Int) (h:RfM b G w r) :
  Calls Tryz.prog 45 #[ptrP b,.int .i64 y] w fun e w'=>e=.returned (.tuple #[])∧Leaves (RfM b) G w w' (r.ends y):=by
 obtain ⟨x0,x1,x2,x3,x5,x6,x7,h1⟩:=h.cells
 obtain ⟨⟨c0,c1,c2,c3,c4,c5,c6,c7⟩,f0,f1,f2,f3,f4,f5,f6,f7⟩:=z03 h1
 have hb:=lt_of_block h1
 have HA:=Lh h
 have H1:=Lh h1
 clear h h1
 unfold ptrP
 go_enter Tryz.func45,Tryz.ntmps45
 go_wp2_with fail
 go_end0
 exact ⟨rfl,HA.out.shuts (r':=r.ends y) (z1n w b _ _ _ _ _ _ _ _) rfl (z1x H1.out _ _ _ _ _ _ _ _)⟩
theorem mp_over (b:Nat) (G:Nat→Prop) (w:World) (r:Rf) (h:RfM b G w r) :
  Calls Tryz.prog 15 #[ptrP b] w fun e w'=>e=.returned (.tuple #[.int .i64 r.overE,.bool r.overB])∧Below w.heap.size w w':=by
 have C:=Lh (z0q b G w r h)
 unfold Rf.overE Rf.overB
 unfold ptrP at *
 by_cases ha:r.at_=5
 ·obtain ⟨⟨c0,c1,c2,c3,c4,c5,c6,c7⟩,_⟩:=z03 (h.shut ha)
  have hb:=h.small
  rw [if_pos ha,decide_eq_true ha]
  rw [decide_eq_true ha] at C
  clear ha h
  go_enter Tryz.func15,Tryz.ntmps15
  go_wp2_with (go_at_call 48;refine C.out.mono ?_;rintro e w1 ⟨rfl,rfl⟩)
  go_ret2
  exact ⟨rfl,Below.refl _ _⟩
 ·rw [if_neg ha,decide_eq_false ha]
  rw [decide_eq_false ha] at C
  clear ha h
  go_enter Tryz.func15,Tryz.ntmps15
  go_wp2_with (go_at_call 48;refine C.out.mono ?_;rintro e w1 ⟨rfl,rfl⟩)
  go_ret2
  exact ⟨rfl,Below.refl _ _⟩
theorem mp_nil_over (w:World):Calls Tryz.prog 15 #[.pointer none] w fun e w'=>e=.returned (.tuple #[.int .i64 1,.bool true])∧Below w.heap.size w w':=by
 go_enter Tryz.func15,Tryz.ntmps15
 go_wp2_with fail
 go_ret2
 exact ⟨rfl,Below.refl _ _⟩
theorem mp_nil_ask (w:World):Calls Tryz.prog 13 #[.pointer none] w fun e w'=>e=.returned (.tuple #[askV zeroK,.bool false])∧Below w.heap.size w w':=by
 have C:=Lh (fun w=>mp_isOver_nil w)
 have HR:=heap_alloc_new w (.cells #[.int .i64 0,.int .i64 0,.int .i64 0,.int .i64 0,.int .i64 0,.int .i64 0,.string ⟨#[]⟩,.int .i64 0,.slice none 0 0] 34)
 have HB:=Lh (z00 w (.cells #[.int .i64 0,.int .i64 0,.int .i64 0,.int .i64 0,.int .i64 0,.int .i64 0,.string ⟨#[]⟩,.int .i64 0,.slice none 0 0] 34))
 go_enter Tryz.func13,Tryz.ntmps13
 go_wp2_with (go_at_call 48;refine (C.out _).mono ?_;rintro e w1 ⟨rfl,rfl⟩)
 exact z0o (x:=zeroK) rfl HR rfl rfl rfl ⟨rfl,HB.out⟩
theorem mp_nil_skip (w:World):Calls Tryz.prog 19 #[.pointer none] w fun e w'=>e=.returned (.bool false)∧Below w.heap.size w w':=by
 have C:=Lh (fun w=>mp_isOver_nil w)
 go_enter Tryz.func19,Tryz.ntmps19
 go_wp2_with fail
 go_quiet ((go_at_call 48;exact quiet_eq (C.out _)))
 go_wp2_with fail
 go_ret
 exact ⟨rfl,below_drewN (Below.refl _ _) _⟩
theorem mp_nil_hear (x:An) (ao:Option Addr) (cap:Nat) (c:Bool) (w:World):Calls Tryz.prog 21 #[.pointer none,ansV x ao cap,.bool c] w fun e w'=>e=.returned (.tuple #[])∧Below w.heap.size w w':=by
 have C:=Lh (fun w=>mp_isOver_nil w)
 obtain ⟨xc,xn,xd,xe,xL,xm,xs,xp⟩:=x
 show Calls _ _ #[.pointer none,.agg #[.int .i64 xc,.int .i64 xn,.string xd,.int .i64 xe,.slice ao xL.length cap,.int .i64 xm,.int .i64 xs,.int .i64 xp],.bool c] w _
 have HB:=Lh (z00 w (.cells #[.int .i64 xc,.int .i64 xn,.string xd,.int .i64 xe,.slice ao xL.length cap,.int .i64 xm,.int .i64 xs,.int .i64 xp] 49))
 obtain ⟨⟨x0,_⟩,_⟩:=z03 (heap_alloc_new w (.cells #[.int .i64 xc,.int .i64 xn,.string xd,.int .i64 xe,.slice ao xL.length cap,.int .i64 xm,.int .i64 xs,.int .i64 xp] 49))
 cases c
 all_goals
  go_enter Tryz.func21,Tryz.ntmps21
  go_wp2_with fail
  generalize w.alloc _=w1 at *
  refine wp_scope_straight ?_
  go_wp2_with (go_at_call 48;refine (C.out _).mono ?_;rintro e w2 ⟨rfl,rfl⟩)
  rw [Exit.noGoto_ret]
  exact bodyPost_ret (results_none rfl _ _ _) rfl ⟨rfl,HB.out⟩
theorem mp_pass (b:Nat) (w:World) (x0 x1 x2 x3 x6 x7:Value) (bk off lc:Nat) (u:Int) (us:List Int) (h1:w.heap[b]?=some (.cells #[x0,x1,x2,x3,.int .i64 1,.slice (some ⟨bk,off,none⟩) (us.length+1) lc,x6,x7] 93 (0,0))) (hN:NLI w (some ⟨bk,off,none⟩) lc (u :: us)) (hl:us.length≤1000) :
  Calls Tryz.prog 53 #[ptrP b] w fun e w'=>e=.returned (.tuple #[])∧Kept (fun k=>k≠b) w w'∧∃ off2:Nat,(off2=off+1∨us=[])∧w'.heap[b]?=some (.cells #[x0,x1,x2,x3,.int .i64 (if us=[] then 2 else 1),.slice (some ⟨bk,off2,none⟩) us.length (lc - 1),x6,x7] 93 (0,0)):=by
 obtain ⟨⟨c0,c1,c2,c3,c4,c5,c6,c7⟩,f0,f1,f2,f3,f4,f5,f6,f7⟩:=z03 h1
 have hb:=lt_of_block h1
 have hc:us.length+1≤lc:=by have:=hN.2.2;simpa using this
 have H1:=Lh h1
 clear h1 hN
 unfold ptrP
 by_cases he:us=[]
 ·subst he
  rw [if_pos rfl]
  by_cases h1:lc=1
  ·subst h1
   go_enter Tryz.func53,Tryz.ntmps53
   go_wp2_with fail
   go_end0
   exact ⟨rfl,((Kept.refl _ w).setCell (p:=⟨b,5,none⟩) (fun h=>h rfl) _).setCell (p:=⟨b,4,none⟩) (fun h=>h rfl) _,off,.inr trivial,z0x (z1a H1.out _) _⟩
  ·go_enter Tryz.func53,Tryz.ntmps53
   go_wp2_with fail
   go_end0
   exact ⟨rfl,((Kept.refl _ w).setCell (p:=⟨b,5,none⟩) (fun h=>h rfl) _).setCell (p:=⟨b,4,none⟩) (fun h=>h rfl) _,off+1,.inl rfl,z0x (z1a H1.out _) _⟩
 ·rw [if_neg he]
  have hp:0 < us.length:=List.length_pos_iff.2 he
  generalize us.length=n at *
  have dn:((n:Int) == 0)=false:=beq_eq_false_iff_ne.2 (by omega)
  have h1:¬ lc=1:=by omega
  go_enter Tryz.func53,Tryz.ntmps53
  go_wp2_with fail
  go_end0
  exact ⟨rfl,(Kept.refl _ w).setCell (p:=⟨b,5,none⟩) (fun h=>h rfl) _,off+1,.inl rfl,z1a H1.out _⟩
structure RunChg (n:Nat) (Inv:Nat→Hd→Rf→Prop):Prop where
 more:∀ k h r,Inv k h r→k≤n+60∧(r.at_≠5→k < n+60)
 used:∀ k h r,Inv k h r→h.n.l.used.length≤100000
 small:∀ k h r,Inv k h r→r.at_≠5→SmR r.ask∧∀ m,FewR r (h.heard r.ask m)
 step:∀ k h r (m:Int),Inv k h r→r.at_≠5→(¬ k < n→m=0)→Inv (k+1) (h.asked r.ask m) (r.turn (h.heard r.ask m) (decide (m=0)))
theorem chg_run {UG:Nat→Nat→(Nat→Prop)→World→Us→Prop} {OG:Nat→(Nat→Prop)→World→Od→Prop} {LG:Nat→(Nat→Prop)→World→Ly→Prop} {NG:Nat→(Nat→Prop)→World→Nd→Prop} {HG:Nat→Nat→(Nat→Prop)→World→Hd→Prop} {RG:Nat→(Nat→Prop)→World→Rf→Prop} (HS:HandSays UG OG LG NG HG) (RS:RfmSays RG)
  (b nb:Nat) (X:Nat→Prop) (w:World) (h0:Hd) (hs:Solo (HG b nb) X w h0) (ep:Int) (he:i64w ep) (L:List (List Int)) (hF:fewL L)
  (ao:Option Addr) (cap:Nat) (hC:CL w ao L) (hn:ao=none→cap=0) (hc:L.length≤cap) (fo:Option Addr) (fc:Nat) (fl:List Int) (hl:fl.length≤60) (hR:∀ W,Kept X w W→Row W fo 1 byteC fl) (hK:∀ x ∈ fl,0≤x∧x < 256)
  (Inv:Nat→Hd→Rf→Prop) (hI:RunChg fl.length Inv) (h0I:Inv 0 h0 (newRf ep L)) :
  Calls Tryz.prog 32 #[.pointer (some ⟨b,0,none⟩),.agg #[.int .i64 ep,.slice ao L.length cap],.slice fo fl.length fc] w fun e w'=>∃ (k:Nat) (h':Hd) (r':Rf),Inv k h' r'∧r'.at_=5∧e=.returned (.tuple #[.int .i64 r'.e,.bool true])∧Solo (HG b nb) X w' h'∧Kept X w w':=by
 have ZZ:=Lh (fun (x:Int) (h:0≤x∧x≤300)=>show i64w x from WalkArith.wf_i64 (by omega))
 have TT:=Lh (fun b nb=>HS.thing b nb)
 have TA:=Lh (fun b=>RS.thing b)
 have HB:=Lh (z00 w (.cells #[.int .i64 ep,.slice ao L.length cap] 24))
 have HP:=Lh (heap_alloc_new w (.cells #[.int .i64 ep,.slice ao L.length cap] 24))
 have HC:=Lh (hC.below HB.out)
 have S1:=Lh (hs.below (TT.out b nb) HB.out)
 have HI:=Lh hI
 have H0:=Lh h0I
 have HF:=Lh hF
 have HR:=Lh hR
 have HK:=Lh hK
 have HNC:=Lh hn
 have HCP:=Lh hc
 have HE:=Lh he
 obtain ⟨p0,p1,_,_⟩:=z05 HP.out
 have hl':(fl.length:Int)≤60:=by omega
 have k41:IntKind.i64.wrap ((fl.length:Int)+60)=(fl.length:Int)+60:=IntWalk.i64_in _ (by omega)
 clear hs hI h0I hF hC hn hc hR hK he
 go_enter Tryz.func32,Tryz.ntmps32
 go_wp2_with (first
  | (go_at_call 10;refine (sr_new RS (TT.out b nb) S1.out HC.out HF.out HNC.out HCP.out HE.out).mono ?_;rintro e w2 ⟨br,rfl,hs2,hb2⟩;have S2:=Lh hs2;have K2:=Lh (Kept.ofBelow (HB.out.trans (hb2.mono HB.out.size)) X);clear hs2 hb2))
 clear p0 p1
 go_loopw [9] (fun i wr=>∃ (k:Nat) (h:Hd) (r:Rf),i=.int .i64 k∧Hid (Inv k h r)∧Hid (Side (HG b nb) (RG br) X wr h r)∧Hid (Kept X w wr)) (fun i _=>fl.length+60 - (intOf i).toNat)
 case atStart=>exact ⟨0,h0,newRf ep L,rfl,H0,S2,K2⟩
 case round =>
  clear S1 S2 K2 H0
  obtain ⟨k,h,r,rfl,HV,HT,HB⟩:=hrel
  have hmo:=(HI.out.more k h r HV.out).1
  obtain ⟨kd,un,qe,pg,kpe,qs,kL,hq⟩:=ask_openR r
  have HQ:=Lh hq
  by_cases h5:r.at_=5
  ·have HAS:=Lh (show r.asks=false from decide_eq_false (fun g=>g h5))
   have H5:=Lh h5
   have OE:=Lh (show r.overE=r.e from if_pos h5)
   have OB:=Lh (show r.overB=true from decide_eq_true h5)
   clear h5 hq
   by_cases hkl:k < fl.length+60
   ·have n1:(k:Int) < (fl.length:Int)+60:=by omega
    go_wp2_with (first
     | (go_at_call 15;refine (sr_over RS (TT.out b nb) T1.out).mono ?_;rw [OE.out,OB.out];rintro e w4 ⟨rfl,hs4,hb4⟩;have T4:=Lh hs4;have V4:=Lh (V1.out.below hb4);clear hs4 hb4)
     | (go_at_call 13;refine (sr_ask RS (TT.out b nb) HT.out HQ.out).mono ?_;rw [HAS.out];rintro e v1 ⟨vo1,vc1,C1,rfl,hC1,hs1,hk1⟩;have T1:=Lh (hs1.below (TT.out b nb) (TA.out br) (z00 v1 (.cells #[.int .i64 kd,.int .i64 un,.int .i64 qe,.int .i64 pg,.int .i64 0,.int .i64 0,.string qs,.int .i64 kpe,.slice vo1 kL.length vc1] 34)));have V1:=Lh ((HB.out.trans hk1).below (z00 v1 (.cells #[.int .i64 kd,.int .i64 un,.int .i64 qe,.int .i64 pg,.int .i64 0,.int .i64 0,.string qs,.int .i64 kpe,.slice vo1 kL.length vc1] 34)));clear hC1 hs1 hk1))
    go_ret2
    exact ⟨k,h,r,HV.out,H5.out,rfl,T4.out.left.less (fun k h=>.inl h),V4.out⟩
   ·have n1:¬ (k:Int) < (fl.length:Int)+60:=by omega
    go_wp2_with (first
     | (go_at_call 15;refine (sr_over RS (TT.out b nb) HT.out).mono ?_;rw [OE.out,OB.out];rintro e w4 ⟨rfl,hs4,hb4⟩;have T4:=Lh hs4;have V4:=Lh (HB.out.below hb4);clear hs4 hb4))
    go_ret2
    exact ⟨k,h,r,HV.out,H5.out,rfl,T4.out.left,V4.out⟩
  ·have HAS:=Lh (show r.asks=true from decide_eq_true h5)
   have hkm:=(HI.out.more k h r HV.out).2 h5
   have k40:(k:Int) < (fl.length:Int)+60:=by omega
   have HSQ:=Lh (show SmR ⟨kd,un,qe,pg,0,0,qs,kpe,kL,none,0⟩ from hq ▸ (HI.out.small k h r HV.out h5).1)
   have HSH:=Lh (HI.out.small k h r HV.out h5).2
   have HU:=Lh (HI.out.used k h r HV.out)
   have HTN:=Lh (fun m hm=>HI.out.step k h r m HV.out h5 hm)
   clear h5 hq
   by_cases hkl:k < fl.length
   ·have n1:(k:Int) < (fl.length:Int):=by omega
    obtain ⟨bk,off,hao,c0⟩:=byte_at (HR.out _ HB.out) hkl
    have CB:=Lh (fun W (hk:Kept X w W)=>(show ∃ bk2 off2,fo=some ⟨bk2,off2,none⟩∧W.cell? ⟨bk2,off2+k,none⟩=some (.int .u8 fl[k]) from byte_at (HR.out W hk) hkl))
    have hv:=HK.out _ (List.getElem_mem hkl)
    generalize fl[k]=v at *
    subst hao
    obtain ⟨v0,v1⟩:=hv
    obtain ⟨m,hm,hm4⟩:∃ m:Nat,v.tmod 4=(m:Int)∧m < 4:=⟨(v % 4).toNat,by rw [Int.tmod_eq_emod_of_nonneg v0];omega,by omega⟩
    have hm0:(0:Int)≤(m:Int)∧(m:Int)≤300:=by omega
    by_cases hz:m=0
    ·have hz2:(m:Int)=0:=by omega
     have HCD:=Lh (show decide ((m:Int)=0)=true from decide_eq_true hz2)
     clear hz hz2
     obtain ⟨xc,xn,xd,pe,xL,xm,xz,xe,hx⟩:∃ xc xn xd pe xL xm xz xe,h.heard r.ask (m:Int)=⟨xc,xn,xd,pe,xL,xm,xz,xe⟩:=⟨_,_,_,_,_,_,_,_,rfl⟩
     have HFX:=Lh (show FewR r ⟨xc,xn,xd,pe,xL,xm,xz,xe⟩ from hx ▸ HSH.out (m:Int))
     have HN2:=Lh (HTN.out (m:Int) (fun g=>absurd hkl g))
     rw [hx,HCD.out] at HN2
     have HX1:=Lh (show h.heard ⟨kd,un,qe,pg,0,0,qs,kpe,kL,none,0⟩ (m:Int)=⟨xc,xn,xd,pe,xL,xm,xz,xe⟩ from HQ.out ▸ hx)
     clear hx
     by_cases h45:xc=45
     ·have e45:(xc == 45)=true:=by simpa using h45
      have H45:=Lh h45
      clear h45
      cases hmy:r.mays with
      | true =>
       have NM:=Lh hmy
       clear hmy
       have HN3:=Lh (show Inv (k+1) (h.asked r.ask (m:Int)) (r.skip) from (by have g:=HN2.out;unfold Rf.turn at g;rw [if_pos ⟨rfl,H45.out,NM.out⟩] at g;exact g))
       go_wp2_with (first
        | (go_at_call 19;refine (sr_skip RS (TT.out b nb) T2.out).mono ?_;rw [NM.out];rintro e v3 ⟨rfl,hs3,hk3⟩;have T3:=Lh hs3;have V3:=Lh (V2.out.trans (hk3.mono (fun k h=>.inl (.inl (.inl h)))));have HC3:=Lh (HC2.out.keep hk3 (fun k h=>.inl (.inr h)));clear hs3 hk3)
        | (go_at_call 41;refine (hs_brings HS (TA.out br) T1.out (a:=⟨kd,un,qe,pg,0,0,qs,kpe,kL,vo1,vc1⟩) (fate:=(m:Int)) (HSQ.out.ok HC1.out) HSQ.out.L HSQ.out.q.data HU.out (ZZ.out (m:Int) (by omega)) HC1.out (fun k h=>.inr h) ((z1g h kd un qe pg kpe qs kL vo1 vc1 (m:Int)).trans HX1.out)).mono ?_;rw [HCD.out];rintro e v2 ⟨vo2,vc2,D,rfl,hC,hs2,hk2⟩;have HC2:=Lh (hC.keep (Kept.ofBelow (z00 v2 (.cells #[.int .i64 xc,.int .i64 xn,.string xd,.int .i64 pe,.slice vo2 xL.length vc2,.int .i64 xm,.int .i64 xz,.int .i64 xe] 49)) (fun _=>True)) (fun _ _=>trivial));have T2:=Lh (hs2.beside (TT.out b nb) (TA.out br) (.cells #[.int .i64 xc,.int .i64 xn,.string xd,.int .i64 pe,.slice vo2 xL.length vc2,.int .i64 xm,.int .i64 xz,.int .i64 xe] 49));have V2:=Lh ((V1.out.trans (hk2.mono (fun k h=>.inl h))).below (z00 v2 (.cells #[.int .i64 xc,.int .i64 xn,.string xd,.int .i64 pe,.slice vo2 xL.length vc2,.int .i64 xm,.int .i64 xz,.int .i64 xe] 49)));clear hs2 hk2 hC)
        | (go_at_call 13;refine (sr_ask RS (TT.out b nb) HT.out HQ.out).mono ?_;rw [HAS.out];rintro e v1 ⟨vo1,vc1,C1,rfl,hC1,hs1,hk1⟩;have HC1:=Lh (hC1.keep (Kept.ofBelow (z00 v1 (.cells #[.int .i64 kd,.int .i64 un,.int .i64 qe,.int .i64 pg,.int .i64 0,.int .i64 0,.string qs,.int .i64 kpe,.slice vo1 kL.length vc1] 34)) (fun _=>True)) (fun _ _=>trivial));have T1:=Lh (hs1.below (TT.out b nb) (TA.out br) (z00 v1 (.cells #[.int .i64 kd,.int .i64 un,.int .i64 qe,.int .i64 pg,.int .i64 0,.int .i64 0,.string qs,.int .i64 kpe,.slice vo1 kL.length vc1] 34)));have V1:=Lh ((HB.out.trans hk1).below (z00 v1 (.cells #[.int .i64 kd,.int .i64 un,.int .i64 qe,.int .i64 pg,.int .i64 0,.int .i64 0,.string qs,.int .i64 kpe,.slice vo1 kL.length vc1] 34)));obtain ⟨bk2,off2,hao2,c9⟩:=CB.out _ V1.out;obtain ⟨rfl,rfl⟩:bk2=bk∧off2=off:=(by simpa using hao2.symm);have hbk:=block_lt_of_cell c9;clear hC1 hs1 hk1))
       refine ⟨⟨k+1,_,_,by go_num,HN3,Lh ?_,V3⟩,by simp [intOf];omega⟩
       rw [HQ.out]
       exact T3.out.less (fun k h=>.inl (.inl (.inl h)))
      | false =>
       have NM:=Lh hmy
       clear hmy
       have HN3:=Lh (show Inv (k+1) (h.asked r.ask (m:Int)) (r.hear ⟨xc,xn,xd,pe,xL,xm,xz,xe⟩ true) from (by have g:=HN2.out;unfold Rf.turn at g;rw [if_neg (fun g=>by have:=g.2.2;rw [NM.out] at this;exact Bool.noConfusion this)] at g;exact g))
       go_wp2_with (first
        | (go_at_call 21;refine (sr_hear RS (TT.out b nb) T3.out HFX.out HC3.out (fun k h=>.inl (.inr h))).mono ?_;rintro e v4 ⟨rfl,hs4,hk4⟩;have T4:=Lh hs4;have V4:=Lh (V3.out.trans (hk4.mono (fun k h=>.inl (.inl (.inl h)))));clear hs4 hk4)
        | (go_at_call 19;refine (sr_skip RS (TT.out b nb) T2.out).mono ?_;rw [NM.out];rintro e v3 ⟨rfl,hs3,hk3⟩;rw [show r.skip=r from if_neg (by rw [NM.out];decide)] at hs3;have T3:=Lh hs3;have V3:=Lh (V2.out.trans (hk3.mono (fun k h=>.inl (.inl (.inl h)))));have HC3:=Lh (HC2.out.keep hk3 (fun k h=>.inl (.inr h)));obtain ⟨⟨e0,e1,e2,e3,e4,e5,e6,e7⟩,f0,f1,f2,f3,f4,f5,f6,f7⟩:=z03 (hk3.heap (.inr rfl) (heap_alloc_new v2 (.cells #[.int .i64 xc,.int .i64 xn,.string xd,.int .i64 pe,.slice vo2 xL.length vc2,.int .i64 xm,.int .i64 xz,.int .i64 xe] 49)));clear hs3 hk3)
        | (go_at_call 41;refine (hs_brings HS (TA.out br) T1.out (a:=⟨kd,un,qe,pg,0,0,qs,kpe,kL,vo1,vc1⟩) (fate:=(m:Int)) (HSQ.out.ok HC1.out) HSQ.out.L HSQ.out.q.data HU.out (ZZ.out (m:Int) (by omega)) HC1.out (fun k h=>.inr h) ((z1g h kd un qe pg kpe qs kL vo1 vc1 (m:Int)).trans HX1.out)).mono ?_;rw [HCD.out];rintro e v2 ⟨vo2,vc2,D,rfl,hC,hs2,hk2⟩;have HC2:=Lh (hC.keep (Kept.ofBelow (z00 v2 (.cells #[.int .i64 xc,.int .i64 xn,.string xd,.int .i64 pe,.slice vo2 xL.length vc2,.int .i64 xm,.int .i64 xz,.int .i64 xe] 49)) (fun _=>True)) (fun _ _=>trivial));have T2:=Lh (hs2.beside (TT.out b nb) (TA.out br) (.cells #[.int .i64 xc,.int .i64 xn,.string xd,.int .i64 pe,.slice vo2 xL.length vc2,.int .i64 xm,.int .i64 xz,.int .i64 xe] 49));have V2:=Lh ((V1.out.trans (hk2.mono (fun k h=>.inl h))).below (z00 v2 (.cells #[.int .i64 xc,.int .i64 xn,.string xd,.int .i64 pe,.slice vo2 xL.length vc2,.int .i64 xm,.int .i64 xz,.int .i64 xe] 49)));clear hs2 hk2 hC)
        | (go_at_call 13;refine (sr_ask RS (TT.out b nb) HT.out HQ.out).mono ?_;rw [HAS.out];rintro e v1 ⟨vo1,vc1,C1,rfl,hC1,hs1,hk1⟩;have HC1:=Lh (hC1.keep (Kept.ofBelow (z00 v1 (.cells #[.int .i64 kd,.int .i64 un,.int .i64 qe,.int .i64 pg,.int .i64 0,.int .i64 0,.string qs,.int .i64 kpe,.slice vo1 kL.length vc1] 34)) (fun _=>True)) (fun _ _=>trivial));have T1:=Lh (hs1.below (TT.out b nb) (TA.out br) (z00 v1 (.cells #[.int .i64 kd,.int .i64 un,.int .i64 qe,.int .i64 pg,.int .i64 0,.int .i64 0,.string qs,.int .i64 kpe,.slice vo1 kL.length vc1] 34)));have V1:=Lh ((HB.out.trans hk1).below (z00 v1 (.cells #[.int .i64 kd,.int .i64 un,.int .i64 qe,.int .i64 pg,.int .i64 0,.int .i64 0,.string qs,.int .i64 kpe,.slice vo1 kL.length vc1] 34)));obtain ⟨bk2,off2,hao2,c9⟩:=CB.out _ V1.out;obtain ⟨rfl,rfl⟩:bk2=bk∧off2=off:=(by simpa using hao2.symm);have hbk:=block_lt_of_cell c9;clear hC1 hs1 hk1))
       refine ⟨⟨k+1,_,_,by go_num,HN3,Lh ?_,V4⟩,by simp [intOf];omega⟩
       rw [HQ.out]
       exact T4.out.less (fun k h=>.inl (.inl (.inl h)))
     ·have e45:(xc == 45)=false:=by simpa using h45
      have N45:=Lh h45
      have H45:=Lh h45
      clear h45
      have HN3:=Lh (show Inv (k+1) (h.asked r.ask (m:Int)) (r.hear ⟨xc,xn,xd,pe,xL,xm,xz,xe⟩ true) from (by have g:=HN2.out;unfold Rf.turn at g;rw [if_neg (fun g=>N45.out g.2.1)] at g;exact g))
      go_wp2_with (first
       | (go_at_call 21;refine (sr_hear RS (TT.out b nb) T2.out HFX.out HC2.out (fun k h=>.inl (.inr h))).mono ?_;rintro e v4 ⟨rfl,hs4,hk4⟩;have T4:=Lh hs4;have V4:=Lh (V2.out.trans (hk4.mono (fun k h=>.inl (.inl (.inl h)))));clear hs4 hk4)
       | (go_at_call 41;refine (hs_brings HS (TA.out br) T1.out (a:=⟨kd,un,qe,pg,0,0,qs,kpe,kL,vo1,vc1⟩) (fate:=(m:Int)) (HSQ.out.ok HC1.out) HSQ.out.L HSQ.out.q.data HU.out (ZZ.out (m:Int) (by omega)) HC1.out (fun k h=>.inr h) ((z1g h kd un qe pg kpe qs kL vo1 vc1 (m:Int)).trans HX1.out)).mono ?_;rw [HCD.out];rintro e v2 ⟨vo2,vc2,D,rfl,hC,hs2,hk2⟩;have HC2:=Lh (hC.keep (Kept.ofBelow (z00 v2 (.cells #[.int .i64 xc,.int .i64 xn,.string xd,.int .i64 pe,.slice vo2 xL.length vc2,.int .i64 xm,.int .i64 xz,.int .i64 xe] 49)) (fun _=>True)) (fun _ _=>trivial));have T2:=Lh (hs2.beside (TT.out b nb) (TA.out br) (.cells #[.int .i64 xc,.int .i64 xn,.string xd,.int .i64 pe,.slice vo2 xL.length vc2,.int .i64 xm,.int .i64 xz,.int .i64 xe] 49));have V2:=Lh ((V1.out.trans (hk2.mono (fun k h=>.inl h))).below (z00 v2 (.cells #[.int .i64 xc,.int .i64 xn,.string xd,.int .i64 pe,.slice vo2 xL.length vc2,.int .i64 xm,.int .i64 xz,.int .i64 xe] 49)));clear hs2 hk2 hC)
       | (go_at_call 13;refine (sr_ask RS (TT.out b nb) HT.out HQ.out).mono ?_;rw [HAS.out];rintro e v1 ⟨vo1,vc1,C1,rfl,hC1,hs1,hk1⟩;have HC1:=Lh (hC1.keep (Kept.ofBelow (z00 v1 (.cells #[.int .i64 kd,.int .i64 un,.int .i64 qe,.int .i64 pg,.int .i64 0,.int .i64 0,.string qs,.int .i64 kpe,.slice vo1 kL.length vc1] 34)) (fun _=>True)) (fun _ _=>trivial));have T1:=Lh (hs1.below (TT.out b nb) (TA.out br) (z00 v1 (.cells #[.int .i64 kd,.int .i64 un,.int .i64 qe,.int .i64 pg,.int .i64 0,.int .i64 0,.string qs,.int .i64 kpe,.slice vo1 kL.length vc1] 34)));have V1:=Lh ((HB.out.trans hk1).below (z00 v1 (.cells #[.int .i64 kd,.int .i64 un,.int .i64 qe,.int .i64 pg,.int .i64 0,.int .i64 0,.string qs,.int .i64 kpe,.slice vo1 kL.length vc1] 34)));obtain ⟨bk2,off2,hao2,c9⟩:=CB.out _ V1.out;obtain ⟨rfl,rfl⟩:bk2=bk∧off2=off:=(by simpa using hao2.symm);have hbk:=block_lt_of_cell c9;clear hC1 hs1 hk1))
      refine ⟨⟨k+1,_,_,by go_num,HN3,Lh ?_,V4⟩,by simp [intOf];omega⟩
      rw [HQ.out]
      exact T4.out.less (fun k h=>.inl (.inl (.inl h)))
    ·have hz2:¬ (m:Int)=0:=by omega
     have HCD:=Lh (show decide ((m:Int)=0)=false from decide_eq_false hz2)
     clear hz hz2
     obtain ⟨xc,xn,xd,pe,xL,xm,xz,xe,hx⟩:∃ xc xn xd pe xL xm xz xe,h.heard r.ask (m:Int)=⟨xc,xn,xd,pe,xL,xm,xz,xe⟩:=⟨_,_,_,_,_,_,_,_,rfl⟩
     have HFX:=Lh (show FewR r ⟨xc,xn,xd,pe,xL,xm,xz,xe⟩ from hx ▸ HSH.out (m:Int))
     have HN2:=Lh (HTN.out (m:Int) (fun g=>absurd hkl g))
     rw [hx,HCD.out] at HN2
     have HX1:=Lh (show h.heard ⟨kd,un,qe,pg,0,0,qs,kpe,kL,none,0⟩ (m:Int)=⟨xc,xn,xd,pe,xL,xm,xz,xe⟩ from HQ.out ▸ hx)
     clear hx
     have HN3:=Lh (show Inv (k+1) (h.asked r.ask (m:Int)) (r.hear ⟨xc,xn,xd,pe,xL,xm,xz,xe⟩ false) from (by have g:=HN2.out;unfold Rf.turn at g;rw [if_neg (fun g=>absurd g.1 (by decide))] at g;exact g))
     go_wp2_with (first
      | (go_at_call 21;refine (sr_hear RS (TT.out b nb) T2.out HFX.out HC2.out (fun k h=>.inl (.inr h))).mono ?_;rintro e v4 ⟨rfl,hs4,hk4⟩;have T4:=Lh hs4;have V4:=Lh (V2.out.trans (hk4.mono (fun k h=>.inl (.inl (.inl h)))));clear hs4 hk4)
      | (go_at_call 41;refine (hs_brings HS (TA.out br) T1.out (a:=⟨kd,un,qe,pg,0,0,qs,kpe,kL,vo1,vc1⟩) (fate:=(m:Int)) (HSQ.out.ok HC1.out) HSQ.out.L HSQ.out.q.data HU.out (ZZ.out (m:Int) (by omega)) HC1.out (fun k h=>.inr h) ((z1g h kd un qe pg kpe qs kL vo1 vc1 (m:Int)).trans HX1.out)).mono ?_;rw [HCD.out];rintro e v2 ⟨vo2,vc2,D,rfl,hC,hs2,hk2⟩;have HC2:=Lh (hC.keep (Kept.ofBelow (z00 v2 (.cells #[.int .i64 xc,.int .i64 xn,.string xd,.int .i64 pe,.slice vo2 xL.length vc2,.int .i64 xm,.int .i64 xz,.int .i64 xe] 49)) (fun _=>True)) (fun _ _=>trivial));have T2:=Lh (hs2.beside (TT.out b nb) (TA.out br) (.cells #[.int .i64 xc,.int .i64 xn,.string xd,.int .i64 pe,.slice vo2 xL.length vc2,.int .i64 xm,.int .i64 xz,.int .i64 xe] 49));have V2:=Lh ((V1.out.trans (hk2.mono (fun k h=>.inl h))).below (z00 v2 (.cells #[.int .i64 xc,.int .i64 xn,.string xd,.int .i64 pe,.slice vo2 xL.length vc2,.int .i64 xm,.int .i64 xz,.int .i64 xe] 49)));clear hs2 hk2 hC)
      | (go_at_call 13;refine (sr_ask RS (TT.out b nb) HT.out HQ.out).mono ?_;rw [HAS.out];rintro e v1 ⟨vo1,vc1,C1,rfl,hC1,hs1,hk1⟩;have HC1:=Lh (hC1.keep (Kept.ofBelow (z00 v1 (.cells #[.int .i64 kd,.int .i64 un,.int .i64 qe,.int .i64 pg,.int .i64 0,.int .i64 0,.string qs,.int .i64 kpe,.slice vo1 kL.length vc1] 34)) (fun _=>True)) (fun _ _=>trivial));have T1:=Lh (hs1.below (TT.out b nb) (TA.out br) (z00 v1 (.cells #[.int .i64 kd,.int .i64 un,.int .i64 qe,.int .i64 pg,.int .i64 0,.int .i64 0,.string qs,.int .i64 kpe,.slice vo1 kL.length vc1] 34)));have V1:=Lh ((HB.out.trans hk1).below (z00 v1 (.cells #[.int .i64 kd,.int .i64 un,.int .i64 qe,.int .i64 pg,.int .i64 0,.int .i64 0,.string qs,.int .i64 kpe,.slice vo1 kL.length vc1] 34)));obtain ⟨bk2,off2,hao2,c9⟩:=CB.out _ V1.out;obtain ⟨rfl,rfl⟩:bk2=bk∧off2=off:=(by simpa using hao2.symm);have hbk:=block_lt_of_cell c9;clear hC1 hs1 hk1))
     refine ⟨⟨k+1,_,_,by go_num,HN3,Lh ?_,V4⟩,by simp [intOf];omega⟩
     rw [HQ.out]
     exact T4.out.less (fun k h=>.inl (.inl (.inl h)))
   ·have n1:¬ (k:Int) < (fl.length:Int):=by omega
    have HCD:=Lh (show decide ((0:Int)=0)=true from rfl)
    obtain ⟨xc,xn,xd,pe,xL,xm,xz,xe,hx⟩:∃ xc xn xd pe xL xm xz xe,h.heard r.ask 0=⟨xc,xn,xd,pe,xL,xm,xz,xe⟩:=⟨_,_,_,_,_,_,_,_,rfl⟩
    have HFX:=Lh (show FewR r ⟨xc,xn,xd,pe,xL,xm,xz,xe⟩ from hx ▸ HSH.out 0)
    have HN2:=Lh (HTN.out 0 (fun _=>rfl))
    rw [hx,HCD.out] at HN2
    have HX1:=Lh (show h.heard ⟨kd,un,qe,pg,0,0,qs,kpe,kL,none,0⟩ 0=⟨xc,xn,xd,pe,xL,xm,xz,xe⟩ from HQ.out ▸ hx)
    clear hx
    by_cases h45:xc=45
    ·have e45:(xc == 45)=true:=by simpa using h45
     have H45:=Lh h45
     clear h45
     cases hmy:r.mays with
     | true =>
      have NM:=Lh hmy
      clear hmy
      have HN3:=Lh (show Inv (k+1) (h.asked r.ask 0) (r.skip) from (by have g:=HN2.out;unfold Rf.turn at g;rw [if_pos ⟨rfl,H45.out,NM.out⟩] at g;exact g))
      go_wp2_with (first
       | (go_at_call 19;refine (sr_skip RS (TT.out b nb) T2.out).mono ?_;rw [NM.out];rintro e v3 ⟨rfl,hs3,hk3⟩;have T3:=Lh hs3;have V3:=Lh (V2.out.trans (hk3.mono (fun k h=>.inl (.inl (.inl h)))));have HC3:=Lh (HC2.out.keep hk3 (fun k h=>.inl (.inr h)));clear hs3 hk3)
       | (go_at_call 41;refine (hs_brings HS (TA.out br) T1.out (a:=⟨kd,un,qe,pg,0,0,qs,kpe,kL,vo1,vc1⟩) (fate:=0) (HSQ.out.ok HC1.out) HSQ.out.L HSQ.out.q.data HU.out (ZZ.out 0 (by omega)) HC1.out (fun k h=>.inr h) ((z1g h kd un qe pg kpe qs kL vo1 vc1 0).trans HX1.out)).mono ?_;rw [show decide ((0:Int)=0)=true from rfl];rintro e v2 ⟨vo2,vc2,D,rfl,hC,hs2,hk2⟩;have HC2:=Lh (hC.keep (Kept.ofBelow (z00 v2 (.cells #[.int .i64 xc,.int .i64 xn,.string xd,.int .i64 pe,.slice vo2 xL.length vc2,.int .i64 xm,.int .i64 xz,.int .i64 xe] 49)) (fun _=>True)) (fun _ _=>trivial));have T2:=Lh (hs2.beside (TT.out b nb) (TA.out br) (.cells #[.int .i64 xc,.int .i64 xn,.string xd,.int .i64 pe,.slice vo2 xL.length vc2,.int .i64 xm,.int .i64 xz,.int .i64 xe] 49));have V2:=Lh ((V1.out.trans (hk2.mono (fun k h=>.inl h))).below (z00 v2 (.cells #[.int .i64 xc,.int .i64 xn,.string xd,.int .i64 pe,.slice vo2 xL.length vc2,.int .i64 xm,.int .i64 xz,.int .i64 xe] 49)));clear hs2 hk2 hC)
       | (go_at_call 13;refine (sr_ask RS (TT.out b nb) HT.out HQ.out).mono ?_;rw [HAS.out];rintro e v1 ⟨vo1,vc1,C1,rfl,hC1,hs1,hk1⟩;have HC1:=Lh (hC1.keep (Kept.ofBelow (z00 v1 (.cells #[.int .i64 kd,.int .i64 un,.int .i64 qe,.int .i64 pg,.int .i64 0,.int .i64 0,.string qs,.int .i64 kpe,.slice vo1 kL.length vc1] 34)) (fun _=>True)) (fun _ _=>trivial));have T1:=Lh (hs1.below (TT.out b nb) (TA.out br) (z00 v1 (.cells #[.int .i64 kd,.int .i64 un,.int .i64 qe,.int .i64 pg,.int .i64 0,.int .i64 0,.string qs,.int .i64 kpe,.slice vo1 kL.length vc1] 34)));have V1:=Lh ((HB.out.trans hk1).below (z00 v1 (.cells #[.int .i64 kd,.int .i64 un,.int .i64 qe,.int .i64 pg,.int .i64 0,.int .i64 0,.string qs,.int .i64 kpe,.slice vo1 kL.length vc1] 34)));clear hC1 hs1 hk1))
      refine ⟨⟨k+1,_,_,by go_num,HN3,Lh ?_,V3⟩,by simp [intOf];omega⟩
      rw [HQ.out]
      exact T3.out.less (fun k h=>.inl (.inl (.inl h)))
     | false =>
      have NM:=Lh hmy
      clear hmy
      have HN3:=Lh (show Inv (k+1) (h.asked r.ask 0) (r.hear ⟨xc,xn,xd,pe,xL,xm,xz,xe⟩ true) from (by have g:=HN2.out;unfold Rf.turn at g;rw [if_neg (fun g=>by have:=g.2.2;rw [NM.out] at this;exact Bool.noConfusion this)] at g;exact g))
      go_wp2_with (first
       | (go_at_call 21;refine (sr_hear RS (TT.out b nb) T3.out HFX.out HC3.out (fun k h=>.inl (.inr h))).mono ?_;rintro e v4 ⟨rfl,hs4,hk4⟩;have T4:=Lh hs4;have V4:=Lh (V3.out.trans (hk4.mono (fun k h=>.inl (.inl (.inl h)))));clear hs4 hk4)
       | (go_at_call 19;refine (sr_skip RS (TT.out b nb) T2.out).mono ?_;rw [NM.out];rintro e v3 ⟨rfl,hs3,hk3⟩;rw [show r.skip=r from if_neg (by rw [NM.out];decide)] at hs3;have T3:=Lh hs3;have V3:=Lh (V2.out.trans (hk3.mono (fun k h=>.inl (.inl (.inl h)))));have HC3:=Lh (HC2.out.keep hk3 (fun k h=>.inl (.inr h)));obtain ⟨⟨e0,e1,e2,e3,e4,e5,e6,e7⟩,f0,f1,f2,f3,f4,f5,f6,f7⟩:=z03 (hk3.heap (.inr rfl) (heap_alloc_new v2 (.cells #[.int .i64 xc,.int .i64 xn,.string xd,.int .i64 pe,.slice vo2 xL.length vc2,.int .i64 xm,.int .i64 xz,.int .i64 xe] 49)));clear hs3 hk3)
       | (go_at_call 41;refine (hs_brings HS (TA.out br) T1.out (a:=⟨kd,un,qe,pg,0,0,qs,kpe,kL,vo1,vc1⟩) (fate:=0) (HSQ.out.ok HC1.out) HSQ.out.L HSQ.out.q.data HU.out (ZZ.out 0 (by omega)) HC1.out (fun k h=>.inr h) ((z1g h kd un qe pg kpe qs kL vo1 vc1 0).trans HX1.out)).mono ?_;rw [show decide ((0:Int)=0)=true from rfl];rintro e v2 ⟨vo2,vc2,D,rfl,hC,hs2,hk2⟩;have HC2:=Lh (hC.keep (Kept.ofBelow (z00 v2 (.cells #[.int .i64 xc,.int .i64 xn,.string xd,.int .i64 pe,.slice vo2 xL.length vc2,.int .i64 xm,.int .i64 xz,.int .i64 xe] 49)) (fun _=>True)) (fun _ _=>trivial));have T2:=Lh (hs2.beside (TT.out b nb) (TA.out br) (.cells #[.int .i64 xc,.int .i64 xn,.string xd,.int .i64 pe,.slice vo2 xL.length vc2,.int .i64 xm,.int .i64 xz,.int .i64 xe] 49));have V2:=Lh ((V1.out.trans (hk2.mono (fun k h=>.inl h))).below (z00 v2 (.cells #[.int .i64 xc,.int .i64 xn,.string xd,.int .i64 pe,.slice vo2 xL.length vc2,.int .i64 xm,.int .i64 xz,.int .i64 xe] 49)));clear hs2 hk2 hC)
       | (go_at_call 13;refine (sr_ask RS (TT.out b nb) HT.out HQ.out).mono ?_;rw [HAS.out];rintro e v1 ⟨vo1,vc1,C1,rfl,hC1,hs1,hk1⟩;have HC1:=Lh (hC1.keep (Kept.ofBelow (z00 v1 (.cells #[.int .i64 kd,.int .i64 un,.int .i64 qe,.int .i64 pg,.int .i64 0,.int .i64 0,.string qs,.int .i64 kpe,.slice vo1 kL.length vc1] 34)) (fun _=>True)) (fun _ _=>trivial));have T1:=Lh (hs1.below (TT.out b nb) (TA.out br) (z00 v1 (.cells #[.int .i64 kd,.int .i64 un,.int .i64 qe,.int .i64 pg,.int .i64 0,.int .i64 0,.string qs,.int .i64 kpe,.slice vo1 kL.length vc1] 34)));have V1:=Lh ((HB.out.trans hk1).below (z00 v1 (.cells #[.int .i64 kd,.int .i64 un,.int .i64 qe,.int .i64 pg,.int .i64 0,.int .i64 0,.string qs,.int .i64 kpe,.slice vo1 kL.length vc1] 34)));clear hC1 hs1 hk1))
      refine ⟨⟨k+1,_,_,by go_num,HN3,Lh ?_,V4⟩,by simp [intOf];omega⟩
      rw [HQ.out]
      exact T4.out.less (fun k h=>.inl (.inl (.inl h)))
    ·have e45:(xc == 45)=false:=by simpa using h45
     have N45:=Lh h45
     have H45:=Lh h45
     clear h45
     have HN3:=Lh (show Inv (k+1) (h.asked r.ask 0) (r.hear ⟨xc,xn,xd,pe,xL,xm,xz,xe⟩ true) from (by have g:=HN2.out;unfold Rf.turn at g;rw [if_neg (fun g=>N45.out g.2.1)] at g;exact g))
     go_wp2_with (first
      | (go_at_call 21;refine (sr_hear RS (TT.out b nb) T2.out HFX.out HC2.out (fun k h=>.inl (.inr h))).mono ?_;rintro e v4 ⟨rfl,hs4,hk4⟩;have T4:=Lh hs4;have V4:=Lh (V2.out.trans (hk4.mono (fun k h=>.inl (.inl (.inl h)))));clear hs4 hk4)
      | (go_at_call 41;refine (hs_brings HS (TA.out br) T1.out (a:=⟨kd,un,qe,pg,0,0,qs,kpe,kL,vo1,vc1⟩) (fate:=0) (HSQ.out.ok HC1.out) HSQ.out.L HSQ.out.q.data HU.out (ZZ.out 0 (by omega)) HC1.out (fun k h=>.inr h) ((z1g h kd un qe pg kpe qs kL vo1 vc1 0).trans HX1.out)).mono ?_;rw [show decide ((0:Int)=0)=true from rfl];rintro e v2 ⟨vo2,vc2,D,rfl,hC,hs2,hk2⟩;have HC2:=Lh (hC.keep (Kept.ofBelow (z00 v2 (.cells #[.int .i64 xc,.int .i64 xn,.string xd,.int .i64 pe,.slice vo2 xL.length vc2,.int .i64 xm,.int .i64 xz,.int .i64 xe] 49)) (fun _=>True)) (fun _ _=>trivial));have T2:=Lh (hs2.beside (TT.out b nb) (TA.out br) (.cells #[.int .i64 xc,.int .i64 xn,.string xd,.int .i64 pe,.slice vo2 xL.length vc2,.int .i64 xm,.int .i64 xz,.int .i64 xe] 49));have V2:=Lh ((V1.out.trans (hk2.mono (fun k h=>.inl h))).below (z00 v2 (.cells #[.int .i64 xc,.int .i64 xn,.string xd,.int .i64 pe,.slice vo2 xL.length vc2,.int .i64 xm,.int .i64 xz,.int .i64 xe] 49)));clear hs2 hk2 hC)
      | (go_at_call 13;refine (sr_ask RS (TT.out b nb) HT.out HQ.out).mono ?_;rw [HAS.out];rintro e v1 ⟨vo1,vc1,C1,rfl,hC1,hs1,hk1⟩;have HC1:=Lh (hC1.keep (Kept.ofBelow (z00 v1 (.cells #[.int .i64 kd,.int .i64 un,.int .i64 qe,.int .i64 pg,.int .i64 0,.int .i64 0,.string qs,.int .i64 kpe,.slice vo1 kL.length vc1] 34)) (fun _=>True)) (fun _ _=>trivial));have T1:=Lh (hs1.below (TT.out b nb) (TA.out br) (z00 v1 (.cells #[.int .i64 kd,.int .i64 un,.int .i64 qe,.int .i64 pg,.int .i64 0,.int .i64 0,.string qs,.int .i64 kpe,.slice vo1 kL.length vc1] 34)));have V1:=Lh ((HB.out.trans hk1).below (z00 v1 (.cells #[.int .i64 kd,.int .i64 un,.int .i64 qe,.int .i64 pg,.int .i64 0,.int .i64 0,.string qs,.int .i64 kpe,.slice vo1 kL.length vc1] 34)));clear hC1 hs1 hk1))
     refine ⟨⟨k+1,_,_,by go_num,HN3,Lh ?_,V4⟩,by simp [intOf];omega⟩
     rw [HQ.out]
     exact T4.out.less (fun k h=>.inl (.inl (.inl h)))
theorem rpcSays:RpcSays UM OM LM (RM UM OM LM):=rpcSays_of ⟨unitSays,orderSays,laySays⟩ (fun w a h=>do_nil w a h)
theorem ap_nil_ask (w:World):Calls Tryz.prog 39 #[.pointer none] w fun e w'=>e=.returned (.tuple #[askV zeroK,.bool false])∧Below w.heap.size w w':=by
 have C:=Lh (fun w=>ap_isOver_nil w)
 have HR:=heap_alloc_new w (.cells #[.int .i64 0,.int .i64 0,.int .i64 0,.int .i64 0,.int .i64 0,.int .i64 0,.string ⟨#[]⟩,.int .i64 0,.slice none 0 0] 34)
 have HB:=Lh (z00 w (.cells #[.int .i64 0,.int .i64 0,.int .i64 0,.int .i64 0,.int .i64 0,.int .i64 0,.string ⟨#[]⟩,.int .i64 0,.slice none 0 0] 34))
 go_enter Tryz.func39,Tryz.ntmps39
 go_wp2_with (go_at_call 72;refine (C.out _).mono ?_;rintro e w1 ⟨rfl,rfl⟩)
 exact z0o (x:=zeroK) rfl HR rfl rfl rfl ⟨rfl,HB.out⟩
theorem ap_nil_hear (x:An) (ao:Option Addr) (cap:Nat) (c:Bool) (w:World):Calls Tryz.prog 40 #[.pointer none,ansV x ao cap,.bool c] w fun e w'=>e=.returned (.tuple #[])∧Below w.heap.size w w':=by
 have C:=Lh (fun w=>ap_isOver_nil w)
 obtain ⟨xc,xn,xd,xe,xL,xm,xs,xp⟩:=x
 show Calls _ _ #[.pointer none,.agg #[.int .i64 xc,.int .i64 xn,.string xd,.int .i64 xe,.slice ao xL.length cap,.int .i64 xm,.int .i64 xs,.int .i64 xp],.bool c] w _
 have HB:=Lh (z00 w (.cells #[.int .i64 xc,.int .i64 xn,.string xd,.int .i64 xe,.slice ao xL.length cap,.int .i64 xm,.int .i64 xs,.int .i64 xp] 49))
 go_enter Tryz.func40,Tryz.ntmps40
 go_wp2_with (go_at_call 72;refine (C.out _).mono ?_;rintro e w1 ⟨rfl,rfl⟩)
 exact bodyPost_ret (results_none rfl _ _ _) rfl ⟨rfl,HB.out⟩
end Go.Proofs.YtkefpbcifcjibaaGreat
