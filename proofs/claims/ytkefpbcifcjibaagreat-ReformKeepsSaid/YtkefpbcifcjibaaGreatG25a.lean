/- Joined texts. -/
import Derived.StillTailTactics
import Derived.Test.YtkefpbcifcjibaaGreatG24a
import Derived.Test.YtkefpbcifcjibaaGreatG23b
import Derived.Test.YtkefpbcifcjibaaGreatG06a
import Derived.Test.YtkefpbcifcjibaaGreatG04a
import Derived.Test.YtkefpbcifcjibaaGreatG08a
import Derived.Test.YtkefpbcifcjibaaGreatG24b
import Derived.Test.YtkefpbcifcjibaaGreatG12a
import Derived.Test.YtkefpbcifcjibaaGreatG16a
import Derived.Test.YtkefpbcifcjibaaGreatH00
set_option linter.unusedVariables false
set_option maxRecDepth 20000
set_option maxHeartbeats 16000000
namespace Go.Proofs.YtkefpbcifcjibaaGreat
open Go.RowKit
theorem leaves_then {β:Type} {U:(Nat→Prop)→World→β→Prop} {G G1:Nat→Prop} {w w2 W:World} {s:β} (h1:Kept (fun k=>¬ G k) w w2) (h3:∀ k,G1 k→G k∨w.heap.size≤k) (h:Leaves U G1 w2 W s):Leaves U G w W s:=by
 obtain ⟨G2,r1,r2,r3⟩:=h
 refine ⟨G2,r1,⟨r2.os.trans h1.os,r2.tape.trans h1.tape,r2.output.trans h1.output,Nat.le_trans h1.size r2.size,fun k hg hkl=>?_⟩,fun k hk=>?_⟩
 ·rw [r2.block k (fun h=>(h3 k h).elim hg (fun h=>by omega)) (Nat.lt_of_lt_of_le hkl h1.size)]
  exact h1.block k hg hkl
 ·rcases r3 k hk with h | h
  ·exact h3 k h
  ·exact .inr (Nat.le_trans h1.size h)
section
variable {UG:Nat→Nat→(Nat→Prop)→World→Us→Prop} {OG:Nat→(Nat→Prop)→World→Od→Prop} {LG:Nat→(Nat→Prop)→World→Ly→Prop} {NG:Nat→(Nat→Prop)→World→Nd→Prop} {b nb:Nat} {G:Nat→Prop} {w:World} {h:Hd}
theorem do_nil_hand (k:Int) (w:World):Calls Tryz.prog 162 #[.pointer none,.int .i64 k] w fun e w'=>e=.returned (.bool false)∧Below w.heap.size w w':=by
 have HT:=Lh (take_nil k w)
 go_enter Tryz.func162,Tryz.ntmps162
 go_wp2_with (go_at_call 163;refine HT.out.mono ?_;rintro e w1 ⟨he,hb1⟩;obtain rfl:e=.returned (.tuple #[.agg #[.int .i64 0,.int .i64 0,.int .i64 0,.int .i64 0,.int .i64 0,.int .i64 0,.string ⟨#[]⟩,.int .i64 0,.slice none 0 0],.bool false]):=he)
 go_ret
 exact ⟨rfl,hb1.trans (z00 w1 _ |>.mono hb1.size)⟩
theorem do_no (b nb:Nat) (G:Nat→Prop) (w:World) (h:Hd) (k:Int) (hh:HMz NG [] b nb G w h) (hk:¬ (0≤k∧k < h.held.length)) :
  Calls Tryz.prog 162 #[.pointer (some ⟨b,0,none⟩),.int .i64 k] w fun e w'=>e=.returned (.bool false)∧Below w.heap.size w w':=by
 have HT:=Lh (take_no b nb G w h k hh hk)
 clear hh hk
 go_enter Tryz.func162,Tryz.ntmps162
 go_wp2_with (go_at_call 163;refine HT.out.mono ?_;rintro e w1 ⟨he,hb1⟩;obtain rfl:e=.returned (.tuple #[.agg #[.int .i64 0,.int .i64 0,.int .i64 0,.int .i64 0,.int .i64 0,.int .i64 0,.string ⟨#[]⟩,.int .i64 0,.slice none 0 0],.bool false]):=he)
 go_ret
 exact ⟨rfl,hb1.trans (z00 w1 _ |>.mono hb1.size)⟩
theorem held_call (S:RpcSays UG OG LG NG) {a:Ak} (hh:HMz NG [a] b nb G w h) (hu:h.n.l.used.length≤100000) :
  Calls Tryz.prog 77 #[.pointer (some ⟨nb,0,none⟩),askV a] w fun e w'=>∃ v,e=.returned v∧Leaves (HMz NG [] b nb) G w w' ⟨h.n.done a,h.held⟩:=by
 obtain ⟨F,hF,hFG,hA,hturn⟩:=hh.turn S.thing
 obtain ⟨ho,hC⟩:=hA a (List.mem_singleton.2 rfl)
 refine (S.ask nb F w h.n a hF ho.ok ho.few ho.data hu hC).mono ?_
 intro e w' ht
 obtain ⟨ao,cap,C,he,hC2,hl⟩:=tells_chained ht
 obtain ⟨G2,r1,r2,r3⟩:=chain_less (hturn C _ _ w' _ hC2 hl)
 exact ⟨_,he,G2,r1.less (fun a ha=>by cases ha),r2,r3⟩
theorem do_yes (S:RpcSays UG OG LG NG) (b nb:Nat) (G:Nat→Prop) (w:World) (h:Hd) (k:Nat) (hh:HMz NG [] b nb G w h) (hk:k < h.held.length) (hu:h.n.l.used.length≤100000) :
  Calls Tryz.prog 162 #[.pointer (some ⟨b,0,none⟩),.int .i64 k] w fun e w'=>e=.returned (.bool true)∧Leaves (HMz NG [] b nb) G w w' ⟨h.n.done h.held[k],lessK h.held k⟩:=by
 have HT:=Lh (take_yes S.thing b nb G w h k hh hk)
 have HU:=Lh hu
 clear hh hu
 go_enter Tryz.func162,Tryz.ntmps162
 go_wp2_with (go_at_call 163;refine HT.out.mono ?_;rintro e w1 ⟨⟨k0,un,ep,pg,sz,nn,s,pe,L,ao,cap⟩,he,hp,hl⟩;obtain rfl:e=.returned (.tuple #[.agg #[.int .i64 k0,.int .i64 un,.int .i64 ep,.int .i64 pg,.int .i64 sz,.int .i64 nn,.string s,.int .i64 pe,.slice ao L.length cap],.bool true]):=he;have HL:=Lh hl;have HP:=Lh hp;clear hl hp)
 obtain ⟨G1,r1,r2,r3⟩:=HL.out
 have hb1:=z00 w1 (.cells #[.int .i64 k0,.int .i64 un,.int .i64 ep,.int .i64 pg,.int .i64 sz,.int .i64 nn,.string s,.int .i64 pe,.slice ao L.length cap] 34)
 have hq:=heap_alloc_new w1 (.cells #[.int .i64 k0,.int .i64 un,.int .i64 ep,.int .i64 pg,.int .i64 sz,.int .i64 nn,.string s,.int .i64 pe,.slice ao L.length cap] 34)
 have t1:=(z0t S.thing [⟨k0,un,ep,pg,sz,nn,s,pe,L,ao,cap⟩] b nb).keep r1 (Kept.ofBelow hb1 (fun _=>True)) (fun _ _=>trivial)
 have HK:=Lh (show Kept (fun j=>¬ G j) w (w1.alloc (.cells #[.int .i64 k0,.int .i64 un,.int .i64 ep,.int .i64 pg,.int .i64 sz,.int .i64 nn,.string s,.int .i64 pe,.slice ao L.length cap] 34)) from r2.below hb1)
 generalize hW2:w1.alloc (.cells #[.int .i64 k0,.int .i64 un,.int .i64 ep,.int .i64 pg,.int .i64 sz,.int .i64 nn,.string s,.int .i64 pe,.slice ao L.length cap] 34)=W2 at *
 clear hW2
 have CP:=Lh (held_call S ((z0t S.thing [⟨k0,un,ep,pg,sz,nn,s,pe,L,ao,cap⟩] b nb).keep t1 (Kept.refl (fun _=>True) W2).drew (fun _ _=>trivial)) HU.out)
 have R3:=Lh r3
 have hb:=t1.small
 obtain ⟨v,l,hc,_⟩:=t1.cells
 have y0:=z02 hc 0
 have hbw:=lt_of_block hq
 obtain ⟨⟨q0,q1,q2,q3,q4,q5,q6,q7,q8⟩,_⟩:=z0g hq
 have y00:W2.cell? ⟨b,0,none⟩=some (.pointer (some ⟨nb,0,none⟩)):=y0
 clear HL HT r1 r2 r3 t1 hc hq y0 hb1
 go_still_tail 5,(by kernel_rfl)
 change wpList _ _ _ _ _ W2.drew
 go_wp2_with fail
 refine CP.out.mono ?_
 rintro e w3 ⟨v2,rfl,hl⟩
 go_wp2_with fail
 go_ret
 refine ⟨rfl,?_⟩
 rw [← HP.out,plain_done]
 exact leaves_then HK.out.drew R3.out hl
end
theorem fp_ask_over (b:Nat) (G:Nat→Prop) (w:World) (q:Qf) (ha:q.at_=6) (h:FQ b G w q) :
  Calls Tryz.prog 67 #[ptrP b] w fun e w'=>e=.returned (.tuple #[askV (zeroK),.bool false])∧Below w.heap.size w w':=by
 have C:=Lh (fun w (h:FQ b G w q)=>z1k b G w q h)
 rw [decide_eq_true ha] at C
 have HB:=Lh (z00 w (.cells #[.int .i64 0,.int .i64 0,.int .i64 0,.int .i64 0,.int .i64 0,.int .i64 0,.string ⟨#[]⟩,.int .i64 0,.slice none 0 0] 34))
 have HZ:=Lh (heap_alloc_new w (.cells #[.int .i64 0,.int .i64 0,.int .i64 0,.int .i64 0,.int .i64 0,.int .i64 0,.string ⟨#[]⟩,.int .i64 0,.slice none 0 0] 34))
 have HA:=Lh (h.below HB.out)
 obtain ⟨ao,cap,h1,_⟩:=HA.out.open
 obtain ⟨⟨c0,c1,c2,c3,c4,c5,c6,c7,c8,c9⟩,_⟩:=ten_of h1
 have hb:=lt_of_block h1
 clear h h1
 unfold ptrP at *
 go_enter Tryz.func67,Tryz.ntmps67
 go_wp2_with (go_at_call 103;refine (C.out _ HA.out).mono ?_;rintro e w1 ⟨rfl,rfl⟩)
 exact z0o (x:=zeroK) rfl HZ.out rfl rfl rfl ⟨rfl,HB.out⟩
theorem fp_ask_lay (b:Nat) (G:Nat→Prop) (w:World) (q:Qf) (ha:q.at_=0∨q.at_=1) (h:FQ b G w q) :
  Calls Tryz.prog 67 #[ptrP b] w fun e w'=>e=.returned (.tuple #[askV (layK),.bool true])∧Below w.heap.size w w':=by
 have C:=Lh (fun w (h:FQ b G w q)=>z1k b G w q h)
 rw [decide_eq_false (p:=q.at_=6) (by omega)] at C
 have CA:=Lh (fun w (h:FQ b G w q)=>fp_asks b G w q h)
 rw [decide_eq_true ha] at CA
 have HB:=Lh (z00 w (.cells #[.int .i64 0,.int .i64 0,.int .i64 0,.int .i64 0,.int .i64 0,.int .i64 0,.string ⟨#[]⟩,.int .i64 0,.slice none 0 0] 34))
 have HZ:=Lh (heap_alloc_new w (.cells #[.int .i64 0,.int .i64 0,.int .i64 0,.int .i64 0,.int .i64 0,.int .i64 0,.string ⟨#[]⟩,.int .i64 0,.slice none 0 0] 34))
 have HA:=Lh (h.below HB.out)
 obtain ⟨ao,cap,h1,_⟩:=HA.out.open
 obtain ⟨⟨c0,c1,c2,c3,c4,c5,c6,c7,c8,c9⟩,_⟩:=ten_of h1
 have hb:=lt_of_block h1
 clear h h1
 unfold ptrP at *
 go_enter Tryz.func67,Tryz.ntmps67
 go_wp2_with (first | (go_at_call 103;refine (C.out _ HA.out).mono ?_;rintro e w1 ⟨rfl,rfl⟩) | (go_at_call 104;refine (CA.out _ HA.out).mono ?_;rintro e w1 ⟨rfl,rfl⟩))
 exact z0o (x:=layK) rfl (heap_alloc_new w (.cells #[.int .i64 9,.int .i64 0,.int .i64 0,.int .i64 0,.int .i64 0,.int .i64 0,.string ⟨#[]⟩,.int .i64 0,.slice none 0 0] 34)) rfl rfl rfl ⟨rfl,z00 w _⟩
theorem fp_ask_read (b:Nat) (G:Nat→Prop) (w:World) (q:Qf) (ha:q.at_=2∨q.at_=3) (hf:fewL q.L) (ho:ofB q.ep q.L q.addr=true) (i:Nat) (hu:q.unit=(i:Int)) (hi:i < (chainR q.ep q.L q.addr).length) (h:FQ b G w q) :
  Calls Tryz.prog 67 #[ptrP b] w fun e w'=>e=.returned (.tuple #[askV (⟨3,(chainR q.ep q.L q.addr).getD i 0,q.ep,ofP q.ep q.L q.addr,0,0,⟨#[]⟩,0,[],none,0⟩),.bool true])∧Below w.heap.size w w':=by
 have C:=Lh (fun w (h:FQ b G w q)=>z1k b G w q h)
 rw [decide_eq_false (p:=q.at_=6) (by omega)] at C
 have CA:=Lh (fun w (h:FQ b G w q)=>fp_asks b G w q h)
 rw [decide_eq_false (p:=q.at_=0∨q.at_=1) (by omega)] at CA
 have HB:=Lh (z00 w (.cells #[.int .i64 0,.int .i64 0,.int .i64 0,.int .i64 0,.int .i64 0,.int .i64 0,.string ⟨#[]⟩,.int .i64 0,.slice none 0 0] 34))
 have HZ:=Lh (heap_alloc_new w (.cells #[.int .i64 0,.int .i64 0,.int .i64 0,.int .i64 0,.int .i64 0,.int .i64 0,.string ⟨#[]⟩,.int .i64 0,.slice none 0 0] 34))
 have HA:=Lh (h.below HB.out)
 obtain ⟨ao,cap,h1,_⟩:=HA.out.open
 obtain ⟨⟨c0,c1,c2,c3,c4,c5,c6,c7,c8,c9⟩,_⟩:=ten_of h1
 have hb:=lt_of_block h1
 have CP:=Lh (fun k w (h:FQ b G w q)=>fp_page b G w q k i h hf ho hu hi)
 generalize (chainR q.ep q.L q.addr).getD i 0=un at *
 generalize ofP q.ep q.L q.addr=pg at *
 clear h h1 hf ho hu hi
 unfold ptrP at *
 rcases ha with ha | ha
 all_goals
  rw [ha] at c4
  go_enter Tryz.func67,Tryz.ntmps67
  go_wp2_with (first | (go_at_call 103;refine (C.out _ HA.out).mono ?_;rintro e w1 ⟨rfl,rfl⟩) | (go_at_call 104;refine (CA.out _ HA.out).mono ?_;rintro e w1 ⟨rfl,rfl⟩) | (go_at_call 105;refine (CP.out _ _ HA.out).mono ?_;rintro e w2 ⟨rfl,hb2⟩;have HZ2:=Lh (z01 hb2 HZ.out);obtain ⟨_,z0,z1,z2,z3,z4,z5,z6,z7,z8⟩:=z0g HZ2.out;have HB2:=Lh (HB.out.trans (hb2.mono HB.out.size));have hz2:=lt_of_block HZ2.out;clear hb2))
  exact z0o (x:=⟨3,un,q.ep,pg,0,0,⟨#[]⟩,0,[],none,0⟩) rfl (z1i HZ2.out _ _ _ _ _ _ _ _ _) rfl rfl rfl ⟨rfl,(((((((((HB2.out.setCell (by simp) _).setCell (by simp) _).setCell (by simp) _).setCell (by simp) _).setCell (by simp) _).setCell (by simp) _).setCell (by simp) _).setCell (by simp) _).setCell (by simp) _)⟩
theorem fp_ask_fill (b:Nat) (G:Nat→Prop) (w:World) (q:Qf) (ha:q.at_=4∨q.at_=5) (hk:q.at_=5→¬ q.kind=1) (hf:fewL q.L) (ho:ofB q.ep q.L q.addr=true) (i:Nat) (hu:q.unit=(i:Int)) (hi:i < (chainR q.ep q.L q.addr).length) (h:FQ b G w q) :
  Calls Tryz.prog 67 #[ptrP b] w fun e w'=>e=.returned (.tuple #[askV (⟨2,(chainR q.ep q.L q.addr).getD i 0,q.ep,ofP q.ep q.L q.addr,0,0,⟨#[]⟩,0,[],none,0⟩),.bool true])∧Below w.heap.size w w':=by
 have C:=Lh (fun w (h:FQ b G w q)=>z1k b G w q h)
 rw [decide_eq_false (p:=q.at_=6) (by omega)] at C
 have CA:=Lh (fun w (h:FQ b G w q)=>fp_asks b G w q h)
 rw [decide_eq_false (p:=q.at_=0∨q.at_=1) (by omega)] at CA
 have HB:=Lh (z00 w (.cells #[.int .i64 0,.int .i64 0,.int .i64 0,.int .i64 0,.int .i64 0,.int .i64 0,.string ⟨#[]⟩,.int .i64 0,.slice none 0 0] 34))
 have HZ:=Lh (heap_alloc_new w (.cells #[.int .i64 0,.int .i64 0,.int .i64 0,.int .i64 0,.int .i64 0,.int .i64 0,.string ⟨#[]⟩,.int .i64 0,.slice none 0 0] 34))
 have HA:=Lh (h.below HB.out)
 obtain ⟨ao,cap,h1,_⟩:=HA.out.open
 obtain ⟨⟨c0,c1,c2,c3,c4,c5,c6,c7,c8,c9⟩,_⟩:=ten_of h1
 have hb:=lt_of_block h1
 have CP:=Lh (fun k w (h:FQ b G w q)=>fp_page b G w q k i h hf ho hu hi)
 generalize (chainR q.ep q.L q.addr).getD i 0=un at *
 generalize ofP q.ep q.L q.addr=pg at *
 clear h h1 hf ho hu hi
 unfold ptrP at *
 rcases ha with ha | ha
 all_goals
  first
   | (have ek:(q.kind == 1)=false:=by simpa using hk ha)
   | skip
  clear hk
  rw [ha] at c4
  go_enter Tryz.func67,Tryz.ntmps67
  go_wp2_with (first | (go_at_call 103;refine (C.out _ HA.out).mono ?_;rintro e w1 ⟨rfl,rfl⟩) | (go_at_call 104;refine (CA.out _ HA.out).mono ?_;rintro e w1 ⟨rfl,rfl⟩) | (go_at_call 105;refine (CP.out _ _ HA.out).mono ?_;rintro e w2 ⟨rfl,hb2⟩;have HZ2:=Lh (z01 hb2 HZ.out);obtain ⟨_,z0,z1,z2,z3,z4,z5,z6,z7,z8⟩:=z0g HZ2.out;have HB2:=Lh (HB.out.trans (hb2.mono HB.out.size));have hz2:=lt_of_block HZ2.out;clear hb2))
  exact z0o (x:=⟨2,un,q.ep,pg,0,0,⟨#[]⟩,0,[],none,0⟩) rfl (z1i HZ2.out _ _ _ _ _ _ _ _ _) rfl rfl rfl ⟨rfl,(((((((((HB2.out.setCell (by simp) _).setCell (by simp) _).setCell (by simp) _).setCell (by simp) _).setCell (by simp) _).setCell (by simp) _).setCell (by simp) _).setCell (by simp) _).setCell (by simp) _)⟩
theorem fp_ask_write (b:Nat) (G:Nat→Prop) (w:World) (q:Qf) (ha:q.at_=5) (hk:q.kind=1) (ht:q.txt.size≤1000000) (hf:fewL q.L) (ho:ofB q.ep q.L q.addr=true) (i:Nat) (hu:q.unit=(i:Int)) (hi:i < (chainR q.ep q.L q.addr).length) (h:FQ b G w q) :
  Calls Tryz.prog 67 #[ptrP b] w fun e w'=>e=.returned (.tuple #[askV (⟨1,(chainR q.ep q.L q.addr).getD i 0,q.ep,ofP q.ep q.L q.addr,0,0,q.txt,0,[],none,0⟩),.bool true])∧Below w.heap.size w w':=by
 have C:=Lh (fun w (h:FQ b G w q)=>z1k b G w q h)
 rw [decide_eq_false (p:=q.at_=6) (by omega)] at C
 have CA:=Lh (fun w (h:FQ b G w q)=>fp_asks b G w q h)
 rw [decide_eq_false (p:=q.at_=0∨q.at_=1) (by omega)] at CA
 have HB:=Lh (z00 w (.cells #[.int .i64 0,.int .i64 0,.int .i64 0,.int .i64 0,.int .i64 0,.int .i64 0,.string ⟨#[]⟩,.int .i64 0,.slice none 0 0] 34))
 have HZ:=Lh (heap_alloc_new w (.cells #[.int .i64 0,.int .i64 0,.int .i64 0,.int .i64 0,.int .i64 0,.int .i64 0,.string ⟨#[]⟩,.int .i64 0,.slice none 0 0] 34))
 have HA:=Lh (h.below HB.out)
 obtain ⟨ao,cap,h1,_⟩:=HA.out.open
 obtain ⟨⟨c0,c1,c2,c3,c4,c5,c6,c7,c8,c9⟩,_⟩:=ten_of h1
 have hb:=lt_of_block h1
 have CP:=Lh (fun k w (h:FQ b G w q)=>fp_page b G w q k i h hf ho hu hi)
 generalize (chainR q.ep q.L q.addr).getD i 0=un at *
 generalize ofP q.ep q.L q.addr=pg at *
 have CL:=Lh (fun w=>clone_any q.txt w (by omega))
 rw [ha] at c4
 rw [hk] at c7
 clear ht
 clear h h1 hf ho hu hi
 unfold ptrP at *
 go_enter Tryz.func67,Tryz.ntmps67
 go_wp2_with (first
  | (go_at_call 103;refine (C.out _ HA.out).mono ?_;rintro e w1 ⟨rfl,rfl⟩) | (go_at_call 104;refine (CA.out _ HA.out).mono ?_;rintro e w1 ⟨rfl,rfl⟩)
  | (go_at_call 105;refine (CP.out _ _ HA.out).mono ?_;rintro e w2 ⟨rfl,hb2⟩;have HZ2:=Lh (z01 hb2 HZ.out);have HA2:=Lh (HA.out.below hb2);have HB2:=Lh (HB.out.trans (hb2.mono HB.out.size));obtain ⟨a2,k2,g2,_⟩:=(HA2.out.below (z00 w2 (.cells #[.int .i64 1,.int .i64 un,.int .i64 q.ep,.int .i64 pg,.int .i64 0,.int .i64 0,.string ⟨#[]⟩,.int .i64 0,.slice none 0 0] 34))).open;obtain ⟨⟨_,_,_,_,_,_,_,_,d8,_⟩,_⟩:=ten_of g2;have hz2:=lt_of_block HZ2.out;clear hb2 g2)
  | (go_at_call 71;refine (CL.out _).mono ?_;rintro e w3 ⟨rfl,hb3⟩;have HQ3:=Lh (z01 hb3 (heap_alloc_new w2 (.cells #[.int .i64 1,.int .i64 un,.int .i64 q.ep,.int .i64 pg,.int .i64 0,.int .i64 0,.string ⟨#[]⟩,.int .i64 0,.slice none 0 0] 34)));have HZ3:=Lh (z01 hb3 (z01 (z00 w2 (.cells #[.int .i64 1,.int .i64 un,.int .i64 q.ep,.int .i64 pg,.int .i64 0,.int .i64 0,.string ⟨#[]⟩,.int .i64 0,.slice none 0 0] 34)) HZ2.out));obtain ⟨_,z0,z1,z2,z3,z4,z5,z6,z7,z8⟩:=z0g HZ3.out;obtain ⟨⟨k0,k1,k2',k3,k4,k5,k6,k7,k8⟩,y0,y1,y2,y3,y4,y5,y6,y7,y8⟩:=z0g HQ3.out;have HB3:=Lh ((HB2.out.alloc HB2.out.size (.cells #[.int .i64 1,.int .i64 un,.int .i64 q.ep,.int .i64 pg,.int .i64 0,.int .i64 0,.string ⟨#[]⟩,.int .i64 0,.slice none 0 0] 34)).trans (hb3.mono (HB2.out.alloc HB2.out.size (.cells #[.int .i64 1,.int .i64 un,.int .i64 q.ep,.int .i64 pg,.int .i64 0,.int .i64 0,.string ⟨#[]⟩,.int .i64 0,.slice none 0 0] 34)).size));have hz3:=lt_of_block HZ3.out;have hq3:=lt_of_block HQ3.out;have hne:¬ w.heap.size=w2.heap.size:=(by omega);clear hb3))
 have HZ4:=Lh (((Kept.refl (fun k=>k≠w2.heap.size) w3).setCell (p:=⟨w2.heap.size,6,none⟩) (fun h=>h rfl) (.string q.txt)).heap hne HZ3.out)
 have HB4:=Lh (HB3.out.setCell (p:=⟨w2.heap.size,6,none⟩) (show w.heap.size≤w2.heap.size by omega) (.string q.txt))
 exact z0o (x:=⟨1,un,q.ep,pg,0,0,q.txt,0,[],none,0⟩) rfl (z1i HZ4.out _ _ _ _ _ _ _ _ _) rfl rfl rfl ⟨rfl,(((((((((HB4.out.setCell (by simp) _).setCell (by simp) _).setCell (by simp) _).setCell (by simp) _).setCell (by simp) _).setCell (by simp) _).setCell (by simp) _).setCell (by simp) _).setCell (by simp) _)⟩
theorem ap_ask_over (b:Nat) (G:Nat→Prop) (w:World) (q:Qa) (h5:q.at_=5) (h:AQ b G w q) :
  Calls Tryz.prog 39 #[ptrP b] w fun e w'=>e=.returned (.tuple #[askV (zeroK),.bool false])∧Below w.heap.size w w':=by
 have C:=Lh (fun w (h:AQ b G w q)=>z0u b G w q h)
 rw [decide_eq_true h5] at C
 have HA:=Lh (h.below (z00 w (.cells #[.int .i64 0,.int .i64 0,.int .i64 0,.int .i64 0,.int .i64 0,.int .i64 0,.string ⟨#[]⟩,.int .i64 0,.slice none 0 0] 34)))
 obtain ⟨ao,cap,h1,_⟩:=HA.out.open
 obtain ⟨⟨c0,c1,c2,c3,c4,c5,c6,c7,c8⟩,_⟩:=z0g h1
 have hb:=lt_of_block h1
 clear h h1
 unfold ptrP at *
 go_enter Tryz.func39,Tryz.ntmps39
 go_wp2_with (go_at_call 72;refine (C.out _ HA.out).mono ?_;rintro e w1 ⟨rfl,rfl⟩)
 exact z0o (x:=zeroK) rfl (heap_alloc_new w (.cells #[.int .i64 0,.int .i64 0,.int .i64 0,.int .i64 0,.int .i64 0,.int .i64 0,.string ⟨#[]⟩,.int .i64 0,.slice none 0 0] 34)) rfl rfl rfl ⟨rfl,z00 w _⟩
theorem ap_ask_token (b:Nat) (G:Nat→Prop) (w:World) (q:Qa) (h2:q.at_=2) (h:AQ b G w q) :
  Calls Tryz.prog 39 #[ptrP b] w fun e w'=>e=.returned (.tuple #[askV (nextK q.ep),.bool true])∧Below w.heap.size w w':=by
 have C:=Lh (fun w (h:AQ b G w q)=>z0u b G w q h)
 rw [decide_eq_false (p:=q.at_=5) (by omega)] at C
 have HA:=Lh (h.below (z00 w (.cells #[.int .i64 0,.int .i64 0,.int .i64 0,.int .i64 0,.int .i64 0,.int .i64 0,.string ⟨#[]⟩,.int .i64 0,.slice none 0 0] 34)))
 obtain ⟨ao,cap,h1,_⟩:=HA.out.open
 obtain ⟨⟨c0,c1,c2,c3,c4,c5,c6,c7,c8⟩,_⟩:=z0g h1
 have hb:=lt_of_block h1
 rw [h2] at c3
 clear h h1
 unfold ptrP at *
 go_enter Tryz.func39,Tryz.ntmps39
 go_wp2_with (go_at_call 72;refine (C.out _ HA.out).mono ?_;rintro e w1 ⟨rfl,rfl⟩)
 exact z0o (x:=nextK q.ep) rfl (heap_alloc_new w (.cells #[.int .i64 6,.int .i64 0,.int .i64 q.ep,.int .i64 0,.int .i64 0,.int .i64 0,.string ⟨#[]⟩,.int .i64 0,.slice none 0 0] 34)) rfl rfl rfl ⟨rfl,z00 w _⟩
theorem ap_ask_lay (b:Nat) (G:Nat→Prop) (w:World) (q:Qa) (n5:¬ q.at_=5) (n2:¬ q.at_=2) (n3:¬ q.at_=3) (n4:¬ q.at_=4) (h:AQ b G w q) :
  Calls Tryz.prog 39 #[ptrP b] w fun e w'=>e=.returned (.tuple #[askV (layK),.bool true])∧Below w.heap.size w w':=by
 have C:=Lh (fun w (h:AQ b G w q)=>z0u b G w q h)
 rw [decide_eq_false n5] at C
 have HA:=Lh (h.below (z00 w (.cells #[.int .i64 0,.int .i64 0,.int .i64 0,.int .i64 0,.int .i64 0,.int .i64 0,.string ⟨#[]⟩,.int .i64 0,.slice none 0 0] 34)))
 obtain ⟨ao,cap,h1,_⟩:=HA.out.open
 obtain ⟨⟨c0,c1,c2,c3,c4,c5,c6,c7,c8⟩,_⟩:=z0g h1
 have hb:=lt_of_block h1
 generalize q.at_=m at *
 clear h h1
 unfold ptrP at *
 go_enter Tryz.func39,Tryz.ntmps39
 go_wp2_with (go_at_call 72;refine (C.out _ HA.out).mono ?_;rintro e w1 ⟨rfl,rfl⟩)
 exact z0o (x:=layK) rfl (heap_alloc_new w (.cells #[.int .i64 9,.int .i64 0,.int .i64 0,.int .i64 0,.int .i64 0,.int .i64 0,.string ⟨#[]⟩,.int .i64 0,.slice none 0 0] 34)) rfl rfl rfl ⟨rfl,z00 w _⟩
theorem ap_ask_look (b:Nat) (G:Nat→Prop) (w:World) (q:Qa) (h4:q.at_=4) (hf:fewL q.L) (ho:ofB q.ep q.L q.addr=true) (i:Nat) (hu:q.unit=(i:Int)) (hi:i < (chainR q.ep q.L q.addr).length) (h:AQ b G w q) :
  Calls Tryz.prog 39 #[ptrP b] w fun e w'=>e=.returned (.tuple #[askV (⟨3,(chainR q.ep q.L q.addr).getD i 0,q.ep,ofP q.ep q.L q.addr,0,0,⟨#[]⟩,0,[],none,0⟩),.bool true])∧Below w.heap.size w w':=by
 have C:=Lh (fun w (h:AQ b G w q)=>z0u b G w q h)
 rw [decide_eq_false (p:=q.at_=5) (by omega)] at C
 have HA:=Lh (h.below (z00 w (.cells #[.int .i64 0,.int .i64 0,.int .i64 0,.int .i64 0,.int .i64 0,.int .i64 0,.string ⟨#[]⟩,.int .i64 0,.slice none 0 0] 34)))
 obtain ⟨ao,cap,h1,_⟩:=HA.out.open
 obtain ⟨⟨c0,c1,c2,c3,c4,c5,c6,c7,c8⟩,_⟩:=z0g h1
 have hb:=lt_of_block h1
 rw [h4] at c3
 have CP:=Lh (fun k w (h:AQ b G w q)=>ap_page b G w q k i h hf ho hu hi)
 have HB:=Lh (z00 w (.cells #[.int .i64 0,.int .i64 0,.int .i64 0,.int .i64 0,.int .i64 0,.int .i64 0,.string ⟨#[]⟩,.int .i64 0,.slice none 0 0] 34))
 have HZ:=Lh (heap_alloc_new w (.cells #[.int .i64 0,.int .i64 0,.int .i64 0,.int .i64 0,.int .i64 0,.int .i64 0,.string ⟨#[]⟩,.int .i64 0,.slice none 0 0] 34))
 generalize (chainR q.ep q.L q.addr).getD i 0=un at *
 generalize ofP q.ep q.L q.addr=pg at *
 clear h h1 hf ho hu hi
 unfold ptrP at *
 go_enter Tryz.func39,Tryz.ntmps39
 go_wp2_with (first
  | (go_at_call 72;refine (C.out _ HA.out).mono ?_;rintro e w1 ⟨rfl,rfl⟩)
  | (go_at_call 73;refine (CP.out _ _ HA.out).mono ?_;rintro e w2 ⟨rfl,hb2⟩;have HZ2:=Lh (z01 hb2 HZ.out);obtain ⟨_,z0,z1,z2,z3,z4,z5,z6,z7,z8⟩:=z0g HZ2.out;have HB2:=Lh (HB.out.trans (hb2.mono HB.out.size));have hz2:=lt_of_block HZ2.out;clear hb2))
 exact z0o (x:=⟨3,un,q.ep,pg,0,0,⟨#[]⟩,0,[],none,0⟩) rfl (z1i HZ2.out _ _ _ _ _ _ _ _ _) rfl rfl rfl ⟨rfl,(((((((((HB2.out.setCell (by simp) _).setCell (by simp) _).setCell (by simp) _).setCell (by simp) _).setCell (by simp) _).setCell (by simp) _).setCell (by simp) _).setCell (by simp) _).setCell (by simp) _)⟩
theorem ap_ask_write (b:Nat) (G:Nat→Prop) (w:World) (q:Qa) (h3:q.at_=3) (ht:q.txt.size≤1000000) (hf:fewL q.L) (ho:ofB q.ep q.L q.addr=true) (i:Nat) (hu:q.unit=(i:Int)) (hi:i < (chainR q.ep q.L q.addr).length) (h:AQ b G w q) :
  Calls Tryz.prog 39 #[ptrP b] w fun e w'=>e=.returned (.tuple #[askV (⟨1,(chainR q.ep q.L q.addr).getD i 0,q.ep,ofP q.ep q.L q.addr,0,0,q.txt,0,[],none,0⟩),.bool true])∧Below w.heap.size w w':=by
 have C:=Lh (fun w (h:AQ b G w q)=>z0u b G w q h)
 rw [decide_eq_false (p:=q.at_=5) (by omega)] at C
 have HA:=Lh (h.below (z00 w (.cells #[.int .i64 0,.int .i64 0,.int .i64 0,.int .i64 0,.int .i64 0,.int .i64 0,.string ⟨#[]⟩,.int .i64 0,.slice none 0 0] 34)))
 obtain ⟨ao,cap,h1,_⟩:=HA.out.open
 obtain ⟨⟨c0,c1,c2,c3,c4,c5,c6,c7,c8⟩,_⟩:=z0g h1
 have hb:=lt_of_block h1
 rw [h3] at c3
 have CP:=Lh (fun k w (h:AQ b G w q)=>ap_page b G w q k i h hf ho hu hi)
 have HB:=Lh (z00 w (.cells #[.int .i64 0,.int .i64 0,.int .i64 0,.int .i64 0,.int .i64 0,.int .i64 0,.string ⟨#[]⟩,.int .i64 0,.slice none 0 0] 34))
 have HZ:=Lh (heap_alloc_new w (.cells #[.int .i64 0,.int .i64 0,.int .i64 0,.int .i64 0,.int .i64 0,.int .i64 0,.string ⟨#[]⟩,.int .i64 0,.slice none 0 0] 34))
 generalize (chainR q.ep q.L q.addr).getD i 0=un at *
 generalize ofP q.ep q.L q.addr=pg at *
 have CL:=Lh (fun w=>clone_any q.txt w (by omega))
 clear h h1 hf ho hu hi ht
 unfold ptrP at *
 go_enter Tryz.func39,Tryz.ntmps39
 go_wp2_with (first
  | (go_at_call 72;refine (C.out _ HA.out).mono ?_;rintro e w1 ⟨rfl,rfl⟩)
  | (go_at_call 73;refine (CP.out _ _ HA.out).mono ?_;rintro e w2 ⟨rfl,hb2⟩;have HZ2:=Lh (z01 hb2 HZ.out);have HA2:=Lh (HA.out.below hb2);have HB2:=Lh (HB.out.trans (hb2.mono HB.out.size));obtain ⟨a2,k2,g2,_⟩:=(HA2.out.below (z00 w2 (.cells #[.int .i64 1,.int .i64 un,.int .i64 q.ep,.int .i64 pg,.int .i64 0,.int .i64 0,.string ⟨#[]⟩,.int .i64 0,.slice none 0 0] 34))).open;obtain ⟨⟨_,_,d2,_⟩,_⟩:=z0g g2;have hz2:=lt_of_block HZ2.out;clear hb2 g2)
  | (go_at_call 71;refine (CL.out _).mono ?_;rintro e w3 ⟨rfl,hb3⟩;have HQ3:=Lh (z01 hb3 (heap_alloc_new w2 (.cells #[.int .i64 1,.int .i64 un,.int .i64 q.ep,.int .i64 pg,.int .i64 0,.int .i64 0,.string ⟨#[]⟩,.int .i64 0,.slice none 0 0] 34)));have HZ3:=Lh (z01 hb3 (z01 (z00 w2 (.cells #[.int .i64 1,.int .i64 un,.int .i64 q.ep,.int .i64 pg,.int .i64 0,.int .i64 0,.string ⟨#[]⟩,.int .i64 0,.slice none 0 0] 34)) HZ2.out));obtain ⟨_,z0,z1,z2,z3,z4,z5,z6,z7,z8⟩:=z0g HZ3.out;obtain ⟨⟨k0,k1,k2',k3,k4,k5,k6,k7,k8⟩,y0,y1,y2,y3,y4,y5,y6,y7,y8⟩:=z0g HQ3.out;have HB3:=Lh ((HB2.out.alloc HB2.out.size (.cells #[.int .i64 1,.int .i64 un,.int .i64 q.ep,.int .i64 pg,.int .i64 0,.int .i64 0,.string ⟨#[]⟩,.int .i64 0,.slice none 0 0] 34)).trans (hb3.mono (HB2.out.alloc HB2.out.size (.cells #[.int .i64 1,.int .i64 un,.int .i64 q.ep,.int .i64 pg,.int .i64 0,.int .i64 0,.string ⟨#[]⟩,.int .i64 0,.slice none 0 0] 34)).size));have hz3:=lt_of_block HZ3.out;have hq3:=lt_of_block HQ3.out;have hne:¬ w.heap.size=w2.heap.size:=(by omega);clear hb3))
 have HZ4:=Lh (((Kept.refl (fun k=>k≠w2.heap.size) w3).setCell (p:=⟨w2.heap.size,6,none⟩) (fun h=>h rfl) (.string q.txt)).heap hne HZ3.out)
 exact z0o (x:=⟨1,un,q.ep,pg,0,0,q.txt,0,[],none,0⟩) rfl (z1i HZ4.out _ _ _ _ _ _ _ _ _) rfl rfl rfl ⟨rfl,((((((((((HB3.out.setCell (p:=⟨w2.heap.size,6,none⟩) (show w.heap.size≤w2.heap.size by omega) _).setCell (by simp) _).setCell (by simp) _).setCell (by simp) _).setCell (by simp) _).setCell (by simp) _).setCell (by simp) _).setCell (by simp) _).setCell (by simp) _).setCell (by simp) _)⟩
theorem chained_at {α:Type} {T:(Nat→Prop)→World→α→Prop} {C G:Nat→Prop} {v:Value} {L:List (List Int)} {w w':World} {s:α} (hT:Thing T) (h:T G w s) (hb:Below w.heap.size w w') (hC:CG C w' v L) (hn:∀ k,C k→w.heap.size≤k∧k < w'.heap.size):Leaves (Chained T C v L) G w w' s:=by
 refine ⟨fun k=>G k∨C k,⟨G,hT.keep h (Kept.ofBelow hb (fun _=>True)) (fun _ _=>trivial),hC,fun k hk=>(hn k hk).2,fun k hk hg=>?_,fun k=>Iff.rfl⟩,Kept.ofBelow hb _,fun k hk=>hk.imp id (fun h=>(hn k h).1)⟩
 have:=hT.lt h k hg
 have:=(hn k hk).1
 omega
theorem told_askR {b:Nat} {G:Nat→Prop} {w w':World} {r:Rf} (h:RfM b G w r) (hb:Below w.heap.size w w') (x:Ak) (hx:r.ask=x) (hL:x.L=[]) (hs:x.size=0∧x.n=0∧x.ao=none∧x.cap=0):ToldBy (askedR r) (RfM b) G w r (anL 0 0 r.ask.L) (.returned (.tuple #[askV x,.bool r.asks])) w':=by
 refine told_plain (Leaves.same (z1v b) h hb) (by show r.ask.L=[];rw [hx];exact hL) ?_
 unfold askedR
 rw [hx]
 obtain ⟨kd,un,ep,pg,sz,n,da,pe,L,ao,cap⟩:=x
 obtain ⟨rfl,rfl,rfl,rfl⟩:=hs
 rfl
theorem me_ask_over (b:Nat) (G:Nat→Prop) (w:World) (r:Rf) (h:RfM b G w r) (ha:r.at_=5) :
  Calls Tryz.prog 13 #[ptrP b] w fun e w'=>ToldBy (askedR r) (RfM b) G w r (anL 0 0 r.ask.L) e w':=by
 have C:=Lh (fun w (h:RfM b G w r)=>z0q b G w r h)
 rw [decide_eq_true ha] at C
 have HB:=Lh (z00 w (.cells #[.int .i64 0,.int .i64 0,.int .i64 0,.int .i64 0,.int .i64 0,.int .i64 0,.string ⟨#[]⟩,.int .i64 0,.slice none 0 0] 34))
 have HZ:=Lh (heap_alloc_new w (.cells #[.int .i64 0,.int .i64 0,.int .i64 0,.int .i64 0,.int .i64 0,.int .i64 0,.string ⟨#[]⟩,.int .i64 0,.slice none 0 0] 34))
 have HA:=Lh (h.below HB.out)
 have HT:=Lh h
 have HK:=Lh (show r.ask=zeroK∧r.asks=false from by unfold Rf.ask Rf.asks;rw [ha];exact ⟨rfl,rfl⟩)
 clear h
 unfold ptrP at *
 go_enter Tryz.func13,Tryz.ntmps13
 go_wp2_with (go_at_call 48;refine (C.out _ HA.out).mono ?_;rintro e w1 ⟨rfl,rfl⟩)
 refine z0o (x:=zeroK) rfl HZ.out rfl rfl rfl ?_
 rw [← HK.out.2]
 exact told_askR HT.out HB.out _ HK.out.1 rfl ⟨rfl,rfl,rfl,rfl⟩
theorem me_ask_lay (b:Nat) (G:Nat→Prop) (w:World) (r:Rf) (h:RfM b G w r) (ha:r.at_=1) :
  Calls Tryz.prog 13 #[ptrP b] w fun e w'=>ToldBy (askedR r) (RfM b) G w r (anL 0 0 r.ask.L) e w':=by
 have C:=Lh (fun w (h:RfM b G w r)=>z0q b G w r h)
 rw [decide_eq_false (p:=r.at_=5) (by omega)] at C
 have HB:=Lh (z00 w (.cells #[.int .i64 0,.int .i64 0,.int .i64 0,.int .i64 0,.int .i64 0,.int .i64 0,.string ⟨#[]⟩,.int .i64 0,.slice none 0 0] 34))
 have HZ:=Lh (heap_alloc_new w (.cells #[.int .i64 0,.int .i64 0,.int .i64 0,.int .i64 0,.int .i64 0,.int .i64 0,.string ⟨#[]⟩,.int .i64 0,.slice none 0 0] 34))
 have HA:=Lh (h.below HB.out)
 have HT:=Lh h
 have HK:=Lh (show r.ask=layK∧r.asks=true from by unfold Rf.ask Rf.asks;rw [ha];exact ⟨rfl,rfl⟩)
 obtain ⟨x0,x1,x2,x3,x5,x6,x7,h1⟩:=HA.out.cells
 obtain ⟨⟨c0,c1,c2,c3,c4,c5,c6,c7⟩,_⟩:=z03 h1
 rw [ha] at c4
 have hb:=lt_of_block h1
 clear h h1
 unfold ptrP at *
 go_enter Tryz.func13,Tryz.ntmps13
 go_wp2_with (go_at_call 48;refine (C.out _ HA.out).mono ?_;rintro e w1 ⟨rfl,rfl⟩)
 refine z0o (x:=layK) rfl (heap_alloc_new w (.cells #[.int .i64 9,.int .i64 0,.int .i64 0,.int .i64 0,.int .i64 0,.int .i64 0,.string ⟨#[]⟩,.int .i64 0,.slice none 0 0] 34)) rfl rfl rfl ?_
 rw [← HK.out.2]
 exact told_askR HT.out (z00 w _) _ HK.out.1 rfl ⟨rfl,rfl,rfl,rfl⟩
theorem me_ask_chg (b:Nat) (G:Nat→Prop) (w:World) (r:Rf) (h:RfM b G w r) (ha:r.at_=3) :
  Calls Tryz.prog 13 #[ptrP b] w fun e w'=>ToldBy (askedR r) (RfM b) G w r (anL 0 0 r.ask.L) e w':=by
 have C:=Lh (fun w (h:RfM b G w r)=>z0q b G w r h)
 rw [decide_eq_false (p:=r.at_=5) (by omega)] at C
 have HB:=Lh (z00 w (.cells #[.int .i64 0,.int .i64 0,.int .i64 0,.int .i64 0,.int .i64 0,.int .i64 0,.string ⟨#[]⟩,.int .i64 0,.slice none 0 0] 34))
 have HZ:=Lh (heap_alloc_new w (.cells #[.int .i64 0,.int .i64 0,.int .i64 0,.int .i64 0,.int .i64 0,.int .i64 0,.string ⟨#[]⟩,.int .i64 0,.slice none 0 0] 34))
 have HA:=Lh (h.below HB.out)
 have HT:=Lh h
 have HK:=Lh (show r.ask=chgK r.qe r.qL∧r.asks=true from by unfold Rf.ask Rf.asks;rw [ha];exact ⟨rfl,rfl⟩)
 obtain ⟨hok,v1,v2,v3,v4,F,h1,⟨hq,ho,hl⟩,_,_⟩:=HA.out.open (by omega)
 obtain ⟨a1,n1,rfl,q1,_,_⟩:=(id hq).cl
 obtain ⟨⟨c0,c1,c2,c3,c4,c5,c6,c7⟩,_⟩:=z03 h1
 rw [ha] at c4
 have hb:=lt_of_block h1
 have HC:=Lh q1
 have CC:=Lh (fun W (hC:CL W a1 r.qL)=>z14 r.qe a1 n1 r.qL W hC hok.qf)
 have hs1:(w.alloc (.cells #[.int .i64 0,.int .i64 0,.int .i64 0,.int .i64 0,.int .i64 0,.int .i64 0,.string ⟨#[]⟩,.int .i64 0,.slice none 0 0] 34)).heap.size=w.heap.size+1:=by simp
 have HS1:=Lh hs1
 clear h h1 hq ho hl q1 hs1 hok
 unfold ptrP at *
 go_enter Tryz.func13,Tryz.ntmps13
 go_wp2_with (first | (go_at_call 48;refine (C.out _ HA.out).mono ?_;rintro e w1 ⟨rfl,rfl⟩) | (go_at_call 46;refine (CC.out _ HC.out).mono ?_;rintro e w3 ⟨v,rfl,hO,hb3⟩;obtain ⟨vo,vc,hv,_⟩:=hO.form;subst hv;have HO:=Lh hO;have HB3:=Lh (HB.out.trans (hb3.mono HB.out.size));have HX3:=Lh hb3.size;have HR:=Lh (z01 hb3 HZ.out);obtain ⟨⟨z0,z1,z2,z3,z4,z5,z6,z7,z8⟩,g0,g1,g2,g3,g4,g5,g6,g7,g8⟩:=z0g HR.out;have hg:=lt_of_block HR.out;clear hO hb3))
 refine z0o (x:=⟨10,0,0,0,0,0,⟨#[]⟩,r.qe,r.qL,vo,vc⟩) rfl (z1i HR.out (.int .i64 10) (.int .i64 0) (.int .i64 0) (.int .i64 0) (.int .i64 0) (.int .i64 0) (.string ⟨#[]⟩) (.int .i64 r.qe) (.slice vo r.qL.length vc)) rfl rfl rfl ?_
 have HKP:=nine_set w3 w.heap.size (.int .i64 10) (.int .i64 0) (.int .i64 0) (.int .i64 0) (.int .i64 0) (.int .i64 0) (.string ⟨#[]⟩) (.int .i64 r.qe) (.slice vo r.qL.length vc)
 have hx3:=HX3.out
 have hs:=HS1.out
 rw [hs] at hx3
 have HBW:=HB3.out.trans (kept_low HKP (B:=w.heap.size) (fun k hk=>Nat.ne_of_lt hk) HB3.out.size)
 have hCG:=((CG.of HO.out).keep HKP (fun k hk=>by have h1:=hk.1;rw [hs] at h1;omega))
 have hsz:=HKP.size
 generalize (World.setCell w3 _ _).setCell _ _=W9 at *
 refine ⟨vo,vc,fun k=>w.heap.size+1≤k∧k < w3.heap.size,?_,fun k hk=>by have:=hk.1;omega,?_⟩
 ·unfold askedR
  rw [HK.out.1,HK.out.2]
  rfl
 ·show Leaves (Chained (RfM b) _ (.slice vo r.ask.L.length vc) r.ask.L) G w _ r
  rw [HK.out.1]
  exact chained_at (z1v b) HT.out HBW (hCG.mono (fun k hk=>⟨by have:=hk.1;rw [hs] at this;exact this,hk.2⟩)) (fun k hk=>⟨by have:=hk.1;omega,Nat.lt_of_lt_of_le hk.2 hsz⟩)
theorem z16 {ep:Int} {L:List (List Int)} (h:goodB ep L=true):fewL L∧i64w ep:=by
 obtain ⟨h1,h2,h3,_⟩:=goodB_iff.1 h
 exact ⟨⟨by omega,fun c hc=>by have:=(chainB_iff.1 (h3 c hc)).1;omega⟩,z04 (by omega)⟩
theorem z1y {x:An} (hL:x.L=[]) (hp:x.pe=0) (hd:x.data.size≤1000000):FewX x:=⟨by rw [hL];exact few_nil,by rw [hp];exact z04 (by omega),hd⟩
theorem fewX_ans (n:Nd) (k:Ak) (hg:goodB n.l.ep n.l.L=true) (h3:k.kind=3→((n.u k.unit.toNat).p.readS k.page).size≤1000000) (hk:k.kind=10→fewL k.L∧i64w k.pe):FewX (n.ans k):=by
 have z:(0:Nat)≤1000000:=by omega
 unfold Nd.ans
 split
 ·split
  ·unfold Us.ans
   split
   ·exact z1y rfl rfl z
   split
   ·exact z1y rfl rfl z
   split
   ·exact z1y rfl rfl z
   split
   ·exact z1y rfl rfl z
   ·refine z1y rfl rfl ?_
    show (if k.kind=3 then _ else noS).size≤1000000
    split
    ·next e=>exact h3 e
    ·exact z
  ·exact z1y rfl rfl z
 split
 ·unfold Od.ans
  repeat' split
  all_goals exact z1y rfl rfl z
 split
 ·unfold Ly.ans
  split
  ·exact ⟨(z16 hg).1,(z16 hg).2,z⟩
  split
  ·next e =>
   split
   ·exact ⟨(hk e).1,(hk e).2,z⟩
   ·exact ⟨(z16 hg).1,(z16 hg).2,z⟩
  repeat' split
  all_goals exact z1y rfl rfl z
 ·exact z1y rfl rfl z
theorem fewX_heard (h:Hd) (k:Ak) (m:Int) (hg:goodB h.n.l.ep h.n.l.L=true) (h3:k.kind=3→((h.n.u k.unit.toNat).p.readS k.page).size≤1000000) (hk:k.kind=10→fewL k.L∧i64w k.pe):FewX (h.heard k m):=by
 unfold Hd.heard
 split
 ·exact fewX_ans h.n k hg h3 hk
 ·exact z1y rfl rfl (Nat.zero_le _)
theorem asked_n (h:Hd) (k:Ak) (m:Int):((m=0∨m=2)∧(h.asked k m).n=h.n.done k)∨(m≠0∧m≠2∧(h.asked k m).n=h.n):=by
 unfold Hd.asked
 by_cases e:m=0∨m=2
 ·rw [if_pos e]
  exact .inl ⟨e,rfl⟩
 ·rw [if_neg e]
  refine .inr ⟨fun g=>e (.inl g),fun g=>e (.inr g),?_⟩
  split <;> rfl
section
variable {n0:Nd} {qe:Int} {qL:List (List Int)}
theorem RunR.goods {n:Nd} {r:Rf} (h0:Ready n0 qe qL) (H:RunR n0 n qe qL r):goodB qe qL=true∧goodB n.l.ep n.l.L=true:=by
 have hq:goodB qe qL=true:=(nextB_iff.1 h0.next.1).2.1
 refine ⟨hq,?_⟩
 rcases H.lay with e | ⟨e,_⟩
 ·rw [e];exact h0.good
 ·rw [e];exact hq
theorem RunR.smallR {n:Nd} {r:Rf} (h0:Ready n0 qe qL) (H:RunR n0 n qe qL r):SmR r.ask∧r.ask.kind≠3:=by
 have hq:=(H.goods h0).1
 have hqe:=(goodB_iff.1 hq).1
 have zz:∀ x:Int,0≤x∧x≤2147483647→i64w x:=fun x hx=>z04 (by omega)
 have z0:i64w 0:=z04 (by omega)
 have zs:(0:Nat)≤1000000:=by omega
 have hpe:i64w r.qe:=by rw [H.pe];exact zz _ hqe
 obtain ⟨r1,r2⟩:=H.range
 have hc:r.at_=1∨r.at_=2∨r.at_=3∨r.at_=4∨r.at_=5:=by omega
 rcases hc with e | e | e | e | e
 ·have ea:r.ask=layK:=by unfold Rf.ask;rw [if_pos e]
  rw [ea]
  exact ⟨⟨⟨zz 9 (by omega),z0,z0,z0,zs⟩,z0,few_nil⟩,show (9:Int)≠3 by decide⟩
 ·have ea:r.ask=sealK r.unit r.qe:=by unfold Rf.ask;rw [if_neg (by omega),if_pos e]
  have h2:=H.two e
  obtain ⟨o1,o2⟩:=H.old (by omega)
  have hu:i64w r.unit:=by
   unfold Rf.unit
   rw [o2,(at_mem h2).1]
   have:=units_16r h0.good (at_mem h2).2
   exact z04 (by omega)
  rw [ea]
  exact ⟨⟨⟨zz 5 (by omega),hu,hpe,z0,zs⟩,z0,few_nil⟩,show (5:Int)≠3 by decide⟩
 ·have ea:r.ask=chgK r.qe r.qL:=by unfold Rf.ask;rw [if_neg (by omega),if_neg (by omega),if_pos e]
  rw [ea]
  exact ⟨⟨⟨zz 10 (by omega),z0,z0,z0,zs⟩,hpe,by show fewL r.qL;rw [H.pL];exact (z16 hq).1⟩,show (10:Int)≠3 by decide⟩
 ·have ea:r.ask=startK r.qe (tailR r.oe r.oL r.tails):=by unfold Rf.ask;rw [if_neg (by omega),if_neg (by omega),if_neg (by omega),if_pos e]
  have ht:=tailR_low r.oe r.oL r.tails
  rw [ea]
  exact ⟨⟨⟨zz 8 (by omega),z0,hpe,z04 (by show -1000000000000≤tailR _ _ _∧tailR _ _ _≤1000000000000;omega),zs⟩,z0,few_nil⟩,show (8:Int)≠3 by decide⟩
 ·have ea:r.ask=zeroK:=by unfold Rf.ask;rw [if_neg (by omega),if_neg (by omega),if_neg (by omega),if_neg (by omega)]
  rw [ea]
  exact ⟨⟨⟨z0,z0,z0,z0,zs⟩,z0,few_nil⟩,show (0:Int)≠3 by decide⟩
theorem tailP_ok {p:Ps} (h:p.Ok):i64w p.tail:=by
 have he:=h.edge
 obtain ⟨h1,_,_⟩:=tailP_spec p.l p.edge
 unfold Ps.tail
 rcases h1 with e | ⟨x,hx,e⟩
 ·rw [e];exact z04 (by omega)
 ·have hx2:=(h.each x hx).1
  rw [e];exact z04 (by omega)
theorem RunR.fewR {h:Hd} {r:Rf} (h0:Ready n0 qe qL) (H:RunR n0 h.n qe qL r) (m:Int):FewR r (h.heard r.ask m):=by
 obtain ⟨g1,g2⟩:=H.smallR h0
 refine ⟨fewX_heard h r.ask m (H.goods h0).2 (fun e=>absurd e g2) (fun _=>⟨g1.L,g1.pe⟩),fun e=>?_⟩
 have z0:i64w 0:=z04 (by omega)
 have ea:r.ask=sealK r.unit r.qe:=by unfold Rf.ask;rw [if_neg (by omega),if_pos e]
 rw [ea]
 unfold Hd.heard
 split
 ·unfold Nd.ans
  rw [if_pos ⟨show (1:Int)≤5 by decide,show (5:Int)≤5 by decide⟩]
  split
  ·unfold Us.ans
   split
   ·exact z0
   split
   ·exact z0
   split
   ·exact z0
   rw [if_pos (show (sealK r.unit r.qe).kind=5 from rfl)]
   show i64w (h.n.u _).p.tail
   rw [H.same.p]
   exact tailP_ok (h0.pok _)
  ·exact z0
 ·exact z0
theorem RunR.fate {h:Hd} {r:Rf} (h0:Ready n0 qe qL) (H:RunR n0 h.n qe qL r) (h5:r.at_≠5) (m:Int) :
  RunR n0 (h.asked r.ask m).n qe qL (r.turn (h.heard r.ask m) (decide (m=0)))∧rankR (unitsR n0.l.L).length (r.turn (h.heard r.ask m) (decide (m=0)))≤rankR (unitsR n0.l.L).length r∧(m=0→rankR (unitsR n0.l.L).length (r.turn (h.heard r.ask m) (decide (m=0))) < rankR (unitsR n0.l.L).length r):=by
 have key:RunR n0 (h.n.done r.ask) qe qL r∧RunR n0 (h.n.done r.ask) qe qL (r.turn (h.n.ans r.ask) true)∧rankR (unitsR n0.l.L).length (r.turn (h.n.ans r.ask) true) < rankR (unitsR n0.l.L).length r:=by
  have tu:(h.n.ans r.ask).code≠45→r.turn (h.n.ans r.ask) true=r.hear (h.n.ans r.ask) true:=fun hc=>if_neg (fun g=>hc g.2.1)
  obtain ⟨r1,r2⟩:=H.range
  have hc:r.at_=1∨r.at_=2∨r.at_=3∨r.at_=4:=by omega
  rcases hc with e | e | e | e
  ·obtain ⟨d1,d2,d3,d4⟩:=H.lay1 h0 e
   rw [tu d4,d1]
   exact ⟨H,d2,d3⟩
  ·obtain ⟨d1,d2⟩:=H.seal2 h0 e
   refine ⟨d1,?_⟩
   rcases d2 with ⟨c,my,d3,d4⟩ | ⟨c,d3,d4⟩
   ·rw [show r.turn (h.n.ans r.ask) true=r.skip from if_pos ⟨rfl,c,my⟩]
    exact ⟨d3,d4⟩
   ·rw [tu c]
    exact ⟨d3,d4⟩
  ·obtain ⟨d1,d2,d3,d4⟩:=H.chg3 h0 e
   rw [tu d2]
   exact ⟨d1,d3,d4⟩
  ·obtain ⟨d1,d2,d3,d4⟩:=H.start4 h0 e
   rw [tu d2]
   exact ⟨d1,d3,d4⟩
 obtain ⟨k1,k2,k3⟩:=key
 by_cases e:m=0
 ·have eh:h.heard r.ask m=h.n.ans r.ask:=if_pos e
  have en:(h.asked r.ask m).n=h.n.done r.ask:=by
   rcases asked_n h r.ask m with ⟨_,g⟩ | ⟨g,_⟩
   ·exact g
   ·exact absurd e g
  rw [eh,en,show decide (m=0)=true from decide_eq_true e]
  exact ⟨k2,Nat.le_of_lt k3,fun _=>k3⟩
 ·have et:r.turn (h.heard r.ask m) (decide (m=0))=r:=by
   rw [show decide (m=0)=false from decide_eq_false e]
   unfold Rf.turn Rf.hear
   rw [if_neg (fun g=>Bool.noConfusion g.1),if_pos (.inr (.inl rfl))]
  rw [et]
  refine ⟨?_,Nat.le_refl _,fun g=>absurd g e⟩
  rcases asked_n h r.ask m with ⟨_,g⟩ | ⟨_,_,g⟩
  ·rw [g];exact k1
  ·rw [g];exact H
theorem rankR_top (k:Nat) (r:Rf):rankR k r≤k+3:=by
 unfold rankR
 split
 ·omega
 split
 ·omega
 split
 ·omega
 split <;> omega
theorem rankR_some {k:Nat} {r:Rf} (h:1≤r.at_∧r.at_≤5) (h5:r.at_≠5):1≤rankR k r:=by
 have hc:r.at_=1∨r.at_=2∨r.at_=3∨r.at_=4:=by omega
 rcases hc with e | e | e | e
 ·rw [rank1 e];omega
 ·rw [rank2 e];omega
 ·rw [rank3 e];omega
 ·rw [rank4 e];omega
def InvR (n0:Nd) (qe:Int) (qL:List (List Int)) (nf:Nat) (k:Nat) (h:Hd) (r:Rf):Prop:=RunR n0 h.n qe qL r∧rankR (unitsR n0.l.L).length r+k≤nf+((unitsR n0.l.L).length+3)
theorem InvR.run (h0:Ready n0 qe qL) (hu:n0.l.used.length≤1000) (nf:Nat):RunChg nf (InvR n0 qe qL nf):=by
 have h16:=z26 h0.good
 refine ⟨fun k h r H=>?_,fun k h r H=>?_,fun k h r H h5=>?_,fun k h r m H h5 hm=>?_⟩
 ·obtain ⟨h1,h2⟩:=H
  refine ⟨by omega,fun h5=>?_⟩
  have:=rankR_some (k:=(unitsR n0.l.L).length) h1.range h5
  omega
 ·obtain ⟨h1,_⟩:=H
  rcases h1.lay with e | ⟨e,_⟩
  ·rw [e];omega
  ·have h16q:=z26 (h1.goods h0).1
   rw [e]
   show (n0.l.used ++ unitsR qL).length≤100000
   rw [List.length_append]
   omega
 ·obtain ⟨h1,_⟩:=H
  exact ⟨(h1.smallR h0).1,fun m=>h1.fewR h0 m⟩
 ·obtain ⟨h1,h2⟩:=H
  obtain ⟨g1,g2,g3⟩:=h1.fate h0 h5 m
  refine ⟨g1,?_⟩
  have ht:=rankR_top (unitsR n0.l.L).length r
  by_cases hk:k < nf
  ·have:=rankR_top (unitsR n0.l.L).length (r.turn (h.heard r.ask m) (decide (m=0)))
   omega
  ·have:=g3 (hm hk)
   omega
theorem InvR.start (h0:Ready n0 qe qL) {h:Hd} (hn:h.n=n0) (nf:Nat):InvR n0 qe qL nf 0 h (newRf qe qL):=by
 refine ⟨by rw [hn];exact RunR.start h0,?_⟩
 have:=rankR_top (unitsR n0.l.L).length (newRf qe qL)
 omega
end
end Go.Proofs.YtkefpbcifcjibaaGreat
