/- The law ReformNone: a reform that nobody made, or to what is no projection, asks nothing. Conditions: none. (Written by gen/genreformnone.py.) -/
import Derived.Test.YtkefpbcifcjibaaGreatG27b
import Derived.Test.YtkefpbcifcjibaaGreatG33a
import Derived.Test.YtkefpbcifcjibaaGreatG31a
import Derived.Test.YtkefpbcifcjibaaGreatG32a
import Derived.Test.YtkefpbcifcjibaaGreatG30a
import Derived.Test.YtkefpbcifcjibaaGreatG11a
import Derived.Test.YtkefpbcifcjibaaGreatX04
import Derived.Test.YtkefpbcifcjibaaGreatX09
import Derived.Test.YtkefpbcifcjibaaGreatG21a
import Derived.Test.YtkefpbcifcjibaaGreatG04a
import Derived.Test.YtkefpbcifcjibaaGreatG14a
import Derived.Test.YtkefpbcifcjibaaGreatG19a
import Derived.Test.YtkefpbcifcjibaaGreatG08a
import Derived.Test.YtkefpbcifcjibaaGreatG10a
import Derived.Test.YtkefpbcifcjibaaGreatH00
set_option linter.unusedVariables false
set_option maxRecDepth 20000
set_option maxHeartbeats 16000000
namespace Go.Proofs.YtkefpbcifcjibaaGreat
open Go.ChangeShapes Go.WideShapes Go.ChangeAt Go.RowKit
open Go.ChangeMaps (open_string shut_string)
theorem reformNone_walk {UG:Nat→Nat→(Nat→Prop)→World→Us→Prop} {OG:Nat→(Nat→Prop)→World→Od→Prop} {LG:Nat→(Nat→Prop)→World→Ly→Prop} {NG:Nat→(Nat→Prop)→World→Nd→Prop} {HG:Nat→Nat→(Nat→Prop)→World→Hd→Prop} {AG:Nat→(Nat→Prop)→World→Ap→Prop} {FG:Nat→(Nat→Prop)→World→Fe→Prop} {RG:Nat→(Nat→Prop)→World→Rf→Prop} (HS:HandSays UG OG LG NG HG) (AS:AppSays AG) (FS:FetchSays FG) (RS:RfmSays RG)
  (ep:Int) (ao:Option Addr) (cap:Nat) (L:List (List Int)) (x:An) (xo:Option Addr) (xc:Nat) (w:World) (h:PIn w ep ao cap L) (hx:AnIn w x xo xc) :
  Calls Tryz.prog 7 #[.agg #[.int .i64 ep,.slice ao L.length cap],ansV x xo xc] w fun e w'=>e=.returned (.bool true)∧Below w.heap.size w w':=by
 have CW:=Lh (fun w=>wakes18_any HS AS FS RS w)
 have TR:=Lh (fun b=>RS.thing b)
 obtain ⟨⟨hC,hn,hc⟩,hep,hl,hm⟩:=h
 obtain ⟨hp,hq⟩:=z0z w #[.int .i64 ep,.slice ao L.length cap] (ansC x xo xc).toArray 24 49
 have hb0:Below w.heap.size w ((w.alloc (.cells #[.int .i64 ep,.slice ao L.length cap] 24)).alloc (.cells (ansC x xo xc).toArray 49)):=((Below.refl _ _).alloc (Nat.le_refl _) _).alloc (by simp) _
 have HC:=Lh (fun W (hb:Below w.heap.size w W)=>hC.below hb)
 have CL1:=Lh (large_any ep ao cap L _ (hC.below hb0) hl hm)
 have CL2:=Lh (fun W (hb:Below w.heap.size w W)=>largeAns_any x xo xc W (hx.below hb))
 have hfld:∀ (q:Value) (v0:Int) (W:World),(Instr.field 24 (.agg #[.int .i64 v0,q]) 1).run Tryz.prog W=.ok q W:=fun q v0 W=>by kernel_rfl
 have HEP:=Lh (show i64w ep from WalkArith.wf_i64 hep)
 have HNC:=Lh (And.intro hn hc)
 obtain ⟨xcd,xn,xd,xp,xL,xm,xz,xe⟩:=x
 generalize hW0:((w.alloc (.cells #[.int .i64 ep,.slice ao L.length cap] 24)).alloc (.cells (ansC ⟨xcd,xn,xd,xp,xL,xm,xz,xe⟩ xo xc).toArray 49))=W0 at *
 have EW:=Lh (show ((w.alloc (.cells #[.int .i64 ep,.slice ao L.length cap] 24)).alloc (.cells #[.int .i64 xcd,.int .i64 xn,.string xd,.int .i64 xp,.slice xo xL.length xc,.int .i64 xm,.int .i64 xz,.int .i64 xe] 49))=W0 from hW0)
 have HP:=Lh hp
 have HQ:=Lh hq
 have HB0:=Lh hb0
 clear hC hn hc hep hl hm hp hq hb0 hx hW0
 show Calls _ _ #[.agg #[.int .i64 ep,.slice ao L.length cap],.agg #[.int .i64 xcd,.int .i64 xn,.string xd,.int .i64 xp,.slice xo xL.length xc,.int .i64 xm,.int .i64 xz,.int .i64 xe]] w _
 cases hlp:largeB L
 ·rw [hlp] at CL1
  have h50:=largeB_no hlp
  have HF:=Lh (show fewL L from ⟨by omega,fun c hc=>Nat.le_trans (h50.2 c hc) (by decide)⟩)
  have H1000:=Lh (show L.length≤1000∧∀ c ∈ L,c.length≤1000 from ⟨by omega,fun c hc=>Nat.le_trans (h50.2 c hc) (by decide)⟩)
  clear hlp h50
  cases hlx:largeX ⟨xcd,xn,xd,xp,xL,xm,xz,xe⟩
  ·rw [hlx] at CL2
   clear hlx
   cases hg:goodB ep L
   ·have HNW:=Lh (show newRf ep L=⟨ep,L,0,[],5,0,[],11⟩ from by unfold newRf;rw [hg];rfl)
    have HGD:=Lh hg
    obtain ⟨kd,un,qe,pg,kpe,qs,kL,hq⟩:=ask_openR ⟨ep,L,0,[],5,0,[],11⟩
    have HQA:=Lh hq
    clear hg hq
    go_enter Tryz.func7,Tryz.ntmps7
    go_wp2_with (first
     | (go_at_call 19;refine (sro_skip RS S13.out).mono ?_;rw [show (⟨ep,L,0,[],5,0,[],11⟩:Rf).mays=false from mays_no (show (5:Int)≠2 by decide)];rintro e w14 ⟨rfl,hs,hk⟩;have B14:=Lh (B13.out.trans (hk.toBelow B13.out.size (fun j h=>.inl (.inl h))));clear hs hk)
     | (go_at_call 43;refine (z2a ep ao cap L _ (HC.out _ B12.out) HF.out).mono ?_;rw [HGD.out];rintro e w13 ⟨rfl,hb⟩;have S13:=Lh (S12.out.below (TR.out ba) hb);have B13:=Lh (B12.out.trans (hb.mono B12.out.size));clear hb)
     | (go_at_call 15;refine (sro_over RS S11.out).mono ?_;rw [show (⟨ep,L,0,[],5,0,[],11⟩:Rf).overE=11 from rfl,show (⟨ep,L,0,[],5,0,[],11⟩:Rf).overB=true from rfl];rintro e w12 ⟨rfl,hs,hb⟩;have S12:=Lh hs;have B12:=Lh (B11.out.trans (hb.mono B11.out.size));have P12:=Lh (z01 hb P11.out);obtain ⟨p0,p1,_,_⟩:=z05 P12.out;have pl:=lt_of_block P12.out;clear hs hb)
     | (go_at_call 13;refine (sro_ask RS S9.out HQA.out).mono ?_;rw [show (⟨ep,L,0,[],5,0,[],11⟩:Rf).asks=false from rfl];rintro e w11 ⟨vo,vc,C,rfl,_,hs,hk⟩;have S11:=Lh hs;have B11:=Lh (B9.out.trans (hk.toBelow B9.out.size (fun j h=>.inl h)));have P11:=Lh (hk.heap (.inr rfl) P9.out);clear hs hk)
     | (go_at_call 10;refine (sro_new RS (X:=fun k=>k < w.heap.size∨k=w.heap.size) (fun k hk=>hk.elim (fun h=>Nat.lt_of_lt_of_le h B8.out.size) (fun h=>h ▸ lt_of_block P8.out)) N8.out HF.out M8.out.1 M8.out.2.1 HEP.out).mono ?_;rintro e w9 ⟨ba,rfl,hs,hb9⟩;rw [HNW.out] at hs;have S9:=Lh hs;have B9:=Lh (B8.out.trans (hb9.mono B8.out.size));have P9:=Lh (z01 hb9 P8.out);clear hs hb9)
     | (go_at_call 11;refine (z1d ep ao cap L _ (HC.out _ B6.out) H1000.out).mono ?_;rintro e w8 ⟨v,rfl,hO,hb8⟩;obtain ⟨go,gc,hv,hN8,h81,h82⟩:=hO.form;subst hv;have N8:=Lh hN8;have M8:=Lh (And.intro h81 h82);have B8:=Lh (B6.out.trans (hb8.mono B6.out.size));have P8:=Lh (z01 hb8 P6.out);clear hO hN8 h81 h82 hb8 p0 p1 pl)
     | (go_at_call 8;rw [EW.out];refine CL1.out.mono ?_;rintro e w1 ⟨rfl,hb1⟩;have B1:=Lh (HB0.out.trans (hb1.mono HB0.out.size));have Q1:=Lh (z01 hb1 HQ.out);have P1:=Lh (z01 hb1 HP.out);obtain ⟨⟨x0,x1,x2,x3,x4,x5,x6,x7⟩,_⟩:=z03 Q1.out;have xl:=lt_of_block Q1.out;clear hb1)
     | (go_at_call 18;refine (CL2.out _ B1.out).mono ?_;rintro e w2 ⟨rfl,hb2⟩;have B2:=Lh (B1.out.trans (hb2.mono B1.out.size));have P2:=Lh (z01 hb2 P1.out);clear x0 x1 x2 x3 x4 x5 x6 x7 xl;obtain ⟨⟨x0,x1,x2,x3,x4,x5,x6,x7⟩,_⟩:=z03 (z01 hb2 Q1.out);have xl:=lt_of_block (z01 hb2 Q1.out);clear hb2)
     | (go_at_call 21;refine (RS.nil_hear ⟨xcd,xn,xd,xp,xL,xm,xz,xe⟩ xo xc true _).mono ?_;rintro e w3 ⟨rfl,hb3⟩;have B3:=Lh (B2.out.trans (hb3.mono B2.out.size));have P3:=Lh (z01 hb3 P2.out);clear hb3 x0 x1 x2 x3 x4 x5 x6 x7 xl)
     | (go_at_call 13;refine (RS.nil_ask w3).mono ?_;rintro e w4 ⟨he,hb4⟩;obtain rfl:e=.returned (.tuple #[.agg #[.int .i64 0,.int .i64 0,.int .i64 0,.int .i64 0,.int .i64 0,.int .i64 0,.string ⟨#[]⟩,.int .i64 0,.slice none 0 0],.bool false]):=he;have D4:=Lh (hb4.trans ((z00 w4 (.cells #[.int .i64 0,.int .i64 0,.int .i64 0,.int .i64 0,.int .i64 0,.int .i64 0,.string ⟨#[]⟩,.int .i64 0,.slice none 0 0] 34)).mono hb4.size));have B4:=Lh (B3.out.trans (D4.out.mono B3.out.size));have P4:=Lh (z01 D4.out P3.out);clear hb4)
     | (go_at_call 15;refine (RS.nil_over (w4.alloc (.cells #[.int .i64 0,.int .i64 0,.int .i64 0,.int .i64 0,.int .i64 0,.int .i64 0,.string ⟨#[]⟩,.int .i64 0,.slice none 0 0] 34))).mono ?_;rintro e w5 ⟨rfl,hb5⟩;have B5:=Lh (B4.out.trans (hb5.mono B4.out.size));have P5:=Lh (z01 hb5 P4.out);clear hb5)
     | (go_at_call 19;refine (RS.nil_skip _).mono ?_;rintro e w6 ⟨rfl,hb6⟩;have B6:=Lh (B5.out.trans (hb6.mono B5.out.size));have P6:=Lh (z01 hb6 P5.out);obtain ⟨p0,p1,_,_⟩:=z05 P6.out;have pl:=lt_of_block P6.out;clear hb6)
     | (go_at_call 9;refine (CW.out _).mono ?_;rintro e w15 ⟨rfl,hb12⟩;have B15:=Lh (B14.out.trans (hb12.mono B14.out.size));clear hb12))
    go_ret
    exact ⟨rfl,B15.out⟩
   ·have HNW:=Lh (show newRf ep L=⟨ep,L,0,[],1,0,[],0⟩ from by unfold newRf;rw [hg];rfl)
    have HGD:=Lh hg
    obtain ⟨kd,un,qe,pg,kpe,qs,kL,hq⟩:=ask_openR ⟨ep,L,0,[],1,0,[],0⟩
    have HQA:=Lh hq
    clear hg hq
    go_enter Tryz.func7,Tryz.ntmps7
    go_wp2_with (first
     | (go_at_call 19;refine (sro_skip RS S13.out).mono ?_;rw [show (⟨ep,L,0,[],1,0,[],0⟩:Rf).mays=false from mays_no (show (1:Int)≠2 by decide)];rintro e w14 ⟨rfl,hs,hk⟩;have B14:=Lh (B13.out.trans (hk.toBelow B13.out.size (fun j h=>.inl (.inl h))));clear hs hk)
     | (go_at_call 43;refine (z2a ep ao cap L _ (HC.out _ B12.out) HF.out).mono ?_;rw [HGD.out];rintro e w13 ⟨rfl,hb⟩;have S13:=Lh (S12.out.below (TR.out ba) hb);have B13:=Lh (B12.out.trans (hb.mono B12.out.size));clear hb)
     | (go_at_call 15;refine (sro_over RS S11.out).mono ?_;rw [show (⟨ep,L,0,[],1,0,[],0⟩:Rf).overE=0 from rfl,show (⟨ep,L,0,[],1,0,[],0⟩:Rf).overB=false from rfl];rintro e w12 ⟨rfl,hs,hb⟩;have S12:=Lh hs;have B12:=Lh (B11.out.trans (hb.mono B11.out.size));have P12:=Lh (z01 hb P11.out);obtain ⟨p0,p1,_,_⟩:=z05 P12.out;have pl:=lt_of_block P12.out;clear hs hb)
     | (go_at_call 13;refine (sro_ask RS S9.out HQA.out).mono ?_;rw [show (⟨ep,L,0,[],1,0,[],0⟩:Rf).asks=true from rfl];rintro e w11 ⟨vo,vc,C,rfl,_,hs,hk⟩;have S11:=Lh hs;have B11:=Lh (B9.out.trans (hk.toBelow B9.out.size (fun j h=>.inl h)));have P11:=Lh (hk.heap (.inr rfl) P9.out);clear hs hk)
     | (go_at_call 10;refine (sro_new RS (X:=fun k=>k < w.heap.size∨k=w.heap.size) (fun k hk=>hk.elim (fun h=>Nat.lt_of_lt_of_le h B8.out.size) (fun h=>h ▸ lt_of_block P8.out)) N8.out HF.out M8.out.1 M8.out.2.1 HEP.out).mono ?_;rintro e w9 ⟨ba,rfl,hs,hb9⟩;rw [HNW.out] at hs;have S9:=Lh hs;have B9:=Lh (B8.out.trans (hb9.mono B8.out.size));have P9:=Lh (z01 hb9 P8.out);clear hs hb9)
     | (go_at_call 11;refine (z1d ep ao cap L _ (HC.out _ B6.out) H1000.out).mono ?_;rintro e w8 ⟨v,rfl,hO,hb8⟩;obtain ⟨go,gc,hv,hN8,h81,h82⟩:=hO.form;subst hv;have N8:=Lh hN8;have M8:=Lh (And.intro h81 h82);have B8:=Lh (B6.out.trans (hb8.mono B6.out.size));have P8:=Lh (z01 hb8 P6.out);clear hO hN8 h81 h82 hb8 p0 p1 pl)
     | (go_at_call 8;rw [EW.out];refine CL1.out.mono ?_;rintro e w1 ⟨rfl,hb1⟩;have B1:=Lh (HB0.out.trans (hb1.mono HB0.out.size));have Q1:=Lh (z01 hb1 HQ.out);have P1:=Lh (z01 hb1 HP.out);obtain ⟨⟨x0,x1,x2,x3,x4,x5,x6,x7⟩,_⟩:=z03 Q1.out;have xl:=lt_of_block Q1.out;clear hb1)
     | (go_at_call 18;refine (CL2.out _ B1.out).mono ?_;rintro e w2 ⟨rfl,hb2⟩;have B2:=Lh (B1.out.trans (hb2.mono B1.out.size));have P2:=Lh (z01 hb2 P1.out);clear x0 x1 x2 x3 x4 x5 x6 x7 xl;obtain ⟨⟨x0,x1,x2,x3,x4,x5,x6,x7⟩,_⟩:=z03 (z01 hb2 Q1.out);have xl:=lt_of_block (z01 hb2 Q1.out);clear hb2)
     | (go_at_call 21;refine (RS.nil_hear ⟨xcd,xn,xd,xp,xL,xm,xz,xe⟩ xo xc true _).mono ?_;rintro e w3 ⟨rfl,hb3⟩;have B3:=Lh (B2.out.trans (hb3.mono B2.out.size));have P3:=Lh (z01 hb3 P2.out);clear hb3 x0 x1 x2 x3 x4 x5 x6 x7 xl)
     | (go_at_call 13;refine (RS.nil_ask w3).mono ?_;rintro e w4 ⟨he,hb4⟩;obtain rfl:e=.returned (.tuple #[.agg #[.int .i64 0,.int .i64 0,.int .i64 0,.int .i64 0,.int .i64 0,.int .i64 0,.string ⟨#[]⟩,.int .i64 0,.slice none 0 0],.bool false]):=he;have D4:=Lh (hb4.trans ((z00 w4 (.cells #[.int .i64 0,.int .i64 0,.int .i64 0,.int .i64 0,.int .i64 0,.int .i64 0,.string ⟨#[]⟩,.int .i64 0,.slice none 0 0] 34)).mono hb4.size));have B4:=Lh (B3.out.trans (D4.out.mono B3.out.size));have P4:=Lh (z01 D4.out P3.out);clear hb4)
     | (go_at_call 15;refine (RS.nil_over (w4.alloc (.cells #[.int .i64 0,.int .i64 0,.int .i64 0,.int .i64 0,.int .i64 0,.int .i64 0,.string ⟨#[]⟩,.int .i64 0,.slice none 0 0] 34))).mono ?_;rintro e w5 ⟨rfl,hb5⟩;have B5:=Lh (B4.out.trans (hb5.mono B4.out.size));have P5:=Lh (z01 hb5 P4.out);clear hb5)
     | (go_at_call 19;refine (RS.nil_skip _).mono ?_;rintro e w6 ⟨rfl,hb6⟩;have B6:=Lh (B5.out.trans (hb6.mono B5.out.size));have P6:=Lh (z01 hb6 P5.out);obtain ⟨p0,p1,_,_⟩:=z05 P6.out;have pl:=lt_of_block P6.out;clear hb6)
     | (go_at_call 9;refine (CW.out _).mono ?_;rintro e w15 ⟨rfl,hb12⟩;have B15:=Lh (B14.out.trans (hb12.mono B14.out.size));clear hb12))
    go_ret
    exact ⟨rfl,B15.out⟩
  ·rw [hlx] at CL2
   clear hlx
   go_enter Tryz.func7,Tryz.ntmps7
   go_wp2_with (first
    | (go_at_call 8;rw [EW.out];refine CL1.out.mono ?_;rintro e w1 ⟨rfl,hb1⟩;have B1:=Lh (HB0.out.trans (hb1.mono HB0.out.size));have Q1:=Lh (z01 hb1 HQ.out);obtain ⟨⟨x0,x1,x2,x3,x4,x5,x6,x7⟩,_⟩:=z03 Q1.out;have xl:=lt_of_block Q1.out;clear hb1)
    | (go_at_call 18;refine (CL2.out _ B1.out).mono ?_;rintro e w2 ⟨rfl,hb2⟩;have B2:=Lh (B1.out.trans (hb2.mono B1.out.size));clear hb2)
    | (go_at_call 9;refine (CW.out _).mono ?_;rintro e w3 ⟨rfl,hb3⟩;have B3:=Lh (B2.out.trans (hb3.mono B2.out.size));clear hb3))
   go_ret
   exact ⟨rfl,B3.out⟩
 ·rw [hlp] at CL1
  clear hlp
  go_enter Tryz.func7,Tryz.ntmps7
  go_wp2_with (first
   | (go_at_call 8;rw [EW.out];refine CL1.out.mono ?_;rintro e w1 ⟨rfl,hb1⟩;have B1:=Lh (HB0.out.trans (hb1.mono HB0.out.size));clear hb1)
   | (go_at_call 9;refine (CW.out _).mono ?_;rintro e w3 ⟨rfl,hb3⟩;have B3:=Lh (B1.out.trans (hb3.mono B1.out.size));clear hb3))
  go_ret
  exact ⟨rfl,B3.out⟩
set_option maxRecDepth 100000 in
theorem reformNone_lifted (os:Os) (started:os.Started) (H:Type) (enc:TypeId × Value→H) :
  ReturnsInHanded {} Tryz.checked os 7 .any (Rows.reformNoneSpec.pre6 enc Tryz.prog Tryz.f7 Rows.reformNoneRow.domain false) (Rows.reformNoneSpec.post enc Tryz.prog Tryz.f7 false true false false):=by
 refine returnsInHanded_of_change (C:=Tryz.checked) own started (by kernel_rfl) Tryz.func7
  (ChangeSpec.witness6 (enc:=enc) (C:=Tryz.checked) false ⟨#[],#[.agg #[.int .i64 0,.slice none 0 0],.agg #[.int .i64 0,.int .i64 0,.string ByteArray.empty,.int .i64 0,.slice none 0 0,.int .i64 0,.int .i64 0,.int .i64 0]],[]⟩ 8 (by kernel_rfl) (by kernel_rfl) (by kernel_rfl) (by kernel_rfl)) ?_
 intro W base args ds gs before hval0 hW hcnd _
 have hval:∀ (j:Nat) t v,Tryz.f7.params[j]?=some t→args[j]?=some v→Value.okWide Tryz.prog W .any base t v:=hval0
 have hW':=hW
 obtain ⟨p,q,hA0,hV,rfl,hfz,hnd⟩:=hW
 have hA:DataW.TrodAll enc Tryz.prog W 0 (fun _=>true) true Tryz.f7.params.toList args.toList ds p:=hA0
 rw [Tryz.params7] at hA hval
 obtain ⟨v0,vs0,d0,ds0,p0,q0,hargs,rfl,rfl,h0,r0⟩:=trodAll_cons hA
 obtain ⟨v1,vs1,d1,ds1,p1,q1,rfl,rfl,rfl,h1,r1⟩:=trodAll_cons r0
 obtain ⟨rfl,rfl,rfl⟩:=trodAll_nil r1
 obtain rfl:args=#[v0,v1]:=by cases args;simp_all
 obtain ⟨rfl,rfl⟩:=trodVars_none hV
 have k0:=h0
 have lt0:∀ x ∈ p0,x.block < W.heap.size:=by obtain ⟨m,hm⟩:=k0;exact DataW.trod_lt m _ _ _ hm
 have k1:=h1
 have lt1:∀ x ∈ p1,x.block < W.heap.size:=by obtain ⟨m,hm⟩:=k1;exact DataW.trod_lt m _ _ _ hm
 obtain ⟨ep0,ao0,cap0,L0,rfl,wf0,hC0,hn0,hc0,hl0,hm0⟩:=open_proj Tryz.underlying24 (by kernel_rfl) rfl rfl (by kernel_rfl) (by kernel_rfl) Tryz.underlying3 Tryz.underlying22 Tryz.underlying65 (by kernel_rfl) (hval 0 24 v0 rfl rfl) h0
 have hF0:PIn W ep0 ao0 cap0 L0:=⟨⟨hC0,hn0,hc0⟩,i64_of_wf wf0,hl0,fun c hcm=>by obtain ⟨i,hi,rfl⟩:=List.getElem_of_mem hcm;exact hm0 i hi⟩
 obtain ⟨x1,xo1,xc1,rfl,hF1⟩:=open_ans ansT (hval 1 49 v1 rfl rfl) h1
 clear hA0 hval0
 refine (reformNone_walk handSays appSays fetchSays rfmSays ep0 ao0 cap0 L0 x1 xo1 xc1 W hF0 hF1).mono fun e W' ⟨he,bel⟩=>?_
 subst he
 exact ⟨_,rfl,_,_,_,[],_,[],hW',trodAll_mk1 (shut_bool Tryz.underlying4 _),(trodAll_cons_mk (Below.trod z1q (by kernel_rfl) (of_decide_eq_true (by kernel_rfl)) k0 bel lt0) (trodAll_cons_mk (Below.trod z1q (by kernel_rfl) (of_decide_eq_true (by kernel_rfl)) k1 bel lt1) trodAll_mk0)),rfl,bel.frame _,fun h=>by cases h⟩
theorem reformNone_over:Rows.reformNoneRow.holds Tryz.pinned (OpenSpec.ofChange Rows.reformNoneSpec) :=
 OpenClaim.holds_of_wide 7 Tryz.f7 rfl rfl rfl rfl rfl rfl rfl ⟨rfl,rfl,rfl,rfl,rfl⟩ rfl rfl rfl rfl rfl (by kernel_rfl) Tryz.func7 (by kernel_rfl)
  (of_decide_eq_true (by kernel_rfl)) (by unfold Func.isWrapper;first | (rw [if_pos (by decide +kernel)];kernel_rfl) | (rw [if_neg (by decide +kernel)];exact ⟨rfl,rfl⟩))
  (fun os started H enc _=>reformNone_lifted os started H enc)
theorem reformNone_holds:Rows.ReformNoneSaid:=reformNone_over
end Go.Proofs.YtkefpbcifcjibaaGreat
