/- The law ReformAgain: a change that is begun anew, behind one that was given up on its way. Conditions: none. (Written by gen/genreformagain.py.) -/
import Derived.Deep.RegionHeld3
import Derived.Deep.CutRange
import Derived.Deep.CutBlock
import Derived.Test.YtkefpbcifcjibaaGreatG27b
import Derived.Test.YtkefpbcifcjibaaGreatG33a
import Derived.Test.YtkefpbcifcjibaaGreatG31a
import Derived.Test.YtkefpbcifcjibaaGreatG32a
import Derived.Test.YtkefpbcifcjibaaGreatX12
import Derived.Test.YtkefpbcifcjibaaGreatX03
import Derived.Test.YtkefpbcifcjibaaGreatG04a
import Derived.Test.YtkefpbcifcjibaaGreatG21a
import Derived.Test.YtkefpbcifcjibaaGreatG11a
import Derived.Test.YtkefpbcifcjibaaGreatG08a
import Derived.Test.YtkefpbcifcjibaaGreatX02
import Derived.Test.YtkefpbcifcjibaaGreatG12a
import Derived.Test.YtkefpbcifcjibaaGreatX01
import Derived.Test.YtkefpbcifcjibaaGreatG10a
import Derived.Test.YtkefpbcifcjibaaGreatX05
import Derived.Test.YtkefpbcifcjibaaGreatG14a
import Derived.Test.YtkefpbcifcjibaaGreatG19a
import Derived.Test.YtkefpbcifcjibaaGreatH00
set_option linter.unusedVariables false
set_option maxRecDepth 20000
set_option maxHeartbeats 16000000
namespace Go.Proofs.YtkefpbcifcjibaaGreat
open Go.ChangeShapes Go.WideShapes Go.ChangeAt Go.RowKit
open Go.ChangeMaps (open_string shut_string)
theorem RunR.asks0 {n0:Nd} {qe:Int} {qL:List (List Int)} {r:Rf} (h0:Ready n0 qe qL) (hu:n0.l.used.length≤1000) {h:Hd} (H:RunR n0 h.n qe qL r):SmR r.ask∧(∀ m,FewR r (h.heard r.ask m))∧h.n.l.used.length≤100000:=by
 have g:InvR n0 qe qL 10 0 h r:=⟨H,by have:=rankR_top (unitsR n0.l.L).length r;omega⟩
 obtain ⟨g1,g2⟩:=H.smallR h0
 exact ⟨g1,fun m=>H.fewR h0 m,(InvR.run h0 hu 10).used 0 h r g⟩
theorem RunR.step0 {n0:Nd} {qe:Int} {qL:List (List Int)} {r:Rf} (h0:Ready n0 qe qL) {h:Hd} (H:RunR n0 h.n qe qL r) (h5:r.at_≠5):RunR n0 (h.asked r.ask 0).n qe qL (r.hear (h.heard r.ask 0) true):=by
 have e:(h.asked r.ask 0).n=h.n.done r.ask:=by
  rcases asked_n h r.ask 0 with ⟨_,g⟩ | ⟨g,_⟩
  ·exact g
  ·exact absurd rfl g
 rw [e,show h.heard r.ask 0=h.n.ans r.ask from if_pos rfl]
 exact H.heardR h0 h5
theorem reformAgain_walk {UG:Nat→Nat→(Nat→Prop)→World→Us→Prop} {OG:Nat→(Nat→Prop)→World→Od→Prop} {LG:Nat→(Nat→Prop)→World→Ly→Prop} {NG:Nat→(Nat→Prop)→World→Nd→Prop} {HG:Nat→Nat→(Nat→Prop)→World→Hd→Prop} {AG:Nat→(Nat→Prop)→World→Ap→Prop} {FG:Nat→(Nat→Prop)→World→Fe→Prop} {RG:Nat→(Nat→Prop)→World→Rf→Prop} (HS:HandSays UG OG LG NG HG) (AS:AppSays AG) (FS:FetchSays FG) (RS:RfmSays RG)
  (x:Int) (qe:Int) (qo:Option Addr) (qc:Nat) (qL:List (List Int)) (re:Int) (ro:Option Addr) (rc:Nat) (rL:List (List Int)) (wx:(Lit.int .u8 x).wf=true) (w:World) (hq:PIn w qe qo qc qL) (hr:PIn w re ro rc rL) :
  Calls Tryz.prog 6 #[.int .u8 x,.agg #[.int .i64 qe,.slice qo qL.length qc],.agg #[.int .i64 re,.slice ro rL.length rc]] w fun e w'=>e=.returned (.bool true)∧Below w.heap.size w w':=by
 obtain ⟨x0,x1⟩:0≤x∧x < 256:=by
  have h:=wx
  simp [Lit.wf] at h
  have e1:IntKind.u8.min=0:=by decide
  have e2:IntKind.u8.max=255:=by decide
  omega
 clear wx
 obtain ⟨z,rfl⟩:∃ z:Nat,x=z:=⟨x.toNat,by omega⟩
 obtain ⟨N,hN,hN1⟩:∃ N:Nat,((z:Int).tmod 12)=(N:Int)∧N < 12:=⟨z % 12,by rw [Int.tmod_eq_emod_of_nonneg (by omega)];omega,Nat.mod_lt _ (by decide)⟩
 have CW:=Lh (fun w=>wakes18_any HS AS FS RS w)
 have TT:=Lh (fun b nb=>HS.thing b nb)
 have TA:=Lh (fun b=>RS.thing b)
 have ZZ:=Lh (fun (x:Int) (h:0≤x∧x≤300)=>show i64w x from WalkArith.wf_i64 (by omega))
 have hfld:∀ (q:Value) (v0:Int) (W:World),(Instr.field 24 (.agg #[.int .i64 v0,q]) 0).run Tryz.prog W=.ok (.int .i64 v0) W:=fun q v0 W=>by kernel_rfl
 obtain ⟨⟨hqC,hqn,hqc⟩,hqe,hql,hqm⟩:=hq
 obtain ⟨⟨hrC,hrn,hrc⟩,hre,hrl,hrm⟩:=hr
 obtain ⟨g1,g2⟩:=z0z w #[.int .i64 qe,.slice qo qL.length qc] #[.int .i64 re,.slice ro rL.length rc] 24 24
 have hb0:Below w.heap.size w ((w.alloc (.cells #[.int .i64 qe,.slice qo qL.length qc] 24)).alloc (.cells #[.int .i64 re,.slice ro rL.length rc] 24)):=((Below.refl _ _).alloc (Nat.le_refl _) _).alloc (by simp) _
 have hz0:((w.alloc (.cells #[.int .i64 qe,.slice qo qL.length qc] 24)).alloc (.cells #[.int .i64 re,.slice ro rL.length rc] 24)).heap.size=w.heap.size+2:=by simp
 have HB0:=Lh hb0
 have HW:=Lh (fun W (hb:Bx (w.heap.size+2) ((w.alloc (.cells #[.int .i64 qe,.slice qo qL.length qc] 24)).alloc (.cells #[.int .i64 re,.slice ro rL.length rc] 24)) W)=>show Below w.heap.size w W from hb0.trans (hb.1.mono (by omega)))
 have CQ:=Lh (fun W (hb:Bx (w.heap.size+2) ((w.alloc (.cells #[.int .i64 qe,.slice qo qL.length qc] 24)).alloc (.cells #[.int .i64 re,.slice ro rL.length rc] 24)) W)=>show CL W qo qL from hqC.below (HW.out W hb))
 have CR:=Lh (fun W (hb:Bx (w.heap.size+2) ((w.alloc (.cells #[.int .i64 qe,.slice qo qL.length qc] 24)).alloc (.cells #[.int .i64 re,.slice ro rL.length rc] 24)) W)=>show CL W ro rL from hrC.below (HW.out W hb))
 have LQ:=Lh (fun W (hb:Bx (w.heap.size+2) ((w.alloc (.cells #[.int .i64 qe,.slice qo qL.length qc] 24)).alloc (.cells #[.int .i64 re,.slice ro rL.length rc] 24)) W)=>large_any qe qo qc qL W (CQ.out W hb) hql hqm)
 have LR:=Lh (fun W (hb:Bx (w.heap.size+2) ((w.alloc (.cells #[.int .i64 qe,.slice qo qL.length qc] 24)).alloc (.cells #[.int .i64 re,.slice ro rL.length rc] 24)) W)=>large_any re ro rc rL W (CR.out W hb) hrl hrm)
 have HPC:=Lh (fun W (hb:Bx (w.heap.size+2) ((w.alloc (.cells #[.int .i64 qe,.slice qo qL.length qc] 24)).alloc (.cells #[.int .i64 re,.slice ro rL.length rc] 24)) W)=>show W.cell? ⟨w.heap.size,0,none⟩=some (.int .i64 qe)∧W.cell? ⟨w.heap.size,1,none⟩=some (.slice qo qL.length qc)∧W.cell? ⟨w.heap.size+1,0,none⟩=some (.int .i64 re)∧W.cell? ⟨w.heap.size+1,1,none⟩=some (.slice ro rL.length rc)∧w.heap.size < W.heap.size∧w.heap.size+1 < W.heap.size from by
  have e:W.heap[w.heap.size]?=_:=(hb.1.block w.heap.size (by omega)).trans g1
  have e2:W.heap[w.heap.size+1]?=_:=(hb.1.block (w.heap.size+1) (by omega)).trans g2
  exact ⟨z02 e 0,z02 e 1,z02 e2 0,z02 e2 1,lt_of_block e,lt_of_block e2⟩)
 have HQN:=Lh hqn
 have HQC:=Lh hqc
 have HRN:=Lh hrn
 have HRC:=Lh hrc
 have HQE:=Lh (show i64w qe from WalkArith.wf_i64 hqe)
 have DS:=Lh (show Bx (w.heap.size+2) ((w.alloc (.cells #[.int .i64 qe,.slice qo qL.length qc] 24)).alloc (.cells #[.int .i64 re,.slice ro rL.length rc] 24)) ((w.alloc (.cells #[.int .i64 qe,.slice qo qL.length qc] 24)).alloc (.cells #[.int .i64 re,.slice ro rL.length rc] 24)) from ⟨Below.refl _ _,by omega⟩)
 have D0:=Lh DS.out.drew
 have CO:=Lh old18_any
 clear hqC hqn hqc hqe hql hqm hrC hrn hrc hre hrl hrm g1 g2 hb0 hz0
 generalize hW0:((w.alloc (.cells #[.int .i64 qe,.slice qo qL.length qc] 24)).alloc (.cells #[.int .i64 re,.slice ro rL.length rc] 24))=W0 at *
 rcases Bool.eq_false_or_eq_true (largeB qL) with hlq | hlq
 ·rw [hlq] at LQ
  clear hlq
  go_enter Tryz.func6,Tryz.ntmps6
  go_wp2_with fail
  try rw [hW0]
  obtain ⟨d0,d1,d2,d3,dl,dm⟩:=HPC.out _ D0.out
  go_region_with (first
    | (go_at_call 8;(with_reducible refine (LQ.out _ D0.out).mono ?_);rintro e w2 ⟨rfl,hb2⟩;have D2:=Lh (D0.out.on hb2);clear d0 d1 d2 d3 dl dm;obtain ⟨d0,d1,d2,d3,dl,dm⟩:=HPC.out _ D2.out;clear hb2))
  all_goals
   clear d0 d1 d2 d3 dl dm
   go_wp2_with (go_at_call 9;refine (CW.out _).mono ?_;rintro e w30 ⟨rfl,hb30⟩;have D30:=Lh (D2.out.on hb30);clear hb30)
   go_ret
   exact ⟨rfl,HB0.out.trans (D30.out.1.mono (by omega))⟩
 rw [hlq] at LQ
 have q50:=largeB_no hlq
 rcases Bool.eq_false_or_eq_true (largeB rL) with hlr | hlr
 ·rw [hlr] at LR
  clear hlq hlr q50
  go_enter Tryz.func6,Tryz.ntmps6
  go_wp2_with fail
  try rw [hW0]
  obtain ⟨d0,d1,d2,d3,dl,dm⟩:=HPC.out _ D0.out
  go_region_with (first
    | (go_at_call 8;(with_reducible refine (LQ.out _ D0.out).mono ?_);rintro e w2 ⟨rfl,hb2⟩;have D2:=Lh (D0.out.on hb2);clear d0 d1 d2 d3 dl dm;obtain ⟨d0,d1,d2,d3,dl,dm⟩:=HPC.out _ D2.out;clear hb2)
    | (go_at_call 8;(with_reducible refine (LR.out _ D2.out).mono ?_);rintro e w3 ⟨rfl,hb3⟩;have D3:=Lh (D2.out.on hb3);clear d0 d1 d2 d3 dl dm;obtain ⟨d0,d1,d2,d3,dl,dm⟩:=HPC.out _ D3.out;clear hb3))
  all_goals
   clear d0 d1 d2 d3 dl dm
   go_wp2_with (go_at_call 9;refine (CW.out _).mono ?_;rintro e w30 ⟨rfl,hb30⟩;have D30:=Lh (D3.out.on hb30);clear hb30)
   go_ret
   exact ⟨rfl,HB0.out.trans (D30.out.1.mono (by omega))⟩
 rw [hlr] at LR
 have r50:=largeB_no hlr
 have HFQ:=Lh (show qL.length≤255∧∀ c ∈ qL,c.length≤255 from ⟨by omega,fun c hc=>Nat.le_trans (q50.2 c hc) (by decide)⟩)
 have HFR:=Lh (show rL.length≤255∧∀ c ∈ rL,c.length≤255 from ⟨by omega,fun c hc=>Nat.le_trans (r50.2 c hc) (by decide)⟩)
 have NXQ:=Lh (fun (W:World) (ao:Option Addr) (h:CL W ao oL) (hb:Bx (w.heap.size+2) W0 W)=>show Calls Tryz.prog 23 #[.agg #[.int .i64 0,.slice ao 2 2],.agg #[.int .i64 qe,.slice qo qL.length qc]] W (fun e w'=>e=.returned (.bool (nextB 0 oL qe qL))∧Below W.heap.size W w') from rnext_any 0 ao 2 oL qe qo qc qL W h (CQ.out W hb) ⟨by decide,by decide⟩ HFQ.out)
 have NXR:=Lh (fun (W:World) (ao:Option Addr) (h:CL W ao oL) (hb:Bx (w.heap.size+2) W0 W)=>show Calls Tryz.prog 23 #[.agg #[.int .i64 0,.slice ao 2 2],.agg #[.int .i64 re,.slice ro rL.length rc]] W (fun e w'=>e=.returned (.bool (nextB 0 oL re rL))∧Below W.heap.size W w') from rnext_any 0 ao 2 oL re ro rc rL W h (CR.out W hb) ⟨by decide,by decide⟩ HFR.out)
 clear q50 r50 hlq hlr
 cases hnq:nextB 0 oL qe qL
 ·rw [hnq] at NXQ
  clear hnq
  go_enter Tryz.func6,Tryz.ntmps6
  go_wp2_with fail
  try rw [hW0]
  obtain ⟨d0,d1,d2,d3,dl,dm⟩:=HPC.out _ D0.out
  go_region_with (first
    | (go_at_call 8;(with_reducible refine (LQ.out _ D0.out).mono ?_);rintro e w2 ⟨rfl,hb2⟩;have D2:=Lh (D0.out.on hb2);clear d0 d1 d2 d3 dl dm;obtain ⟨d0,d1,d2,d3,dl,dm⟩:=HPC.out _ D2.out;clear hb2)
    | (go_at_call 8;(with_reducible refine (LR.out _ D2.out).mono ?_);rintro e w3 ⟨rfl,hb3⟩;have D3:=Lh (D2.out.on hb3);clear d0 d1 d2 d3 dl dm;obtain ⟨d0,d1,d2,d3,dl,dm⟩:=HPC.out _ D3.out;clear hb3)
    | (go_at_call 24;(with_reducible refine (CO.out w3).mono ?_);rintro e w4 ⟨ao4,rfl,hC4,hb4⟩;have O4:=Lh (z1e hC4);have D4:=Lh (D3.out.on hb4);clear d0 d1 d2 d3 dl dm;obtain ⟨d0,d1,d2,d3,dl,dm⟩:=HPC.out _ D4.out;clear hC4 hb4)
    | (go_at_call 23;(with_reducible refine (NXQ.out w4 ao4 O4.out D4.out).mono ?_);rintro e w5 ⟨rfl,hb5⟩;have D5:=Lh (D4.out.on hb5);clear d0 d1 d2 d3 dl dm;obtain ⟨d0,d1,d2,d3,dl,dm⟩:=HPC.out _ D5.out;clear hb5))
  all_goals
   clear d0 d1 d2 d3 dl dm
   go_wp2_with (go_at_call 9;refine (CW.out _).mono ?_;rintro e w30 ⟨rfl,hb30⟩;have D30:=Lh (D5.out.on hb30);clear hb30)
   go_ret
   exact ⟨rfl,HB0.out.trans (D30.out.1.mono (by omega))⟩
 rw [hnq] at NXQ
 have HNQ:=Lh hnq
 clear hnq
 cases hnr:nextB 0 oL re rL
 ·rw [hnr] at NXR
  clear hnr
  go_enter Tryz.func6,Tryz.ntmps6
  go_wp2_with fail
  try rw [hW0]
  obtain ⟨d0,d1,d2,d3,dl,dm⟩:=HPC.out _ D0.out
  go_region_with (first
    | (go_at_call 8;(with_reducible refine (LQ.out _ D0.out).mono ?_);rintro e w2 ⟨rfl,hb2⟩;have D2:=Lh (D0.out.on hb2);clear d0 d1 d2 d3 dl dm;obtain ⟨d0,d1,d2,d3,dl,dm⟩:=HPC.out _ D2.out;clear hb2)
    | (go_at_call 8;(with_reducible refine (LR.out _ D2.out).mono ?_);rintro e w3 ⟨rfl,hb3⟩;have D3:=Lh (D2.out.on hb3);clear d0 d1 d2 d3 dl dm;obtain ⟨d0,d1,d2,d3,dl,dm⟩:=HPC.out _ D3.out;clear hb3)
    | (go_at_call 24;(with_reducible refine (CO.out w3).mono ?_);rintro e w4 ⟨ao4,rfl,hC4,hb4⟩;have O4:=Lh (z1e hC4);have D4:=Lh (D3.out.on hb4);clear d0 d1 d2 d3 dl dm;obtain ⟨d0,d1,d2,d3,dl,dm⟩:=HPC.out _ D4.out;clear hC4 hb4)
    | (go_at_call 23;(with_reducible refine (NXQ.out w4 ao4 O4.out D4.out).mono ?_);rintro e w5 ⟨rfl,hb5⟩;have D5:=Lh (D4.out.on hb5);clear d0 d1 d2 d3 dl dm;obtain ⟨d0,d1,d2,d3,dl,dm⟩:=HPC.out _ D5.out;clear hb5)
    | (go_at_call 24;(with_reducible refine (CO.out w5).mono ?_);rintro e w6 ⟨ao6,rfl,hC6,hb6⟩;have O6:=Lh (z1e hC6);have D6:=Lh (D5.out.on hb6);clear d0 d1 d2 d3 dl dm;obtain ⟨d0,d1,d2,d3,dl,dm⟩:=HPC.out _ D6.out;clear hC6 hb6)
    | (go_at_call 23;(with_reducible refine (NXR.out w6 ao6 O6.out D6.out).mono ?_);rintro e w7 ⟨rfl,hb7⟩;have D7:=Lh (D6.out.on hb7);clear d0 d1 d2 d3 dl dm;obtain ⟨d0,d1,d2,d3,dl,dm⟩:=HPC.out _ D7.out;clear hb7))
  all_goals
   clear d0 d1 d2 d3 dl dm
   go_wp2_with (go_at_call 9;refine (CW.out _).mono ?_;rintro e w30 ⟨rfl,hb30⟩;have D30:=Lh (D7.out.on hb30);clear hb30)
   go_ret
   exact ⟨rfl,HB0.out.trans (D30.out.1.mono (by omega))⟩
 rw [hnr] at NXR
 have HNR:=Lh hnr
 clear hnr
 go_enter Tryz.func6,Tryz.ntmps6
 go_wp2_with fail
 try rw [hW0]
 obtain ⟨d0,d1,d2,d3,dl,dm⟩:=HPC.out _ D0.out
 go_cut [35] from 18 to 35 (fun c wx=>c=.bool false∧Hid (Bx (w.heap.size+2) W0 wx))
 case first =>
  go_region_with (first
    | (go_at_call 8;(with_reducible refine (LQ.out _ D0.out).mono ?_);rintro e w2 ⟨rfl,hb2⟩;have D2:=Lh (D0.out.on hb2);clear d0 d1 d2 d3 dl dm;obtain ⟨d0,d1,d2,d3,dl,dm⟩:=HPC.out _ D2.out;clear hb2)
    | (go_at_call 8;(with_reducible refine (LR.out _ D2.out).mono ?_);rintro e w3 ⟨rfl,hb3⟩;have D3:=Lh (D2.out.on hb3);clear d0 d1 d2 d3 dl dm;obtain ⟨d0,d1,d2,d3,dl,dm⟩:=HPC.out _ D3.out;clear hb3)
    | (go_at_call 24;(with_reducible refine (CO.out w3).mono ?_);rintro e w4 ⟨ao4,rfl,hC4,hb4⟩;have O4:=Lh (z1e hC4);have D4:=Lh (D3.out.on hb4);clear d0 d1 d2 d3 dl dm;obtain ⟨d0,d1,d2,d3,dl,dm⟩:=HPC.out _ D4.out;clear hC4 hb4)
    | (go_at_call 23;(with_reducible refine (NXQ.out w4 ao4 O4.out D4.out).mono ?_);rintro e w5 ⟨rfl,hb5⟩;have D5:=Lh (D4.out.on hb5);clear d0 d1 d2 d3 dl dm;obtain ⟨d0,d1,d2,d3,dl,dm⟩:=HPC.out _ D5.out;clear hb5)
    | (go_at_call 24;(with_reducible refine (CO.out w5).mono ?_);rintro e w6 ⟨ao6,rfl,hC6,hb6⟩;have O6:=Lh (z1e hC6);have D6:=Lh (D5.out.on hb6);clear d0 d1 d2 d3 dl dm;obtain ⟨d0,d1,d2,d3,dl,dm⟩:=HPC.out _ D6.out;clear hC6 hb6)
    | (go_at_call 23;(with_reducible refine (NXR.out w6 ao6 O6.out D6.out).mono ?_);rintro e w7 ⟨rfl,hb7⟩;have D7:=Lh (D6.out.on hb7);clear d0 d1 d2 d3 dl dm;obtain ⟨d0,d1,d2,d3,dl,dm⟩:=HPC.out _ D7.out;clear hb7))
  all_goals
   clear d0 d1 d2 d3 dl dm
   go_wp2_with fail
   go_meet
   exact ⟨rfl,D7⟩
 case rest =>
  obtain ⟨rfl,HX0⟩:=hcut
  clear d0 d1 d2 d3 dl dm D0 LQ LR NXQ NXR
  have ND:=Lh (fun (F:Nat→Prop) (W:World) (ao:Option Addr) (h:CG F W (.slice ao 2 2) oL)=>show CL W ao oL∧(ao=none→2=0) from ⟨z1e h,by
   obtain ⟨a2,c2,hv,h2,_⟩:=h
   obtain ⟨rfl,_,rfl⟩:=Value.slice.inj hv
   exact h2⟩)
  have CM:=Lh (fun ao w hC=>made18 HS ao 100 w hC ⟨by decide,by decide⟩ (fun _=>noS))
  go_wp2_with (first
   | (go_at_call 10;refine (sr_new RS (TT.out b nb) S9.out (CQ.out _ D9.out) HFQ.out HQN.out HQC.out HQE.out).mono ?_;rintro e w10 ⟨br,rfl,hs,hb⟩;have S10:=Lh hs;have D10:=Lh (D9.out.on hb);clear hs hb)
   | (go_at_call 25;refine (CM.out ao8 w8 C8.out).mono ?_;rintro e w9 ⟨b,nb,p,h9,rfl,hr,hs,hb⟩;have HR9:=Lh hr;have S9:=Lh (hs.less (fun k hk=>Nat.lt_of_lt_of_le hk D8.out.2));have D9:=Lh (D8.out.on hb);obtain ⟨d0,d1,d2,d3,dl,dm⟩:=HPC.out _ D9.out;clear hr hs hb)
   | (go_at_call 24;refine (CO.out wc).mono ?_;rintro e w8 ⟨ao8,rfl,hC,hb⟩;have D8:=Lh (HX0.out.on hb);have C8:=Lh (z1e hC);clear hC hb))
  clear d0 d1 d2 d3 dl dm CM C8 D8
  have HRQ:=Lh (HR9.out.ready HNQ.out (Fell.refl h9.n qL))
  have HU:=Lh HR9.out.used
  have HU1:=Lh (show h9.n.l.used.length≤1000 from by have:=HU.out;omega)
  go_loopw [11] (fun i wr=>∃ (k:Nat) (h:Hd) (r:Rf),i=.int .i64 k∧k≤N∧Hid (RunR h9.n h.n qe qL r)∧Hid (Side (HG b nb) (RG br) (fun k=>k < (w.heap.size+2)) wr h r)∧Hid (Bx (w.heap.size+2) W0 wr)) (fun i _=>N - (intOf i).toNat)
  case atStart=>exact ⟨0,h9,_,rfl,Nat.zero_le _,Lh (RunR.start HRQ.out),S10,D10⟩
  case round =>
   clear S10 D10 S9 D9
   obtain ⟨k,h,r,rfl,hk,HV,HT,HD⟩:=hrel
   by_cases hlt:k < N
   ·have k0:(k:Int) < (N:Int):=by omega
    obtain ⟨kd,un,ke,pg,kpe,qs,kL,hq⟩:=ask_openR r
    have HQ:=Lh hq
    obtain ⟨HSQ0,HFX0,HUU0⟩:=HV.out.asks0 HRQ.out HU1.out
    have HSQ:=Lh (show SmR ⟨kd,un,ke,pg,0,0,qs,kpe,kL,none,0⟩ from hq ▸ HSQ0)
    have HUU:=Lh HUU0
    by_cases h5:r.at_=5
    ·have HAS:=Lh (show r.asks=false from decide_eq_false (fun g=>g h5))
     clear h5 hq HSQ0 HFX0 HUU0
     go_wp2_with (go_at_call 13;refine (sr_ask RS (TT.out b nb) HT.out HQ.out).mono ?_;rw [HAS.out];rintro e v1 ⟨vo1,vc1,C1,rfl,hC1,hs1,hk1⟩;have T1:=Lh (hs1.below (TT.out b nb) (TA.out br) (z00 v1 (.cells #[.int .i64 kd,.int .i64 un,.int .i64 ke,.int .i64 pg,.int .i64 0,.int .i64 0,.string qs,.int .i64 kpe,.slice vo1 kL.length vc1] 34)));have V1:=Lh ((HD.out.kept hk1 (fun k h=>h)).on (z00 v1 (.cells #[.int .i64 kd,.int .i64 un,.int .i64 ke,.int .i64 pg,.int .i64 0,.int .i64 0,.string qs,.int .i64 kpe,.slice vo1 kL.length vc1] 34)));clear hC1 hs1 hk1)
     exact ⟨⟨k+1,h,r,by go_num,by omega,HV,Lh (T1.out.less (fun k h=>.inl h)),V1⟩,by simp [intOf];omega⟩
    ·have HAS:=Lh (show r.asks=true from decide_eq_true h5)
     have HN3:=Lh (HV.out.step0 HRQ.out h5)
     obtain ⟨xc,xn,xd,pe,xL,xm,xz,xe,hx⟩:∃ xc xn xd pe xL xm xz xe,h.heard r.ask 0=⟨xc,xn,xd,pe,xL,xm,xz,xe⟩:=⟨_,_,_,_,_,_,_,_,rfl⟩
     have HFX:=Lh (show FewR r ⟨xc,xn,xd,pe,xL,xm,xz,xe⟩ from hx ▸ HFX0 0)
     have HX1:=Lh (show h.heard ⟨kd,un,ke,pg,0,0,qs,kpe,kL,none,0⟩ 0=⟨xc,xn,xd,pe,xL,xm,xz,xe⟩ from HQ.out ▸ hx)
     rw [hx] at HN3
     clear h5 hq hx HSQ0 HFX0 HUU0
     go_wp2_with (first
      | (go_at_call 21;refine (sr_hear RS (TT.out b nb) T2.out HFX.out HC2.out (fun k h=>.inr h)).mono ?_;rintro e v4 ⟨rfl,hs4,hk4⟩;have T4:=Lh hs4;have V4:=Lh (V2.out.kept hk4 (fun k h=>.inl (.inl h)));clear hs4 hk4)
      | (go_at_call 41;refine (hs_brings HS (TA.out br) T1.out (a:=⟨kd,un,ke,pg,0,0,qs,kpe,kL,vo1,vc1⟩) (fate:=0) (HSQ.out.ok HC1.out) HSQ.out.L HSQ.out.q.data HUU.out (ZZ.out 0 (by omega)) HC1.out (fun k h=>.inr h) ((z1g h kd un ke pg kpe qs kL vo1 vc1 0).trans HX1.out)).mono ?_;rw [show decide ((0:Int)=0)=true from rfl];rintro e v2 ⟨vo2,vc2,D,rfl,hC,hs2,hk2⟩;have HC2:=Lh hC;have T2:=Lh hs2;have V2:=Lh (V1.out.kept hk2 (fun k h=>.inl h));clear hs2 hk2 hC)
      | (go_at_call 13;refine (sr_ask RS (TT.out b nb) HT.out HQ.out).mono ?_;rw [HAS.out];rintro e v1 ⟨vo1,vc1,C1,rfl,hC1,hs1,hk1⟩;have HC1:=Lh (hC1.keep (Kept.ofBelow (z00 v1 (.cells #[.int .i64 kd,.int .i64 un,.int .i64 ke,.int .i64 pg,.int .i64 0,.int .i64 0,.string qs,.int .i64 kpe,.slice vo1 kL.length vc1] 34)) (fun _=>True)) (fun _ _=>trivial));have T1:=Lh (hs1.below (TT.out b nb) (TA.out br) (z00 v1 (.cells #[.int .i64 kd,.int .i64 un,.int .i64 ke,.int .i64 pg,.int .i64 0,.int .i64 0,.string qs,.int .i64 kpe,.slice vo1 kL.length vc1] 34)));have V1:=Lh ((HD.out.kept hk1 (fun k h=>h)).on (z00 v1 (.cells #[.int .i64 kd,.int .i64 un,.int .i64 ke,.int .i64 pg,.int .i64 0,.int .i64 0,.string qs,.int .i64 kpe,.slice vo1 kL.length vc1] 34)));clear hC1 hs1 hk1))
     refine ⟨⟨k+1,_,_,by go_num,by omega,HN3,Lh ?_,V4⟩,by simp [intOf];omega⟩
     rw [HQ.out]
     exact T4.out.less (fun k h=>.inl (.inl h))
   ·obtain rfl:k=N:=by omega
    have k0:¬ (k:Int) < (k:Int):=by omega
    have HQ1:=Lh (show qe=1 from by have:=(nextB_iff.1 HNQ.out).2.2.1;omega)
    have HR1:=Lh (show re=1 from by have:=(nextB_iff.1 HNR.out).2.2.1;omega)
    have HGQ:=Lh (show goodB qe qL=true from (nextB_iff.1 HNQ.out).2.1)
    have HGR:=Lh (show goodB re rL=true from (nextB_iff.1 HNR.out).2.1)
    clear hlt hk
    rcases HV.out.again HR9.out HNQ.out (show nextB 0 oL qe rL=true from by have g:=HNR.out;rw [HR1.out] at g;rw [HQ1.out];exact g) with ⟨hl,hr⟩ | ⟨hl,hl2⟩
    ·have HLN:=Lh hl
     have HRR:=Lh (show Ready h.n re rL from by rw [HQ1.out] at hr;rw [HR1.out];exact hr)
     clear hl hr
     go_wp2_with (first
      | (go_at_call 32;refine (chg_any HS RS b nb (fun k=>k < (w.heap.size+2)) w13 h S13.out re rL HRR.out (by rw [HLN.out];have:=HU.out;omega) ro rc (CR.out _ D13.out) HRN.out HRC.out none 0 [] (by decide) (fun W _=>Row.nil _ _ _ _) (fun x hx=>by cases hx)).mono ?_;rintro e w16 ⟨rfl,h16,K,hC,hs,hk⟩;have HC16:=Lh hC;have S16:=Lh hs;have D16:=Lh (D13.out.kept hk (fun k h=>h));obtain ⟨d0,d1,d2,d3,dl,dm⟩:=HPC.out _ D16.out;clear hC hs hk)
      | (go_at_call 36;refine (HS.rpc.layout_.now bl F12 w12 _ L12.out).mono ?_;rw [HLN.out,HR9.out.le];rintro e w13 ⟨v13,rfl,hO,hb⟩;have D13:=Lh (D12.out.on hb);have S13:=Lh (S12.out.below (TT.out b nb) hb);obtain ⟨d0,d1,d2,d3,dl,dm⟩:=HPC.out _ D13.out;clear hO hb)
      | (go_at_call 35;refine (ho_layout HS S11.out).mono ?_;rintro e w12 ⟨bl,rfl,hb,F12,hl⟩;have L12:=Lh hl;have D12:=Lh (D11.out.on hb);have S12:=Lh (S11.out.below (TT.out b nb) hb);clear hl hb)
      | (go_at_call 29;refine (ho_nodes HS HT.out.left).mono ?_;rintro e w11 ⟨rfl,hs,hb⟩;have S11:=Lh hs;have D11:=Lh (HD.out.on hb);clear hs hb))
     have HLE:=Lh (show h16.n.l.ep=re from by rw [HC16.out.l];rfl)
     have HLL:=Lh (show h16.n.l.L=rL from by rw [HC16.out.l];rfl)
     have V17:=Lh (heap_alloc_new w16 (.cells #[.int .i64 re,.slice ro rL.length rc] 24))
     have D17:=Lh (D16.out.on (z00 w16 (.cells #[.int .i64 re,.slice ro rL.length rc] 24)))
     have S17:=Lh (S16.out.below (TT.out b nb) (z00 w16 (.cells #[.int .i64 re,.slice ro rL.length rc] 24)))
     have HLM:=Lh (show rL.length≤1000000∧∀ c ∈ rL,c.length≤1000000 from ⟨Nat.le_trans HFR.out.1 (by decide),fun c hc=>Nat.le_trans (HFR.out.2 c hc) (by decide)⟩)
     generalize w16.alloc _=w17 at *
     obtain ⟨g0,g1,_⟩:=z05 V17.out
     have gl:=lt_of_block V17.out
     clear d0 d1 d2 d3 dl dm
     go_region_with (first
      | (go_at_call 29;refine (ho_nodes HS (S17.out.below (TT.out b nb) (Below.refl _ _).drew)).mono ?_;rintro e w18 ⟨rfl,hs,hb⟩;have S18:=Lh hs;have B18:=Lh (z0c (w1:=w17) hb (Below.refl _ _).drew);have V18:=Lh (z01 B18.out V17.out);clear g0 g1 gl;obtain ⟨g0,g1,_⟩:=z05 V18.out;have gl:=lt_of_block V18.out;clear hs hb)
      | (go_at_call 35;refine (ho_layout HS S18.out).mono ?_;rintro e w19 ⟨bl,rfl,hb,F19,hl⟩;have L19:=Lh hl;have B19:=Lh (B18.out.trans (hb.mono B18.out.size));have V19:=Lh (z01 B19.out V17.out);clear g0 g1 gl;obtain ⟨g0,g1,_⟩:=z05 V19.out;have gl:=lt_of_block V19.out;clear hl hb)
      | (go_at_call 36;refine (HS.rpc.layout_.now bl F19 w19 _ L19.out).mono ?_;rw [HLE.out,HLL.out];rintro e w20 ⟨v20,rfl,hO,hb⟩;obtain ⟨ao20,c20,rfl,hC20,_⟩:=hO.form;have C20:=Lh hC20;have B20:=Lh (B19.out.trans (hb.mono B19.out.size));have V20:=Lh (z01 B20.out V17.out);clear g0 g1 gl;obtain ⟨g0,g1,_⟩:=z05 V20.out;have gl:=lt_of_block V20.out;clear hO hb hC20)
      | (go_at_call 34;refine (z20 re ao20 c20 rL re ro rc rL w20 C20.out (CR.out _ (D17.out.on B20.out)) HLM.out HLM.out).mono ?_;rw [sameP_self];rintro e w21 ⟨rfl,hb⟩;have D21:=Lh (D17.out.on (B20.out.trans (hb.mono B20.out.size)));clear hb)
      | (go_at_call 9;refine (CW.out _).mono ?_;rintro e w30 ⟨rfl,hb30⟩;have D30:=Lh (D21.out.on hb30);clear hb30))
     all_goals
      go_wp2_with fail
      go_ret
      exact ⟨rfl,HB0.out.trans (D30.out.1.mono (by omega))⟩
    ·have HLN:=Lh hl
     have HLE0:=Lh hl2
     have HLL0:=Lh (show h.n.l.L=qL from by rw [hl];rfl)
     have HUC:=Lh (show (chgL h9.n.l qe qL).used.length≤1000 from by
      have h16:=z26 HGQ.out
      have:=HU.out
      show (h9.n.l.used ++ unitsR qL).length≤1000
      rw [List.length_append]
      omega)
     have HNN:=Lh (show nextB qe qL re rL=false from by
      cases hx:nextB qe qL re rL with
      | false=>rfl
      | true =>
       have:=(nextB_iff.1 hx).2.2.1
       have:=HQ1.out
       have:=HR1.out
       omega)
     clear hl hl2
     go_wp2_with (first
      | (go_at_call 32;refine (chg48_any HS RS b nb (fun k=>k < (w.heap.size+2)) w13 h S13.out re rL HGR.out (by rw [HLE0.out,HLL0.out];exact HGQ.out) (by rw [HLE0.out,HLL0.out];exact HNN.out) (by rw [HLN.out];exact HUC.out) ro rc (CR.out _ D13.out) HRN.out HRC.out).mono ?_;rintro e w16 ⟨rfl,h16,hC,hs,hk⟩;have HC16:=Lh hC;have S16:=Lh hs;have D16:=Lh (D13.out.kept hk (fun k h=>h));obtain ⟨d0,d1,d2,d3,dl,dm⟩:=HPC.out _ D16.out;clear hC hs hk)
      | (go_at_call 36;refine (HS.rpc.layout_.now bl F12 w12 _ L12.out).mono ?_;rw [HLE0.out,HQ1.out];rintro e w13 ⟨v13,rfl,hO,hb⟩;have D13:=Lh (D12.out.on hb);have S13:=Lh (S12.out.below (TT.out b nb) hb);obtain ⟨d0,d1,d2,d3,dl,dm⟩:=HPC.out _ D13.out;clear hO hb)
      | (go_at_call 35;refine (ho_layout HS S11.out).mono ?_;rintro e w12 ⟨bl,rfl,hb,F12,hl⟩;have L12:=Lh hl;have D12:=Lh (D11.out.on hb);have S12:=Lh (S11.out.below (TT.out b nb) hb);clear hl hb)
      | (go_at_call 29;refine (ho_nodes HS HT.out.left).mono ?_;rintro e w11 ⟨rfl,hs,hb⟩;have S11:=Lh hs;have D11:=Lh (HD.out.on hb);clear hs hb))
     have HLE:=Lh (show h16.n.l.ep=qe from by rw [HC16.out];exact HLE0.out)
     have HLL:=Lh (show h16.n.l.L=qL from by rw [HC16.out];exact HLL0.out)
     have V17:=Lh (heap_alloc_new w16 (.cells #[.int .i64 qe,.slice qo qL.length qc] 24))
     have D17:=Lh (D16.out.on (z00 w16 (.cells #[.int .i64 qe,.slice qo qL.length qc] 24)))
     have S17:=Lh (S16.out.below (TT.out b nb) (z00 w16 (.cells #[.int .i64 qe,.slice qo qL.length qc] 24)))
     have HLM:=Lh (show qL.length≤1000000∧∀ c ∈ qL,c.length≤1000000 from ⟨Nat.le_trans HFQ.out.1 (by decide),fun c hc=>Nat.le_trans (HFQ.out.2 c hc) (by decide)⟩)
     generalize w16.alloc _=w17 at *
     obtain ⟨g0,g1,_⟩:=z05 V17.out
     have gl:=lt_of_block V17.out
     clear d0 d1 d2 d3 dl dm
     go_region_with (first
      | (go_at_call 29;refine (ho_nodes HS (S17.out.below (TT.out b nb) (Below.refl _ _).drew)).mono ?_;rintro e w18 ⟨rfl,hs,hb⟩;have S18:=Lh hs;have B18:=Lh (z0c (w1:=w17) hb (Below.refl _ _).drew);have V18:=Lh (z01 B18.out V17.out);clear g0 g1 gl;obtain ⟨g0,g1,_⟩:=z05 V18.out;have gl:=lt_of_block V18.out;clear hs hb)
      | (go_at_call 35;refine (ho_layout HS S18.out).mono ?_;rintro e w19 ⟨bl,rfl,hb,F19,hl⟩;have L19:=Lh hl;have B19:=Lh (B18.out.trans (hb.mono B18.out.size));have V19:=Lh (z01 B19.out V17.out);clear g0 g1 gl;obtain ⟨g0,g1,_⟩:=z05 V19.out;have gl:=lt_of_block V19.out;clear hl hb)
      | (go_at_call 36;refine (HS.rpc.layout_.now bl F19 w19 _ L19.out).mono ?_;rw [HLE.out,HLL.out];rintro e w20 ⟨v20,rfl,hO,hb⟩;obtain ⟨ao20,c20,rfl,hC20,_⟩:=hO.form;have C20:=Lh hC20;have B20:=Lh (B19.out.trans (hb.mono B19.out.size));have V20:=Lh (z01 B20.out V17.out);clear g0 g1 gl;obtain ⟨g0,g1,_⟩:=z05 V20.out;have gl:=lt_of_block V20.out;clear hO hb hC20)
      | (go_at_call 34;refine (z20 qe ao20 c20 qL qe qo qc qL w20 C20.out (CQ.out _ (D17.out.on B20.out)) HLM.out HLM.out).mono ?_;rw [sameP_self];rintro e w21 ⟨rfl,hb⟩;have D21:=Lh (D17.out.on (B20.out.trans (hb.mono B20.out.size)));clear hb)
      | (go_at_call 9;refine (CW.out _).mono ?_;rintro e w30 ⟨rfl,hb30⟩;have D30:=Lh (D21.out.on hb30);clear hb30))
     all_goals
      go_wp2_with fail
      go_ret
      exact ⟨rfl,HB0.out.trans (D30.out.1.mono (by omega))⟩
set_option maxRecDepth 100000 in
theorem reformAgain_lifted (os:Os) (started:os.Started) (H:Type) (enc:TypeId × Value→H) :
  ReturnsInHanded {} Tryz.checked os 6 .any (Rows.reformAgainSpec.pre6 enc Tryz.prog Tryz.f6 Rows.reformAgainRow.domain false) (Rows.reformAgainSpec.post enc Tryz.prog Tryz.f6 false true false false):=by
 refine returnsInHanded_of_change (C:=Tryz.checked) own started (by kernel_rfl) Tryz.func6
  (ChangeSpec.witness6 (enc:=enc) (C:=Tryz.checked) false ⟨#[],#[.int .u8 0,.agg #[.int .i64 0,.slice none 0 0],.agg #[.int .i64 0,.slice none 0 0]],[]⟩ 8 (by kernel_rfl) (by kernel_rfl) (by kernel_rfl) (by kernel_rfl)) ?_
 intro W base args ds gs before hval0 hW hcnd _
 have hval:∀ (j:Nat) t v,Tryz.f6.params[j]?=some t→args[j]?=some v→Value.okWide Tryz.prog W .any base t v:=hval0
 have hW':=hW
 obtain ⟨p,q,hA0,hV,rfl,hfz,hnd⟩:=hW
 have hA:DataW.TrodAll enc Tryz.prog W 0 (fun _=>true) true Tryz.f6.params.toList args.toList ds p:=hA0
 rw [Tryz.params6] at hA hval
 obtain ⟨v0,vs0,d0,ds0,p0,q0,hargs,rfl,rfl,h0,r0⟩:=trodAll_cons hA
 obtain ⟨v1,vs1,d1,ds1,p1,q1,rfl,rfl,rfl,h1,r1⟩:=trodAll_cons r0
 obtain ⟨v2,vs2,d2,ds2,p2,q2,rfl,rfl,rfl,h2,r2⟩:=trodAll_cons r1
 obtain ⟨rfl,rfl,rfl⟩:=trodAll_nil r2
 obtain rfl:args=#[v0,v1,v2]:=by cases args;simp_all
 obtain ⟨rfl,rfl⟩:=trodVars_none hV
 have k0:=h0
 have lt0:∀ x ∈ p0,x.block < W.heap.size:=by obtain ⟨m,hm⟩:=k0;exact DataW.trod_lt m _ _ _ hm
 have k1:=h1
 have lt1:∀ x ∈ p1,x.block < W.heap.size:=by obtain ⟨m,hm⟩:=k1;exact DataW.trod_lt m _ _ _ hm
 have k2:=h2
 have lt2:∀ x ∈ p2,x.block < W.heap.size:=by obtain ⟨m,hm⟩:=k2;exact DataW.trod_lt m _ _ _ hm
 obtain ⟨a0,rfl,rfl,rfl,w0⟩:=open_int Tryz.underlying5 (hval 0 5 v0 rfl rfl) h0
 obtain ⟨ep1,ao1,cap1,L1,rfl,wf1,hC1,hn1,hc1,hl1,hm1⟩:=open_proj Tryz.underlying24 (by kernel_rfl) rfl rfl (by kernel_rfl) (by kernel_rfl) Tryz.underlying3 Tryz.underlying22 Tryz.underlying65 (by kernel_rfl) (hval 1 24 v1 rfl rfl) h1
 have hF1:PIn W ep1 ao1 cap1 L1:=⟨⟨hC1,hn1,hc1⟩,i64_of_wf wf1,hl1,fun c hcm=>by obtain ⟨i,hi,rfl⟩:=List.getElem_of_mem hcm;exact hm1 i hi⟩
 obtain ⟨ep2,ao2,cap2,L2,rfl,wf2,hC2,hn2,hc2,hl2,hm2⟩:=open_proj Tryz.underlying24 (by kernel_rfl) rfl rfl (by kernel_rfl) (by kernel_rfl) Tryz.underlying3 Tryz.underlying22 Tryz.underlying65 (by kernel_rfl) (hval 2 24 v2 rfl rfl) h2
 have hF2:PIn W ep2 ao2 cap2 L2:=⟨⟨hC2,hn2,hc2⟩,i64_of_wf wf2,hl2,fun c hcm=>by obtain ⟨i,hi,rfl⟩:=List.getElem_of_mem hcm;exact hm2 i hi⟩
 clear hA0 hval0
 refine (reformAgain_walk handSays appSays fetchSays rfmSays a0 ep1 ao1 cap1 L1 ep2 ao2 cap2 L2 w0 W hF1 hF2).mono fun e W' ⟨he,bel⟩=>?_
 subst he
 exact ⟨_,rfl,_,_,_,[],_,[],hW',trodAll_mk1 (shut_bool Tryz.underlying4 _),(trodAll_cons_mk (Below.trod z1q (by kernel_rfl) (of_decide_eq_true (by kernel_rfl)) k0 bel lt0) (trodAll_cons_mk (Below.trod z1q (by kernel_rfl) (of_decide_eq_true (by kernel_rfl)) k1 bel lt1) (trodAll_cons_mk (Below.trod z1q (by kernel_rfl) (of_decide_eq_true (by kernel_rfl)) k2 bel lt2) trodAll_mk0))),rfl,bel.frame _,fun h=>by cases h⟩
theorem reformAgain_over:Rows.reformAgainRow.holds Tryz.pinned (OpenSpec.ofChange Rows.reformAgainSpec) :=
 OpenClaim.holds_of_wide 6 Tryz.f6 rfl rfl rfl rfl rfl rfl rfl ⟨rfl,rfl,rfl,rfl,rfl⟩ rfl rfl rfl rfl rfl (by kernel_rfl) Tryz.func6 (by kernel_rfl)
  (of_decide_eq_true (by kernel_rfl)) (by unfold Func.isWrapper;first | (rw [if_pos (by decide +kernel)];kernel_rfl) | (rw [if_neg (by decide +kernel)];exact ⟨rfl,rfl⟩))
  (fun os started H enc _=>reformAgain_lifted os started H enc)
theorem reformAgain_holds:Rows.ReformAgainSaid:=reformAgain_over
end Go.Proofs.YtkefpbcifcjibaaGreat
