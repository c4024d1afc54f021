/- The law FetchMends: what was left half done is mended, and all units of the chain have it then. Conditions: none. (Written by gen/genfetchmends.py.) -/
import Derived.Test.YthffjanidjjkdaaGreatG31a
import Derived.Test.YthffjanidjjkdaaGreatG35a
import Derived.Test.YthffjanidjjkdaaGreatG06a
import Derived.Test.YthffjanidjjkdaaGreatG12b
import Derived.Deep.RegionHeld3
namespace Go.Proofs.YthffjanidjjkdaaGreat
open Go.ChangeShapes Go.WideShapes Go.ChangeAt Go.RowKit
open Go.ChangeMaps (open_string shut_string)
set_option linter.unusedVariables false
set_option maxRecDepth 20000
theorem th_used (room : Int) : (newN 0 thL room).l.used.length ≤ 100000 := by
  show (newL 0 thL).used.length ≤ 100000
  decide +kernel
theorem two_keepF {W W' : World} {p q o o2 : Nat} {u v : Value} (h : W.cell? ⟨p, o, none⟩ = some u ∧ W.cell? ⟨q, o2, none⟩ = some v) (hb : Below W.heap.size W W') : W'.cell? ⟨p, o, none⟩ = some u ∧ W'.cell? ⟨q, o2, none⟩ = some v := ⟨cellB hb (block_lt_of_cell h.1) h.1, cellB hb (block_lt_of_cell h.2) h.2⟩
/-- what the first unit tells -/
theorem first_told {n : Nd} (h : LayN n) {m : Int} (hm : 0 ≤ m ∧ m < 42) : (n.u (unF m 0)).p.readE (m / 3) = (if FK n m 0 = 0 then 42 else if FK n m 0 = 2 then 46 else 0) ∧ (FK n m 0 = 1 → (n.u (unF m 0)).p.readS (m / 3) = FX n m 0) := by
  have e : (n.u (unF m 0)).p.readE (m / 3) = (if FK n m 0 = 0 then 42 else if FK n m 0 = 2 then 46 else 0) := by
    unfold Ps.readE
    rw [if_neg (by rw [there14 (show 0 ≤ m / 3 ∧ m / 3 < 14 by omega)]; decide), if_neg (show ¬ (n.u (unF m 0)).p.kind (m / 3) = 3 from h.kind (a := m) (j := 0) (by have := lenF_pos m; omega))]
    rfl
  refine ⟨e, fun g => ?_⟩
  unfold Ps.readS
  rw [e, g]
  rfl
theorem text_short {n : Nd} (h : FtN n) {a : Int} {j : Nat} (hj : j < lenF a) : (FX n a j).size ≤ 4096 := by
  unfold FX Ps.text
  cases e : findP (n.u (unF a j)).p.l (a / 3) with
  | some x => exact ((h.u _ (by have := unF_low hj; omega)).ok.each x (findP_some e).1).2.2
  | none => show (⟨#[]⟩ : ByteArray).size ≤ 4096; decide
theorem cg_none {F : Nat → Prop} {W : World} {ao : Option Addr} {n cap : Nat} {L : List (List Int)} (h : CG F W (.slice ao n cap) L) : ao = none → cap = 0 := by
  obtain ⟨a2, c2, hv, h2, _⟩ := h
  obtain ⟨rfl, _, rfl⟩ := Value.slice.inj hv
  exact h2
/-- a number of a row of the call's own -/
theorem row_atM {W : World} {B : Nat} {co : Option Addr} {cc : Nat} {C : List Int} (h : OI W B (.slice co C.length cc) C) {j : Nat} (hj : j < C.length) : ∃ bk off, co = some ⟨bk, off, none⟩ ∧ W.cell? ⟨bk, off + j, none⟩ = some (.int .i64 C[j]) := by
  obtain ⟨a2, c2, hv, hN, _⟩ := h.form
  obtain ⟨rfl, _, rfl⟩ := Value.slice.inj hv
  exact (hN.1 j hj).1
theorem unit_at {C : List Int} {m : Int} {j : Nat} (hC : C.length = lenF m) (hU : ∀ j, j < lenF m → C.getD j 0 = (unF m j : Int)) (hj : j < C.length) : C[j] = (unF m j : Int) := by
  have h := hU j (by omega)
  rw [List.getD_eq_getElem?_getD, List.getElem?_eq_getElem hj] at h
  exact h
set_option maxHeartbeats 32000000 in
theorem fetchMends_walk {UG : Nat → Nat → (Nat → Prop) → World → Us → Prop} {OG : Nat → (Nat → Prop) → World → Od → Prop} {LG : Nat → (Nat → Prop) → World → Ly → Prop} {NG : Nat → (Nat → Prop) → World → Nd → Prop} {HG : Nat → Nat → (Nat → Prop) → World → Hd → Prop} {FG : Nat → (Nat → Prop) → World → Fe → Prop} (HS : HandSays UG OG LG NG HG) (FS : FetchSays FG) (LS : LooksSays UG) (po : Option Addr) (pc : Nat) (l : List Pt) (addr : Int) (fo : Option Addr) (fc : Nat) (fl : List Int) (hl : l.length ≤ maxLen) (wa : (Lit.int .i64 addr).wf = true) (hd : fl.length ≤ maxLen) (w : World) (hR : Row w po 4 putC l) (hKP : ∀ p ∈ l, PtIn w p) (hR2 : Row w fo 1 byteC fl) (hK2 : ∀ x ∈ fl, byteOk w x) :
    Calls Tryz.prog 3 #[.slice po l.length pc, .int .i64 addr, .slice fo fl.length fc] w fun e w' => e = .returned (.bool true) ∧ Below w.heap.size w w' := by
  have hK : ∀ p ∈ l, p.s.size ≤ maxLen := fun p hp => (hKP p hp).2.2
  clear wa
  have CW := Lib.hid (fun w => wakes16_any HS FS LS w)
  have CT := Lib.hid three16_any
  have TT := Lib.hid (fun b nb => HS.thing b nb)
  have ZZ := Lib.hid (fun (x : Int) (h : 0 ≤ x ∧ x ≤ 300) => show i64w x from WalkArith.wf_i64 (by omega))
  have CM := Lib.hid (fun ao W (hC : CL W ao thL) => made16_two HS ao thL 3 rfl 200 W hC few_th thL_good (by decide))
  have CF := Lib.hid (fun W (hb : Below w.heap.size w W) => fair16_any po pc l hl W (hR.below hb) hK)
  have HFP := Lib.hid (show fairP l = true → ∀ p ∈ l, p.s.size ≤ 1000 from fun h p hp => of_decide_eq_true (List.all_eq_true.1 h p hp))
  have HR := Lib.hid (fun W (hb : Below w.heap.size w W) => hR.below hb)
  have HR2 := Lib.hid (fun W (hb : Below w.heap.size w W) => hR2.below hb)
  have HK2 := Lib.hid hK2
  have HL := Lib.hid hl
  unfold maxLen at hl hd
  have hd' : (fl.length : Int) ≤ 9223372036854775807 := by omega
  clear hR hK hKP hR2 hK2
  by_cases hgo : fairP l = true ∧ fl.length ≤ 60
  · obtain ⟨hf, h60⟩ := hgo
    rw [hf] at CF
    have HS1 := Lib.hid (HFP.out hf)
    have n60 : ¬ (60 : Int) < (fl.length : Int) := by omega
    clear hf HFP
    have H60 := Lib.hid h60
    clear h60
    have CMD := Lib.hid (fun w => mod_any addr 40 (by decide) (by decide) w)
    have hm0 := Int.emod_nonneg addr (show (40 : Int) ≠ 0 by decide)
    have hm1 := Int.emod_lt_of_pos addr (show (0 : Int) < 40 by decide)
    generalize addr % 40 = m at *
    have COF := Lib.hid (fun ao cap W (hb : CL W ao thL) => refOf_any 0 ao cap thL m W hb ⟨by decide, by decide⟩)
    have CHA := Lib.hid (fun ao cap W (hb : CL W ao thL) => refChainO_any 0 ao cap thL m W hb ⟨by decide, by decide⟩)
    rw [show gotV 0 thL m = .agg #[.int .i64 (ofC 0 thL m), .int .i64 (m / 3), .bool true] from by unfold gotV; rw [(thL_of (by omega)).1, ofB_iff.2 ⟨thL_good, by omega⟩]] at COF
    have CLN := Lib.hid (thL_len (x := m) (by omega))
    have CUN := Lib.hid (fun j (hj : j < lenF m) => thL_unit (x := m) (by omega) hj)
    generalize ofC 0 thL m = oc at *
    generalize chainR 0 thL m = C at *
    go_enter Tryz.func3, Tryz.ntmps3
    go_wp2_with (first
      | (go_at_call 14; refine (COF.out _ _ _ C7.out).mono ?_; rintro e w8 ⟨rfl, hb⟩; have V8 := Lib.hid (V7.out.trans (hb.mono V7.out.size)); have N8 := Lib.hid (N7.out.trans (hb.mono N7.out.size)); clear hb)
      | (go_at_call 8; refine (CT.out w6).mono ?_; rintro e w7 ⟨ao7, rfl, hc, hb⟩; have C7 := Lib.hid (cg_cl hc); have V7 := Lib.hid (V6.out.trans (hb.mono V6.out.size)); have N7 := Lib.hid (show Below w6.heap.size w6 w7 from hb); clear hc hb)
      | (go_at_call 13; refine (CHA.out _ _ _ C5.out).mono ?_; rintro e w6 ⟨co, cc, rfl, hO, hb⟩; have O6 := Lib.hid hO; have V6 := Lib.hid (V5.out.trans (hb.mono V5.out.size)); have hs5 := V5.out.size; clear hO hb)
      | (go_at_call 8; refine (CT.out w4).mono ?_; rintro e w5 ⟨ao5, rfl, hc, hb⟩; have C5 := Lib.hid (cg_cl hc); have V5 := Lib.hid hb; clear hc hb)
      | (go_at_call 12; refine (CMD.out _).mono ?_; rintro e wm ⟨rfl, rfl⟩)
      | (go_at_call 11; refine (lay_any HS b nb _ w3 _ S3.out (lay_new (by decide)) (th_used 200) ao3 3 (fun W hk => cg_cl (C3.out.keep hk (fun k h => .inr h))) po pc l HL.out (fun W hk => HR.out W (B3.out.trans (hk.toBelow B3.out.size (fun j h => .inl (Nat.lt_of_lt_of_le h B1.out.size))))) HS1.out).mono ?_; rintro e w4 ⟨rfl, h1, hs4, hk4, hn4, hm4⟩; have S4 := Lib.hid hs4; have LN := Lib.hid hn4; have MN := Lib.hid hm4; have B4 := Lib.hid (B3.out.trans (hk4.toBelow B3.out.size (fun j h => .inl (Nat.lt_of_lt_of_le h B1.out.size)))); clear hs4 hk4 hn4 hm4)
      | (go_at_call 8; refine (CT.out w2).mono ?_; rintro e w3 ⟨ao3, rfl, hc, hb⟩; have C3 := Lib.hid hc; have S3 := Lib.hid (S2.out.wider (TT.out b nb) hb); have B3 := Lib.hid (B2.out.trans (hb.mono B2.out.size)); clear hc hb)
      | (go_at_call 9; refine (CF.out _ B2.out).mono ?_; rintro e wf ⟨rfl, rfl⟩)
      | (go_at_call 7; refine (CM.out _ _ C1.out).mono ?_; rintro e w2 ⟨b, nb, p, rfl, hs2, hb2⟩; have S2 := Lib.hid hs2; have B2 := Lib.hid (B1.out.trans (hb2.mono B1.out.size)); clear hs2 hb2)
      | (go_at_call 8; refine (CT.out w).mono ?_; rintro e w1 ⟨ao1, rfl, hc, hb⟩; have C1 := Lib.hid (cg_cl hc); have B1 := Lib.hid hb; clear hc hb))
    have HG9 := Lib.hid (heap_alloc_new w8 (.cells #[.int .i64 oc, .int .i64 (m / 3), .bool true] 41))
    have V9 := Lib.hid (V8.out.trans ((below_new w8 (.cells #[.int .i64 oc, .int .i64 (m / 3), .bool true] 41)).mono V8.out.size))
    have O9 := Lib.hid (O6.out.keep (Kept.ofBelow (N8.out.trans ((below_new w8 (.cells #[.int .i64 oc, .int .i64 (m / 3), .bool true] 41)).mono N8.out.size)) (fun _ => True)) (fun _ _ _ => trivial))
    have hg9 : w4.heap.size ≤ w8.heap.size ∧ w8.heap.size < (w8.alloc (.cells #[.int .i64 oc, .int .i64 (m / 3), .bool true] 41)).heap.size := ⟨V8.out.size, by simp⟩
    generalize hgg : w8.heap.size = g at *
    generalize w8.alloc (.cells #[.int .i64 oc, .int .i64 (m / 3), .bool true] 41) = w9 at *
    have S9 := Lib.hid (S4.out.wider (TT.out b nb) V9.out)
    have B9 := Lib.hid (B4.out.trans (V9.out.mono B4.out.size))
    have HMU := Lib.hid (show h1.n.l.used.length ≤ 100000 from by rw [MN.out.l]; exact th_used 200)
    have HC1 := lenF_pos m
    have hC0 : 0 < C.length := by rw [CLN.out]; omega
    have c0 : (0 : Int) < (C.length : Int) := by omega
    have hC3 : (C.length : Int) ≤ 3 := by rw [CLN.out]; omega
    obtain ⟨ck, coff, hco, hcell⟩ := row_atM O9.out hC0
    rw [unit_at CLN.out CUN.out hC0] at hcell
    subst hco
    have C0 := Lib.hid (show w9.cell? ⟨ck, coff, none⟩ = some (.int .i64 (unF m 0 : Int)) ∧ w9.cell? ⟨g, 1, none⟩ = some (.int .i64 (m / 3)) from ⟨hcell, cell_of HG9.out 1⟩)
    have HZ := Lib.hid (ZZ.out (m / 3) (by omega))
    have HU0 := Lib.hid (show unF m 0 < 16 from by have := unF_low (a := m) (j := 0) (by omega); omega)
    obtain ⟨f1, f2⟩ := first_told LN.out (m := m) (by omega)
    obtain ⟨V, hF, hv3, hV⟩ := LN.out.start m true
    have HX := Lib.hid (text_short LN.out.ft (a := m) (j := 0) (by omega))
    have hks := LN.out.ft.kinds (a := m) (j := 0) (by omega)
    have hk3 := LN.out.kind (a := m) (j := 0) (by omega)
    have MM := Lib.hid (show 0 ≤ m ∧ m < 42 from ⟨by omega, by omega⟩)
    have HF := Lib.hid hF
    have key : ∃ (re : Int) (rs S : ByteArray), (h1.n.u (unF m 0)).p.readE (m / 3) = re ∧ (h1.n.u (unF m 0)).p.readS (m / 3) = rs ∧ foundS V (FX h1.n m 0) = S ∧ ((re = 0 ∧ V = 1 ∧ rs = S) ∨ (re ≠ 0 ∧ V = 2 ∧ S = ⟨#[]⟩)) := by
      refine ⟨_, _, _, rfl, rfl, rfl, ?_⟩
      by_cases e1 : FK h1.n m 0 = 1
      · rw [f1, e1]
        rw [e1] at hV
        have hV1 : V = 1 := hV
        exact .inl ⟨rfl, hV1, by rw [f2 e1]; unfold foundS; rw [if_pos hV1]⟩
      · have hV2 : V = 2 := by
          rw [hV]
          split
          · rfl
          · omega
        refine .inr ⟨?_, hV2, by unfold foundS; rw [if_neg (by omega)]; rfl⟩
        rw [f1]
        split
        · decide
        · rw [if_pos (by omega)]; decide
    obtain ⟨re, rs, S, hre, hrs, hS, hkey⟩ := key
    have HRE := Lib.hid hre
    have HRS := Lib.hid hrs
    have HSS := Lib.hid hS
    clear f1 f2 hF hv3 hV hks hk3 hre hrs hS hcell HC1
    have CRD := Lib.hid (fun X W hs ao hC hn => fread_any HS FS b nb X W h1 hs h1.n V (FX h1.n m 0) m true HF.out MM.out (fun _ => HX.out) HMU.out ao 3 hC hn (Nat.le_refl _) fo fc fl H60.out)
    go_region_held3 (fun W => W.cell? ⟨ck, coff, none⟩ = some (.int .i64 (unF m 0 : Int)) ∧ W.cell? ⟨g, 1, none⟩ = some (.int .i64 (m / 3)))
      (first | exact C0.out | exact two_keepF (by assumption) hb10 | exact two_keepF (by assumption) hb11 | exact two_keepF (by assumption) hb12 | exact two_keepF (by assumption) hb13)
      (first
        | (go_at_call 18; refine (LS.read bu pb F11 w12 _ (m / 3) P12.out HZ.out).mono ?_; rw [HRE.out, HRS.out]; rintro e w13 ⟨rfl, hb13⟩; have R13 := Lib.hid (R12.out.trans (hb13.mono R12.out.size)))
        | (go_at_call 17; refine (ho_pages HS P11.out).mono ?_; rintro e w12 ⟨rfl, hf12, hb12⟩; have P12 := Lib.hid hf12; have R12 := Lib.hid (R11.out.trans (hb12.mono R11.out.size)); clear hf12)
        | (go_at_call 16; refine (ho_unit HS S10.out (i := unF m 0) HU0.out).mono ?_; rintro e w11 ⟨bu, pb, rfl, hb11, F11, hf11⟩; have P11 := Lib.hid hf11; have R11 := Lib.hid (R10.out.trans (hb11.mono R10.out.size)); clear hf11)
        | (go_at_call 15; refine (ho_nodes HS (S9.out.below (TT.out b nb) ((Below.refl _ _).drew))).mono ?_; rintro e w10 ⟨rfl, hs10, hb10⟩; have S10 := Lib.hid hs10; have R10 := Lib.hid (show Below w9.heap.size w9 w10 from ((Below.refl w9.heap.size w9).drew).trans hb10); clear hs10))
    clear hb10 hb11 hb12 hb13
    rcases hkey with ⟨r0, v1, hrs⟩ | ⟨rn, v2, hSe⟩
    · subst r0 v1 hrs
      have s2 : (rs.toList == rs.toList) = true := beq_self_eq_true _
      go_wp2_with (first
        | (go_at_call 19; refine (CRD.out _ _ S14.out ao14 C14.out N14.out (fun W hk => HR2.out W (B14.out.trans (hk.toBelow B14.out.size (fun j h => .inl (.inl (.inl (Nat.lt_of_lt_of_le h B1.out.size))))))) (fun x hx => HK2.out x hx)).mono ?_; rw [HSS.out]; rintro e w15 ⟨h2, rfl, hs15, hk15, _, hKK⟩; have S15 := Lib.hid hs15; have B15 := Lib.hid (B14.out.trans (hk15.toBelow B14.out.size (fun j h => .inl (.inl (.inl (Nat.lt_of_lt_of_le h B1.out.size)))))); have K15 := Lib.hid ((Kept.ofBelow R14.out _).trans hk15); have HKK := Lib.hid hKK; clear hs15 hk15 hKK)
        | (go_at_call 8; refine (CT.out w13).mono ?_; rintro e w14 ⟨ao14, rfl, hc, hb⟩; have C14 := Lib.hid (cg_cl hc); have N14 := Lib.hid (cg_none hc); have R14 := Lib.hid (R13.out.trans (hb.mono R13.out.size)); have S14 := Lib.hid (S9.out.wider (TT.out b nb) R14.out); have B14 := Lib.hid (B9.out.trans (R14.out.mono B9.out.size)); clear hc hb))
      have O15 := Lib.hid (O9.out.keep K15.out (fun k h1 h2 => .inl (.inr ⟨Nat.le_trans hs5 h1, h2⟩)))
      have HG15 := Lib.hid (K15.out.heap (.inl (.inr hg9)) HG9.out)
      have SE := Lib.hid (show ∃ X, Solo (HG b nb) X w15 h2 from ⟨_, S15.out⟩)
      clear S14 S9 S10 P11 P12 C0 C14 N14 CRD S15
      go_loopw [19] (fun i wr => ∃ j : Nat, i = .int .i64 j ∧ j ≤ C.length ∧ Hid (∃ X, Solo (HG b nb) X wr h2) ∧ Hid (Below w15.heap.size w15 wr)) (fun i _ => C.length - (intOf i).toNat)
      case atStart => exact ⟨0, rfl, Nat.zero_le _, SE, Lib.hid (Below.refl _ _)⟩
      case round =>
        clear SE
        obtain ⟨j, rfl, hj, HT, HBJ⟩ := hrel
        by_cases hjl : j < C.length
        · have n3 : (j : Int) < (C.length : Int) := by omega
          obtain ⟨X, hX⟩ := HT.out
          have ST := Lib.hid hX
          obtain ⟨ck2, coff2, hco2, hcell⟩ := row_atM (O15.out.keep (Kept.ofBelow HBJ.out (fun _ => True)) (fun _ _ _ => trivial)) hjl
          obtain ⟨rfl, rfl⟩ : ck2 = ck ∧ coff2 = coff := by simpa using hco2.symm
          rw [unit_at CLN.out CUN.out hjl] at hcell
          have C1' := Lib.hid (show wr.cell? ⟨ck2, coff2 + j, none⟩ = some (.int .i64 (unF m j : Int)) ∧ wr.cell? ⟨g, 1, none⟩ = some (.int .i64 (m / 3)) from ⟨hcell, cell_of (below_heap HBJ.out HG15.out) 1⟩)
          have hjf : j < lenF m := by rw [← CLN.out]; exact hjl
          have HUJ := Lib.hid (show unF m j < 16 from by have := unF_low hjf; omega)
          have HKJ := Lib.hid (show (h2.n.u (unF m j)).p.kind (m / 3) = 1 from HKK.out j hjf)
          have j0 : (0 : Int) ≤ (j : Int) := by omega
          generalize unF m j = uj at *
          clear hX hcell hco2 hjf
          go_wp2_with fail
          go_region_held3 (fun W => W.cell? ⟨ck2, coff2 + j, none⟩ = some (.int .i64 (uj : Int)) ∧ W.cell? ⟨g, 1, none⟩ = some (.int .i64 (m / 3)))
            (first | exact C1'.out | exact two_keepF (by assumption) hb20 | exact two_keepF (by assumption) hb21 | exact two_keepF (by assumption) hb22 | exact two_keepF (by assumption) hb23)
            (first
              | (go_at_call 20; refine (LS.kind bu2 pb2 F21 w22 _ (m / 3) P22.out HZ.out).mono ?_; rw [HKJ.out]; rintro e w23 ⟨rfl, hb23⟩; have R23 := Lib.hid (R22.out.trans (hb23.mono R22.out.size)))
              | (go_at_call 17; refine (ho_pages HS P21.out).mono ?_; rintro e w22 ⟨rfl, hf22, hb22⟩; have P22 := Lib.hid hf22; have R22 := Lib.hid (R21.out.trans (hb22.mono R21.out.size)); clear hf22)
              | (go_at_call 16; refine (ho_unit HS S20.out (i := uj) HUJ.out).mono ?_; rintro e w21 ⟨bu2, pb2, rfl, hb21, F21, hf21⟩; have P21 := Lib.hid hf21; have R21 := Lib.hid (R20.out.trans (hb21.mono R20.out.size)); clear hf21)
              | (go_at_call 15; refine (ho_nodes HS (ST.out.below (TT.out b nb) ((Below.refl _ _).drew))).mono ?_; rintro e w20 ⟨rfl, hs20, hb20⟩; have S20 := Lib.hid hs20; have R20 := Lib.hid (show Below wr.heap.size wr w20 from ((Below.refl wr.heap.size wr).drew).trans hb20); clear hs20))
          all_goals
            go_wp2_with fail
            refine ⟨⟨j + 1, by go_num, by omega, Lib.hid ⟨X, ST.out.below (TT.out b nb) R23.out⟩, Lib.hid (HBJ.out.trans (R23.out.mono HBJ.out.size))⟩, by simp [intOf]; omega⟩
        · have n3 : ¬ (j : Int) < (C.length : Int) := by omega
          go_wp2_with (go_at_call 10; refine (CW.out _).mono ?_; rintro e w30 ⟨rfl, hb30⟩; have B30 := Lib.hid ((B15.out.trans (HBJ.out.mono B15.out.size)).trans (hb30.mono (B15.out.trans (HBJ.out.mono B15.out.size)).size)); clear hb30)
          go_ret
          exact ⟨rfl, B30.out⟩
    · subst v2 hSe
      have e2 : (re == 0) = false := by simpa using rn
      go_wp2_with (first
        | (go_at_call 19; refine (CRD.out _ _ S14.out ao14 C14.out N14.out (fun W hk => HR2.out W (B14.out.trans (hk.toBelow B14.out.size (fun j h => .inl (.inl (.inl (Nat.lt_of_lt_of_le h B1.out.size))))))) (fun x hx => HK2.out x hx)).mono ?_; rw [HSS.out]; rintro e w15 ⟨h2, rfl, hs15, hk15, _, hKK⟩; have S15 := Lib.hid hs15; have B15 := Lib.hid (B14.out.trans (hk15.toBelow B14.out.size (fun j h => .inl (.inl (.inl (Nat.lt_of_lt_of_le h B1.out.size)))))); have K15 := Lib.hid ((Kept.ofBelow R14.out _).trans hk15); have HKK := Lib.hid hKK; clear hs15 hk15 hKK)
        | (go_at_call 8; refine (CT.out w13).mono ?_; rintro e w14 ⟨ao14, rfl, hc, hb⟩; have C14 := Lib.hid (cg_cl hc); have N14 := Lib.hid (cg_none hc); have R14 := Lib.hid (R13.out.trans (hb.mono R13.out.size)); have S14 := Lib.hid (S9.out.wider (TT.out b nb) R14.out); have B14 := Lib.hid (B9.out.trans (R14.out.mono B9.out.size)); clear hc hb))
      have O15 := Lib.hid (O9.out.keep K15.out (fun k h1 h2 => .inl (.inr ⟨Nat.le_trans hs5 h1, h2⟩)))
      have HG15 := Lib.hid (K15.out.heap (.inl (.inr hg9)) HG9.out)
      have SE := Lib.hid (show ∃ X, Solo (HG b nb) X w15 h2 from ⟨_, S15.out⟩)
      clear S14 S9 S10 P11 P12 C0 C14 N14 CRD S15
      go_loopw [19] (fun i wr => ∃ j : Nat, i = .int .i64 j ∧ j ≤ C.length ∧ Hid (∃ X, Solo (HG b nb) X wr h2) ∧ Hid (Below w15.heap.size w15 wr)) (fun i _ => C.length - (intOf i).toNat)
      case atStart => exact ⟨0, rfl, Nat.zero_le _, SE, Lib.hid (Below.refl _ _)⟩
      case round =>
        clear SE
        obtain ⟨j, rfl, hj, HT, HBJ⟩ := hrel
        by_cases hjl : j < C.length
        · have n3 : (j : Int) < (C.length : Int) := by omega
          obtain ⟨X, hX⟩ := HT.out
          have ST := Lib.hid hX
          obtain ⟨ck2, coff2, hco2, hcell⟩ := row_atM (O15.out.keep (Kept.ofBelow HBJ.out (fun _ => True)) (fun _ _ _ => trivial)) hjl
          obtain ⟨rfl, rfl⟩ : ck2 = ck ∧ coff2 = coff := by simpa using hco2.symm
          rw [unit_at CLN.out CUN.out hjl] at hcell
          have C1' := Lib.hid (show wr.cell? ⟨ck2, coff2 + j, none⟩ = some (.int .i64 (unF m j : Int)) ∧ wr.cell? ⟨g, 1, none⟩ = some (.int .i64 (m / 3)) from ⟨hcell, cell_of (below_heap HBJ.out HG15.out) 1⟩)
          have hjf : j < lenF m := by rw [← CLN.out]; exact hjl
          have HUJ := Lib.hid (show unF m j < 16 from by have := unF_low hjf; omega)
          have HKJ := Lib.hid (show (h2.n.u (unF m j)).p.kind (m / 3) = 2 from HKK.out j hjf)
          have j0 : (0 : Int) ≤ (j : Int) := by omega
          generalize unF m j = uj at *
          clear hX hcell hco2 hjf
          go_wp2_with fail
          go_region_held3 (fun W => W.cell? ⟨ck2, coff2 + j, none⟩ = some (.int .i64 (uj : Int)) ∧ W.cell? ⟨g, 1, none⟩ = some (.int .i64 (m / 3)))
            (first | exact C1'.out | exact two_keepF (by assumption) hb20 | exact two_keepF (by assumption) hb21 | exact two_keepF (by assumption) hb22 | exact two_keepF (by assumption) hb23)
            (first
              | (go_at_call 20; refine (LS.kind bu2 pb2 F21 w22 _ (m / 3) P22.out HZ.out).mono ?_; rw [HKJ.out]; rintro e w23 ⟨rfl, hb23⟩; have R23 := Lib.hid (R22.out.trans (hb23.mono R22.out.size)))
              | (go_at_call 17; refine (ho_pages HS P21.out).mono ?_; rintro e w22 ⟨rfl, hf22, hb22⟩; have P22 := Lib.hid hf22; have R22 := Lib.hid (R21.out.trans (hb22.mono R21.out.size)); clear hf22)
              | (go_at_call 16; refine (ho_unit HS S20.out (i := uj) HUJ.out).mono ?_; rintro e w21 ⟨bu2, pb2, rfl, hb21, F21, hf21⟩; have P21 := Lib.hid hf21; have R21 := Lib.hid (R20.out.trans (hb21.mono R20.out.size)); clear hf21)
              | (go_at_call 15; refine (ho_nodes HS (ST.out.below (TT.out b nb) ((Below.refl _ _).drew))).mono ?_; rintro e w20 ⟨rfl, hs20, hb20⟩; have S20 := Lib.hid hs20; have R20 := Lib.hid (show Below wr.heap.size wr w20 from ((Below.refl wr.heap.size wr).drew).trans hb20); clear hs20))
          all_goals
            go_wp2_with fail
            refine ⟨⟨j + 1, by go_num, by omega, Lib.hid ⟨X, ST.out.below (TT.out b nb) R23.out⟩, Lib.hid (HBJ.out.trans (R23.out.mono HBJ.out.size))⟩, by simp [intOf]; omega⟩
        · have n3 : ¬ (j : Int) < (C.length : Int) := by omega
          go_wp2_with (go_at_call 10; refine (CW.out _).mono ?_; rintro e w30 ⟨rfl, hb30⟩; have B30 := Lib.hid ((B15.out.trans (HBJ.out.mono B15.out.size)).trans (hb30.mono (B15.out.trans (HBJ.out.mono B15.out.size)).size)); clear hb30)
          go_ret
          exact ⟨rfl, B30.out⟩
  · by_cases hf : fairP l = true
    · have n60 : (60 : Int) < (fl.length : Int) := by
        rcases Nat.lt_or_ge 60 fl.length with g | g
        · omega
        · exact absurd ⟨hf, g⟩ hgo
      rw [hf] at CF
      clear hgo hf HFP
      go_enter Tryz.func3, Tryz.ntmps3
      go_wp2_with (first
        | (go_at_call 10; refine (CW.out _).mono ?_; rintro e w30 ⟨rfl, hb30⟩; have B30 := Lib.hid (B2.out.trans (hb30.mono B2.out.size)); clear hb30)
        | (go_at_call 9; refine (CF.out _ B2.out).mono ?_; rintro e wf ⟨rfl, rfl⟩)
        | (go_at_call 7; refine (CM.out _ _ C1.out).mono ?_; rintro e w2 ⟨b, nb, p, rfl, hs2, hb2⟩; have B2 := Lib.hid (B1.out.trans (hb2.mono B1.out.size)); clear hs2 hb2)
        | (go_at_call 8; refine (CT.out w).mono ?_; rintro e w1 ⟨ao1, rfl, hc, hb⟩; have C1 := Lib.hid (cg_cl hc); have B1 := Lib.hid hb; clear hc hb))
      go_ret
      exact ⟨rfl, B30.out⟩
    · rw [Bool.eq_false_iff.2 hf] at CF
      clear hgo hf HFP
      go_enter Tryz.func3, Tryz.ntmps3
      go_wp2_with (first
        | (go_at_call 10; refine (CW.out _).mono ?_; rintro e w30 ⟨rfl, hb30⟩; have B30 := Lib.hid (B2.out.trans (hb30.mono B2.out.size)); clear hb30)
        | (go_at_call 9; refine (CF.out _ B2.out).mono ?_; rintro e wf ⟨rfl, rfl⟩)
        | (go_at_call 7; refine (CM.out _ _ C1.out).mono ?_; rintro e w2 ⟨b, nb, p, rfl, hs2, hb2⟩; have B2 := Lib.hid (B1.out.trans (hb2.mono B1.out.size)); clear hs2 hb2)
        | (go_at_call 8; refine (CT.out w).mono ?_; rintro e w1 ⟨ao1, rfl, hc, hb⟩; have C1 := Lib.hid (cg_cl hc); have B1 := Lib.hid hb; clear hc hb))
      go_ret
      exact ⟨rfl, B30.out⟩

set_option maxRecDepth 100000 in
theorem fetchMends_lifted (os : Os) (started : os.Started) (H : Type) (enc : TypeId × Value → H) :
    ReturnsInHanded {} Tryz.checked os 3 .any (Rows.fetchMendsSpec.pre6 enc Tryz.prog Tryz.f3 Rows.fetchMendsRow.domain false) (Rows.fetchMendsSpec.post enc Tryz.prog Tryz.f3 false true false false) := by
  refine returnsInHanded_of_change (C := Tryz.checked) own started (by kernel_rfl) Tryz.func3
    (ChangeSpec.witness6 (enc := enc) (C := Tryz.checked) false ⟨#[], #[.slice none 0 0, .int .i64 0, .slice none 0 0], []⟩ 8 (by kernel_rfl) (by kernel_rfl) (by kernel_rfl) (by kernel_rfl)) ?_
  intro W base args ds gs before hval0 hW hcnd _
  have hval : ∀ (j : Nat) t v, Tryz.f3.params[j]? = some t → args[j]? = some v → Value.okWide Tryz.prog W .any base t v := hval0
  have hW' := hW
  obtain ⟨p, q, hA0, hV, rfl, hfz, hnd⟩ := hW
  have hA : DataW.TrodAll enc Tryz.prog W 0 (fun _ => true) true Tryz.f3.params.toList args.toList ds p := hA0
  rw [Tryz.params3] at hA hval
  obtain ⟨v0, vs0, d0, ds0, p0, q0, hargs, rfl, rfl, h0, r0⟩ := trodAll_cons hA
  obtain ⟨v1, vs1, d1, ds1, p1, q1, rfl, rfl, rfl, h1, r1⟩ := trodAll_cons r0
  obtain ⟨v2, vs2, d2, ds2, p2, q2, rfl, rfl, rfl, h2, r2⟩ := trodAll_cons r1
  obtain ⟨rfl, rfl, rfl⟩ := trodAll_nil r2
  obtain rfl : args = #[v0, v1, v2] := by cases args; simp_all
  obtain ⟨rfl, rfl⟩ := trodVars_none hV
  have k0 := h0
  have lt0 : ∀ x ∈ p0, x.block < W.heap.size := by obtain ⟨m, hm⟩ := k0; exact DataW.trod_lt m _ _ _ hm
  have k1 := h1
  have lt1 : ∀ x ∈ p1, x.block < W.heap.size := by obtain ⟨m, hm⟩ := k1; exact DataW.trod_lt m _ _ _ hm
  have k2 := h2
  have lt2 : ∀ x ∈ p2, x.block < W.heap.size := by obtain ⟨m, hm⟩ := k2; exact DataW.trod_lt m _ _ _ hm
  obtain ⟨ao0, cap0, L0, rfl, w0, hR0, hK0, hn0, hc0⟩ := open_rows (f := putC) (ok := PtIn) (n := 3) Tryz.underlying22 (by kernel_rfl) (fun m cs y hl hf => put_cs Tryz.underlying85 rfl rfl rfl rfl Tryz.underlying3 Tryz.underlying4 Tryz.underlying9 (by kernel_rfl) (by kernel_rfl) (by kernel_rfl) hl hf) (hval 0 22 v0 rfl rfl) h0
  obtain ⟨a1, rfl, rfl, rfl, w1⟩ := open_int Tryz.underlying3 (hval 1 3 v1 rfl rfl) h1
  obtain ⟨ao2, cap2, L2, rfl, w2, hR2, hK2, hn2, hc2⟩ := open_rows (f := byteC) (ok := byteOk) (n := 0) Tryz.underlying23 (by kernel_rfl) (fun m cs y hl hf => byte_cs Tryz.underlying5 hl hf) (hval 2 23 v2 rfl rfl) h2
  clear hA0 hval0
  refine (fetchMends_walk handSays fetchSays looksSays ao0 cap0 L0 a1 ao2 cap2 L2 w0 w1 w2 W hR0 hK0 hR2 hK2).mono fun e W' ⟨he, bel⟩ => ?_
  subst he
  exact ⟨_, rfl, _, _, _, [], _, [], hW', trodAll_mk1 (shut_bool Tryz.underlying4 _), (trodAll_cons_mk (Below.trod laidOut (by kernel_rfl) (of_decide_eq_true (by kernel_rfl)) k0 bel lt0) (trodAll_cons_mk (Below.trod laidOut (by kernel_rfl) (of_decide_eq_true (by kernel_rfl)) k1 bel lt1) (trodAll_cons_mk (Below.trod laidOut (by kernel_rfl) (of_decide_eq_true (by kernel_rfl)) k2 bel lt2) trodAll_mk0))), rfl, bel.frame _, fun h => by cases h⟩

theorem fetchMends_over : Rows.fetchMendsRow.holds Tryz.pinned (OpenSpec.ofChange Rows.fetchMendsSpec) :=
  OpenClaim.holds_of_wide 3 Tryz.f3 rfl rfl rfl rfl rfl rfl rfl ⟨rfl, rfl, rfl, rfl, rfl⟩ rfl rfl rfl rfl rfl (by kernel_rfl) Tryz.func3 (by kernel_rfl)
    (of_decide_eq_true (by kernel_rfl)) (by unfold Func.isWrapper; first | (rw [if_pos (by decide +kernel)]; kernel_rfl) | (rw [if_neg (by decide +kernel)]; exact ⟨rfl, rfl⟩))
    (fun os started H enc _ => fetchMends_lifted os started H enc)

/-- THE STATEMENT -/
theorem fetchMends_holds : Rows.FetchMendsSaid := fetchMends_over 
end Go.Proofs.YthffjanidjjkdaaGreat
