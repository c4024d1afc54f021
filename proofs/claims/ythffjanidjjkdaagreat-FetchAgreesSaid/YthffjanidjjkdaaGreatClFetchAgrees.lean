/- The law FetchAgrees: what one fetch told, no other one tells otherwise. Conditions: none. (Written by gen/genfetchagrees.py.) -/
import Derived.Test.YthffjanidjjkdaaGreatG31a
import Derived.Test.YthffjanidjjkdaaGreatG35a
import Derived.Test.YthffjanidjjkdaaGreatG06a
namespace Go.Proofs.YthffjanidjjkdaaGreat
open Go.ChangeShapes Go.WideShapes Go.ChangeAt Go.RowKit
open Go.ChangeMaps (open_string shut_string)
set_option linter.unusedVariables false
set_option maxRecDepth 20000
theorem th_used2 (room : Int) : (newN 0 thL room).l.used.length ≤ 100000 := by
  show (newL 0 thL).used.length ≤ 100000
  decide +kernel
theorem text_short2 {n : Nd} (h : FtN n) {a : Int} {j : Nat} (hj : j < lenF a) : (FX n a j).size ≤ 4096 := by
  unfold FX Ps.text
  cases e : findP (n.u (unF a j)).p.l (a / 3) with
  | some x => exact ((h.u _ (by have := unF_low hj; omega)).ok.each x (findP_some e).1).2.2
  | none => show (⟨#[]⟩ : ByteArray).size ≤ 4096; decide
theorem cg_none2 {F : Nat → Prop} {W : World} {ao : Option Addr} {n cap : Nat} {L : List (List Int)} (h : CG F W (.slice ao n cap) L) : ao = none → cap = 0 := by
  obtain ⟨a2, c2, hv, h2, _⟩ := h
  obtain ⟨rfl, _, rfl⟩ := Value.slice.inj hv
  exact h2
/-- two fetches, and what was laid between them -/
theorem two_agree {n1 n2 n3 : Nd} {V1 V2 : Int} {m : Int} {fill : Bool} (hN : FNod n1 V1 (FX n1 m 0) m fill n2) (hK : ∀ j, j < lenF m → FK n2 m j = V1) (M : Mono n2 n3) (hV : V2 = if FK n3 m 0 = 0 then (if true = true then 2 else 0) else FK n3 m 0) :
    V2 ≠ 0 ∧ (V1 = 0 ∨ (V1 = V2 ∧ foundS V1 (FX n1 m 0) = foundS V2 (FX n3 m 0))) := by
  have hl := lenF_pos m
  have h0 := hK 0 (by omega)
  rw [if_pos (c := true = true) rfl] at hV
  refine ⟨?_, ?_⟩
  · rw [hV]
    split
    · decide
    · assumption
  · by_cases hz : V1 = 0
    · exact .inl hz
    · obtain ⟨g1, g2⟩ := M.stay m 0 (by omega) (by rw [h0]; exact hz)
      rw [if_neg (by rw [g1, h0]; exact hz), g1, h0] at hV
      refine .inr ⟨hV.symm, ?_⟩
      rw [hV]
      unfold foundS
      split
      · next e =>
        rw [g2]
        rcases hN.each 0 (by omega) with k | ⟨_, k⟩
        · exact absurd (h0.symm.trans k) hz
        · exact (k e).symm
      · rfl
theorem fread_nil {UG : Nat → Nat → (Nat → Prop) → World → Us → Prop} {OG : Nat → (Nat → Prop) → World → Od → Prop} {LG : Nat → (Nat → Prop) → World → Ly → Prop} {NG : Nat → (Nat → Prop) → World → Nd → Prop} {HG : Nat → Nat → (Nat → Prop) → World → Hd → Prop} {FG : Nat → (Nat → Prop) → World → Fe → Prop} (HS : HandSays UG OG LG NG HG) (FS : FetchSays FG)
    (b nb : Nat) (X : Nat → Prop) (w : World) (h0 : Hd) (hs : Solo (HG b nb) X w h0) (n0 : Nd) (V : Int) (S : ByteArray) (a : Int) (fill : Bool) (hN : FNod n0 V S a fill h0.n) (ha : 0 ≤ a ∧ a < 42) (hV : V = 1 → S.size ≤ 4096) (hu : n0.l.used.length ≤ 100000) (ao : Option Addr) (hC : CL w ao thL) (hn : ao = none → (3 : Nat) = 0) :
    Calls Tryz.prog 19 #[.pointer (some ⟨b, 0, none⟩), .agg #[.int .i64 0, .slice ao 3 3], .int .i64 a, .bool fill, .slice none 0 0] w fun e w' => ∃ h' : Hd, e = .returned (.tuple #[.int .i64 V, .string (foundS V S), .int .i64 0, .bool true]) ∧ Solo (HG b nb) X w' h' ∧ Kept X w w' ∧ FNod n0 V S a fill h'.n ∧ ∀ j, j < lenF a → FK h'.n a j = V :=
  fread_any HS FS b nb X w h0 hs n0 V S a fill hN ha hV hu ao 3 hC hn (Nat.le_refl _) none 0 [] (Nat.zero_le _) (fun W _ => Row.nil _ _ _ _) (fun x hx => by cases hx)
set_option maxHeartbeats 32000000 in
theorem fetchAgrees_walk {UG : Nat → Nat → (Nat → Prop) → World → Us → Prop} {OG : Nat → (Nat → Prop) → World → Od → Prop} {LG : Nat → (Nat → Prop) → World → Ly → Prop} {NG : Nat → (Nat → Prop) → World → Nd → Prop} {HG : Nat → Nat → (Nat → Prop) → World → Hd → Prop} {FG : Nat → (Nat → Prop) → World → Fe → Prop} (HS : HandSays UG OG LG NG HG) (FS : FetchSays FG) (LS : LooksSays UG) (po : Option Addr) (pc : Nat) (l : List Pt) (qo : Option Addr) (qc : Nat) (k : List Pt) (addr : Int) (hl : l.length ≤ maxLen) (hd : k.length ≤ maxLen) (wa : (Lit.int .i64 addr).wf = true) (w : World) (hR : Row w po 4 putC l) (hKP : ∀ p ∈ l, PtIn w p) (hR2 : Row w qo 4 putC k) (hKP2 : ∀ p ∈ k, PtIn w p) :
    Calls Tryz.prog 4 #[.slice po l.length pc, .slice qo k.length qc, .int .i64 addr] w fun e w' => e = .returned (.bool true) ∧ Below w.heap.size w w' := by
  have hK : ∀ p ∈ l, p.s.size ≤ maxLen := fun p hp => (hKP p hp).2.2
  have hK2 : ∀ p ∈ k, p.s.size ≤ maxLen := fun p hp => (hKP2 p hp).2.2
  clear wa
  have CW := Lib.hid (fun w => wakes16_any HS FS LS w)
  have CT := Lib.hid three16_any
  have TT := Lib.hid (fun b nb => HS.thing b nb)
  have CM := Lib.hid (fun ao W (hC : CL W ao thL) => made16_two HS ao thL 3 rfl 300 W hC few_th thL_good (by decide))
  have CF := Lib.hid (fun W (hb : Below w.heap.size w W) => fair16_any po pc l hl W (hR.below hb) hK)
  have CG2 := Lib.hid (fun W (hb : Below w.heap.size w W) => fair16_any qo qc k hd W (hR2.below hb) hK2)
  have HFP := Lib.hid (fun (l : List Pt) => show fairP l = true → ∀ p ∈ l, p.s.size ≤ 1000 from fun h p hp => of_decide_eq_true (List.all_eq_true.1 h p hp))
  have HR := Lib.hid (fun W (hb : Below w.heap.size w W) => hR.below hb)
  have HR2 := Lib.hid (fun W (hb : Below w.heap.size w W) => hR2.below hb)
  have HL := Lib.hid hl
  have HD := Lib.hid hd
  clear hR hK hR2 hK2 hKP hKP2 hl hd
  by_cases hgo : fairP l = true ∧ fairP k = true
  · obtain ⟨hf, hg⟩ := hgo
    rw [hf] at CF
    rw [hg] at CG2
    have HS1 := Lib.hid (HFP.out l hf)
    have HS2 := Lib.hid (HFP.out k hg)
    clear hf hg HFP
    have CMD := Lib.hid (fun w => mod_any addr 40 (by decide) (by decide) w)
    have hm0 := Int.emod_nonneg addr (show (40 : Int) ≠ 0 by decide)
    have hm1 := Int.emod_lt_of_pos addr (show (0 : Int) < 40 by decide)
    generalize addr % 40 = m at *
    have MM := Lib.hid (show 0 ≤ m ∧ m < 42 from ⟨by omega, by omega⟩)
    by_cases hq : addr.tmod 2 = 0
    · have hq1 : (addr.tmod 2 == 0) = true := by simpa using hq
      clear hq
      go_enter Tryz.func4, Tryz.ntmps4
      go_wp2_with (first
        | (go_at_call 8; refine (CT.out w4).mono ?_; rintro e w5 ⟨ao5, rfl, hc, hb⟩; have C5 := Lib.hid hc; have S5 := Lib.hid (S4.out.wider (TT.out b nb) hb); have B5 := Lib.hid (B4.out.trans (hb.mono B4.out.size)); clear hc hb)
        | (go_at_call 12; refine (CMD.out _).mono ?_; rintro e wm ⟨rfl, rfl⟩)
        | (go_at_call 11; refine (lay_any HS b nb _ w3 _ S3.out (lay_new (by decide)) (th_used2 300) ao3 3 (fun W hk => cg_cl (C3.out.keep hk (fun k h => .inr h))) po pc l HL.out (fun W hk => HR.out W (B3.out.trans (hk.toBelow B3.out.size (fun j h => .inl (Nat.lt_of_lt_of_le h B1.out.size))))) HS1.out).mono ?_; rintro e w4 ⟨rfl, h4, hs4, hk, hn4, hm4⟩; have S4 := Lib.hid hs4; have LN4 := Lib.hid hn4; have MN4 := Lib.hid hm4; have B4 := Lib.hid (B3.out.trans (hk.toBelow B3.out.size (fun j h => .inl (Nat.lt_of_lt_of_le h B1.out.size)))); clear hs4 hk hn4 hm4)
        | (go_at_call 8; refine (CT.out w2).mono ?_; rintro e w3 ⟨ao3, rfl, hc, hb⟩; have C3 := Lib.hid hc; have S3 := Lib.hid (S2.out.wider (TT.out b nb) hb); have B3 := Lib.hid (B2.out.trans (hb.mono B2.out.size)); clear hc hb)
        | (go_at_call 9; refine (CG2.out _ FF.out).mono ?_; rintro e wg ⟨rfl, rfl⟩)
        | (go_at_call 9; refine (CF.out _ B2.out).mono ?_; rintro e wf ⟨rfl, rfl⟩; have FF := B2)
        | (go_at_call 7; refine (CM.out _ _ C1.out).mono ?_; rintro e w2 ⟨b, nb, p, rfl, hs2, hb2⟩; have S2 := Lib.hid hs2; have B2 := Lib.hid (B1.out.trans (hb2.mono B1.out.size)); clear hs2 hb2)
        | (go_at_call 8; refine (CT.out w).mono ?_; rintro e w1 ⟨ao1, rfl, hc, hb⟩; have C1 := Lib.hid (cg_cl hc); have B1 := Lib.hid hb; clear hc hb))
      obtain ⟨V1, hF1, _, hV1⟩ := LN4.out.start m true
      have HF1 := Lib.hid hF1
      have HX1 := Lib.hid (text_short2 LN4.out.ft (a := m) (j := 0) (by have := lenF_pos m; omega))
      have HU1 := Lib.hid (show h4.n.l.used.length ≤ 100000 from by rw [MN4.out.l]; exact th_used2 300)
      have CR1 := Lib.hid (fread_nil HS FS b nb _ w5 h4 S5.out h4.n V1 (FX h4.n m 0) m true HF1.out MM.out (fun _ => HX1.out) HU1.out ao5 (cg_cl C5.out) (cg_none2 C5.out))
      clear hF1 hV1
      go_wp2_with (go_at_call 19; refine CR1.out.mono ?_; rintro e w6 ⟨h6, rfl, hs6, hk, hn6, hk6⟩; have S6 := Lib.hid hs6; have FN6 := Lib.hid hn6; have KK6 := Lib.hid hk6; have B6 := Lib.hid (B5.out.trans (hk.toBelow B5.out.size (fun j h => .inl (.inl (Nat.lt_of_lt_of_le h B1.out.size))))); clear hs6 hk hn6 hk6)
      have LN6 := Lib.hid (FNod.lay LN4.out FN6.out)
      have HU6 := Lib.hid (show h6.n.l.used.length ≤ 100000 from by rw [FN6.out.l]; exact HU1.out)
      clear CR1
      go_wp2_with (first
        | (go_at_call 8; refine (CT.out w8).mono ?_; rintro e w9 ⟨ao9, rfl, hc, hb⟩; have C9 := Lib.hid hc; have S9 := Lib.hid (S8.out.wider (TT.out b nb) hb); have B9 := Lib.hid (B8.out.trans (hb.mono B8.out.size)); clear hc hb)
        | (go_at_call 11; refine (lay_any HS b nb _ w7 _ S7.out LN6.out HU6.out ao7 3 (fun W hk => cg_cl (C7.out.keep hk (fun k h => .inr h))) qo qc k HD.out (fun W hk => HR2.out W (B7.out.trans (hk.toBelow B7.out.size (fun j h => .inl (.inl (.inl (Nat.lt_of_lt_of_le h B1.out.size))))))) HS2.out).mono ?_; rintro e w8 ⟨rfl, h8, hs4, hk, hn4, hm4⟩; have S8 := Lib.hid hs4; have LN8 := Lib.hid hn4; have MN8 := Lib.hid hm4; have B8 := Lib.hid (B7.out.trans (hk.toBelow B7.out.size (fun j h => .inl (.inl (.inl (Nat.lt_of_lt_of_le h B1.out.size)))))); clear hs4 hk hn4 hm4)
        | (go_at_call 8; refine (CT.out w6).mono ?_; rintro e w7 ⟨ao7, rfl, hc, hb⟩; have C7 := Lib.hid hc; have S7 := Lib.hid (S6.out.wider (TT.out b nb) hb); have B7 := Lib.hid (B6.out.trans (hb.mono B6.out.size)); clear hc hb))
      obtain ⟨V2, hF2, _, hV2⟩ := LN8.out.start m true
      obtain ⟨hv0, hag⟩ := two_agree FN6.out KK6.out MN8.out hV2
      have HF2 := Lib.hid hF2
      have HX2 := Lib.hid (text_short2 LN8.out.ft (a := m) (j := 0) (by have := lenF_pos m; omega))
      have HU2 := Lib.hid (show h8.n.l.used.length ≤ 100000 from by rw [MN8.out.l]; exact HU6.out)
      have CR2 := Lib.hid (fread_nil HS FS b nb _ w9 h8 S9.out h8.n V2 (FX h8.n m 0) m true HF2.out MM.out (fun _ => HX2.out) HU2.out ao9 (cg_cl C9.out) (cg_none2 C9.out))
      have hv1 : (V2 == 0) = false := by simpa using hv0
      clear hF2 hV2 hv0
      generalize foundS V2 (FX h8.n m 0) = t2 at *
      generalize foundS V1 (FX h4.n m 0) = t1 at *
      clear FN6 KK6 HF1 HF2
      rcases hag with hz | ⟨hz, ht⟩
      · subst hz
        go_wp2_with (first
          | (go_at_call 10; refine (CW.out _).mono ?_; rintro e w30 ⟨rfl, hb30⟩; have B30 := Lib.hid (B10.out.trans (hb30.mono B10.out.size)); clear hb30)
          | (go_at_call 19; refine CR2.out.mono ?_; rintro e w10 ⟨h10, rfl, hs10, hk, _, _⟩; have B10 := Lib.hid (B9.out.trans (hk.toBelow B9.out.size (fun j h => .inl (.inl (.inl (.inl (Nat.lt_of_lt_of_le h B1.out.size))))))); clear hs10 hk))
        go_ret
        exact ⟨rfl, B30.out⟩
      · subst hz ht
        have s2 : (t1.toList == t1.toList) = true := beq_self_eq_true _
        go_wp2_with (first
          | (go_at_call 10; refine (CW.out _).mono ?_; rintro e w30 ⟨rfl, hb30⟩; have B30 := Lib.hid (B10.out.trans (hb30.mono B10.out.size)); clear hb30)
          | (go_at_call 19; refine CR2.out.mono ?_; rintro e w10 ⟨h10, rfl, hs10, hk, _, _⟩; have B10 := Lib.hid (B9.out.trans (hk.toBelow B9.out.size (fun j h => .inl (.inl (.inl (.inl (Nat.lt_of_lt_of_le h B1.out.size))))))); clear hs10 hk))
        go_ret
        exact ⟨rfl, B30.out⟩
    · have hq1 : (addr.tmod 2 == 0) = false := by simpa using hq
      clear hq
      go_enter Tryz.func4, Tryz.ntmps4
      go_wp2_with (first
        | (go_at_call 8; refine (CT.out w4).mono ?_; rintro e w5 ⟨ao5, rfl, hc, hb⟩; have C5 := Lib.hid hc; have S5 := Lib.hid (S4.out.wider (TT.out b nb) hb); have B5 := Lib.hid (B4.out.trans (hb.mono B4.out.size)); clear hc hb)
        | (go_at_call 12; refine (CMD.out _).mono ?_; rintro e wm ⟨rfl, rfl⟩)
        | (go_at_call 11; refine (lay_any HS b nb _ w3 _ S3.out (lay_new (by decide)) (th_used2 300) ao3 3 (fun W hk => cg_cl (C3.out.keep hk (fun k h => .inr h))) po pc l HL.out (fun W hk => HR.out W (B3.out.trans (hk.toBelow B3.out.size (fun j h => .inl (Nat.lt_of_lt_of_le h B1.out.size))))) HS1.out).mono ?_; rintro e w4 ⟨rfl, h4, hs4, hk, hn4, hm4⟩; have S4 := Lib.hid hs4; have LN4 := Lib.hid hn4; have MN4 := Lib.hid hm4; have B4 := Lib.hid (B3.out.trans (hk.toBelow B3.out.size (fun j h => .inl (Nat.lt_of_lt_of_le h B1.out.size)))); clear hs4 hk hn4 hm4)
        | (go_at_call 8; refine (CT.out w2).mono ?_; rintro e w3 ⟨ao3, rfl, hc, hb⟩; have C3 := Lib.hid hc; have S3 := Lib.hid (S2.out.wider (TT.out b nb) hb); have B3 := Lib.hid (B2.out.trans (hb.mono B2.out.size)); clear hc hb)
        | (go_at_call 9; refine (CG2.out _ FF.out).mono ?_; rintro e wg ⟨rfl, rfl⟩)
        | (go_at_call 9; refine (CF.out _ B2.out).mono ?_; rintro e wf ⟨rfl, rfl⟩; have FF := B2)
        | (go_at_call 7; refine (CM.out _ _ C1.out).mono ?_; rintro e w2 ⟨b, nb, p, rfl, hs2, hb2⟩; have S2 := Lib.hid hs2; have B2 := Lib.hid (B1.out.trans (hb2.mono B1.out.size)); clear hs2 hb2)
        | (go_at_call 8; refine (CT.out w).mono ?_; rintro e w1 ⟨ao1, rfl, hc, hb⟩; have C1 := Lib.hid (cg_cl hc); have B1 := Lib.hid hb; clear hc hb))
      obtain ⟨V1, hF1, _, hV1⟩ := LN4.out.start m false
      have HF1 := Lib.hid hF1
      have HX1 := Lib.hid (text_short2 LN4.out.ft (a := m) (j := 0) (by have := lenF_pos m; omega))
      have HU1 := Lib.hid (show h4.n.l.used.length ≤ 100000 from by rw [MN4.out.l]; exact th_used2 300)
      have CR1 := Lib.hid (fread_nil HS FS b nb _ w5 h4 S5.out h4.n V1 (FX h4.n m 0) m false HF1.out MM.out (fun _ => HX1.out) HU1.out ao5 (cg_cl C5.out) (cg_none2 C5.out))
      clear hF1 hV1
      go_wp2_with (go_at_call 19; refine CR1.out.mono ?_; rintro e w6 ⟨h6, rfl, hs6, hk, hn6, hk6⟩; have S6 := Lib.hid hs6; have FN6 := Lib.hid hn6; have KK6 := Lib.hid hk6; have B6 := Lib.hid (B5.out.trans (hk.toBelow B5.out.size (fun j h => .inl (.inl (Nat.lt_of_lt_of_le h B1.out.size))))); clear hs6 hk hn6 hk6)
      have LN6 := Lib.hid (FNod.lay LN4.out FN6.out)
      have HU6 := Lib.hid (show h6.n.l.used.length ≤ 100000 from by rw [FN6.out.l]; exact HU1.out)
      clear CR1
      go_wp2_with (first
        | (go_at_call 8; refine (CT.out w8).mono ?_; rintro e w9 ⟨ao9, rfl, hc, hb⟩; have C9 := Lib.hid hc; have S9 := Lib.hid (S8.out.wider (TT.out b nb) hb); have B9 := Lib.hid (B8.out.trans (hb.mono B8.out.size)); clear hc hb)
        | (go_at_call 11; refine (lay_any HS b nb _ w7 _ S7.out LN6.out HU6.out ao7 3 (fun W hk => cg_cl (C7.out.keep hk (fun k h => .inr h))) qo qc k HD.out (fun W hk => HR2.out W (B7.out.trans (hk.toBelow B7.out.size (fun j h => .inl (.inl (.inl (Nat.lt_of_lt_of_le h B1.out.size))))))) HS2.out).mono ?_; rintro e w8 ⟨rfl, h8, hs4, hk, hn4, hm4⟩; have S8 := Lib.hid hs4; have LN8 := Lib.hid hn4; have MN8 := Lib.hid hm4; have B8 := Lib.hid (B7.out.trans (hk.toBelow B7.out.size (fun j h => .inl (.inl (.inl (Nat.lt_of_lt_of_le h B1.out.size)))))); clear hs4 hk hn4 hm4)
        | (go_at_call 8; refine (CT.out w6).mono ?_; rintro e w7 ⟨ao7, rfl, hc, hb⟩; have C7 := Lib.hid hc; have S7 := Lib.hid (S6.out.wider (TT.out b nb) hb); have B7 := Lib.hid (B6.out.trans (hb.mono B6.out.size)); clear hc hb))
      obtain ⟨V2, hF2, _, hV2⟩ := LN8.out.start m true
      obtain ⟨hv0, hag⟩ := two_agree FN6.out KK6.out MN8.out hV2
      have HF2 := Lib.hid hF2
      have HX2 := Lib.hid (text_short2 LN8.out.ft (a := m) (j := 0) (by have := lenF_pos m; omega))
      have HU2 := Lib.hid (show h8.n.l.used.length ≤ 100000 from by rw [MN8.out.l]; exact HU6.out)
      have CR2 := Lib.hid (fread_nil HS FS b nb _ w9 h8 S9.out h8.n V2 (FX h8.n m 0) m true HF2.out MM.out (fun _ => HX2.out) HU2.out ao9 (cg_cl C9.out) (cg_none2 C9.out))
      have hv1 : (V2 == 0) = false := by simpa using hv0
      clear hF2 hV2 hv0
      generalize foundS V2 (FX h8.n m 0) = t2 at *
      generalize foundS V1 (FX h4.n m 0) = t1 at *
      clear FN6 KK6 HF1 HF2
      rcases hag with hz | ⟨hz, ht⟩
      · subst hz
        go_wp2_with (first
          | (go_at_call 10; refine (CW.out _).mono ?_; rintro e w30 ⟨rfl, hb30⟩; have B30 := Lib.hid (B10.out.trans (hb30.mono B10.out.size)); clear hb30)
          | (go_at_call 19; refine CR2.out.mono ?_; rintro e w10 ⟨h10, rfl, hs10, hk, _, _⟩; have B10 := Lib.hid (B9.out.trans (hk.toBelow B9.out.size (fun j h => .inl (.inl (.inl (.inl (Nat.lt_of_lt_of_le h B1.out.size))))))); clear hs10 hk))
        go_ret
        exact ⟨rfl, B30.out⟩
      · subst hz ht
        have s2 : (t1.toList == t1.toList) = true := beq_self_eq_true _
        go_wp2_with (first
          | (go_at_call 10; refine (CW.out _).mono ?_; rintro e w30 ⟨rfl, hb30⟩; have B30 := Lib.hid (B10.out.trans (hb30.mono B10.out.size)); clear hb30)
          | (go_at_call 19; refine CR2.out.mono ?_; rintro e w10 ⟨h10, rfl, hs10, hk, _, _⟩; have B10 := Lib.hid (B9.out.trans (hk.toBelow B9.out.size (fun j h => .inl (.inl (.inl (.inl (Nat.lt_of_lt_of_le h B1.out.size))))))); clear hs10 hk))
        go_ret
        exact ⟨rfl, B30.out⟩
  · by_cases hf : fairP l = true
    · have hg : fairP k = false := Bool.eq_false_iff.2 (fun g => hgo ⟨hf, g⟩)
      rw [hf] at CF
      rw [hg] at CG2
      clear hgo hf hg HFP
      go_enter Tryz.func4, Tryz.ntmps4
      go_wp2_with (first
        | (go_at_call 10; refine (CW.out _).mono ?_; rintro e w30 ⟨rfl, hb30⟩; have B30 := Lib.hid (B2.out.trans (hb30.mono B2.out.size)); clear hb30)
        | (go_at_call 9; refine (CG2.out _ FF.out).mono ?_; rintro e wg ⟨rfl, rfl⟩)
        | (go_at_call 9; refine (CF.out _ B2.out).mono ?_; rintro e wf ⟨rfl, rfl⟩; have FF := B2)
        | (go_at_call 7; refine (CM.out _ _ C1.out).mono ?_; rintro e w2 ⟨b, nb, p, rfl, hs2, hb2⟩; have S2 := Lib.hid hs2; have B2 := Lib.hid (B1.out.trans (hb2.mono B1.out.size)); clear hs2 hb2)
        | (go_at_call 8; refine (CT.out w).mono ?_; rintro e w1 ⟨ao1, rfl, hc, hb⟩; have C1 := Lib.hid (cg_cl hc); have B1 := Lib.hid hb; clear hc hb))
      go_ret
      exact ⟨rfl, B30.out⟩
    · rw [Bool.eq_false_iff.2 hf] at CF
      clear hgo hf HFP
      go_enter Tryz.func4, Tryz.ntmps4
      go_wp2_with (first
        | (go_at_call 10; refine (CW.out _).mono ?_; rintro e w30 ⟨rfl, hb30⟩; have B30 := Lib.hid (B2.out.trans (hb30.mono B2.out.size)); clear hb30)
        | (go_at_call 9; refine (CG2.out _ FF.out).mono ?_; rintro e wg ⟨rfl, rfl⟩)
        | (go_at_call 9; refine (CF.out _ B2.out).mono ?_; rintro e wf ⟨rfl, rfl⟩; have FF := B2)
        | (go_at_call 7; refine (CM.out _ _ C1.out).mono ?_; rintro e w2 ⟨b, nb, p, rfl, hs2, hb2⟩; have S2 := Lib.hid hs2; have B2 := Lib.hid (B1.out.trans (hb2.mono B1.out.size)); clear hs2 hb2)
        | (go_at_call 8; refine (CT.out w).mono ?_; rintro e w1 ⟨ao1, rfl, hc, hb⟩; have C1 := Lib.hid (cg_cl hc); have B1 := Lib.hid hb; clear hc hb))
      go_ret
      exact ⟨rfl, B30.out⟩

set_option maxRecDepth 100000 in
theorem fetchAgrees_lifted (os : Os) (started : os.Started) (H : Type) (enc : TypeId × Value → H) :
    ReturnsInHanded {} Tryz.checked os 4 .any (Rows.fetchAgreesSpec.pre6 enc Tryz.prog Tryz.f4 Rows.fetchAgreesRow.domain false) (Rows.fetchAgreesSpec.post enc Tryz.prog Tryz.f4 false true false false) := by
  refine returnsInHanded_of_change (C := Tryz.checked) own started (by kernel_rfl) Tryz.func4
    (ChangeSpec.witness6 (enc := enc) (C := Tryz.checked) false ⟨#[], #[.slice none 0 0, .slice none 0 0, .int .i64 0], []⟩ 8 (by kernel_rfl) (by kernel_rfl) (by kernel_rfl) (by kernel_rfl)) ?_
  intro W base args ds gs before hval0 hW hcnd _
  have hval : ∀ (j : Nat) t v, Tryz.f4.params[j]? = some t → args[j]? = some v → Value.okWide Tryz.prog W .any base t v := hval0
  have hW' := hW
  obtain ⟨p, q, hA0, hV, rfl, hfz, hnd⟩ := hW
  have hA : DataW.TrodAll enc Tryz.prog W 0 (fun _ => true) true Tryz.f4.params.toList args.toList ds p := hA0
  rw [Tryz.params4] at hA hval
  obtain ⟨v0, vs0, d0, ds0, p0, q0, hargs, rfl, rfl, h0, r0⟩ := trodAll_cons hA
  obtain ⟨v1, vs1, d1, ds1, p1, q1, rfl, rfl, rfl, h1, r1⟩ := trodAll_cons r0
  obtain ⟨v2, vs2, d2, ds2, p2, q2, rfl, rfl, rfl, h2, r2⟩ := trodAll_cons r1
  obtain ⟨rfl, rfl, rfl⟩ := trodAll_nil r2
  obtain rfl : args = #[v0, v1, v2] := by cases args; simp_all
  obtain ⟨rfl, rfl⟩ := trodVars_none hV
  have k0 := h0
  have lt0 : ∀ x ∈ p0, x.block < W.heap.size := by obtain ⟨m, hm⟩ := k0; exact DataW.trod_lt m _ _ _ hm
  have k1 := h1
  have lt1 : ∀ x ∈ p1, x.block < W.heap.size := by obtain ⟨m, hm⟩ := k1; exact DataW.trod_lt m _ _ _ hm
  have k2 := h2
  have lt2 : ∀ x ∈ p2, x.block < W.heap.size := by obtain ⟨m, hm⟩ := k2; exact DataW.trod_lt m _ _ _ hm
  obtain ⟨ao0, cap0, L0, rfl, w0, hR0, hK0, hn0, hc0⟩ := open_rows (f := putC) (ok := PtIn) (n := 3) Tryz.underlying22 (by kernel_rfl) (fun m cs y hl hf => put_cs Tryz.underlying85 rfl rfl rfl rfl Tryz.underlying3 Tryz.underlying4 Tryz.underlying9 (by kernel_rfl) (by kernel_rfl) (by kernel_rfl) hl hf) (hval 0 22 v0 rfl rfl) h0
  obtain ⟨ao1, cap1, L1, rfl, w1, hR1, hK1, hn1, hc1⟩ := open_rows (f := putC) (ok := PtIn) (n := 3) Tryz.underlying22 (by kernel_rfl) (fun m cs y hl hf => put_cs Tryz.underlying85 rfl rfl rfl rfl Tryz.underlying3 Tryz.underlying4 Tryz.underlying9 (by kernel_rfl) (by kernel_rfl) (by kernel_rfl) hl hf) (hval 1 22 v1 rfl rfl) h1
  obtain ⟨a2, rfl, rfl, rfl, w2⟩ := open_int Tryz.underlying3 (hval 2 3 v2 rfl rfl) h2
  clear hA0 hval0
  refine (fetchAgrees_walk handSays fetchSays looksSays ao0 cap0 L0 ao1 cap1 L1 a2 w0 w1 w2 W hR0 hK0 hR1 hK1).mono fun e W' ⟨he, bel⟩ => ?_
  subst he
  exact ⟨_, rfl, _, _, _, [], _, [], hW', trodAll_mk1 (shut_bool Tryz.underlying4 _), (trodAll_cons_mk (Below.trod laidOut (by kernel_rfl) (of_decide_eq_true (by kernel_rfl)) k0 bel lt0) (trodAll_cons_mk (Below.trod laidOut (by kernel_rfl) (of_decide_eq_true (by kernel_rfl)) k1 bel lt1) (trodAll_cons_mk (Below.trod laidOut (by kernel_rfl) (of_decide_eq_true (by kernel_rfl)) k2 bel lt2) trodAll_mk0))), rfl, bel.frame _, fun h => by cases h⟩

theorem fetchAgrees_over : Rows.fetchAgreesRow.holds Tryz.pinned (OpenSpec.ofChange Rows.fetchAgreesSpec) :=
  OpenClaim.holds_of_wide 4 Tryz.f4 rfl rfl rfl rfl rfl rfl rfl ⟨rfl, rfl, rfl, rfl, rfl⟩ rfl rfl rfl rfl rfl (by kernel_rfl) Tryz.func4 (by kernel_rfl)
    (of_decide_eq_true (by kernel_rfl)) (by unfold Func.isWrapper; first | (rw [if_pos (by decide +kernel)]; kernel_rfl) | (rw [if_neg (by decide +kernel)]; exact ⟨rfl, rfl⟩))
    (fun os started H enc _ => fetchAgrees_lifted os started H enc)

/-- THE STATEMENT -/
theorem fetchAgrees_holds : Rows.FetchAgreesSaid := fetchAgrees_over 
end Go.Proofs.YthffjanidjjkdaaGreat
