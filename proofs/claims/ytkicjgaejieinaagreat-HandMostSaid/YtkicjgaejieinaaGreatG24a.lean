/- The statements' own Same: all nodes of the program tell what the document's do. Conditions: both lie where the call was told, and are alike. -/
import Derived.Test.YtkicjgaejieinaaGreatG23c
import Derived.Test.YtkicjgaejieinaaGreatG17a
import Derived.Test.YtkicjgaejieinaaGreatG12b
import Derived.Test.YtkicjgaejieinaaGreatG10b
import Derived.Test.YtkicjgaejieinaaGreatG20a
import Derived.Test.YtkicjgaejieinaaGreatG06a
import Derived.Deep.RegionHeld3
set_option linter.unusedVariables false
namespace Go.Proofs.YtkicjgaejieinaaGreat
set_option linter.unusedVariables false
open Go.RowKit
set_option maxRecDepth 20000
/-- the cells of one of the document's units -/
structure UC (r i ri qi : Nat) (u : Us) (W : World) : Prop where
  c0 : W.cell? ⟨r, i, none⟩ = some (.pointer (some ⟨ri, 0, none⟩))
  d0 : W.cell? ⟨ri, 0, none⟩ = some (.pointer (some ⟨qi, 0, none⟩))
  d1 : W.cell? ⟨ri, 1, none⟩ = some (.int .i64 u.epoch)
  d2 : W.cell? ⟨ri, 2, none⟩ = some (.bool u.down)
theorem UC.below {r i ri qi : Nat} {u : Us} {W W2 : World} (h : UC r i ri qi u W) (hb : Below W.heap.size W W2) : UC r i ri qi u W2 :=
  ⟨cellB hb (block_lt_of_cell h.c0) h.c0, cellB hb (block_lt_of_cell h.d0) h.d0, cellB hb (block_lt_of_cell h.d1) h.d1, cellB hb (block_lt_of_cell h.d2) h.d2⟩
theorem rn_unit {r i : Nat} {G : Nat → Prop} {w : World} {n : Nd} (h : RN r G w n) (hi : i < 16) : ∃ (ri qi : Nat) (F : Nat → Prop), UC r i ri qi (n.u i) w ∧ RG F w qi (n.u i).p ∧ (n.u i).p.Ok := by
  obtain ⟨A, ro, rl, B, hT, hA, _, hB⟩ := h.tab
  obtain ⟨F, hF, _⟩ := hB.look (i := i + 3) (by omega)
  have hF' : RU (B i).1 (B i).2 F w (n.u i) := hF
  obtain ⟨⟨h0, _⟩, h1, _, F2, h2, _⟩ := hF'
  obtain ⟨c0, c1, c2, _⟩ := three_cells h1
  exact ⟨(B i).1, (B i).2, F2, ⟨(cell_of hA i).trans (hT.at_ i hi), c0, c1, c2⟩, h2, h0⟩
theorem rn_tops {r : Nat} {G : Nat → Prop} {w : World} {n : Nd} (h : RN r G w n) : ∃ (ro rl : Nat) (lo : Option Addr) (lc : Nat), (w.cell? ⟨r, 16, none⟩ = some (.pointer (some ⟨ro, 0, none⟩)) ∧ w.cell? ⟨r, 17, none⟩ = some (.pointer (some ⟨rl, 0, none⟩)) ∧ w.cell? ⟨ro, 0, none⟩ = some (.int .i64 n.o.epoch) ∧ w.cell? ⟨ro, 2, none⟩ = some (.bool n.o.knows) ∧ w.cell? ⟨rl, 0, none⟩ = some (.int .i64 n.l.ep) ∧ w.cell? ⟨rl, 1, none⟩ = some (.slice lo n.l.L.length lc)) ∧ CL w lo n.l.L ∧ goodB n.l.ep n.l.L = true := by
  obtain ⟨A, ro, rl, B, hT, hA, _, hB⟩ := h.tab
  obtain ⟨F, hF, _⟩ := hB.look (i := 1) (by omega)
  have hF' : RO ro F w n.o := hF
  obtain ⟨c0, c1, c2, _⟩ := three_cells hF'.2.1
  obtain ⟨F2, hF2, _⟩ := hB.look (i := 0) (by omega)
  have hL : RL rl F2 w n.l := hF2
  obtain ⟨lo, lc, bo, cb, h1, h2, _, h4⟩ := hL.open
  exact ⟨ro, rl, lo, lc, ⟨(cell_of hA 16).trans hT.o, (cell_of hA 17).trans hT.l, c0, c2, cell_of h1 0, cell_of h1 1⟩, h2, h4⟩
theorem samePP (e : Int) (L : List (List Int)) : sameP e L e L = true := decide_eq_true ⟨rfl, rfl⟩
theorem UC.four {r i ri qi : Nat} {u : Us} {W : World} (h : UC r i ri qi u W) : W.cell? ⟨r, i, none⟩ = some (.pointer (some ⟨ri, 0, none⟩)) ∧ W.cell? ⟨ri, 0, none⟩ = some (.pointer (some ⟨qi, 0, none⟩)) ∧ W.cell? ⟨ri, 1, none⟩ = some (.int .i64 u.epoch) ∧ W.cell? ⟨ri, 2, none⟩ = some (.bool u.down) := ⟨h.c0, h.d0, h.d1, h.d2⟩
theorem six_on {W W2 : World} {b0 b1 b2 b3 b4 b5 o0 o1 o2 o3 o4 o5 : Nat} {v0 v1 v2 v3 v4 v5 : Value} (h : W.cell? ⟨b0, o0, none⟩ = some v0 ∧ W.cell? ⟨b1, o1, none⟩ = some v1 ∧ W.cell? ⟨b2, o2, none⟩ = some v2 ∧ W.cell? ⟨b3, o3, none⟩ = some v3 ∧ W.cell? ⟨b4, o4, none⟩ = some v4 ∧ W.cell? ⟨b5, o5, none⟩ = some v5) (hb : Below W.heap.size W W2) :
    W2.cell? ⟨b0, o0, none⟩ = some v0 ∧ W2.cell? ⟨b1, o1, none⟩ = some v1 ∧ W2.cell? ⟨b2, o2, none⟩ = some v2 ∧ W2.cell? ⟨b3, o3, none⟩ = some v3 ∧ W2.cell? ⟨b4, o4, none⟩ = some v4 ∧ W2.cell? ⟨b5, o5, none⟩ = some v5 :=
  ⟨cellB hb (block_lt_of_cell h.1) h.1, cellB hb (block_lt_of_cell h.2.1) h.2.1, cellB hb (block_lt_of_cell h.2.2.1) h.2.2.1, cellB hb (block_lt_of_cell h.2.2.2.1) h.2.2.2.1, cellB hb (block_lt_of_cell h.2.2.2.2.1) h.2.2.2.2.1, cellB hb (block_lt_of_cell h.2.2.2.2.2) h.2.2.2.2.2⟩
set_option maxHeartbeats 8000000 in
theorem same13_any {UG : Nat → Nat → (Nat → Prop) → World → Us → Prop} {OG : Nat → (Nat → Prop) → World → Od → Prop} {LG : Nat → (Nat → Prop) → World → Ly → Prop} {NG : Nat → (Nat → Prop) → World → Nd → Prop} (HS : RpcSays UG OG LG NG) (b r : Nat) (X : Nat → Prop) (n : Nd) (w : World) (hN : Solo (NG b) X w n) (hR : Solo (RN r) X w n) :
    Calls Tryz.prog 20 #[.pointer (some ⟨b, 0, none⟩), .pointer (some ⟨r, 0, none⟩)] w fun e w' => e = .returned (.bool true) ∧ Below w.heap.size w w' := by
  have TT := Lib.hid (fun b => HS.thing b)
  have TU := Lib.hid (fun b pb => HS.units.thing b pb)
  have TO := Lib.hid (fun b => HS.order_.thing b)
  have TL := Lib.hid (fun b => HS.layout_.thing b)
  have HN := Lib.hid hN
  have HR := Lib.hid hR
  clear hN hR
  go_enter Tryz.func20, Tryz.ntmps20
  go_wp2_with fail
  go_loopw [5] (fun j wr => ∃ i : Nat, j = .int .i64 i ∧ i ≤ 16 ∧ Hid (Below w.heap.size w wr)) (fun j _ => 16 - (intOf j).toNat)
  case atStart => exact ⟨0, rfl, by omega, Lib.hid (Below.refl _ _)⟩
  case round =>
    obtain ⟨i, rfl, hi, HB⟩ := hrel
    have N0 := Lib.hid (HN.out.below (TT.out b) HB.out)
    have R0 := Lib.hid (HR.out.below (rn_thing r) HB.out)
    clear HN HR
    by_cases hlt : i < 16
    · have i0 : (i : Int) < 16 := by omega
      have i1 : 0 ≤ (i : Int) := by omega
      obtain ⟨_, Gr, hGr, _⟩ := R0.out
      obtain ⟨ri, qi, F, hUC, hRG, hok⟩ := rn_unit hGr hlt
      have UC0 := Lib.hid hUC
      have RG0 := Lib.hid hRG
      have HOK := Lib.hid hok
      have CU := Lib.hid (n_unit HS N0.out (k := i) (i := i) hlt rfl)
      obtain ⟨p, ue, dn, hu⟩ : ∃ p ue dn, n.u i = ⟨p, ue, dn⟩ := ⟨_, _, _, rfl⟩
      rw [hu] at UC0 RG0 HOK CU
      clear hGr hUC hRG hok hu R0 N0
      go_wp2_with (go_at_call 33; refine CU.out.mono ?_; rintro e w1 ⟨bu, pb, rfl, _, hu1, hb1⟩; have U1 := Lib.hid hu1; have B1 := Lib.hid hb1; clear hu1 hb1)
      have U1d := Lib.hid (U1.out.below (TU.out bu pb) (w' := w1.drew) (Below.refl _ _).drew)
      have B1d := Lib.hid (show Below wr.heap.size wr w1.drew from B1.out.drew)
      have S1 := (UC0.out.below B1d.out).four
      clear U1
      simp only [List.append]
      go_region_held3 (fun W => W.cell? ⟨r, i, none⟩ = some (.pointer (some ⟨ri, 0, none⟩)) ∧ W.cell? ⟨ri, 0, none⟩ = some (.pointer (some ⟨qi, 0, none⟩)) ∧ W.cell? ⟨ri, 1, none⟩ = some (.int .i64 ue) ∧ W.cell? ⟨ri, 2, none⟩ = some (.bool dn))
        (first | assumption | exact S1)
        (first
          | (go_at_call 34; refine (t_look U1d.out (fun G hG => HS.units.epoch bu pb G _ _ hG)).mono ?_; rintro e w2 ⟨rfl, hb2⟩; have U2 := Lib.hid (U1d.out.below (TU.out bu pb) hb2); have B2 := Lib.hid (B1d.out.trans (hb2.mono B1d.out.size)); have S2 := (UC0.out.below B2.out).four; clear hb2)
          | (go_at_call 35; refine (t_look U2.out (fun G hG => HS.units.down bu pb G _ _ hG)).mono ?_; rintro e w3 ⟨rfl, hb3⟩; have U3 := Lib.hid (U2.out.below (TU.out bu pb) hb3); have B3 := Lib.hid (B2.out.trans (hb3.mono B2.out.size)); have S3 := (UC0.out.below B3.out).four; clear hb3)
          | (go_at_call 36; refine (t_look U7.out (fun G hG => HS.units.pages bu pb G _ _ hG)).mono ?_; unfold ptrV; rintro e w8 ⟨rfl, hb8⟩; have U8 := Lib.hid (U7.out.below (TU.out bu pb) hb8); have B8 := Lib.hid (B7.out.trans (hb8.mono B7.out.size)); have S8 := (UC0.out.below B8.out).four; clear hb8)
          | (go_at_call 36; refine (t_look U5.out (fun G hG => HS.units.pages bu pb G _ _ hG)).mono ?_; unfold ptrV; rintro e w6 ⟨rfl, hb6⟩; have U6 := Lib.hid (U5.out.below (TU.out bu pb) hb6); have B6 := Lib.hid (B5.out.trans (hb6.mono B5.out.size)); have S6 := (UC0.out.below B6.out).four; clear hb6)
          | (go_at_call 36; refine (t_look U3.out (fun G hG => HS.units.pages bu pb G _ _ hG)).mono ?_; unfold ptrV; rintro e w4 ⟨rfl, hb4⟩; have U4 := Lib.hid (U3.out.below (TU.out bu pb) hb4); have B4 := Lib.hid (B3.out.trans (hb4.mono B3.out.size)); have S4 := (UC0.out.below B4.out).four; clear hb4)
          | (go_at_call 37; refine (t_look U4.out (fun G hG => HS.units.used bu pb G _ _ hG)).mono ?_; rintro e w5 ⟨rfl, hb5⟩; have U5 := Lib.hid (U4.out.below (TU.out bu pb) hb5); have B5 := Lib.hid (B4.out.trans (hb5.mono B4.out.size)); have G5 := Lib.hid (RG0.out.below B5.out); have S5 := (UC0.out.below B5.out).four; clear hb5)
          | (go_at_call 38; refine (rused_any _ _ _ _ G5.out).mono ?_; rintro e w55 ⟨rfl, rfl⟩)
          | (go_at_call 39; refine (t_look U6.out (fun G hG => HS.units.tail bu pb G _ _ hG)).mono ?_; rintro e w7 ⟨rfl, hb7⟩; have U7 := Lib.hid (U6.out.below (TU.out bu pb) hb7); have B7 := Lib.hid (B6.out.trans (hb7.mono B6.out.size)); have G7 := Lib.hid (RG0.out.below B7.out); have S7 := (UC0.out.below B7.out).four; clear hb7)
          | (go_at_call 40; refine (rtail_any _ _ _ _ G7.out HOK.out).mono ?_; rintro e w77 ⟨rfl, rfl⟩)
          | (go_at_call 41; refine (t_look U8.out (fun G hG => HS.units.edge bu pb G _ _ hG)).mono ?_; rintro e w9 ⟨rfl, hb9⟩; have B9 := Lib.hid (B8.out.trans (hb9.mono B8.out.size)); have G9 := Lib.hid (RG0.out.below B9.out); have S9 := (UC0.out.below B9.out).four; clear hb9)
          | (go_at_call 42; refine (redge_any _ _ _ _ G9.out).mono ?_; rintro e w99 ⟨rfl, rfl⟩))
      go_wp2_with fail
      go_roundw
      case rel => exact ⟨i + 1, by go_num, by omega, Lib.hid (HB.out.trans (B9.out.mono HB.out.size))⟩
      case measure => simp [intOf]; omega
    · obtain rfl : i = 16 := by omega
      obtain ⟨_, Gr, hGr, _⟩ := R0.out
      obtain ⟨ro, rl, lo, lc, hsix, hCL, hgd⟩ := rn_tops hGr
      have HCL := Lib.hid hCL
      have HSM := Lib.hid (show n.l.L.length ≤ 1000000 ∧ ∀ c ∈ n.l.L, c.length ≤ 1000000 from ⟨Nat.le_trans (good_small hgd).1 (by decide), fun c hc => Nat.le_trans ((good_small hgd).2 c hc) (by decide)⟩)
      have N1 := Lib.hid (N0.out.below (TT.out b) (w' := wr.drew) (Below.refl _ _).drew)
      have B0 := Lib.hid (show Below wr.heap.size wr wr.drew from (Below.refl _ _).drew)
      obtain ⟨oe, ok, hoe, hok⟩ : ∃ oe ok, n.o.epoch = oe ∧ n.o.knows = ok := ⟨_, _, rfl, rfl⟩
      have HOE := Lib.hid hoe
      have HOK := Lib.hid hok
      rw [hoe, hok] at hsix
      have S0 := six_on hsix (show Below wr.heap.size wr wr.drew from (Below.refl _ _).drew)
      clear hGr hCL hgd hoe hok R0 N0 hsix
      go_wp2_with fail
      go_region_held3 (fun W => W.cell? ⟨r, 16, none⟩ = some (.pointer (some ⟨ro, 0, none⟩)) ∧ W.cell? ⟨r, 17, none⟩ = some (.pointer (some ⟨rl, 0, none⟩)) ∧ W.cell? ⟨ro, 0, none⟩ = some (.int .i64 oe) ∧ W.cell? ⟨ro, 2, none⟩ = some (.bool ok) ∧ W.cell? ⟨rl, 0, none⟩ = some (.int .i64 n.l.ep) ∧ W.cell? ⟨rl, 1, none⟩ = some (.slice lo n.l.L.length lc))
        (first | assumption | exact S0)
        (first
          | (go_at_call 30; refine (keepProj_any n.l.ep vo vc n.l.L n.l.ep lo lc n.l.L _ CV6.out (HCL.out.below B6.out) HSM.out HSM.out).mono ?_; rw [samePP]; rintro e w7 ⟨rfl, hb7⟩; have B7 := Lib.hid (B6.out.trans (hb7.mono B6.out.size)); have S7 := six_on S6 hb7; clear hb7)
          | (go_at_call 47; refine (l_now HS.layout_ Y5.out).mono ?_; rintro e w6 ⟨v, rfl, hO, hb6⟩; obtain ⟨vo, vc, hv, hcv, _⟩ := hO.form; subst hv; have CV6 := Lib.hid hcv; have B6 := Lib.hid (B5.out.trans (hb6.mono B5.out.size)); have S6 := six_on S5 hb6; clear hb6 hO hcv)
          | (go_at_call 46; refine (n_layout HS N4.out).mono ?_; rintro e w5 ⟨bl, rfl, hn5, hy5, hb5⟩; have Y5 := Lib.hid hy5; have B5 := Lib.hid (B4.out.trans (hb5.mono B4.out.size)); have S5 := six_on S4 hb5; clear hb5 hn5 hy5)
          | (go_at_call 45; refine (t_look O3.out (fun G hG => HS.order_.knows bo3 G _ _ hG)).mono ?_; rw [HOK.out]; rintro e w4 ⟨rfl, hb4⟩; have N4 := Lib.hid (N3.out.below (TT.out b) hb4); have B4 := Lib.hid (B3.out.trans (hb4.mono B3.out.size)); have S4 := six_on S3 hb4; clear hb4)
          | (go_at_call 43; refine (n_order HS N2.out).mono ?_; rintro e w3 ⟨bo3, rfl, hn3, ho3, hb3⟩; have N3 := Lib.hid hn3; have O3 := Lib.hid ho3; have B3 := Lib.hid (B2.out.trans (hb3.mono B2.out.size)); have S3 := six_on S2 hb3; clear hb3 hn3 ho3)
          | (go_at_call 44; refine (t_look O11.out (fun G hG => HS.order_.epoch bo1 G _ _ hG)).mono ?_; rw [HOE.out]; rintro e w2 ⟨rfl, hb2⟩; have N2 := Lib.hid (N11.out.below (TT.out b) hb2); have B2 := Lib.hid (B11.out.trans (hb2.mono B11.out.size)); have S2 := six_on S11 hb2; clear hb2)
          | (go_at_call 43; refine (n_order HS N1.out).mono ?_; rintro e w11 ⟨bo1, rfl, hn1, ho1, hb1⟩; have N11 := Lib.hid hn1; have O11 := Lib.hid ho1; have B11 := Lib.hid (B0.out.trans (hb1.mono B0.out.size)); have S11 := six_on S0 hb1; clear hb1 hn1 ho1))
      go_wp2_with fail
      go_ret
      exact ⟨by simp, HB.out.trans (B7.out.mono HB.out.size)⟩
end Go.Proofs.YtkicjgaejieinaaGreat
