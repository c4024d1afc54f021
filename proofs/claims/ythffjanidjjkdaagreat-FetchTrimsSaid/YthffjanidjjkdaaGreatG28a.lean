/- What is laid by a hand ahead of a fetch. Conditions: the program's functions return what HandSays says; the projection's chains and the puts lie in memory that is none of the hand's. (Written by gen/genfetlay.py.) -/
import Derived.Test.YthffjanidjjkdaaGreatG15b
import Derived.Test.YthffjanidjjkdaaGreatG05a
import Derived.Test.YthffjanidjjkdaaGreatG27a
import Derived.Test.YthffjanidjjkdaaGreatG13b
import Derived.Test.YthffjanidjjkdaaGreatG02a
import Derived.Deep.RegionHeld3
import Derived.BigRegion
import Derived.Deep.CutRange
set_option linter.unusedVariables false
namespace Go.Proofs.YthffjanidjjkdaaGreat
set_option linter.unusedVariables false
open Go.RowKit
set_option maxRecDepth 20000
def putV (fill : Bool) : Int := if fill = true then 2 else 1
theorem asked0 (h : Hd) (k : Ak) : h.asked k 0 = ⟨h.n.done k, h.held⟩ := if_pos (.inl rfl)
theorem nine_of9 {w : World} {b : Nat} {t : TypeId} {v0 v1 v2 v3 v4 v5 v6 v7 v8 : Value} (h : w.heap[b]? = some (.cells #[v0, v1, v2, v3, v4, v5, v6, v7, v8] t (0, 0))) :
    (w.cell? ⟨b, 0, none⟩ = some v0 ∧ w.cell? ⟨b, 1, none⟩ = some v1 ∧ w.cell? ⟨b, 2, none⟩ = some v2 ∧ w.cell? ⟨b, 3, none⟩ = some v3 ∧ w.cell? ⟨b, 4, none⟩ = some v4 ∧ w.cell? ⟨b, 5, none⟩ = some v5 ∧ w.cell? ⟨b, 6, none⟩ = some v6 ∧ w.cell? ⟨b, 7, none⟩ = some v7 ∧ w.cell? ⟨b, 8, none⟩ = some v8) ∧ True :=
  ⟨⟨cell_of h 0, cell_of h 1, cell_of h 2, cell_of h 3, cell_of h 4, cell_of h 5, cell_of h 6, cell_of h 7, cell_of h 8⟩, trivial⟩
theorem below_ov {w1 W w2 : World} (hb : Below W.heap.size W w2) (h : Below w1.heap.size w1 W) : Below w1.heap.size w1 w2 := h.trans (hb.mono h.size)
theorem box_keep {W : World} {g : Nat} {t : TypeId} {x y : Value} (h : W.heap[g]? = some (.cells #[x, y] t (0, 0))) : W.cell? ⟨g, 0, none⟩ = some x ∧ W.cell? ⟨g, 1, none⟩ = some y := ⟨cell_of h 0, cell_of h 1⟩
set_option maxHeartbeats 32000000 in
theorem lay_any {UG : Nat → Nat → (Nat → Prop) → World → Us → Prop} {OG : Nat → (Nat → Prop) → World → Od → Prop} {LG : Nat → (Nat → Prop) → World → Ly → Prop} {NG : Nat → (Nat → Prop) → World → Nd → Prop} {HG : Nat → Nat → (Nat → Prop) → World → Hd → Prop} (HS : HandSays UG OG LG NG HG) (b nb : Nat) (X : Nat → Prop) (w : World) (h0 : Hd) (hs : Solo (HG b nb) X w h0) (hN : LayN h0.n) (hu : h0.n.l.used.length ≤ 100000) (ao : Option Addr) (cap : Nat) (hC : ∀ W, Kept X w W → CL W ao thL)
    (lo : Option Addr) (lc : Nat) (l : List Pt) (hl : l.length ≤ maxLen) (hR : ∀ W, Kept X w W → Row W lo 4 putC l) (hK : ∀ p ∈ l, p.s.size ≤ 1000) :
    Calls Tryz.prog 11 #[.pointer (some ⟨b, 0, none⟩), .agg #[.int .i64 0, .slice ao 3 cap], .slice lo l.length lc] w fun e w' => e = .returned (.tuple #[]) ∧ ∃ h' : Hd, Solo (HG b nb) X w' h' ∧ Kept X w w' ∧ LayN h'.n ∧ Mono h0.n h'.n := by
  unfold maxLen at hl
  have ZZ := Lib.hid (fun (x : Int) (h : 0 ≤ x ∧ x ≤ 300) => show i64w x from WalkArith.wf_i64 (by omega))
  have TT := Lib.hid (fun b nb => HS.thing b nb)
  have HB := Lib.hid (below_new w (.cells #[.int .i64 0, .slice ao 3 cap] 30))
  have HP := Lib.hid (heap_alloc_new w (.cells #[.int .i64 0, .slice ao 3 cap] 30))
  have S1 := Lib.hid (hs.beside (TT.out b nb) (.cells #[.int .i64 0, .slice ao 3 cap] 30))
  have HN0 := Lib.hid hN
  have HU0 := Lib.hid hu
  have K1 := Lib.hid (fun W (hk : Kept (fun k => X k ∨ k = w.heap.size) (w.alloc (.cells #[.int .i64 0, .slice ao 3 cap] 30)) W) => (Kept.ofBelow HB.out X).trans (hk.mono (fun k h => .inl h)))
  have HC := Lib.hid hC
  have HR := Lib.hid hR
  have HK := Lib.hid hK
  have hl' : (l.length : Int) ≤ 9223372036854775807 := by omega
  clear hs hN hu hC hR hK
  go_enter Tryz.func11, Tryz.ntmps11
  go_wp2_with fail
  generalize w.alloc (.cells #[.int .i64 0, .slice ao 3 cap] 30) = w1 at *
  go_loopw [6] (fun i wr => ∃ (k : Nat) (h : Hd), i = .int .i64 k ∧ k ≤ l.length ∧ Hid (LayN h.n) ∧ Hid (Mono h0.n h.n) ∧ Hid (Solo (HG b nb) (fun k => X k ∨ k = w.heap.size) wr h) ∧ Hid (Kept (fun k => X k ∨ k = w.heap.size) w1 wr)) (fun i _ => l.length - (intOf i).toNat)
  case atStart => exact ⟨0, h0, rfl, Nat.zero_le _, HN0, Lib.hid (Mono.refl _), S1, Lib.hid (Kept.refl _ _)⟩
  case round =>
    clear S1 HN0
    obtain ⟨k, h, rfl, hk, HN, HM, HT, HKE⟩ := hrel
    by_cases hkl : k < l.length
    · have n1 : (k : Int) < (l.length : Int) := by omega
      by_cases h60 : k < 60
      · have n2 : (k : Int) < 60 := by omega
        obtain ⟨bk, off, hlo, ca, cu, cf, cs⟩ := put_at (HR.out _ (K1.out _ HKE.out)) hkl
        have RW := Lib.hid (fun W (hw : Kept (fun k => X k ∨ k = w.heap.size) w1 W) => put_at (HR.out W (K1.out W hw)) hkl)
        have hsz := HK.out _ (List.getElem_mem hkl)
        rw [hlo] at RW
        subst hlo
        have hbk := block_lt_of_cell ca
        generalize l[k] = pt at *
        obtain ⟨addr, units, fill, s⟩ := pt
        dsimp only at ca cu cf cs RW hsz
        have HPr := Lib.hid (HKE.out.heap (show (fun k => X k ∨ k = w.heap.size) w.heap.size from .inr rfl) HP.out)
        have HCr := Lib.hid (fun W (hb : Below wr.heap.size wr W) => (HC.out wr (K1.out _ HKE.out)).below hb)
        have HPk := Lib.hid (fun W (hb : Below wr.heap.size wr W) => below_heap hb HPr.out)
        obtain ⟨p0, p1, _, _⟩ := two_cells HPr.out
        have hm0 := Int.emod_nonneg addr (show (40 : Int) ≠ 0 by decide)
        have hm1 := Int.emod_lt_of_pos addr (show (0 : Int) < 40 by decide)
        have CM := Lib.hid (fun w => mod_any addr 40 (by decide) (by decide) w)
        generalize addr % 40 = m at *
        have COF := Lib.hid (fun W (hb : CL W ao thL) => refOf_any 0 ao cap thL m W hb ⟨by decide, by decide⟩)
        have CHA := Lib.hid (fun W (hb : CL W ao thL) => refChainO_any 0 ao cap thL m W hb ⟨by decide, by decide⟩)
        rw [show gotV 0 thL m = .agg #[.int .i64 (ofC 0 thL m), .int .i64 (m / 3), .bool true] from by unfold gotV; rw [(thL_of (by omega)).1, ofB_iff.2 ⟨thL_good, by omega⟩]] at COF
        have CLN := Lib.hid (thL_len (x := m) (by omega))
        have CUN := Lib.hid (fun j (hj : j < lenF m) => thL_unit (x := m) (by omega) hj)
        generalize ofC 0 thL m = oc at *
        generalize chainR 0 thL m = C at *
        have HC3 := Lib.hid (lenF_pos m)
        have hC3 : C.length ≤ 3 := by rw [CLN.out]; exact HC3.out.2
        have hC3' : (C.length : Int) ≤ 3 := by omega
        go_wp2_with (go_at_call 12; refine (CM.out _).mono ?_; rintro e w3 ⟨rfl, rfl⟩)
        go_cut [8, 9] from 14 to 85 (fun cv xv wx => ∃ (co : Option Addr) (cc g : Nat), cv = .slice co C.length cc ∧ xv = .pointer (some ⟨g, 0, none⟩) ∧ wr.heap.size ≤ g ∧ g < wx.heap.size ∧ Hid (Below wr.heap.size wr wx) ∧ Hid (OI wx wr.heap.size (.slice co C.length cc) C) ∧ Hid (wx.heap[g]? = some (.cells #[.int .i64 oc, .int .i64 (m / 3), .bool true] 41 (0, 0))))
        case first =>
          go_region_held3 (fun W => W.cell? ⟨w.heap.size, 0, none⟩ = some (.int .i64 0) ∧ W.cell? ⟨w.heap.size, 1, none⟩ = some (.slice ao 3 cap))
            (first | exact ⟨p0, p1⟩ | assumption | exact box_keep HW6.out | exact box_keep (HPk.out _ (((HB6.out.setCell (by first | exact Nat.le_refl _ | exact hs5) _).setCell (by first | exact Nat.le_refl _ | exact hs5) _).setCell (by first | exact Nat.le_refl _ | exact hs5) _)) | exact box_keep (HPk.out _ (HB6.out.alloc HB6.out.size _)) | exact box_keep HW5.out | exact box_keep (HPk.out _ (HB5.out.alloc HB5.out.size _)) | exact box_keep (HPk.out _ (below_new wr _).drew) | exact box_keep (HPk.out _ (below_new wr _)) | exact box_keep (HPk.out _ (Below.refl _ wr).drew))
            (first
              | (go_at_call 14; refine (COF.out _ (HCr.out _ (by first | exact HB5.out | exact HB5.out.alloc HB5.out.size _))).mono ?_; rintro e w6 ⟨rfl, hb6⟩; have HB6 := Lib.hid (below_ov (w1 := wr) hb6 (by first | exact HB5.out | exact HB5.out.alloc HB5.out.size _)); have HW6 := Lib.hid (HPk.out _ HB6.out); have N6 := Lib.hid (below_ov (w1 := w5) hb6 (by first | exact Below.refl _ _ | exact below_new _ _)); have hs5 := HB5.out.size; first | (have HG := Lib.hid (show w6.heap[wr.heap.size]? = some (.cells #[.int .i64 0, .int .i64 0, .bool false] 41 (0, 0)) from below_heap hb6 HG5.out); obtain ⟨_, _, _, g0, g1, g2⟩ := three_cells HG.out; have hgl := lt_of_block HG.out) | (have HG := Lib.hid (show w6.heap[w5.heap.size]? = some (.cells #[.int .i64 0, .int .i64 0, .bool false] 41 (0, 0)) from below_heap hb6 (heap_alloc_new w5 (.cells #[.int .i64 0, .int .i64 0, .bool false] 41))); obtain ⟨_, _, _, g0, g1, g2⟩ := three_cells HG.out; have hgl := lt_of_block HG.out) | skip)
              | (go_at_call 13; refine (CHA.out _ (HCr.out _ (by first | exact (Below.refl _ _).drew | exact (below_new _ _).drew))).mono ?_; rintro e w5 ⟨co, cc, rfl, hN5, hb5⟩; have HB5 := Lib.hid (below_ov (w1 := wr) hb5 (by first | exact (Below.refl _ _).drew | exact (below_new _ _).drew)); have HW5 := Lib.hid (HPk.out _ HB5.out); have N5 := Lib.hid hN5; first | (have HG5 := Lib.hid (show w5.heap[wr.heap.size]? = some (.cells #[.int .i64 0, .int .i64 0, .bool false] 41 (0, 0)) from below_heap hb5 (heap_alloc_new wr (.cells #[.int .i64 0, .int .i64 0, .bool false] 41)))) | skip))
          · have HB7 := Lib.hid (HB6.out.alloc HB6.out.size (.cells #[.int .i64 oc, .int .i64 (m / 3), .bool true] 41))
            have HG7 := Lib.hid (heap_alloc_new w6 (.cells #[.int .i64 oc, .int .i64 (m / 3), .bool true] 41))
            have N7 := Lib.hid ((N5.out.keep (Kept.ofBelow (N6.out.alloc N6.out.size (.cells #[.int .i64 oc, .int .i64 (m / 3), .bool true] 41)) (fun _ => True)) (fun _ _ _ => trivial)).lower (Nat.le_refl wr.heap.size))
            have HGR := show wr.heap.size ≤ w6.heap.size ∧ w6.heap.size < (w6.alloc (.cells #[.int .i64 oc, .int .i64 (m / 3), .bool true] 41)).heap.size from ⟨HB6.out.size, by simp⟩
            go_wp2_with fail
            go_meet
            case rel => exact ⟨co, cc, w6.heap.size, rfl, rfl, HGR.1, HGR.2, HB7, N7, HG7⟩
          · have HB7 := Lib.hid (((HB6.out.setCell (p := ⟨w5.heap.size, 0, none⟩) (hs5) (.int .i64 oc)).setCell (p := ⟨w5.heap.size, 1, none⟩) (hs5) (.int .i64 (m / 3))).setCell (p := ⟨w5.heap.size, 2, none⟩) (hs5) (.bool true))
            have HG7 := Lib.hid (three_set2 (three_set1 (three_set0 HG.out (.int .i64 oc)) (.int .i64 (m / 3))) (.bool true))
            have N7 := Lib.hid ((N5.out.keep ((((Kept.ofBelow N6.out (fun k => k ≠ w5.heap.size)).setCell (p := ⟨w5.heap.size, 0, none⟩) (fun h => h rfl) (.int .i64 oc)).setCell (p := ⟨w5.heap.size, 1, none⟩) (fun h => h rfl) (.int .i64 (m / 3))).setCell (p := ⟨w5.heap.size, 2, none⟩) (fun h => h rfl) (.bool true)) (fun k _ h e => by omega)).lower (Nat.le_refl wr.heap.size))
            have HGR := show wr.heap.size ≤ w5.heap.size ∧ w5.heap.size < (((w6.setCell ⟨w5.heap.size, 0, none⟩ (.int .i64 oc)).setCell ⟨w5.heap.size, 1, none⟩ (.int .i64 (m / 3))).setCell ⟨w5.heap.size, 2, none⟩ (.bool true)).heap.size from ⟨hs5, by simpa [World.setCell] using hgl⟩
            go_wp2_with fail
            go_meet
            case rel => exact ⟨co, cc, w5.heap.size, rfl, rfl, HGR.1, HGR.2, HB7, N7, HG7⟩
          · have HB7 := Lib.hid (((HB6.out.setCell (p := ⟨wr.heap.size, 0, none⟩) (Nat.le_refl _) (.int .i64 oc)).setCell (p := ⟨wr.heap.size, 1, none⟩) (Nat.le_refl _) (.int .i64 (m / 3))).setCell (p := ⟨wr.heap.size, 2, none⟩) (Nat.le_refl _) (.bool true))
            have HG7 := Lib.hid (three_set2 (three_set1 (three_set0 HG.out (.int .i64 oc)) (.int .i64 (m / 3))) (.bool true))
            have N7 := Lib.hid ((N5.out.keep ((((Kept.ofBelow N6.out (fun k => k ≠ wr.heap.size)).setCell (p := ⟨wr.heap.size, 0, none⟩) (fun h => h rfl) (.int .i64 oc)).setCell (p := ⟨wr.heap.size, 1, none⟩) (fun h => h rfl) (.int .i64 (m / 3))).setCell (p := ⟨wr.heap.size, 2, none⟩) (fun h => h rfl) (.bool true)) (fun k h _ e => by simp at h; omega)).lower (show wr.heap.size ≤ (wr.alloc (.cells #[.int .i64 0, .int .i64 0, .bool false] 41)).drew.heap.size from by simp))
            have HGR := show wr.heap.size ≤ wr.heap.size ∧ wr.heap.size < (((w6.setCell ⟨wr.heap.size, 0, none⟩ (.int .i64 oc)).setCell ⟨wr.heap.size, 1, none⟩ (.int .i64 (m / 3))).setCell ⟨wr.heap.size, 2, none⟩ (.bool true)).heap.size from ⟨Nat.le_refl _, by simpa [World.setCell] using hgl⟩
            go_wp2_with fail
            go_meet
            case rel => exact ⟨co, cc, wr.heap.size, rfl, rfl, HGR.1, HGR.2, HB7, N7, HG7⟩
        case rest =>
          obtain ⟨co, cc, g, rfl, rfl, gl, gh, HB7, N7, HG7⟩ := hcut
          have S7 := Lib.hid (HT.out.wider (TT.out b nb) HB7.out)
          have K7 := Lib.hid (HKE.out.trans (Kept.ofBelow HB7.out _))
          generalize wc = W7 at *
          have WP0 := Lib.hid (show wasPut h.n (putV fill) s m 0 from fun i hi => absurd hi (Nat.not_lt_zero i))
          go_wp2_with fail
          go_loopw [10] (fun i wr2 => ∃ (j : Nat) (h2 : Hd), i = .int .i64 j ∧ j ≤ C.length ∧ Hid (wasPut h2.n (putV fill) s m j) ∧ Hid (LayN h2.n) ∧ Hid (Mono h0.n h2.n) ∧ Hid (Solo (HG b nb) (fun k => (X k ∨ k = w.heap.size) ∨ (wr.heap.size ≤ k ∧ k < W7.heap.size)) wr2 h2) ∧ Hid (Kept (fun k => (X k ∨ k = w.heap.size) ∨ (wr.heap.size ≤ k ∧ k < W7.heap.size)) W7 wr2)) (fun i _ => C.length - (intOf i).toNat)
          case atStart => exact ⟨0, h, rfl, Nat.zero_le _, WP0, HN, HM, S7, Lib.hid (Kept.refl _ _)⟩
          case round =>
            clear WP0 S7 HN HM HT ca cu cf cs hbk
            obtain ⟨j, h2, rfl, hj, HWP, HN, HM, HT, HK2⟩ := hrel
            have KX := Lib.hid (K7.out.trans (HK2.out.mono (fun k h => .inl h)))
            obtain ⟨bk2, off2, hlo2, ca, cu, cf, cs⟩ := RW.out _ KX.out
            obtain ⟨rfl, rfl⟩ : bk2 = bk ∧ off2 = off := by simpa using hlo2.symm
            have hbk := block_lt_of_cell ca
            have HG2 := Lib.hid (HK2.out.heap (.inr ⟨gl, gh⟩) HG7.out)
            obtain ⟨q0, q1, q2, _, _, _⟩ := three_cells HG2.out
            have hgb := lt_of_block HG2.out
            clear ca
            by_cases hjl : j < C.length
            · have n3 : (j : Int) < (C.length : Int) := by omega
              by_cases hju : (j : Int) < units
              · have hjf : j < lenF m := by rw [← CLN.out]; exact hjl
                have HJ := Lib.hid hjf
                obtain ⟨a2, c2, hv2, hN2, _⟩ := (N7.out.keep HK2.out (fun k h1 h2 => .inr ⟨h1, h2⟩)).form
                obtain ⟨⟨ck, coff, hco, hcell⟩, _⟩ := hN2.1 j hjl
                have hcj : C[j] = (unF m j : Int) := by
                  have h := CUN.out j hjf
                  rw [List.getD_eq_getElem?_getD, List.getElem?_eq_getElem hjl] at h
                  exact h
                rw [hcj] at hcell
                obtain ⟨rfl, _, rfl⟩ := Value.slice.inj hv2
                subst hco
                have hck := block_lt_of_cell hcell
                have hun := unF_low hjf
                have j0 : (0 : Int) ≤ (j : Int) := by omega
                generalize hU : unF m j = uj at *
                clear hcj hv2 hN2
                cases fill with
                | false =>
                  have HQ := Lib.hid (show AskA m j (akN 1 (uj : Int) 0 (m / 3) s) from hU ▸ asksA ⟨by omega, by omega⟩ (.inl rfl) j (s := s) (by first | decide | omega))
                  have HL := Lib.hid (HN.out.put (V := putV false) (S := s) (.inl rfl) HJ.out HWP.out HQ.out rfl (fun _ => rfl))
                  by_cases hz : (h2.n.ans (akN 1 (uj : Int) 0 (m / 3) s)).code = 0
                  · go_wp2_with fail
                    go_region
                    go_wp2_with fail
                    have HB8 := Lib.hid (show Below wr.heap.size wr (wr.alloc (.cells #[.int .i64 1, .int .i64 (uj : Int), .int .i64 0, .int .i64 (m / 3), .int .i64 0, .int .i64 0, .string s, .int .i64 0, .slice none 0 0] 62)).drew from (below_new wr _).drew)
                    have HQ8 := Lib.hid (show (wr.alloc (.cells #[.int .i64 1, .int .i64 (uj : Int), .int .i64 0, .int .i64 (m / 3), .int .i64 0, .int .i64 0, .string s, .int .i64 0, .slice none 0 0] 62)).drew.heap[wr.heap.size]? = _ from heap_alloc_new wr (.cells #[.int .i64 1, .int .i64 (uj : Int), .int .i64 0, .int .i64 (m / 3), .int .i64 0, .int .i64 0, .string s, .int .i64 0, .slice none 0 0] 62))
                    generalize (wr.alloc (.cells #[.int .i64 1, .int .i64 (uj : Int), .int .i64 0, .int .i64 (m / 3), .int .i64 0, .int .i64 0, .string s, .int .i64 0, .slice none 0 0] 62)).drew = w8 at *
                    obtain ⟨⟨y0, y1, y2, y3, y4, y5, y6, y7, y8⟩, _⟩ := nine_of9 HQ8.out
                    have HT8 := Lib.hid (HT.out.below (TT.out b nb) HB8.out)
                    have HU8 := Lib.hid (show h2.n.l.used.length ≤ 100000 from by rw [HM.out.l]; exact HU0.out)
                    have HD8 := Lib.hid (show (s : ByteArray).size ≤ 1000000 from by first | decide | omega)
                    have ZU := Lib.hid (ZZ.out (uj : Int) (by omega))
                    have ZM := Lib.hid (ZZ.out (m / 3) (by omega))
                    have HZ := Lib.hid hz
                    clear hz
                    go_wp2_with (go_at_call 21; refine (ho_ask HS HT8.out (k := 1) (un := (uj : Int)) (e := 0) (p := m / 3) (s := s) (fate := 0) (by omega) ZU.out (ZZ.out 0 (by omega)) ZM.out HD8.out HU8.out (ZZ.out 0 (by omega))).mono ?_; rintro e2 w9 ⟨xc, xn, xm, xz, xe, xd, vo, vc, c, hc, rfl, hx, hs9, hk9⟩; obtain rfl : c = true := hc; have hx0 : (h2.n.ans (akN 1 (uj : Int) 0 (m / 3) s)).code = xc := congrArg An.code hx; obtain rfl : xc = 0 := hx0.symm.trans HZ.out; rw [asked0] at hs9; have S9 := Lib.hid hs9; have K9 := Lib.hid ((Kept.ofBelow HB8.out _).trans hk9); clear hx hs9 hk9)
                    have HB10 := Lib.hid (below_new w9 (.cells #[.int .i64 0, .int .i64 xn, .string xd, .int .i64 0, .slice vo 0 vc, .int .i64 xm, .int .i64 xz, .int .i64 xe] 58))
                    refine ⟨⟨j + 1, ⟨h2.n.done (akN 1 (uj : Int) 0 (m / 3) s), h2.held⟩, by go_num, by omega, Lib.hid (HL.out.2.2 HZ.out), Lib.hid HL.out.1, Lib.hid (HM.out.trans HL.out.2.1), Lib.hid (S9.out.below (TT.out b nb) HB10.out), Lib.hid ((HK2.out.trans K9.out).below HB10.out)⟩, by simp [intOf]; omega⟩
                  · go_wp2_with fail
                    go_region
                    go_wp2_with fail
                    have HB8 := Lib.hid (show Below wr.heap.size wr (wr.alloc (.cells #[.int .i64 1, .int .i64 (uj : Int), .int .i64 0, .int .i64 (m / 3), .int .i64 0, .int .i64 0, .string s, .int .i64 0, .slice none 0 0] 62)).drew from (below_new wr _).drew)
                    have HQ8 := Lib.hid (show (wr.alloc (.cells #[.int .i64 1, .int .i64 (uj : Int), .int .i64 0, .int .i64 (m / 3), .int .i64 0, .int .i64 0, .string s, .int .i64 0, .slice none 0 0] 62)).drew.heap[wr.heap.size]? = _ from heap_alloc_new wr (.cells #[.int .i64 1, .int .i64 (uj : Int), .int .i64 0, .int .i64 (m / 3), .int .i64 0, .int .i64 0, .string s, .int .i64 0, .slice none 0 0] 62))
                    generalize (wr.alloc (.cells #[.int .i64 1, .int .i64 (uj : Int), .int .i64 0, .int .i64 (m / 3), .int .i64 0, .int .i64 0, .string s, .int .i64 0, .slice none 0 0] 62)).drew = w8 at *
                    obtain ⟨⟨y0, y1, y2, y3, y4, y5, y6, y7, y8⟩, _⟩ := nine_of9 HQ8.out
                    have HT8 := Lib.hid (HT.out.below (TT.out b nb) HB8.out)
                    have HU8 := Lib.hid (show h2.n.l.used.length ≤ 100000 from by rw [HM.out.l]; exact HU0.out)
                    have HD8 := Lib.hid (show (s : ByteArray).size ≤ 1000000 from by first | decide | omega)
                    have ZU := Lib.hid (ZZ.out (uj : Int) (by omega))
                    have ZM := Lib.hid (ZZ.out (m / 3) (by omega))
                    have HZ := Lib.hid hz
                    clear hz
                    go_wp2_with (go_at_call 21; refine (ho_ask HS HT8.out (k := 1) (un := (uj : Int)) (e := 0) (p := m / 3) (s := s) (fate := 0) (by omega) ZU.out (ZZ.out 0 (by omega)) ZM.out HD8.out HU8.out (ZZ.out 0 (by omega))).mono ?_; rintro e2 w9 ⟨xc, xn, xm, xz, xe, xd, vo, vc, c, hc, rfl, hx, hs9, hk9⟩; obtain rfl : c = true := hc; have hx0 : (h2.n.ans (akN 1 (uj : Int) 0 (m / 3) s)).code = xc := congrArg An.code hx; have hxn : (xc != 0) = true := (by simpa using (show ¬ xc = 0 from fun e => HZ.out (hx0.trans e))); rw [asked0] at hs9; have S9 := Lib.hid hs9; have K9 := Lib.hid ((Kept.ofBelow HB8.out _).trans hk9); clear hx hs9 hk9)
                    have HB10 := Lib.hid (below_new w9 (.cells #[.int .i64 xc, .int .i64 xn, .string xd, .int .i64 0, .slice vo 0 vc, .int .i64 xm, .int .i64 xz, .int .i64 xe] 58))
                    refine ⟨⟨k + 1, ⟨h2.n.done (akN 1 (uj : Int) 0 (m / 3) s), h2.held⟩, by go_num, by omega, Lib.hid HL.out.1, Lib.hid (HM.out.trans HL.out.2.1), Lib.hid ((S9.out.below (TT.out b nb) HB10.out).less (fun k h => .inl h)), Lib.hid ((KX.out.trans (K9.out.mono (fun k h => .inl h))).below HB10.out)⟩, by simp [intOf]; omega⟩
                | true =>
                  have HQ := Lib.hid (show AskA m j (akN 2 (uj : Int) 0 (m / 3) ⟨#[]⟩) from hU ▸ asksA ⟨by omega, by omega⟩ (.inr (.inl rfl)) j (s := ⟨#[]⟩) (by first | decide | omega))
                  have HL := Lib.hid (HN.out.put (V := putV true) (S := s) (.inr rfl) HJ.out HWP.out HQ.out rfl (fun e => absurd e (by decide)))
                  by_cases hz : (h2.n.ans (akN 2 (uj : Int) 0 (m / 3) ⟨#[]⟩)).code = 0
                  · go_wp2_with fail
                    go_region
                    go_wp2_with fail
                    go_region
                    go_wp2_with fail
                    have HB8 := Lib.hid (show Below wr.heap.size wr (wr.alloc (.cells #[.int .i64 2, .int .i64 (uj : Int), .int .i64 0, .int .i64 (m / 3), .int .i64 0, .int .i64 0, .string ⟨#[]⟩, .int .i64 0, .slice none 0 0] 62)).drew.drew from (below_new wr _).drew.drew)
                    have HQ8 := Lib.hid (show (wr.alloc (.cells #[.int .i64 2, .int .i64 (uj : Int), .int .i64 0, .int .i64 (m / 3), .int .i64 0, .int .i64 0, .string ⟨#[]⟩, .int .i64 0, .slice none 0 0] 62)).drew.drew.heap[wr.heap.size]? = _ from heap_alloc_new wr (.cells #[.int .i64 2, .int .i64 (uj : Int), .int .i64 0, .int .i64 (m / 3), .int .i64 0, .int .i64 0, .string ⟨#[]⟩, .int .i64 0, .slice none 0 0] 62))
                    generalize (wr.alloc (.cells #[.int .i64 2, .int .i64 (uj : Int), .int .i64 0, .int .i64 (m / 3), .int .i64 0, .int .i64 0, .string ⟨#[]⟩, .int .i64 0, .slice none 0 0] 62)).drew.drew = w8 at *
                    obtain ⟨⟨y0, y1, y2, y3, y4, y5, y6, y7, y8⟩, _⟩ := nine_of9 HQ8.out
                    have HT8 := Lib.hid (HT.out.below (TT.out b nb) HB8.out)
                    have HU8 := Lib.hid (show h2.n.l.used.length ≤ 100000 from by rw [HM.out.l]; exact HU0.out)
                    have HD8 := Lib.hid (show (⟨#[]⟩ : ByteArray).size ≤ 1000000 from by first | decide | omega)
                    have ZU := Lib.hid (ZZ.out (uj : Int) (by omega))
                    have ZM := Lib.hid (ZZ.out (m / 3) (by omega))
                    have HZ := Lib.hid hz
                    clear hz
                    go_wp2_with (go_at_call 21; refine (ho_ask HS HT8.out (k := 2) (un := (uj : Int)) (e := 0) (p := m / 3) (s := ⟨#[]⟩) (fate := 0) (by omega) ZU.out (ZZ.out 0 (by omega)) ZM.out HD8.out HU8.out (ZZ.out 0 (by omega))).mono ?_; rintro e2 w9 ⟨xc, xn, xm, xz, xe, xd, vo, vc, c, hc, rfl, hx, hs9, hk9⟩; obtain rfl : c = true := hc; have hx0 : (h2.n.ans (akN 2 (uj : Int) 0 (m / 3) ⟨#[]⟩)).code = xc := congrArg An.code hx; obtain rfl : xc = 0 := hx0.symm.trans HZ.out; rw [asked0] at hs9; have S9 := Lib.hid hs9; have K9 := Lib.hid ((Kept.ofBelow HB8.out _).trans hk9); clear hx hs9 hk9)
                    have HB10 := Lib.hid (below_new w9 (.cells #[.int .i64 0, .int .i64 xn, .string xd, .int .i64 0, .slice vo 0 vc, .int .i64 xm, .int .i64 xz, .int .i64 xe] 58))
                    refine ⟨⟨j + 1, ⟨h2.n.done (akN 2 (uj : Int) 0 (m / 3) ⟨#[]⟩), h2.held⟩, by go_num, by omega, Lib.hid (HL.out.2.2 HZ.out), Lib.hid HL.out.1, Lib.hid (HM.out.trans HL.out.2.1), Lib.hid (S9.out.below (TT.out b nb) HB10.out), Lib.hid ((HK2.out.trans K9.out).below HB10.out)⟩, by simp [intOf]; omega⟩
                  · go_wp2_with fail
                    go_region
                    go_wp2_with fail
                    go_region
                    go_wp2_with fail
                    have HB8 := Lib.hid (show Below wr.heap.size wr (wr.alloc (.cells #[.int .i64 2, .int .i64 (uj : Int), .int .i64 0, .int .i64 (m / 3), .int .i64 0, .int .i64 0, .string ⟨#[]⟩, .int .i64 0, .slice none 0 0] 62)).drew.drew from (below_new wr _).drew.drew)
                    have HQ8 := Lib.hid (show (wr.alloc (.cells #[.int .i64 2, .int .i64 (uj : Int), .int .i64 0, .int .i64 (m / 3), .int .i64 0, .int .i64 0, .string ⟨#[]⟩, .int .i64 0, .slice none 0 0] 62)).drew.drew.heap[wr.heap.size]? = _ from heap_alloc_new wr (.cells #[.int .i64 2, .int .i64 (uj : Int), .int .i64 0, .int .i64 (m / 3), .int .i64 0, .int .i64 0, .string ⟨#[]⟩, .int .i64 0, .slice none 0 0] 62))
                    generalize (wr.alloc (.cells #[.int .i64 2, .int .i64 (uj : Int), .int .i64 0, .int .i64 (m / 3), .int .i64 0, .int .i64 0, .string ⟨#[]⟩, .int .i64 0, .slice none 0 0] 62)).drew.drew = w8 at *
                    obtain ⟨⟨y0, y1, y2, y3, y4, y5, y6, y7, y8⟩, _⟩ := nine_of9 HQ8.out
                    have HT8 := Lib.hid (HT.out.below (TT.out b nb) HB8.out)
                    have HU8 := Lib.hid (show h2.n.l.used.length ≤ 100000 from by rw [HM.out.l]; exact HU0.out)
                    have HD8 := Lib.hid (show (⟨#[]⟩ : ByteArray).size ≤ 1000000 from by first | decide | omega)
                    have ZU := Lib.hid (ZZ.out (uj : Int) (by omega))
                    have ZM := Lib.hid (ZZ.out (m / 3) (by omega))
                    have HZ := Lib.hid hz
                    clear hz
                    go_wp2_with (go_at_call 21; refine (ho_ask HS HT8.out (k := 2) (un := (uj : Int)) (e := 0) (p := m / 3) (s := ⟨#[]⟩) (fate := 0) (by omega) ZU.out (ZZ.out 0 (by omega)) ZM.out HD8.out HU8.out (ZZ.out 0 (by omega))).mono ?_; rintro e2 w9 ⟨xc, xn, xm, xz, xe, xd, vo, vc, c, hc, rfl, hx, hs9, hk9⟩; obtain rfl : c = true := hc; have hx0 : (h2.n.ans (akN 2 (uj : Int) 0 (m / 3) ⟨#[]⟩)).code = xc := congrArg An.code hx; have hxn : (xc != 0) = true := (by simpa using (show ¬ xc = 0 from fun e => HZ.out (hx0.trans e))); rw [asked0] at hs9; have S9 := Lib.hid hs9; have K9 := Lib.hid ((Kept.ofBelow HB8.out _).trans hk9); clear hx hs9 hk9)
                    have HB10 := Lib.hid (below_new w9 (.cells #[.int .i64 xc, .int .i64 xn, .string xd, .int .i64 0, .slice vo 0 vc, .int .i64 xm, .int .i64 xz, .int .i64 xe] 58))
                    refine ⟨⟨k + 1, ⟨h2.n.done (akN 2 (uj : Int) 0 (m / 3) ⟨#[]⟩), h2.held⟩, by go_num, by omega, Lib.hid HL.out.1, Lib.hid (HM.out.trans HL.out.2.1), Lib.hid ((S9.out.below (TT.out b nb) HB10.out).less (fun k h => .inl h)), Lib.hid ((KX.out.trans (K9.out.mono (fun k h => .inl h))).below HB10.out)⟩, by simp [intOf]; omega⟩
              · have hju' : ¬ (j : Int) < units := hju
                go_wp2_with fail
                refine ⟨⟨k + 1, h2, by go_num, by omega, HN, HM, Lib.hid (HT.out.less (fun k h => .inl h)), KX⟩, by simp [intOf]; omega⟩
            · have n3 : ¬ (j : Int) < (C.length : Int) := by omega
              go_wp2_with fail
              refine ⟨⟨k + 1, h2, by go_num, by omega, HN, HM, Lib.hid (HT.out.less (fun k h => .inl h)), KX⟩, by simp [intOf]; omega⟩
      · have n2 : ¬ (k : Int) < 60 := by omega
        go_wp2_with fail
        go_end0
        exact ⟨rfl, h, HT.out.less (fun k h => .inl h), K1.out _ HKE.out, HN.out, HM.out⟩
    · have n1 : ¬ (k : Int) < (l.length : Int) := by omega
      go_wp2_with fail
      go_end0
      exact ⟨rfl, h, HT.out.less (fun k h => .inl h), K1.out _ HKE.out, HN.out, HM.out⟩
end Go.Proofs.YthffjanidjjkdaaGreat
