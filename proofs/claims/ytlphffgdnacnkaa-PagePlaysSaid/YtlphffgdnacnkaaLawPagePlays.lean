/- The law PagePlays: pages that are written, filled, trimmed in any order, in any room, are as the document's own: each error, what each page is, what is read. Conditions: the program's functions return what PageSays says. -/
import Derived.Test.YtlphffgdnacnkaaPgpF
import Derived.Test.YtlphffgdnacnkaaPagV
import Derived.Deep.RegionHeld3
import Derived.Deep.RegionWith
import Derived.Deep.CutRange
import Derived.Deep.CutBlock
namespace Go.Proofs.Ytlphffgdnacnkaa
open Go.ChangeShapes Go.WideShapes Go.ChangeAt Go.RowKit
open Go.ChangeMaps (open_string shut_string)
set_option linter.unusedVariables false
set_option maxRecDepth 20000

theorem box_of {W : World} {k : Nat} {x y z : Value} {t : TypeId} (h : W.heap[k]? = some (.cells #[x, y, z] t (0, 0))) : W.cell? ⟨k, 1, none⟩ = some y ∧ W.cell? ⟨k, 2, none⟩ = some z := ⟨cell_of h 1, cell_of h 2⟩

section
variable {PG : (Nat → Prop) → World → Nat → Ps → Prop} {X : Nat → Prop} {w W W' : World} {b r B k : Nat} {p q : Ps} {v : Value}
theorem kept_cell (hk : Kept X W W') (hX : X k) {i : Nat} (h : W.cell? ⟨k, i, none⟩ = some v) : W'.cell? ⟨k, i, none⟩ = some v := by
  have e := hk.block k hX (block_lt_of_cell h)
  unfold World.cell? at h ⊢
  rw [e]
  exact h
theorem look_keep (hX : X k) (hB : ∀ j, j < B → X j) (hS : W.cell? ⟨k, 1, none⟩ = some v ∧ Duo PG X W b p r q ∧ Below B w W ∧ B ≤ W.heap.size) (hd : Duo PG X W' b p r q) (hk : Kept X W W') :
    W'.cell? ⟨k, 1, none⟩ = some v ∧ Duo PG X W' b p r q ∧ Below B w W' ∧ B ≤ W'.heap.size :=
  ⟨kept_cell hk hX hS.1, hd, hS.2.2.1.trans (hk.toBelow hS.2.2.2 hB), Nat.le_trans hS.2.2.2 hk.size⟩
theorem look_duo (hS : W.cell? ⟨k, 1, none⟩ = some v ∧ Duo PG X W b p r q ∧ Below B w W ∧ B ≤ W.heap.size) : Duo PG X W b p r q := hS.2.1
theorem look_drew (HS : PageSays PG) (hS : W.cell? ⟨k, 1, none⟩ = some v ∧ Duo PG X W b p r q ∧ Below B w W ∧ B ≤ W.heap.size) :
    W.drew.cell? ⟨k, 1, none⟩ = some v ∧ Duo PG X W.drew b p r q ∧ Below B w W.drew ∧ B ≤ W.drew.heap.size :=
  ⟨hS.1, hS.2.1.below HS (Below.refl _ _).drew, hS.2.2.1.drew, hS.2.2.2⟩
theorem look_start {x z : Value} {t : TypeId} (hk : Kept (fun j => j < B ∨ j = k) W W') (hx : W.heap[k]? = some (.cells #[x, v, z] t (0, 0))) (hb : Below B w W) (hw : B ≤ W.heap.size) (hd : Duo PG (fun j => j < B ∨ j = k) W' b p r q) :
    W'.cell? ⟨k, 1, none⟩ = some v ∧ Duo PG (fun j => j < B ∨ j = k) W' b p r q ∧ Below B w W' ∧ B ≤ W'.heap.size :=
  ⟨kept_cell hk (.inr rfl) (cell_of hx 1), hd, hb.trans (hk.toBelow hw (fun _ h => .inl h)), Nat.le_trans hw hk.size⟩
end
set_option maxHeartbeats 16000000 in
theorem pagePlays_walk {PG : (Nat → Prop) → World → Nat → Ps → Prop} (HS : PageSays PG) (x : Int) (ao : Option Addr) (cap : Nat) (l : List Fld) (wx : (Lit.int .i64 x).wf = true) (hl : l.length ≤ maxLen) (w : World) (h : FL w ao l) :
    Calls Try.prog 3 #[.int .i64 x, .slice ao l.length cap] w fun e w' => e = .returned (.bool true) ∧ Below w.heap.size w w' := by
  have CW := Lib.hid (fun w => wakes9_any HS w)
  have hl2 : l.length ≤ 9223372036854775807 := hl
  by_cases hr : 1 ≤ x ∧ x ≤ 4096
  case neg =>
    have C1 := Lib.hid (HS.new_no x w (by omega) (wide_wf wx))
    have C2 := Lib.hid (fun w => rnew_no x w (by omega))
    clear hr wx
    go_enter Try.func3, Try.ntmps3
    go_wp2_with (first
      | (go_at_call 7; refine C1.out.mono ?_; rintro e w1 ⟨rfl, hb1⟩; have B1 := Lib.hid hb1; clear hb1)
      | (go_at_call 8; refine (C2.out _).mono ?_; rintro e w2 ⟨rfl, rfl⟩)
      | (go_at_call 10; refine (CW.out _).mono ?_; rintro e w3 ⟨rfl, hb3⟩))
    go_ret
    exact ⟨rfl, B1.out.trans (hb3.mono B1.out.size)⟩
  case pos =>
  have CN := Lib.hid (up_new HS w hr)
  have HRr := Lib.hid hr
  unfold ptrP at CN
  clear wx hr
  go_enter Try.func3, Try.ntmps3
  go_wp2_with (first
    | (go_at_call 7; refine CN.out.mono ?_; rintro e w1 ⟨b, rfl, hu1⟩; have CM := Lib.hid (duo_made HS HRr.out hu1); clear hu1; unfold ptrP at CM)
    | (go_at_call 8; refine CM.out.mono ?_; rintro e w2 ⟨r, rfl, hd2, hb2⟩; have D2 := Lib.hid hd2; have B2 := Lib.hid hb2; clear hd2 hb2))
  refine (fair_any ao cap l _ hl (h.below B2.out)).mono ?_
  rintro e w3 ⟨⟨c, rfl, hc⟩, rfl⟩
  cases c
  · clear hc
    go_wp2_with (go_at_call 10; refine (CW.out _).mono ?_; rintro e w3 ⟨rfl, hb3⟩)
    go_ret
    exact ⟨rfl, B2.out.trans (hb3.mono B2.out.size)⟩
  have HFa := Lib.hid (hc rfl)
  have HF := Lib.hid h
  clear hc h CN CM
  go_wp2_with fail
  go_loopw [9] (fun i wr => ∃ (n : Nat) (p : Ps), i = .int .i64 n ∧ n ≤ l.length ∧ Duo PG (fun k => k < w.heap.size) wr b p r p ∧ Below w.heap.size w wr) (fun i _ => l.length - (intOf i).toNat)
  case atStart => exact ⟨0, newP x, rfl, Nat.zero_le _, D2.out, B2.out⟩
  case round =>
    clear D2 B2
    obtain ⟨n, p, rfl, hn, hdu, hb⟩ := hrel
    by_cases hlt : n < l.length
    case neg =>
      obtain rfl : n = l.length := by omega
      have DU := Lib.hid hdu
      have HB := Lib.hid hb
      clear hdu hb
      go_wp2_with fail
      go_loopw [15] (fun i wr => ∃ z : Int, i = .int .i64 z ∧ -1 ≤ z ∧ z ≤ 30 ∧ Duo PG (fun k => k < w.heap.size) wr b p r p ∧ Below w.heap.size w wr) (fun i _ => (30 - intOf i).toNat)
      case atStart => exact ⟨-1, rfl, by decide, by decide, DU.out, HB.out⟩
      case round =>
        clear DU HB
        obtain ⟨z, rfl, hz1, hz2, hdu, hb⟩ := hrel
        have DU := Lib.hid hdu
        have HB := Lib.hid hb
        clear hdu hb
        by_cases hz : z < 30
        · have HZ := Lib.hid (show wide z from by unfold wide; omega)
          obtain ⟨rs, re, hrs⟩ : ∃ rs re, p.readS z = rs ∧ p.readE z = re := ⟨_, _, rfl, rfl⟩
          have HR := Lib.hid hrs
          clear hrs
          go_wp2_with (first
            | (go_at_call 17; refine (duo_pread HS DU.out HZ.out).mono ?_; rw [HR.out.1, HR.out.2]; rintro e w4 ⟨rfl, h4, k4⟩; have D4 := Lib.hid h4; have K4 := Lib.hid k4; clear h4 k4)
            | (go_at_call 18; refine (duo_rread HS D4.out).mono ?_; rw [HR.out.1, HR.out.2]; rintro e w5 ⟨rfl, h5, k5⟩; have D5 := Lib.hid h5; have K5 := Lib.hid (K4.out.trans k5); clear h5 k5))
          go_roundw
          case rel => exact ⟨z + 1, by go_num, by omega, by omega, D5.out, HB.out.trans (K5.out.toBelow HB.out.size (fun _ h => h))⟩
          case measure => simp [intOf]; omega
        · obtain rfl : z = 30 := by omega
          go_wp2_with (go_at_call 10; refine (CW.out _).mono ?_; rintro e w6 ⟨rfl, hb6⟩)
          go_ret
          exact ⟨rfl, HB.out.trans (hb6.mono HB.out.size)⟩
    case pos =>
    have n0 : (n : Int) < (l.length : Int) := by omega
    obtain ⟨⟨bk, off, rfl, d0, d1, d2⟩, o0, o1, o2⟩ := (HF.out.below hb) n hlt
    have HV := Lib.hid (wide_wf o1)
    have HS6 := Lib.hid (show l[n].s.size ≤ 1000000 from Nat.le_trans (HFa.out.2 _ (List.getElem_mem hlt)) (by decide))
    clear o0 o1 o2
    generalize l[n] = f at *
    obtain ⟨u, v, t⟩ := f
    simp only at d0 d1 d2 HV HS6
    have SO := Lib.hid hdu
    have HB := Lib.hid hb
    clear hdu hb
    obtain ⟨W1, hW1⟩ : ∃ W1, W1 = wr.alloc (.cells #[.int .i64 u, .int .i64 v, .string t] 33) := ⟨_, rfl⟩
    have HX := Lib.hid (show W1.heap[wr.heap.size]? = some (.cells #[.int .i64 u, .int .i64 v, .string t] 33 (0, 0)) from by rw [hW1]; exact heap_alloc_new _ _)
    have S1 := Lib.hid (show Duo PG (fun k => k < w.heap.size ∨ k = wr.heap.size) W1 b p r p from by rw [hW1]; exact SO.out.beside HS _)
    have HBs := Lib.hid (show w.heap.size ≤ W1.heap.size from by rw [hW1]; exact Nat.le_trans HB.out.size (by simp))
    have HB1 := Lib.hid (show Below w.heap.size w W1 from by rw [hW1]; exact HB.out.alloc HB.out.size _)
    go_upto_block 2 with fail
    go_cut [] from 48 to 150 (fun wx => ∃ p1 : Ps, Duo PG (fun k => k < w.heap.size ∨ k = wr.heap.size) wx b p1 r p1 ∧ wx.heap[wr.heap.size]? = some (.cells #[.int .i64 u, .int .i64 v, .string t] 33 (0, 0)) ∧ Below w.heap.size w wx ∧ w.heap.size ≤ wx.heap.size)
    case first =>
      by_cases q0 : u = 0
      · subst q0
        obtain ⟨ee, he⟩ : ∃ ee, p.writeE v t = ee := ⟨_, rfl⟩
        have HE := Lib.hid he
        clear he
        go_wp2_with fail
        rw [← hW1]
        clear hW1
        obtain ⟨a0, a1, a2, _⟩ := three_cells HX.out
        have DD := Lib.hid (S1.out.below HS (w' := W1.drew) (Below.refl _ _).drew)
        go_region_held3 (fun W => W.cell? ⟨wr.heap.size, 1, none⟩ = some (.int .i64 v) ∧ W.cell? ⟨wr.heap.size, 2, none⟩ = some (.string t)) (first | exact ⟨e4, f4⟩ | exact ⟨b1, b2⟩ | exact ⟨a1, a2⟩) (first
          | (go_at_call 11; refine (duo_pwrite HS DD.out HV.out HS6.out).mono ?_; rw [HE.out]; rintro e w3 ⟨rfl, h3, k3⟩; have D3 := Lib.hid h3; have K3 := Lib.hid k3; obtain ⟨b0, b1, b2, _⟩ := three_cells (k3.heap (Or.inr rfl) (show W1.drew.heap[wr.heap.size]? = _ from HX.out)); clear h3 k3)
          | (go_at_call 12; refine (duo_rwrite HS D3.out HS6.out).mono ?_; rw [HE.out]; rintro e w4 ⟨rfl, h4, k4⟩; have e4 := kept_cell k4 (Or.inr rfl) b1; have f4 := kept_cell k4 (Or.inr rfl) b2; have D4 := Lib.hid h4; have K4 := Lib.hid (K3.out.trans k4); clear h4 k4))
        all_goals
          go_wp2_with fail
          go_meet
          case rel => exact ⟨p.write v t, D4.out, K4.out.heap (Or.inr rfl) (show W1.drew.heap[wr.heap.size]? = _ from HX.out), HB1.out.trans ((below_drewN (Below.refl _ _) 1).trans (K4.out.toBelow HBs.out (fun _ h => .inl h))), Nat.le_trans HBs.out K4.out.size⟩
      have e0 : (u == 0) = false := by simpa using q0
      by_cases q1 : u = 1
      · subst q1
        obtain ⟨ee, he⟩ : ∃ ee, p.fillE v = ee := ⟨_, rfl⟩
        have HE := Lib.hid he
        clear he
        go_wp2_with fail
        rw [← hW1]
        clear hW1
        obtain ⟨a0, a1, a2, _⟩ := three_cells HX.out
        have DD := Lib.hid (S1.out.below HS (w' := W1.drew) (Below.refl _ _).drew)
        go_region_held3 (fun W => W.cell? ⟨wr.heap.size, 1, none⟩ = some (.int .i64 v)) (first | exact e4 | exact b1 | exact a1) (first
          | (go_at_call 13; refine (duo_pfill HS DD.out HV.out).mono ?_; rw [HE.out]; rintro e w3 ⟨rfl, h3, k3⟩; have D3 := Lib.hid h3; have K3 := Lib.hid k3; obtain ⟨b0, b1, b2, _⟩ := three_cells (k3.heap (Or.inr rfl) (show W1.drew.heap[wr.heap.size]? = _ from HX.out)); clear h3 k3)
          | (go_at_call 14; refine (duo_rfill HS D3.out).mono ?_; rw [HE.out]; rintro e w4 ⟨rfl, h4, k4⟩; have e4 := kept_cell k4 (Or.inr rfl) b1; have f4 := kept_cell k4 (Or.inr rfl) b2; have D4 := Lib.hid h4; have K4 := Lib.hid (K3.out.trans k4); clear h4 k4))
        all_goals
          go_wp2_with fail
          go_meet
          case rel => exact ⟨p.fill v, D4.out, K4.out.heap (Or.inr rfl) (show W1.drew.heap[wr.heap.size]? = _ from HX.out), HB1.out.trans ((below_drewN (Below.refl _ _) 1).trans (K4.out.toBelow HBs.out (fun _ h => .inl h))), Nat.le_trans HBs.out K4.out.size⟩
      have e1 : (u == 1) = false := by simpa using q1
      by_cases q2 : u = 2
      · subst q2
        obtain ⟨ee, he⟩ : ∃ ee, Ps.trimE v = ee := ⟨_, rfl⟩
        have HE := Lib.hid he
        clear he
        go_wp2_with fail
        rw [← hW1]
        clear hW1
        obtain ⟨a0, a1, a2, _⟩ := three_cells HX.out
        have DD := Lib.hid (S1.out.below HS (w' := W1.drew) (Below.refl _ _).drew)
        go_region_held3 (fun W => W.cell? ⟨wr.heap.size, 1, none⟩ = some (.int .i64 v)) (first | exact e4 | exact b1 | exact a1) (first
          | (go_at_call 15; refine (duo_ptrim HS DD.out HV.out).mono ?_; rw [HE.out]; rintro e w3 ⟨rfl, h3, k3⟩; have D3 := Lib.hid h3; have K3 := Lib.hid k3; obtain ⟨b0, b1, b2, _⟩ := three_cells (k3.heap (Or.inr rfl) (show W1.drew.heap[wr.heap.size]? = _ from HX.out)); clear h3 k3)
          | (go_at_call 16; refine (duo_rtrim HS D3.out).mono ?_; rw [HE.out]; rintro e w4 ⟨rfl, h4, k4⟩; have e4 := kept_cell k4 (Or.inr rfl) b1; have f4 := kept_cell k4 (Or.inr rfl) b2; have D4 := Lib.hid h4; have K4 := Lib.hid (K3.out.trans k4); clear h4 k4))
        all_goals
          go_wp2_with fail
          go_meet
          case rel => exact ⟨p.trim v, D4.out, K4.out.heap (Or.inr rfl) (show W1.drew.heap[wr.heap.size]? = _ from HX.out), HB1.out.trans ((below_drewN (Below.refl _ _) 1).trans (K4.out.toBelow HBs.out (fun _ h => .inl h))), Nat.le_trans HBs.out K4.out.size⟩
      have e2 : (u == 2) = false := by simpa using q2
      clear q0 q1 q2
      go_wp2_with fail
      go_meet
      case rel => rw [← hW1]; exact ⟨p, S1.out, HX.out, HB1.out, HBs.out⟩
    case rest =>
      clear S1 HX HB1 HBs SO HB
      obtain ⟨p1, hd1, hx1, hb1, hs1⟩ := hcut
      clear p
      obtain ⟨rs, re, rk, rt, ru, rg, hrs⟩ : ∃ rs re rk rt ru rg, p1.readS v = rs ∧ p1.readE v = re ∧ p1.kind v = rk ∧ p1.tail = rt ∧ ((p1.l.length : Nat) : Int) = ru ∧ p1.edge = rg := ⟨_, _, _, _, _, _, rfl, rfl, rfl, rfl, rfl, rfl⟩
      have HR := Lib.hid hrs
      obtain ⟨a0, a1, a2, _⟩ := three_cells hx1
      have HX := Lib.hid hx1
      have HB1 := Lib.hid hb1
      have HBs := Lib.hid hs1
      have CC := Lib.hid hd1
      clear hrs hd1 hx1 hb1 hs1
      go_wp2_with (first
        | (go_at_call 17; refine (duo_pread HS CC.out HV.out).mono ?_; rw [HR.out.1, HR.out.2.1]; rintro e w4 ⟨rfl, h4, q4⟩; have D4 := Lib.hid h4; have K4 := Lib.hid q4; obtain ⟨b0, b1, b2, _⟩ := three_cells (q4.heap (Or.inr rfl) HX.out); clear h4 q4 CC)
        | (go_at_call 18; refine (duo_rread HS D4.out).mono ?_; rw [HR.out.1, HR.out.2.1]; rintro e w5 ⟨rfl, h5, q5⟩; have SB := Lib.hid (look_start (K4.out.trans q5) HX.out HB1.out HBs.out h5); clear h5 q5 b0 b1 b2 D4 K4))
      go_region_held3 (fun W => W.cell? ⟨wr.heap.size, 1, none⟩ = some (.int .i64 v) ∧ Duo PG (fun k => k < w.heap.size ∨ k = wr.heap.size) W b p1 r p1 ∧ Below w.heap.size w W ∧ w.heap.size ≤ W.heap.size)
        (first | exact look_drew HS SB.out | exact look_keep (.inr rfl) (fun _ h => .inl h) (by assumption) g8 k8 | exact look_keep (.inr rfl) (fun _ h => .inl h) (by assumption) g7 k7 | exact look_keep (.inr rfl) (fun _ h => .inl h) (by assumption) g6 k6 | exact look_keep (.inr rfl) (fun _ h => .inl h) (by assumption) g5 k5 | exact look_keep (.inr rfl) (fun _ h => .inl h) (by assumption) g4 k4 | exact look_keep (.inr rfl) (fun _ h => .inl h) (by assumption) g3 k3 | exact look_keep (.inr rfl) (fun _ h => .inl h) (by assumption) g2 k2 | exact look_keep (.inr rfl) (fun _ h => .inl h) (by assumption) g1 k1)
        (first
          | (go_at_call 19; refine (duo_pkind HS (look_duo (by assumption)) HV.out).mono ?_; rw [HR.out.2.2.1]; rintro e y1 ⟨rfl, g1, k1⟩)
          | (go_at_call 20; refine (duo_rkind HS (look_duo (by assumption))).mono ?_; rw [HR.out.2.2.1]; rintro e y2 ⟨rfl, g2, k2⟩)
          | (go_at_call 21; refine (duo_ptail HS (look_duo (by assumption))).mono ?_; rw [HR.out.2.2.2.1]; rintro e y3 ⟨rfl, g3, k3⟩)
          | (go_at_call 22; refine (duo_rtail HS (look_duo (by assumption))).mono ?_; rw [HR.out.2.2.2.1]; rintro e y4 ⟨rfl, g4, k4⟩)
          | (go_at_call 23; refine (duo_pused HS (look_duo (by assumption))).mono ?_; rw [HR.out.2.2.2.2.1]; rintro e y5 ⟨rfl, g5, k5⟩)
          | (go_at_call 24; refine (duo_rused HS (look_duo (by assumption))).mono ?_; rw [HR.out.2.2.2.2.1]; rintro e y6 ⟨rfl, g6, k6⟩)
          | (go_at_call 25; refine (duo_pedge HS (look_duo (by assumption))).mono ?_; rw [HR.out.2.2.2.2.2]; rintro e y7 ⟨rfl, g7, k7⟩)
          | (go_at_call 26; refine (duo_redge HS (look_duo (by assumption))).mono ?_; rw [HR.out.2.2.2.2.2]; rintro e y8 ⟨rfl, g8, k8⟩))
      all_goals
        go_wp2_with fail
        go_roundw
        case rel => rename_i hS; exact ⟨n + 1, p1, by go_num, by omega, hS.2.1.less (fun _ h => .inl h), hS.2.2.1⟩
        case measure => simp [intOf]; omega

set_option maxRecDepth 100000 in
theorem pagePlays_lifted (os : Os) (started : os.Started) (H : Type) (enc : TypeId × Value → H) :
    ReturnsInHanded {} Try.checked os 3 .any (Rows.pagePlaysSpec.pre6 enc Try.prog Try.f3 Rows.pagePlaysRow.domain false) (Rows.pagePlaysSpec.post enc Try.prog Try.f3 false true false false) := by
  refine returnsInHanded_of_change (C := Try.checked) own started (by kernel_rfl) Try.func3
    (ChangeSpec.witness6 (enc := enc) (C := Try.checked) false ⟨#[], #[.int .i64 0, .slice none 0 0], []⟩ 8 (by kernel_rfl) (by kernel_rfl) (by kernel_rfl) (by kernel_rfl)) ?_
  intro W base args ds gs before hval0 hW hcnd _
  have hval : ∀ (j : Nat) t v, Try.f3.params[j]? = some t → args[j]? = some v → Value.okWide Try.prog W .any base t v := hval0
  have hW' := hW
  obtain ⟨p, q, hA0, hV, rfl, hfz, hnd⟩ := hW
  have hA : DataW.TrodAll enc Try.prog W 0 (fun _ => true) true Try.f3.params.toList args.toList ds p := hA0
  rw [Try.params3] at hA hval
  obtain ⟨v0, vs0, d0, ds0, p0, q0, hargs, rfl, rfl, h0, r0⟩ := trodAll_cons hA
  obtain ⟨v1, vs1, d1, ds1, p1, q1, rfl, rfl, rfl, h1, r1⟩ := trodAll_cons r0
  obtain ⟨rfl, rfl, rfl⟩ := trodAll_nil r1
  obtain rfl : args = #[v0, v1] := by cases args; simp_all
  obtain ⟨rfl, rfl⟩ := trodVars_none hV
  have k0 := h0
  have lt0 : ∀ x ∈ p0, x.block < W.heap.size := by obtain ⟨m, hm⟩ := k0; exact DataW.trod_lt m _ _ _ hm
  have k1 := h1
  have lt1 : ∀ x ∈ p1, x.block < W.heap.size := by obtain ⟨m, hm⟩ := k1; exact DataW.trod_lt m _ _ _ hm
  obtain ⟨a0, rfl, rfl, rfl, w0⟩ := open_int Try.underlying3 (hval 0 3 v0 rfl rfl) h0
  obtain ⟨ao1, cap1, L1, rfl, w1, hF1⟩ := open_flds Try.underlying22 Try.underlying33 (by kernel_rfl) rfl rfl rfl (by kernel_rfl) (by kernel_rfl) (by kernel_rfl) Try.underlying3 Try.underlying3 Try.underlying9 (hval 1 22 v1 rfl rfl) h1
  clear hA0 hval0
  refine (pagePlays_walk pageSays a0 ao1 cap1 L1 w0 w1 W hF1).mono fun e W' ⟨he, bel⟩ => ?_
  subst he
  exact ⟨_, rfl, _, _, _, [], _, [], hW', trodAll_mk1 (shut_bool Try.underlying4 _), (trodAll_cons_mk (Below.trod laidOut (by kernel_rfl) (of_decide_eq_true (by kernel_rfl)) k0 bel lt0) (trodAll_cons_mk (Below.trod laidOut (by kernel_rfl) (of_decide_eq_true (by kernel_rfl)) k1 bel lt1) trodAll_mk0)), rfl, bel.frame _, fun h => by cases h⟩

theorem pagePlays_over : Rows.pagePlaysRow.holds Try.pinned (OpenSpec.ofChange Rows.pagePlaysSpec) :=
  OpenClaim.holds_of_wide 3 Try.f3 rfl rfl rfl rfl rfl rfl rfl ⟨rfl, rfl, rfl, rfl, rfl⟩ rfl rfl rfl rfl rfl (by kernel_rfl) Try.func3 (by kernel_rfl)
    (of_decide_eq_true (by kernel_rfl)) (by unfold Func.isWrapper; first | (rw [if_pos (by decide +kernel)]; kernel_rfl) | (rw [if_neg (by decide +kernel)]; exact ⟨rfl, rfl⟩))
    (fun os started H enc _ => pagePlays_lifted os started H enc)

/-- THE STATEMENT -/
theorem pagePlays_holds : Rows.PagePlaysSaid := pagePlays_over 
end Go.Proofs.Ytlphffgdnacnkaa
