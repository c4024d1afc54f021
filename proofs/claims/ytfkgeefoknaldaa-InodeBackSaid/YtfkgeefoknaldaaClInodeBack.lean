/- The law InodeBack: what is dumped is loaded as it was; what is told is the caller's own. No conditions. -/
import Derived.Test.YtfkgeefoknaldaaG43a
namespace Go.Proofs.Ytfkgeefoknaldaa
open Go.ChangeShapes Go.WideShapes Go.ChangeAt Go.RowKit Go.Maps
set_option linter.unusedVariables false
set_option maxRecDepth 20000
theorem solo_lt {b : Nat} {X : Nat → Prop} {w : World} {t : Tb} (hs : Solo (PT b) X w t) : b < w.heap.size := by
  obtain ⟨m, l, h1, h2⟩ := ps_tab hs
  exact block_lt_of_cell h2.cells.1
def WipeP (W : World) (B : Nat) (ao : Option Addr) (n : Nat) : Prop := ∀ m, m < n → ∃ bk, ao = some ⟨bk, 0, none⟩ ∧ B ≤ bk ∧ W.there bk (m * 4) 4
theorem WipeP.part {W : World} {B n : Nat} {ao : Option Addr} (h : WipeP W B ao n) (b o : Nat) (vs : List Value) : WipeP (W.setCells b o vs) B ao n := fun m hm => by
  obtain ⟨bk, h1, h2, h3⟩ := h m hm
  exact ⟨bk, h1, h2, World.there_setCells h3 _ _ _⟩
set_option maxHeartbeats 2000000 in
theorem inodeBack_walk (ao : Option Addr) (cap : Nat) (L : List Stp) (wl : L.length ≤ maxLen) (w : World) (hR : Row w ao 6 stpC L) (hK : ∀ s ∈ L, StpIn w s) (hn : ao = none → cap = 0) (hc : L.length ≤ cap) :
    Calls Try.prog 3 #[.slice ao L.length cap] w fun e w' => e = .returned (.bool true) ∧ Below w.heap.size w w' := by
  have h2 : (Lit.int .i64 2).wf = true := by decide
  have HR := Lib.hid hR
  have HK0 := Lib.hid hK
  obtain ⟨X, hX⟩ : ∃ X : Nat → Prop, X = fun k => k < w.heap.size := ⟨_, rfl⟩
  have CN := Lib.hid (ps_new w)
  rw [← hX] at CN
  have HXX := Lib.hid (show ∀ k, k < w.heap.size → X k from fun k hk => by rw [hX]; exact hk)
  have HBX := Lib.hid (fun (W : World) (hk : Kept X w W) => Kept.toBelow hk (Nat.le_refl _) HXX.out)
  have CK := Lib.hid wakes20_any
  have CR := Lib.hid rt_new
  by_cases hf : fairS L
  case neg =>
    have CF := Lib.hid (fun (W : World) (hb : Below w.heap.size w W) => fair20_no ao cap L W wl (Row.below hR hb) (fun s hs => (hK s hs).1.len) hf)
    clear hR hK hn hc hX wl hf
    go_enter Try.func3, Try.ntmps3
    go_wp2_with (first
      | (go_at_call 6; refine CN.out.mono ?_; rintro e w1 ⟨b, rfl, hs, hb, _⟩; have HB1 := Lib.hid hb; clear hs hb)
      | (go_at_call 7; refine (CR.out _).mono ?_; rintro e w2 ⟨q, G, rfl, _, _, hb⟩; have HB2 := Lib.hid (blwO hb HB1.out); clear hb)
      | (go_at_call 8; refine (CF.out _ HB2.out).mono ?_; rintro e w3 ⟨rfl, rfl⟩)
      | (go_at_call 9; refine (CK.out _).mono ?_; rintro e w4 ⟨rfl, hb⟩; have HB4 := Lib.hid (blwO hb HB2.out); clear hb))
    go_ret
    exact ⟨rfl, HB4.out⟩
  case pos =>
    have hlI : (L.length : Int) ≤ 150 := by have := hf.1; omega
    have HF := Lib.hid hf
    have CF := Lib.hid (fun (W : World) (hb : Below w.heap.size w W) => fair20_yes ao cap L W wl (Row.below hR hb) (fun s hs => (hK s hs).1.len) hf)
    clear hR hK hn hc hX wl hf
    go_enter Try.func3, Try.ntmps3
    go_wp2_with (first
      | (go_at_call 6; refine CN.out.mono ?_; rintro e w1 ⟨b, rfl, hs, hb, _⟩; have HB1 := Lib.hid hb; have HS1 := Lib.hid hs; clear hs hb)
      | (go_at_call 7; refine (CR.out _).mono ?_; rintro e w2 ⟨q, G, rfl, hu, hG, hb⟩; have HB2 := Lib.hid (blwO hb HB1.out); have HS2 := Lib.hid (Side.made (pt_thing b) HS1.out hb hu hG); clear hb hu hG)
      | (go_at_call 8; refine (CF.out _ HB2.out).mono ?_; rintro e w3 ⟨rfl, rfl⟩))
    have HK2 := Lib.hid (show Kept X w w2 from Kept.ofBelow HB2.out X)
    go_loopw [5] (fun i wr => ∃ (k : Nat) (t : Tb), i = .int .i64 k ∧ k ≤ L.length ∧ Hid (TbI t ∧ fedI t ∧ t.next ≤ 2 + (k : Int)) ∧ Hid (Side (PT b) (RT q) X wr t t) ∧ Hid (Kept X w wr)) (fun i _ => L.length - (intOf i).toNat)
    case atStart => exact ⟨0, newT, rfl, Nat.zero_le _, Lib.hid ⟨TbI.new, fed_new, by decide⟩, HS2, HK2⟩
    case round =>
      obtain ⟨k, t, rfl, hk, HT, HS, HKW⟩ := hrel
      by_cases hlt : k < L.length
      · have k0 : (k : Int) < (L.length : Int) := by omega
        obtain ⟨bk, off, hao, c0, c1, c2, c3, c4, c5⟩ := StpL.at HR.out k hlt
        subst hao
        have hsi := HK0.out _ (List.getElem_mem hlt)
        have hml := HF.out.2 _ (List.getElem_mem hlt)
        generalize L[k] = s at *
        have hql := block_lt_of_cell c0
        have HD := Lib.hid (fun (W : World) (hk : Kept X w W) => show W.cell? ⟨bk, off + k * 6, none⟩ = some (.int .i64 s.kind) ∧ W.cell? ⟨bk, off + k * 6 + 1, none⟩ = some (.int .i64 s.ino) ∧ W.cell? ⟨bk, off + k * 6 + 2, none⟩ = some (.int .i64 s.n) ∧ W.cell? ⟨bk, off + k * 6 + 3, none⟩ = some (.int .i64 s.off) ∧ W.cell? ⟨bk, off + k * 6 + 4, none⟩ = some (.int .i64 s.addr) ∧ W.cell? ⟨bk, off + k * 6 + 5, none⟩ = some (.slice s.ao s.ms.length s.cap) from ⟨cellB (HBX.out W hk) hql c0, cellB (HBX.out W hk) hql c1, cellB (HBX.out W hk) hql c2, cellB (HBX.out W hk) hql c3, cellB (HBX.out W hk) hql c4, cellB (HBX.out W hk) hql c5⟩)
        obtain ⟨d0, d1, d2, d3, d4, d5⟩ := HD.out _ HKW.out
        have hnx : t.next ≤ 9000000000 := by have := HT.out.2.2; omega
        by_cases hkd : s.kind = 0
        · have e0 : (s.kind == 0) = true := beq_iff_eq.2 hkd
          by_cases he : (makeI t s.n).2.2 = 0
          · obtain ⟨m1, m2, m3⟩ := fed_made HT.out.1 HT.out.2.1 s.n he
            have hT1 := HT.out.1.make s.n
            have hT2 := hT1.link t.next 1
            have hnw : (Lit.int .i64 t.next).wf = true := by
              have := HT.out.1.next
              go_wf
            have C1 := Lib.hid (fun W hs => @sd_make b q X W t t hs HT.out.1 (Int.le_trans hnx (by decide)) s.n)
            have C2 := Lib.hid (fun W hs => @sd_linkI b q X W (makeI t s.n).1 t hs hT1 (by rw [m2]; omega) t.next hnw 1)
            have C3 := Lib.hid (fun W hs => @sr_make b q X W (linkI (makeI t s.n).1 t.next 1).1 t hs HT.out.1 hnx s.n)
            have C4 := Lib.hid (fun W hs => @sr_linkI b q X W (linkI (makeI t s.n).1 t.next 1).1 (makeI t s.n).1 hs hT1 t.next 1)
            have HT2 := Lib.hid (show TbI (linkI (makeI t s.n).1 t.next 1).1 ∧ fedI (linkI (makeI t s.n).1 t.next 1).1 ∧ (linkI (makeI t s.n).1 t.next 1).1.next ≤ 2 + ((k + 1 : Nat) : Int) from ⟨hT2, m3, by rw [next_link, m2]; have := HT.out.2.2; omega⟩)
            rw [m1, he] at C1 C3
            clear m1 m2 m3 hT1 hT2 hnw hkd he c0 c1 c2 c3 c4 c5
            generalize (linkI (makeI t s.n).1 t.next 1).2 = ec at *
            generalize (linkI (makeI t s.n).1 t.next 1).1 = t2 at *
            generalize (makeI t s.n).1 = t1 at *
            generalize t.next = nx at *
            go_wp2_with (first
              | (go_at_call 10; refine (C1.out _ HS.out).mono ?_; rintro e w3 ⟨rfl, hs, hk⟩; have HS3 := Lib.hid hs; have HK3 := Lib.hid (HKW.out.trans hk); clear hs hk)
              | (go_at_call 11; refine (C2.out _ HS3.out).mono ?_; rintro e w4 ⟨rfl, hs, hk⟩; have HS4 := Lib.hid hs; have HK4 := Lib.hid (HK3.out.trans hk); obtain ⟨f0, f1, f2, f3, f4, f5⟩ := HD.out _ HK4.out; clear hs hk)
              | (go_at_call 12; refine (C3.out _ HS4.out).mono ?_; rintro e w5 ⟨rfl, hs, hk⟩; have HS5 := Lib.hid hs; have HK5 := Lib.hid (HK4.out.trans hk); clear hs hk)
              | (go_at_call 13; refine (C4.out _ HS5.out).mono ?_; rintro e w6 ⟨rfl, hs, hk⟩; have HS6 := Lib.hid hs; have HK6 := Lib.hid (HK5.out.trans hk); clear hs hk))
            go_roundw
            case rel => exact ⟨k + 1, t2, by go_num, by omega, HT2, HS6, HK6⟩
            case measure => simp [intOf]; omega
          · have hne : ((makeI t s.n).2.2 == 0) = false := beq_eq_false_iff_ne.2 he
            have C1 := Lib.hid (fun W hs => @sd_make b q X W t t hs HT.out.1 (Int.le_trans hnx (by decide)) s.n)
            rw [made_not s.n he] at C1
            generalize (makeI t s.n).2.2 = ec at *
            generalize (makeI t s.n).2.1 = mm at *
            have HT2 := Lib.hid (show TbI t ∧ fedI t ∧ t.next ≤ 2 + ((k + 1 : Nat) : Int) from ⟨HT.out.1, HT.out.2.1, by have := HT.out.2.2; omega⟩)
            clear hkd he c0 c1 c2 c3 c4 c5
            go_wp2_with (go_at_call 10; refine (C1.out _ HS.out).mono ?_; rintro e w3 ⟨rfl, hs, hk⟩; have HS3 := Lib.hid hs; have HK3 := Lib.hid (HKW.out.trans hk); clear hs hk)
            go_roundw
            case rel => exact ⟨k + 1, t, by go_num, by omega, HT2, HS3, HK3⟩
            case measure => simp [intOf]; omega
        · have e0 : (s.kind == 0) = false := beq_eq_false_iff_ne.2 hkd
          have CT := Lib.hid (step20_any HS.out HT.out.1 hnx s hsi.1 hkd (fun W hk2 => MvL.below hsi.2.1 (HBX.out _ (HKW.out.trans hk2))) hml)
          have HT2 := Lib.hid (show TbI (stepT t s) ∧ fedI (stepT t s) ∧ (stepT t s).next ≤ 2 + ((k + 1 : Nat) : Int) from ⟨HT.out.1.step s, fed_step HT.out.1 HT.out.2.1 s, by rw [next_step]; have := HT.out.2.2; omega⟩)
          generalize stepT t s = t2 at *
          clear hkd c0 c1 c2 c3 c4 c5
          go_wp2_with (go_at_call 14; refine CT.out.mono ?_; rintro e w3 ⟨rfl, hs, hk⟩; have HS3 := Lib.hid hs; have HK3 := Lib.hid (HKW.out.trans hk); clear hs hk)
          go_roundw
          case rel => exact ⟨k + 1, t2, by go_num, by omega, HT2, HS3, HK3⟩
          case measure => simp [intOf]; omega
      · obtain rfl : k = L.length := by omega
        have HTB := Lib.hid HT.out.1
        have HFD := Lib.hid HT.out.2.1
        have hnx : t.next ≤ 9000000000 := by have := HT.out.2.2; omega
        have hnx2 : t.next ≤ 2147483647 := by have := HT.out.2.2; omega
        have HROOT := Lib.hid (show ∀ l : List Iv, l.map (·.x) = t.l → l ≠ [] ∧ l.length ≤ 64 ∧ ∀ y ∈ l, y.x.parts.length ≤ 64 from fun l h => by
          refine ⟨fun e => ?_, ?_, parts_few h HTB.out⟩
          · obtain ⟨m, hm⟩ := HTB.out.root
            rw [e, hm] at h
            cases h
          · have := HTB.out.most
            rw [← h, List.length_map] at this
            exact this)
        have CD := Lib.hid (t_dump HS.out HTB.out hnx)
        have CX := Lib.hid (fun (W : World) (hb : Below wr.heap.size wr W) => t_next (HS.out.below (pt_thing b) (rt_thing q) hb))
        have CN2 := Lib.hid ps_new
        have hne : (t.next != t.next) = false := by simp
        have HNX := Lib.hid hnx
        have HNX2 := Lib.hid hnx2
        clear HT hk hlt hnx hnx2
        generalize wr = w0 at *
        go_wp2_with (first
          | (go_at_call 15; refine (ps_dump HSU4.out HTB.out (Int.le_trans HNX.out (by decide))).mono ?_; rintro e w5 ⟨v5, l5, rfl, hm5, hr5, hb5⟩; obtain ⟨lo5, cp5, hv5, hq5, hz5⟩ := DRowT.look piv_rows hr5.toT; subst hv5; have HM5 := Lib.hid hm5; have HQ5 := Lib.hid hq5; have HU5 := Lib.hid (HSU4.out.below (pt_thing b2) hb5); have HB5 := Lib.hid (blwO hb5 HB4.out); clear hm5 hr5 hq5 hb5 hz5)
          | (go_at_call 15; refine CD.out.mono ?_; rintro e w1 ⟨v1, dl, rfl, hm1, hr1, hb1⟩; obtain ⟨g, cpd, hv1, hwp⟩ := Wipe.start hr1 (HROOT.out dl hm1).1; obtain ⟨lo1, cp1, hv1b, hq1, hz1⟩ := DRowT.look piv_rows hr1.toT; subst hv1; cases hv1b; have HM1 := Lib.hid hm1; have HQ1 := Lib.hid hq1; have HWP := Lib.hid hwp; have HB1 := Lib.hid hb1; have HBASE := Lib.hid hr1; clear hm1 hr1 hq1 hb1 hwp hz1)
          | (go_at_call 6; refine (CN2.out _).mono ?_; rintro e w2 ⟨b2, rfl, hs, hb, hge⟩; have HSU2 := Lib.hid hs; have HB2 := Lib.hid hb; have HGE := Lib.hid hge; have HLT := Lib.hid (solo_lt hs); have CC := Lib.hid (copied_any _ cpd dl w2 (HQ1.out.below hb) (Nat.le_trans (HROOT.out dl HM1.out).2.1 (by decide)) (fun y hy => Nat.le_trans ((HROOT.out dl HM1.out).2.2 y hy) (by decide))); clear hs hb hge)
          | (go_at_call 17; refine CC.out.mono ?_; rintro e w3 ⟨v3, l3, rfl, hm3, hr3, hb3⟩; obtain ⟨lo3, cp3, hv3, hq3, hz1, hz2, hl3, hp3⟩ := DRowT.look piv_rows hr3; subst hv3; have HU3 := Lib.hid (HSU2.out.below (pt_thing b2) hb3); have HB3 := Lib.hid (blwO hb3 HB2.out); have HB3w := Lib.hid (blwO HB3.out HB1.out); have CL := Lib.hid (ps_load (cap := cp3) (u := t) HU3.out hq3 (hm3.trans HM1.out) HTB.out HFD.out HNX2.out (fun a e => by have := hl3 a e; have := HLT.out; exact ⟨by omega, by omega⟩) (fun y hy a e => by have := hp3 y hy a e; have := HLT.out; exact ⟨by omega, by omega⟩)); clear hm3 hr3 hb3 hq3 hl3 hp3 hz1 hz2)
          | (go_at_call 16; refine CL.out.mono ?_; rintro e w4 ⟨rfl, hs, hk⟩; have HSU4 := Lib.hid hs; have HB4 := Lib.hid (HB3.out.trans (hk.toBelow HB3.out.size (fun k hk => hk))); clear hs hk)
          | (go_at_call 20; with_reducible refine (own_any _ _ dl w6 (HQ1.out.below (HB6.out)) (Nat.le_trans (HROOT.out dl HM1.out).2.1 (by decide)) (fun y hy => Nat.le_trans ((HROOT.out dl HM1.out).2.2 y hy) (by decide))).mono ?_; rintro e w7 ⟨v7, l7, rfl, hm7, hr7, hb7⟩; obtain ⟨lo7, cp7, hv7, hq7, hz7⟩ := DRowT.look iv_rows hr7; subst hv7; have HM7 := Lib.hid (hm7.trans HM1.out); have HQ7 := Lib.hid hq7; have HB7 := Lib.hid (blwO hb7 HB6.out); have HB7w := Lib.hid (blwO HB7.out HB1.out); have HU7 := Lib.hid (HU6.out.below (pt_thing b2) hb7); have CR7 := Lib.hid (rsameI_any lo6 lo7 cp6 cp7 l6 l7 w7 (ivq_g (HQ6.out.below hb7) (fun y hy => Nat.le_trans ((HROOT.out l6 HM6.out).2.2 y hy) (by decide))) (ivq_g hq7 (fun y hy => Nat.le_trans ((HROOT.out l7 HM7.out).2.2 y hy) (by decide))) (HM6.out.trans HM7.out.symm) (Nat.le_trans (HROOT.out l6 HM6.out).2.1 (by decide))); clear hm7 hr7 hq7 hb7 hz7)
          | (go_at_call 20; with_reducible refine (own_any _ _ l5 w5 HQ5.out (Nat.le_trans (HROOT.out l5 HM5.out).2.1 (by decide)) (fun y hy => Nat.le_trans ((HROOT.out l5 HM5.out).2.2 y hy) (by decide))).mono ?_; rintro e w6 ⟨v6, l6, rfl, hm6, hr6, hb6⟩; obtain ⟨lo6, cp6, hv6, hq6, hz6⟩ := DRowT.look iv_rows hr6; subst hv6; have HM6 := Lib.hid (hm6.trans HM5.out); have HQ6 := Lib.hid hq6; have HB6 := Lib.hid (blwO hb6 HB5.out); have HU6 := Lib.hid (HU5.out.below (pt_thing b2) hb6); clear hm6 hr6 hq6 hb6 hz6)
          | (go_at_call 19; refine CR7.out.mono ?_; rintro e w8 ⟨rfl, hb8⟩; have HB8 := Lib.hid (blwO hb8 HB7.out); have HB8w := Lib.hid (blwO HB8.out HB1.out); have HU8 := Lib.hid (HU7.out.below (pt_thing b2) hb8); clear hb8)
          | (go_at_call 18; with_reducible refine (CX.out _ HB8w.out).mono ?_; rintro e w' ⟨rfl, rfl⟩)
          | (go_at_call 18; with_reducible refine (ps_next HU8.out).mono ?_; rintro e w' ⟨rfl, rfl⟩)
          | (go_at_call 18; with_reducible refine (CX.out _ HB3w.out).mono ?_; rintro e w' ⟨rfl, rfl⟩))
        obtain ⟨g', cpd', hv8, hwp8⟩ := Wipe.start (HBASE.out.below HB8.out) (HROOT.out dl HM1.out).1
        cases hv8
        have HWP8 := Lib.hid hwp8
        have HD2 := Lib.hid (HROOT.out dl HM1.out).2.2
        have hdl : (dl.length : Int) ≤ 64 := by have := (HROOT.out dl HM1.out).2.1; omega
        obtain ⟨B, hB⟩ : ∃ B, w0.heap.size = B := ⟨_, rfl⟩
        rw [hB] at HWP8 HB8w
        have HBB := Lib.hid hB
        have CP := Lib.hid (fun (W : World) (hb : Below B w0 W) => t_parts (HS.out.below (pt_thing b) (rt_thing q) (by rw [HBB.out]; exact hb)) HTB.out HNX.out h2)
        have CS := Lib.hid (fun (W : World) (hb : Below B w0 W) => same20_any (HS.out.below (pt_thing b) (rt_thing q) (by rw [HBB.out]; exact hb)) HTB.out HNX.out)
        have HEND := Lib.hid (fun (W : World) (hb : Below B w0 W) => show Below w.heap.size w W from blwO (by rw [HBB.out]; exact hb) (HBX.out _ HKW.out))
        have HBSZ := Lib.hid (fun (W : World) (hb : Below B w0 W) => show B ≤ W.heap.size from by rw [← HBB.out]; exact hb.size)
        clear hwp8 hB CC CL CR7 CD CX HU3 HSU4 HU5 HU6 HU7 HU8 HQ5 HQ6 HQ7 HM5 HM6 HM7 HQ1 HWP HBASE HB3 HB3w HB4 HB5 HB6 HB7 HB7w HSU2 HB2 HGE HLT
        have ZP := Lib.hid (show (Try.prog.info? 52).map (·.size) = some (#[.int .i64 0, .int .i64 0, .int .i64 0, .int .i64 0] : Array Value).size ∧ (#[.int .i64 0, .int .i64 0, .int .i64 0, .int .i64 0] : Array Value).all (·.oneCell') = true from ⟨by kernel_rfl, by kernel_rfl⟩)
        have ZI := Lib.hid (show (Try.prog.info? 50).map (·.size) = some (#[.int .i64 0, .int .i64 0, .int .i64 0, .int .i64 0, .int .i64 0, .slice none 0 0] : Array Value).size ∧ (#[.int .i64 0, .int .i64 0, .int .i64 0, .int .i64 0, .int .i64 0, .slice none 0 0] : Array Value).all (·.oneCell') = true from ⟨by kernel_rfl, by kernel_rfl⟩)
        go_loopw [12] (fun i wq => ∃ k : Nat, i = .int .i64 k ∧ k ≤ dl.length ∧ Hid (Wipe wq B g k dl) ∧ Hid (Below B w0 wq)) (fun i _ => dl.length - (intOf i).toNat)
        case atStart => exact ⟨0, rfl, Nat.zero_le _, HWP8, HB8w⟩
        case round =>
          obtain ⟨k, rfl, hk, HW, HBW⟩ := hrel
          by_cases hlt : k < dl.length
          · have k0 : (k : Int) < (dl.length : Int) := by omega
            obtain ⟨y, hy⟩ : ∃ y, dl[k] = y := ⟨_, rfl⟩
            have hyn := HD2.out y (by rw [← hy]; exact List.getElem_mem hlt)
            have HC := Lib.hid (fun (W : World) (h : Wipe W B g k dl) => show W.cell? ⟨g, k * 6 + 5, none⟩ = some (.slice y.ao y.x.parts.length y.cap) from by
              have := h.head k hlt (Nat.le_refl k) 5 _ rfl
              rw [hy] at this
              exact this)
            have HPP := Lib.hid (fun (W : World) (h : Wipe W B g k dl) (m : Nat) (hm : m < y.x.parts.length) => h.parts y (by rw [← hy]; exact List.getElem_mem hlt) m hm)
            obtain ⟨n, hn⟩ : ∃ n, y.x.parts.length = n := ⟨_, rfl⟩
            rw [hn] at HC HPP hyn
            have hnI : (n : Int) ≤ 64 := by omega
            clear hy hn
            go_wp2_with fail
            go_loopw [13] (fun i wq => ∃ m : Nat, i = .int .i64 m ∧ m ≤ n ∧ Hid (Wipe wq B g k dl) ∧ Hid (Below B w0 wq)) (fun i _ => n - (intOf i).toNat)
            case atStart => exact ⟨0, rfl, Nat.zero_le _, HW, HBW⟩
            case round =>
              obtain ⟨m, rfl, hm, HW1, HBW1⟩ := hrel
              generalize wr = w9 at *
              have c0 := HC.out _ HW1.out
              have qg := block_lt_of_cell c0
              by_cases hmt : m < n
              · have m0 : (m : Int) < (n : Int) := by omega
                obtain ⟨bk, hao, hbk, hbg, hth⟩ := HPP.out _ HW1.out m hmt
                rw [hao] at c0
                have HTH := Lib.hid hth
                clear hth
                go_wp2_with ((with_reducible show wpList _ _ _ [⟨none, _, _, _, _, _⟩] _ _); refine wpList_store_mid (op := ⟨none, _, _, _, _, _⟩) ?d1 52 (.tmp 126) (.tmp 125) ?d2 bk (m * 4) #[.int .i64 0, .int .i64 0, .int .i64 0, .int .i64 0] ?d3 ?d4 HTH.out ZP.out.1 ZP.out.2 ?d5; (case d1 => rfl); (case d2 => rfl); (case d3 => rfl); (case d4 => rfl); have HW2 := Lib.hid (HW1.out.part hbg (m * 4) (#[.int .i64 0, .int .i64 0, .int .i64 0, .int .i64 0] : Array Value).toList); have HBW2 := Lib.hid (wipe_low hbk (#[.int .i64 0, .int .i64 0, .int .i64 0, .int .i64 0] : Array Value).toList (m * 4) _ HBW1.out); generalize World.setCells w9 bk (m * 4) (#[.int .i64 0, .int .i64 0, .int .i64 0, .int .i64 0] : Array Value).toList = w10 at HW2 HBW2 ⊢)
                go_roundw
                case rel => exact ⟨m + 1, by go_num, by omega, HW2, HBW2⟩
                case measure => simp [intOf]; omega
              · obtain rfl : m = n := by omega
                have HTH := Lib.hid (HW1.out.rows k hlt)
                go_wp2_with ((with_reducible show wpList _ _ _ [⟨none, _, _, _, _, _⟩] _ _); refine wpList_store_mid (op := ⟨none, _, _, _, _, _⟩) ?e1 50 (.tmp 130) (.tmp 129) ?e2 g (k * 6) #[.int .i64 0, .int .i64 0, .int .i64 0, .int .i64 0, .int .i64 0, .slice none 0 0] ?e3 ?e4 HTH.out ZI.out.1 ZI.out.2 ?e5; (case e1 => rfl); (case e2 => rfl); (case e3 => rfl); (case e4 => rfl); have HW2 := Lib.hid (HW1.out.row (#[.int .i64 0, .int .i64 0, .int .i64 0, .int .i64 0, .int .i64 0, .slice none 0 0] : Array Value).toList rfl); have HBW2 := Lib.hid (wipe_low HW1.out.low (#[.int .i64 0, .int .i64 0, .int .i64 0, .int .i64 0, .int .i64 0, .slice none 0 0] : Array Value).toList (k * 6) _ HBW1.out); generalize World.setCells w9 g (k * 6) (#[.int .i64 0, .int .i64 0, .int .i64 0, .int .i64 0, .int .i64 0, .slice none 0 0] : Array Value).toList = w10 at HW2 HBW2 ⊢)
                go_roundw
                case rel => exact ⟨k + 1, by go_num, by omega, HW2, HBW2⟩
                case measure => simp [intOf]; omega
          · obtain rfl : k = dl.length := by omega
            go_wp2_with (go_at_call 21; refine (CP.out _ HBW.out).mono ?_; rintro e w7 ⟨v7, pl, rfl, hO7, hl7, hb7⟩; obtain ⟨ao7, cp7, hv7, hr7⟩ := or_there par_rows hO7; subst hv7; have hP7 : WipeP w7 B ao7 pl.length := (fun m hm => by obtain ⟨bk, e1, e2, _, _, e3⟩ := hr7 m hm; exact ⟨bk, e1, Nat.le_trans (HBSZ.out _ HBW.out) e2, e3⟩); have HP7 := Lib.hid hP7; have HB7 := Lib.hid (HBW.out.trans (hb7.mono (HBSZ.out _ HBW.out))); clear hO7 hb7 hr7 hP7)
            have hplI : (pl.length : Int) ≤ 64 := by omega
            obtain ⟨n, hn⟩ : ∃ n, pl.length = n := ⟨_, rfl⟩
            rw [hn] at hplI HP7
            rw [hn]
            clear hn hl7
            go_loopw [15] (fun i wq => ∃ m : Nat, i = .int .i64 m ∧ m ≤ n ∧ Hid (WipeP wq B ao7 n) ∧ Hid (Below B w0 wq)) (fun i _ => n - (intOf i).toNat)
            case atStart => exact ⟨0, rfl, Nat.zero_le _, HP7, HB7⟩
            case round =>
              obtain ⟨m, rfl, hm, HW1, HBW1⟩ := hrel
              generalize wr = w9 at *
              by_cases hmt : m < n
              · have m0 : (m : Int) < (n : Int) := by omega
                obtain ⟨bk, hao, hbk, hth⟩ := HW1.out m hmt
                subst hao
                have HTH := Lib.hid hth
                clear hth
                go_wp2_with ((with_reducible show wpList _ _ _ [⟨none, _, _, _, _, _⟩] _ _); refine wpList_store_mid (op := ⟨none, _, _, _, _, _⟩) ?f1 52 (.tmp 142) (.tmp 141) ?f2 bk (m * 4) #[.int .i64 0, .int .i64 0, .int .i64 0, .int .i64 0] ?f3 ?f4 HTH.out ZP.out.1 ZP.out.2 ?f5; (case f1 => rfl); (case f2 => rfl); (case f3 => rfl); (case f4 => rfl); have HW2 := Lib.hid (HW1.out.part bk (m * 4) (#[.int .i64 0, .int .i64 0, .int .i64 0, .int .i64 0] : Array Value).toList); have HBW2 := Lib.hid (wipe_low hbk (#[.int .i64 0, .int .i64 0, .int .i64 0, .int .i64 0] : Array Value).toList (m * 4) _ HBW1.out); generalize World.setCells w9 bk (m * 4) (#[.int .i64 0, .int .i64 0, .int .i64 0, .int .i64 0] : Array Value).toList = w10 at HW2 HBW2 ⊢)
                go_roundw
                case rel => exact ⟨m + 1, by go_num, by omega, HW2, HBW2⟩
                case measure => simp [intOf]; omega
              · obtain rfl : m = n := by omega
                go_wp2_with (first
                  | (go_at_call 22; refine (CS.out _ HBW1.out).mono ?_; rintro e w11 ⟨rfl, _, hb⟩; have HB11 := Lib.hid (HBW1.out.trans (hb.mono (HBSZ.out _ HBW1.out))); clear hb)
                  | (go_at_call 9; refine (CK.out _).mono ?_; rintro e w12 ⟨rfl, hb⟩; have HB12 := Lib.hid (HB11.out.trans (hb.mono (HBSZ.out _ HB11.out))); clear hb))
                go_ret
                exact ⟨rfl, HEND.out _ HB12.out⟩

set_option maxRecDepth 100000 in
theorem inodeBack_lifted (os : Os) (started : os.Started) (H : Type) (enc : TypeId × Value → H) :
    ReturnsInHanded {} Try.checked os 3 .any (Rows.inodeBackSpec.pre6 enc Try.prog Try.f3 Rows.inodeBackRow.domain false) (Rows.inodeBackSpec.post enc Try.prog Try.f3 false true false false) := by
  refine returnsInHanded_of_change (C := Try.checked) own started (by kernel_rfl) Try.func3
    (ChangeSpec.witness6 (enc := enc) (C := Try.checked) false ⟨#[], #[.slice none 0 0], []⟩ 8 (by kernel_rfl) (by kernel_rfl) (by kernel_rfl) (by kernel_rfl)) ?_
  intro W base args ds gs before hval0 hW hcnd _
  have hval : ∀ (j : Nat) t v, Try.f3.params[j]? = some t → args[j]? = some v → Value.okWide Try.prog W .any base t v := hval0
  have hW' := hW
  obtain ⟨p, q, hA0, hV, rfl, hfz, hnd⟩ := hW
  have hA : DataW.TrodAll enc Try.prog W 0 (fun _ => true) true Try.f3.params.toList args.toList ds p := hA0
  rw [Try.params3] at hA hval
  obtain ⟨v0, vs0, d0, ds0, p0, q0, hargs, rfl, rfl, h0, r0⟩ := trodAll_cons hA
  obtain ⟨rfl, rfl, rfl⟩ := trodAll_nil r0
  obtain rfl : args = #[v0] := by cases args; simp_all
  obtain ⟨rfl, rfl⟩ := trodVars_none hV
  have k0 := h0
  have lt0 : ∀ x ∈ p0, x.block < W.heap.size := by obtain ⟨m, hm⟩ := k0; exact DataW.trod_lt m _ _ _ hm
  obtain ⟨ao0, cap0, L0, rfl, w0, hR0, hK0, hn0, hc0⟩ := open_rows (f := stpC) (ok := StpIn) (n := 5) Try.underlying22 (by kernel_rfl) (fun m cs y hl hf => stp_cs stpT hl hf) (hval 0 22 v0 rfl rfl) h0
  clear hA0 hval0
  refine (inodeBack_walk ao0 cap0 L0 w0 W hR0 hK0 hn0 hc0).mono fun e W' ⟨he, bel⟩ => ?_
  subst he
  exact ⟨_, rfl, _, _, _, [], _, [], hW', trodAll_mk1 (shut_bool Try.underlying4 _), (trodAll_cons_mk (Below.trod laidOut (by kernel_rfl) (of_decide_eq_true (by kernel_rfl)) k0 bel lt0) trodAll_mk0), rfl, bel.frame _, fun h => by cases h⟩

theorem inodeBack_over : Rows.inodeBackRow.holds Try.pinned (OpenSpec.ofChange Rows.inodeBackSpec) :=
  OpenClaim.holds_of_wide 3 Try.f3 rfl rfl rfl rfl rfl rfl rfl ⟨rfl, rfl, rfl, rfl, rfl⟩ rfl rfl rfl rfl rfl (by kernel_rfl) Try.func3 (by kernel_rfl)
    (of_decide_eq_true (by kernel_rfl)) (by unfold Func.isWrapper; first | (rw [if_pos (by decide +kernel)]; kernel_rfl) | (rw [if_neg (by decide +kernel)]; exact ⟨rfl, rfl⟩))
    (fun os started H enc _ => inodeBack_lifted os started H enc)

/-- THE STATEMENT -/
theorem inodeBack_holds : Rows.InodeBackSaid := inodeBack_over 
end Go.Proofs.Ytfkgeefoknaldaa
