/- Stage 20: the statements' own Same holds of two tables in one state. Conditions: numbers of 64 bits. -/
import Derived.Test.YtfkgeefoknaldaaG38a
set_option linter.unusedVariables false
namespace Go.Proofs.Ytfkgeefoknaldaa
open Go.RowKit Go.Maps
set_option linter.unusedVariables false
set_option maxRecDepth 20000
theorem side_tabs {b q : Nat} {X : Nat → Prop} {w : World} {t u : Tb} (hs : Side (PT b) (RT q) X w t u) : (∃ m l, l.map (·.x) = t.l ∧ PTab w b m l t.next) ∧ ∃ g cap l, l.map (·.x) = u.l ∧ DTab w 0 q g cap l u.next := by
  obtain ⟨_, F, G, ⟨m, l, h1, h2, _⟩, ⟨g, cap, l2, h3, h4, _⟩, _⟩ := hs
  exact ⟨⟨m, l, h1, h2⟩, g, cap, l2, h3, h4⟩
theorem dtab_look {w : World} {q g cap : Nat} {l : List Iv} {next : Int} (h : DTab w 0 q g cap l next) (hp : ∀ y ∈ l, y.x.parts.length ≤ maxLen) : IvL w (some ⟨g, 0, none⟩) l := by
  obtain ⟨ao, c, hv, hr, _⟩ := OR.form iv_rows h.row
  cases hv
  exact ⟨hr, fun y hy => ⟨(h.each y hy).1, hp y hy⟩⟩
theorem ivq_g {w : World} {lo : Option Addr} {l : List Iv} (h : IvQ w lo l) (hp : ∀ y ∈ l, y.x.parts.length ≤ maxLen) : IvL w lo l := ⟨h.row, fun y hy => ⟨(h.parts y hy).1, hp y hy⟩⟩
theorem parts_few {t : Tb} {l : List Iv} (hm : l.map (·.x) = t.l) (ht : TbI t) : ∀ y ∈ l, y.x.parts.length ≤ 64 := fun y hy => by
  have := ht.each y.x (by rw [← hm]; exact List.mem_map.2 ⟨y, hy, rfl⟩)
  exact (goodE_iff.1 this.2.2.2.2.2.2.1).1
set_option maxHeartbeats 1000000 in
theorem same20_any {b q : Nat} {X : Nat → Prop} {w : World} {t : Tb} (hs : Side (PT b) (RT q) X w t t) (ht : TbI t) (hnx : t.next ≤ 9000000000) :
    Calls Try.prog 22 #[.pointer (some ⟨b, 0, none⟩), .pointer (some ⟨q, 0, none⟩)] w fun e w' => e = .returned (.bool true) ∧ Side (PT b) (RT q) X w' t t ∧ Below w.heap.size w w' := by
  have HSD := Lib.hid hs
  obtain ⟨⟨m, l, h1, h2⟩, g, cap, lD, h3, h4⟩ := side_tabs hs
  obtain ⟨k1, k2, k3, k4⟩ := tab_small (m := m) (next := t.next) h1 ht (Int.le_trans hnx (by decide))
  have HPD := Lib.hid (show ∀ y ∈ lD, y.x.parts.length ≤ maxLen from fun y hy => Nat.le_trans (parts_few h3 ht y hy) (by decide))
  have CX := Lib.hid (fun (W : World) (hb : Below w.heap.size w W) => pnext_any (h2.below hb))
  have CD := Lib.hid (pdump_any (h2.below (Below.refl _ w).drew) (by omega) k2 k3 (fun y hy => Nat.le_trans (k4 y hy) (by decide)))
  have CA := Lib.hid (fun (W : World) (hb : Below w.heap.size w W) => pall_any (h2.below hb) (by omega) k2 k3)
  have HD := Lib.hid h4
  obtain ⟨c0, c1⟩ := h4.cells
  have hq := block_lt_of_cell c0
  have HQ := Lib.hid (fun (W : World) (hb : Below w.heap.size w W) => show W.cell? ⟨q, 0, none⟩ = some (.slice (some ⟨g, 0, none⟩) lD.length cap) ∧ W.cell? ⟨q, 1, none⟩ = some (.int .i64 t.next) from ⟨cellB hb hq c0, cellB hb hq c1⟩)
  have hlD : lD.length = l.length := by have := congrArg List.length (h3.trans h1.symm); simpa using this
  have HMM := Lib.hid (show ∀ l' : List Iv, l'.map (·.x) = l.map (·.x) → l'.length = l.length ∧ l'.map (·.x) = lD.map (·.x) ∧ ∀ y ∈ l', y.x.parts.length ≤ 64 from fun l' h => ⟨by have := congrArg List.length h; simpa using this, by rw [h, h1, h3], parts_few (h.trans h1) ht⟩)
  have HIN := Lib.hid (show ∀ k (hk : k < l.length) (hk2 : k < lD.length), l[k].x.ino = lD[k].x.ino from fun k hk hk2 => by
    have e : l.map (·.x) = lD.map (·.x) := by rw [h1, h3]
    have := congrArg (fun L => (L[k]?).map (·.ino)) e
    simpa [hk, hk2] using this)
  have hl64 : (l.length : Int) ≤ 64 := by omega
  have HL64 := Lib.hid k1
  have hne : (t.next != t.next) = false := by simp
  obtain ⟨N, hN⟩ : ∃ N, l.length = N := ⟨_, rfl⟩
  have HN := Lib.hid hN
  have HND := Lib.hid (hlD.trans hN)
  rw [hlD, hN] at HQ
  rw [hN] at hl64
  obtain ⟨nx, hx⟩ : ∃ nx, t.next = nx := ⟨_, rfl⟩
  rw [hx] at CX HQ hne
  clear hs h1 h2 h3 h4 k1 k2 k3 k4 ht hnx c0 c1 hlD hN hx
  obtain ⟨s0, s1⟩ := HQ.out _ (Below.refl _ w).drew
  go_enter Try.func22, Try.ntmps22
  go_wp2_with fail
  go_region_held3 (fun W => W.cell? ⟨q, 0, none⟩ = some (.slice (some ⟨g, 0, none⟩) N cap) ∧ W.cell? ⟨q, 1, none⟩ = some (.int .i64 nx))
    (first | with_reducible exact ⟨s0, s1⟩ | with_reducible exact HQ.out _ HB1.out | with_reducible exact HQ.out _ HB2.out | with_reducible exact HQ.out _ HB3.out | exact ⟨s0, s1⟩ | (trace "KEEP"; trace_state; fail))
    (first
      | (go_at_call 18; refine (CX.out _ (Below.refl _ w).drew).mono ?_; rintro e w' ⟨rfl, rfl⟩)
      | (go_at_call 15; refine CD.out.mono ?_; rintro e w1 ⟨v1, l1, rfl, hm1, hr1, hb1⟩; obtain ⟨lo1, cp1, hv1, hq1, _⟩ := DRowT.look piv_rows hr1.toT; obtain ⟨hz1, hz2, hz3⟩ := HMM.out l1 hm1; rw [hz1, HN.out] at hv1; subst hv1; have HB1 := Lib.hid (show Below w.heap.size w w1 from (Below.refl _ w).drew.trans hb1); have HM1 := Lib.hid hm1; have HZ1 := Lib.hid (hz1.trans HN.out); have CO := Lib.hid (own_any lo1 cp1 l1 w1 hq1 (by have := HL64.out; omega) (fun y hy => Nat.le_trans (hz3 y hy) (by decide))); rw [HZ1.out] at CO; clear hm1 hr1 hb1 hq1 hz1 hz2 hz3)
      | (go_at_call 20; refine CO.out.mono ?_; rintro e w2 ⟨v2, l2, rfl, hm2, hr2, hb2⟩; obtain ⟨lo2, cp2, hv2, hq2, _⟩ := DRowT.look iv_rows hr2; obtain ⟨hz1, hz2, hz3⟩ := HMM.out l2 (hm2.trans HM1.out); rw [hz1, HN.out] at hv2; subst hv2; have HB2 := Lib.hid (blwO hb2 HB1.out); have CR := Lib.hid (rsameI_any lo2 (some ⟨g, 0, none⟩) cp2 cap l2 lD w2 (ivq_g hq2 (fun y hy => Nat.le_trans (hz3 y hy) (by decide))) (dtab_look (HD.out.below HB2.out) HPD.out) hz2 (by have := HL64.out; omega)); rw [hz1.trans HN.out, HND.out] at CR; clear hm2 hr2 hb2 hq2 hz1 hz2 hz3)
      | (go_at_call 19; refine CR.out.mono ?_; rintro e w3 ⟨rfl, hb3⟩; have HB3 := Lib.hid (blwO hb3 HB2.out); clear hb3))
  all_goals
    obtain ⟨z0, z1⟩ := HQ.out _ HB3.out
    go_wp2_with (go_at_call 29; refine (CA.out _ HB3.out).mono ?_; rintro e w4 ⟨v4, rfl, hO4, hb4⟩; obtain ⟨ao4, cp4, hv4, hN4, hx4, hy4⟩ := hO4.form; rw [List.length_map, HN.out] at hv4; subst hv4; have HB4 := Lib.hid (blwO hb4 HB3.out); have HA4 := Lib.hid hN4; obtain ⟨y0, y1⟩ := HQ.out _ HB4.out; clear hO4 hb4 hN4 hx4 hy4)
    go_loopw [6] (fun s wr => ∃ k : Nat, s = .int .i64 k ∧ k ≤ N ∧ Hid (Below w.heap.size w wr) ∧ Hid (NLI wr ao4 cp4 (l.map (fun y => y.x.ino)))) (fun s _ => N - (intOf s).toNat)
    case atStart => exact ⟨0, rfl, Nat.zero_le _, HB4, HA4⟩
    case round =>
      obtain ⟨k, rfl, hk, HW, HA⟩ := hrel
      by_cases hlt : k < N
      · have k0 : (k : Int) < (N : Int) := by omega
        have kl : k < l.length := by rw [HN.out]; exact hlt
        have km : k < lD.length := by rw [HND.out]; exact hlt
        obtain ⟨d0, _⟩ := (HD.out.below HW.out).at k km
        obtain ⟨bk, bo, hao, a0⟩ := HA.out.at k (by simpa using kl)
        subst hao
        simp only [List.getElem_map] at a0
        rw [← HIN.out k kl km] at d0
        obtain ⟨x, hx⟩ : ∃ x, l[k].x.ino = x := ⟨_, rfl⟩
        rw [hx] at d0 a0
        obtain ⟨z0, z1⟩ := HQ.out _ HW.out
        have hne2 : (x != x) = false := by simp
        have qa := block_lt_of_cell a0
        clear hx
        go_wp2_with fail
        go_region
        all_goals
          go_wp2_with fail
          go_roundw
          case rel => exact ⟨k + 1, by go_num, by omega, Lib.hid HW.out.drew, Lib.hid (NLI.drew HA.out)⟩
          case measure => simp [intOf]; omega
      · obtain rfl : k = N := by omega
        go_wp2_with fail
        go_ret
        exact ⟨rfl, HSD.out.below (pt_thing b) (rt_thing q) HW.out, HW.out⟩
end Go.Proofs.Ytfkgeefoknaldaa
