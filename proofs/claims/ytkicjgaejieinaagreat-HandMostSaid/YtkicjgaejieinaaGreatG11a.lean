/- What the document's own Good returns. Conditions: the projection lies where the call was told, and is not too large. What the document's own unit answers a question of one kind, and is behind it. Conditions: it and the question lie where the call was told; the question's data are not too long. (Written by gen/genunib.py.) What the program's sequencer answers a question that looks, or that is none of its. Conditions: it and the question lie where the call was told. -/
import Derived.Test.YtkicjgaejieinaaGreatG10a
import Derived.Test.YtkicjgaejieinaaGreatG10b
import Derived.Deep.RegionHeld3
import Derived.Deep.RegionHeldLaw
set_option linter.unusedVariables false
namespace Go.Proofs.YtkicjgaejieinaaGreat
set_option linter.unusedVariables false
open Go.RowKit
set_option maxRecDepth 20000

theorem goodB_ep {ep : Int} {L : List (List Int)} (h : ep < 0 ∨ 2147483647 < ep) : goodB ep L = false := by
  rw [Bool.eq_false_iff]; intro e; have := (goodB_iff.1 e).1; omega
theorem goodB_len {ep : Int} {L : List (List Int)} (h : L.length < 1 ∨ 4 < L.length) : goodB ep L = false := by
  rw [Bool.eq_false_iff]; intro e; have := (goodB_iff.1 e).2.1; omega
theorem goodB_chain {ep : Int} {L : List (List Int)} {k : Nat} (hk : k < L.length) (h : L[k].length < 1 ∨ 4 < L[k].length) : goodB ep L = false := by
  rw [Bool.eq_false_iff]; intro e
  have := (chainB_iff.1 ((goodB_iff.1 e).2.2.1 _ (List.getElem_mem hk))).1
  omega
theorem goodB_unit {ep : Int} {L : List (List Int)} {k j : Nat} (hk : k < L.length) (hj : j < L[k].length) (h : L[k][j] < 0 ∨ 15 < L[k][j]) : goodB ep L = false := by
  rw [Bool.eq_false_iff]; intro e
  have := (chainB_iff.1 ((goodB_iff.1 e).2.2.1 _ (List.getElem_mem hk))).2 _ (List.getElem_mem hj)
  omega
theorem goodB_end {ep : Int} {L : List (List Int)} (h0 : 0 ≤ ep ∧ ep ≤ 2147483647) (h1 : 1 ≤ L.length ∧ L.length ≤ 4) (h : ∀ c ∈ L.take L.length, chainB c = true) : goodB ep L = decide ((unitsR L).length = (L.take L.length).flatten.length) := by
  rw [List.take_of_length_le (Nat.le_refl _)] at *
  rw [Bool.eq_iff_iff, goodB_iff, decide_eq_true_eq, unitsR_length]
  exact ⟨fun e => e.2.2.2, fun e => ⟨h0, h1, h, e⟩⟩
theorem flat_succ {L : List (List Int)} {k : Nat} (hk : k < L.length) : (L.take (k + 1)).flatten.length = (L.take k).flatten.length + L[k].length := by
  rw [List.take_succ_eq_append_getElem hk, List.flatten_append, List.length_append]
  simp
theorem flat_four {L : List (List Int)} {k : Nat} (hl : L.length ≤ 4) (h : ∀ c ∈ L.take k, chainB c = true) : (L.take k).flatten.length ≤ 16 := by
  have h1 := flat_le (L.take k) 4 (fun c hc => (chainB_iff.1 (h c hc)).1.2)
  have h2 : (L.take k).length ≤ 4 := by rw [List.length_take]; omega
  omega
set_option maxHeartbeats 4000000 in
theorem rgood_any (ep : Int) (ao : Option Addr) (cap : Nat) (L : List (List Int)) (w : World) (h : CL w ao L) (hl : L.length ≤ 255 ∧ ∀ c ∈ L, c.length ≤ 255) :
    Calls Tryz.prog 68 #[.agg #[.int .i64 ep, .slice ao L.length cap]] w fun e w' => e = .returned (.bool (goodB ep L)) ∧ Below w.heap.size w w' := by
  have HB0 := Lib.hid ((Below.refl w.heap.size w).alloc (Nat.le_refl _) (.cells #[.int .i64 ep, .slice ao L.length cap] 24))
  have HC := Lib.hid (h.below HB0.out)
  have hl' : (L.length : Int) ≤ 255 := by omega
  have HM := Lib.hid hl
  clear h hl
  by_cases he : ep < 0 ∨ 2147483647 < ep
  · rw [goodB_ep he]
    by_cases h0 : ep < 0
    · clear he
      go_enter Tryz.func68, Tryz.ntmps68
      go_wp2_with fail
      go_ret
      exact ⟨rfl, HB0.out⟩
    · have h1 : 2147483647 < ep := by omega
      clear he
      go_enter Tryz.func68, Tryz.ntmps68
      go_wp2_with fail
      go_ret
      exact ⟨rfl, HB0.out⟩
  have e0 : 0 ≤ ep := by omega
  have e1 : ep ≤ 2147483647 := by omega
  clear he
  by_cases hn : L.length < 1 ∨ 4 < L.length
  · rw [goodB_len hn]
    by_cases h0 : L.length < 1
    · have h2 : (L.length : Int) < 1 := by omega
      clear hn
      go_enter Tryz.func68, Tryz.ntmps68
      go_wp2_with fail
      go_ret
      exact ⟨rfl, HB0.out⟩
    · have h1 : (4 : Int) < (L.length : Int) := by omega
      have h2 : (1 : Int) ≤ (L.length : Int) := by omega
      clear hn
      go_enter Tryz.func68, Tryz.ntmps68
      go_wp2_with fail
      go_ret
      exact ⟨rfl, HB0.out⟩
  have n1 : (1 : Int) ≤ (L.length : Int) := by omega
  have n4 : (L.length : Int) ≤ 4 := by omega
  have HN4 := Lib.hid (show L.length ≤ 4 by omega)
  have HE := Lib.hid (@goodB_end ep L ⟨e0, e1⟩ (by omega))
  have HCH := Lib.hid (fun k hk => @goodB_chain ep L k hk)
  have HU := Lib.hid (fun k j hk hj => @goodB_unit ep L k j hk hj)
  clear hn hl'
  generalize goodB ep L = R at *
  go_enter Tryz.func68, Tryz.ntmps68
  go_wp2_with fail
  go_loop [3, 4] (fun s i => ∃ n m : Nat, i = .int .i64 n ∧ s = .int .i64 m ∧ n ≤ L.length ∧ m ≤ 16 ∧ Hid (m = (L.take n).flatten.length ∧ ∀ c ∈ L.take n, chainB c = true)) (fun _ i => L.length - (intOf i).toNat)
  case atStart => exact ⟨0, 0, rfl, rfl, Nat.zero_le _, Nat.zero_le _, Lib.hid ⟨rfl, by simp⟩⟩
  case round =>
    obtain ⟨n, m, rfl, rfl, hn, hm, HA⟩ := hrel
    by_cases hlt : n < L.length
    · obtain ⟨bk, off, ai, ci, hao, c0, hN⟩ := HC.out n hlt
      subst hao
      have k0 : (n : Int) < (L.length : Int) := by omega
      by_cases hc : L[n].length < 1 ∨ 4 < L[n].length
      · have HX := Lib.hid (HCH.out n hlt hc)
        have m0 := HM.out.2 _ (List.getElem_mem hlt)
        by_cases h0 : L[n].length < 1
        · have h1 : (L[n].length : Int) < 1 := by omega
          clear hc
          go_wp2_with fail
          go_ret
          rw [HX.out]
          exact ⟨rfl, HB0.out⟩
        · have h1 : (4 : Int) < (L[n].length : Int) := by omega
          have h2 : (1 : Int) ≤ (L[n].length : Int) := by omega
          clear hc
          go_wp2_with fail
          go_ret
          rw [HX.out]
          exact ⟨rfl, HB0.out⟩
      · have h1 : (1 : Int) ≤ (L[n].length : Int) := by omega
        have h2 : (L[n].length : Int) ≤ 4 := by omega
        have HL := Lib.hid (show 1 ≤ L[n].length ∧ L[n].length ≤ 4 by omega)
        have HNN := Lib.hid hN
        clear hc hN
        go_wp2_with fail
        go_loop [5] (fun k => ∃ j : Nat, k = .int .i64 j ∧ j ≤ L[n].length ∧ Hid (∀ u ∈ L[n].take j, 0 ≤ u ∧ u ≤ 15)) (fun k => L[n].length - (intOf k).toNat)
        case atStart => exact ⟨0, rfl, Nat.zero_le _, Lib.hid (by simp)⟩
        case round =>
          obtain ⟨j, rfl, hj, HJ⟩ := hrel
          by_cases hjt : j < L[n].length
          · obtain ⟨b5, o5, hai, c5⟩ := HNN.out.at j hjt
            subst hai
            have k5 : (j : Int) < (L[n].length : Int) := by omega
            by_cases hu : L[n][j] < 0 ∨ 15 < L[n][j]
            · have HX := Lib.hid (HU.out n j hlt hjt hu)
              generalize L[n][j] = u at *
              by_cases h0 : u < 0
              · clear hu
                go_wp2_with fail
                go_ret
                rw [HX.out]
                exact ⟨rfl, HB0.out⟩
              · have h3 : 15 < u := by omega
                have h4 : 0 ≤ u := by omega
                clear hu
                go_wp2_with fail
                go_ret
                rw [HX.out]
                exact ⟨rfl, HB0.out⟩
            · have h3 : 0 ≤ L[n][j] := by omega
              have h4 : L[n][j] ≤ 15 := by omega
              have HJ2 := Lib.hid (all_take_succ hjt HJ.out ⟨h3, h4⟩)
              generalize L[n][j] = u at *
              clear hu
              go_wp2_with fail
              go_round
              case rel => exact ⟨j + 1, by go_num, by omega, HJ2⟩
              case measure => simp [intOf]; omega
          · obtain rfl : j = L[n].length := by omega
            have HC2 := Lib.hid (show chainB L[n] = true from chainB_iff.2 ⟨HL.out, by have := HJ.out; rwa [List.take_of_length_le (Nat.le_refl _)] at this⟩)
            have HA2 := Lib.hid (all_take_succ hlt HA.out.2 HC2.out)
            have HF := Lib.hid (show m + L[n].length = (L.take (n + 1)).flatten.length by rw [flat_succ hlt, HA.out.1])
            have h16 := flat_four HN4.out HA2.out
            rw [← HF.out] at h16
            go_wp2_with fail
            go_round
            case rel => exact ⟨n + 1, m + L[n].length, by go_num, by go_num, by omega, h16, Lib.hid ⟨HF.out, HA2.out⟩⟩
            case measure => simp [intOf]; omega
    · obtain rfl : n = L.length := by omega
      have HX := Lib.hid (HE.out HA.out.2)
      rw [← HA.out.1] at HX
      by_cases hq : (unitsR L).length = m
      · have HR := Lib.hid (show R = true from by rw [HX.out]; exact decide_eq_true hq)
        have q1 : (((unitsR L).length : Int) == (m : Int)) = true := beq_iff_eq.2 (by omega)
        have q2 : ((unitsR L).length == m) = true := beq_iff_eq.2 hq
        clear hq
        go_wp2_with (go_at_call 69; refine (refUnits_any ep ao cap L _ HC.out HM.out).mono ?_; rintro e w1 ⟨bo, cb, rfl, _, hb1⟩)
        go_ret
        rw [HR.out]
        exact ⟨rfl, HB0.out.trans (hb1.mono HB0.out.size)⟩
      · have HR := Lib.hid (show R = false from by rw [HX.out]; exact decide_eq_false hq)
        have q1 : (((unitsR L).length : Int) == (m : Int)) = false := beq_eq_false_iff_ne.2 (by omega)
        have q2 : ((unitsR L).length == m) = false := beq_eq_false_iff_ne.2 hq
        clear hq
        go_wp2_with (go_at_call 69; refine (refUnits_any ep ao cap L _ HC.out HM.out).mono ?_; rintro e w1 ⟨bo, cb, rfl, _, hb1⟩)
        go_ret
        rw [HR.out]
        exact ⟨rfl, HB0.out.trans (hb1.mono HB0.out.size)⟩
end Go.Proofs.YtkicjgaejieinaaGreat
namespace Go.Proofs.YtkicjgaejieinaaGreat
set_option linter.unusedVariables false
open Go.RowKit
set_option maxRecDepth 20000
set_option maxHeartbeats 8000000 in
theorem rdo_fill (r q : Nat) (G : Nat → Prop) (w : World) (u : Us) (a : Ak) (h : RU r q G w u) (hd : u.down = false) (hk : a.kind = 2) (he : ¬ a.epoch < u.epoch) :
    Calls Tryz.prog 58 #[ptrU r, askV a] w fun e w' => e = .returned (ansV (u.ans a) none 0) ∧ Leaves (RU r q) G w w' (u.done a) := by
  rw [show u.ans a = anP (u.p.fillE a.page) 0 noS u.epoch from by unfold Us.ans; rw [if_neg (by rw [hd]; decide), if_neg (by omega), if_neg he, if_neg (by omega), if_neg (by omega)]; unfold Us.pageE; rw [if_neg (by omega), if_pos hk], show u.done a = ⟨u.p.fill a.page, u.epoch, u.down⟩ from by unfold Us.done; rw [if_neg (by rw [hd]; simp; omega), if_neg (by omega)]; unfold Us.pageP; rw [if_neg (by omega), if_pos hk]]
  obtain ⟨k, un, ep, pg, sz, n, s, pe, L, ao, cap⟩ := a
  obtain ⟨p, ue, dn⟩ := u
  simp only at *
  subst hd
  have HS := Lib.hid (show DoW w (((w.alloc (.cells #[.int .i64 k, .int .i64 un, .int .i64 ep, .int .i64 pg, .int .i64 sz, .int .i64 n, .string s, .int .i64 pe, .slice ao L.length cap] 34)).alloc (.cells #[.int .i64 0, .int .i64 0, .string ⟨#[]⟩, .int .i64 0, .slice none 0 0, .int .i64 0, .int .i64 0, .int .i64 0] 38)).alloc (.cells #[.int .i64 0, .int .i64 0, .string ⟨#[]⟩, .int .i64 0, .slice none 0 0, .int .i64 0, .int .i64 0, .int .i64 ue] 38)) r q G ⟨p, ue, false⟩ ⟨k, un, ep, pg, sz, n, s, pe, L, ao, cap⟩ #[.int .i64 0, .int .i64 0, .string ⟨#[]⟩, .int .i64 0, .slice none 0 0, .int .i64 0, .int .i64 0, .int .i64 ue] from do_start h ⟨k, un, ep, pg, sz, n, s, pe, L, ao, cap⟩ #[.int .i64 0, .int .i64 0, .string ⟨#[]⟩, .int .i64 0, .slice none 0 0, .int .i64 0, .int .i64 0, .int .i64 ue])
  have he' : ue ≤ ep := by omega
  have hk1 : 1 ≤ k := by omega
  have hk5 : k ≤ 5 := by omega
  have d5 : (k == 5) = false := beq_eq_false_iff_ne.2 (by omega)
  have d1 : (k == 1) = false := beq_eq_false_iff_ne.2 (by omega)
  have d2 : (k == 2) = true := by rw [hk]; rfl
  clear hk he
  have HR := Lib.hid h
  obtain ⟨h0, h1, h2, _⟩ := h
  simp only at h1
  have hlt := lt_of_block h1
  obtain ⟨c0, c1, c2, _⟩ := three_cells h1
  clear h0 h1 h2
  show Calls _ _ #[.pointer (some ⟨r, 0, none⟩), .agg #[.int .i64 k, .int .i64 un, .int .i64 ep, .int .i64 pg, .int .i64 sz, .int .i64 n, .string s, .int .i64 pe, .slice ao L.length cap]] w _
  go_enter Tryz.func58, Tryz.ntmps58
  go_wp2_with fail
  generalize hW0 : ((w.alloc (.cells #[.int .i64 k, .int .i64 un, .int .i64 ep, .int .i64 pg, .int .i64 sz, .int .i64 n, .string s, .int .i64 pe, .slice ao L.length cap] 34)).alloc (.cells #[.int .i64 0, .int .i64 0, .string ⟨#[]⟩, .int .i64 0, .slice none 0 0, .int .i64 0, .int .i64 0, .int .i64 0] 38)).alloc (.cells #[.int .i64 0, .int .i64 0, .string ⟨#[]⟩, .int .i64 0, .slice none 0 0, .int .i64 0, .int .i64 0, .int .i64 ue] 38) = W0 at *
  clear c0 c1 c2 hlt hW0
  obtain ⟨l1, l2, l3, l4⟩ := HS.out.small
  have x2 : W0.cell? ⟨w.heap.size, 2, none⟩ = some (.int .i64 ep) := cell_of HS.out.ask 2
  obtain ⟨c0, c1, c2, _⟩ := three_cells HS.out.unit
  have hr := lt_of_block HS.out.unit
  have HSN := Lib.hid (fun n => HS.out.drewN n)
  clear HS
  go_quiet (fail)
  have HT := Lib.hid (HSN.out nq)
  generalize hW1 : World.drewN W0 nq = W1 at *
  clear hW1 HSN x2 c0 c1 c2 hr l1 l2 l3 l4
  obtain ⟨l1, l2, l3, l4⟩ := HT.out.small
  obtain ⟨⟨y0, y1, y2, y3, y4, y5, y6, y7⟩, fy0, fy1, fy2, fy3, fy4, fy5, fy6, fy7⟩ := eight_cells HT.out.ans
  obtain ⟨⟨z0, z1, z2, z3, z4, z5, z6, z7⟩, fz0, fz1, fz2, fz3, fz4, fz5, fz6, fz7⟩ := eight_cells HT.out.zero
  obtain ⟨c0, c1, c2, f0, f1, f2⟩ := three_cells HT.out.unit
  have x0 : W1.cell? ⟨w.heap.size, 0, none⟩ = some (.int .i64 k) := cell_of HT.out.ask 0
  have x2 : W1.cell? ⟨w.heap.size, 2, none⟩ = some (.int .i64 ep) := cell_of HT.out.ask 2
  have x3 : W1.cell? ⟨w.heap.size, 3, none⟩ = some (.int .i64 pg) := cell_of HT.out.ask 3
  have x6 : W1.cell? ⟨w.heap.size, 6, none⟩ = some (.string s) := cell_of HT.out.ask 6
  go_wp2_with fail
  obtain ⟨F, hF, hok, hnx⟩ := (HT.out.drewN 1).ready
  have HNX := Lib.hid hnx
  clear hnx
  go_region_held3 (fun W => W.cell? ⟨w.heap.size, 3, none⟩ = some (.int .i64 pg) ∧ W.cell? ⟨w.heap.size, 6, none⟩ = some (.string s) ∧ W.cell? ⟨r, 0, none⟩ = some (.pointer (some ⟨q, 0, none⟩)))
    (first | exact ⟨x3, x6, c0⟩ | exact ⟨cell_of HT2.out.ask 3, cell_of HT2.out.ask 6, (three_cells HT2.out.unit).1⟩ | exact ⟨cell_of (HT2.out.put 0 _).ask 3, cell_of (HT2.out.put 0 _).ask 6, (three_cells (HT2.out.put 0 _).unit).1⟩)
    (first | (go_at_call 73; refine (rfill_any F _ q p pg hF hok).mono ?_; rintro e w2 ⟨rfl, hl⟩; have HT2 := Lib.hid (HNX.out _ _ (hok.fill pg) hl); clear hl; obtain ⟨nl1, nl2, nl3, nl4⟩ := HT2.out.small; obtain ⟨⟨ny0, ny1, ny2, ny3, ny4, ny5, ny6, ny7⟩, nfy0, nfy1, nfy2, nfy3, nfy4, nfy5, nfy6, nfy7⟩ := eight_cells HT2.out.ans; obtain ⟨⟨nz0, nz1, nz2, nz3, nz4, nz5, nz6, nz7⟩, nfz0, nfz1, nfz2, nfz3, nfz4, nfz5, nfz6, nfz7⟩ := eight_cells HT2.out.zero))
  all_goals
    go_wp2_with fail
    exact ans_ret (x := anP (p.fillE pg) 0 noS ue) (ao := none) (cap := 0) rfl (HT2.out.put 0 (.int .i64 (p.fillE pg))).fin.1 rfl rfl ⟨rfl, (HT2.out.put 0 (.int .i64 (p.fillE pg))).fin.2⟩
end Go.Proofs.YtkicjgaejieinaaGreat
namespace Go.Proofs.YtkicjgaejieinaaGreat
set_option linter.unusedVariables false
open Go.RowKit
set_option maxRecDepth 20000
set_option maxHeartbeats 800000 in
theorem on_refuse (b : Nat) (G : Nat → Prop) (w : World) (o : Od) (a : Ak) (h : OM b G w o) :
    Calls Tryz.prog 86 #[ptrO b, askV a] w fun e w' => e = .returned (anW 1 0 noT 0) ∧ Leaves (OM b) G w w' o := by
  obtain ⟨k, un, ep, pg, sz, n, s, pe, L, ao, cap⟩ := a
  have CC := Lib.hid ocoded_any
  have HS := Lib.hid (boxed_start (om_thing b) h #[.int .i64 k, .int .i64 un, .int .i64 ep, .int .i64 pg, .int .i64 sz, .int .i64 n, .string s, .int .i64 pe, .slice ao L.length cap])
  unfold zeroAn at HS
  clear h
  show Calls _ _ #[.pointer (some ⟨b, 0, none⟩), .agg #[.int .i64 k, .int .i64 un, .int .i64 ep, .int .i64 pg, .int .i64 sz, .int .i64 n, .string s, .int .i64 pe, .slice ao L.length cap]] w _
  go_enter Tryz.func86, Tryz.ntmps86
  go_wp2_with (go_at_call 66; refine (CC.out _ _).mono ?_; rintro e w3 ⟨rfl, hb3⟩; have HT3 := Lib.hid (HS.out.below (om_thing b) hb3); clear hb3; obtain ⟨nl1, nl2⟩ := HT3.out.small; obtain ⟨⟨ny0, ny1, ny2, ny3, ny4, ny5, ny6, ny7⟩, nfy0, nfy1, nfy2, nfy3, nfy4, nfy5, nfy6, nfy7⟩ := eight_cells HT3.out.ans)
  exact ans_ret (x := anP 1 0 noT 0) (ao := none) (cap := 0) rfl (HT3.out.fin (om_thing b)).1 rfl rfl ⟨rfl, (HT3.out.fin (om_thing b)).2⟩
set_option maxHeartbeats 800000 in
theorem on_look_other (b : Nat) (G : Nat → Prop) (w : World) (o : Od) (a : Ak) (h : OM b G w o) (he : a.epoch ≠ o.epoch) :
    Calls Tryz.prog 85 #[ptrO b, askV a] w fun e w' => e = .returned (anW 40 0 noT 0) ∧ Leaves (OM b) G w w' o := by
  obtain ⟨k, un, ep, pg, sz, n, s, pe, L, ao, cap⟩ := a
  obtain ⟨oe, ot, ok⟩ := o
  simp only at *
  have de : (ep != oe) = true := bne_iff_ne.2 he
  clear he
  have CC := Lib.hid ocoded_any
  have HS := Lib.hid (boxed_start (om_thing b) h #[.int .i64 k, .int .i64 un, .int .i64 ep, .int .i64 pg, .int .i64 sz, .int .i64 n, .string s, .int .i64 pe, .slice ao L.length cap])
  unfold zeroAn at HS
  clear h
  show Calls _ _ #[.pointer (some ⟨b, 0, none⟩), .agg #[.int .i64 k, .int .i64 un, .int .i64 ep, .int .i64 pg, .int .i64 sz, .int .i64 n, .string s, .int .i64 pe, .slice ao L.length cap]] w _
  go_enter Tryz.func85, Tryz.ntmps85
  go_wp2_with fail
  generalize hW0 : ((w.alloc (.cells #[.int .i64 k, .int .i64 un, .int .i64 ep, .int .i64 pg, .int .i64 sz, .int .i64 n, .string s, .int .i64 pe, .slice ao L.length cap] 34)).alloc (.cells #[.int .i64 0, .int .i64 0, .string ⟨#[]⟩, .int .i64 0, .slice none 0 0, .int .i64 0, .int .i64 0, .int .i64 0] 38)) = W0 at *
  clear hW0
  obtain ⟨l1, l2⟩ := HS.out.small
  obtain ⟨H, hH, _⟩ := HS.out.use
  have x2 : W0.cell? ⟨w.heap.size, 2, none⟩ = some (.int .i64 ep) := cell_of HS.out.ask 2
  obtain ⟨t, _, hc⟩ := hH.cells
  obtain ⟨c0, c1, c2, _⟩ := three_cells hc
  have hb := hH.small
  clear hH hc
  go_quiet (fail)
  have HT2 := Lib.hid (HS.out.drewN (om_thing b) nq)
  generalize hW2 : World.drewN W0 nq = w2 at *
  clear hW2 x2 c0 c1 c2 hb l1 l2
  obtain ⟨l1, l2⟩ := HT2.out.small
  go_wp2_with (go_at_call 66; refine (CC.out _ _).mono ?_; rintro e w3 ⟨rfl, hb3⟩; have HT3 := Lib.hid (HT2.out.below (om_thing b) hb3); clear hb3; obtain ⟨nl1, nl2⟩ := HT3.out.small; obtain ⟨⟨ny0, ny1, ny2, ny3, ny4, ny5, ny6, ny7⟩, nfy0, nfy1, nfy2, nfy3, nfy4, nfy5, nfy6, nfy7⟩ := eight_cells HT3.out.ans)
  exact ans_ret (x := anP 40 0 noT 0) (ao := none) (cap := 0) rfl (HT3.out.fin (om_thing b)).1 rfl rfl ⟨rfl, (HT3.out.fin (om_thing b)).2⟩
set_option maxHeartbeats 800000 in
theorem on_look_dumb (b : Nat) (G : Nat → Prop) (w : World) (o : Od) (a : Ak) (h : OM b G w o) (he : a.epoch = o.epoch) (hn : o.knows = false) :
    Calls Tryz.prog 85 #[ptrO b, askV a] w fun e w' => e = .returned (anW 47 0 noT 0) ∧ Leaves (OM b) G w w' o := by
  obtain ⟨k, un, ep, pg, sz, n, s, pe, L, ao, cap⟩ := a
  obtain ⟨oe, ot, ok⟩ := o
  simp only at *
  have de : (ep != oe) = false := bne_eq_false_iff_eq.2 he
  clear he
  subst hn
  have CC := Lib.hid ocoded_any
  have HS := Lib.hid (boxed_start (om_thing b) h #[.int .i64 k, .int .i64 un, .int .i64 ep, .int .i64 pg, .int .i64 sz, .int .i64 n, .string s, .int .i64 pe, .slice ao L.length cap])
  unfold zeroAn at HS
  clear h
  show Calls _ _ #[.pointer (some ⟨b, 0, none⟩), .agg #[.int .i64 k, .int .i64 un, .int .i64 ep, .int .i64 pg, .int .i64 sz, .int .i64 n, .string s, .int .i64 pe, .slice ao L.length cap]] w _
  go_enter Tryz.func85, Tryz.ntmps85
  go_wp2_with fail
  generalize hW0 : ((w.alloc (.cells #[.int .i64 k, .int .i64 un, .int .i64 ep, .int .i64 pg, .int .i64 sz, .int .i64 n, .string s, .int .i64 pe, .slice ao L.length cap] 34)).alloc (.cells #[.int .i64 0, .int .i64 0, .string ⟨#[]⟩, .int .i64 0, .slice none 0 0, .int .i64 0, .int .i64 0, .int .i64 0] 38)) = W0 at *
  clear hW0
  obtain ⟨l1, l2⟩ := HS.out.small
  obtain ⟨H, hH, _⟩ := HS.out.use
  have x2 : W0.cell? ⟨w.heap.size, 2, none⟩ = some (.int .i64 ep) := cell_of HS.out.ask 2
  obtain ⟨t, _, hc⟩ := hH.cells
  obtain ⟨c0, c1, c2, _⟩ := three_cells hc
  have hb := hH.small
  clear hH hc
  go_quiet (fail)
  have HT2 := Lib.hid (HS.out.drewN (om_thing b) nq)
  generalize hW2 : World.drewN W0 nq = w2 at *
  clear hW2 x2 c0 c1 c2 hb l1 l2
  obtain ⟨l1, l2⟩ := HT2.out.small
  obtain ⟨H, hH, _⟩ := HT2.out.use
  obtain ⟨t2, _, hc⟩ := hH.cells
  obtain ⟨c0, c1, c2, _⟩ := three_cells hc
  have hb := hH.small
  clear hH hc
  go_wp2_with (go_at_call 66; refine (CC.out _ _).mono ?_; rintro e w3 ⟨rfl, hb3⟩; have HT3 := Lib.hid (HT2.out.below (om_thing b) hb3); clear hb3; obtain ⟨nl1, nl2⟩ := HT3.out.small; obtain ⟨⟨ny0, ny1, ny2, ny3, ny4, ny5, ny6, ny7⟩, nfy0, nfy1, nfy2, nfy3, nfy4, nfy5, nfy6, nfy7⟩ := eight_cells HT3.out.ans)
  exact ans_ret (x := anP 47 0 noT 0) (ao := none) (cap := 0) rfl (HT3.out.fin (om_thing b)).1 rfl rfl ⟨rfl, (HT3.out.fin (om_thing b)).2⟩
set_option maxHeartbeats 800000 in
theorem on_look (b : Nat) (G : Nat → Prop) (w : World) (o : Od) (a : Ak) (h : OM b G w o) (he : a.epoch = o.epoch) (hn : o.knows = true) :
    Calls Tryz.prog 85 #[ptrO b, askV a] w fun e w' => e = .returned (anW 0 o.tail noT 0) ∧ Leaves (OM b) G w w' o := by
  obtain ⟨k, un, ep, pg, sz, n, s, pe, L, ao, cap⟩ := a
  obtain ⟨oe, ot, ok⟩ := o
  simp only at *
  have de : (ep != oe) = false := bne_eq_false_iff_eq.2 he
  clear he
  subst hn
  have HS := Lib.hid (boxed_start (om_thing b) h #[.int .i64 k, .int .i64 un, .int .i64 ep, .int .i64 pg, .int .i64 sz, .int .i64 n, .string s, .int .i64 pe, .slice ao L.length cap])
  unfold zeroAn at HS
  clear h
  show Calls _ _ #[.pointer (some ⟨b, 0, none⟩), .agg #[.int .i64 k, .int .i64 un, .int .i64 ep, .int .i64 pg, .int .i64 sz, .int .i64 n, .string s, .int .i64 pe, .slice ao L.length cap]] w _
  go_enter Tryz.func85, Tryz.ntmps85
  go_wp2_with fail
  generalize hW0 : ((w.alloc (.cells #[.int .i64 k, .int .i64 un, .int .i64 ep, .int .i64 pg, .int .i64 sz, .int .i64 n, .string s, .int .i64 pe, .slice ao L.length cap] 34)).alloc (.cells #[.int .i64 0, .int .i64 0, .string ⟨#[]⟩, .int .i64 0, .slice none 0 0, .int .i64 0, .int .i64 0, .int .i64 0] 38)) = W0 at *
  clear hW0
  obtain ⟨l1, l2⟩ := HS.out.small
  obtain ⟨H, hH, _⟩ := HS.out.use
  have x2 : W0.cell? ⟨w.heap.size, 2, none⟩ = some (.int .i64 ep) := cell_of HS.out.ask 2
  obtain ⟨t, _, hc⟩ := hH.cells
  obtain ⟨c0, c1, c2, _⟩ := three_cells hc
  have hb := hH.small
  clear hH hc
  go_quiet (fail)
  have HT2 := Lib.hid (HS.out.drewN (om_thing b) nq)
  generalize hW2 : World.drewN W0 nq = w2 at *
  clear hW2 x2 c0 c1 c2 hb l1 l2
  obtain ⟨l1, l2⟩ := HT2.out.small
  obtain ⟨H, hH, _⟩ := HT2.out.use
  obtain ⟨t2, ht2, hc⟩ := hH.cells
  have et : t2 = ot := ht2 rfl
  clear ht2
  subst et
  obtain ⟨c0, c1, c2, _⟩ := three_cells hc
  have hb := hH.small
  clear hH hc
  obtain ⟨⟨ny0, ny1, ny2, ny3, ny4, ny5, ny6, ny7⟩, nfy0, nfy1, nfy2, nfy3, nfy4, nfy5, nfy6, nfy7⟩ := eight_cells HT2.out.ans
  go_wp2_with fail
  exact ans_ret (x := anP 0 t2 noT 0) (ao := none) (cap := 0) rfl (HT2.out.fin (om_thing b)).1 rfl rfl ⟨rfl, (HT2.out.fin (om_thing b)).2⟩
end Go.Proofs.YtkicjgaejieinaaGreat
