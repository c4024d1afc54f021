/- May a projection come next? What the program's layout tells. Conditions: it and the projection lie where the call was told; no more than 100000 units were noted. What the program's unit answers any question; all that the laws of units ask of the program. Conditions: it and the question lie where the call was told; the question's data are not too long. What the document's own layout answers any question, and is behind it. Conditions: it and the question lie where the call was told; no more than 100000 units were noted. -/
import Derived.Test.YtchhmfdalghgcaaGreatG19b
import Derived.Test.YtchhmfdalghgcaaGreatG15b
import Derived.Test.YtchhmfdalghgcaaGreatG18c
import Derived.Test.YtchhmfdalghgcaaGreatG18a
import Derived.Test.YtchhmfdalghgcaaGreatG19a
set_option linter.unusedVariables false
namespace Go.Proofs.YtchhmfdalghgcaaGreat
set_option linter.unusedVariables false
open Go.RowKit Go.Maps
set_option maxRecDepth 20000
set_option maxHeartbeats 2000000 in
theorem lp_may (b : Nat) (G : Nat → Prop) (w : World) (y : Ly) (h : LB b G w y) (hy : y.L.length ≤ 255 ∧ ∀ c ∈ y.L, c.length ≤ 255) (e : Int) (ao : Option Addr) (cap : Nat) (Q : List (List Int)) (hq : CL w ao Q) (lq : Q.length ≤ 255 ∧ ∀ c ∈ Q, c.length ≤ 255) :
    Calls Tryz.prog 145 #[ptrL b, .agg #[.int .i64 e, .slice ao Q.length cap]] w fun x w' => x = .returned (.bool (y.may e Q)) ∧ Below w.heap.size w w' := by
  obtain ⟨lo, lc, mb0, h1, h2, _⟩ := h.open
  obtain ⟨⟨c0, c1, c2, _, _, _⟩, _⟩ := six_cells h1
  have hlt := lt_of_block h1
  have HB0 := Lib.hid (below_new w (.cells #[.int .i64 e, .slice ao Q.length cap] 29))
  have hx : PB (w.alloc (.cells #[.int .i64 e, .slice ao Q.length cap] 29)) w.heap.size e ao Q.length cap := heap_alloc_new _ _
  have HS0 := Lib.hid (show (w.alloc (.cells #[.int .i64 e, .slice ao Q.length cap] 29)).drew.cell? ⟨b, 0, none⟩ = some (.int .i64 y.ep) ∧ (w.alloc (.cells #[.int .i64 e, .slice ao Q.length cap] 29)).drew.cell? ⟨b, 1, none⟩ = some (.slice lo y.L.length lc) ∧
      (w.alloc (.cells #[.int .i64 e, .slice ao Q.length cap] 29)).drew.cell? ⟨w.heap.size, 0, none⟩ = some (.int .i64 e) ∧ (w.alloc (.cells #[.int .i64 e, .slice ao Q.length cap] 29)).drew.cell? ⟨w.heap.size, 1, none⟩ = some (.slice ao Q.length cap) ∧
      Below w.heap.size w (w.alloc (.cells #[.int .i64 e, .slice ao Q.length cap] 29)).drew ∧ w.heap.size ≤ (w.alloc (.cells #[.int .i64 e, .slice ao Q.length cap] 29)).drew.heap.size from
    ⟨cellB HB0.out.drew hlt c0, cellB HB0.out.drew hlt c1, cellB (Below.refl _ _).drew (block_lt_of_cell hx.cells.1) hx.cells.1, cellB (Below.refl _ _).drew (block_lt_of_cell hx.cells.2) hx.cells.2, HB0.out.drew, by simp⟩)
  have HC := Lib.hid h2
  have HQ := Lib.hid hq
  have SM := Lib.hid hy
  have LQ := Lib.hid lq
  have HLW := Lib.hid h
  clear c0 c1 c2 hx h h1 h2 hy hq lq
  cases hn : nextB y.ep y.L e Q
  · rw [may_no hn]
    have HN := Lib.hid hn
    clear hn
    unfold ptrL
    go_enter Tryz.func145, Tryz.ntmps145
    go_wp2_with fail
    go_region_held3 (fun W => W.cell? ⟨b, 0, none⟩ = some (.int .i64 y.ep) ∧ W.cell? ⟨b, 1, none⟩ = some (.slice lo y.L.length lc) ∧ W.cell? ⟨w.heap.size, 0, none⟩ = some (.int .i64 e) ∧ W.cell? ⟨w.heap.size, 1, none⟩ = some (.slice ao Q.length cap) ∧ Below w.heap.size w W ∧ w.heap.size ≤ W.heap.size)
      (first | exact HS0.out | exact mw_on (by assumption) hb1)
      (first | (go_at_call 147; refine (pnext_any y.ep lo lc y.L e ao cap Q _ (HC.out.below (mw_b (by assumption))) (HQ.out.below (mw_b (by assumption))) SM.out LQ.out).mono ?_; rintro x w1 ⟨rfl, hb1⟩; rw [HN.out]))
    all_goals
      go_wp2_with fail
      go_ret
      rename_i hS
      exact ⟨rfl, mw_b hS⟩
  · rw [may_yes hn]
    have HN := Lib.hid hn
    have fN := units_few SM.out
    have fU := units_few LQ.out
    have HY := Lib.hid (show (∀ u ∈ (unitsR Q).take (unitsR Q).length, mayF (unitsR y.L) y.used u = true) → (unitsR Q).all (mayF (unitsR y.L) y.used) = true from fun h => by
      rw [List.take_of_length_le (Nat.le_refl _)] at h
      exact List.all_eq_true.2 h)
    have HX := Lib.hid (fun k (hk : k < (unitsR Q).length) (h : mayF (unitsR y.L) y.used (unitsR Q)[k] = false) => show (unitsR Q).all (mayF (unitsR y.L) y.used) = false from
      List.all_eq_false.2 ⟨_, List.getElem_mem hk, by rw [h]; exact Bool.false_ne_true⟩)
    have C1 := Lib.hid (fun (W : World) (hb : Below w.heap.size w W) => punits_any y.ep lo lc y.L W (HC.out.below hb) SM.out)
    have C2 := Lib.hid (fun (W : World) (hb : Below w.heap.size w W) => punits_any e ao cap Q W (HQ.out.below hb) LQ.out)
    clear hn
    generalize (unitsR Q).all (mayF (unitsR y.L) y.used) = R at *
    generalize unitsR Q = U at *
    generalize unitsR y.L = N at *
    have mU : (U.length : Int) ≤ 70000 := by omega
    unfold ptrL
    go_enter Tryz.func145, Tryz.ntmps145
    go_wp2_with fail
    go_region_held3 (fun W => W.cell? ⟨b, 0, none⟩ = some (.int .i64 y.ep) ∧ W.cell? ⟨b, 1, none⟩ = some (.slice lo y.L.length lc) ∧ W.cell? ⟨w.heap.size, 0, none⟩ = some (.int .i64 e) ∧ W.cell? ⟨w.heap.size, 1, none⟩ = some (.slice ao Q.length cap) ∧ Below w.heap.size w W ∧ w.heap.size ≤ W.heap.size)
      (first | exact HS0.out | exact mw_on (by assumption) hb1)
      (first | (go_at_call 147; refine (pnext_any y.ep lo lc y.L e ao cap Q _ (HC.out.below (mw_b (by assumption))) (HQ.out.below (mw_b (by assumption))) SM.out LQ.out).mono ?_; rintro x w1 ⟨rfl, hb1⟩; rw [HN.out]))
    all_goals
      rename_i hS
      have H1 := Lib.hid hS
      obtain ⟨p0, p1, p2, p3, _, _⟩ := hS
      have hb1' := block_lt_of_cell p0
      clear hb1
      go_wp2_with (first
        | (go_at_call 62; refine (C2.out _ (mw_b H2.out)).mono ?_; rintro x w3 ⟨uo, uc, rfl, hN3, hb3⟩; have H3 := Lib.hid (mw_on H2.out hb3); have HNU := Lib.hid hN3; have HNN3 := Lib.hid (HNN.out.below hb3); clear hN3 hb3)
        | (go_at_call 62; refine (C1.out _ (mw_b H1.out)).mono ?_; rintro x w2 ⟨no, nc, rfl, hN2, hb2⟩; have H2 := Lib.hid (mw_on H1.out hb2); have HNN := Lib.hid hN2; obtain ⟨q0, q1, q2, q3, _, _⟩ := H2.out; have hb2' := block_lt_of_cell q0; clear hN2 hb2))
      have HW := Lib.hid (mw_b H3.out)
      have HL3 := Lib.hid (HLW.out.below HW.out)
      clear HB0 HS0 HC HQ SM LQ HN C1 C2 HNN p0 p1 p2 p3 q0 q1 q2 q3 H1 H2 H3 HLW
      go_loopw [25] (fun i wr => ∃ k : Nat, i = .int .i64 k ∧ k ≤ U.length ∧ Hid (Below w3.heap.size w3 wr) ∧ Hid (∀ u ∈ U.take k, mayF N y.used u = true)) (fun i _ => U.length - (intOf i).toNat)
      case atStart => exact ⟨0, rfl, Nat.zero_le _, Lib.hid (Below.refl _ _), Lib.hid (fun u hu => by simp at hu)⟩
      case round =>
        obtain ⟨k, rfl, hk, HB, HT⟩ := hrel
        have hWz := HW.out.size
        by_cases hlt2 : k < U.length
        · have HNR := Lib.hid (HNU.out.below HB.out)
          obtain ⟨bk, off, rfl, x0⟩ := HNR.out.at k hlt2
          have hwf := HNR.out.wf _ (List.getElem_mem hlt2)
          have k0 : (k : Int) < (U.length : Int) := by omega
          obtain ⟨lo2, lc2, mb, g1, _, hUs, _⟩ := (HL3.out.below HB.out).open
          obtain ⟨⟨c0, c1, c2, c3, c4, c5⟩, _⟩ := six_cells g1
          have hbr := lt_of_block g1
          have HD := Lib.hid hUs.1
          have HH := Lib.hid (show Maps.has (setD klU y.used) (klU U[k]) = hasB y.used U[k] from hUs.has hwf)
          have HKEY := Lib.hid (lunit_key _ hwf)
          have HB5 := Lib.hid (HB.out.alloc HB.out.size (.cells #[] 144))
          have CH := Lib.hid (lcontains_any N U[k] no nc (wr.alloc (.cells #[] 144)) (HNN3.out.below HB5.out) (by omega))
          have HT2 := Lib.hid (show mayF N y.used U[k] = true → ∀ u ∈ U.take (k + 1), mayF N y.used u = true from fun h => all_take_succ (p := fun u => mayF N y.used u = true) hlt2 HT.out h)
          have HXK := Lib.hid (HX.out k hlt2)
          have HF : mayF N y.used U[k] = (hasB N U[k] || !hasB y.used U[k]) := rfl
          rw [HF] at HT2 HXK
          clear HF g1 hUs hwf c0 c1 c3 c4 c5
          generalize U[k] = u at *
          cases hD : hasB y.used u
          · have HT3 := Lib.hid (HT2.out (by rw [hD]; simp))
            rw [hD] at HH
            clear hD HXK HT2 CH
            go_wp2_with (at_lookup; refine wpList_lookup_own_unit _ rfl _ _ 114 rfl 146 144 lunit_law Tryz.underlying114 (zero_none _) mb _ _ rfl HD.out _ _ rfl HKEY.out ?_; rw [HH.out])
            go_roundw
            case rel => exact ⟨k + 1, by go_num, by omega, HB5, HT3⟩
            case measure => simp [intOf]; omega
          · cases hN : hasB N u
            · have HR := Lib.hid (HXK.out (by rw [hN, hD]; rfl))
              rw [hN] at CH
              rw [hD] at HH
              clear hN hD HXK HT2
              go_wp2_with (first
                | (at_lookup; refine wpList_lookup_own_unit _ rfl _ _ 114 rfl 146 144 lunit_law Tryz.underlying114 (zero_none _) mb _ _ rfl HD.out _ _ rfl HKEY.out ?_; rw [HH.out])
                | (go_at_call 47; refine CH.out.mono ?_; rintro x w6 ⟨rfl, rfl⟩))
              go_ret
              rw [HR.out]
              exact ⟨rfl, HW.out.trans (HB5.out.mono HW.out.size)⟩
            · have HT3 := Lib.hid (HT2.out (by rw [hN]; rfl))
              rw [hN] at CH
              rw [hD] at HH
              clear hN hD HXK HT2
              go_wp2_with (first
                | (at_lookup; refine wpList_lookup_own_unit _ rfl _ _ 114 rfl 146 144 lunit_law Tryz.underlying114 (zero_none _) mb _ _ rfl HD.out _ _ rfl HKEY.out ?_; rw [HH.out])
                | (go_at_call 47; refine CH.out.mono ?_; rintro x w6 ⟨rfl, rfl⟩))
              go_roundw
              case rel => exact ⟨k + 1, by go_num, by omega, HB5, HT3⟩
              case measure => simp [intOf]; omega
        · obtain rfl : k = U.length := by omega
          have HR := Lib.hid (HY.out HT.out)
          go_wp2_with fail
          go_ret
          rw [HR.out]
          exact ⟨rfl, HW.out.trans (HB.out.mono HW.out.size)⟩
end Go.Proofs.YtchhmfdalghgcaaGreat
namespace Go.Proofs.YtchhmfdalghgcaaGreat
set_option linter.unusedVariables false
open Go.RowKit
set_option maxRecDepth 20000
set_option maxHeartbeats 800000 in
theorem do_down (b q : Nat) (G : Nat → Prop) (w : World) (u : Us) (a : Ak) (h : UM b q G w u) (hd : u.down = true) :
    Calls Tryz.prog 122 #[ptrV b, askV a] w fun e w' => e = .returned (anV 45 0 noS 0) ∧ Leaves (UM b q) G w w' u := by
  obtain ⟨k, un, ep, pg, sz, n, s, pe, L, ao, cap⟩ := a
  obtain ⟨p, ue, dn⟩ := u
  simp only at *
  have CC := Lib.hid coded_ag
  have HS := Lib.hid (boxed_start (um_thing b q) h #[.int .i64 k, .int .i64 un, .int .i64 ep, .int .i64 pg, .int .i64 sz, .int .i64 n, .string s, .int .i64 pe, .slice ao L.length cap])
  unfold zeroAn at HS
  have hbw := h.small
  subst hd
  obtain ⟨c0, c1, c2, _⟩ := three_cells h.cells
  clear h
  show Calls _ _ #[.pointer (some ⟨b, 0, none⟩), .agg #[.int .i64 k, .int .i64 un, .int .i64 ep, .int .i64 pg, .int .i64 sz, .int .i64 n, .string s, .int .i64 pe, .slice ao L.length cap]] w _
  go_enter Tryz.func122, Tryz.ntmps122
  go_wp2_with (go_at_call 123; refine (CC.out _ _).mono ?_; rintro e w3 ⟨rfl, hb3⟩; have HT3 := Lib.hid (HS.out.below (um_thing b q) hb3); clear hb3; obtain ⟨nl1, nl2⟩ := HT3.out.small; obtain ⟨⟨ny0, ny1, ny2, ny3, ny4, ny5, ny6, ny7⟩, nfy0, nfy1, nfy2, nfy3, nfy4, nfy5, nfy6, nfy7⟩ := eight_cells HT3.out.ans)
  exact ans_ret (x := anP (45) (0) noS 0) (ao := none) (cap := 0) rfl (HT3.out.fin (um_thing b q)).1 rfl rfl ⟨rfl, (HT3.out.fin (um_thing b q)).2⟩
/-- no thing at all -/
def noThing (G : Nat → Prop) (w : World) (_ : Unit) : Prop := ∀ k, ¬ G k
theorem noThing_thing : Thing noThing where
  lt := fun h k hk => absurd hk (h k)
  keep := fun h _ _ => h
theorem noThing_below {w w' : World} (h : Leaves noThing (fun _ => False) w w' ()) : Below w.heap.size w w' := by
  obtain ⟨_, _, hk, _⟩ := h
  exact hk.toBelow (Nat.le_refl _) (fun k _ h => h)
set_option maxHeartbeats 800000 in
theorem do_nil (w : World) (a : Ak) (h : AkIn w a) :
    Calls Tryz.prog 122 #[.pointer none, askV a] w fun e w' => e = .returned (anV 1 0 noS 0) ∧ Below w.heap.size w w' := by
  obtain ⟨k, un, ep, pg, sz, n, s, pe, L, ao, cap⟩ := a
  have CC := Lib.hid coded_ag
  have HS := Lib.hid (boxed_start noThing_thing (T := noThing) (G := fun _ => False) (w := w) (s := ()) (fun _ h => h) #[.int .i64 k, .int .i64 un, .int .i64 ep, .int .i64 pg, .int .i64 sz, .int .i64 n, .string s, .int .i64 pe, .slice ao L.length cap])
  unfold zeroAn at HS
  clear h
  show Calls _ _ #[.pointer none, .agg #[.int .i64 k, .int .i64 un, .int .i64 ep, .int .i64 pg, .int .i64 sz, .int .i64 n, .string s, .int .i64 pe, .slice ao L.length cap]] w _
  go_enter Tryz.func122, Tryz.ntmps122
  go_wp2_with (go_at_call 123; refine (CC.out _ _).mono ?_; rintro e w3 ⟨rfl, hb3⟩; have HT3 := Lib.hid (HS.out.below noThing_thing hb3); clear hb3; obtain ⟨nl1, nl2⟩ := HT3.out.small; obtain ⟨⟨ny0, ny1, ny2, ny3, ny4, ny5, ny6, ny7⟩, nfy0, nfy1, nfy2, nfy3, nfy4, nfy5, nfy6, nfy7⟩ := eight_cells HT3.out.ans)
  exact ans_ret (x := anP 1 0 noS 0) (ao := none) (cap := 0) rfl (HT3.out.fin noThing_thing).1 rfl rfl ⟨rfl, noThing_below (HT3.out.fin noThing_thing).2⟩
set_option maxHeartbeats 800000 in
theorem do_up (b q : Nat) (G : Nat → Prop) (w : World) (u u' : Us) (a : Ak) (c m : Int) (z : ByteArray) (h : UM b q G w u) (hd : u.down = false)
    (hf : ∀ (H : Nat → Prop) (w : World), UM b q H w u → Calls Tryz.prog 124 #[ptrV b, askV a] w fun e w' => e = .returned (anV c m z 0) ∧ Leaves (UM b q) H w w' u') :
    Calls Tryz.prog 122 #[ptrV b, askV a] w fun e w' => e = .returned (anV c m z u'.epoch) ∧ Leaves (UM b q) G w w' u' := by
  obtain ⟨k, un, ep, pg, sz, n, s, pe, L, ao, cap⟩ := a
  obtain ⟨p, ue, dn⟩ := u
  simp only at *
  have CC := Lib.hid coded_ag
  have HS := Lib.hid (boxed_start (um_thing b q) h #[.int .i64 k, .int .i64 un, .int .i64 ep, .int .i64 pg, .int .i64 sz, .int .i64 n, .string s, .int .i64 pe, .slice ao L.length cap])
  unfold zeroAn at HS
  have hbw := h.small
  subst hd
  have HF := Lib.hid (show ∀ (H : Nat → Prop) (w : World), UM b q H w ⟨p, ue, false⟩ → Calls Tryz.prog 124 #[.pointer (some ⟨b, 0, none⟩), .agg #[.int .i64 k, .int .i64 un, .int .i64 ep, .int .i64 pg, .int .i64 sz, .int .i64 n, .string s, .int .i64 pe, .slice ao L.length cap]] w fun e w' => e = .returned (.agg #[.int .i64 c, .int .i64 m, .string z, .int .i64 0, .slice none 0 0, .int .i64 0, .int .i64 0, .int .i64 0]) ∧ Leaves (UM b q) H w w' u' from hf)
  clear hf
  obtain ⟨c0, c1, c2, _⟩ := three_cells h.cells
  obtain ⟨H2, hH2, hU2⟩ := HS.out.use
  have HU2 := Lib.hid hU2
  have HF2 := Lib.hid (HF.out H2 _ hH2)
  clear h hU2 hH2
  show Calls _ _ #[.pointer (some ⟨b, 0, none⟩), .agg #[.int .i64 k, .int .i64 un, .int .i64 ep, .int .i64 pg, .int .i64 sz, .int .i64 n, .string s, .int .i64 pe, .slice ao L.length cap]] w _
  go_enter Tryz.func122, Tryz.ntmps122
  go_wp2_with fail
  refine HF2.out.mono ?_
  rintro e w3 ⟨rfl, hl⟩
  have HT3 := Lib.hid (HU2.out _ _ hl)
  clear hl c0 c1 c2
  obtain ⟨H, hH, _⟩ := HT3.out.use
  obtain ⟨c0, c1, c2, _⟩ := three_cells hH.cells
  have hb := hH.small
  clear hH
  obtain ⟨nl1, nl2⟩ := HT3.out.small
  obtain ⟨⟨ny0, ny1, ny2, ny3, ny4, ny5, ny6, ny7⟩, nfy0, nfy1, nfy2, nfy3, nfy4, nfy5, nfy6, nfy7⟩ := eight_cells HT3.out.ans
  go_wp2_with fail
  exact ans_ret (x := anP c m z u'.epoch) (ao := none) (cap := 0) rfl (below_heap ((Below.refl _ _).alloc (Nat.le_refl _) _) (HT3.out.fin (um_thing b q)).1) rfl rfl ⟨rfl, (HT3.out.fin (um_thing b q)).2.below (um_thing b q) ((Below.refl _ _).alloc (Nat.le_refl _) _)⟩
theorem un_ask (b q : Nat) (G : Nat → Prop) (w : World) (u : Us) (a : Ak) (h : UM b q G w u) (ha : AkIn w a) (hs : a.data.size ≤ 1000000) :
    Calls Tryz.prog 122 #[ptrV b, askV a] w fun e w' => e = .returned (anV (u.ans a).code (u.ans a).n (u.ans a).data (u.ans a).epoch) ∧ Leaves (UM b q) G w w' (u.done a) := by
  by_cases hd : u.down = true
  · rw [show u.ans a = anP 45 0 noS 0 from if_pos hd, show u.done a = u from if_pos (.inl hd)]
    exact do_down b q G w u a h hd
  have hd' : u.down = false := Bool.eq_false_iff.2 hd
  by_cases hk : a.kind < 1 ∨ 5 < a.kind
  · rw [show u.ans a = anP 1 0 noS u.epoch from by unfold Us.ans; rw [if_neg hd, if_pos hk], show u.done a = u from if_pos (.inr (.inl hk))]
    exact do_up b q G w u u a 1 0 noS h hd' (fun H w h => answer_none b q H w u a h hk)
  have hk5 : a.kind = 1 ∨ a.kind = 2 ∨ a.kind = 3 ∨ a.kind = 4 ∨ a.kind = 5 := by omega
  by_cases he : a.epoch < u.epoch
  · rw [show u.ans a = anP 40 0 noS u.epoch from by unfold Us.ans; rw [if_neg hd, if_neg hk, if_pos he], show u.done a = u from if_pos (.inr (.inr he))]
    refine do_up b q G w u u a 40 0 noS h hd' (fun H w h => ?_)
    rcases hk5 with e | e | e | e | e
    · exact answer_sealed b q H w u a _ h (by rw [e]; exact deed_1) he
    · exact answer_sealed b q H w u a _ h (by rw [e]; exact deed_2) he
    · exact answer_sealed b q H w u a _ h (by rw [e]; exact deed_3) he
    · exact answer_sealed b q H w u a _ h (by rw [e]; exact deed_4) he
    · exact answer_sealed b q H w u a _ h (by rw [e]; exact deed_5) he
  have hx : ¬ (u.down = true ∨ (a.kind < 1 ∨ 5 < a.kind) ∨ a.epoch < u.epoch) := fun h => h.elim hd (fun h => h.elim hk he)
  rcases hk5 with e | e | e | e | e
  · rw [show u.ans a = anP (u.p.writeE a.page a.data) 0 noS u.epoch from by unfold Us.ans; rw [if_neg hd, if_neg hk, if_neg he, if_neg (by omega), if_neg (by omega)]; unfold Us.pageE; rw [if_pos e], show u.done a = ⟨u.p.write a.page a.data, u.epoch, u.down⟩ from by unfold Us.done; rw [if_neg hx, if_neg (by omega)]; unfold Us.pageP; rw [if_pos e]]
    exact do_up b q G w u _ a _ 0 noS h hd' (fun H w h => answer_write b q H w u _ a e _ _ _ h he (fun H w h => un_write b q H w u a h hs))
  · rw [show u.ans a = anP (u.p.fillE a.page) 0 noS u.epoch from by unfold Us.ans; rw [if_neg hd, if_neg hk, if_neg he, if_neg (by omega), if_neg (by omega)]; unfold Us.pageE; rw [if_neg (by omega), if_pos e], show u.done a = ⟨u.p.fill a.page, u.epoch, u.down⟩ from by unfold Us.done; rw [if_neg hx, if_neg (by omega)]; unfold Us.pageP; rw [if_neg (by omega), if_pos e]]
    exact do_up b q G w u _ a _ 0 noS h hd' (fun H w h => answer_fill b q H w u _ a e _ _ _ h he (fun H w h => un_fill b q H w u a h))
  · rw [show u.ans a = anP (u.p.readE a.page) 0 (u.p.readS a.page) u.epoch from by unfold Us.ans; rw [if_neg hd, if_neg hk, if_neg he, if_neg (by omega), if_pos e]; unfold Us.pageE; rw [if_neg (by omega), if_neg (by omega), if_pos e], show u.done a = ⟨u.p, u.epoch, u.down⟩ from by unfold Us.done; rw [if_neg hx, if_neg (by omega)]; unfold Us.pageP; rw [if_neg (by omega), if_neg (by omega), if_pos e]]
    exact do_up b q G w u _ a _ 0 _ h hd' (fun H w h => answer_read b q H w u _ a e _ _ _ h he (fun H w h => un_read b q H w u a h))
  · rw [show u.ans a = anP (Ps.trimE a.page) 0 noS u.epoch from by unfold Us.ans; rw [if_neg hd, if_neg hk, if_neg he, if_neg (by omega), if_neg (by omega)]; unfold Us.pageE; rw [if_neg (by omega), if_neg (by omega), if_neg (by omega)], show u.done a = ⟨u.p.trim a.page, u.epoch, u.down⟩ from by unfold Us.done; rw [if_neg hx, if_neg (by omega)]; unfold Us.pageP; rw [if_neg (by omega), if_neg (by omega), if_neg (by omega)]]
    exact do_up b q G w u _ a _ 0 noS h hd' (fun H w h => answer_trim b q H w u _ a e _ _ _ h he (fun H w h => un_trim b q H w u a h ha.1.page))
  · rw [show u.ans a = anP 0 u.p.tail noS a.epoch from by unfold Us.ans; rw [if_neg hd, if_neg hk, if_neg he, if_pos e], show u.done a = ⟨u.p, a.epoch, u.down⟩ from by unfold Us.done; rw [if_neg hx, if_pos e]]
    exact do_up b q G w u _ a 0 _ noS h hd' (fun H w h => answer_seal b q H w u _ a e _ _ _ h he (fun H w h => un_seal b q H w u a h ha.1.epoch))
theorem UM.page {b q : Nat} {G : Nat → Prop} {w : World} {u : Us} (h : UM b q G w u) : u.p.Ok ∧ ∃ F : Nat → Prop, PGm F w q u.p := by
  obtain ⟨⟨k1, _⟩, _, _, F, k5, _⟩ := h
  exact ⟨k1, F, k5⟩
theorem unitSays : UnitSays UM where
  thing := um_thing
  ok := fun h => h.1
  new_yes := fun room w hr => un_new_yes room w hr
  new_no := fun room w hr hw => un_new_no room w hr hw
  ask := fun b pb G w u a h ha hs => un_ask b pb G w u a h ha hs
  tail := fun b pb G w u h => by obtain ⟨hok, F, hF⟩ := h.page; exact pageSays.tail F w pb u.p hF hok
  nil_ask := fun a w ha _ => do_nil w a ha
end Go.Proofs.YtchhmfdalghgcaaGreat
namespace Go.Proofs.YtchhmfdalghgcaaGreat
set_option linter.unusedVariables false
open Go.RowKit
set_option maxRecDepth 20000
theorem done_good {y : Ly} (h : goodB y.ep y.L = true) (a : Ak) : goodB (y.done a).ep (y.done a).L = true := by
  unfold Ly.done
  split
  · split
    · next hm => exact may_good hm
    · exact h
  · split <;> exact h
end Go.Proofs.YtchhmfdalghgcaaGreat
