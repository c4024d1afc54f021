/- What the program's append asks. Conditions: it lies where the call was told; where it asks a unit, that is one of its chain. The statements' own two() lays out two units; an append over such a hand is awake. Conditions: the program's functions return what HandSays, AppSays and ReadSays say. What nil appends do; what the program's append tells of where it is, and what its end leaves. Conditions: it lies where the call was told. -/
import Derived.Test.YtimjlfkdbkafeaaGreatG27a
import Derived.Test.YtimjlfkdbkafeaaGreatG18b
import Derived.StillTailTactics
import Derived.Deep.RegionHeld3
import Derived.Test.YtimjlfkdbkafeaaGreatG13a
set_option linter.unusedVariables false
namespace Go.Proofs.YtimjlfkdbkafeaaGreat
set_option linter.unusedVariables false
open Go.RowKit
set_option maxRecDepth 20000
theorem page_keep {W : World} {b : Nat} {t : TypeId} {v0 v1 v2 v3 v4 v5 v6 v7 v8 : Value} (h : W.heap[b]? = some (.cells #[v0, v1, v2, v3, v4, v5, v6, v7, v8] t (0, 0))) :
    W.cell? ⟨b, 0, none⟩ = some v0 ∧ W.cell? ⟨b, 1, none⟩ = some v1 ∧ W.cell? ⟨b, 5, none⟩ = some v5 := ⟨cell_of h 0, cell_of h 1, cell_of h 5⟩
theorem heap_drew (w : World) : w.drew.heap = w.heap := rfl
theorem below_on {w1 W w2 : World} (hb : Below W.heap.size W w2) (h : Below w1.heap.size w1 W) : Below w1.heap.size w1 w2 := h.trans (hb.mono h.size)
set_option maxHeartbeats 2000000 in
theorem ap_page (b : Nat) (G : Nat → Prop) (w : World) (q : Qa) (kind : Int) (i : Nat) (h : AQ b G w q) (hf : fewL q.L) (ho : ofB q.ep q.L q.addr = true) (hu : q.unit = (i : Int)) (hi : i < (chainR q.ep q.L q.addr).length) :
    Calls Tryz.prog 37 #[ptrP b, .int .i64 kind] w fun e w' =>
      e = .returned (.agg #[.int .i64 kind, .int .i64 ((chainR q.ep q.L q.addr).getD i 0), .int .i64 q.ep, .int .i64 (ofP q.ep q.L q.addr), .int .i64 0, .int .i64 0, .string ⟨#[]⟩, .int .i64 0, .slice none 0 0]) ∧ Below w.heap.size w w' := by
  obtain ⟨hg, ha⟩ := ofB_iff.1 ho
  obtain ⟨n1, n4⟩ := good_len hg
  obtain ⟨r1, _, _⟩ := of_range (n := q.L.length) ⟨by omega, by omega⟩ ha
  obtain ⟨k, hk⟩ := Int.eq_ofNat_of_zero_le r1.1
  have hkl : k < q.L.length := by omega
  have hp : ofP q.ep q.L q.addr = q.addr / (q.L.length : Int) := by unfold ofP; rw [if_pos ho]
  rw [chainR_yes ho hkl hk] at hi ⊢
  rw [hp, show q.L[k].getD i 0 = q.L[k][i] from by simp [hi]]
  obtain ⟨ao, cap, h1, hc, _⟩ := h.open
  have HB := Lib.hid (below_new w (.cells #[.int .i64 0, .int .i64 0, .int .i64 0, .int .i64 0, .int .i64 0, .int .i64 0, .string ⟨#[]⟩, .int .i64 0, .slice none 0 0] 35))
  have HZ := Lib.hid (heap_alloc_new w (.cells #[.int .i64 0, .int .i64 0, .int .i64 0, .int .i64 0, .int .i64 0, .int .i64 0, .string ⟨#[]⟩, .int .i64 0, .slice none 0 0] 35))
  have CO := Lib.hid (fun W (hC : CL W ao q.L) => pOf_any q.ep ao cap q.L q.addr W hC hf)
  rw [ofV_is ho, hk] at CO
  have H1 := Lib.hid (below_heap HB.out h1)
  have HC := Lib.hid (hc.below HB.out)
  rw [hu] at H1
  have k0 : (k : Int) < (q.L.length : Int) := by omega
  have i0 : (i : Int) < (q.L[k].length : Int) := by omega
  clear h h1 hc hg ha ho hf hp n1 n4 r1 hk
  generalize q.addr / (q.L.length : Int) = pg at *
  unfold ptrP
  go_enter Tryz.func37, Tryz.ntmps37
  go_wp2_with fail
  generalize w.alloc _ = w1 at *
  have HK := Lib.hid (fun W (hb : Below w1.heap.size w1 W) => And.intro (HC.out.below hb) (below_heap hb H1.out))
  have hs1 : w.heap.size < w1.heap.size := lt_of_block HZ.out
  obtain ⟨⟨c0, c1, c2, c3, c4, c5, c6, c7, c8⟩, _⟩ := nine_of H1.out
  go_region_held3 (fun W => W.cell? ⟨b, 0, none⟩ = some (.int .i64 q.ep) ∧ W.cell? ⟨b, 1, none⟩ = some (.slice ao q.L.length cap) ∧ W.cell? ⟨b, 5, none⟩ = some (.int .i64 q.addr))
    (first | exact ⟨c0, c1, c5⟩ | assumption | exact page_keep H2.out | exact page_keep (HK.out _ ((HB2.out.setCell (by simp) _).setCell (by simp) _)).2 | exact page_keep (HK.out _ (HB2.out.alloc HB2.out.size _)).2 | exact page_keep (HK.out _ (below_new w1 _).drew).2 | exact page_keep (HK.out _ (below_new w1 _)).2 | exact page_keep (HK.out _ (Below.refl _ w1).drew).2)
    (first | (go_at_call 60; refine (CO.out _ (HK.out _ (by first | exact (Below.refl _ _).drew | exact (below_new _ _).drew | exact below_new _ _)).1).mono ?_; rintro e w2 ⟨rfl, hb2⟩; have HB2 := Lib.hid (below_on (w1 := w1) hb2 (by first | exact (Below.refl _ _).drew | exact (below_new _ _).drew | exact below_new _ _)); have H2 := Lib.hid (HK.out _ HB2.out).2; first | (have HP := Lib.hid (show w2.heap[w1.heap.size]? = some (.cells #[.int .i64 0, .int .i64 0] 49 (0, 0)) from below_heap hb2 (heap_alloc_new w1 (.cells #[.int .i64 0, .int .i64 0] 49))); obtain ⟨p0, p1, g0, g1⟩ := two_cells HP.out; have hpl := lt_of_block HP.out) | skip))
  · have HB3 := Lib.hid (HB2.out.alloc HB2.out.size (.cells #[.int .i64 k, .int .i64 pg] 49))
    have HP3 := Lib.hid (heap_alloc_new w2 (.cells #[.int .i64 k, .int .i64 pg] 49))
    generalize w2.alloc _ = w3 at *
    obtain ⟨bk, off, ai, ci, hao, hrow, hnum⟩ := (HK.out _ HB3.out).1 k hkl
    obtain ⟨bn, on, hai, hnc⟩ := hnum.at i hi
    subst hao hai
    obtain ⟨⟨d0, d1, d2, d3, d4, d5, d6, d7, d8⟩, _⟩ := nine_of (HK.out _ HB3.out).2
    obtain ⟨e0, e1, _⟩ := two_cells HP3.out
    have HZ3 := Lib.hid (show w3.drew.heap[w.heap.size]? = _ from below_heap HB3.out HZ.out)
    obtain ⟨_, z0, z1, z2, z3, z4, z5, z6, z7, z8⟩ := nine_of (show w3.heap[w.heap.size]? = _ from HZ3.out)
    have hb3 := lt_of_block (HK.out _ HB3.out).2
    have hz3 : w.heap.size < w3.heap.size := lt_of_block HZ3.out
    clear c0 c1 c2 c3 c4 c5 c6 c7 c8 hnum
    go_wp2_with fail
    go_still_tail 24, (by kernel_rfl)
    change wpList _ _ _ _ _ w3.drew
    go_wp2_with fail
    have HN := nine_put (show w3.heap[w.heap.size]? = _ from HZ3.out) (.int .i64 kind) (.int .i64 q.L[k][i]) (.int .i64 q.ep) (.int .i64 pg) (.int .i64 0) (.int .i64 0) (.string ⟨#[]⟩) (.int .i64 0) (.slice none 0 0)
    rw [← heap_drew] at HN
    have HF := Lib.hid (((((((((((HB.out.trans (HB3.out.mono HB.out.size)).setCell (p := ⟨w.heap.size, 0, none⟩) (Nat.le_refl _) (.int .i64 kind)).setCell (p := ⟨w.heap.size, 1, none⟩) (Nat.le_refl _) (.int .i64 q.L[k][i])).setCell (p := ⟨w.heap.size, 2, none⟩) (Nat.le_refl _) (.int .i64 q.ep)).setCell (p := ⟨w.heap.size, 3, none⟩) (Nat.le_refl _) (.int .i64 pg)).setCell (p := ⟨w.heap.size, 4, none⟩) (Nat.le_refl _) (.int .i64 0)).setCell (p := ⟨w.heap.size, 5, none⟩) (Nat.le_refl _) (.int .i64 0)).setCell (p := ⟨w.heap.size, 6, none⟩) (Nat.le_refl _) (.string ⟨#[]⟩)).setCell (p := ⟨w.heap.size, 7, none⟩) (Nat.le_refl _) (.int .i64 0)).setCell (p := ⟨w.heap.size, 8, none⟩) (Nat.le_refl _) (.slice none 0 0)).drew)
    revert HN HF
    generalize World.drew _ = wf
    intro HN HF
    exact ask_ret (x := ⟨kind, q.L[k][i], q.ep, pg, 0, 0, ⟨#[]⟩, 0, [], none, 0⟩) rfl HN rfl rfl ⟨rfl, HF.out⟩
  · have HB3 := Lib.hid ((HB2.out.setCell (p := ⟨w1.heap.size, 0, none⟩) (Nat.le_refl _) (.int .i64 k)).setCell (p := ⟨w1.heap.size, 1, none⟩) (Nat.le_refl _) (.int .i64 pg))
    have HP3 := Lib.hid (two_set1 (two_set0 HP.out (.int .i64 k)) (.int .i64 pg))
    clear p0 p1 g0 g1
    generalize (w2.setCell _ _).setCell _ _ = w3 at *
    obtain ⟨bk, off, ai, ci, hao, hrow, hnum⟩ := (HK.out _ HB3.out).1 k hkl
    obtain ⟨bn, on, hai, hnc⟩ := hnum.at i hi
    subst hao hai
    obtain ⟨⟨d0, d1, d2, d3, d4, d5, d6, d7, d8⟩, _⟩ := nine_of (HK.out _ HB3.out).2
    obtain ⟨e0, e1, _⟩ := two_cells HP3.out
    have HZ3 := Lib.hid (show w3.drew.heap[w.heap.size]? = _ from below_heap HB3.out HZ.out)
    obtain ⟨_, z0, z1, z2, z3, z4, z5, z6, z7, z8⟩ := nine_of (show w3.heap[w.heap.size]? = _ from HZ3.out)
    have hb3 := lt_of_block (HK.out _ HB3.out).2
    have hz3 : w.heap.size < w3.heap.size := lt_of_block HZ3.out
    clear c0 c1 c2 c3 c4 c5 c6 c7 c8 hnum
    go_wp2_with fail
    go_still_tail 24, (by kernel_rfl)
    change wpList _ _ _ _ _ w3.drew
    go_wp2_with fail
    have HN := nine_put (show w3.heap[w.heap.size]? = _ from HZ3.out) (.int .i64 kind) (.int .i64 q.L[k][i]) (.int .i64 q.ep) (.int .i64 pg) (.int .i64 0) (.int .i64 0) (.string ⟨#[]⟩) (.int .i64 0) (.slice none 0 0)
    rw [← heap_drew] at HN
    have HF := Lib.hid (((((((((((HB.out.trans (HB3.out.mono HB.out.size)).setCell (p := ⟨w.heap.size, 0, none⟩) (Nat.le_refl _) (.int .i64 kind)).setCell (p := ⟨w.heap.size, 1, none⟩) (Nat.le_refl _) (.int .i64 q.L[k][i])).setCell (p := ⟨w.heap.size, 2, none⟩) (Nat.le_refl _) (.int .i64 q.ep)).setCell (p := ⟨w.heap.size, 3, none⟩) (Nat.le_refl _) (.int .i64 pg)).setCell (p := ⟨w.heap.size, 4, none⟩) (Nat.le_refl _) (.int .i64 0)).setCell (p := ⟨w.heap.size, 5, none⟩) (Nat.le_refl _) (.int .i64 0)).setCell (p := ⟨w.heap.size, 6, none⟩) (Nat.le_refl _) (.string ⟨#[]⟩)).setCell (p := ⟨w.heap.size, 7, none⟩) (Nat.le_refl _) (.int .i64 0)).setCell (p := ⟨w.heap.size, 8, none⟩) (Nat.le_refl _) (.slice none 0 0)).drew)
    revert HN HF
    generalize World.drew _ = wf
    intro HN HF
    exact ask_ret (x := ⟨kind, q.L[k][i], q.ep, pg, 0, 0, ⟨#[]⟩, 0, [], none, 0⟩) rfl HN rfl rfl ⟨rfl, HF.out⟩
end Go.Proofs.YtimjlfkdbkafeaaGreat
namespace Go.Proofs.YtimjlfkdbkafeaaGreat
set_option linter.unusedVariables false
open Go.RowKit
set_option maxRecDepth 20000
theorem two_any (w : World) : Calls Tryz.prog 23 #[] w fun e w' => ∃ ao : Option Addr, e = .returned (.agg #[.int .i64 0, .slice ao 1 1]) ∧ CL w' ao [[0, 1]] ∧ (ao = none → (1 : Nat) = 0) ∧ Below w.heap.size w w' := by
  have hs : (w.alloc (.cells #[.int .i64 0, .slice (some ⟨w.heap.size + 1 + 1, 0, none⟩) 1 1] 27)).heap.size = w.heap.size + 1 := by simp
  have h1 := (lit1_chain (w.alloc (.cells #[.int .i64 0, .slice (some ⟨w.heap.size + 1 + 1, 0, none⟩) 1 1] 27)) (l := [0, 1]) (num_small (by simp))).here.1
  have hb := lit1_below (w.alloc (.cells #[.int .i64 0, .slice (some ⟨w.heap.size + 1 + 1, 0, none⟩) 1 1] 27)) [0, 1]
  unfold lit1W at h1 hb
  rw [hs] at h1 hb
  have HC := Lib.hid (show CL (((w.alloc (.cells #[.int .i64 0, .slice (some ⟨w.heap.size + 1 + 1, 0, none⟩) 1 1] 27)).alloc (.cells #[.int .i64 0, .int .i64 1] 3)).alloc (.cells #[.slice (some ⟨w.heap.size + 1, 0, none⟩) 2 2] 24)) (some ⟨w.heap.size + 1 + 1, 0, none⟩) [[0, 1]] from h1)
  have HB := Lib.hid (show Below w.heap.size w (((w.alloc (.cells #[.int .i64 0, .slice (some ⟨w.heap.size + 1 + 1, 0, none⟩) 1 1] 27)).alloc (.cells #[.int .i64 0, .int .i64 1] 3)).alloc (.cells #[.slice (some ⟨w.heap.size + 1, 0, none⟩) 2 2] 24)) from (below_new w (.cells #[.int .i64 0, .slice (some ⟨w.heap.size + 1 + 1, 0, none⟩) 1 1] 27)).trans (hb.mono (Nat.le_succ _)))
  have HP := Lib.hid (below_heap (show Below (w.alloc (.cells #[.int .i64 0, .slice (some ⟨w.heap.size + 1 + 1, 0, none⟩) 1 1] 27)).heap.size (w.alloc (.cells #[.int .i64 0, .slice (some ⟨w.heap.size + 1 + 1, 0, none⟩) 1 1] 27)) (((w.alloc (.cells #[.int .i64 0, .slice (some ⟨w.heap.size + 1 + 1, 0, none⟩) 1 1] 27)).alloc (.cells #[.int .i64 0, .int .i64 1] 3)).alloc (.cells #[.slice (some ⟨w.heap.size + 1, 0, none⟩) 2 2] 24)) from by rw [hs]; exact hb) (heap_alloc_new w (.cells #[.int .i64 0, .slice (some ⟨w.heap.size + 1 + 1, 0, none⟩) 1 1] 27)))
  clear hs h1 hb
  go_enter Tryz.func23, Tryz.ntmps23
  go_wp2_with fail
  exact proj_ret rfl HP.out rfl rfl ⟨_, rfl, HC.out, fun e => (by cases e), HB.out⟩
section
variable {UG : Nat → Nat → (Nat → Prop) → World → Us → Prop} {OG : Nat → (Nat → Prop) → World → Od → Prop} {LG : Nat → (Nat → Prop) → World → Ly → Prop} {NG : Nat → (Nat → Prop) → World → Nd → Prop} {HG : Nat → Nat → (Nat → Prop) → World → Hd → Prop} {AG : Nat → (Nat → Prop) → World → Ap → Prop}
/-- a hand over two new units, one behind the other in a chain -/
theorem made_two (HS : HandSays UG OG LG NG HG) (ao : Option Addr) (room : Int) (w : World) (hC : CL w ao [[0, 1]]) (hr : 1 ≤ room ∧ room ≤ 4096) :
    Calls Tryz.prog 8 #[.agg #[.int .i64 0, .slice ao 1 1], .int .i64 room] w fun e w' => ∃ b nb : Nat, ∃ p : Value, e = .returned (.tuple #[.pointer (some ⟨b, 0, none⟩), p, .bool true]) ∧ Solo (HG b nb) (fun k => k < w.heap.size) w' ⟨newN 0 twL room, []⟩ ∧ Below w.heap.size w w' := by
  refine (made14_yes HS 0 ao 1 [[0, 1]] room w hC (few_two 0 1) (by decide +kernel) hr (i64w_small (x := 0) (by omega))).mono ?_
  rintro e w' ⟨b, nb, r, rn, he, hs, hb⟩
  exact ⟨b, nb, _, he, hs.left, hb⟩
set_option maxHeartbeats 8000000 in
theorem wakes15_any (HS : HandSays UG OG LG NG HG) (AS : AppSays AG) (RD : ReadSays UG) (w : World) : Calls Tryz.prog 7 #[] w fun e w' => e = .returned (.bool true) ∧ Below w.heap.size w w' := by
  have ZZ := Lib.hid (fun (x : Int) (h : 0 ≤ x ∧ x ≤ 110) => show i64w x from WalkArith.wf_i64 (by omega))
  have TT := Lib.hid (fun b nb => HS.thing b nb)
  have TA := Lib.hid (fun b => AS.thing b)
  have CT := Lib.hid two_any
  have CM := Lib.hid (fun ao w hC => made_two HS ao 9 w hC (by decide))
  have CN := Lib.hid (fun (b nb : Nat) (w' : World) (hs : Solo (HG b nb) (fun k => k < w.heap.size) w' ⟨newN 0 twL 9, []⟩) (ao : Option Addr) (hC : CL w' ao [[0, 1]]) (hn : ao = none → (1 : Nat) = 0) => sa_new AS (HS.thing b nb) hs (ep := 0) (cap := 1) (L := [[0, 1]]) (rec_ := wkS) hC (few_two 0 1) hn (Nat.le_refl _) (i64w_small (x := 0) (by omega)) (by decide))
  go_enter Tryz.func7, Tryz.ntmps7
  go_wp2_with (first
    | (go_at_call 9; refine (CN.out _ _ _ S3.out _ C3.out N3.out).mono ?_; rintro e w4 ⟨ba, rfl, hs4, hb4⟩; have S4 := Lib.hid hs4; have B4 := Lib.hid (B3.out.trans (hb4.mono B3.out.size)); clear hs4 hb4)
    | (go_at_call 8; refine (CM.out _ _ C1.out).mono ?_; rintro e w2 ⟨b, nb, p, rfl, hs2, hb2⟩; have S2 := Lib.hid (hs2.less (fun k hk => Nat.lt_of_lt_of_le hk B1.out.size)); have B2 := Lib.hid (B1.out.trans (hb2.mono B1.out.size)); clear hs2 hb2)
    | (go_at_call 23; refine (CT.out w2).mono ?_; rintro e w3 ⟨ao3, rfl, hC3, hn3, hb3⟩; have S3 := Lib.hid (S2.out.below (TT.out b nb) hb3); have B3 := Lib.hid (B2.out.trans (hb3.mono B2.out.size)); have C3 := Lib.hid hC3; have N3 := Lib.hid hn3; clear hC3 hn3 hb3)
    | (go_at_call 23; refine (CT.out w).mono ?_; rintro e w1 ⟨ao1, rfl, hC1, hn1, hb1⟩; have B1 := Lib.hid hb1; have C1 := Lib.hid hC1; clear hC1 hn1 hb1))
  go_loopw [5] (fun i wr => ∃ k : Nat, i = .int .i64 k ∧ k ≤ 3 ∧ Hid (Side (HG b nb) (AG ba) (fun j => j < w.heap.size) wr (wkH k).1 (wkH k).2) ∧ Hid (Below w.heap.size w wr)) (fun i _ => 3 - (intOf i).toNat)
  case atStart => exact ⟨0, rfl, by omega, S4, B4⟩
  case round =>
    obtain ⟨k, rfl, hk, HT, HB⟩ := hrel
    by_cases hlt : k < 3
    · obtain ⟨h6, hq⟩ := wk_small k hlt
      have HU := Lib.hid (wk_used k hk)
      have HAS := Lib.hid (asks_yes h6)
      have k3 : (k : Int) < 3 := by omega
      clear h6
      go_wp2_with (first
        | (go_at_call 11; refine (sa_hear AS (TT.out b nb) T2.out).mono ?_; rintro e v3 ⟨rfl, hs3, hk3⟩; have T3 := Lib.hid hs3; have V3 := Lib.hid (V2.out.trans (hk3.toBelow V2.out.size (fun j h => h))); clear hs3 hk3)
        | (go_at_call 12; refine (sa_hask HS (TA.out ba) T1.out (fate := 0) SQ.out.kind (ZZ.out _ (by have := SQ.out.unit; simp only [akN] at this; omega)) (ZZ.out _ (by have := SQ.out.epoch; simp only [akN] at this; omega)) (ZZ.out _ (by have := SQ.out.page; simp only [akN] at this; omega)) (Nat.le_trans SQ.out.data (by decide)) HU.out (ZZ.out 0 (by omega))).mono ?_; rintro e v2 ⟨xc, xn, xm, xz, xe, xd, vo, vc, c, hc, rfl, hx2, hs2, hk2⟩; obtain rfl : c = true := hc; have T2 := Lib.hid hs2; have HX2 := Lib.hid hx2; have V2 := Lib.hid (V1.out.trans (hk2.toBelow V1.out.size (fun j h => h))); clear hs2 hk2 hx2)
        | (go_at_call 10; refine (sa_ask AS (TT.out b nb) HT.out).mono ?_; rw [HAS.out]; rintro e v1 ⟨kd, un, qe, pg, qs, hq1, rfl, hs1, hk1⟩; have HQ1 := Lib.hid hq1; have SQ := Lib.hid (show SmallQ (akN kd un qe pg qs) from hq1 ▸ hq); have T1 := Lib.hid (hs1.below (TT.out b nb) (TA.out ba) (below_new v1 (.cells #[.int .i64 kd, .int .i64 un, .int .i64 qe, .int .i64 pg, .int .i64 0, .int .i64 0, .string qs, .int .i64 0, .slice none 0 0] 35))); have V0 := Lib.hid (HB.out.trans (hk1.toBelow HB.out.size (fun j h => h))); have V1 := Lib.hid (V0.out.trans ((below_new v1 (.cells #[.int .i64 kd, .int .i64 un, .int .i64 qe, .int .i64 pg, .int .i64 0, .int .i64 0, .string qs, .int .i64 0, .slice none 0 0] 35)).mono V0.out.size)); clear hq1 hs1 hk1))
      refine ⟨⟨k + 1, by go_num, by omega, Lib.hid ?_, V3⟩, by simp [intOf]; omega⟩
      show Side _ _ _ _ ((wkH k).1.asked (wkH k).2.ask 0) ((wkH k).2.hear ((wkH k).1.heard (wkH k).2.ask 0) true)
      have e : (wkH k).1.heard (akN kd un qe pg qs) 0 = ⟨xc, xn, xd, 0, [], xm, xz, xe⟩ := HX2.out
      rw [HQ1.out, e]
      exact T3.out
    · obtain rfl : k = 3 := by omega
      obtain ⟨e1, e2, e3, e4, e5⟩ := wk_ends
      have E1 := Lib.hid e1
      have E2 := Lib.hid e2
      have E3 := Lib.hid e3
      have E4 := Lib.hid e4
      have E5 := Lib.hid (show ((wkH 3).1.n.u 1).p.readS 0 = ⟨#[114, 101, 99]⟩ from e5)
      clear e1 e2 e3 e4 e5
      go_wp2_with (first
        | (go_at_call 20; refine (RD bu pb F6 w7 _ 0 P7.out (ZZ.out 0 (by omega))).mono ?_; rw [E4.out, E5.out]; rintro e w8 ⟨rfl, hb8⟩; have B8 := Lib.hid (B7.out.trans (hb8.mono B7.out.size)); clear hb8)
        | (go_at_call 19; refine (sa_pages HS P6.out).mono ?_; rintro e w7 ⟨rfl, hf7, hb7⟩; have P7 := Lib.hid hf7; have B7 := Lib.hid (B6.out.trans (hb7.mono B6.out.size)); clear hf7 hb7)
        | (go_at_call 18; refine (sa_unit HS S5.out (i := 1) (by decide)).mono ?_; rintro e w6 ⟨bu, pb, rfl, hb6, F6, hf6⟩; have P6 := Lib.hid hf6; have B6 := Lib.hid (B5.out.trans (hb6.mono B5.out.size)); clear hf6 hb6)
        | (go_at_call 17; refine (sa_nodes HS T4.out.left).mono ?_; rintro e w5 ⟨rfl, hs5, hb5⟩; have S5 := Lib.hid hs5; have B5 := Lib.hid (V4.out.trans (hb5.mono V4.out.size)); clear hs5 hb5)
        | (go_at_call 14; refine (sa_over AS (TT.out b nb) HT.out).mono ?_; rw [E1.out, E2.out, E3.out]; rintro e w4 ⟨rfl, hs4, hb4⟩; have T4 := Lib.hid hs4; have V4 := Lib.hid (HB.out.trans (hb4.mono HB.out.size)); clear hs4 hb4))
      go_ret
      exact ⟨rfl, B8.out⟩
end
end Go.Proofs.YtimjlfkdbkafeaaGreat
namespace Go.Proofs.YtimjlfkdbkafeaaGreat
set_option linter.unusedVariables false
open Go.RowKit
set_option maxRecDepth 20000
theorem ap_nil_P (w : World) : Calls Tryz.prog 26 #[.pointer none] w fun e w' => ∃ (ep : Int) (ao : Option Addr) (cap : Nat), e = .returned (.agg #[.int .i64 ep, .slice ao 0 cap]) ∧ Below w.heap.size w w' := by
  have HR := heap_alloc_new w (.cells #[.int .i64 0, .slice none 0 0] 27)
  go_enter Tryz.func26, Tryz.ntmps26
  go_wp2_with fail
  exact proj_ret rfl HR rfl rfl ⟨0, none, 0, rfl, below_new _ _⟩
theorem ap_nil_ask (w : World) : Calls Tryz.prog 10 #[.pointer none] w fun e w' => e = .returned (.tuple #[askV zeroK, .bool false]) ∧ Below w.heap.size w w' := by
  have C := Lib.hid (fun w => ap_isOver_nil w)
  have HR := heap_alloc_new w (.cells #[.int .i64 0, .int .i64 0, .int .i64 0, .int .i64 0, .int .i64 0, .int .i64 0, .string ⟨#[]⟩, .int .i64 0, .slice none 0 0] 35)
  have HB := Lib.hid (below_new w (.cells #[.int .i64 0, .int .i64 0, .int .i64 0, .int .i64 0, .int .i64 0, .int .i64 0, .string ⟨#[]⟩, .int .i64 0, .slice none 0 0] 35))
  go_enter Tryz.func10, Tryz.ntmps10
  go_wp2_with (go_at_call 36; refine (C.out _).mono ?_; rintro e w1 ⟨rfl, rfl⟩)
  exact ask_ret2 (x := zeroK) rfl HR rfl rfl rfl ⟨rfl, HB.out⟩
theorem ap_nil_hear (x : An) (ao : Option Addr) (cap : Nat) (c : Bool) (w : World) : Calls Tryz.prog 11 #[.pointer none, ansV x ao cap, .bool c] w fun e w' => e = .returned (.tuple #[]) ∧ Below w.heap.size w w' := by
  have C := Lib.hid (fun w => ap_isOver_nil w)
  obtain ⟨xc, xn, xd, xe, xL, xm, xs, xp⟩ := x
  show Calls _ _ #[.pointer none, .agg #[.int .i64 xc, .int .i64 xn, .string xd, .int .i64 xe, .slice ao xL.length cap, .int .i64 xm, .int .i64 xs, .int .i64 xp], .bool c] w _
  have HB := Lib.hid (below_new w (.cells #[.int .i64 xc, .int .i64 xn, .string xd, .int .i64 xe, .slice ao xL.length cap, .int .i64 xm, .int .i64 xs, .int .i64 xp] 40))
  go_enter Tryz.func11, Tryz.ntmps11
  go_wp2_with (go_at_call 36; refine (C.out _).mono ?_; rintro e w1 ⟨rfl, rfl⟩)
  exact bodyPost_ret (results_none rfl _ _ _) rfl ⟨rfl, HB.out⟩
end Go.Proofs.YtimjlfkdbkafeaaGreat
