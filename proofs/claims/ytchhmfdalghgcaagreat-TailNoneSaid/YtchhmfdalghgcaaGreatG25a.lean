/- What the program's New of all nodes returns. Conditions: the projection's chains lie where the call was told, and are few; units, sequencer and layout are as the statements of their own stages say. -/
import Derived.Test.YtchhmfdalghgcaaGreatG24a
import Derived.StillTailTactics
set_option linter.unusedVariables false
namespace Go.Proofs.YtchhmfdalghgcaaGreat
set_option linter.unusedVariables false
open Go.RowKit
set_option maxRecDepth 20000
section
variable {UG : Nat → Nat → (Nat → Prop) → World → Us → Prop} {OG : Nat → (Nat → Prop) → World → Od → Prop} {LG : Nat → (Nat → Prop) → World → Ly → Prop}
set_option maxHeartbeats 800000 in
theorem rp_new_bad (HT : Three UG OG LG) (ep : Int) (ao : Option Addr) (cap : Nat) (L : List (List Int)) (room : Int) (w : World) (h : CL w ao L) (hl : fewL L) (hg : goodB ep L = false) :
    Calls Tryz.prog 25 #[.agg #[.int .i64 ep, .slice ao L.length cap], .int .i64 room] w fun e w' => e = .returned (.tuple #[.pointer none, .int .i64 11]) ∧ Below w.heap.size w w' := by
  have CN := Lib.hid (HT.l.new_no ep ao cap L _ (h.below (below_new w (.cells #[.int .i64 ep, .slice ao L.length cap] 29))) hl hg)
  have B0 := Lib.hid (below_new w (.cells #[.int .i64 ep, .slice ao L.length cap] 29))
  clear h hl hg
  go_enter Tryz.func25, Tryz.ntmps25
  go_wp2_with (go_at_call 37; refine CN.out.mono ?_; rintro e w1 ⟨rfl, hb1⟩; have B1 := Lib.hid (B0.out.trans (hb1.mono B0.out.size)); clear hb1)
  go_ret2
  exact ⟨rfl, B1.out⟩
theorem MkP.all {w0 W : World} {r : Nat} {N : Nd} (HT : Three UG OG LG) (h : MkP UG OG LG w0 r N 16 W) {W2 : World} (h2 : Below W.heap.size W W2) : ∃ (A : Array Value) (ro rl : Nat) (B : Nat → Nat × Nat) (G : Nat → Prop), TabP A 16 B ro rl ∧ W.heap[r]? = some (.cells A 79 (0, 0)) ∧ BundG 19 (nodeP UG OG LG r A ro rl B N) G W2 ∧ (∀ k, G k → w0.heap.size ≤ k) := by
  obtain ⟨A, ro, rl, B, G, hT, hB, hG, hb0⟩ := h
  obtain ⟨F, h3, h4⟩ := hB.look (i := 2) (by omega)
  exact ⟨A, ro, rl, B, G, hT, h3.1, hB.keep (fun i _ => nodeP_part HT r A ro rl B N i) (Kept.ofBelow h2 (fun _ => True)) (fun _ _ => trivial), hG⟩
theorem mkp_small {w0 W : World} {r : Nat} {N : Nd} {i : Nat} (h : MkP UG OG LG w0 r N i W) : (∃ A : Array Value, A.size = 18 ∧ W.heap[r]? = some (.cells A 79 (0, 0))) ∧ Below w0.heap.size w0 W ∧ w0.heap.size ≤ r := by
  obtain ⟨A, ro, rl, B, G, hT, hB, hG, hb0⟩ := h
  obtain ⟨F, h3, h4⟩ := hB.look (i := 2) (by omega)
  exact ⟨⟨A, hT.size, h3.1⟩, hb0, hG r (h4 r ((h3.2 r).2 rfl))⟩
set_option maxHeartbeats 1600000 in
theorem rp_new_room (HT : Three UG OG LG) (ep : Int) (ao : Option Addr) (cap : Nat) (L : List (List Int)) (room : Int) (w : World) (h : CL w ao L) (hl : fewL L) (hg : goodB ep L = true) (hr : room < 1 ∨ 4096 < room) (hi : i64w room) :
    Calls Tryz.prog 25 #[.agg #[.int .i64 ep, .slice ao L.length cap], .int .i64 room] w fun e w' => e = .returned (.tuple #[.pointer none, .int .i64 1]) ∧ Below w.heap.size w w' := by
  have CN := Lib.hid (HT.l.new_yes ep ao cap L _ (h.below (below_new w (.cells #[.int .i64 ep, .slice ao L.length cap] 29))) hl hg)
  have B0 := Lib.hid (below_new w (.cells #[.int .i64 ep, .slice ao L.length cap] 29))
  have CO := Lib.hid HT.o.new
  have CU := Lib.hid (fun w => HT.u.new_no room w hr hi)
  unfold ptrL at CN
  unfold ptrO at CO
  clear h hl hg hr hi
  go_enter Tryz.func25, Tryz.ntmps25
  go_wp2_with (first
    | (go_at_call 37; refine CN.out.mono ?_; rintro e w1 ⟨rl, G1, rfl, hl1, hg1, hb1⟩; have L1 := Lib.hid hl1; have K1 := Lib.hid hg1; have B1 := Lib.hid hb1; clear hb1 hl1 hg1)
    | (go_at_call 38; refine (CO.out _).mono ?_; rintro e w2 ⟨ro, G2, rfl, hl2, hg2, hb2⟩; have L2 := Lib.hid hl2; have K2 := Lib.hid hg2; have B2 := Lib.hid hb2; clear hb2 hl2 hg2))
  have M0 := Lib.hid (mkp_start HT (w0 := w.alloc (.cells #[.int .i64 ep, .slice ao L.length cap] 29)) (N := ⟨fun _ => newU room, newO, newL ep L⟩) (A := #[.pointer none, .pointer none, .pointer none, .pointer none, .pointer none, .pointer none, .pointer none, .pointer none, .pointer none, .pointer none, .pointer none, .pointer none, .pointer none, .pointer none, .pointer none, .pointer none, .pointer (some ⟨ro, 0, none⟩), .pointer (some ⟨rl, 0, none⟩)]) (B := fun _ => (0, 0)) (ro := ro) (rl := rl) L1.out K1.out B1.out L2.out K2.out B2.out ⟨rfl, fun i hi => absurd hi (Nat.not_lt_zero i), rfl, rfl⟩)
  clear CN CO L1 K1 B1 L2 K2 B2
  go_loopw [7, 22] (fun v7 j wr => v7 = .int .i64 0 ∧ j = .int .i64 0 ∧ Hid (MkP UG OG LG (w.alloc (.cells #[.int .i64 ep, .slice ao L.length cap] 29)) w2.heap.size ⟨fun _ => newU room, newO, newL ep L⟩ 0 wr)) (fun _ _ _ => 0)
  case atStart => exact ⟨rfl, rfl, M0⟩
  case round =>
    clear M0
    obtain ⟨rfl, rfl, HM⟩ := hrel
    obtain ⟨⟨A, hA, hh⟩, hb0, hz0⟩ := mkp_small HM.out
    have HB := Lib.hid (show Below w.heap.size w wr.drew from (B0.out.trans (hb0.mono B0.out.size)).drew)
    have HD := Lib.hid (show wr.drew.heap[w2.heap.size]? = some (.cells A 79 (0, 0)) from hh)
    have HZ := Lib.hid (Nat.le_trans B0.out.size hz0)
    have lr0 := lt_of_block hh
    clear hb0 hz0 hh HM
    go_wp2_with fail
    go_region_with (go_at_call 39; (refine (CU.out _).mono ?_; rintro e w4 ⟨rfl, hb4⟩; have HB4 := Lib.hid (HB.out.trans (hb4.mono HB.out.size)); have hh4 := below_heap hb4 HD.out; have lr := lt_of_block hh4; have ch : w4.cell? ⟨w2.heap.size, 0, none⟩ = some A[0] := (cell_of hh4 0).trans (by simp [hA]); have fh := free_of hh4 0; clear hb4 hh4))
    all_goals
      go_wp2_with fail
      go_ret2
      exact ⟨rfl, HB4.out.setCell HZ.out _⟩
theorem start_ok {ep : Int} (he : i64w ep) (w : World) : AkIn w (startA ep) := ⟨⟨i64w_small (x := 8) (by omega), i64w_small (x := 0) (by omega), he, i64w_small (x := 0) (by omega), i64w_small (x := 0) (by omega), i64w_small (x := 0) (by omega), Nat.zero_le _, i64w_small (x := 0) (by omega), Nat.zero_le _, (fun c hc => by cases hc), fun _ => rfl, Nat.le_refl _⟩, CL.nil _ _⟩
set_option maxHeartbeats 1600000 in
theorem rp_new_yes (HT : Three UG OG LG) (ep : Int) (ao : Option Addr) (cap : Nat) (L : List (List Int)) (room : Int) (w : World) (h : CL w ao L) (hl : fewL L) (hg : goodB ep L = true) (hr : 1 ≤ room ∧ room ≤ 4096) (he : i64w ep) :
    Calls Tryz.prog 25 #[.agg #[.int .i64 ep, .slice ao L.length cap], .int .i64 room] w fun e w' => ∃ (r : Nat) (G : Nat → Prop), e = .returned (.tuple #[.pointer (some ⟨r, 0, none⟩), .int .i64 0]) ∧ RM UG OG LG r G w' (newN ep L room) ∧ (∀ k, G k → w.heap.size ≤ k) ∧ Below w.heap.size w w' := by
  have CN := Lib.hid (HT.l.new_yes ep ao cap L _ (h.below (below_new w (.cells #[.int .i64 ep, .slice ao L.length cap] 29))) hl hg)
  have B0 := Lib.hid (below_new w (.cells #[.int .i64 ep, .slice ao L.length cap] 29))
  have P0 := Lib.hid (heap_alloc_new w (.cells #[.int .i64 ep, .slice ao L.length cap] 29))
  have CO := Lib.hid HT.o.new
  have CU := Lib.hid (fun w => HT.u.new_yes room w hr)
  have HE := Lib.hid he
  unfold ptrL at CN
  unfold ptrO at CO
  unfold ptrV at CU
  clear h hl hg hr he
  go_enter Tryz.func25, Tryz.ntmps25
  go_wp2_with (first
    | (go_at_call 37; refine CN.out.mono ?_; rintro e w1 ⟨rl, G1, rfl, hl1, hg1, hb1⟩; have L1 := Lib.hid hl1; have K1 := Lib.hid hg1; have B1 := Lib.hid hb1; clear hb1 hl1 hg1)
    | (go_at_call 38; refine (CO.out _).mono ?_; rintro e w2 ⟨ro, G2, rfl, hl2, hg2, hb2⟩; have L2 := Lib.hid hl2; have K2 := Lib.hid hg2; have B2 := Lib.hid hb2; clear hb2 hl2 hg2))
  have M0 := Lib.hid (mkp_start HT (w0 := w.alloc (.cells #[.int .i64 ep, .slice ao L.length cap] 29)) (N := ⟨fun _ => newU room, newO, newL ep L⟩) (A := #[.pointer none, .pointer none, .pointer none, .pointer none, .pointer none, .pointer none, .pointer none, .pointer none, .pointer none, .pointer none, .pointer none, .pointer none, .pointer none, .pointer none, .pointer none, .pointer none, .pointer (some ⟨ro, 0, none⟩), .pointer (some ⟨rl, 0, none⟩)]) (B := fun _ => (0, 0)) (ro := ro) (rl := rl) L1.out K1.out B1.out L2.out K2.out B2.out ⟨rfl, fun i hi => absurd hi (Nat.not_lt_zero i), rfl, rfl⟩)
  clear CN CO L1 K1 B1 L2 K2 B2
  go_loopw [7, 22] (fun v7 j wr => v7 = .int .i64 0 ∧ ∃ i : Nat, j = .int .i64 i ∧ i ≤ 16 ∧ Hid (MkP UG OG LG (w.alloc (.cells #[.int .i64 ep, .slice ao L.length cap] 29)) w2.heap.size ⟨fun _ => newU room, newO, newL ep L⟩ i wr)) (fun _ j _ => 16 - (intOf j).toNat)
  case atStart => exact ⟨rfl, 0, rfl, by omega, M0⟩
  case round =>
    clear M0
    obtain ⟨rfl, i, rfl, hi, HM⟩ := hrel
    by_cases hlt : i < 16
    · have i0 : (i : Int) < 16 := by omega
      have i1 : 0 ≤ (i : Int) := by omega
      obtain ⟨⟨A, hA, hh⟩, _, _⟩ := mkp_small HM.out
      have HD := Lib.hid (show wr.drew.heap[w2.heap.size]? = some (.cells A 79 (0, 0)) from hh)
      have lr0 := lt_of_block hh
      clear hh
      go_wp2_with fail
      go_region_with (go_at_call 39; refine (CU.out _).mono ?_; rintro e w4 ⟨r4, q4, G4, rfl, h4, g4, b4⟩; have M4 := Lib.hid (HM.out.step HT hlt ((Below.refl wr.heap.size wr).drew.trans b4) h4 g4); have hh4 := below_heap b4 HD.out; have lr := lt_of_block hh4; have ch : w4.cell? ⟨w2.heap.size, i, none⟩ = some A[i] := (cell_of hh4 i).trans (by simp [hA, show i < 18 by omega]); have fh := free_of hh4 i; clear h4 g4 b4 hh4)
      all_goals
        go_wp2_with fail
        go_roundw
        case rel => exact ⟨rfl, i + 1, by go_num, by omega, M4⟩
        case measure => simp [intOf]; omega
    · obtain rfl : i = 16 := by omega
      obtain ⟨_, hb0, _⟩ := mkp_small HM.out
      obtain ⟨A, ro2, rl2, B, G, hT, hh, hB, hG⟩ := HM.out.all HT (W2 := wr.drew) ((Below.refl _ _).drew)
      obtain ⟨F, hF, _, hbu⟩ := hB.use (fun i _ => nodeP_part HT w2.heap.size A ro2 rl2 B _ i) (i := 1) (by omega)
      have hF' : OG ro2 F wr.drew newO := hF
      have CD := Lib.hid ((HT.o.ask ro2 F _ newO (startA ep) hF' (start_ok HE.out _)).mono (fun e w' h => (⟨_, h.1, hbu (OG ro2) (RM UG OG LG w2.heap.size) w' _ (newN ep L room) (fun G' W h => rm_putO hT h) h.2⟩ : ∃ v, e = .returned v ∧ Leaves (RM UG OG LG w2.heap.size) G wr.drew w' (newN ep L room))))
      have co : wr.cell? ⟨w2.heap.size, 16, none⟩ = some (.pointer (some ⟨ro2, 0, none⟩)) := (cell_of hh 16).trans hT.o
      have hp := below_heap hb0 P0.out
      have cp : wr.cell? ⟨w.heap.size, 0, none⟩ = some (.int .i64 ep) := cell_of hp 0
      have l1 := lt_of_block hh
      have l2 := lt_of_block hp
      have HB := Lib.hid (B0.out.trans (hb0.mono B0.out.size))
      have HG := Lib.hid hG
      clear hT hB hG hh hF hF' hbu hp hb0
      go_wp2_with fail
      go_still_tail 7, (by kernel_rfl)
      change wpList _ _ _ _ _ wr.drew
      go_wp2_with fail
      refine CD.out.mono ?_
      rintro e w5 ⟨v, rfl, G5, r1, r2, r3⟩
      go_wp2_with fail
      go_ret2
      have z : w.heap.size ≤ (w.alloc (.cells #[.int .i64 ep, .slice ao L.length cap] 29)).heap.size := by simp
      have zr := HB.out.size
      refine ⟨w2.heap.size, G5, rfl, r1, fun k hk => ?_, HB.out.drew.trans (r2.toBelow zr (fun k hk hg => ?_))⟩
      · rcases r3 k hk with h | h
        · exact Nat.le_trans z (HG.out k h)
        · exact Nat.le_trans zr h
      · have := HG.out k hg
        omega
end
end Go.Proofs.YtchhmfdalghgcaaGreat
