/- The law AppendEnds: an append whose questions are heard from some time on is over within a few, and its record is on all units of its chain. Conditions: none. (Written by gen/genappends.py.) -/
import Derived.Test.YtimjlfkdbkafeaaGreatG31a
import Derived.Test.YtimjlfkdbkafeaaGreatG37a
import Derived.Test.YtimjlfkdbkafeaaGreatG28b
import Derived.Test.YtimjlfkdbkafeaaGreatG12b
import Derived.Test.YtimjlfkdbkafeaaGreatG13a
import Derived.Test.YtimjlfkdbkafeaaGreatG11a
import Derived.Deep.RegionHeld3
namespace Go.Proofs.YtimjlfkdbkafeaaGreat
open Go.ChangeShapes Go.WideShapes Go.ChangeAt Go.RowKit
open Go.ChangeMaps (open_string shut_string)
set_option linter.unusedVariables false
set_option maxRecDepth 20000
theorem ap_used : (newL 0 apL).used.length ≤ 100000 := by decide +kernel
theorem few_ap : fewL apL := ⟨by decide, by decide⟩
theorem ends_over {a : Ap} (h : a.at_ = 6) (he : a.e = 0) : a.overA = a.addr ∧ a.overE = 0 ∧ a.overB = true := ⟨if_pos ⟨h, he⟩, by unfold Ap.overE; rw [if_pos h, he], decide_eq_true h⟩
theorem duo_keep {W W' : World} {p q o o2 : Nat} {u v : Value} (h : W.cell? ⟨p, o, none⟩ = some u ∧ W.cell? ⟨q, o2, none⟩ = some v) (hb : Below W.heap.size W W') : W'.cell? ⟨p, o, none⟩ = some u ∧ W'.cell? ⟨q, o2, none⟩ = some v := ⟨cellB hb (block_lt_of_cell h.1) h.1, cellB hb (block_lt_of_cell h.2) h.2⟩
/-- the units of an address's chain, and what is read there -/
theorem ap_chain {n : Nd} {s : ByteArray} {x : Int} (hx : 0 ≤ x ∧ x < 200) (hr : ∀ j, j < lenA x → (n.u (unitA x j).toNat).p.readE (x / 2) = 0 ∧ (n.u (unitA x j).toNat).p.readS (x / 2) = s) :
    0 < (chainR 0 apL x).length ∧ (chainR 0 apL x).length ≤ 3 ∧ ∀ j (hj : j < (chainR 0 apL x).length), ∃ i : Nat, i < 16 ∧ (chainR 0 apL x)[j] = (i : Int) ∧ (n.u i).p.readE (x / 2) = 0 ∧ (n.u i).p.readS (x / 2) = s := by
  have hl := apL_len (x := x) (by omega)
  have h3 : 0 < lenA x ∧ lenA x ≤ 3 := by unfold lenA; split <;> omega
  refine ⟨by omega, by omega, fun j hj => ?_⟩
  obtain ⟨h1, h2, h4⟩ := apL_unit (x := x) (by omega) (j := j) (by omega)
  refine ⟨(unitA x j).toNat, by omega, ?_, hr j (by omega)⟩
  rw [List.getD_eq_getElem?_getD, List.getElem?_eq_getElem hj] at h1
  have h5 : (chainR 0 apL x)[j] = unitA x j := h1
  omega
set_option maxHeartbeats 16000000 in
theorem appendEnds_walk {UG : Nat → Nat → (Nat → Prop) → World → Us → Prop} {OG : Nat → (Nat → Prop) → World → Od → Prop} {LG : Nat → (Nat → Prop) → World → Ly → Prop} {NG : Nat → (Nat → Prop) → World → Nd → Prop} {HG : Nat → Nat → (Nat → Prop) → World → Hd → Prop} {AG : Nat → (Nat → Prop) → World → Ap → Prop} (HS : HandSays UG OG LG NG HG) (AS : AppSays AG) (RD : ReadSays UG) (s : ByteArray) (ao : Option Addr) (cap : Nat) (l : List Int) (bo : Option Addr) (cbp : Nat) (d : List Int) (ws : s.size ≤ maxLen) (hl : l.length ≤ maxLen) (hd : d.length ≤ maxLen) (w : World) (hR : Row w ao 1 byteC l) (hK : ∀ x ∈ l, byteOk w x) (hR2 : Row w bo 1 byteC d) (hK2 : ∀ x ∈ d, byteOk w x) :
    Calls Tryz.prog 3 #[.string s, .slice ao l.length cap, .slice bo d.length cbp] w fun e w' => e = .returned (.bool true) ∧ Below w.heap.size w w' := by
  have CW := Lib.hid (fun w => wakes15_any HS AS RD w)
  unfold maxLen at ws hl hd
  have ws' : (s.size : Int) ≤ 9223372036854775807 := by omega
  have hl' : (l.length : Int) ≤ 9223372036854775807 := by omega
  have hd' : (d.length : Int) ≤ 9223372036854775807 := by omega
  by_cases hs1000 : 1000 < s.size
  · have h1 : (1000 : Int) < (s.size : Int) := by omega
    clear hs1000 hR hK hR2 hK2
    go_enter Tryz.func3, Tryz.ntmps3
    go_wp2_with (go_at_call 7; refine (CW.out _).mono ?_; rintro e w1 ⟨rfl, hb1⟩)
    go_ret
    exact ⟨rfl, hb1⟩
  by_cases hl60 : 60 < l.length
  · have h1 : ¬ (1000 : Int) < (s.size : Int) := by omega
    have h2 : (60 : Int) < (l.length : Int) := by omega
    clear hs1000 hR hK hR2 hK2 hl60
    go_enter Tryz.func3, Tryz.ntmps3
    go_wp2_with (go_at_call 7; refine (CW.out _).mono ?_; rintro e w1 ⟨rfl, hb1⟩)
    go_ret
    exact ⟨rfl, hb1⟩
  have h1 : ¬ (1000 : Int) < (s.size : Int) := by omega
  have h2 : ¬ (60 : Int) < (l.length : Int) := by omega
  have HS4 := Lib.hid (show s.size ≤ 4096 from by omega)
  have hl6 : l.length ≤ 60 := by omega
  have ZZ := Lib.hid (fun (x : Int) (h : 0 ≤ x ∧ x ≤ 300) => show i64w x from WalkArith.wf_i64 (by omega))
  have TT := Lib.hid (fun b nb => HS.thing b nb)
  have TA := Lib.hid (fun b => AS.thing b)
  have HF := Lib.hid hR
  have HK := Lib.hid hK
  have HF2 := Lib.hid hR2
  have HK2 := Lib.hid hK2
  have hw1 : Below w.heap.size w ((((w.alloc (.cells #[.int .i64 0, .int .i64 1, .int .i64 2] 3)).alloc (.cells #[.int .i64 3] 3)).alloc (.cells #[.slice (some ⟨w.heap.size, 0, none⟩) 3 3, .slice (some ⟨w.heap.size + 1, 0, none⟩) 1 1] 24)).alloc (.cells #[.int .i64 0, .slice (some ⟨w.heap.size + 1 + 1, 0, none⟩) 2 2] 27)) := (lit2_below w [0, 1, 2] [3]).trans ((below_new (((w.alloc (.cells #[.int .i64 0, .int .i64 1, .int .i64 2] 3)).alloc (.cells #[.int .i64 3] 3)).alloc (.cells #[.slice (some ⟨w.heap.size, 0, none⟩) 3 3, .slice (some ⟨w.heap.size + 1, 0, none⟩) 1 1] 24)) (.cells #[.int .i64 0, .slice (some ⟨w.heap.size + 1 + 1, 0, none⟩) 2 2] 27)).mono (lit2_below w [0, 1, 2] [3]).size)
  have hc1 : CL ((((w.alloc (.cells #[.int .i64 0, .int .i64 1, .int .i64 2] 3)).alloc (.cells #[.int .i64 3] 3)).alloc (.cells #[.slice (some ⟨w.heap.size, 0, none⟩) 3 3, .slice (some ⟨w.heap.size + 1, 0, none⟩) 1 1] 24)).alloc (.cells #[.int .i64 0, .slice (some ⟨w.heap.size + 1 + 1, 0, none⟩) 2 2] 27)) (some ⟨w.heap.size + 1 + 1, 0, none⟩) apL := (lit2_chain w (l := [0, 1, 2]) (m := [3]) (num_small (by simp)) (num_small (by simp))).here.1.below (below_new (((w.alloc (.cells #[.int .i64 0, .int .i64 1, .int .i64 2] 3)).alloc (.cells #[.int .i64 3] 3)).alloc (.cells #[.slice (some ⟨w.heap.size, 0, none⟩) 3 3, .slice (some ⟨w.heap.size + 1, 0, none⟩) 1 1] 24)) (.cells #[.int .i64 0, .slice (some ⟨w.heap.size + 1 + 1, 0, none⟩) 2 2] 27))
  have hp1 : ((((w.alloc (.cells #[.int .i64 0, .int .i64 1, .int .i64 2] 3)).alloc (.cells #[.int .i64 3] 3)).alloc (.cells #[.slice (some ⟨w.heap.size, 0, none⟩) 3 3, .slice (some ⟨w.heap.size + 1, 0, none⟩) 1 1] 24)).alloc (.cells #[.int .i64 0, .slice (some ⟨w.heap.size + 1 + 1, 0, none⟩) 2 2] 27)).heap[w.heap.size + 1 + 1 + 1]? = some ((.cells #[.int .i64 0, .slice (some ⟨w.heap.size + 1 + 1, 0, none⟩) 2 2] 27) : Obj) := by
    have h := heap_alloc_new (((w.alloc (.cells #[.int .i64 0, .int .i64 1, .int .i64 2] 3)).alloc (.cells #[.int .i64 3] 3)).alloc (.cells #[.slice (some ⟨w.heap.size, 0, none⟩) 3 3, .slice (some ⟨w.heap.size + 1, 0, none⟩) 1 1] 24)) (.cells #[.int .i64 0, .slice (some ⟨w.heap.size + 1 + 1, 0, none⟩) 2 2] 27)
    rw [show (((w.alloc (.cells #[.int .i64 0, .int .i64 1, .int .i64 2] 3)).alloc (.cells #[.int .i64 3] 3)).alloc (.cells #[.slice (some ⟨w.heap.size, 0, none⟩) 3 3, .slice (some ⟨w.heap.size + 1, 0, none⟩) 1 1] 24)).heap.size = w.heap.size + 1 + 1 + 1 from by simp] at h
    exact h
  have HW1 := Lib.hid hw1
  have HP1 := Lib.hid hp1
  have HC1 := Lib.hid hc1
  have CM := Lib.hid (show Calls Tryz.prog 8 #[.agg #[.int .i64 0, .slice (some ⟨w.heap.size + 1 + 1, 0, none⟩) 2 2], .int .i64 200] ((((w.alloc (.cells #[.int .i64 0, .int .i64 1, .int .i64 2] 3)).alloc (.cells #[.int .i64 3] 3)).alloc (.cells #[.slice (some ⟨w.heap.size, 0, none⟩) 3 3, .slice (some ⟨w.heap.size + 1, 0, none⟩) 1 1] 24)).alloc (.cells #[.int .i64 0, .slice (some ⟨w.heap.size + 1 + 1, 0, none⟩) 2 2] 27)) fun e w' => ∃ b nb : Nat, ∃ p : Value, e = .returned (.tuple #[.pointer (some ⟨b, 0, none⟩), p, .bool true]) ∧ Solo (HG b nb) (fun k => k < ((((w.alloc (.cells #[.int .i64 0, .int .i64 1, .int .i64 2] 3)).alloc (.cells #[.int .i64 3] 3)).alloc (.cells #[.slice (some ⟨w.heap.size, 0, none⟩) 3 3, .slice (some ⟨w.heap.size + 1, 0, none⟩) 1 1] 24)).alloc (.cells #[.int .i64 0, .slice (some ⟨w.heap.size + 1 + 1, 0, none⟩) 2 2] 27)).heap.size) w' ⟨newN 0 apL 200, []⟩ ∧ Below ((((w.alloc (.cells #[.int .i64 0, .int .i64 1, .int .i64 2] 3)).alloc (.cells #[.int .i64 3] 3)).alloc (.cells #[.slice (some ⟨w.heap.size, 0, none⟩) 3 3, .slice (some ⟨w.heap.size + 1, 0, none⟩) 1 1] 24)).alloc (.cells #[.int .i64 0, .slice (some ⟨w.heap.size + 1 + 1, 0, none⟩) 2 2] 27)).heap.size ((((w.alloc (.cells #[.int .i64 0, .int .i64 1, .int .i64 2] 3)).alloc (.cells #[.int .i64 3] 3)).alloc (.cells #[.slice (some ⟨w.heap.size, 0, none⟩) 3 3, .slice (some ⟨w.heap.size + 1, 0, none⟩) 1 1] 24)).alloc (.cells #[.int .i64 0, .slice (some ⟨w.heap.size + 1 + 1, 0, none⟩) 2 2] 27)) w' from (made14_yes HS 0 (some ⟨w.heap.size + 1 + 1, 0, none⟩) 2 apL 200 ((((w.alloc (.cells #[.int .i64 0, .int .i64 1, .int .i64 2] 3)).alloc (.cells #[.int .i64 3] 3)).alloc (.cells #[.slice (some ⟨w.heap.size, 0, none⟩) 3 3, .slice (some ⟨w.heap.size + 1, 0, none⟩) 1 1] 24)).alloc (.cells #[.int .i64 0, .slice (some ⟨w.heap.size + 1 + 1, 0, none⟩) 2 2] 27)) hc1 few_ap apL_good (by decide) (ZZ.out 0 (by omega))).mono (by
    rintro e w' ⟨b, nb, r, rn, he, hs, hb⟩
    exact ⟨b, nb, _, he, hs.left, hb⟩))
  clear hw1 hc1 hp1 hR hK hR2 hK2 hs1000 hl60
  go_enter Tryz.func3, Tryz.ntmps3
  go_wp2_with (first
    | (go_at_call 9; refine (sa_new AS (TT.out b nb) S2.out (ep := 0) (cap := 2) (L := apL) (rec_ := s) C2.out few_ap (fun e => by cases e) (Nat.le_refl _) (ZZ.out 0 (by omega)) (Nat.le_trans HS4.out (by decide))).mono ?_; rintro e w4 ⟨ba, rfl, hs4, hb4⟩; have S4 := Lib.hid hs4; have B4 := Lib.hid (B2.out.trans (hb4.mono B2.out.size)); clear hs4 hb4)
    | (go_at_call 8; refine CM.out.mono ?_; rintro e w2 ⟨b, nb, p, rfl, hs2, hb2⟩; have S2 := Lib.hid hs2; have B2 := Lib.hid hb2; have C2 := Lib.hid (HC1.out.below hb2); have P2 := Lib.hid (below_heap hb2 HP1.out); obtain ⟨p0, p1, _, _⟩ := two_cells P2.out; have pl := lt_of_block P2.out; clear hs2 hb2))
  clear p0 p1 pl CM
  generalize hW1 : ((((w.alloc (.cells #[.int .i64 0, .int .i64 1, .int .i64 2] 3)).alloc (.cells #[.int .i64 3] 3)).alloc (.cells #[.slice (some ⟨w.heap.size, 0, none⟩) 3 3, .slice (some ⟨w.heap.size + 1, 0, none⟩) 1 1] 24)).alloc (.cells #[.int .i64 0, .slice (some ⟨w.heap.size + 1 + 1, 0, none⟩) 2 2] 27)) = W1 at *
  clear hW1
  have HE0 := Lib.hid (EndS.start HS4.out)
  go_loopw [12] (fun i wr => ∃ (k : Nat) (h : Hd) (a : Ap) (t : Int), i = .int .i64 k ∧ leftE a + k ≤ l.length + 7 ∧ t ≤ 2 * k ∧ Hid (EndS s t h a) ∧ Hid (Side (HG b nb) (AG ba) (fun j => j < W1.heap.size) wr h a) ∧ Hid (Below W1.heap.size W1 wr)) (fun i _ => l.length + 40 - (intOf i).toNat)
  case atStart => exact ⟨0, _, _, 0, rfl, by have := leftE_le (newAp 0 apL s); omega, by omega, HE0, S4, B4⟩
  case round =>
    clear S4 B4 HE0 S2 B2 C2
    obtain ⟨k, h, a, t, rfl, hlk, htk, HE, HT, HB⟩ := hrel
    have k40 : (k : Int) < (l.length : Int) + 40 := by omega
    have k41 : IntKind.i64.wrap ((l.length : Int) + 40) = (l.length : Int) + 40 := IntWalk.i64_in _ (by omega)
    by_cases h6 : a.at_ = 6
    · have HAS := Lib.hid (asks_no h6)
      obtain ⟨hx, he, hr⟩ := HE.out.ends (by omega) h6
      have HOV := Lib.hid (ends_over h6 he)
      obtain ⟨hc0, hc3, hch⟩ := ap_chain hx hr
      have HOP := Lib.hid (show gotV 0 apL a.addr = .agg #[.int .i64 (a.addr % 2), .int .i64 (a.addr / 2), .bool true] from gotV_yes (ofB_iff.2 ⟨apL_good, by omega⟩))
      have HCH := Lib.hid hch
      have HZ := Lib.hid (ZZ.out (a.addr / 2) (by omega))
      clear h6 he hr hch
      generalize a.addr = x at *
      have CHA := Lib.hid (fun W (hb : Below W1.heap.size W1 W) => refChain_any 0 (some ⟨w.heap.size + 1 + 1, 0, none⟩) 2 apL x W (HC1.out.below hb) few_ap)
      have COF := Lib.hid (fun W (hb : Below W1.heap.size W1 W) => refOf_any 0 (some ⟨w.heap.size + 1 + 1, 0, none⟩) 2 apL x W (HC1.out.below hb) few_ap)
      generalize chainR 0 apL x = C at *
      go_wp2_with (first
        | (go_at_call 16; refine (COF.out _ V5.out).mono ?_; rw [HOP.out]; rintro e v6 ⟨rfl, hb6⟩; have D6 := Lib.hid (D5.out.trans (hb6.mono D5.out.size)); have V6 := Lib.hid (V5.out.trans (hb6.mono V5.out.size)); have N6 := Lib.hid (N5.out.below hb6); clear hb6 p0 p1 pl)
        | (go_at_call 15; refine (CHA.out _ V4.out).mono ?_; rintro e v5 ⟨co, cc, rfl, hN5, hb5⟩; have D5 := Lib.hid hb5; have V5 := Lib.hid (V4.out.trans (hb5.mono V4.out.size)); have N5 := Lib.hid hN5; clear p0 p1 pl; obtain ⟨p0, p1, _, _⟩ := two_cells (below_heap V5.out HP1.out); have pl := lt_of_block (below_heap V5.out HP1.out); clear hb5 hN5)
        | (go_at_call 14; refine (sa_over AS (TT.out b nb) T1.out).mono ?_; rw [HOV.out.1, HOV.out.2.1, HOV.out.2.2]; rintro e v4 ⟨rfl, hs4, hb4⟩; have T4 := Lib.hid hs4; have V4 := Lib.hid (V1.out.trans (hb4.mono V1.out.size)); obtain ⟨p0, p1, _, _⟩ := two_cells (below_heap V4.out HP1.out); have pl := lt_of_block (below_heap V4.out HP1.out); clear hs4 hb4)
        | (go_at_call 10; refine (sa_ask AS (TT.out b nb) HT.out).mono ?_; rw [HAS.out]; rintro e v1 ⟨kd, un, qe, pg, qs, hq1, rfl, hs1, hk1⟩; have T1 := Lib.hid (hs1.below (TT.out b nb) (TA.out ba) (below_new v1 (.cells #[.int .i64 kd, .int .i64 un, .int .i64 qe, .int .i64 pg, .int .i64 0, .int .i64 0, .string qs, .int .i64 0, .slice none 0 0] 35))); have V0 := Lib.hid (HB.out.trans (hk1.toBelow HB.out.size (fun j h => h))); have V1 := Lib.hid (V0.out.trans ((below_new v1 (.cells #[.int .i64 kd, .int .i64 un, .int .i64 qe, .int .i64 pg, .int .i64 0, .int .i64 0, .string qs, .int .i64 0, .slice none 0 0] 35)).mono V0.out.size)); clear hq1 hs1 hk1))
      have hg := heap_alloc_new v6 (.cells #[.int .i64 (x % 2), .int .i64 (x / 2), .bool true] 51)
      have hb7 := below_new v6 (.cells #[.int .i64 (x % 2), .int .i64 (x / 2), .bool true] 51)
      have HG7 := Lib.hid hg
      have S7 := Lib.hid ((T4.out.left.below (TT.out b nb) D6.out).below (TT.out b nb) hb7)
      have V7 := Lib.hid (V6.out.trans (hb7.mono V6.out.size))
      have N7 := Lib.hid (N6.out.below hb7)
      clear hg hb7
      generalize hW7 : v6.alloc (.cells #[.int .i64 (x % 2), .int .i64 (x / 2), .bool true] 51) = W7 at *
      clear hW7 HT HB HE HAS T1 V0 V1 T4 V4 V5 N5 V6 N6 CHA COF HOV HOP
      have hc3' : (C.length : Int) ≤ 3 := by omega
      go_loopw [21] (fun i wr => ∃ j : Nat, i = .int .i64 j ∧ j ≤ C.length ∧ Hid (Solo (HG b nb) (fun j => j < W1.heap.size) wr h) ∧ Hid (Below W7.heap.size W7 wr)) (fun i _ => C.length - (intOf i).toNat)
      case atStart => exact ⟨0, rfl, Nat.zero_le _, S7, Lib.hid (Below.refl _ _)⟩
      case round =>
        clear S7
        obtain ⟨j, rfl, hj, HT, HB⟩ := hrel
        by_cases hlt : j < C.length
        · obtain ⟨⟨bk, off, hco, hcell⟩, _⟩ := N7.out.1 j hlt
          subst hco
          obtain ⟨q, hq16, hq, hre, hrs⟩ := HCH.out j hlt
          rw [hq] at hcell
          have HRE := Lib.hid hre
          have HRS := Lib.hid hrs
          have HQ16 := Lib.hid hq16
          have j0 : (j : Int) < (C.length : Int) := by omega
          have j1 : (0 : Int) ≤ (j : Int) := by omega
          have C0 := Lib.hid (show wr.cell? ⟨bk, off + j, none⟩ = some (.int .i64 (q : Int)) ∧ wr.cell? ⟨v6.heap.size, 1, none⟩ = some (.int .i64 (x / 2)) from duo_keep (And.intro hcell (cell_of HG7.out 1)) HB.out)
          clear hcell hre hrs hq hq16
          go_wp2_with fail
          go_region_held3 (fun W => W.cell? ⟨bk, off + j, none⟩ = some (.int .i64 (q : Int)) ∧ W.cell? ⟨v6.heap.size, 1, none⟩ = some (.int .i64 (x / 2)))
            (first | exact C0.out | exact duo_keep (by assumption) hb5 | exact duo_keep (by assumption) hb6 | exact duo_keep (by assumption) hb7 | exact duo_keep (by assumption) hb8)
            (first
              | (go_at_call 20; refine (RD bu pb F6 w7 _ (x / 2) P7.out HZ.out).mono ?_; rw [HRE.out, HRS.out]; rintro e w8 ⟨rfl, hb8⟩; have R8 := Lib.hid (R7.out.trans (hb8.mono R7.out.size)))
              | (go_at_call 19; refine (sa_pages HS P6.out).mono ?_; rintro e w7 ⟨rfl, hf7, hb7⟩; have P7 := Lib.hid hf7; have R7 := Lib.hid (R6.out.trans (hb7.mono R6.out.size)); clear hf7)
              | (go_at_call 18; refine (sa_unit HS S5.out (i := q) HQ16.out).mono ?_; rintro e w6 ⟨bu, pb, rfl, hb6, F6, hf6⟩; have P6 := Lib.hid hf6; have R6 := Lib.hid (R5.out.trans (hb6.mono R5.out.size)); clear hf6)
              | (go_at_call 17; refine (sa_nodes HS (HT.out.below (TT.out b nb) ((Below.refl _ _).drew))).mono ?_; rintro e w5 ⟨rfl, hs5, hb5⟩; have S5 := Lib.hid hs5; have R5 := Lib.hid (show Below wr.heap.size wr w5 from ((Below.refl wr.heap.size wr).drew).trans hb5); clear hs5))
          all_goals
            go_wp2_with fail
            refine ⟨⟨j + 1, by go_num, by omega, Lib.hid (HT.out.below (TT.out b nb) R8.out), Lib.hid (HB.out.trans (R8.out.mono HB.out.size))⟩, by simp [intOf]; omega⟩
        · obtain rfl : j = C.length := by omega
          have c0 : (0 : Int) < (C.length : Int) := by omega
          go_wp2_with (go_at_call 7; refine (CW.out _).mono ?_; rintro e v9 ⟨rfl, hb9⟩; have B9 := Lib.hid (HB.out.trans (hb9.mono HB.out.size)); clear hb9)
          go_ret
          exact ⟨rfl, HW1.out.trans ((V7.out.trans (B9.out.mono V7.out.size)).mono HW1.out.size)⟩
    · have HAS := Lib.hid (asks_yes h6)
      have hot := HE.out.n.ot
      have HSQ := Lib.hid (HE.out.a.small h6 (by omega) HS4.out)
      have HU := Lib.hid (show h.n.l.used.length ≤ 100000 from by rw [HE.out.used]; exact ap_used)
      have HTN := Lib.hid (fun fate => HE.out.turn HS4.out (by omega) h6 fate)
      have hle := leftE_le a
      clear h6 hot
      by_cases hkl : k < l.length
      · have n0 : (k : Int) < (l.length : Int) := by omega
        obtain ⟨bk, off, hao, c0w⟩ := byte_at HF.out hkl
        subst hao
        have c0 : W1.cell? ⟨bk, off + k, none⟩ = some (.int .u8 l[k]) := cellB HW1.out (block_lt_of_cell c0w) c0w
        have hv := HK.out _ (List.getElem_mem hkl)
        have hbk := Nat.lt_of_lt_of_le (block_lt_of_cell c0w) HW1.out.size
        clear c0w
        generalize l[k] = v at *
        obtain ⟨v0, v1⟩ := hv
        obtain ⟨f, hf, hf4⟩ : ∃ f : Nat, v.tmod 4 = (f : Int) ∧ f < 4 := ⟨(v % 4).toNat, by rw [Int.tmod_eq_emod_of_nonneg v0]; omega, by omega⟩
        have hf0 : (0 : Int) ≤ (f : Int) ∧ (f : Int) ≤ 300 := by omega
        by_cases hkd : k < d.length
        · have m0 : (k : Int) < (d.length : Int) := by omega
          obtain ⟨bj, of2, hbo, d0w⟩ := byte_at HF2.out hkd
          subst hbo
          have d0 : W1.cell? ⟨bj, of2 + k, none⟩ = some (.int .u8 d[k]) := cellB HW1.out (block_lt_of_cell d0w) d0w
          have hy := HK2.out _ (List.getElem_mem hkd)
          have hdk := Nat.lt_of_lt_of_le (block_lt_of_cell d0w) HW1.out.size
          clear d0w
          generalize d[k] = y at *
          obtain ⟨y0, y1⟩ := hy
          go_wp2_with (first
          | (go_at_call 13; refine (sa_does HS (TA.out ba) T3.out HU2.out (ZZ.out y (by omega))).mono ?_; rintro e v4 ⟨rfl, hs4, hk4⟩; have T4 := Lib.hid hs4; have V4 := Lib.hid (V3.out.trans (hk4.toBelow V3.out.size (fun j h => h))); clear hs4 hk4)
          | (go_at_call 11; refine (sa_hear AS (TT.out b nb) T2.out).mono ?_; rintro e v3 ⟨rfl, hs3, hk3⟩; have T3 := Lib.hid hs3; have V3 := Lib.hid (V2.out.trans (hk3.toBelow V2.out.size (fun j h => h))); have HU2 := Lib.hid (show (h.asked (akN kd un qe pg qs) (f : Int)).n.l.used.length ≤ 100000 from (by have hh := (HTN.out (f : Int)).1.used; rw [hq1x.out] at hh; rw [hh]; exact ap_used)); have d9 := cellB V3.out hdk d0; clear hs3 hk3)
          | (go_at_call 12; refine (sa_hask HS (TA.out ba) T1.out (fate := (f : Int)) SQ.out.kind (ZZ.out _ (by have := SQ.out.unit; simp only [akN] at this; omega)) (ZZ.out _ (by have := SQ.out.epoch; simp only [akN] at this; omega)) (ZZ.out _ (by have := SQ.out.page; simp only [akN] at this; omega)) (Nat.le_trans SQ.out.data (by decide)) HU.out (ZZ.out (f : Int) (by omega))).mono ?_; rintro e v2 ⟨xc, xn, xm, xz, xe, xd, vo, vc, c, hc, rfl, hx2, hs2, hk2⟩; have HX2 := Lib.hid hx2; have HCC := Lib.hid hc; clear hc; have T2 := Lib.hid hs2; have V2 := Lib.hid (V1.out.trans (hk2.toBelow V1.out.size (fun j h => h))); clear hs2 hk2 hx2)
          | (go_at_call 10; refine (sa_ask AS (TT.out b nb) HT.out).mono ?_; rw [HAS.out]; rintro e v1 ⟨kd, un, qe, pg, qs, hq1, rfl, hs1, hk1⟩; have HQ1 := Lib.hid hq1; have SQ := Lib.hid (show SmallQ (akN kd un qe pg qs) from hq1 ▸ HSQ.out); have T1 := Lib.hid (hs1.below (TT.out b nb) (TA.out ba) (below_new v1 (.cells #[.int .i64 kd, .int .i64 un, .int .i64 qe, .int .i64 pg, .int .i64 0, .int .i64 0, .string qs, .int .i64 0, .slice none 0 0] 35))); have V0 := Lib.hid (HB.out.trans (hk1.toBelow HB.out.size (fun j h => h))); have V1 := Lib.hid (V0.out.trans ((below_new v1 (.cells #[.int .i64 kd, .int .i64 un, .int .i64 qe, .int .i64 pg, .int .i64 0, .int .i64 0, .string qs, .int .i64 0, .slice none 0 0] 35)).mono V0.out.size)); have c9 := cellB V1.out hbk c0; have hq1x := Lib.hid hq1; clear hq1 hs1 hk1))
          refine ⟨⟨k + 1, (h.asked a.ask (f : Int)).does y, a.hear (h.heard a.ask (f : Int)) (decide ((f : Int) = 0)), t + 2, by go_num, ?_, by omega, Lib.hid ?_, Lib.hid ?_, V4⟩, by simp [intOf]; omega⟩
          · have := leftE_le (a.hear (h.heard a.ask (f : Int)) (decide ((f : Int) = 0))); omega
          · have h3 := (HTN.out (f : Int)).1.does HS4.out (by omega) y
            have e3 : t + 1 + 1 = t + 2 := by omega
            rw [e3] at h3
            exact h3
          · have e : h.heard (akN kd un qe pg qs) (f : Int) = ⟨xc, xn, xd, 0, [], xm, xz, xe⟩ := HX2.out
            rw [HQ1.out, e, ← HCC.out]
            exact T4.out
        · have m0 : ¬ (k : Int) < (d.length : Int) := by omega
          go_wp2_with (first
          | (go_at_call 11; refine (sa_hear AS (TT.out b nb) T2.out).mono ?_; rintro e v3 ⟨rfl, hs3, hk3⟩; have T3 := Lib.hid hs3; have V3 := Lib.hid (V2.out.trans (hk3.toBelow V2.out.size (fun j h => h))); clear hs3 hk3)
          | (go_at_call 12; refine (sa_hask HS (TA.out ba) T1.out (fate := (f : Int)) SQ.out.kind (ZZ.out _ (by have := SQ.out.unit; simp only [akN] at this; omega)) (ZZ.out _ (by have := SQ.out.epoch; simp only [akN] at this; omega)) (ZZ.out _ (by have := SQ.out.page; simp only [akN] at this; omega)) (Nat.le_trans SQ.out.data (by decide)) HU.out (ZZ.out (f : Int) (by omega))).mono ?_; rintro e v2 ⟨xc, xn, xm, xz, xe, xd, vo, vc, c, hc, rfl, hx2, hs2, hk2⟩; have HX2 := Lib.hid hx2; have HCC := Lib.hid hc; clear hc; have T2 := Lib.hid hs2; have V2 := Lib.hid (V1.out.trans (hk2.toBelow V1.out.size (fun j h => h))); clear hs2 hk2 hx2)
          | (go_at_call 10; refine (sa_ask AS (TT.out b nb) HT.out).mono ?_; rw [HAS.out]; rintro e v1 ⟨kd, un, qe, pg, qs, hq1, rfl, hs1, hk1⟩; have HQ1 := Lib.hid hq1; have SQ := Lib.hid (show SmallQ (akN kd un qe pg qs) from hq1 ▸ HSQ.out); have T1 := Lib.hid (hs1.below (TT.out b nb) (TA.out ba) (below_new v1 (.cells #[.int .i64 kd, .int .i64 un, .int .i64 qe, .int .i64 pg, .int .i64 0, .int .i64 0, .string qs, .int .i64 0, .slice none 0 0] 35))); have V0 := Lib.hid (HB.out.trans (hk1.toBelow HB.out.size (fun j h => h))); have V1 := Lib.hid (V0.out.trans ((below_new v1 (.cells #[.int .i64 kd, .int .i64 un, .int .i64 qe, .int .i64 pg, .int .i64 0, .int .i64 0, .string qs, .int .i64 0, .slice none 0 0] 35)).mono V0.out.size)); have c9 := cellB V1.out hbk c0; clear hq1 hs1 hk1))
          refine ⟨⟨k + 1, h.asked a.ask (f : Int), a.hear (h.heard a.ask (f : Int)) (decide ((f : Int) = 0)), t + 1, by go_num, ?_, by omega, Lib.hid ?_, Lib.hid ?_, V3⟩, by simp [intOf]; omega⟩
          · have := leftE_le (a.hear (h.heard a.ask (f : Int)) (decide ((f : Int) = 0))); omega
          · exact (HTN.out (f : Int)).1
          · have e : h.heard (akN kd un qe pg qs) (f : Int) = ⟨xc, xn, xd, 0, [], xm, xz, xe⟩ := HX2.out
            rw [HQ1.out, e, ← HCC.out]
            exact T3.out
      · have n0 : ¬ (k : Int) < (l.length : Int) := by omega
        by_cases hkd : k < d.length
        · have m0 : (k : Int) < (d.length : Int) := by omega
          obtain ⟨bj, of2, hbo, d0w⟩ := byte_at HF2.out hkd
          subst hbo
          have d0 : W1.cell? ⟨bj, of2 + k, none⟩ = some (.int .u8 d[k]) := cellB HW1.out (block_lt_of_cell d0w) d0w
          have hy := HK2.out _ (List.getElem_mem hkd)
          have hdk := Nat.lt_of_lt_of_le (block_lt_of_cell d0w) HW1.out.size
          clear d0w
          generalize d[k] = y at *
          obtain ⟨y0, y1⟩ := hy
          go_wp2_with (first
          | (go_at_call 13; refine (sa_does HS (TA.out ba) T3.out HU2.out (ZZ.out y (by omega))).mono ?_; rintro e v4 ⟨rfl, hs4, hk4⟩; have T4 := Lib.hid hs4; have V4 := Lib.hid (V3.out.trans (hk4.toBelow V3.out.size (fun j h => h))); clear hs4 hk4)
          | (go_at_call 11; refine (sa_hear AS (TT.out b nb) T2.out).mono ?_; rintro e v3 ⟨rfl, hs3, hk3⟩; have T3 := Lib.hid hs3; have V3 := Lib.hid (V2.out.trans (hk3.toBelow V2.out.size (fun j h => h))); have HU2 := Lib.hid (show (h.asked (akN kd un qe pg qs) 0).n.l.used.length ≤ 100000 from (by have hh := (HTN.out 0).1.used; rw [hq1x.out] at hh; rw [hh]; exact ap_used)); have d9 := cellB V3.out hdk d0; clear hs3 hk3)
          | (go_at_call 12; refine (sa_hask HS (TA.out ba) T1.out (fate := 0) SQ.out.kind (ZZ.out _ (by have := SQ.out.unit; simp only [akN] at this; omega)) (ZZ.out _ (by have := SQ.out.epoch; simp only [akN] at this; omega)) (ZZ.out _ (by have := SQ.out.page; simp only [akN] at this; omega)) (Nat.le_trans SQ.out.data (by decide)) HU.out (ZZ.out 0 (by omega))).mono ?_; rintro e v2 ⟨xc, xn, xm, xz, xe, xd, vo, vc, c, hc, rfl, hx2, hs2, hk2⟩; have HX2 := Lib.hid hx2; obtain rfl : c = true := hc; have T2 := Lib.hid hs2; have V2 := Lib.hid (V1.out.trans (hk2.toBelow V1.out.size (fun j h => h))); clear hs2 hk2 hx2)
          | (go_at_call 10; refine (sa_ask AS (TT.out b nb) HT.out).mono ?_; rw [HAS.out]; rintro e v1 ⟨kd, un, qe, pg, qs, hq1, rfl, hs1, hk1⟩; have HQ1 := Lib.hid hq1; have SQ := Lib.hid (show SmallQ (akN kd un qe pg qs) from hq1 ▸ HSQ.out); have T1 := Lib.hid (hs1.below (TT.out b nb) (TA.out ba) (below_new v1 (.cells #[.int .i64 kd, .int .i64 un, .int .i64 qe, .int .i64 pg, .int .i64 0, .int .i64 0, .string qs, .int .i64 0, .slice none 0 0] 35))); have V0 := Lib.hid (HB.out.trans (hk1.toBelow HB.out.size (fun j h => h))); have V1 := Lib.hid (V0.out.trans ((below_new v1 (.cells #[.int .i64 kd, .int .i64 un, .int .i64 qe, .int .i64 pg, .int .i64 0, .int .i64 0, .string qs, .int .i64 0, .slice none 0 0] 35)).mono V0.out.size)); have hq1x := Lib.hid hq1; clear hq1 hs1 hk1))
          refine ⟨⟨k + 1, (h.asked a.ask 0).does y, a.hear (h.heard a.ask 0) true, t + 2, by go_num, ?_, by omega, Lib.hid ?_, Lib.hid ?_, V4⟩, by simp [intOf]; omega⟩
          · have h3 : leftE (a.hear (h.heard a.ask 0) true) + 1 ≤ leftE a := (HTN.out 0).2 rfl
            omega
          · have h3 := (HTN.out 0).1.does HS4.out (by omega) y
            have e3 : t + 1 + 1 = t + 2 := by omega
            rw [e3] at h3
            exact h3
          · have e : h.heard (akN kd un qe pg qs) 0 = ⟨xc, xn, xd, 0, [], xm, xz, xe⟩ := HX2.out
            rw [HQ1.out, e]
            exact T4.out
        · have m0 : ¬ (k : Int) < (d.length : Int) := by omega
          go_wp2_with (first
          | (go_at_call 11; refine (sa_hear AS (TT.out b nb) T2.out).mono ?_; rintro e v3 ⟨rfl, hs3, hk3⟩; have T3 := Lib.hid hs3; have V3 := Lib.hid (V2.out.trans (hk3.toBelow V2.out.size (fun j h => h))); clear hs3 hk3)
          | (go_at_call 12; refine (sa_hask HS (TA.out ba) T1.out (fate := 0) SQ.out.kind (ZZ.out _ (by have := SQ.out.unit; simp only [akN] at this; omega)) (ZZ.out _ (by have := SQ.out.epoch; simp only [akN] at this; omega)) (ZZ.out _ (by have := SQ.out.page; simp only [akN] at this; omega)) (Nat.le_trans SQ.out.data (by decide)) HU.out (ZZ.out 0 (by omega))).mono ?_; rintro e v2 ⟨xc, xn, xm, xz, xe, xd, vo, vc, c, hc, rfl, hx2, hs2, hk2⟩; have HX2 := Lib.hid hx2; obtain rfl : c = true := hc; have T2 := Lib.hid hs2; have V2 := Lib.hid (V1.out.trans (hk2.toBelow V1.out.size (fun j h => h))); clear hs2 hk2 hx2)
          | (go_at_call 10; refine (sa_ask AS (TT.out b nb) HT.out).mono ?_; rw [HAS.out]; rintro e v1 ⟨kd, un, qe, pg, qs, hq1, rfl, hs1, hk1⟩; have HQ1 := Lib.hid hq1; have SQ := Lib.hid (show SmallQ (akN kd un qe pg qs) from hq1 ▸ HSQ.out); have T1 := Lib.hid (hs1.below (TT.out b nb) (TA.out ba) (below_new v1 (.cells #[.int .i64 kd, .int .i64 un, .int .i64 qe, .int .i64 pg, .int .i64 0, .int .i64 0, .string qs, .int .i64 0, .slice none 0 0] 35))); have V0 := Lib.hid (HB.out.trans (hk1.toBelow HB.out.size (fun j h => h))); have V1 := Lib.hid (V0.out.trans ((below_new v1 (.cells #[.int .i64 kd, .int .i64 un, .int .i64 qe, .int .i64 pg, .int .i64 0, .int .i64 0, .string qs, .int .i64 0, .slice none 0 0] 35)).mono V0.out.size)); clear hq1 hs1 hk1))
          refine ⟨⟨k + 1, h.asked a.ask 0, a.hear (h.heard a.ask 0) true, t + 1, by go_num, ?_, by omega, Lib.hid ?_, Lib.hid ?_, V3⟩, by simp [intOf]; omega⟩
          · have h3 : leftE (a.hear (h.heard a.ask 0) true) + 1 ≤ leftE a := (HTN.out 0).2 rfl
            omega
          · exact (HTN.out 0).1
          · have e : h.heard (akN kd un qe pg qs) 0 = ⟨xc, xn, xd, 0, [], xm, xz, xe⟩ := HX2.out
            rw [HQ1.out, e]
            exact T3.out

set_option maxRecDepth 100000 in
theorem appendEnds_lifted (os : Os) (started : os.Started) (H : Type) (enc : TypeId × Value → H) :
    ReturnsInHanded {} Tryz.checked os 3 .any (Rows.appendEndsSpec.pre6 enc Tryz.prog Tryz.f3 Rows.appendEndsRow.domain false) (Rows.appendEndsSpec.post enc Tryz.prog Tryz.f3 false true false false) := by
  refine returnsInHanded_of_change (C := Tryz.checked) own started (by kernel_rfl) Tryz.func3
    (ChangeSpec.witness6 (enc := enc) (C := Tryz.checked) false ⟨#[], #[.string ByteArray.empty, .slice none 0 0, .slice none 0 0], []⟩ 8 (by kernel_rfl) (by kernel_rfl) (by kernel_rfl) (by kernel_rfl)) ?_
  intro W base args ds gs before hval0 hW hcnd _
  have hval : ∀ (j : Nat) t v, Tryz.f3.params[j]? = some t → args[j]? = some v → Value.okWide Tryz.prog W .any base t v := hval0
  have hW' := hW
  obtain ⟨p, q, hA0, hV, rfl, hfz, hnd⟩ := hW
  have hA : DataW.TrodAll enc Tryz.prog W 0 (fun _ => true) true Tryz.f3.params.toList args.toList ds p := hA0
  rw [Tryz.params3] at hA hval
  obtain ⟨v0, vs0, d0, ds0, p0, q0, hargs, rfl, rfl, h0, r0⟩ := trodAll_cons hA
  obtain ⟨v1, vs1, d1, ds1, p1, q1, rfl, rfl, rfl, h1, r1⟩ := trodAll_cons r0
  obtain ⟨v2, vs2, d2, ds2, p2, q2, rfl, rfl, rfl, h2, r2⟩ := trodAll_cons r1
  obtain ⟨rfl, rfl, rfl⟩ := trodAll_nil r2
  obtain rfl : args = #[v0, v1, v2] := by cases args; simp_all
  obtain ⟨rfl, rfl⟩ := trodVars_none hV
  have k0 := h0
  have lt0 : ∀ x ∈ p0, x.block < W.heap.size := by obtain ⟨m, hm⟩ := k0; exact DataW.trod_lt m _ _ _ hm
  have k1 := h1
  have lt1 : ∀ x ∈ p1, x.block < W.heap.size := by obtain ⟨m, hm⟩ := k1; exact DataW.trod_lt m _ _ _ hm
  have k2 := h2
  have lt2 : ∀ x ∈ p2, x.block < W.heap.size := by obtain ⟨m, hm⟩ := k2; exact DataW.trod_lt m _ _ _ hm
  obtain ⟨a0, rfl, rfl, rfl, w0⟩ := open_string Tryz.underlying9 (hval 0 9 v0 rfl rfl) h0
  obtain ⟨ao1, cap1, L1, rfl, w1, hR1, hK1, hn1, hc1⟩ := open_rows (f := byteC) (ok := byteOk) (n := 0) Tryz.underlying22 (by kernel_rfl) (fun m cs y hl hf => byte_cs Tryz.underlying5 hl hf) (hval 1 22 v1 rfl rfl) h1
  obtain ⟨ao2, cap2, L2, rfl, w2, hR2, hK2, hn2, hc2⟩ := open_rows (f := byteC) (ok := byteOk) (n := 0) Tryz.underlying22 (by kernel_rfl) (fun m cs y hl hf => byte_cs Tryz.underlying5 hl hf) (hval 2 22 v2 rfl rfl) h2
  clear hA0 hval0
  refine (appendEnds_walk handSays appSays readSays a0 ao1 cap1 L1 ao2 cap2 L2 w0 w1 w2 W hR1 hK1 hR2 hK2).mono fun e W' ⟨he, bel⟩ => ?_
  subst he
  exact ⟨_, rfl, _, _, _, [], _, [], hW', trodAll_mk1 (shut_bool Tryz.underlying4 _), (trodAll_cons_mk (Below.trod laidOut (by kernel_rfl) (of_decide_eq_true (by kernel_rfl)) k0 bel lt0) (trodAll_cons_mk (Below.trod laidOut (by kernel_rfl) (of_decide_eq_true (by kernel_rfl)) k1 bel lt1) (trodAll_cons_mk (Below.trod laidOut (by kernel_rfl) (of_decide_eq_true (by kernel_rfl)) k2 bel lt2) trodAll_mk0))), rfl, bel.frame _, fun h => by cases h⟩

theorem appendEnds_over : Rows.appendEndsRow.holds Tryz.pinned (OpenSpec.ofChange Rows.appendEndsSpec) :=
  OpenClaim.holds_of_wide 3 Tryz.f3 rfl rfl rfl rfl rfl rfl rfl ⟨rfl, rfl, rfl, rfl, rfl⟩ rfl rfl rfl rfl rfl (by kernel_rfl) Tryz.func3 (by kernel_rfl)
    (of_decide_eq_true (by kernel_rfl)) (by unfold Func.isWrapper; first | (rw [if_pos (by decide +kernel)]; kernel_rfl) | (rw [if_neg (by decide +kernel)]; exact ⟨rfl, rfl⟩))
    (fun os started H enc _ => appendEnds_lifted os started H enc)

/-- THE STATEMENT -/
theorem appendEnds_holds : Rows.AppendEndsSaid := appendEnds_over 
end Go.Proofs.YtimjlfkdbkafeaaGreat
