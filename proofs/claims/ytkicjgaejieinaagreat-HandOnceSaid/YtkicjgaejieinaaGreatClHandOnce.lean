/- The law HandOnce: each question is done once at most. Conditions: none. (Written by gen/genhandonce.py.) -/
import Derived.Test.YtkicjgaejieinaaGreatG31a
import Derived.Test.YtkicjgaejieinaaGreatG27b
import Derived.Test.YtkicjgaejieinaaGreatG13a
import Derived.Test.YtkicjgaejieinaaGreatG11b
namespace Go.Proofs.YtkicjgaejieinaaGreat
open Go.ChangeShapes Go.WideShapes Go.ChangeAt Go.RowKit
open Go.ChangeMaps (open_string shut_string)
set_option linter.unusedVariables false
set_option maxRecDepth 20000

theorem five_of {v : Int} (h : 0 ≤ v ∧ v < 256) : v.tmod 5 = 0 ∨ v.tmod 5 = 1 ∨ v.tmod 5 = 2 ∨ v.tmod 5 = 3 ∨ v.tmod 5 = 4 := by
  rw [Int.tmod_eq_emod_of_nonneg (by omega)]; omega
set_option maxHeartbeats 16000000 in
theorem handOnce_walk {UG : Nat → Nat → (Nat → Prop) → World → Us → Prop} {OG : Nat → (Nat → Prop) → World → Od → Prop} {LG : Nat → (Nat → Prop) → World → Ly → Prop} {NG : Nat → (Nat → Prop) → World → Nd → Prop} {HG : Nat → Nat → (Nat → Prop) → World → Hd → Prop} (HS : HandSays UG OG LG NG HG) (ao : Option Addr) (cap : Nat) (l : List Int) (bo : Option Addr) (cbp : Nat) (d : List Int) (hl : l.length ≤ maxLen) (hd : d.length ≤ maxLen) (w : World) (hR : Row w ao 1 byteC l) (hK : ∀ x ∈ l, byteOk w x) (hR2 : Row w bo 1 byteC d) (hK2 : ∀ x ∈ d, byteOk w x) :
    Calls Tryz.prog 4 #[.slice ao l.length cap, .slice bo d.length cbp] w fun e w' => e = .returned (.bool true) ∧ Below w.heap.size w w' := by
  have CW := Lib.hid (fun w => wakes14_any HS w)
  have ZZ := Lib.hid (fun (x : Int) (h : 0 ≤ x ∧ x ≤ 256) => show i64w x from WalkArith.wf_i64 (by omega))
  have TT := Lib.hid (fun b nb => HS.thing b nb)
  unfold maxLen at hl hd
  have hl' : (l.length : Int) ≤ 9223372036854775807 := by omega
  have hd' : (d.length : Int) ≤ 9223372036854775807 := by omega
  have HF := Lib.hid hR
  have HK := Lib.hid hK
  have HF2 := Lib.hid hR2
  have HK2 := Lib.hid hK2
  clear hR hK hR2 hK2
  have CN := Lib.hid (made14_yes HS 0 (some ⟨w.heap.size + 1, 0, none⟩) 1 [[0]] 9 (lit1W w [0]) (lit1_chain w (num_small (by simp))).here.1 (few_one 0) (by decide +kernel) (by decide) (ZZ.out 0 (by omega)))
  have HT0 := Lib.hid tok_made
  generalize (⟨newN 0 [[0]] 9, []⟩ : Hd) = h0 at *
  go_enter Tryz.func4, Tryz.ntmps4
  go_wp2_with (go_at_call 10; refine CN.out.mono ?_; rintro e w1 ⟨b, nb, r, rn, rfl, hs1, hb1⟩; have B1 := Lib.hid ((lit1_below w [0]).trans (hb1.mono (lit1_below w [0]).size)); have U1 := Lib.hid (show Solo (HG b nb) (fun k => k < w.heap.size) w1 h0 from hs1.left.less (fun k hk => Nat.lt_of_lt_of_le hk (lit1_below w [0]).size)); clear hs1 hb1)
  go_loopw [8, 9, 10] (fun vn vm i wr => ∃ (k n m : Nat) (h : Hd), vn = .int .i64 n ∧ vm = .int .i64 m ∧ i = .int .i64 k ∧ k ≤ l.length ∧ n ≤ k ∧ n ≤ 100 ∧ m ≤ 64 ∧ Hid (Tok h n m) ∧ Hid (Solo (HG b nb) (fun k => k < w.heap.size) wr h) ∧ Hid (Below w.heap.size w wr)) (fun _ _ i _ => l.length - (intOf i).toNat)
  case atStart => exact ⟨0, 0, 0, h0, rfl, rfl, rfl, Nat.zero_le _, Nat.le_refl _, by omega, by omega, HT0, U1, B1⟩
  case round =>
    clear U1 B1 CN HT0
    obtain ⟨k, n, m, h, rfl, rfl, rfl, hk, hnk, hn, hm, HT, HU, HB⟩ := hrel
    by_cases hlt : k < l.length ∧ k < 100
    · obtain ⟨hlt, h100⟩ := hlt
      have n0 : (k : Int) < (l.length : Int) := by omega
      have n1 : (k : Int) < 100 := by omega
      obtain ⟨bk, off, hao, c0w⟩ := byte_at HF.out hlt
      subst hao
      have c0 : wr.cell? ⟨bk, off + k, none⟩ = some (.int .u8 l[k]) := cellB HB.out (block_lt_of_cell c0w) c0w
      have hv := HK.out _ (List.getElem_mem hlt)
      clear c0w
      generalize l[k] = v at *
      obtain ⟨v0, v1⟩ := hv
      rcases five_of ⟨v0, v1⟩ with hf | hf | hf | hf | hf
      · have HT2 := Lib.hid (show Tok (h.asked akH 0) (n + 1) (m) from by have h1 := HT.out.ask (by omega) 0; rw [if_pos (by decide)] at h1; rw [if_neg (by omega)] at h1; exact h1)
        go_wp2_with fail
        refine (h_askN HS HU.out (k := 6) (u := 0) (e := 0) (p := 0) (fate := 0) (s := ⟨#[]⟩) (ZZ.out 6 (by omega)) (ZZ.out 0 (by omega)) (ZZ.out 0 (by omega)) (ZZ.out 0 (by omega)) (Nat.zero_le _) HT.out.used (ZZ.out 0 (by omega))).mono ?_
        rintro e w2 ⟨xc, xn, xd, xp, xm, xz, xe, xo, xon, xoc, c, rfl, hc, ⟨hq1, hq2⟩, hu2, hk2⟩
        clear hq1
        rw [show decide ((0 : Int) = 0) = true from rfl] at hc
        subst hc
        rw [show (h.heard (akN 6 0 0 0 ⟨#[]⟩) 0).n = (n : Int) from HT.out.told (by omega)] at hq2
        subst hq2
        have U2 := Lib.hid (show Solo (HG b nb) (fun k => k < w.heap.size) (w2.alloc (.cells #[.int .i64 xc, .int .i64 n, .string xd, .int .i64 xp, .slice xo xon xoc, .int .i64 xm, .int .i64 xz, .int .i64 xe] 38)) (h.asked akH 0) from Solo.below (TT.out b nb) hu2 (below_new _ _))
        have B2 := Lib.hid ((HB.out.trans (hk2.toBelow HB.out.size (fun k h => h))).alloc (HB.out.trans (hk2.toBelow HB.out.size (fun k h => h))).size (.cells #[.int .i64 xc, .int .i64 n, .string xd, .int .i64 xp, .slice xo xon xoc, .int .i64 xm, .int .i64 xz, .int .i64 xe] 38))
        have q1 := cell_of (heap_alloc_new w2 (.cells #[.int .i64 xc, .int .i64 n, .string xd, .int .i64 xp, .slice xo xon xoc, .int .i64 xm, .int .i64 xz, .int .i64 xe] 38)) 1
        clear hu2 hk2 HU HB HT c0
        go_wp2_with fail
        go_roundw
        case rel => exact ⟨k + 1, n + 1, m, h.asked akH 0, by go_num, by go_num, by go_num, by omega, by omega, by omega, by omega, HT2, U2, B2⟩
        case measure => simp [intOf]; omega
      · have HT2 := Lib.hid (show Tok (h.asked akH 1) (n) (m) from by have h1 := HT.out.ask (by omega) 1; rw [if_neg (by decide)] at h1; rw [if_neg (by omega)] at h1; exact h1)
        go_wp2_with fail
        refine (h_askN HS HU.out (k := 6) (u := 0) (e := 0) (p := 0) (fate := 1) (s := ⟨#[]⟩) (ZZ.out 6 (by omega)) (ZZ.out 0 (by omega)) (ZZ.out 0 (by omega)) (ZZ.out 0 (by omega)) (Nat.zero_le _) HT.out.used (ZZ.out 1 (by omega))).mono ?_
        rintro e w2 ⟨xc, xn, xd, xp, xm, xz, xe, xo, xon, xoc, c, rfl, hc, ⟨hq1, hq2⟩, hu2, hk2⟩
        clear hq1
        rw [show decide ((1 : Int) = 0) = false from rfl] at hc
        subst hc
        clear hq2
        have U2 := Lib.hid (show Solo (HG b nb) (fun k => k < w.heap.size) (w2.alloc (.cells #[.int .i64 xc, .int .i64 xn, .string xd, .int .i64 xp, .slice xo xon xoc, .int .i64 xm, .int .i64 xz, .int .i64 xe] 38)) (h.asked akH 1) from Solo.below (TT.out b nb) hu2 (below_new _ _))
        have B2 := Lib.hid ((HB.out.trans (hk2.toBelow HB.out.size (fun k h => h))).alloc (HB.out.trans (hk2.toBelow HB.out.size (fun k h => h))).size (.cells #[.int .i64 xc, .int .i64 xn, .string xd, .int .i64 xp, .slice xo xon xoc, .int .i64 xm, .int .i64 xz, .int .i64 xe] 38))
        clear hu2 hk2 HU HB HT c0
        go_wp2_with fail
        go_roundw
        case rel => exact ⟨k + 1, n, m, h.asked akH 1, by go_num, by go_num, by go_num, by omega, by omega, by omega, by omega, HT2, U2, B2⟩
        case measure => simp [intOf]; omega
      · have HT2 := Lib.hid (show Tok (h.asked akH 2) (n + 1) (m) from by have h1 := HT.out.ask (by omega) 2; rw [if_pos (by decide)] at h1; rw [if_neg (by omega)] at h1; exact h1)
        go_wp2_with fail
        refine (h_askN HS HU.out (k := 6) (u := 0) (e := 0) (p := 0) (fate := 2) (s := ⟨#[]⟩) (ZZ.out 6 (by omega)) (ZZ.out 0 (by omega)) (ZZ.out 0 (by omega)) (ZZ.out 0 (by omega)) (Nat.zero_le _) HT.out.used (ZZ.out 2 (by omega))).mono ?_
        rintro e w2 ⟨xc, xn, xd, xp, xm, xz, xe, xo, xon, xoc, c, rfl, hc, ⟨hq1, hq2⟩, hu2, hk2⟩
        clear hq1
        rw [show decide ((2 : Int) = 0) = false from rfl] at hc
        subst hc
        clear hq2
        have U2 := Lib.hid (show Solo (HG b nb) (fun k => k < w.heap.size) (w2.alloc (.cells #[.int .i64 xc, .int .i64 xn, .string xd, .int .i64 xp, .slice xo xon xoc, .int .i64 xm, .int .i64 xz, .int .i64 xe] 38)) (h.asked akH 2) from Solo.below (TT.out b nb) hu2 (below_new _ _))
        have B2 := Lib.hid ((HB.out.trans (hk2.toBelow HB.out.size (fun k h => h))).alloc (HB.out.trans (hk2.toBelow HB.out.size (fun k h => h))).size (.cells #[.int .i64 xc, .int .i64 xn, .string xd, .int .i64 xp, .slice xo xon xoc, .int .i64 xm, .int .i64 xz, .int .i64 xe] 38))
        clear hu2 hk2 HU HB HT c0
        go_wp2_with fail
        go_roundw
        case rel => exact ⟨k + 1, n + 1, m, h.asked akH 2, by go_num, by go_num, by go_num, by omega, by omega, by omega, by omega, HT2, U2, B2⟩
        case measure => simp [intOf]; omega
      · by_cases hm64 : m < 64
        · have m0 : (m : Int) < 64 := by omega
          have HT2 := Lib.hid (show Tok (h.asked akH 3) (n) (m + 1) from by have h1 := HT.out.ask (by omega) 3; rw [if_neg (by decide)] at h1; rw [if_pos (by omega)] at h1; exact h1)
          go_wp2_with fail
          refine (h_askN HS HU.out (k := 6) (u := 0) (e := 0) (p := 0) (fate := 3) (s := ⟨#[]⟩) (ZZ.out 6 (by omega)) (ZZ.out 0 (by omega)) (ZZ.out 0 (by omega)) (ZZ.out 0 (by omega)) (Nat.zero_le _) HT.out.used (ZZ.out 3 (by omega))).mono ?_
          rintro e w2 ⟨xc, xn, xd, xp, xm, xz, xe, xo, xon, xoc, c, rfl, hc, ⟨hq1, hq2⟩, hu2, hk2⟩
          clear hq1
          rw [show decide ((3 : Int) = 0) = false from rfl] at hc
          subst hc
          clear hq2
          have U2 := Lib.hid (show Solo (HG b nb) (fun k => k < w.heap.size) (w2.alloc (.cells #[.int .i64 xc, .int .i64 xn, .string xd, .int .i64 xp, .slice xo xon xoc, .int .i64 xm, .int .i64 xz, .int .i64 xe] 38)) (h.asked akH 3) from Solo.below (TT.out b nb) hu2 (below_new _ _))
          have B2 := Lib.hid ((HB.out.trans (hk2.toBelow HB.out.size (fun k h => h))).alloc (HB.out.trans (hk2.toBelow HB.out.size (fun k h => h))).size (.cells #[.int .i64 xc, .int .i64 xn, .string xd, .int .i64 xp, .slice xo xon xoc, .int .i64 xm, .int .i64 xz, .int .i64 xe] 38))
          clear hu2 hk2 HU HB HT c0
          go_wp2_with fail
          go_roundw
          case rel => exact ⟨k + 1, n, m + 1, h.asked akH 3, by go_num, by go_num, by go_num, by omega, by omega, by omega, by omega, HT2, U2, B2⟩
          case measure => simp [intOf]; omega
        · have m0 : (64 : Int) ≤ (m : Int) := by omega
          have HT2 := Lib.hid (show Tok (h.asked akH 3) (n) (m) from by have h1 := HT.out.ask (by omega) 3; rw [if_neg (by decide)] at h1; rw [if_neg (by omega)] at h1; exact h1)
          go_wp2_with fail
          refine (h_askN HS HU.out (k := 6) (u := 0) (e := 0) (p := 0) (fate := 3) (s := ⟨#[]⟩) (ZZ.out 6 (by omega)) (ZZ.out 0 (by omega)) (ZZ.out 0 (by omega)) (ZZ.out 0 (by omega)) (Nat.zero_le _) HT.out.used (ZZ.out 3 (by omega))).mono ?_
          rintro e w2 ⟨xc, xn, xd, xp, xm, xz, xe, xo, xon, xoc, c, rfl, hc, ⟨hq1, hq2⟩, hu2, hk2⟩
          clear hq1
          rw [show decide ((3 : Int) = 0) = false from rfl] at hc
          subst hc
          clear hq2
          have U2 := Lib.hid (show Solo (HG b nb) (fun k => k < w.heap.size) (w2.alloc (.cells #[.int .i64 xc, .int .i64 xn, .string xd, .int .i64 xp, .slice xo xon xoc, .int .i64 xm, .int .i64 xz, .int .i64 xe] 38)) (h.asked akH 3) from Solo.below (TT.out b nb) hu2 (below_new _ _))
          have B2 := Lib.hid ((HB.out.trans (hk2.toBelow HB.out.size (fun k h => h))).alloc (HB.out.trans (hk2.toBelow HB.out.size (fun k h => h))).size (.cells #[.int .i64 xc, .int .i64 xn, .string xd, .int .i64 xp, .slice xo xon xoc, .int .i64 xm, .int .i64 xz, .int .i64 xe] 38))
          clear hu2 hk2 HU HB HT c0
          go_wp2_with fail
          go_roundw
          case rel => exact ⟨k + 1, n, m, h.asked akH 3, by go_num, by go_num, by go_num, by omega, by omega, by omega, by omega, HT2, U2, B2⟩
          case measure => simp [intOf]; omega
      · have HT2 := Lib.hid (show Tok (h.asked akH 4) (n) (m) from by have h1 := HT.out.ask (by omega) 4; rw [if_neg (by decide)] at h1; rw [if_neg (by omega)] at h1; exact h1)
        go_wp2_with fail
        refine (h_askN HS HU.out (k := 6) (u := 0) (e := 0) (p := 0) (fate := 4) (s := ⟨#[]⟩) (ZZ.out 6 (by omega)) (ZZ.out 0 (by omega)) (ZZ.out 0 (by omega)) (ZZ.out 0 (by omega)) (Nat.zero_le _) HT.out.used (ZZ.out 4 (by omega))).mono ?_
        rintro e w2 ⟨xc, xn, xd, xp, xm, xz, xe, xo, xon, xoc, c, rfl, hc, ⟨hq1, hq2⟩, hu2, hk2⟩
        clear hq1
        rw [show decide ((4 : Int) = 0) = false from rfl] at hc
        subst hc
        clear hq2
        have U2 := Lib.hid (show Solo (HG b nb) (fun k => k < w.heap.size) (w2.alloc (.cells #[.int .i64 xc, .int .i64 xn, .string xd, .int .i64 xp, .slice xo xon xoc, .int .i64 xm, .int .i64 xz, .int .i64 xe] 38)) (h.asked akH 4) from Solo.below (TT.out b nb) hu2 (below_new _ _))
        have B2 := Lib.hid ((HB.out.trans (hk2.toBelow HB.out.size (fun k h => h))).alloc (HB.out.trans (hk2.toBelow HB.out.size (fun k h => h))).size (.cells #[.int .i64 xc, .int .i64 xn, .string xd, .int .i64 xp, .slice xo xon xoc, .int .i64 xm, .int .i64 xz, .int .i64 xe] 38))
        clear hu2 hk2 HU HB HT c0
        go_wp2_with fail
        go_roundw
        case rel => exact ⟨k + 1, n, m, h.asked akH 4, by go_num, by go_num, by go_num, by omega, by omega, by omega, by omega, HT2, U2, B2⟩
        case measure => simp [intOf]; omega
    · by_cases hlt2 : k < l.length
      · have n0 : (k : Int) < (l.length : Int) := by omega
        have n1 : (100 : Int) ≤ (k : Int) := by omega
        clear hlt
        go_wp2_with fail
        go_loopw [8, 9, 14] (fun vn vm i wr => ∃ (k n m : Nat) (h : Hd), vn = .int .i64 n ∧ vm = .int .i64 m ∧ i = .int .i64 k ∧ k ≤ d.length ∧ n ≤ 100 + k ∧ n ≤ 200 ∧ m ≤ 64 ∧ Hid (Tok h n m) ∧ Hid (Solo (HG b nb) (fun k => k < w.heap.size) wr h) ∧ Hid (Below w.heap.size w wr)) (fun _ _ i _ => d.length - (intOf i).toNat)
        case atStart => exact ⟨0, n, m, h, rfl, rfl, rfl, Nat.zero_le _, by omega, by omega, by omega, HT, HU, HB⟩
        case round =>
          clear HU HB HT hk hnk hn hm n0
          obtain ⟨k, n, m, h, rfl, rfl, rfl, hk, hnk, hn, hm, HT, HU, HB⟩ := hrel
          by_cases hlt : k < d.length ∧ k < 100
          · obtain ⟨hlt, h100⟩ := hlt
            have n0 : (k : Int) < (d.length : Int) := by omega
            have n1 : (k : Int) < 100 := by omega
            obtain ⟨bk, off, hao, c0w⟩ := byte_at HF2.out hlt
            subst hao
            have c0 : wr.cell? ⟨bk, off + k, none⟩ = some (.int .u8 d[k]) := cellB HB.out (block_lt_of_cell c0w) c0w
            have hv := HK2.out _ (List.getElem_mem hlt)
            clear c0w
            generalize d[k] = v0 at *
            obtain ⟨v, rfl⟩ : ∃ v : Nat, v0 = v := ⟨v0.toNat, by have := hv.1; omega⟩
            have hv2 : v < 256 := by have := hv.2; omega
            clear hv
            by_cases hvm : v < m
            · have m0 : (v : Int) < (m : Int) := by omega
              have HT2 := Lib.hid (show Tok (h.does v) (n + 1) (m - 1) from by have h1 := HT.out.does (by omega) v; rwa [if_pos hvm, if_pos hvm] at h1)
              have hh : h.has v = true := by rw [HT.out.has v]; exact decide_eq_true hvm
              go_wp2_with (go_at_call 14; refine (h_does HS HU.out HT.out.used (ZZ.out _ (by omega))).mono ?_; rw [hh]; rintro e w4 ⟨rfl, hs4, hk4⟩; have U4 := Lib.hid hs4; have B4 := Lib.hid (HB.out.trans (hk4.toBelow HB.out.size (fun k h => h))); clear hs4 hk4)
              go_roundw
              case rel => exact ⟨k + 1, n + 1, m - 1, h.does v, by go_num, by go_num, by go_num, by omega, by omega, by omega, by omega, HT2, U4, B4⟩
              case measure => simp [intOf]; omega
            · have m0 : (m : Int) ≤ (v : Int) := by omega
              have HT2 := Lib.hid (show Tok (h.does v) n m from by have h1 := HT.out.does (by omega) v; rwa [if_neg hvm, if_neg hvm] at h1)
              have hh : h.has v = false := by rw [HT.out.has v]; exact decide_eq_false hvm
              go_wp2_with (go_at_call 14; refine (h_does HS HU.out HT.out.used (ZZ.out _ (by omega))).mono ?_; rw [hh]; rintro e w4 ⟨rfl, hs4, hk4⟩; have U4 := Lib.hid hs4; have B4 := Lib.hid (HB.out.trans (hk4.toBelow HB.out.size (fun k h => h))); clear hs4 hk4)
              go_roundw
              case rel => exact ⟨k + 1, n, m, h.does v, by go_num, by go_num, by go_num, by omega, by omega, by omega, by omega, HT2, U4, B4⟩
              case measure => simp [intOf]; omega
          · by_cases hlt2 : k < d.length
            · have n0 : (k : Int) < (d.length : Int) := by omega
              have n1 : (100 : Int) ≤ (k : Int) := by omega
              clear hlt
              go_wp2_with fail
              refine (h_askN HS HU.out (k := 7) (u := 0) (e := 0) (p := 0) (fate := 0) (s := ⟨#[]⟩) (ZZ.out 7 (by omega)) (ZZ.out 0 (by omega)) (ZZ.out 0 (by omega)) (ZZ.out 0 (by omega)) (Nat.zero_le _) HT.out.used (ZZ.out 0 (by omega))).mono ?_
              rintro e w5 ⟨xc, xn, xd, xp, xm, xz, xe, xo, xon, xoc, c, rfl, hc, ⟨hq3, hxn⟩, hu5, hk5⟩
              clear hq3
              rw [show decide ((0 : Int) = 0) = true from rfl] at hc
              subst hc
              rw [show (h.heard (akN 7 0 0 0 ⟨#[]⟩) 0).n = (n : Int) from HT.out.tail] at hxn
              subst hxn
              have U5 := Lib.hid (show Solo (HG b nb) (fun k => k < w.heap.size) (w5.alloc (.cells #[.int .i64 xc, .int .i64 n, .string xd, .int .i64 xp, .slice xo xon xoc, .int .i64 xm, .int .i64 xz, .int .i64 xe] 38)) (h.asked akT 0) from Solo.below (TT.out b nb) hu5 (below_new _ _))
              have B5 := Lib.hid ((HB.out.trans (hk5.toBelow HB.out.size (fun k h => h))).alloc (HB.out.trans (hk5.toBelow HB.out.size (fun k h => h))).size (.cells #[.int .i64 xc, .int .i64 n, .string xd, .int .i64 xp, .slice xo xon xoc, .int .i64 xm, .int .i64 xz, .int .i64 xe] 38))
              have q1 := cell_of (heap_alloc_new w5 (.cells #[.int .i64 xc, .int .i64 n, .string xd, .int .i64 xp, .slice xo xon xoc, .int .i64 xm, .int .i64 xz, .int .i64 xe] 38)) 1
              have hlen : (h.asked akT 0).held.length = m := HT.out.len
              clear hu5 hk5 HU HB HT
              go_wp2_with (first
                | (go_at_call 18; refine (h_held HS U5.out).mono ?_; rw [hlen]; rintro e w6 ⟨vo, vc, rfl, hs6, hb6⟩; have B6 := Lib.hid (B5.out.trans (hb6.mono B5.out.size)); clear hs6 hb6)
                | (go_at_call 9; refine (CW.out _).mono ?_; rintro e w7 ⟨rfl, hb7⟩; have B7 := Lib.hid (B6.out.trans (hb7.mono B6.out.size)); clear hb7))
              go_ret
              exact ⟨rfl, B7.out⟩
            · have n0 : (d.length : Int) ≤ (k : Int) := by omega
              clear hlt
              go_wp2_with fail
              refine (h_askN HS HU.out (k := 7) (u := 0) (e := 0) (p := 0) (fate := 0) (s := ⟨#[]⟩) (ZZ.out 7 (by omega)) (ZZ.out 0 (by omega)) (ZZ.out 0 (by omega)) (ZZ.out 0 (by omega)) (Nat.zero_le _) HT.out.used (ZZ.out 0 (by omega))).mono ?_
              rintro e w5 ⟨xc, xn, xd, xp, xm, xz, xe, xo, xon, xoc, c, rfl, hc, ⟨hq3, hxn⟩, hu5, hk5⟩
              clear hq3
              rw [show decide ((0 : Int) = 0) = true from rfl] at hc
              subst hc
              rw [show (h.heard (akN 7 0 0 0 ⟨#[]⟩) 0).n = (n : Int) from HT.out.tail] at hxn
              subst hxn
              have U5 := Lib.hid (show Solo (HG b nb) (fun k => k < w.heap.size) (w5.alloc (.cells #[.int .i64 xc, .int .i64 n, .string xd, .int .i64 xp, .slice xo xon xoc, .int .i64 xm, .int .i64 xz, .int .i64 xe] 38)) (h.asked akT 0) from Solo.below (TT.out b nb) hu5 (below_new _ _))
              have B5 := Lib.hid ((HB.out.trans (hk5.toBelow HB.out.size (fun k h => h))).alloc (HB.out.trans (hk5.toBelow HB.out.size (fun k h => h))).size (.cells #[.int .i64 xc, .int .i64 n, .string xd, .int .i64 xp, .slice xo xon xoc, .int .i64 xm, .int .i64 xz, .int .i64 xe] 38))
              have q1 := cell_of (heap_alloc_new w5 (.cells #[.int .i64 xc, .int .i64 n, .string xd, .int .i64 xp, .slice xo xon xoc, .int .i64 xm, .int .i64 xz, .int .i64 xe] 38)) 1
              have hlen : (h.asked akT 0).held.length = m := HT.out.len
              clear hu5 hk5 HU HB HT
              go_wp2_with (first
                | (go_at_call 18; refine (h_held HS U5.out).mono ?_; rw [hlen]; rintro e w6 ⟨vo, vc, rfl, hs6, hb6⟩; have B6 := Lib.hid (B5.out.trans (hb6.mono B5.out.size)); clear hs6 hb6)
                | (go_at_call 9; refine (CW.out _).mono ?_; rintro e w7 ⟨rfl, hb7⟩; have B7 := Lib.hid (B6.out.trans (hb7.mono B6.out.size)); clear hb7))
              go_ret
              exact ⟨rfl, B7.out⟩
      · have n0 : (l.length : Int) ≤ (k : Int) := by omega
        clear hlt
        go_wp2_with fail
        go_loopw [8, 9, 14] (fun vn vm i wr => ∃ (k n m : Nat) (h : Hd), vn = .int .i64 n ∧ vm = .int .i64 m ∧ i = .int .i64 k ∧ k ≤ d.length ∧ n ≤ 100 + k ∧ n ≤ 200 ∧ m ≤ 64 ∧ Hid (Tok h n m) ∧ Hid (Solo (HG b nb) (fun k => k < w.heap.size) wr h) ∧ Hid (Below w.heap.size w wr)) (fun _ _ i _ => d.length - (intOf i).toNat)
        case atStart => exact ⟨0, n, m, h, rfl, rfl, rfl, Nat.zero_le _, by omega, by omega, by omega, HT, HU, HB⟩
        case round =>
          clear HU HB HT hk hnk hn hm n0
          obtain ⟨k, n, m, h, rfl, rfl, rfl, hk, hnk, hn, hm, HT, HU, HB⟩ := hrel
          by_cases hlt : k < d.length ∧ k < 100
          · obtain ⟨hlt, h100⟩ := hlt
            have n0 : (k : Int) < (d.length : Int) := by omega
            have n1 : (k : Int) < 100 := by omega
            obtain ⟨bk, off, hao, c0w⟩ := byte_at HF2.out hlt
            subst hao
            have c0 : wr.cell? ⟨bk, off + k, none⟩ = some (.int .u8 d[k]) := cellB HB.out (block_lt_of_cell c0w) c0w
            have hv := HK2.out _ (List.getElem_mem hlt)
            clear c0w
            generalize d[k] = v0 at *
            obtain ⟨v, rfl⟩ : ∃ v : Nat, v0 = v := ⟨v0.toNat, by have := hv.1; omega⟩
            have hv2 : v < 256 := by have := hv.2; omega
            clear hv
            by_cases hvm : v < m
            · have m0 : (v : Int) < (m : Int) := by omega
              have HT2 := Lib.hid (show Tok (h.does v) (n + 1) (m - 1) from by have h1 := HT.out.does (by omega) v; rwa [if_pos hvm, if_pos hvm] at h1)
              have hh : h.has v = true := by rw [HT.out.has v]; exact decide_eq_true hvm
              go_wp2_with (go_at_call 14; refine (h_does HS HU.out HT.out.used (ZZ.out _ (by omega))).mono ?_; rw [hh]; rintro e w4 ⟨rfl, hs4, hk4⟩; have U4 := Lib.hid hs4; have B4 := Lib.hid (HB.out.trans (hk4.toBelow HB.out.size (fun k h => h))); clear hs4 hk4)
              go_roundw
              case rel => exact ⟨k + 1, n + 1, m - 1, h.does v, by go_num, by go_num, by go_num, by omega, by omega, by omega, by omega, HT2, U4, B4⟩
              case measure => simp [intOf]; omega
            · have m0 : (m : Int) ≤ (v : Int) := by omega
              have HT2 := Lib.hid (show Tok (h.does v) n m from by have h1 := HT.out.does (by omega) v; rwa [if_neg hvm, if_neg hvm] at h1)
              have hh : h.has v = false := by rw [HT.out.has v]; exact decide_eq_false hvm
              go_wp2_with (go_at_call 14; refine (h_does HS HU.out HT.out.used (ZZ.out _ (by omega))).mono ?_; rw [hh]; rintro e w4 ⟨rfl, hs4, hk4⟩; have U4 := Lib.hid hs4; have B4 := Lib.hid (HB.out.trans (hk4.toBelow HB.out.size (fun k h => h))); clear hs4 hk4)
              go_roundw
              case rel => exact ⟨k + 1, n, m, h.does v, by go_num, by go_num, by go_num, by omega, by omega, by omega, by omega, HT2, U4, B4⟩
              case measure => simp [intOf]; omega
          · by_cases hlt2 : k < d.length
            · have n0 : (k : Int) < (d.length : Int) := by omega
              have n1 : (100 : Int) ≤ (k : Int) := by omega
              clear hlt
              go_wp2_with fail
              refine (h_askN HS HU.out (k := 7) (u := 0) (e := 0) (p := 0) (fate := 0) (s := ⟨#[]⟩) (ZZ.out 7 (by omega)) (ZZ.out 0 (by omega)) (ZZ.out 0 (by omega)) (ZZ.out 0 (by omega)) (Nat.zero_le _) HT.out.used (ZZ.out 0 (by omega))).mono ?_
              rintro e w5 ⟨xc, xn, xd, xp, xm, xz, xe, xo, xon, xoc, c, rfl, hc, ⟨hq3, hxn⟩, hu5, hk5⟩
              clear hq3
              rw [show decide ((0 : Int) = 0) = true from rfl] at hc
              subst hc
              rw [show (h.heard (akN 7 0 0 0 ⟨#[]⟩) 0).n = (n : Int) from HT.out.tail] at hxn
              subst hxn
              have U5 := Lib.hid (show Solo (HG b nb) (fun k => k < w.heap.size) (w5.alloc (.cells #[.int .i64 xc, .int .i64 n, .string xd, .int .i64 xp, .slice xo xon xoc, .int .i64 xm, .int .i64 xz, .int .i64 xe] 38)) (h.asked akT 0) from Solo.below (TT.out b nb) hu5 (below_new _ _))
              have B5 := Lib.hid ((HB.out.trans (hk5.toBelow HB.out.size (fun k h => h))).alloc (HB.out.trans (hk5.toBelow HB.out.size (fun k h => h))).size (.cells #[.int .i64 xc, .int .i64 n, .string xd, .int .i64 xp, .slice xo xon xoc, .int .i64 xm, .int .i64 xz, .int .i64 xe] 38))
              have q1 := cell_of (heap_alloc_new w5 (.cells #[.int .i64 xc, .int .i64 n, .string xd, .int .i64 xp, .slice xo xon xoc, .int .i64 xm, .int .i64 xz, .int .i64 xe] 38)) 1
              have hlen : (h.asked akT 0).held.length = m := HT.out.len
              clear hu5 hk5 HU HB HT
              go_wp2_with (first
                | (go_at_call 18; refine (h_held HS U5.out).mono ?_; rw [hlen]; rintro e w6 ⟨vo, vc, rfl, hs6, hb6⟩; have B6 := Lib.hid (B5.out.trans (hb6.mono B5.out.size)); clear hs6 hb6)
                | (go_at_call 9; refine (CW.out _).mono ?_; rintro e w7 ⟨rfl, hb7⟩; have B7 := Lib.hid (B6.out.trans (hb7.mono B6.out.size)); clear hb7))
              go_ret
              exact ⟨rfl, B7.out⟩
            · have n0 : (d.length : Int) ≤ (k : Int) := by omega
              clear hlt
              go_wp2_with fail
              refine (h_askN HS HU.out (k := 7) (u := 0) (e := 0) (p := 0) (fate := 0) (s := ⟨#[]⟩) (ZZ.out 7 (by omega)) (ZZ.out 0 (by omega)) (ZZ.out 0 (by omega)) (ZZ.out 0 (by omega)) (Nat.zero_le _) HT.out.used (ZZ.out 0 (by omega))).mono ?_
              rintro e w5 ⟨xc, xn, xd, xp, xm, xz, xe, xo, xon, xoc, c, rfl, hc, ⟨hq3, hxn⟩, hu5, hk5⟩
              clear hq3
              rw [show decide ((0 : Int) = 0) = true from rfl] at hc
              subst hc
              rw [show (h.heard (akN 7 0 0 0 ⟨#[]⟩) 0).n = (n : Int) from HT.out.tail] at hxn
              subst hxn
              have U5 := Lib.hid (show Solo (HG b nb) (fun k => k < w.heap.size) (w5.alloc (.cells #[.int .i64 xc, .int .i64 n, .string xd, .int .i64 xp, .slice xo xon xoc, .int .i64 xm, .int .i64 xz, .int .i64 xe] 38)) (h.asked akT 0) from Solo.below (TT.out b nb) hu5 (below_new _ _))
              have B5 := Lib.hid ((HB.out.trans (hk5.toBelow HB.out.size (fun k h => h))).alloc (HB.out.trans (hk5.toBelow HB.out.size (fun k h => h))).size (.cells #[.int .i64 xc, .int .i64 n, .string xd, .int .i64 xp, .slice xo xon xoc, .int .i64 xm, .int .i64 xz, .int .i64 xe] 38))
              have q1 := cell_of (heap_alloc_new w5 (.cells #[.int .i64 xc, .int .i64 n, .string xd, .int .i64 xp, .slice xo xon xoc, .int .i64 xm, .int .i64 xz, .int .i64 xe] 38)) 1
              have hlen : (h.asked akT 0).held.length = m := HT.out.len
              clear hu5 hk5 HU HB HT
              go_wp2_with (first
                | (go_at_call 18; refine (h_held HS U5.out).mono ?_; rw [hlen]; rintro e w6 ⟨vo, vc, rfl, hs6, hb6⟩; have B6 := Lib.hid (B5.out.trans (hb6.mono B5.out.size)); clear hs6 hb6)
                | (go_at_call 9; refine (CW.out _).mono ?_; rintro e w7 ⟨rfl, hb7⟩; have B7 := Lib.hid (B6.out.trans (hb7.mono B6.out.size)); clear hb7))
              go_ret
              exact ⟨rfl, B7.out⟩

set_option maxRecDepth 100000 in
theorem handOnce_lifted (os : Os) (started : os.Started) (H : Type) (enc : TypeId × Value → H) :
    ReturnsInHanded {} Tryz.checked os 4 .any (Rows.handOnceSpec.pre6 enc Tryz.prog Tryz.f4 Rows.handOnceRow.domain false) (Rows.handOnceSpec.post enc Tryz.prog Tryz.f4 false true false false) := by
  refine returnsInHanded_of_change (C := Tryz.checked) own started (by kernel_rfl) Tryz.func4
    (ChangeSpec.witness6 (enc := enc) (C := Tryz.checked) false ⟨#[], #[.slice none 0 0, .slice none 0 0], []⟩ 8 (by kernel_rfl) (by kernel_rfl) (by kernel_rfl) (by kernel_rfl)) ?_
  intro W base args ds gs before hval0 hW hcnd _
  have hval : ∀ (j : Nat) t v, Tryz.f4.params[j]? = some t → args[j]? = some v → Value.okWide Tryz.prog W .any base t v := hval0
  have hW' := hW
  obtain ⟨p, q, hA0, hV, rfl, hfz, hnd⟩ := hW
  have hA : DataW.TrodAll enc Tryz.prog W 0 (fun _ => true) true Tryz.f4.params.toList args.toList ds p := hA0
  rw [Tryz.params4] at hA hval
  obtain ⟨v0, vs0, d0, ds0, p0, q0, hargs, rfl, rfl, h0, r0⟩ := trodAll_cons hA
  obtain ⟨v1, vs1, d1, ds1, p1, q1, rfl, rfl, rfl, h1, r1⟩ := trodAll_cons r0
  obtain ⟨rfl, rfl, rfl⟩ := trodAll_nil r1
  obtain rfl : args = #[v0, v1] := by cases args; simp_all
  obtain ⟨rfl, rfl⟩ := trodVars_none hV
  have k0 := h0
  have lt0 : ∀ x ∈ p0, x.block < W.heap.size := by obtain ⟨m, hm⟩ := k0; exact DataW.trod_lt m _ _ _ hm
  have k1 := h1
  have lt1 : ∀ x ∈ p1, x.block < W.heap.size := by obtain ⟨m, hm⟩ := k1; exact DataW.trod_lt m _ _ _ hm
  obtain ⟨ao0, cap0, L0, rfl, w0, hR0, hK0, hn0, hc0⟩ := open_rows (f := byteC) (ok := byteOk) (n := 0) Tryz.underlying56 (by kernel_rfl) (fun m cs y hl hf => byte_cs Tryz.underlying5 hl hf) (hval 0 56 v0 rfl rfl) h0
  obtain ⟨ao1, cap1, L1, rfl, w1, hR1, hK1, hn1, hc1⟩ := open_rows (f := byteC) (ok := byteOk) (n := 0) Tryz.underlying56 (by kernel_rfl) (fun m cs y hl hf => byte_cs Tryz.underlying5 hl hf) (hval 1 56 v1 rfl rfl) h1
  clear hA0 hval0
  refine (handOnce_walk handSays ao0 cap0 L0 ao1 cap1 L1 w0 w1 W hR0 hK0 hR1 hK1).mono fun e W' ⟨he, bel⟩ => ?_
  subst he
  exact ⟨_, rfl, _, _, _, [], _, [], hW', trodAll_mk1 (shut_bool Tryz.underlying4 _), (trodAll_cons_mk (Below.trod laidOut (by kernel_rfl) (of_decide_eq_true (by kernel_rfl)) k0 bel lt0) (trodAll_cons_mk (Below.trod laidOut (by kernel_rfl) (of_decide_eq_true (by kernel_rfl)) k1 bel lt1) trodAll_mk0)), rfl, bel.frame _, fun h => by cases h⟩

theorem handOnce_over : Rows.handOnceRow.holds Tryz.pinned (OpenSpec.ofChange Rows.handOnceSpec) :=
  OpenClaim.holds_of_wide 4 Tryz.f4 rfl rfl rfl rfl rfl rfl rfl ⟨rfl, rfl, rfl, rfl, rfl⟩ rfl rfl rfl rfl rfl (by kernel_rfl) Tryz.func4 (by kernel_rfl)
    (of_decide_eq_true (by kernel_rfl)) (by unfold Func.isWrapper; first | (rw [if_pos (by decide +kernel)]; kernel_rfl) | (rw [if_neg (by decide +kernel)]; exact ⟨rfl, rfl⟩))
    (fun os started H enc _ => handOnce_lifted os started H enc)

/-- THE STATEMENT -/
theorem handOnce_holds : Rows.HandOnceSaid := handOnce_over 
end Go.Proofs.YtkicjgaejieinaaGreat
