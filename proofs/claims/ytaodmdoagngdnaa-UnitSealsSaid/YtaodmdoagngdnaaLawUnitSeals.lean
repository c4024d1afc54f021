/- The law UnitSeals: once an epoch is sealed, no elder one writes, fills or trims anything, whatever is asked. No conditions. -/
import Derived.Test.YtaodmdoagngdnaaUnpH
import Derived.Test.YtaodmdoagngdnaaUniV
namespace Go.Proofs.Ytaodmdoagngdnaa
open Go.ChangeShapes Go.WideShapes Go.ChangeAt Go.RowKit
open Go.ChangeMaps (open_string shut_string)
set_option linter.unusedVariables false
set_option maxRecDepth 20000

def firstS : ByteArray := ⟨#[102, 105, 114, 115, 116]⟩
def sealP : Ps := (newP 50).write 0 firstS
theorem sealP_facts : sealP.readE 0 = 0 ∧ sealP.readS 0 = firstS ∧ (sealP.l.length : Int) = 1 ∧ sealP.edge = 0 := by decide +kernel
theorem seal_start {n : Int} (hn : 1 ≤ n) : ((newU 50).done (akP 1 0 0 firstS)) = ⟨sealP, 0, false⟩ ∧ ((⟨sealP, 0, false⟩ : Us).ans (akP 5 n 0 ⟨#[]⟩)).code = 0 ∧ (⟨sealP, 0, false⟩ : Us).done (akP 5 n 0 ⟨#[]⟩) = ⟨sealP, n, false⟩ := by
  refine ⟨rfl, ?_, ?_⟩
  · unfold Us.ans
    rw [if_neg (by decide), if_neg (by show ¬ ((5 : Int) < 1 ∨ (5 : Int) < 5); omega), if_neg (by show ¬ n < 0; omega), if_pos (by show (5 : Int) = 5; rfl)]
    rfl
  · unfold Us.done
    rw [if_neg (by show ¬ (false = true ∨ ((5 : Int) < 1 ∨ (5 : Int) < 5) ∨ n < 0); simp; omega), if_pos (by show (5 : Int) = 5; rfl)]
    rfl
theorem seal_old {p : Ps} {n : Int} {d : Bool} {a : Ak} (h : a.epoch < n) : ((⟨p, n, d⟩ : Us).ans a).code ≠ 0 ∧ (⟨p, n, d⟩ : Us).done a = ⟨p, n, d⟩ := by
  refine ⟨?_, if_pos (.inr (.inr h))⟩
  unfold Us.ans
  split
  · show (45 : Int) ≠ 0; omega
  split
  · show (1 : Int) ≠ 0; omega
  · show (40 : Int) ≠ 0; omega
theorem seal_end {n : Int} (hn : 1 ≤ n) : ((⟨sealP, n, false⟩ : Us).ans (akP 3 n 0 ⟨#[]⟩)).code = 0 ∧ ((⟨sealP, n, false⟩ : Us).ans (akP 3 n 0 ⟨#[]⟩)).data = firstS ∧ (⟨sealP, n, false⟩ : Us).done (akP 3 n 0 ⟨#[]⟩) = ⟨sealP, n, false⟩ := by
  have ha : (⟨sealP, n, false⟩ : Us).ans (akP 3 n 0 ⟨#[]⟩) = anP 0 0 firstS n := by
    unfold Us.ans
    rw [if_neg (by show ¬ false = true; decide), if_neg (by show ¬ ((3 : Int) < 1 ∨ (5 : Int) < 3); omega), if_neg (by show ¬ n < n; omega), if_neg (by show ¬ (3 : Int) = 5; omega), if_pos (by show (3 : Int) = 3; rfl)]
    show anP (sealP.readE 0) 0 (sealP.readS 0) n = _
    rw [sealP_facts.1, sealP_facts.2.1]
  refine ⟨by rw [ha]; rfl, by rw [ha]; rfl, ?_⟩
  unfold Us.done
  rw [if_neg (by show ¬ (false = true ∨ ((3 : Int) < 1 ∨ (5 : Int) < 3) ∨ n < n); simp), if_neg (by show ¬ (3 : Int) = 5; omega)]
  rfl
theorem tmod_lt (x : Int) {n : Int} (hn : 1 ≤ n ∧ n ≤ 256) : ∃ m, x.tmod n = m ∧ -256 < m ∧ m < n := by
  refine ⟨_, rfl, ?_, Int.tmod_lt_of_pos x (by omega)⟩
  have := Int.lt_tmod_of_pos x (show 0 < n by omega)
  omega
set_option maxHeartbeats 8000000 in
theorem unitSeals_walk {UG : Nat → Nat → (Nat → Prop) → World → Us → Prop} (HS : UnitSays UG) (ao : Option Addr) (cap : Nat) (l : List Sk) (x : Int) (hl : l.length ≤ maxLen) (wx : (Lit.int .u8 x).wf = true) (w : World) (hR : Row w ao 10 stepC l) (hK : ∀ s ∈ l, SkIn w s) :
    Calls Try.prog 4 #[.slice ao l.length cap, .int .u8 x] w fun e w' => e = .returned (.bool true) ∧ Below w.heap.size w w' := by
  have CW := Lib.hid (fun w => wakes10_any HS w)
  have CN := Lib.hid (u_new HS w (room := 50) (by decide))
  have TT := Lib.hid (fun b pb => HS.thing b pb)
  unfold ptrV at CN
  obtain ⟨x0, x1⟩ : 0 ≤ x ∧ x < 256 := by
    have h := wx
    simp [Lit.wf] at h
    have e1 : IntKind.u8.min = 0 := by decide
    have e2 : IntKind.u8.max = 255 := by decide
    omega
  have HF := Lib.hid hR
  have HK := Lib.hid hK
  have hl2 : l.length ≤ maxLen := hl
  unfold maxLen at hl
  have hl' : (l.length : Int) ≤ 9223372036854775807 := by omega
  have Z0 := Lib.hid (show i64w 0 from i64w_small (by omega))
  have Z1 := Lib.hid (show i64w 1 from i64w_small (by omega))
  have Z3 := Lib.hid (show i64w 3 from i64w_small (by omega))
  have Z5 := Lib.hid (show i64w 5 from i64w_small (by omega))
  clear hR hK wx
  go_enter Try.func4, Try.ntmps4
  go_wp2_with (go_at_call 7; refine CN.out.mono ?_; rintro e w1 ⟨b, pb, rfl, hu1, hb1⟩; have U1 := Lib.hid hu1; have B1 := Lib.hid hb1; clear hu1 hb1)
  refine (fair10_any ao cap l _ hl2 (HF.out.below B1.out) (fun s hs => ⟨(HK.out s hs).1, (HK.out s hs).2.below B1.out⟩)).mono ?_
  rintro e w2 ⟨⟨c, rfl, hc⟩, hb2⟩
  have U2 := Lib.hid (U1.out.below (TT.out b pb) hb2)
  have B2 := Lib.hid (B1.out.trans (hb2.mono B1.out.size))
  clear hb2 U1 B1 hl2
  cases c
  · clear hc
    go_wp2_with (go_at_call 10; refine (CW.out _).mono ?_; rintro e w3 ⟨rfl, hb3⟩; have B3 := Lib.hid (B2.out.trans (hb3.mono B2.out.size)); clear hb3)
    go_ret
    exact ⟨rfl, B3.out⟩
  have HFa := Lib.hid (hc rfl)
  clear hc
  go_wp2_with fail
  refine (u_askP HS U2.out (k := 1) (e := 0) (p := 0) (s := firstS) Z1.out Z0.out Z0.out (by decide)).mono ?_
  rintro e w3 ⟨rfl, hu3, hk3⟩
  have B3 := Lib.hid (B2.out.trans (hk3.toBelow B2.out.size (fun k h => h)))
  rw [show ((newU 50).done (akP 1 0 0 firstS)) = ⟨sealP, 0, false⟩ from rfl] at hu3
  have U3 := Lib.hid hu3
  clear hu3 hk3 U2 B2
  have hf0 : ∀ (c n e : Int) (s : ByteArray) (W : World), (Instr.field 41 (.agg #[.int .i64 c, .int .i64 n, .string s, .int .i64 0, .slice none 0 0, .int .i64 0, .int .i64 0, .int .i64 e]) 0).run Try.prog W = .ok (.int .i64 c) W := fun c n e s W => by kernel_rfl
  go_wp2_with fail
  have n1 : 1 ≤ 1 + x := by omega
  have n2 : 1 + x ≤ 256 := by omega
  generalize 1 + x = n at *
  have HN := Lib.hid (show 1 ≤ n ∧ n ≤ 256 from ⟨n1, n2⟩)
  obtain ⟨s1, s2, s3⟩ := seal_start n1
  have ZN := Lib.hid (show i64w n from i64w_small (by omega))
  refine (u_askP HS U3.out (k := 5) (e := n) (p := 0) (s := ⟨#[]⟩) Z5.out ZN.out Z0.out (by decide)).mono ?_
  rintro e w4 ⟨rfl, hu4, hk4⟩
  rw [s2]
  rw [s3] at hu4
  have U4 := Lib.hid hu4
  have B4 := Lib.hid (B3.out.trans (hk4.toBelow B3.out.size (fun k h => h)))
  clear hu4 hk4 U3 B3 s1 s2 s3
  go_wp2_with fail
  go_loopw [9] (fun i wr => ∃ (k : Nat) (d : Bool), i = .int .i64 k ∧ k ≤ l.length ∧ Hid (Solo (UG b pb) (fun k => k < w.heap.size) wr ⟨sealP, n, d⟩) ∧ Hid (Below w.heap.size w wr)) (fun i _ => l.length - (intOf i).toNat)
  case atStart => exact ⟨0, false, rfl, Nat.zero_le _, U4, B4⟩
  case round =>
    clear U4 B4
    obtain ⟨k, d, rfl, hkl, HU, HB⟩ := hrel
    by_cases hlt : k < l.length
    · obtain ⟨bk, off, hao, d0, d1, d2, d3, d4, d5, d6, d7, d8, d9⟩ := step_at (HF.out.below HB.out) hlt
      subst hao
      have k0 : (k : Int) < (l.length : Int) := by omega
      have HA := Lib.hid ((HK.out _ (List.getElem_mem hlt)).2.below HB.out)
      have HLA := Lib.hid (HFa.out.2 _ (List.getElem_mem hlt))
      generalize l[k] = sk at *
      obtain ⟨sk, a⟩ := sk
      simp only at d0 d1 d2 d3 d4 d5 d6 d7 d8 d9 HA HLA
      by_cases q0 : sk = 0
      · have q0' : (sk == 0) = true := by rw [q0]; rfl
        clear q0
        obtain ⟨kd, un, ep, pg, sz, nn, s, pe, L, ao2, cap2⟩ := a
        simp only at d1 d2 d3 d4 d5 d6 d7 d8 d9
        have HS6 := Lib.hid (show s.size ≤ 1000000 from Nat.le_trans (largeA_no HLA.out).1 (by decide))
        by_cases q5 : kd = 5 ∧ n < ep
        · obtain ⟨q5, q6⟩ := q5
          have q5' : (kd == 5) = true := by rw [q5]; rfl
          clear q5
          go_wp2_with fail
          go_roundw
          case rel => exact ⟨k + 1, d, by go_num, by omega, Lib.hid (HU.out.below (TT.out b pb) ((Below.refl _ _).alloc (Nat.le_refl _) _)), Lib.hid (HB.out.alloc HB.out.size _)⟩
          case measure => simp [intOf]; omega
        · have HTM := Lib.hid (tmod_lt ep HN.out)
          have nz : ¬ n = 0 := by omega
          have fin : ((kd == 5) && decide (n < ep)) = false := by
            by_cases h5 : kd = 5
            · rw [decide_eq_false (show ¬ n < ep from fun h => q5 ⟨h5, h⟩), Bool.and_false]
            · rw [beq_eq_false_iff_ne.2 h5, Bool.false_and]
          clear q5 HLA
          by_cases h5 : kd = 5
          · have h5' : (kd == 5) = true := by rw [h5]; rfl
            have h6 : decide (n < ep) = false := by rw [h5'] at fin; exact fin
            clear h5 fin
            go_wp2_with fail
            obtain ⟨m, hm, m0, m1⟩ := HTM.out
            clear HTM
            rw [hm]
            clear hm
            have HAM := Lib.hid (show AkIn (wr.alloc (.cells #[.int .i64 kd, .int .i64 un, .int .i64 m, .int .i64 pg, .int .i64 sz, .int .i64 nn, .string s, .int .i64 pe, .slice ao2 L.length cap2] 36)) ⟨kd, un, m, pg, sz, nn, s, pe, L, ao2, cap2⟩ from
              ⟨⟨HA.out.1.kind, HA.out.1.unit, i64w_small (x := m) (by omega), HA.out.1.page, HA.out.1.size, HA.out.1.n, HA.out.1.data, HA.out.1.pe, HA.out.1.len, HA.out.1.each, HA.out.1.nil, HA.out.1.room⟩, HA.out.2.below ((Below.refl _ _).alloc (Nat.le_refl _) _)⟩)
            obtain ⟨o1, o2⟩ := seal_old (p := sealP) (d := d) (a := ⟨kd, un, m, pg, sz, nn, s, pe, L, ao2, cap2⟩) m1
            have c9 : (((⟨sealP, n, d⟩ : Us).ans ⟨kd, un, m, pg, sz, nn, s, pe, L, ao2, cap2⟩).code == 0) = false := beq_eq_false_iff_ne.2 o1
            refine (u_ask HS (HU.out.below (TT.out b pb) ((Below.refl _ _).alloc (Nat.le_refl _) _)) HAM.out HS6.out).mono ?_
            rintro e w5 ⟨rfl, hu5, hk5⟩
            rw [o2] at hu5
            unfold anV
            have U5 := Lib.hid (hu5.beside (TT.out b pb) (.cells #[.int .i64 ((⟨sealP, n, d⟩ : Us).ans ⟨kd, un, m, pg, sz, nn, s, pe, L, ao2, cap2⟩).code, .int .i64 ((⟨sealP, n, d⟩ : Us).ans ⟨kd, un, m, pg, sz, nn, s, pe, L, ao2, cap2⟩).n, .string ((⟨sealP, n, d⟩ : Us).ans ⟨kd, un, m, pg, sz, nn, s, pe, L, ao2, cap2⟩).data, .int .i64 0, .slice none 0 0, .int .i64 0, .int .i64 0, .int .i64 ((⟨sealP, n, d⟩ : Us).ans ⟨kd, un, m, pg, sz, nn, s, pe, L, ao2, cap2⟩).epoch] 41))
            have B5 := Lib.hid ((HB.out.alloc HB.out.size _).trans (hk5.toBelow (by have := HB.out.size; simp; omega) (fun k h => h)))
            clear hu5 hk5 o1 o2 HAM
            generalize ((⟨sealP, n, d⟩ : Us).ans ⟨kd, un, m, pg, sz, nn, s, pe, L, ao2, cap2⟩) = an at *
            go_wp2_with fail
            refine (u_look HS (U5.out.less (fun k h => .inl h)) (fun G hG => HS.epoch b pb G _ _ hG)).mono ?_
            rintro e w6 ⟨rfl, hu6, hk6⟩
            have U6 := Lib.hid (show Solo (UG b pb) (fun k => k < w.heap.size) w6 ⟨sealP, n, d⟩ from hu6)
            have B6 := Lib.hid ((B5.out.alloc B5.out.size _).trans (hk6.toBelow (by have := B5.out.size; simp; omega) (fun k h => h)))
            clear hu6 hk6 U5 B5
            go_wp2_with fail
            go_roundw
            case rel => exact ⟨k + 1, d, by go_num, by omega, U6, B6⟩
            case measure => simp [intOf]; omega
          · have h5' : (kd == 5) = false := beq_eq_false_iff_ne.2 h5
            clear h5 fin
            go_wp2_with fail
            obtain ⟨m, hm, m0, m1⟩ := HTM.out
            clear HTM
            rw [hm]
            clear hm
            have HAM := Lib.hid (show AkIn (wr.alloc (.cells #[.int .i64 kd, .int .i64 un, .int .i64 m, .int .i64 pg, .int .i64 sz, .int .i64 nn, .string s, .int .i64 pe, .slice ao2 L.length cap2] 36)) ⟨kd, un, m, pg, sz, nn, s, pe, L, ao2, cap2⟩ from
              ⟨⟨HA.out.1.kind, HA.out.1.unit, i64w_small (x := m) (by omega), HA.out.1.page, HA.out.1.size, HA.out.1.n, HA.out.1.data, HA.out.1.pe, HA.out.1.len, HA.out.1.each, HA.out.1.nil, HA.out.1.room⟩, HA.out.2.below ((Below.refl _ _).alloc (Nat.le_refl _) _)⟩)
            obtain ⟨o1, o2⟩ := seal_old (p := sealP) (d := d) (a := ⟨kd, un, m, pg, sz, nn, s, pe, L, ao2, cap2⟩) m1
            have c9 : (((⟨sealP, n, d⟩ : Us).ans ⟨kd, un, m, pg, sz, nn, s, pe, L, ao2, cap2⟩).code == 0) = false := beq_eq_false_iff_ne.2 o1
            refine (u_ask HS (HU.out.below (TT.out b pb) ((Below.refl _ _).alloc (Nat.le_refl _) _)) HAM.out HS6.out).mono ?_
            rintro e w5 ⟨rfl, hu5, hk5⟩
            rw [o2] at hu5
            unfold anV
            have U5 := Lib.hid (hu5.beside (TT.out b pb) (.cells #[.int .i64 ((⟨sealP, n, d⟩ : Us).ans ⟨kd, un, m, pg, sz, nn, s, pe, L, ao2, cap2⟩).code, .int .i64 ((⟨sealP, n, d⟩ : Us).ans ⟨kd, un, m, pg, sz, nn, s, pe, L, ao2, cap2⟩).n, .string ((⟨sealP, n, d⟩ : Us).ans ⟨kd, un, m, pg, sz, nn, s, pe, L, ao2, cap2⟩).data, .int .i64 0, .slice none 0 0, .int .i64 0, .int .i64 0, .int .i64 ((⟨sealP, n, d⟩ : Us).ans ⟨kd, un, m, pg, sz, nn, s, pe, L, ao2, cap2⟩).epoch] 41))
            have B5 := Lib.hid ((HB.out.alloc HB.out.size _).trans (hk5.toBelow (by have := HB.out.size; simp; omega) (fun k h => h)))
            clear hu5 hk5 o1 o2 HAM
            generalize ((⟨sealP, n, d⟩ : Us).ans ⟨kd, un, m, pg, sz, nn, s, pe, L, ao2, cap2⟩) = an at *
            go_wp2_with fail
            refine (u_look HS (U5.out.less (fun k h => .inl h)) (fun G hG => HS.epoch b pb G _ _ hG)).mono ?_
            rintro e w6 ⟨rfl, hu6, hk6⟩
            have U6 := Lib.hid (show Solo (UG b pb) (fun k => k < w.heap.size) w6 ⟨sealP, n, d⟩ from hu6)
            have B6 := Lib.hid ((B5.out.alloc B5.out.size _).trans (hk6.toBelow (by have := B5.out.size; simp; omega) (fun k h => h)))
            clear hu6 hk6 U5 B5
            go_wp2_with fail
            go_roundw
            case rel => exact ⟨k + 1, d, by go_num, by omega, U6, B6⟩
            case measure => simp [intOf]; omega
      · have q0' : (sk == 0) = false := beq_eq_false_iff_ne.2 q0
        by_cases q1 : sk = 1
        · have q1' : (sk == 1) = true := by rw [q1]; rfl
          clear q0 q1
          go_wp2_with fail
          refine (u_crash HS HU.out).mono ?_
          rintro e w5 ⟨rfl, hu5, hk5⟩
          have U5 := Lib.hid (show Solo (UG b pb) (fun k => k < w.heap.size) w5 ⟨sealP, n, true⟩ from hu5)
          have B5 := Lib.hid (HB.out.trans (hk5.toBelow HB.out.size (fun k h => h)))
          clear hu5 hk5
          go_wp2_with fail
          refine (u_look HS U5.out (fun G hG => HS.epoch b pb G _ _ hG)).mono ?_
          rintro e w6 ⟨rfl, hu6, hk6⟩
          have U6 := Lib.hid (show Solo (UG b pb) (fun k => k < w.heap.size) w6 ⟨sealP, n, true⟩ from hu6)
          have B6 := Lib.hid (B5.out.trans (hk6.toBelow B5.out.size (fun k h => h)))
          clear hu6 hk6
          go_wp2_with fail
          go_roundw
          case rel => exact ⟨k + 1, true, by go_num, by omega, U6, B6⟩
          case measure => simp [intOf]; omega
        have q1' : (sk == 1) = false := beq_eq_false_iff_ne.2 q1
        by_cases q2 : sk = 2
        · have q2' : (sk == 2) = true := by rw [q2]; rfl
          clear q0 q1 q2
          go_wp2_with fail
          refine (u_start HS HU.out).mono ?_
          rintro e w5 ⟨rfl, hu5, hk5⟩
          have U5 := Lib.hid (show Solo (UG b pb) (fun k => k < w.heap.size) w5 ⟨sealP, n, false⟩ from hu5)
          have B5 := Lib.hid (HB.out.trans (hk5.toBelow HB.out.size (fun k h => h)))
          clear hu5 hk5
          go_wp2_with fail
          refine (u_look HS U5.out (fun G hG => HS.epoch b pb G _ _ hG)).mono ?_
          rintro e w6 ⟨rfl, hu6, hk6⟩
          have U6 := Lib.hid (show Solo (UG b pb) (fun k => k < w.heap.size) w6 ⟨sealP, n, false⟩ from hu6)
          have B6 := Lib.hid (B5.out.trans (hk6.toBelow B5.out.size (fun k h => h)))
          clear hu6 hk6
          go_wp2_with fail
          go_roundw
          case rel => exact ⟨k + 1, false, by go_num, by omega, U6, B6⟩
          case measure => simp [intOf]; omega
        · have q2' : (sk == 2) = false := beq_eq_false_iff_ne.2 q2
          clear q0 q1 q2
          go_wp2_with fail
          refine (u_look HS HU.out (fun G hG => HS.epoch b pb G _ _ hG)).mono ?_
          rintro e w6 ⟨rfl, hu6, hk6⟩
          have U6 := Lib.hid (show Solo (UG b pb) (fun k => k < w.heap.size) w6 ⟨sealP, n, d⟩ from hu6)
          have B6 := Lib.hid (HB.out.trans (hk6.toBelow HB.out.size (fun k h => h)))
          clear hu6 hk6
          go_wp2_with fail
          go_roundw
          case rel => exact ⟨k + 1, d, by go_num, by omega, U6, B6⟩
          case measure => simp [intOf]; omega
    · obtain rfl : k = l.length := by omega
      obtain ⟨s1, s2, s3⟩ := seal_end HN.out.1
      obtain ⟨_, _, s4, s5⟩ := sealP_facts
      go_wp2_with fail
      refine (u_start HS HU.out).mono ?_
      rintro e w5 ⟨rfl, hu5, hk5⟩
      have U5 := Lib.hid (show Solo (UG b pb) (fun k => k < w.heap.size) w5 ⟨sealP, n, false⟩ from hu5)
      have B5 := Lib.hid (HB.out.trans (hk5.toBelow HB.out.size (fun k h => h)))
      clear hu5 hk5
      go_wp2_with fail
      refine (u_askP HS U5.out (k := 3) (e := n) (p := 0) (s := ⟨#[]⟩) Z3.out ZN.out Z0.out (by decide)).mono ?_
      rintro e w6 ⟨rfl, hu6, hk6⟩
      rw [s1, s2]
      rw [s3] at hu6
      have U6 := Lib.hid (hu6.beside (TT.out b pb) (.cells #[.int .i64 0, .int .i64 ((⟨sealP, n, false⟩ : Us).ans (akP 3 n 0 ⟨#[]⟩)).n, .string firstS, .int .i64 0, .slice none 0 0, .int .i64 0, .int .i64 0, .int .i64 ((⟨sealP, n, false⟩ : Us).ans (akP 3 n 0 ⟨#[]⟩)).epoch] 41))
      have B6 := Lib.hid (B5.out.trans (hk6.toBelow B5.out.size (fun k h => h)))
      have B7 := Lib.hid (B6.out.alloc B6.out.size (.cells #[.int .i64 0, .int .i64 ((⟨sealP, n, false⟩ : Us).ans (akP 3 n 0 ⟨#[]⟩)).n, .string firstS, .int .i64 0, .slice none 0 0, .int .i64 0, .int .i64 0, .int .i64 ((⟨sealP, n, false⟩ : Us).ans (akP 3 n 0 ⟨#[]⟩)).epoch] 41))
      clear hu6 hk6 s1 s2 s3
      unfold firstS at *
      go_wp2_with fail
      refine (u_look HS U6.out (fun G hG => HS.pages b pb G _ _ hG)).mono ?_
      rintro e w8 ⟨rfl, hu8, hk8⟩
      unfold ptrV
      have U8 := Lib.hid hu8
      have B8 := Lib.hid (B7.out.trans (hk8.toBelow B7.out.size (fun k h => .inl h)))
      clear hu8 hk8
      go_wp2_with fail
      refine (u_look HS U8.out (fun G hG => HS.used b pb G _ _ hG)).mono ?_
      rintro e w9 ⟨rfl, hu9, hk9⟩
      rw [s4]
      have U9 := Lib.hid hu9
      have B9 := Lib.hid (B8.out.trans (hk9.toBelow B8.out.size (fun k h => .inl h)))
      clear hu9 hk9
      go_wp2_with fail
      refine (u_look HS U9.out (fun G hG => HS.pages b pb G _ _ hG)).mono ?_
      rintro e w10 ⟨rfl, hu10, hk10⟩
      unfold ptrV
      have U10 := Lib.hid hu10
      have B10 := Lib.hid (B9.out.trans (hk10.toBelow B9.out.size (fun k h => .inl h)))
      clear hu10 hk10
      go_wp2_with fail
      refine (u_look HS U10.out (fun G hG => HS.edge b pb G _ _ hG)).mono ?_
      rintro e w11 ⟨rfl, hu11, hk11⟩
      rw [s5]
      have U11 := Lib.hid hu11
      have B11 := Lib.hid (B10.out.trans (hk11.toBelow B10.out.size (fun k h => .inl h)))
      clear hu11 hk11
      go_wp2_with (go_at_call 10; refine (CW.out _).mono ?_; rintro e w12 ⟨rfl, hb12⟩; have B12 := Lib.hid (B11.out.trans (hb12.mono B11.out.size)); clear hb12)
      go_ret
      exact ⟨rfl, B12.out⟩

set_option maxRecDepth 100000 in
theorem unitSeals_lifted (os : Os) (started : os.Started) (H : Type) (enc : TypeId × Value → H) :
    ReturnsInHanded {} Try.checked os 4 .any (Rows.unitSealsSpec.pre6 enc Try.prog Try.f4 Rows.unitSealsRow.domain false) (Rows.unitSealsSpec.post enc Try.prog Try.f4 false true false false) := by
  refine returnsInHanded_of_change (C := Try.checked) own started (by kernel_rfl) Try.func4
    (ChangeSpec.witness6 (enc := enc) (C := Try.checked) false ⟨#[], #[.slice none 0 0, .int .u8 0], []⟩ 8 (by kernel_rfl) (by kernel_rfl) (by kernel_rfl) (by kernel_rfl)) ?_
  intro W base args ds gs before hval0 hW hcnd _
  have hval : ∀ (j : Nat) t v, Try.f4.params[j]? = some t → args[j]? = some v → Value.okWide Try.prog W .any base t v := hval0
  have hW' := hW
  obtain ⟨p, q, hA0, hV, rfl, hfz, hnd⟩ := hW
  have hA : DataW.TrodAll enc Try.prog W 0 (fun _ => true) true Try.f4.params.toList args.toList ds p := hA0
  rw [Try.params4] at hA hval
  obtain ⟨v0, vs0, d0, ds0, p0, q0, hargs, rfl, rfl, h0, r0⟩ := trodAll_cons hA
  obtain ⟨v1, vs1, d1, ds1, p1, q1, rfl, rfl, rfl, h1, r1⟩ := trodAll_cons r0
  obtain ⟨rfl, rfl, rfl⟩ := trodAll_nil r1
  obtain rfl : args = #[v0, v1] := by cases args; simp_all
  obtain ⟨rfl, rfl⟩ := trodVars_none hV
  have k0 := h0
  have lt0 : ∀ x ∈ p0, x.block < W.heap.size := by obtain ⟨m, hm⟩ := k0; exact DataW.trod_lt m _ _ _ hm
  have k1 := h1
  have lt1 : ∀ x ∈ p1, x.block < W.heap.size := by obtain ⟨m, hm⟩ := k1; exact DataW.trod_lt m _ _ _ hm
  obtain ⟨ao0, cap0, L0, rfl, w0, hR0, hK0, hn0, hc0⟩ := open_rows (f := stepC) (ok := SkIn) (n := 9) Try.underlying22 (by kernel_rfl) (fun m cs y hl hf => step_cs askT Try.underlying38 rfl rfl hl hf) (hval 0 22 v0 rfl rfl) h0
  obtain ⟨a1, rfl, rfl, rfl, w1⟩ := open_int Try.underlying5 (hval 1 5 v1 rfl rfl) h1
  clear hA0 hval0
  refine (unitSeals_walk unitSays ao0 cap0 L0 a1 w0 w1 W hR0 hK0).mono fun e W' ⟨he, bel⟩ => ?_
  subst he
  exact ⟨_, rfl, _, _, _, [], _, [], hW', trodAll_mk1 (shut_bool Try.underlying4 _), (trodAll_cons_mk (Below.trod laidOut (by kernel_rfl) (of_decide_eq_true (by kernel_rfl)) k0 bel lt0) (trodAll_cons_mk (Below.trod laidOut (by kernel_rfl) (of_decide_eq_true (by kernel_rfl)) k1 bel lt1) trodAll_mk0)), rfl, bel.frame _, fun h => by cases h⟩

theorem unitSeals_over : Rows.unitSealsRow.holds Try.pinned (OpenSpec.ofChange Rows.unitSealsSpec) :=
  OpenClaim.holds_of_wide 4 Try.f4 rfl rfl rfl rfl rfl rfl rfl ⟨rfl, rfl, rfl, rfl, rfl⟩ rfl rfl rfl rfl rfl (by kernel_rfl) Try.func4 (by kernel_rfl)
    (of_decide_eq_true (by kernel_rfl)) (by unfold Func.isWrapper; first | (rw [if_pos (by decide +kernel)]; kernel_rfl) | (rw [if_neg (by decide +kernel)]; exact ⟨rfl, rfl⟩))
    (fun os started H enc _ => unitSeals_lifted os started H enc)

/-- THE STATEMENT -/
theorem unitSeals_holds : Rows.UnitSealsSaid := unitSeals_over 
end Go.Proofs.Ytaodmdoagngdnaa
