/- The law ExtentBytes: behind parts that are put one over the other each byte is where it was put last; a plan tells the same. No conditions. (Written by gen/genextbytes.py.) -/
import Derived.Test.YtjdhbpgipoifkaaG26a
namespace Go.Proofs.Ytjdhbpgipoifkaa
open Go.ChangeShapes Go.WideShapes Go.ChangeAt Go.RowKit Go.Sort
set_option linter.unusedVariables false
set_option maxRecDepth 20000
set_option maxRecDepth 200000 in
set_option maxHeartbeats 16000000 in
theorem extentBytes_walk (ao : Option Addr) (cap : Nat) (L : List Pt) (off n : Int) (wl : L.length ≤ maxLen) (wo : (Lit.int .i64 off).wf = true) (wn : (Lit.int .i64 n).wf = true) (w : World) (hp : PaL w ao L) (hk : ∀ x ∈ L, PaIn w x) (hn : ao = none → cap = 0) (hc : L.length ≤ cap) :
    Calls Try.prog 7 #[.slice ao L.length cap, .int .i64 off, .int .i64 n] w fun e w' => e = .returned (.bool true) ∧ Below w.heap.size w w' := by
  have CK := Lib.hid wakes19
  have wl' : (L.length : Int) ≤ 9223372036854775807 := by unfold maxLen at wl; omega
  clear wo wn hk hn hc
  by_cases hl : ¬ L.length ≤ 40
  · have h2 : (40 : Int) < (L.length : Int) := by omega
    clear hl hp
    go_enter Try.func7, Try.ntmps7
    go_wp2_with (go_at_call 10; refine (CK.out _).mono ?_; rintro e wk ⟨rfl, hBk⟩)
    go_ret
    exact ⟨rfl, hBk⟩
  have hl : L.length ≤ 40 := by omega
  have h2 : (L.length : Int) ≤ 40 := by omega
  have HP := Lib.hid hp
  clear hp wl
  go_enter Try.func7, Try.ntmps7
  go_wp2_with fail
  go_loopw [7, 8, 9] (fun v u x wr => ∃ (i : Nat) (N D : List Pt), x = .int .i64 i ∧ i ≤ L.length ∧ D.length ≤ i ∧ N.length ≤ 64 ∧ Hid (PutI N D) ∧ Hid (OPa wr w.heap.size v N) ∧ Hid (OPa wr w.heap.size u D) ∧ Hid (apartV v u) ∧ Hid (Below w.heap.size w wr)) (fun _ _ x _ => L.length - (intOf x).toNat)
  case atStart => exact ⟨0, [], [], rfl, Nat.zero_le _, Nat.le_refl _, Nat.zero_le _, Lib.hid PutI.none, Lib.hid (OR.nil _ _), Lib.hid (OR.nil _ _), Lib.hid (fun k e => by cases e), Lib.hid (Below.refl _ _)⟩
  case round =>
    obtain ⟨i, N, D, rfl, hi, hDi, hNl, HI, HN, HD, HS, HB⟩ := hrel
    by_cases hlt : i < L.length
    · have i0 : (i : Int) < (L.length : Int) := by omega
      obtain ⟨ao7, c7, hv7, hr7, hc7, hn7⟩ := OPa.form HN.out
      have CP := Lib.hid (eput_any ao7 c7 N L[i] wr hr7 hn7 hc7 (by unfold maxLen; omega))
      have HR7 := Lib.hid hr7
      obtain ⟨bk, bo, hao, b0, b1, b2, b3⟩ := (PaL.below HP.out HB.out).at i hlt
      have HPi := Lib.hid (fun (W : World) (h : Below wr.heap.size wr W) => (PaL.below (PaL.below HP.out HB.out) h).at i hlt)
      subst hao
      have HNX := Lib.hid (PutI.next HI.out L[i])
      generalize hx : L[i] = x at *
      have hpl := putE_len N x
      rcases HNX.out with ⟨he, hin⟩ | he
      rotate_left
      · have hc2 : ((putE N x).2 == 0) = false := by rcases he with e | e <;> rw [e] <;> rfl
        have hc3 : ¬ (putE N x).2 = 0 := by rcases he with e | e <;> rw [e] <;> decide
        generalize (putE N x).2 = ec at *
        subst hv7
        clear HNX he
        go_wp2_with (go_at_call 19; refine CP.out.mono ?_; rintro e w2 ⟨v2, rfl, hO, hB⟩; obtain ⟨g2, q2, hv2, hr2⟩ := OPa.sl hO; subst hv2; have HB2 := Lib.hid (blwO hB HB.out); have HN2 := Lib.hid (OR.below HN.out hB); have HD2 := Lib.hid (OR.below HD.out hB); clear hB hO hr2)
        go_roundw
        case rel => exact ⟨i + 1, N, D, by go_num, by omega, by omega, hNl, HI, HN2, HD2, HS, HB2⟩
        case measure => simp [intOf]; omega
      · rw [he] at CP
        have HIN := Lib.hid hin
        generalize (putE N x).1 = N2 at *
        subst hv7
        clear HNX he hin
        go_wp2_with (first
          | (go_at_call 19; refine CP.out.mono ?_; rintro e w2 ⟨v2, rfl, hO, hB⟩; have HN2 := Lib.hid (OPa.lower hO HB.out.size); have HS2 := Lib.hid (apartV_new HD.out hO); obtain ⟨g2, q2, hv2, hr2⟩ := OPa.sl hO; subst hv2; have HB2 := Lib.hid (blwO hB HB.out); have HD2 := Lib.hid (OR.below HD.out hB); clear b0 b1 b2 b3; obtain ⟨bk2, bo2, hao2, b0, b1, b2, b3⟩ := HPi.out _ hB; cases hao2; have hone := Lib.hid (PtB.row (show PtB (w2.alloc (.cells #[.int .i64 x.off, .int .i64 x.len, .int .i64 x.addr, .int .i64 x.src] 31)) w2.heap.size x from heap_alloc_new _ _)); have HD4 := Lib.hid (OR.below HD2.out (blwA w2 (.cells #[.int .i64 x.off, .int .i64 x.len, .int .i64 x.addr, .int .i64 x.src] 31))); have HN4 := Lib.hid (OR.below HN2.out (blwA w2 (.cells #[.int .i64 x.off, .int .i64 x.len, .int .i64 x.addr, .int .i64 x.src] 31))); have HB4 := Lib.hid (blwO (blwA w2 (.cells #[.int .i64 x.off, .int .i64 x.len, .int .i64 x.addr, .int .i64 x.src] 31)) HB2.out); clear hO hr2 hB)
          | (refine wpList_app_rows par_rows (o := ⟨some 54, _, _, _, _, _⟩) rfl (.tmp 48) (.tmp 53) rfl (B := w.heap.size) (D := D) rfl HD4.out (ao := some ⟨w2.heap.size, 0, none⟩) (cap := 1) (l := [x]) (m := 1) rfl rfl hone.out (fun e => by cases e) (Nat.le_refl _) (by simp; omega) HB4.out.size ?_; intro v5 w5 hI hg hv; have HD5 := Lib.hid hI; have HA5 := Lib.hid (apartV_app HS2.out HN4.out hg hv); have HB5 := Lib.hid (HB4.out.grown hg HB4.out.size (fun k e => (HD4.out.lt k e).1)); clear hI hg hv))
        go_roundw
        case rel => exact ⟨i + 1, N2, D ++ [x], by go_num, by omega, by simp; omega, hpl, HIN, Lib.hid HA5.out.1, HD5, Lib.hid HA5.out.2, HB5⟩
        case measure => simp [intOf]; omega
    · obtain rfl : i = L.length := by omega
      obtain ⟨ao7, c7, hv7, hr7, hc7, hn7⟩ := OPa.form HN.out
      obtain ⟨ao8, c8, hv8, hr8, hc8, hn8⟩ := OPa.form HD.out
      have HR7 := Lib.hid hr7
      have HR8 := Lib.hid hr8
      have CG := Lib.hid (egood_any ao7 c7 N wr hr7 (by unfold maxLen; omega))
      rw [HI.out.good] at CG
      subst hv7
      subst hv8
      clear hr7 hr8 HN HD HS
      go_wp2_with (go_at_call 12; refine CG.out.mono ?_; rintro e wg ⟨rfl, hB⟩; have HBg := Lib.hid (blwO hB HB.out); have HNg := Lib.hid (PaL.below HR7.out hB); have HDg := Lib.hid (PaL.below HR8.out hB); clear hB)
      clear CG HR7 HR8 HB
      have HKO := Lib.hid (rail_one (goodE_iff.1 HI.out.good).2)
      have HD1 := Lib.hid HI.out.one
      have CA := Lib.hid (fun (i : Int) (hi : -100000 ≤ i ∧ i ≤ 100000) (W : World) (h : PaL W ao7 N) => lat_any ao7 c7 N i hi W h (by unfold maxLen; omega) HKO.out)
      go_loopw [12] (fun x wr => ∃ i : Nat, x = .int .i64 i ∧ i ≤ 9000 ∧ Hid (Below wg.heap.size wg wr)) (fun x _ => 8192 - (intOf x).toNat)
      case atStart => exact ⟨0, rfl, Nat.zero_le _, Lib.hid (Below.refl _ _)⟩
      case round =>
        obtain ⟨i, rfl, hi9, HBi⟩ := hrel
        by_cases hlt8 : i < 8192
        · have i0 : (i : Int) < 8192 := by omega
          have CAi := Lib.hid (CA.out (i : Int) (by omega))
          have HLi := HI.out.last (i : Int)
          obtain ⟨ra, rf, hR⟩ : ∃ ra rf, atP N (i : Int) = (ra, rf) := ⟨_, _, rfl⟩
          rw [hR] at CAi HLi
          have HLR := Lib.hid HLi.symm
          clear hR HLi
          have hw1 : IntKind.i64.wrap ((D.length : Int) - 1) = (D.length : Int) - 1 := IntWalk.i64_in _ (by omega)
          go_wp2_with (go_at_call 25; refine (CAi.out _ (PaL.below HNg.out HBi.out)).mono ?_; rintro e w3 ⟨rfl, hB⟩; have HB3 := Lib.hid (blwO hB HBi.out); clear hB)
          clear CAi
          go_loopw [15, 16, 17] (fun a f x wr => ∃ (kk : Nat) (va vf d : Int), a = .int .i64 va ∧ f = .int .i64 vf ∧ x = .int .i64 d ∧ d = (kk : Int) - 1 ∧ kk ≤ D.length ∧ Hid ((va = -1 ∧ vf = 0 ∧ lastP (D.take kk) (i : Int) = (ra, rf)) ∨ (va = ra ∧ vf = rf ∧ 0 ≤ va)) ∧ Hid (Below wg.heap.size wg wr)) (fun _ _ x _ => (intOf x + 1).toNat)
          case atStart => exact ⟨D.length, -1, 0, (D.length : Int) - 1, rfl, rfl, rfl, rfl, Nat.le_refl _, Lib.hid (.inl ⟨rfl, rfl, by rw [List.take_length]; exact HLR.out⟩), HB3⟩
          case round =>
            obtain ⟨kk, va, vf, d, rfl, rfl, rfl, hd, hkk, HH, HB3⟩ := hrel
            by_cases hgo : 1 ≤ kk ∧ va < 0
            · obtain ⟨hk1, hva⟩ := hgo
              obtain ⟨k, rfl⟩ : ∃ k, kk = k + 1 := ⟨kk - 1, by omega⟩
              have hdk : d = (k : Int) := by omega
              have hLk : lastP (D.take (k + 1)) (i : Int) = (ra, rf) := by
                rcases HH.out with ⟨_, _, h⟩ | ⟨_, _, h⟩
                · exact h
                · omega
              have hkl : k < D.length := by omega
              have k0 : (k : Int) < (D.length : Int) := by omega
              have hcI : (D.length : Int) ≤ (c8 : Int) := by omega
              have HST := last_step hkl (HD1.out _ (List.getElem_mem hkl)) (i : Int)
              obtain ⟨bd, bo, hao, _, _, _, _⟩ := HDg.out.at k hkl
              subst hao
              have CB := Lib.hid (fun (cap : Nat) (W : World) (h : PaL W (some ⟨bd, bo + k * 4, none⟩) [D[k]]) => lat_any (some ⟨bd, bo + k * 4, none⟩) cap [D[k]] (i : Int) (by omega) W h (by unfold maxLen; simp) (fun y hy => by rw [List.mem_singleton.1 hy]; exact HD1.out _ (List.getElem_mem hkl)))
              have HSub := Lib.hid (PaL.sub (PaL.below HDg.out HB3.out) hkl)
              rw [hLk] at HST
              have HNX : Hid (((atP [D[k]] (i : Int)).1 = -1 ∧ (atP [D[k]] (i : Int)).2 = 0 ∧ lastP (D.take k) (i : Int) = (ra, rf)) ∨ ((atP [D[k]] (i : Int)).1 = ra ∧ (atP [D[k]] (i : Int)).2 = rf ∧ 0 ≤ (atP [D[k]] (i : Int)).1)) := Lib.hid (by
                rcases HST with ⟨h1, h2⟩ | ⟨h1, h2⟩
                · right
                  rw [← h2] at h1
                  rw [← h2]
                  exact ⟨rfl, rfl, h1⟩
                · left
                  rw [h1]
                  exact ⟨rfl, rfl, h2.symm⟩)
              clear HST hLk HH
              generalize (atP [D[k]] (i : Int)).1 = pa at *
              generalize (atP [D[k]] (i : Int)).2 = pf at *
              generalize hDk : D[k] = yk at *
              have g2 : decide (va < 0) = true := decide_eq_true hva
              have g1 : decide (0 ≤ d) = true := decide_eq_true (by omega)
              have hd0 : 0 ≤ d := by omega
              have hd1 : d < (D.length : Int) := by omega
              have hd2 : d + 1 ≤ (c8 : Int) := by omega
              have hw2 : IntKind.i64.wrap (d + 1) = d + 1 := IntWalk.i64_in _ (by omega)
              have CB2 : Hid (∀ (cap : Nat) (W : World), PaL W (some ⟨bd, bo + k * 4, none⟩) [yk] → Calls Try.prog 25 #[.slice (some ⟨bd, bo + k * 4, none⟩) 1 cap, .int .i64 (i : Int)] W fun e w' => e = .returned (.tuple #[.int .i64 pa, .int .i64 pf]) ∧ Below W.heap.size W w') := CB
              clear CB
              go_wp2_with (go_at_call 25; refine (CB2.out _ _ HSub.out).mono ?_; rintro e w5 ⟨rfl, hB⟩; have HB5 := Lib.hid (blwO hB HB3.out); clear hB)
              go_roundw
              case rel => exact ⟨k, pa, pf, d - 1, rfl, rfl, by go_num, by omega, by omega, HNX, HB5⟩
              case measure => first | (simp [intOf]; done) | (simp [intOf]; omega)
            · have hex : ra = va ∧ rf = vf := by
                rcases HH.out with ⟨h1, h2, h3⟩ | ⟨h1, h2, h3⟩
                · obtain rfl : kk = 0 := by omega
                  rw [List.take_zero, last_nil] at h3
                  cases h3
                  exact ⟨h1.symm, h2.symm⟩
                · exact ⟨h1.symm, h2.symm⟩
              have hgo' : kk = 0 ∨ 0 ≤ ra := by have := hex.1; omega
              clear HH
              obtain ⟨e1, e2⟩ := hex
              subst e1
              subst e2
              by_cases hk0 : kk = 0
              · have g1 : decide (0 ≤ d) = false := decide_eq_false (by omega)
                have hdv : Int.tdiv (i : Int) 50 = ((i / 50 : Nat) : Int) := by rw [Int.tdiv_eq_ediv_of_nonneg (by omega)]; omega
                have hne : (ra != ra) = false := by simp
                have hnf : (rf != rf) = false := by simp
                by_cases hra : 0 ≤ ra
                · have g3 : decide (0 ≤ ra) = true := decide_eq_true hra
                  go_wp2_with fail
                  go_roundw
                  case rel => exact ⟨i + (1 + i / 50), by go_num, by omega, HB3⟩
                  case measure => first | (simp [intOf]; done) | (simp [intOf]; omega)
                · have g3 : decide (0 ≤ ra) = false := decide_eq_false hra
                  go_wp2_with fail
                  go_roundw
                  case rel => exact ⟨i + (1 + i / 50), by go_num, by omega, HB3⟩
                  case measure => first | (simp [intOf]; done) | (simp [intOf]; omega)
              · have g1 : decide (0 ≤ d) = true := decide_eq_true (by omega)
                have g2 : decide (ra < 0) = false := decide_eq_false (by omega)
                have hdv : Int.tdiv (i : Int) 50 = ((i / 50 : Nat) : Int) := by rw [Int.tdiv_eq_ediv_of_nonneg (by omega)]; omega
                have hne : (ra != ra) = false := by simp
                have hnf : (rf != rf) = false := by simp
                have hra : 0 ≤ ra := by omega
                have g3 : decide (0 ≤ ra) = true := decide_eq_true hra
                go_wp2_with fail
                go_roundw
                case rel => exact ⟨i + (1 + i / 50), by go_num, by omega, HB3⟩
                case measure => first | (simp [intOf]; done) | (simp [intOf]; omega)
        · have i8 : 8192 ≤ (i : Int) := by omega
          have CM1 := Lib.hid (mod_any off 8192 (by decide) (by decide))
          have o1 := Int.emod_nonneg off (show (8192 : Int) ≠ 0 by decide)
          have o2 := Int.emod_lt_of_pos off (show (0 : Int) < 8192 by decide)
          generalize off % 8192 = o at CM1 o1 o2
          have CM2 := Lib.hid (mod_any n 300 (by decide) (by decide))
          have m1 := Int.emod_nonneg n (show (300 : Int) ≠ 0 by decide)
          have m2 := Int.emod_lt_of_pos n (show (0 : Int) < 300 by decide)
          generalize n % 300 = nn at CM2 m1 m2
          have hpb : planB o (min (1 + nn) (8192 - o)) = true := planB_iff.2 (by omega)
          obtain ⟨hPM, hPT⟩ := plan_mid HI.out.good hpb
          have hql := planE_len N o (min (1 + nn) (8192 - o))
          have CQ := Lib.hid (fun (W : World) (h : PaL W ao7 N) => eplan_any ao7 c7 N o (min (1 + nn) (8192 - o)) W h (by unfold maxLen; omega))
          have hwm : IntKind.i64.wrap (o + (min (1 + nn) (8192 - o))) = o + (min (1 + nn) (8192 - o)) := IntWalk.i64_in _ (by omega)
          generalize planE N o (min (1 + nn) (8192 - o)) = Q at *
          have HPM := Lib.hid (show ∀ (j : Nat) (h : j < Q.length), midP Q[j] ∧ 1 ≤ Q[j].len ∧ saysP (spF N) Q[j] from fun j h => hPM _ (List.getElem_mem h))
          have HPT := Lib.hid (show tileE o (Q.drop 0) (o + (min (1 + nn) (8192 - o))) from hPT)
          clear hPM hPT hpb
          go_wp2_with (first
            | (go_at_call 26; first | ((with_reducible refine (CM1.out _).mono ?_); rintro e w' ⟨rfl, rfl⟩) | ((with_reducible refine (CM2.out _).mono ?_); rintro e w' ⟨rfl, rfl⟩))
            | (go_at_call 21; (with_reducible refine (CQ.out _ (PaL.below HNg.out HBi.out)).mono ?_); rintro e wp ⟨vp, rfl, hO, hB⟩; obtain ⟨gp, cp, hvp, hrp⟩ := OPa.sl hO; subst hvp; have HQp := Lib.hid hrp; have HBp := Lib.hid (blwO hB (blwO HBi.out HBg.out)); have HNp := Lib.hid (PaL.below HNg.out (blwO hB HBi.out)); clear hO hrp hB))
          clear CM1 CM2 CQ HNg HDg HBi HBg HD1
          go_loopw [21, 22] (fun x y wr => ∃ (j : Nat) (k : Int), x = .int .i64 k ∧ y = .int .i64 j ∧ j ≤ Q.length ∧ Hid (tileE k (Q.drop j) (o + (min (1 + nn) (8192 - o)))) ∧ Hid (Below wp.heap.size wp wr)) (fun _ y _ => Q.length - (intOf y).toNat)
          case atStart => exact ⟨0, o, rfl, rfl, Nat.zero_le _, HPT, Lib.hid (Below.refl _ _)⟩
          case round =>
            obtain ⟨j, k, rfl, rfl, hj, HT, HB4⟩ := hrel
            by_cases hjt : j < Q.length
            · have j0 : (j : Int) < (Q.length : Int) := by omega
              obtain ⟨t1, t2, t3⟩ := tile_at hjt HT.out
              obtain ⟨⟨⟨p1, p2⟩, ⟨p3, p4⟩, ⟨p5, p6⟩, p7, p8⟩, hl1, hsy⟩ := HPM.out j hjt
              have HYc := Lib.hid (fun (W : World) (h : Below wp.heap.size wp W) => (PaL.below HQp.out h).at j hjt)
              obtain ⟨bk, bo, hao, b0, b1, b2, b3⟩ := HYc.out _ HB4.out
              subst hao
              have HT3 := Lib.hid t3
              have HSY := Lib.hid (fun (t : Nat) (ht : (t : Int) < Q[j].len) => plan_at hsy ht)
              clear t3 hsy HT
              generalize hyj : Q[j] = y at *
              subst t1
              have gl : decide (y.len < 1) = false := decide_eq_false (by omega)
              have hwk : IntKind.i64.wrap (y.off + y.len) = y.off + y.len := IntWalk.i64_in _ (by omega)
              go_wp2_with fail
              go_loopw [23] (fun x wr => ∃ t : Nat, x = .int .i64 t ∧ (t : Int) ≤ y.len ∧ Hid (Below wp.heap.size wp wr)) (fun x _ => y.len.toNat - (intOf x).toNat)
              case atStart => exact ⟨0, rfl, by omega, HB4⟩
              case round =>
                obtain ⟨t, rfl, ht, HB5⟩ := hrel
                clear b0 b1 b2 b3
                obtain ⟨bk2, bo2, hao2, b0, b1, b2, b3⟩ := HYc.out _ HB5.out
                cases hao2
                by_cases htt : (t : Int) < y.len
                · obtain ⟨q1, q2⟩ := HSY.out t htt
                  have CAt := Lib.hid (CA.out (y.off + (t : Int)) (by omega))
                  rw [q1] at CAt
                  have hwa : IntKind.i64.wrap (y.off + (t : Int)) = y.off + (t : Int) := IntWalk.i64_in _ (by omega)
                  have hws : IntKind.i64.wrap (y.src + (t : Int)) = y.src + (t : Int) := IntWalk.i64_in _ (by omega)
                  clear q1
                  by_cases hya : 0 ≤ y.addr
                  · have g3 : decide (0 ≤ y.addr) = true := decide_eq_true hya
                    rw [q2 hya] at CAt
                    clear q2
                    go_wp2_with (go_at_call 25; refine (CAt.out _ (PaL.below HNp.out HB5.out)).mono ?_; rintro e w6 ⟨rfl, hB⟩; have HB6 := Lib.hid (blwO hB HB5.out); clear b0 b1 b2 b3; obtain ⟨bk3, bo3, hao3, b0, b1, b2, b3⟩ := HYc.out _ HB6.out; cases hao3; clear hB)
                    go_roundw
                    case rel => exact ⟨t + 1, by go_num, by omega, HB6⟩
                    case measure => first | (simp [intOf]; done) | (simp [intOf]; omega)
                  · have g3 : decide (0 ≤ y.addr) = false := decide_eq_false hya
                    clear q2
                    generalize (atP N (y.off + (t : Int))).2 = pf at *
                    go_wp2_with (go_at_call 25; refine (CAt.out _ (PaL.below HNp.out HB5.out)).mono ?_; rintro e w6 ⟨rfl, hB⟩; have HB6 := Lib.hid (blwO hB HB5.out); clear b0 b1 b2 b3; obtain ⟨bk3, bo3, hao3, b0, b1, b2, b3⟩ := HYc.out _ HB6.out; cases hao3; clear hB)
                    go_roundw
                    case rel => exact ⟨t + 1, by go_num, by omega, HB6⟩
                    case measure => first | (simp [intOf]; done) | (simp [intOf]; omega)
                · go_wp2_with fail
                  go_roundw
                  case rel => exact ⟨j + 1, y.off + y.len, rfl, by go_num, by omega, HT3, HB5⟩
                  case measure => first | (simp [intOf]; done) | (simp [intOf]; omega)
            · obtain rfl : j = Q.length := by omega
              have hke := tile_done HT.out
              subst hke
              go_wp2_with (go_at_call 10; refine (CK.out _).mono ?_; rintro e wk ⟨rfl, hBk⟩)
              go_ret
              exact ⟨rfl, blwO hBk (blwO HB4.out HBp.out)⟩

set_option maxRecDepth 100000 in
theorem extentBytes_lifted (os : Os) (started : os.Started) (H : Type) (enc : TypeId × Value → H) :
    ReturnsInHanded {} Try.checked os 7 .any (Rows.extentBytesSpec.pre6 enc Try.prog Try.f7 Rows.extentBytesRow.domain false) (Rows.extentBytesSpec.post enc Try.prog Try.f7 false true false false) := by
  refine returnsInHanded_of_change (C := Try.checked) own started (by kernel_rfl) Try.func7
    (ChangeSpec.witness6 (enc := enc) (C := Try.checked) false ⟨#[], #[.slice none 0 0, .int .i64 0, .int .i64 0], []⟩ 8 (by kernel_rfl) (by kernel_rfl) (by kernel_rfl) (by kernel_rfl)) ?_
  intro W base args ds gs before hval0 hW hcnd _
  have hval : ∀ (j : Nat) t v, Try.f7.params[j]? = some t → args[j]? = some v → Value.okWide Try.prog W .any base t v := hval0
  have hW' := hW
  obtain ⟨p, q, hA0, hV, rfl, hfz, hnd⟩ := hW
  have hA : DataW.TrodAll enc Try.prog W 0 (fun _ => true) true Try.f7.params.toList args.toList ds p := hA0
  rw [Try.params7] at hA hval
  obtain ⟨v0, vs0, d0, ds0, p0, q0, hargs, rfl, rfl, h0, r0⟩ := trodAll_cons hA
  obtain ⟨v1, vs1, d1, ds1, p1, q1, rfl, rfl, rfl, h1, r1⟩ := trodAll_cons r0
  obtain ⟨v2, vs2, d2, ds2, p2, q2, rfl, rfl, rfl, h2, r2⟩ := trodAll_cons r1
  obtain ⟨rfl, rfl, rfl⟩ := trodAll_nil r2
  obtain rfl : args = #[v0, v1, v2] := by cases args; simp_all
  obtain ⟨rfl, rfl⟩ := trodVars_none hV
  have k0 := h0
  have lt0 : ∀ x ∈ p0, x.block < W.heap.size := by obtain ⟨m, hm⟩ := k0; exact DataW.trod_lt m _ _ _ hm
  have k1 := h1
  have lt1 : ∀ x ∈ p1, x.block < W.heap.size := by obtain ⟨m, hm⟩ := k1; exact DataW.trod_lt m _ _ _ hm
  have k2 := h2
  have lt2 : ∀ x ∈ p2, x.block < W.heap.size := by obtain ⟨m, hm⟩ := k2; exact DataW.trod_lt m _ _ _ hm
  obtain ⟨ao0, cap0, L0, rfl, w0, hR0, hK0, hn0, hc0⟩ := open_rows (f := parC) (ok := PaIn) (n := 3) Try.underlying22 (by kernel_rfl) (fun m cs y hl hf => par_cs Try.underlying31 rfl rfl rfl rfl Try.underlying3 (by kernel_rfl) hl hf) (hval 0 22 v0 rfl rfl) h0
  obtain ⟨a1, rfl, rfl, rfl, w1⟩ := open_int Try.underlying3 (hval 1 3 v1 rfl rfl) h1
  obtain ⟨a2, rfl, rfl, rfl, w2⟩ := open_int Try.underlying3 (hval 2 3 v2 rfl rfl) h2
  clear hA0 hval0
  refine (extentBytes_walk ao0 cap0 L0 a1 a2 w0 w1 w2 W hR0 hK0 hn0 hc0).mono fun e W' ⟨he, bel⟩ => ?_
  subst he
  exact ⟨_, rfl, _, _, _, [], _, [], hW', trodAll_mk1 (shut_bool Try.underlying4 _), (trodAll_cons_mk (Below.trod laidOut (by kernel_rfl) (of_decide_eq_true (by kernel_rfl)) k0 bel lt0) (trodAll_cons_mk (Below.trod laidOut (by kernel_rfl) (of_decide_eq_true (by kernel_rfl)) k1 bel lt1) (trodAll_cons_mk (Below.trod laidOut (by kernel_rfl) (of_decide_eq_true (by kernel_rfl)) k2 bel lt2) trodAll_mk0))), rfl, bel.frame _, fun h => by cases h⟩

theorem extentBytes_over : Rows.extentBytesRow.holds Try.pinned (OpenSpec.ofChange Rows.extentBytesSpec) :=
  OpenClaim.holds_of_wide 7 Try.f7 rfl rfl rfl rfl rfl rfl rfl ⟨rfl, rfl, rfl, rfl, rfl⟩ rfl rfl rfl rfl rfl (by kernel_rfl) Try.func7 (by kernel_rfl)
    (of_decide_eq_true (by kernel_rfl)) (by unfold Func.isWrapper; first | (rw [if_pos (by decide +kernel)]; kernel_rfl) | (rw [if_neg (by decide +kernel)]; exact ⟨rfl, rfl⟩))
    (fun os started H enc _ => extentBytes_lifted os started H enc)

/-- THE STATEMENT -/
theorem extentBytes_holds : Rows.ExtentBytesSaid := extentBytes_over 
end Go.Proofs.Ytjdhbpgipoifkaa
