/- What the program's own lay returns. Conditions: the parts are good one by one, and not too many. -/
import Derived.Test.YtfkgeefoknaldaaG13a
import Derived.Lib.MinMax
set_option linter.unusedVariables false
namespace Go.Proofs.Ytfkgeefoknaldaa
open Go.RowKit Go.Sort
set_option linter.unusedVariables false
set_option maxRecDepth 20000
/-- the lengths of the first k together -/
def sumL (l : List Pt) (k : Nat) : Int := ((l.take k).map (·.len)).sum
theorem sumL_succ {l : List Pt} {k : Nat} (h : k < l.length) : sumL l (k + 1) = sumL l k + l[k].len := by
  unfold sumL
  rw [List.take_succ_eq_append_getElem h, List.map_append, List.sum_append]
  simp
theorem sumL_le {l : List Pt} (h : ∀ x ∈ l, oneB x = true) (k : Nat) : 0 ≤ sumL l k ∧ sumL l k ≤ 1024 * (k : Int) := by
  induction k with
  | zero => exact ⟨by simp [sumL], by simp [sumL]⟩
  | succ k ih =>
    by_cases hk : k < l.length
    · rw [sumL_succ hk]
      have o := oneB_iff.1 (h l[k] (List.getElem_mem hk))
      omega
    · have : sumL l (k + 1) = sumL l k := by
        unfold sumL
        rw [List.take_of_length_le (by omega), List.take_of_length_le (by omega)]
      omega
theorem FE.mono {w : World} {b n m : Nat} {g : MapF} (h : FE w b n g) (hn : n ≤ m) : FE w b m g := by
  obtain ⟨D, h1, h2⟩ := h
  exact ⟨D, h1.mono hn, h2⟩
set_option maxHeartbeats 4000000 in
theorem elay_any (ao : Option Addr) (cap : Nat) (l : List Pt) (o e : Int) (w : World) (h : PaL w ao l) (hl : l.length ≤ 65) (h1 : ∀ x ∈ l, oneB x = true) (ho : 0 ≤ o ∧ o ≤ 8192) (he : -9223372036854775808 ≤ e - o ∧ e ≤ 9223372036854775807) :
    Calls Try.prog 62 #[.slice ao l.length cap, .int .i64 o, .int .i64 e] w fun x w' => ∃ b, x = .returned (.map (some b)) ∧ w.heap.size ≤ b ∧ FE w' b 100000 (clipG o e (laidE l)) ∧ Below w.heap.size w w' := by
  have HP := Lib.hid h
  have hlI : (l.length : Int) ≤ 65 := by omega
  have HS0 := Lib.hid (show sumL l 0 = 0 from by simp [sumL])
  have HSS := Lib.hid (fun k hk => @sumL_succ l k hk)
  have HSL := Lib.hid (sumL_le h1)
  have H1 := Lib.hid h1
  have hmm := fun (n : Int) (w : World) => run_makeMapN (P := Try.prog) (t := 105) Try.underlying105 n w
  clear h h1
  go_enter Try.func62, Try.ntmps62
  go_wp2_with fail
  go_loopw [7, 16] (fun s i wr => ∃ k : Nat, i = .int .i64 k ∧ s = .int .i64 (sumL l k) ∧ k ≤ l.length ∧ Hid (Below w.heap.size w wr)) (fun _ i _ => l.length - (intOf i).toNat)
  case atStart => exact ⟨0, rfl, by rw [HS0.out], Nat.zero_le _, Lib.hid (Below.refl _ _)⟩
  case round =>
    obtain ⟨k, rfl, rfl, hk, HB⟩ := hrel
    by_cases hlt : k < l.length
    · obtain ⟨bk, off, rfl, c0, c1, c2, c3⟩ := (HP.out.below HB.out).at k hlt
      have k0 : (k : Int) < (l.length : Int) := by omega
      have HSN := Lib.hid (HSS.out k hlt)
      have o1 := oneB_iff.1 (H1.out _ (List.getElem_mem hlt))
      have s1 := HSL.out k
      obtain ⟨x, hx⟩ : ∃ x, Hid (l[k] = x) := ⟨_, Lib.hid rfl⟩
      rw [hx.out] at c0 c1 c2 c3 HSN o1
      generalize sumL l k = s at *
      have HB1 := Lib.hid (blwO (blwA wr (.cells #[.int .i64 x.off, .int .i64 x.len, .int .i64 x.addr, .int .i64 x.src] 52)) HB.out)
      go_wp2_with fail
      go_roundw
      case rel => exact ⟨k + 1, by go_num, by rw [HSN.out], by omega, HB1⟩
      case measure => simp [intOf]; omega
    · obtain rfl : k = l.length := by omega
      have s1 := HSL.out l.length
      generalize sumL l l.length = s at *
      obtain ⟨z, hz⟩ : ∃ z, max 0 (min s (e - o)) = z := ⟨_, rfl⟩
      have HE0 := Lib.hid (show FE (wr.alloc (.map #[] 0)) wr.heap.size 0 (clipG o e (laidE (l.take 0))) from by rw [List.take_zero, clip_none]; exact FE.made wr)
      have HB0 := Lib.hid (blwO (blwA wr (.map #[] 0)) HB.out)
      have hmb := HB.out.size
      go_wp2_with fail
      generalize wr.alloc _ = W0 at *
      generalize wr.heap.size = mb at *
      clear hz
      go_loopw [34] (fun i wq => ∃ k nn : Nat, i = .int .i64 k ∧ k ≤ l.length ∧ nn ≤ 1024 * k ∧ Hid (FE wq mb nn (clipG o e (laidE (l.take k)))) ∧ Hid (Below w.heap.size w wq)) (fun i _ => l.length - (intOf i).toNat)
      case atStart => exact ⟨0, 0, rfl, Nat.zero_le _, Nat.le_refl _, HE0, HB0⟩
      case round =>
        obtain ⟨k, nn, rfl, hk, hnn, HF, HB2⟩ := hrel
        by_cases hlt : k < l.length
        · obtain ⟨bk, off, rfl, c0, c1, c2, c3⟩ := (HP.out.below HB2.out).at k hlt
          have k0 : (k : Int) < (l.length : Int) := by omega
          have HLS := Lib.hid (laid_step hlt)
          have ob := H1.out _ (List.getElem_mem hlt)
          obtain ⟨x, hx⟩ : ∃ x, Hid (l[k] = x) := ⟨_, Lib.hid rfl⟩
          rw [hx.out] at c0 c1 c2 c3 HLS ob
          have CE := Lib.hid (fun W => eend_any x (midP_one ob) W)
          obtain ⟨o1, o2, o3, o4, o5, o6, o7⟩ := oneB_iff.1 ob
          have HX := Lib.hid (show PtB (wr.alloc (.cells #[.int .i64 x.off, .int .i64 x.len, .int .i64 x.addr, .int .i64 x.src] 52)) wr.heap.size x from heap_alloc_new _ _)
          have HF1 := Lib.hid (HF.out.below (blwA wr (.cells #[.int .i64 x.off, .int .i64 x.len, .int .i64 x.addr, .int .i64 x.src] 52)))
          have HB3 := Lib.hid (blwO (blwA wr (.cells #[.int .i64 x.off, .int .i64 x.len, .int .i64 x.addr, .int .i64 x.src] 52)) HB2.out)
          have hst : x.stop = x.off + x.len := rfl
          obtain ⟨m0, hm0⟩ : ∃ m0, max x.off o = m0 := ⟨_, rfl⟩
          obtain ⟨t0, ht0⟩ : ∃ t0, min x.stop e = t0 := ⟨_, rfl⟩
          have HM0 := Lib.hid hm0
          have HT0 := Lib.hid ht0
          have m1 : 0 ≤ m0 ∧ m0 ≤ 8192 ∧ x.off ≤ m0 := by omega
          have t1 : t0 ≤ 8192 ∧ t0 ≤ x.off + 1024 := by omega
          generalize laidE (l.take k) = G at *
          have HF2 := Lib.hid (show FE (wr.alloc (.cells #[.int .i64 x.off, .int .i64 x.len, .int .i64 x.addr, .int .i64 x.src] 52)) mb nn (partG o e G x m0) from by rw [← HM0.out, part_zero]; exact HF1.out)
          have HPE := Lib.hid (fun (a : Int) (h1 : m0 ≤ a) (h2 : a ≤ max m0 t0) (h3 : ¬ a < t0) => show partG o e G x a = clipG o e (laidE (l.take (k + 1))) from by rw [HLS.out]; exact partG_end (by rw [HM0.out]; exact h1) (by rw [HM0.out, HT0.out]; exact h2) (by rw [HT0.out]; exact h3))
          have HPN := Lib.hid (fun (a : Int) (h1 : m0 ≤ a) => @part_next o e G x a (by rw [HM0.out]; exact h1))
          have hxm := HF.out.lt
          clear hst
          go_wp2_with fail
          generalize wr.alloc _ = W1 at *
          generalize wr.heap.size = xb at *
          go_loopw [13] (fun i wq => ∃ (a : Int) (n2 : Nat), i = .int .i64 a ∧ m0 ≤ a ∧ a ≤ max m0 t0 ∧ (n2 : Int) ≤ 1024 * k + (a - m0) ∧ Hid (FE wq mb n2 (partG o e G x a)) ∧ Hid (PtB wq xb x) ∧ Hid (Below w.heap.size w wq)) (fun i _ => (t0 - intOf i).toNat)
          case atStart => exact ⟨m0, nn, rfl, Int.le_refl _, by omega, by omega, HF2, HX, HB3⟩
          case round =>
            obtain ⟨a, n2, rfl, a1, a2, a3, HF3, HX3, HB4⟩ := hrel
            obtain ⟨x0, x1, x2, x3⟩ := HX3.out.cells
            by_cases hat : a < t0
            · have HPS := Lib.hid (HPN.out a a1)
              go_wp2_with (first
                | (go_at_call 65; with_reducible refine (CE.out _).mono ?_; rintro e w2 ⟨rfl, hb2⟩; have HB5 := Lib.hid (blwO hb2 HB4.out); have HF5 := Lib.hid (HF3.out.below hb2); have HX5 := Lib.hid (HX3.out.below hb2); clear hb2; obtain ⟨y0, y1, y2, y3⟩ := HX5.out.cells)
                | (at_mapUpdate; refine wpList_set_byte rfl _ _ _ rfl rfl HF5.out (by omega) (WalkArith.wf_i64 (by omega)) rfl rfl ?_; intro w6 hF hg; have HF6 := Lib.hid hF; have HB6 := Lib.hid (HB5.out.grown hg HB5.out.size (fun k e => by cases e; exact hmb)); have HX6 := Lib.hid (show PtB w6 xb x from (hg.block xb HX5.out.lt (by intro e; cases e; exact absurd hxm (Nat.lt_irrefl _))).trans HX5.out); clear hF hg))
              exact ⟨⟨a + 1, n2 + 1, rfl, by omega, by omega, by omega, Lib.hid (by rw [← HPS.out]; exact HF6.out), HX6, HB6⟩, by simp [intOf]; omega⟩
            · go_wp2_with (go_at_call 65; with_reducible refine (CE.out _).mono ?_; rintro e w2 ⟨rfl, hb2⟩; have HB5 := Lib.hid (blwO hb2 HB4.out); have HF5 := Lib.hid (HF3.out.below hb2); clear hb2)
              go_roundw
              case rel => exact ⟨k + 1, n2, by go_num, by omega, by omega, by rw [← HPE.out a a1 a2 hat]; exact HF5, HB5⟩
              case measure => simp [intOf]; omega
        · obtain rfl : k = l.length := by omega
          go_wp2_with fail
          go_ret
          exact ⟨mb, rfl, hmb, FE.mono (by rw [List.take_length] at HF; exact HF.out) (by omega), HB2.out⟩
end Go.Proofs.Ytfkgeefoknaldaa
