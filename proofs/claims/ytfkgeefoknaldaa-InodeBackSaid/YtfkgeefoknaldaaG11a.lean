/- What the program's own Good and End return. Conditions: the parts lie where the call was told. The document's row of bytes in memory; what its spread returns. Conditions: the parts are good one by one. Stage 20: the types of a step. No conditions. -/
import Derived.Test.YtfkgeefoknaldaaG10a
import Derived.Test.YtfkgeefoknaldaaG07b
import Derived.Test.YtfkgeefoknaldaaG10b
import Derived.StillTailTactics
set_option linter.unusedVariables false
namespace Go.Proofs.Ytfkgeefoknaldaa
open Go.RowKit Go.Sort
set_option linter.unusedVariables false
set_option maxRecDepth 20000
set_option maxHeartbeats 4000000 in
theorem egood_any (ao : Option Addr) (cap : Nat) (l : List Pt) (w : World) (h : PaL w ao l) (hlen : l.length ≤ maxLen) :
    Calls Try.prog 59 #[.slice ao l.length cap] w fun e w' => e = .returned (.bool (goodE l)) ∧ Below w.heap.size w w' := by
  by_cases hl : ¬ l.length ≤ 64
  · rw [good_long hl]
    have hl64 : (64 : Int) < (l.length : Int) := by omega
    unfold maxLen at hlen
    clear h hl
    go_enter Try.func59, Try.ntmps59
    go_wp2_with fail
    go_ret
    exact ⟨rfl, Below.refl _ _⟩
  have hl : l.length ≤ 64 := by omega
  have hl64 : (l.length : Int) ≤ 64 := by omega
  have HP := Lib.hid h
  have HY := Lib.hid (fun h => @upB_all l hl h)
  have HN1 := Lib.hid (fun k hk h => @good_no1 l k hk h)
  have HN2 := Lib.hid (fun k h0 hk h => @good_no2P l k h0 hk h)
  generalize goodE l = R at *
  clear h hlen hl
  go_enter Try.func59, Try.ntmps59
  go_wp2_with fail
  go_loopw [10] (fun i wr => ∃ k : Nat, i = .int .i64 k ∧ k ≤ l.length ∧ Hid (upB l k) ∧ Hid (Below w.heap.size w wr)) (fun i _ => l.length - (intOf i).toNat)
  case atStart => exact ⟨0, rfl, Nat.zero_le _, Lib.hid (upB_zero l), Lib.hid (Below.refl _ _)⟩
  case round =>
    obtain ⟨k, rfl, hk, HU, HB⟩ := hrel
    by_cases hlt : k < l.length
    · obtain ⟨bk, off, rfl, c0, c1, c2, c3⟩ := (HP.out.below HB.out).at k hlt
      have k0 : (k : Int) < (l.length : Int) := by omega
      obtain ⟨x, hx⟩ : ∃ x, Hid (l[k] = x) := ⟨_, Lib.hid rfl⟩
      rw [hx.out] at c0 c1 c2 c3
      have HB1 := Lib.hid (blwO (blwA wr (.cells #[.int .i64 x.off, .int .i64 x.len, .int .i64 x.addr, .int .i64 x.src] 52)) HB.out)
      have HX := Lib.hid (show PtB (wr.alloc (.cells #[.int .i64 x.off, .int .i64 x.len, .int .i64 x.addr, .int .i64 x.src] 52)) wr.heap.size x from heap_alloc_new _ _)
      have CA := Lib.hid (quiet_on (fun W => ealone_any x W))
      by_cases ho : oneB x = false
      · have HF := Lib.hid (show R = false from HN1.out k hlt (by rw [hx.out]; exact ho))
        rw [ho] at CA
        clear ho
        go_wp2_with fail
        generalize World.alloc _ _ = W0 at *
        obtain ⟨x0, x1, x2, x3⟩ := HX.out.quiet
        refine wp_region_quiet_below (by kernel_rfl) (by kernel_rfl) ?_
        repeat (go_big_quiet_step (first | with_reducible exact CA.out _ _ _))
        refine wpQuiet_nil ?_
        intro _ hw'
        obtain ⟨⟨dq, osq⟩, hw''⟩ := hw'
        subst hw''
        go_wp2_with fail
        go_ret
        rw [HF.out]
        exact ⟨rfl, blwO (below_regrown _ dq osq) HB1.out⟩
      have ho1 : oneB x = true := by simpa using ho
      rw [ho1] at CA
      by_cases hk0 : k = 0
      · have HN := Lib.hid (show upB l (k + 1) from by subst hk0; exact upB_one hlt (by rw [hx.out]; exact ho1))
        have i3 : decide (0 < k) = false := decide_eq_false (by omega)
        clear ho ho1 hk0
        go_wp2_with fail
        generalize World.alloc _ _ = W0 at *
        obtain ⟨x0, x1, x2, x3⟩ := HX.out.quiet
        refine wp_region_quiet_below (by kernel_rfl) (by kernel_rfl) ?_
        repeat (go_big_quiet_step (first | with_reducible exact CA.out _ _ _))
        refine wpQuiet_nil ?_
        intro _ hw'
        obtain ⟨⟨dq, osq⟩, hw''⟩ := hw'
        subst hw''
        go_wp2_with fail
        go_roundw
        case rel => exact ⟨k + 1, by go_num, by omega, HN, Lib.hid (blwO (below_regrown _ dq osq) HB1.out)⟩
        case measure => simp [intOf]; omega
      have hjl : k - 1 < l.length := by omega
      obtain ⟨y, hy⟩ : ∃ y, Hid (l[k - 1] = y) := ⟨_, Lib.hid rfl⟩
      have o1 : oneB y = true := by rw [← hy.out]; exact HU.out.1 (k - 1) hjl (by omega)
      have CE := Lib.hid (quiet_on (fun W => eend_any y (midP_one o1) W))
      have CG := Lib.hid (quiet_on (fun W => egoes_any y x (midP_one o1) W))
      obtain ⟨bk2, off2, he, b0, b1, b2, b3⟩ := (HP.out.below HB1.out).at (k - 1) hjl
      cases he
      rw [hy.out] at b0 b1 b2 b3
      have q0 := Lib.hid (cell_regrown b0)
      have q1 := Lib.hid (cell_regrown b1)
      have q2 := Lib.hid (cell_regrown b2)
      have q3 := Lib.hid (cell_regrown b3)
      have i1 : (0 : Int) ≤ (k : Int) - 1 := by omega
      have i2 : (k : Int) - 1 < (l.length : Int) := by omega
      have i3 : decide (0 < k) = true := decide_eq_true (by omega)
      have HG := Lib.hid (@fit_goes y x o1)
      have HNX := Lib.hid (show fitB y x = true → upB l (k + 1) from fun h => upB_nextP (by omega) HU.out hlt (by rw [hx.out]; exact ho1) (by rw [hx.out, hy.out]; exact h))
      have HFX := Lib.hid (show fitB y x = false → R = false from fun h => HN2.out k (by omega) hlt (by rw [hx.out, hy.out]; exact h))
      clear b0 b1 b2 b3 ho ho1 o1 hk0
      by_cases hf : y.stop ≤ x.off
      · have ft : decide (x.off < y.stop) = false := decide_eq_false (by omega)
        cases hg : goesB y x
        · rw [hg] at CG
          have HN := Lib.hid (HNX.out (by rw [HG.out, hg, decide_eq_true hf]; rfl))
          clear hf hg
          go_wp2_with fail
          generalize World.alloc _ _ = W0 at *
          obtain ⟨x0, x1, x2, x3⟩ := HX.out.quiet
          have q0 := q0.out
          have q1 := q1.out
          have q2 := q2.out
          have q3 := q3.out
          refine wp_region_quiet_below (by kernel_rfl) (by kernel_rfl) ?_
          repeat (go_big_quiet_step (first | with_reducible exact CA.out _ _ _ | with_reducible exact CE.out _ _ _ | with_reducible exact CG.out _ _ _))
          refine wpQuiet_nil ?_
          intro _ hw'
          obtain ⟨⟨dq, osq⟩, hw''⟩ := hw'
          subst hw''
          go_wp2_with fail
          go_roundw
          case rel => exact ⟨k + 1, by go_num, by omega, HN, Lib.hid (blwO (below_regrown _ dq osq) HB1.out)⟩
          case measure => simp [intOf]; omega
        · rw [hg] at CG
          have HF := Lib.hid (HFX.out (by rw [HG.out, hg, Bool.and_comm]; rfl))
          clear hf hg
          go_wp2_with fail
          generalize World.alloc _ _ = W0 at *
          obtain ⟨x0, x1, x2, x3⟩ := HX.out.quiet
          have q0 := q0.out
          have q1 := q1.out
          have q2 := q2.out
          have q3 := q3.out
          refine wp_region_quiet_below (by kernel_rfl) (by kernel_rfl) ?_
          repeat (go_big_quiet_step (first | with_reducible exact CA.out _ _ _ | with_reducible exact CE.out _ _ _ | with_reducible exact CG.out _ _ _))
          refine wpQuiet_nil ?_
          intro _ hw'
          obtain ⟨⟨dq, osq⟩, hw''⟩ := hw'
          subst hw''
          go_wp2_with fail
          go_ret
          rw [HF.out]
          exact ⟨rfl, blwO (below_regrown _ dq osq) HB1.out⟩
      · have ft : decide (x.off < y.stop) = true := decide_eq_true (by omega)
        have HF := Lib.hid (HFX.out (by rw [HG.out, decide_eq_false hf]; rfl))
        clear hf
        go_wp2_with fail
        generalize World.alloc _ _ = W0 at *
        obtain ⟨x0, x1, x2, x3⟩ := HX.out.quiet
        have q0 := q0.out
        have q1 := q1.out
        have q2 := q2.out
        have q3 := q3.out
        refine wp_region_quiet_below (by kernel_rfl) (by kernel_rfl) ?_
        repeat (go_big_quiet_step (first | with_reducible exact CA.out _ _ _ | with_reducible exact CE.out _ _ _))
        refine wpQuiet_nil ?_
        intro _ hw'
        obtain ⟨⟨dq, osq⟩, hw''⟩ := hw'
        subst hw''
        go_wp2_with fail
        go_ret
        rw [HF.out]
        exact ⟨rfl, blwO (below_regrown _ dq osq) HB1.out⟩
    · obtain rfl : k = l.length := by omega
      have HF := Lib.hid (HY.out HU.out)
      go_wp2_with fail
      go_ret
      rw [HF.out]
      exact ⟨rfl, HB.out⟩
theorem endE_none : endE [] = 0 := rfl
theorem endL_last {l : List Pt} (h : 0 < l.length) : endL l = (l[l.length - 1]'(by omega)).stop := by
  unfold endL
  rw [List.getLast?_eq_getElem?, List.getElem?_eq_getElem (by omega)]
set_option maxHeartbeats 4000000 in
theorem eEnd_any (ao : Option Addr) (cap : Nat) (l : List Pt) (w : World) (h : PaL w ao l) (hlen : l.length ≤ maxLen) :
    Calls Try.prog 64 #[.slice ao l.length cap] w fun e w' => e = .returned (.int .i64 (endE l)) ∧ Below w.heap.size w w' := by
  have CG := Lib.hid (egood_any ao cap l w h hlen)
  have HP := Lib.hid h
  have HR := Lib.hid (show endE l = if goodE l = true then endL l else 0 from rfl)
  have HL := Lib.hid (@endL_last l)
  unfold maxLen at hlen
  have hlen' : (l.length : Int) ≤ 9223372036854775807 := by omega
  clear h
  by_cases h0 : l.length = 0
  · obtain rfl := List.eq_nil_of_length_eq_zero h0
    clear CG h0
    go_enter Try.func64, Try.ntmps64
    go_wp2_with fail
    go_ret
    exact ⟨rfl, Below.refl _ _⟩
  have z0 : ((l.length : Int) == 0) = false := beq_eq_false_iff_ne.2 (by omega)
  cases hg : goodE l
  · rw [hg] at CG HR
    clear hg h0 hlen
    go_enter Try.func64, Try.ntmps64
    go_wp2_with (go_at_call 59; refine CG.out.mono ?_; rintro e w1 ⟨rfl, hb1⟩; have HB1 := Lib.hid hb1; clear hb1)
    go_ret
    rw [HR.out]
    exact ⟨rfl, HB1.out⟩
  · rw [hg, if_pos rfl] at HR
    rw [hg] at CG
    have hjl : l.length - 1 < l.length := by omega
    obtain ⟨y, hy⟩ : ∃ y, Hid (l[l.length - 1] = y) := ⟨_, Lib.hid rfl⟩
    have HLL := Lib.hid (show endL l = y.stop from by rw [HL.out (by omega), hy.out])
    have CE := Lib.hid (fun W => eend_any y (by rw [← hy.out]; exact midP_one ((rail_iff.1 (goodE_iff.1 hg).2).1 _ hjl)) W)
    have i1 : (0 : Int) ≤ (l.length : Int) - 1 := by omega
    clear hg h0 hlen
    go_enter Try.func64, Try.ntmps64
    go_wp2_with (first
      | (go_at_call 65; with_reducible refine (CE.out _).mono ?_; rintro e w2 ⟨rfl, hb2⟩; have HB2 := Lib.hid (blwO hb2 HB1.out); clear hb2)
      | (go_at_call 59; refine CG.out.mono ?_; rintro e w1 ⟨rfl, hb1⟩; have HB1 := Lib.hid hb1; clear hb1; obtain ⟨bk, off, hao, c0, c1, c2, c3⟩ := (HP.out.below HB1.out).at (l.length - 1) hjl; subst hao; rw [hy.out] at c0 c1 c2 c3))
    go_ret
    rw [HR.out, HLL.out]
    exact ⟨rfl, HB2.out⟩
end Go.Proofs.Ytfkgeefoknaldaa
namespace Go.Proofs.Ytfkgeefoknaldaa
open Go.RowKit Go.Sort
set_option linter.unusedVariables false
set_option maxRecDepth 20000
/-- a row of 8192 bytes, each where it lies -/
def WB (w : World) (g : Nat) (F : ByteF) : Prop := ∃ cur : Array Value, w.heap[g]? = some (.cells cur 119 (0, 0)) ∧ cur.size = 16384 ∧ ∀ i : Nat, i < 8192 → cur[i * 2]? = some (.int .i64 (F i).1) ∧ cur[i * 2 + 1]? = some (.int .i64 (F i).2)
theorem WB.lt {w : World} {g : Nat} {F : ByteF} (h : WB w g F) : g < w.heap.size := by
  obtain ⟨cur, h1, _⟩ := h
  exact lt_of_block h1
theorem WB.keep {w w' : World} {g : Nat} {F : ByteF} (h : WB w g F) (e : w'.heap[g]? = w.heap[g]?) : WB w' g F := by
  obtain ⟨cur, h1, h2⟩ := h
  exact ⟨cur, e.trans h1, h2⟩
theorem WB.below {w w' : World} {g : Nat} {F : ByteF} (h : WB w g F) (hb : Below w.heap.size w w') : WB w' g F := h.keep (hb.block g h.lt)
theorem WB.congr {w : World} {g : Nat} {F G : ByteF} (h : WB w g F) (e : ∀ i, i < 8192 → F i = G i) : WB w g G := by
  obtain ⟨cur, h1, h2, h3⟩ := h
  exact ⟨cur, h1, h2, fun i hi => by rw [← e i hi]; exact h3 i hi⟩
theorem WB.at {w : World} {g : Nat} {F : ByteF} (h : WB w g F) {i : Nat} (hi : i < 8192) : (w.cell? ⟨g, i * 2, none⟩ = some (.int .i64 (F i).1) ∧ w.cell? ⟨g, i * 2 + 1, none⟩ = some (.int .i64 (F i).2)) ∧ w.frozen? ⟨g, i * 2, none⟩ = false ∧ w.frozen? ⟨g, i * 2 + 1, none⟩ = false := by
  obtain ⟨cur, h1, h2, h3⟩ := h
  obtain ⟨a, b⟩ := h3 i hi
  exact ⟨⟨(cell_of h1 _).trans a, (cell_of h1 _).trans b⟩, free_of h1 _, free_of h1 _⟩
theorem WB.set1 {w : World} {g : Nat} {F : ByteF} (h : WB w g F) {i : Nat} (hi : i < 8192) (a : Int) : WB (w.setCell ⟨g, i * 2, none⟩ (.int .i64 a)) g (fun j => if j = i then (a, (F j).2) else F j) := by
  obtain ⟨cur, h1, h2, h3⟩ := h
  refine ⟨_, heap_setCell_same w g (i * 2) cur _ _ h1, by simpa using h2, fun j hj => ?_⟩
  obtain ⟨p, q⟩ := h3 j hj
  show _ = some (Value.int .i64 (if j = i then (a, (F j).2) else F j).1) ∧ _ = some (Value.int .i64 (if j = i then (a, (F j).2) else F j).2)
  by_cases e : j = i
  · subst e
    rw [if_pos rfl]
    refine ⟨by rw [Array.getElem?_setIfInBounds_self_of_lt (by omega)], ?_⟩
    rw [Array.getElem?_setIfInBounds_ne (by omega)]
    exact q
  · rw [if_neg e]
    rw [Array.getElem?_setIfInBounds_ne (by omega), Array.getElem?_setIfInBounds_ne (by omega)]
    exact ⟨p, q⟩
theorem WB.set2 {w : World} {g : Nat} {F : ByteF} (h : WB w g F) {i : Nat} (hi : i < 8192) (a : Int) : WB (w.setCell ⟨g, i * 2 + 1, none⟩ (.int .i64 a)) g (fun j => if j = i then ((F j).1, a) else F j) := by
  obtain ⟨cur, h1, h2, h3⟩ := h
  refine ⟨_, heap_setCell_same w g (i * 2 + 1) cur _ _ h1, by simpa using h2, fun j hj => ?_⟩
  obtain ⟨p, q⟩ := h3 j hj
  show _ = some (Value.int .i64 (if j = i then ((F j).1, a) else F j).1) ∧ _ = some (Value.int .i64 (if j = i then ((F j).1, a) else F j).2)
  by_cases e : j = i
  · subst e
    rw [if_pos rfl]
    refine ⟨?_, by rw [Array.getElem?_setIfInBounds_self_of_lt (by omega)]⟩
    rw [Array.getElem?_setIfInBounds_ne (by omega)]
    exact p
  · rw [if_neg e]
    rw [Array.getElem?_setIfInBounds_ne (by omega), Array.getElem?_setIfInBounds_ne (by omega)]
    exact ⟨p, q⟩
/-- one byte is set -/
theorem WB.set {w : World} {g : Nat} {G : MapF} (h : WB w g (bytG G)) {i : Nat} (hi : i < 8192) (a f : Int) : WB ((w.setCell ⟨g, i * 2, none⟩ (.int .i64 a)).setCell ⟨g, i * 2 + 1, none⟩ (.int .i64 f)) g (bytG (setG G i (a, f))) :=
  ((h.set1 hi a).set2 hi f).congr (fun j hj => by
    show (if j = i then ((if j = i then (a, (bytG G j).2) else bytG G j).1, f) else if j = i then (a, (bytG G j).2) else bytG G j) = bytG (setG G i (a, f)) j
    by_cases e : j = i
    · subst e
      rw [if_pos rfl, if_pos rfl]
      unfold bytG setG
      rw [if_pos rfl]
    · rw [if_neg e, if_neg e]
      unfold bytG setG
      rw [if_neg (by omega)])
theorem WB.made (w : World) {M : Array Value} (hM : M = madeCells #[.int .i64 0, .int .i64 0] 16384) : WB (w.alloc (.cells M 119)) w.heap.size (fun _ => (0, 0)) := by
  refine ⟨M, heap_alloc_new _ _, by rw [hM, size_madeCells], fun i hi => ?_⟩
  subst hM
  unfold madeCells
  constructor
  · simp [show i * 2 < 16384 by omega]
  · simp [show i * 2 + 1 < 16384 by omega, Nat.add_mod]
set_option maxRecDepth 200000 in
set_option maxHeartbeats 4000000 in
theorem rspread_any (ao : Option Addr) (cap : Nat) (l : List Pt) (w : World) (h : PaL w ao l) (hl : l.length ≤ 100) (h1 : ∀ x ∈ l, oneB x = true) :
    Calls Try.prog 72 #[.slice ao l.length cap] w fun e w' => ∃ g, e = .returned (.slice (some ⟨g, 0, none⟩) 8192 8192) ∧ w.heap.size ≤ g ∧ WB w' g (bytG (clipG 0 8192 (laidE l))) ∧ Below w.heap.size w w' := by
  have HP := Lib.hid h
  have H1 := Lib.hid h1
  have hlI : (l.length : Int) ≤ 100 := by omega
  have hi0 : (Try.prog.info? 119).map (fun i => (i.zero, i.size, i.bytes)) = some (some (.agg #[.int .i64 0, .int .i64 0]), 2, 16) := by kernel_rfl
  obtain ⟨i0, hi, hz0, hz1, hz2⟩ := info_parts hi0
  obtain ⟨M, hM⟩ : ∃ M, M = madeCells (Value.agg #[.int .i64 0, .int .i64 0]).cells ((8192 : Int).toNat * i0.size) := ⟨_, rfl⟩
  have hmk : ∀ W : World, (Instr.makeSlice 116 (.int .i64 8192) (.int .i64 8192)).run Try.prog W = .ok (.slice (some ⟨W.heap.size, 0, none⟩) 8192 8192) (W.alloc (.cells M 119)) := fun W => by
    have h := run_makeSlice (P := Try.prog) W 116 119 i0 (.agg #[.int .i64 0, .int .i64 0]) Try.underlying116 hi hz0 .i64 .i64 8192 8192 (by decide) (by decide) (by rw [hz1]; decide) (by rw [hz2]; decide) (by decide)
    rw [← hM] at h
    simpa using h
  have HM := Lib.hid (WB.made w (M := M) (by rw [hM, hz1]; rfl))
  have HB0 := Lib.hid (blwA w (.cells M 119))
  clear h h1 hi0 hi hz0 hz1 hz2 hM
  go_enter Try.func72, Try.ntmps72
  go_wp2_with fail
  generalize w.alloc _ = W0 at *
  go_loopw [4] (fun i wr => ∃ k : Nat, i = .int .i64 k ∧ k ≤ 8192 ∧ Hid (WB wr w.heap.size (fun j => if j < k then (-1, 0) else (0, 0))) ∧ Hid (Below w.heap.size w wr)) (fun i _ => 8192 - (intOf i).toNat)
  case atStart => exact ⟨0, rfl, by decide, Lib.hid (HM.out.congr (fun i _ => (if_neg (Nat.not_lt_zero i)).symm)), HB0⟩
  case round =>
    obtain ⟨k, rfl, hk, HW, HB⟩ := hrel
    by_cases hlt : k < 8192
    · have k0 : (k : Int) < 8192 := by omega
      obtain ⟨⟨c0, c1⟩, f0, f1⟩ := HW.out.at hlt
      have HW1 := Lib.hid ((HW.out.set1 hlt (-1)).congr (G := fun j => if j < k + 1 then (-1, 0) else (0, 0)) (fun j _ => by
        show (if j = k then (-1, (if j < k then ((-1 : Int), (0 : Int)) else (0, 0)).2) else if j < k then (-1, 0) else (0, 0)) = if j < k + 1 then (-1, 0) else (0, 0)
        by_cases e : j = k
        · subst e
          rw [if_pos rfl, if_neg (Nat.lt_irrefl _), if_pos (Nat.lt_succ_self _)]
        · rw [if_neg e]
          by_cases e2 : j < k
          · rw [if_pos e2, if_pos (by omega)]
          · rw [if_neg e2, if_neg (by omega)]))
      have HB1 := Lib.hid (HB.out.setCell (p := ⟨w.heap.size, k * 2, none⟩) (Nat.le_refl _) (.int .i64 (-1)))
      go_wp2_with fail
      go_roundw
      case rel => exact ⟨k + 1, by go_num, by omega, HW1, HB1⟩
      case measure => simp [intOf]; omega
    · have k0 : ¬ (k : Int) < 8192 := by omega
      have hk8 : k = 8192 := by omega
      rw [hk8] at HW
      have HW0 := Lib.hid (HW.out.congr (G := bytG (clipG 0 8192 (laidE (l.take 0)))) (fun j hj => by rw [if_pos hj, List.take_zero]; unfold bytG clipG laidE; split <;> simp_all))
      clear HW hk8 hk hlt
      go_wp2_with fail
      go_loopw [5] (fun i wq => ∃ k : Nat, i = .int .i64 k ∧ k ≤ l.length ∧ Hid (WB wq w.heap.size (bytG (clipG 0 8192 (laidE (l.take k))))) ∧ Hid (Below w.heap.size w wq)) (fun i _ => l.length - (intOf i).toNat)
      case atStart => exact ⟨0, rfl, Nat.zero_le _, HW0, HB⟩
      case round =>
        obtain ⟨k, rfl, hk, HW, HB⟩ := hrel
        by_cases hlt : k < l.length
        · have k0 : (k : Int) < (l.length : Int) := by omega
          have HLS := Lib.hid (laid_step hlt)
          have ob := H1.out _ (List.getElem_mem hlt)
          have HC := Lib.hid (fun W (hb : Below w.heap.size w W) => PaL.at (HP.out.below hb) k hlt)
          obtain ⟨x, hx⟩ : ∃ x, Hid (l[k] = x) := ⟨_, Lib.hid rfl⟩
          rw [hx.out] at HLS ob
          obtain ⟨_, _, rfl, _⟩ := HC.out _ (Below.refl _ _)
          obtain ⟨o1, o2, o3, o4, o5, o6, o7⟩ := oneB_iff.1 ob
          generalize laidE (l.take k) = G at *
          have HW2 := Lib.hid (show WB wr w.heap.size (bytG (partG 0 8192 G x (x.off + ((0 : Nat) : Int)))) from by rw [show x.off + ((0 : Nat) : Int) = max x.off 0 by omega, part_zero]; exact HW.out)
          have HPE := Lib.hid (show partG 0 8192 G x (x.off + x.len) = clipG 0 8192 (laidE (l.take (k + 1))) from by rw [HLS.out]; exact part_done (by have : x.stop = x.off + x.len := rfl; omega))
          have HPN := Lib.hid (fun (a : Int) (h1 : x.off ≤ a) => @part_next 0 8192 G x a (by omega))
          clear ob HLS
          go_wp2_with fail
          go_loopw [6] (fun i wq => ∃ j : Nat, i = .int .i64 j ∧ (j : Int) ≤ x.len ∧ Hid (WB wq w.heap.size (bytG (partG 0 8192 G x (x.off + (j : Int))))) ∧ Hid (Below w.heap.size w wq)) (fun i _ => (x.len - intOf i).toNat)
          case atStart => exact ⟨0, rfl, by omega, HW2, HB⟩
          case round =>
            obtain ⟨j, rfl, hj, HW3, HB3⟩ := hrel
            obtain ⟨_, _, he, c0, c1, c2, c3⟩ := HC.out _ HB3.out
            cases he
            rw [hx.out] at c0 c1 c2 c3
            by_cases hjt : (j : Int) < x.len
            · obtain ⟨p, hp⟩ : ∃ p : Nat, x.off + (j : Int) = p := ⟨(x.off + (j : Int)).toNat, by omega⟩
              have hpl : p < 8192 := by omega
              have hpI : (p : Int) < 8192 := by omega
              have HPS := Lib.hid (show setG (partG 0 8192 G x p) p (x.addr, x.src + (j : Int)) = partG 0 8192 G x ((p : Int) + 1) from by rw [← HPN.out p (by omega)]; congr 2; omega)
              have HPQ := Lib.hid (show x.off + ((j + 1 : Nat) : Int) = (p : Int) + 1 by omega)
              have HW4 := Lib.hid (show WB wr w.heap.size (bytG (partG 0 8192 G x p)) from by rw [← hp]; exact HW3.out)
              obtain ⟨⟨d0, d1⟩, f0, f1⟩ := HW4.out.at hpl
              have HW5 := Lib.hid (HW4.out.set hpl x.addr (x.src + (j : Int)))
              rw [HPS.out] at HW5
              have HB5 := Lib.hid (((HB3.out.setCell (p := ⟨w.heap.size, p * 2, none⟩) (Nat.le_refl _) (.int .i64 x.addr)).setCell (p := ⟨w.heap.size, p * 2 + 1, none⟩) (Nat.le_refl _) (.int .i64 (x.src + (j : Int)))))
              have hw1 : IntKind.i64.wrap (p : Int) = (p : Int) := IntWalk.i64_in _ (by omega)
              have hw2 : IntKind.i64.wrap (x.src + (j : Int)) = x.src + (j : Int) := IntWalk.i64_in _ (by omega)
              go_wp2_with fail
              go_still_tail 22, (by kernel_rfl)
              change wpList _ _ _ _ _ wr.drew
              go_wp2_with fail
              go_roundw
              case rel => exact ⟨j + 1, by go_num, by omega, Lib.hid (by rw [HPQ.out]; exact HW5.out), Lib.hid HB5.out.drew⟩
              case measure => simp [intOf]; omega
            · obtain hje : (j : Int) = x.len := by omega
              have HW4 := Lib.hid (show WB wr w.heap.size (bytG (clipG 0 8192 (laidE (l.take (k + 1))))) from by rw [← HPE.out, ← hje]; exact HW3.out)
              go_wp2_with fail
              go_roundw
              case rel => exact ⟨k + 1, by go_num, by omega, HW4, HB3⟩
              case measure => simp [intOf]; omega
        · obtain rfl : k = l.length := by omega
          go_wp2_with fail
          go_ret
          exact ⟨_, rfl, Nat.le_refl _, by rw [List.take_length] at HW; exact HW.out, HB.out⟩
end Go.Proofs.Ytfkgeefoknaldaa
namespace Go.Proofs.Ytfkgeefoknaldaa
set_option linter.unusedVariables false
open Go.ChangeShapes Go.WideShapes Go.ChangeAt Go.RowKit
set_option maxRecDepth 20000
theorem stpT : StpT Try.prog 31 3 29 91 :=
  ⟨⟨_, _, _, _, _, _, Try.underlying31, rfl, rfl, rfl, rfl, rfl, rfl⟩, by kernel_rfl, Try.underlying3, by kernel_rfl, by kernel_rfl, Try.underlying29, by kernel_rfl, ⟨_, _, _, _, Try.underlying91, rfl, rfl, rfl, rfl⟩⟩
end Go.Proofs.Ytfkgeefoknaldaa
