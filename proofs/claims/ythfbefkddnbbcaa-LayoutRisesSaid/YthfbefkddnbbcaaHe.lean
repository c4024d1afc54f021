/- Plain facts on a layout that goes on: epochs rise by one, an image's Next never falls, a unit that left never comes in again. No conditions. What the law LayoutRises holds from question to question: the layout, the projection that was, the units that left; each in memory of its own. No conditions but those that the statements name. -/
import Derived.Test.YthfbefkddnbbcaaLayK
import Derived.Test.YthfbefkddnbbcaaHb
set_option linter.unusedVariables false
namespace Go.Proofs.Ythfbefkddnbbcaa
set_option linter.unusedVariables false
open Go.RowKit
set_option maxRecDepth 20000
/-- the units that left: they were used, and stand in no chain; those that stand in one were used -/
def Gone (y : Ly) (left : List Int) : Prop := (∀ u ∈ left, u ∈ y.used ∧ u ∉ unitsR y.L) ∧ ∀ u ∈ unitsR y.L, u ∈ y.used
theorem gone_new (ep : Int) (L : List (List Int)) : Gone (newL ep L) [] := ⟨fun u hu => (by cases hu), fun u hu => hu⟩
/-- those that leave -/
def leave (y : Ly) (a : Ak) : List Int := (unitsR y.L).filter (fun u => decide (u ∉ unitsR (y.done a).L))
theorem may_next {y : Ly} {e : Int} {Q : List (List Int)} (h : y.may e Q = true) : nextB y.ep y.L e Q = true ∧ e = y.ep + 1 ∧ ∀ u ∈ unitsR Q, u ∈ unitsR y.L ∨ u ∉ y.used := by
  unfold Ly.may at h
  rw [Bool.and_eq_true] at h
  have h1 := h.1
  unfold nextB at h1
  simp only [Bool.and_eq_true, decide_eq_true_eq] at h1
  refine ⟨h.1, h1.2.2.1, fun u hu => ?_⟩
  have := List.all_eq_true.1 h.2 u hu
  simpa using this
/-- what counts behind a question: as it was, or what may come next -/
theorem done_cases (y : Ly) (a : Ak) : ((y.done a).ep = y.ep ∧ (y.done a).L = y.L ∧ (y.done a).used = y.used) ∨ (y.may (y.done a).ep (y.done a).L = true ∧ (y.done a).used = y.used ++ unitsR (y.done a).L) := by
  unfold Ly.done
  split
  · split
    · next h => exact .inr ⟨h, rfl⟩
    · exact .inl ⟨rfl, rfl, rfl⟩
  · split <;> exact .inl ⟨rfl, rfl, rfl⟩
theorem gone_same {y z : Ly} {left : List Int} (h : Gone y left) (h1 : z.L = y.L) (h2 : z.used = y.used) : Gone z left := by
  unfold Gone
  rw [h1, h2]
  exact h
theorem gone_next {y z : Ly} {left : List Int} (h : Gone y left) (hm : y.may z.ep z.L = true) (hu : z.used = y.used ++ unitsR z.L) : Gone z (left ++ (unitsR y.L).filter (fun u => decide (u ∉ unitsR z.L))) := by
  obtain ⟨_, _, h3⟩ := may_next hm
  refine ⟨fun u hl => ?_, fun u hl => by rw [hu]; exact List.mem_append_right _ hl⟩
  rcases List.mem_append.1 hl with hl | hl
  · obtain ⟨k1, k2⟩ := h.1 u hl
    refine ⟨by rw [hu]; exact List.mem_append_left _ k1, fun hz => ?_⟩
    rcases h3 u hz with h4 | h4
    · exact k2 h4
    · exact h4 k1
  · obtain ⟨k1, k2⟩ := List.mem_filter.1 hl
    exact ⟨by rw [hu]; exact List.mem_append_left _ (h.2 u k1), of_decide_eq_true k2⟩
/-- an image's Next never falls -/
theorem done_n (y : Ly) (a : Ak) : y.n ≤ (y.done a).n := by
  unfold Ly.done
  split
  · split <;> exact Int.le_refl _
  · split
    · next h => exact Int.le_of_lt h.2.2
    · exact Int.le_refl _
theorem tell_done (y : Ly) (a : Ak) (h : a.kind = 9) : y.done a = y := by
  unfold Ly.done
  rw [if_neg (by omega), if_neg (by rintro ⟨h, _⟩; omega)]
theorem tell_ans (y : Ly) (a : Ak) (h : a.kind = 9) : (y.ans a).n = y.n := by
  unfold Ly.ans
  rw [if_pos h]
theorem gone_not {y : Ly} {left : List Int} (h : Gone y left) {u : Int} (hu : u ∈ left) : hasB (unitsR y.L) u = false := by
  simp [hasB, (h.1 u hu).2]
/-- the units that left, of the first k ones that were there -/
def leftK (was now : List Int) (k : Nat) : List Int := (was.take k).filter (fun u => decide (u ∉ now))
theorem leftK_zero (was now : List Int) : leftK was now 0 = [] := rfl
theorem leftK_all (was now : List Int) : leftK was now was.length = was.filter (fun u => decide (u ∉ now)) := by
  unfold leftK
  rw [List.take_of_length_le (Nat.le_refl _)]
theorem leftK_in {was now : List Int} {k : Nat} (hk : k < was.length) (h : hasB now was[k] = true) : leftK was now (k + 1) = leftK was now k := by
  unfold leftK
  rw [List.take_succ_eq_append_getElem hk, List.filter_append]
  simp [hasB] at h
  simp [h]
theorem leftK_out {was now : List Int} {k : Nat} (hk : k < was.length) (h : hasB now was[k] = false) : leftK was now (k + 1) = leftK was now k ++ [was[k]] := by
  unfold leftK
  rw [List.take_succ_eq_append_getElem hk, List.filter_append]
  simp [hasB] at h
  simp [h]
theorem leftK_le (was now : List Int) (k : Nat) : (leftK was now k).length ≤ was.length := by
  unfold leftK
  have h1 := List.length_filter_le (fun u => decide (u ∉ now)) (was.take k)
  have h2 : (was.take k).length ≤ was.length := by rw [List.length_take]; omega
  omega
end Go.Proofs.Ythfbefkddnbbcaa
namespace Go.Proofs.Ythfbefkddnbbcaa
set_option linter.unusedVariables false
open Go.RowKit
set_option maxRecDepth 20000
/-- the layout u in block b; the projection that was (we, wL) in the block c; the units that left (lf) in a row of its own (vl) -/
structure Rise (LG : Nat → (Nat → Prop) → World → Ly → Prop) (B : Nat) (w : World) (b c : Nat) (u : Ly) (we : Int) (wL : List (List Int)) (lf : List Int) (vl : Value) (W : World) : Prop where
  bel : Below B w W
  sz : B ≤ W.heap.size
  low : B ≤ c
  all : ∃ (F : Nat → Prop) (wo : Option Addr) (wc : Nat), LG b F W u ∧ (∀ k, k < B → ¬ F k) ∧ ¬ F c ∧ W.heap[c]? = some (.cells #[.int .i64 we, .slice wo wL.length wc] 24 (0, 0)) ∧
    CG (fun k => k < W.heap.size ∧ ¬ F k ∧ k ≠ c ∧ vl.ownBlock ≠ some k) W (.slice wo wL.length wc) wL ∧ OI W B vl lf ∧ ∀ k, vl.ownBlock = some k → ¬ F k ∧ k ≠ c
section
variable {LG : Nat → (Nat → Prop) → World → Ly → Prop} {B b c : Nat} {w W W' : World} {u : Ly} {we : Int} {wL : List (List Int)} {lf lf' : List Int} {vl vl' : Value}
theorem rise_start (HS : LaySays LG) {w5 w6 : World} {wo : Option Addr} {wc : Nat} (S : Solo (LG b) (fun k => k < w.heap.size) w5 u) (B5 : Below w.heap.size w w5) (HO : OC w6 w5.heap.size (.slice wo wL.length wc) wL) (B6 : Below w5.heap.size w5 w6) :
    Rise LG w.heap.size w b w6.heap.size u we wL [] (.slice none 0 0) (w6.alloc (.cells #[.int .i64 we, .slice wo wL.length wc] 24)) := by
  obtain ⟨_, F, hF, hX⟩ := S
  have hl := (HS.thing b).lt hF
  have h5 := B5.size
  have h6 := B6.size
  have hb := B6.trans ((below_new w6 (.cells #[.int .i64 we, .slice wo wL.length wc] 24)).mono h6)
  have hn := below_new w6 (.cells #[.int .i64 we, .slice wo wL.length wc] 24)
  refine ⟨B5.trans (hb.mono h5), by simp; omega, by omega, F, wo, wc, (HS.thing b).keep hF (Kept.ofBelow hb (fun _ => True)) (fun _ _ => trivial), hX, fun hf => by have := hl _ hf; omega, heap_alloc_new _ _, ?_, OI.nil _ _, fun k e => by cases e⟩
  exact ((CG.of HO).keep (Kept.ofBelow hn (fun _ => True)) (fun _ _ => trivial)).mono (fun k hk => ⟨by simp; omega, fun hf => by have := hl _ hf; omega, by omega, by simp [Value.ownBlock]⟩)
/-- a call that only makes memory -/
theorem Rise.below (HS : LaySays LG) (h : Rise LG B w b c u we wL lf vl W) (hb : Below W.heap.size W W') : Rise LG B w b c u we wL lf vl W' := by
  obtain ⟨h1, h2, h3, F, wo, wc, r1, r2, r3, r4, r5, r6, r7⟩ := h
  exact ⟨h1.trans (hb.mono h2), Nat.le_trans h2 hb.size, h3, F, wo, wc, (HS.thing b).keep r1 (Kept.ofBelow hb (fun _ => True)) (fun _ _ => trivial), r2, r3, below_heap hb r4, (r5.keep (Kept.ofBelow hb (fun _ => True)) (fun _ _ => trivial)).mono (fun k hk => ⟨Nat.lt_of_lt_of_le hk.1 hb.size, hk.2⟩), r6.below hb, r7⟩
/-- a question to the layout -/
theorem Rise.ask (HS : LaySays LG) (h : Rise LG B w b c u we wL lf vl W) {a : Ak} (ho : AkOk a) (hL : fewL a.L) (hu : u.used.length ≤ 100000) (hA : ∀ W, Below B w W → CL W a.ao a.L) :
    Calls Try.prog 13 #[ptrL b, askV a] W fun e w' => ∃ (ao : Option Addr) (cap : Nat), e = .returned (ansV (u.ans a) ao cap) ∧ Rise LG B w b c (u.done a) we wL lf vl w' := by
  obtain ⟨h1, h2, h3, F, wo, wc, r1, r2, r3, r4, r5, r6, r7⟩ := h
  refine (HS.ask b F W u a r1 ho hL hu (fun W' hk => hA W' (h1.trans ((hk.mono (T := fun k => k < B) (fun k hk => r2 k hk)).toBelow h2 (fun k h => h))))).mono ?_
  rintro e w' ⟨xo, xc, C, rfl, _, _, F', s1, _, s2, s3⟩
  have hc := lt_of_block r4
  have old : ∀ k, k < W.heap.size → ¬ F k → ¬ F' k := fun k hk hf hf' => by
    rcases s3 k hf' with h | h
    · exact hf h
    · omega
  refine ⟨xo, xc, rfl, h1.trans ((s2.mono (T := fun k => k < B) (fun k hk => r2 k hk)).toBelow h2 (fun k h => h)), Nat.le_trans h2 s2.size, h3, F', wo, wc, s1, fun k hk => old k (by omega) (r2 k hk), old c hc r3, s2.heap (b := c) r3 r4, ?_, ⟨s2.owns r6.1 (fun k e => (r7 k e).1), r6.2⟩, fun k e => ⟨old k (r6.1.lt k e).2 (r7 k e).1, (r7 k e).2⟩⟩
  exact (r5.keep s2 (fun k hk => hk.2.1)).mono (fun k hk => ⟨Nat.lt_of_lt_of_le hk.1 s2.size, old k hk.1 hk.2.1, hk.2.2⟩)
/-- what the projection that was holds -/
theorem Rise.was (h : Rise LG B w b c u we wL lf vl W) : ∃ wo wc, W.heap[c]? = some (.cells #[.int .i64 we, .slice wo wL.length wc] 24 (0, 0)) ∧ CL W wo wL := by
  obtain ⟨h1, h2, h3, F, wo, wc, r1, r2, r3, r4, r5, r6, r7⟩ := h
  exact ⟨wo, wc, r4, r5.here.1⟩
theorem Rise.left (h : Rise LG B w b c u we wL lf vl W) : OI W B vl lf := by
  obtain ⟨h1, h2, h3, F, wo, wc, r1, r2, r3, r4, r5, r6, r7⟩ := h
  exact r6
theorem Rise.good (HS : LaySays LG) (h : Rise LG B w b c u we wL lf vl W) : goodB u.ep u.L = true := by
  obtain ⟨h1, h2, h3, F, wo, wc, r1, _⟩ := h
  exact HS.good r1
theorem Rise.now (HS : LaySays LG) (h : Rise LG B w b c u we wL lf vl W) : Calls Try.prog 16 #[ptrL b] W fun e w' => ∃ v, e = .returned (.agg #[.int .i64 u.ep, v]) ∧ OC w' W.heap.size v u.L ∧ Below W.heap.size W w' := by
  obtain ⟨h1, h2, h3, F, wo, wc, r1, _⟩ := h
  exact HS.now b F W u r1
/-- the row of those that left grew, and nothing else that was there -/
theorem Rise.grew (HS : LaySays LG) (h : Rise LG B w b c u we wL lf vl W) (hk : Kept (fun k => k < W.heap.size ∧ vl.ownBlock ≠ some k) W W') (hO : OI W' B vl' lf') (hv : ∀ k, vl'.ownBlock = some k → vl.ownBlock = some k ∨ W.heap.size ≤ k) :
    Rise LG B w b c u we wL lf' vl' W' := by
  obtain ⟨h1, h2, h3, F, wo, wc, r1, r2, r3, r4, r5, r6, r7⟩ := h
  have hl := (HS.thing b).lt r1
  have hc := lt_of_block r4
  refine ⟨h1.trans ((hk.mono (T := fun k => k < B) (fun k hb => ⟨by omega, fun e => by have := (r6.1.lt k e).1; omega⟩)).toBelow h2 (fun k h => h)), Nat.le_trans h2 hk.size, h3, F, wo, wc, (HS.thing b).keep r1 hk (fun k hf => ⟨hl k hf, fun e => (r7 k e).1 hf⟩), r2, r3, hk.heap (b := c) ⟨hc, fun e => (r7 c e).2 rfl⟩ r4, ?_, hO, fun k e => ?_⟩
  · exact (r5.keep hk (fun k hk2 => ⟨hk2.1, hk2.2.2.2⟩)).mono (fun k hk2 => ⟨Nat.lt_of_lt_of_le hk2.1 hk.size, hk2.2.1, hk2.2.2.1, fun e => by
      rcases hv k e with h | h
      · exact hk2.2.2.2 h
      · omega⟩)
  · rcases hv k e with h | h
    · exact r7 k h
    · exact ⟨fun hf => by have := hl k hf; omega, by omega⟩
end
/-- the same, and the projection that counts now (ne, nL), in the block d -/
structure RiseN (LG : Nat → (Nat → Prop) → World → Ly → Prop) (B : Nat) (w : World) (b c d : Nat) (u : Ly) (we : Int) (wL : List (List Int)) (ne : Int) (nL : List (List Int)) (lf : List Int) (vl : Value) (no : Option Addr) (nc : Nat) (W : World) : Prop where
  bel : Below B w W
  sz : B ≤ W.heap.size
  low : B ≤ c
  all : ∃ (F : Nat → Prop) (wo : Option Addr) (wc : Nat), LG b F W u ∧ (∀ k, k < B → ¬ F k) ∧ ¬ F c ∧ W.heap[c]? = some (.cells #[.int .i64 we, .slice wo wL.length wc] 24 (0, 0)) ∧
    CG (fun k => k < W.heap.size ∧ ¬ F k ∧ k ≠ c ∧ vl.ownBlock ≠ some k) W (.slice wo wL.length wc) wL ∧ OI W B vl lf ∧ (∀ k, vl.ownBlock = some k → ¬ F k ∧ k ≠ c ∧ k ≠ d) ∧
    d ≠ c ∧ W.heap[d]? = some (.cells #[.int .i64 ne, .slice no nL.length nc] 24 (0, 0)) ∧ CG (fun k => k < W.heap.size ∧ ¬ F k ∧ k ≠ c ∧ vl.ownBlock ≠ some k) W (.slice no nL.length nc) nL
section
variable {LG : Nat → (Nat → Prop) → World → Ly → Prop} {B b c d : Nat} {w W W' : World} {u : Ly} {we ne : Int} {wL nL : List (List Int)} {lf lf' : List Int} {vl vl' : Value} {no : Option Addr} {nc : Nat}
theorem Rise.turn (HS : LaySays LG) (h : Rise LG B w b c u we wL lf vl W) {w3 : World} (hO : OC w3 W.heap.size (.slice no u.L.length nc) u.L) (hb : Below W.heap.size W w3) :
    RiseN LG B w b c w3.heap.size u we wL u.ep u.L lf vl no nc (w3.alloc (.cells #[.int .i64 u.ep, .slice no u.L.length nc] 24)) := by
  have hn := below_new w3 (.cells #[.int .i64 u.ep, .slice no u.L.length nc] 24)
  have hs := hb.size
  have h0 := h
  obtain ⟨h1, h2, h3, F, wo, wc, r1, r2, r3, r4, r5, r6, r7⟩ := h0
  have hl := (HS.thing b).lt r1
  have hc := lt_of_block r4
  have hbb := hb.trans (hn.mono hs)
  refine ⟨h1.trans (hbb.mono h2), Nat.le_trans h2 hbb.size, h3, F, wo, wc, (HS.thing b).keep r1 (Kept.ofBelow hbb (fun _ => True)) (fun _ _ => trivial), r2, r3, below_heap hbb r4, (r5.keep (Kept.ofBelow hbb (fun _ => True)) (fun _ _ => trivial)).mono (fun k hk => ⟨Nat.lt_of_lt_of_le hk.1 hbb.size, hk.2⟩), r6.below hbb, fun k e => ⟨(r7 k e).1, (r7 k e).2, by have := (r6.1.lt k e).2; omega⟩, by omega, heap_alloc_new _ _, ?_⟩
  exact ((CG.of hO).keep (Kept.ofBelow hn (fun _ => True)) (fun _ _ => trivial)).mono (fun k hk => ⟨by simp; omega, fun hf => by have := hl k hf; omega, by omega, fun e => by have := (r6.1.lt k e).2; omega⟩)
theorem RiseN.below (HS : LaySays LG) (h : RiseN LG B w b c d u we wL ne nL lf vl no nc W) (hb : Below W.heap.size W W') : RiseN LG B w b c d u we wL ne nL lf vl no nc W' := by
  obtain ⟨h1, h2, h3, F, wo, wc, r1, r2, r3, r4, r5, r6, r7, r8, r9, r10⟩ := h
  have hk := Kept.ofBelow hb (fun _ => True)
  exact ⟨h1.trans (hb.mono h2), Nat.le_trans h2 hb.size, h3, F, wo, wc, (HS.thing b).keep r1 hk (fun _ _ => trivial), r2, r3, below_heap hb r4, (r5.keep hk (fun _ _ => trivial)).mono (fun k hk => ⟨Nat.lt_of_lt_of_le hk.1 hb.size, hk.2⟩), r6.below hb, r7, r8, below_heap hb r9, (r10.keep hk (fun _ _ => trivial)).mono (fun k hk => ⟨Nat.lt_of_lt_of_le hk.1 hb.size, hk.2⟩)⟩
theorem RiseN.rise (h : RiseN LG B w b c d u we wL ne nL lf vl no nc W) : Rise LG B w b c u we wL lf vl W := by
  obtain ⟨h1, h2, h3, F, wo, wc, r1, r2, r3, r4, r5, r6, r7, r8, r9, r10⟩ := h
  exact ⟨h1, h2, h3, F, wo, wc, r1, r2, r3, r4, r5, r6, fun k e => ⟨(r7 k e).1, (r7 k e).2.1⟩⟩
/-- what both projections hold -/
theorem RiseN.cells (h : RiseN LG B w b c d u we wL ne nL lf vl no nc W) : ∃ wo wc, W.heap[c]? = some (.cells #[.int .i64 we, .slice wo wL.length wc] 24 (0, 0)) ∧ CL W wo wL ∧ W.heap[d]? = some (.cells #[.int .i64 ne, .slice no nL.length nc] 24 (0, 0)) ∧ CL W no nL := by
  obtain ⟨h1, h2, h3, F, wo, wc, r1, r2, r3, r4, r5, r6, r7, r8, r9, r10⟩ := h
  exact ⟨wo, wc, r4, r5.here.1, r9, r10.here.1⟩
theorem RiseN.grew (HS : LaySays LG) (h : RiseN LG B w b c d u we wL ne nL lf vl no nc W) (hk : Kept (fun k => k < W.heap.size ∧ vl.ownBlock ≠ some k) W W') (hO : OI W' B vl' lf') (hv : ∀ k, vl'.ownBlock = some k → vl.ownBlock = some k ∨ W.heap.size ≤ k) :
    RiseN LG B w b c d u we wL ne nL lf' vl' no nc W' := by
  obtain ⟨h1, h2, h3, F, wo, wc, r1, r2, r3, r4, r5, r6, r7, r8, r9, r10⟩ := h
  have hl := (HS.thing b).lt r1
  have hc := lt_of_block r4
  have hd := lt_of_block r9
  have up : ∀ k, (k < W.heap.size ∧ ¬ F k ∧ k ≠ c ∧ vl.ownBlock ≠ some k) → (k < W'.heap.size ∧ ¬ F k ∧ k ≠ c ∧ vl'.ownBlock ≠ some k) := fun k hk2 => ⟨Nat.lt_of_lt_of_le hk2.1 hk.size, hk2.2.1, hk2.2.2.1, fun e => by
    rcases hv k e with h | h
    · exact hk2.2.2.2 h
    · omega⟩
  refine ⟨h1.trans ((hk.mono (T := fun k => k < B) (fun k hb => ⟨by omega, fun e => by have := (r6.1.lt k e).1; omega⟩)).toBelow h2 (fun k h => h)), Nat.le_trans h2 hk.size, h3, F, wo, wc, (HS.thing b).keep r1 hk (fun k hf => ⟨hl k hf, fun e => (r7 k e).1 hf⟩), r2, r3, hk.heap (b := c) ⟨hc, fun e => (r7 c e).2.1 rfl⟩ r4, (r5.keep hk (fun k hk2 => ⟨hk2.1, hk2.2.2.2⟩)).mono up, hO, fun k e => ?_, r8, hk.heap (b := d) ⟨hd, fun e => (r7 d e).2.2 rfl⟩ r9, (r10.keep hk (fun k hk2 => ⟨hk2.1, hk2.2.2.2⟩)).mono up⟩
  rcases hv k e with h | h
  · exact r7 k h
  · exact ⟨fun hf => by have := hl k hf; omega, by omega, by omega⟩
/-- the projection that counts is noted as the one that was -/
theorem RiseN.note (HS : LaySays LG) (h : RiseN LG B w b c d u we wL ne nL lf vl no nc W) : RiseN LG B w b c d u ne nL ne nL lf vl no nc ((W.setCell ⟨c, 0, none⟩ (.int .i64 ne)).setCell ⟨c, 1, none⟩ (.slice no nL.length nc)) := by
  obtain ⟨h1, h2, h3, F, wo, wc, r1, r2, r3, r4, r5, r6, r7, r8, r9, r10⟩ := h
  have hk := xkept W c 0 1 (.int .i64 ne) (.slice no nL.length nc)
  have hs : ((W.setCell ⟨c, 0, none⟩ (.int .i64 ne)).setCell ⟨c, 1, none⟩ (.slice no nL.length nc)).heap.size = W.heap.size := by simp [World.setCell]
  refine ⟨h1.trans (hk.toBelow h2 (fun k hk => by omega)), by rw [hs]; exact h2, h3, F, no, nc, (HS.thing b).keep r1 hk (fun k hf e => r3 (e ▸ hf)), r2, r3, heap_setCell_same _ c 1 _ _ _ (heap_setCell_same W c 0 _ _ _ r4), ?_, ⟨hk.owns r6.1 (fun k e => (r7 k e).2.1), r6.2⟩, r7, r8, hk.heap (b := d) r8 r9, ?_⟩
  · rw [hs]
    exact r10.keep hk (fun k hk => hk.2.2.1)
  · rw [hs]
    exact r10.keep hk (fun k hk => hk.2.2.1)
theorem RiseN.left (h : RiseN LG B w b c d u we wL ne nL lf vl no nc W) : OI W B vl lf := h.rise.left
/-- the layout is asked what counts -/
theorem Rise.tell (HS : LaySays LG) (h : Rise LG B w b c u we wL lf vl W) (hu : u.used.length ≤ 100000) :
    Calls Try.prog 13 #[.pointer (some ⟨b, 0, none⟩), .agg #[.int .i64 9, .int .i64 0, .int .i64 0, .int .i64 0, .int .i64 0, .int .i64 0, .string ⟨#[]⟩, .int .i64 0, .slice none 0 0]] W fun e w' => ∃ (s : ByteArray) (q0 q1 q2 q3 q4 : Int) (vo : Option Addr) (vn vc : Nat),
      e = .returned (.agg #[.int .i64 q0, .int .i64 u.n, .string s, .int .i64 q1, .slice vo vn vc, .int .i64 q2, .int .i64 q3, .int .i64 q4]) ∧ Rise LG B w b c u we wL lf vl w' := by
  have z : ∀ x : Int, 0 ≤ x ∧ x ≤ 9 → i64w x := fun x hx => WalkArith.wf_i64 (by omega)
  refine (h.ask HS (a := akL 9 0 0 0 0 [] none 0) (akL_ok (z 9 (by omega)) (z 0 (by omega)) (z 0 (by omega)) (z 0 (by omega)) (z 0 (by omega)) ⟨Nat.zero_le _, fun c hc => (by cases hc)⟩ (fun _ => rfl) (Nat.le_refl _)) ⟨Nat.zero_le _, fun c hc => (by cases hc)⟩ hu (fun W _ => CL.nil _ _)).mono ?_
  rintro e w' ⟨ao, cap, rfl, hr⟩
  rw [tell_done u _ rfl] at hr
  refine ⟨(u.ans (akL 9 0 0 0 0 [] none 0)).data, (u.ans (akL 9 0 0 0 0 [] none 0)).code, (u.ans (akL 9 0 0 0 0 [] none 0)).pe, (u.ans (akL 9 0 0 0 0 [] none 0)).mark, (u.ans (akL 9 0 0 0 0 [] none 0)).size, (u.ans (akL 9 0 0 0 0 [] none 0)).epoch, ao, (u.ans (akL 9 0 0 0 0 [] none 0)).L.length, cap, ?_, hr⟩
  rw [← tell_ans u (akL 9 0 0 0 0 [] none 0) rfl]
  rfl
end
end Go.Proofs.Ythfbefkddnbbcaa
