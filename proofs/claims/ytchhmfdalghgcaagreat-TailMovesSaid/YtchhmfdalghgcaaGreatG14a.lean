/- What the program's own Good returns. Conditions: the projection lies where the call was told, and is not too large. Many things in memory, each of them in blocks of its own: what a call of the one leaves of the others. Conditions: as each statement says. What the document's own layout tells of the units that were used, and whether a projection may come next. Conditions: it and the projection lie where the call was told. -/
import Derived.Test.YtchhmfdalghgcaaGreatG13b
import Derived.Test.YtchhmfdalghgcaaGreatG13a
import Derived.Test.YtchhmfdalghgcaaGreatG12b
set_option linter.unusedVariables false
namespace Go.Proofs.YtchhmfdalghgcaaGreat
open Go.RowKit Go.Maps
set_option maxRecDepth 20000
/-- is a number within bounds? -/
def inB (v a b : Int) : Bool := decide (a ≤ v ∧ v ≤ b)
theorem pwithin_any (v a b : Int) (w : World) :
    Calls Tryz.prog 50 #[.int .i64 v, .int .i64 a, .int .i64 b] w fun e w' => e = .returned (.bool (inB v a b)) ∧ w = w' := by
  by_cases h1 : a ≤ v
  · by_cases h2 : v ≤ b
    · rw [show inB v a b = true from decide_eq_true ⟨h1, h2⟩]
      go_enter Tryz.func50, Tryz.ntmps50
      go_wp2_with fail
      go_ret
      exact ⟨rfl, rfl⟩
    · rw [show inB v a b = false from decide_eq_false (fun h => h2 h.2)]
      have h3 : decide (v ≤ b) = false := decide_eq_false h2
      clear h2
      go_enter Tryz.func50, Tryz.ntmps50
      go_wp2_with fail
      go_ret
      exact ⟨rfl, rfl⟩
  · rw [show inB v a b = false from decide_eq_false (fun h => h1 h.1)]
    have h3 : decide (a ≤ v) = false := decide_eq_false h1
    clear h1
    go_enter Tryz.func50, Tryz.ntmps50
    go_wp2_with fail
    go_ret
    exact ⟨rfl, rfl⟩
theorem isNone_any (v : Int) (w : World) :
    Calls Tryz.prog 52 #[.int .i64 v] w fun e w' => e = .returned (.bool (!inB v 0 15)) ∧ w = w' := by
  go_enter Tryz.func52, Tryz.ntmps52
  go_wp2_with (go_at_call 50; refine (pwithin_any _ _ _ _).mono ?_; rintro e w1 ⟨rfl, rfl⟩)
  go_ret
  exact ⟨rfl, rfl⟩
/-- does a unit out of bounds stand in a chain? -/
def badB (l : List Int) : Bool := !(l.all fun u => inB u 0 15)
theorem badB_no {l : List Int} (h : ∀ u ∈ l.take l.length, inB u 0 15 = true) : badB l = false := by
  rw [List.take_of_length_le (Nat.le_refl _)] at h
  simpa [badB, List.all_eq_true] using h
theorem badB_yes {l : List Int} {k : Nat} (hk : k < l.length) (h : inB l[k] 0 15 = false) : badB l = true := by
  cases e : badB l
  · have : ∀ u ∈ l, inB u 0 15 = true := by simpa [badB, List.all_eq_true] using e
    rw [this _ (List.getElem_mem hk)] at h
    cases h
  · rfl
theorem all_in_succ {l : List Int} {k : Nat} (hk : k < l.length) (h : ∀ u ∈ l.take k, inB u 0 15 = true) (e : inB l[k] 0 15 = true) : ∀ u ∈ l.take (k + 1), inB u 0 15 = true := by
  rw [List.take_succ_eq_append_getElem hk]
  intro u hu
  rcases List.mem_append.1 hu with h1 | h1
  · exact h u h1
  · rw [List.mem_singleton.1 h1]; exact e
theorem index_any (l : List Int) (ao : Option Addr) (cap : Nat) (w : World) (h : NLI w ao cap l) (hl : l.length ≤ 1000000) :
    Calls Tryz.prog 61 #[.slice ao l.length cap, .func (.func 52) #[] #[]] w fun e w' => ∃ r : Int, e = .returned (.int .i64 r) ∧ w = w' ∧ ((0 ≤ r ∧ badB l = true) ∨ (r < 0 ∧ badB l = false)) := by
  have HY := Lib.hid (fun k (hk : k < l.length) => show inB l[k] 0 15 = false → badB l = true from fun e => badB_yes hk e)
  have HN := Lib.hid (show (∀ u ∈ l.take l.length, inB u 0 15 = true) → badB l = false from badB_no)
  generalize badB l = R at *
  have HA := Lib.hid h
  have hl' : (l.length : Int) ≤ 1000000 := by omega
  clear h
  go_enter Tryz.func61, Tryz.ntmps61
  go_wp2_with fail
  go_loop [8] (fun i => ∃ k : Nat, i = .int .i64 k ∧ k ≤ l.length ∧ Hid (∀ u ∈ l.take k, inB u 0 15 = true)) (fun i => l.length - (intOf i).toNat)
  case atStart => exact ⟨0, rfl, Nat.zero_le _, Lib.hid (by simp)⟩
  case round =>
    obtain ⟨k, rfl, hk, HT⟩ := hrel
    by_cases hlt : k < l.length
    · obtain ⟨bk, off, rfl, c0⟩ := HA.out.at k hlt
      have k0 : (k : Int) < (l.length : Int) := by omega
      by_cases he : inB l[k] 0 15 = true
      · have HT2 := Lib.hid (all_in_succ hlt HT.out he)
        have CI := Lib.hid (isNone_any l[k] w)
        rw [he] at CI
        clear he
        generalize l[k] = u at *
        go_wp2_with (go_at_call 52; refine CI.out.mono ?_; rintro e w1 ⟨rfl, rfl⟩)
        go_round
        case rel => exact ⟨k + 1, by go_num, by omega, HT2⟩
        case measure => simp [intOf]; omega
      · have he' : inB l[k] 0 15 = false := by simpa using he
        have HX := Lib.hid (HY.out k hlt he')
        have CI := Lib.hid (isNone_any l[k] w)
        rw [he'] at CI
        clear he he'
        generalize l[k] = u at *
        go_wp2_with (go_at_call 52; refine CI.out.mono ?_; rintro e w1 ⟨rfl, rfl⟩)
        go_ret
        exact ⟨_, rfl, rfl, .inl ⟨by omega, HX.out⟩⟩
    · obtain rfl : k = l.length := by omega
      have HX := Lib.hid (HN.out HT.out)
      go_wp2_with fail
      go_ret
      exact ⟨_, rfl, rfl, .inr ⟨by decide, HX.out⟩⟩
theorem contains_any (l : List Int) (ao : Option Addr) (cap : Nat) (w : World) (h : NLI w ao cap l) (hl : l.length ≤ 1000000) :
    Calls Tryz.prog 51 #[.slice ao l.length cap, .func (.func 52) #[] #[]] w fun e w' => e = .returned (.bool (badB l)) ∧ w = w' := by
  have CI := Lib.hid (index_any l ao cap w h hl)
  have HW := Lib.hid h
  clear h hl
  by_cases hb : badB l = true
  · rw [hb] at CI ⊢
    clear hb
    go_enter Tryz.func51, Tryz.ntmps51
    go_wp2_with (go_at_call 61; refine CI.out.mono ?_; rintro e w1 ⟨r, rfl, rfl, hr⟩; have hr0 : decide (0 ≤ r) = true := decide_eq_true (hr.elim (fun h => h.1) (fun h => by cases h.2)); clear hr)
    go_ret
    exact ⟨rfl, rfl⟩
  · have hb' : badB l = false := by simpa using hb
    rw [hb'] at CI ⊢
    clear hb hb'
    go_enter Tryz.func51, Tryz.ntmps51
    go_wp2_with (go_at_call 61; refine CI.out.mono ?_; rintro e w1 ⟨r, rfl, rfl, hr⟩; have hr0 : decide (0 ≤ r) = false := decide_eq_false (Int.not_le.2 (hr.elim (fun h => by cases h.2) (fun h => h.1))); clear hr)
    go_ret
    exact ⟨rfl, rfl⟩
/-- how many units stand in the first n chains -/
def standN (L : List (List Int)) (n : Nat) : Nat := (L.take n).flatten.length
theorem standN_succ {L : List (List Int)} {n : Nat} (h : n < L.length) : standN L (n + 1) = standN L n + L[n].length := by
  unfold standN
  rw [List.take_succ_eq_append_getElem h, List.flatten_append, List.length_append]
  simp
theorem standN_all (L : List (List Int)) : standN L L.length = L.flatten.length := by
  unfold standN
  rw [List.take_of_length_le (Nat.le_refl _)]
theorem standN_le {L : List (List Int)} (hl : L.length ≤ 255 ∧ ∀ c ∈ L, c.length ≤ 255) (n : Nat) : standN L n ≤ 70000 := by
  have h2 := flat_le (L.take n) 255 (fun c hc => hl.2 c (List.mem_of_mem_take hc))
  have h5 : (L.take n).length ≤ 255 := by rw [List.length_take]; omega
  have h6 : 255 * (L.take n).length ≤ 255 * 255 := Nat.mul_le_mul_left _ h5
  unfold standN
  omega
theorem chainB_parts (c : List Int) : chainB c = (inB c.length 1 4 && !badB c) := by
  unfold chainB badB inB
  rw [Bool.not_not]
  congr 1
  rw [decide_eq_decide]
  omega
theorem goodB_chainB {ep : Int} {L : List (List Int)} {n : Nat} (hn : n < L.length) (h : chainB L[n] = false) : goodB ep L = false := by
  rw [Bool.eq_false_iff]
  intro e
  rw [(goodB_iff.1 e).2.2.1 _ (List.getElem_mem hn)] at h
  cases h
theorem take_chains {L : List (List Int)} {n : Nat} (hn : n < L.length) (h : ∀ c ∈ L.take n, chainB c = true) (e : chainB L[n] = true) : ∀ c ∈ L.take (n + 1), chainB c = true := by
  rw [List.take_succ_eq_append_getElem hn]
  intro u hu
  rcases List.mem_append.1 hu with h1 | h1
  · exact h u h1
  · rw [List.mem_singleton.1 h1]; exact e
theorem goodB_head {ep : Int} {L : List (List Int)} (h : inB ep 0 2147483647 = false ∨ inB L.length 1 4 = false) : goodB ep L = false := by
  rw [Bool.eq_false_iff]
  intro e
  obtain ⟨h1, h2, _⟩ := goodB_iff.1 e
  rcases h with h | h
  · exact absurd h1 (of_decide_eq_false h)
  · exact absurd (show (1 : Int) ≤ L.length ∧ (L.length : Int) ≤ 4 by omega) (of_decide_eq_false h)
theorem goodB_last {ep : Int} {L : List (List Int)} (h1 : inB ep 0 2147483647 = true) (h2 : inB L.length 1 4 = true) (h3 : ∀ c ∈ L.take L.length, chainB c = true) {D : DataW Unit} (h : Ms L D L.flatten) :
    (((Maps.size D : Nat) : Int) == ((standN L L.length : Nat) : Int)) = goodB ep L := by
  rw [List.take_of_length_le (Nat.le_refl _)] at h3
  have e1 := of_decide_eq_true h1
  have e2 := of_decide_eq_true h2
  have e3 := unitsR_length L
  have e4 : Maps.size D = (unitsR L).length := h.size
  rw [standN_all, Bool.eq_iff_iff, beq_iff_eq, goodB_iff, e4]
  constructor
  · intro e
    exact ⟨e1, by omega, h3, e3.1 (by omega)⟩
  · rintro ⟨_, _, _, e⟩
    have := e3.2 e
    omega
set_option maxHeartbeats 4000000 in
theorem pgood_any (ep : Int) (ao : Option Addr) (cap : Nat) (L : List (List Int)) (w : World) (h : CL w ao L) (hl : L.length ≤ 255 ∧ ∀ c ∈ L, c.length ≤ 255) :
    Calls Tryz.prog 32 #[.agg #[.int .i64 ep, .slice ao L.length cap]] w fun e w' => e = .returned (.bool (goodB ep L)) ∧ Below w.heap.size w w' := by
  have HB0 := Lib.hid ((Below.refl w.heap.size w).alloc (Nat.le_refl _) (.cells #[.int .i64 ep, .slice ao L.length cap] 29))
  have HC := Lib.hid (h.below HB0.out)
  have hl' : (L.length : Int) ≤ 255 := by have := hl.1; omega
  have HM := Lib.hid hl
  have HH := Lib.hid (fun h => @goodB_head ep L h)
  have CE := Lib.hid (fun w => pwithin_any ep 0 2147483647 w)
  have CN := Lib.hid (fun w => pwithin_any L.length 1 4 w)
  clear h hl
  by_cases he : inB ep 0 2147483647 = false
  · rw [HH.out (.inl he)]
    rw [he] at CE
    clear he
    go_enter Tryz.func32, Tryz.ntmps32
    go_wp2_with (go_at_call 50; (with_reducible refine (CE.out _).mono ?_); rintro e w1 ⟨rfl, rfl⟩)
    go_ret
    exact ⟨rfl, HB0.out⟩
  have he' : inB ep 0 2147483647 = true := by simpa using he
  by_cases hn : inB L.length 1 4 = false
  · rw [HH.out (.inr hn)]
    rw [he'] at CE
    rw [hn] at CN
    clear he he' hn
    go_enter Tryz.func32, Tryz.ntmps32
    go_wp2_with (go_at_call 50; first | ((with_reducible refine (CE.out _).mono ?_); rintro e w1 ⟨rfl, rfl⟩) | ((with_reducible refine (CN.out _).mono ?_); rintro e w1 ⟨rfl, rfl⟩))
    go_ret
    exact ⟨rfl, HB0.out⟩
  have hn' : inB L.length 1 4 = true := by simpa using hn
  have HCH := Lib.hid (fun n hn => @goodB_chainB ep L n hn)
  have HLA := Lib.hid (fun h3 D h => @goodB_last ep L he' hn' h3 D h)
  have HST := Lib.hid (fun n => standN_le HM.out n)
  have HSS := Lib.hid (fun n h => @standN_succ L n h)
  have CM := Lib.hid (met_any ep ao cap L _ HC.out HM.out)
  have HS0 := Lib.hid (show standN L 0 = 0 from rfl)
  rw [he'] at CE
  rw [hn'] at CN
  clear he he' hn hn'
  generalize goodB ep L = R at *
  go_enter Tryz.func32, Tryz.ntmps32
  go_wp2_with (go_at_call 50; first | ((with_reducible refine (CE.out _).mono ?_); rintro e w1 ⟨rfl, rfl⟩) | ((with_reducible refine (CN.out _).mono ?_); rintro e w1 ⟨rfl, rfl⟩))
  go_loop [3, 20] (fun s i => ∃ n : Nat, i = .int .i64 n ∧ s = .int .i64 (standN L n) ∧ n ≤ L.length ∧ Hid (∀ c ∈ L.take n, chainB c = true)) (fun _ i => L.length - (intOf i).toNat)
  case atStart => exact ⟨0, rfl, by rw [HS0.out]; rfl, Nat.zero_le _, Lib.hid (by simp)⟩
  case round =>
    obtain ⟨n, rfl, rfl, hn, HA⟩ := hrel
    by_cases hlt : n < L.length
    · obtain ⟨bk, off, ai, ci, hao, c0, hN⟩ := HC.out n hlt
      subst hao
      have k0 : (n : Int) < (L.length : Int) := by omega
      have m0 := HM.out.2 _ (List.getElem_mem hlt)
      have m0' : (L[n].length : Int) ≤ 255 := by omega
      have CK := Lib.hid (contains_any L[n] ai ci _ hN (by omega))
      have CL1 := Lib.hid (fun w => pwithin_any L[n].length 1 4 w)
      have HP := Lib.hid (chainB_parts L[n])
      clear hN
      by_cases h1 : inB L[n].length 1 4 = false
      · have HX := Lib.hid (HCH.out n hlt (by rw [HP.out, h1]; rfl))
        rw [h1] at CL1
        clear h1
        go_wp2_with (go_at_call 50; refine (CL1.out _).mono ?_; rintro e w1 ⟨rfl, rfl⟩)
        go_ret
        rw [HX.out]
        exact ⟨rfl, HB0.out⟩
      have h1' : inB L[n].length 1 4 = true := by simpa using h1
      by_cases h2 : badB L[n] = true
      · have HX := Lib.hid (HCH.out n hlt (by rw [HP.out, h1', h2]; rfl))
        rw [h1'] at CL1
        rw [h2] at CK
        clear h1 h1' h2
        go_wp2_with (first | (go_at_call 50; refine (CL1.out _).mono ?_; rintro e w1 ⟨rfl, rfl⟩) | (go_at_call 51; refine CK.out.mono ?_; rintro e w1 ⟨rfl, rfl⟩))
        go_ret
        rw [HX.out]
        exact ⟨rfl, HB0.out⟩
      have h2' : badB L[n] = false := by simpa using h2
      have HAN := Lib.hid (take_chains hlt HA.out (by rw [HP.out, h1', h2']; rfl))
      have HSN := Lib.hid (HSS.out n hlt)
      have st := HST.out n
      rw [h1'] at CL1
      rw [h2'] at CK
      clear h1 h1' h2 h2'
      generalize standN L n = s at *
      go_wp2_with (first | (go_at_call 50; refine (CL1.out _).mono ?_; rintro e w1 ⟨rfl, rfl⟩) | (go_at_call 51; refine CK.out.mono ?_; rintro e w1 ⟨rfl, rfl⟩))
      go_round
      case rel => exact ⟨n + 1, by go_num, by rw [HSN.out]; go_num, by omega, HAN⟩
      case measure => simp [intOf]; omega
    · obtain rfl : n = L.length := by omega
      have HX := Lib.hid (fun D h => HLA.out HA.out D h)
      have st := HST.out L.length
      generalize standN L L.length = s at *
      go_wp2_with (first
        | (go_at_call 53; refine CM.out.mono ?_; rintro e w1 ⟨b, rfl, hb, ⟨D, hD, hMs⟩, hb1⟩; have HD := Lib.hid hD; have HR := Lib.hid (HX.out D hMs); have HB1 := Lib.hid (HB0.out.trans (hb1.mono (by simp))); clear hb hD hMs hb1)
        | (at_len; refine wpList_len_own _ rfl _ 112 rfl 143 141 Tryz.underlying112 spotR _ _ _ rfl HD.out ?_))
      go_ret
      rw [HR.out]
      exact ⟨rfl, HB1.out⟩
end Go.Proofs.YtchhmfdalghgcaaGreat
namespace Go.Proofs.YtchhmfdalghgcaaGreat
set_option linter.unusedVariables false
open Go.RowKit
set_option maxRecDepth 20000
/-- T F w: in world w a thing (of some state) lies in the blocks of F -/
structure Part (T : (Nat → Prop) → World → Prop) : Prop where
  lt : ∀ {F : Nat → Prop} {w : World}, T F w → ∀ k, F k → k < w.heap.size
  keep : ∀ {F S : Nat → Prop} {w w' : World}, T F w → Kept S w w' → (∀ k, F k → S k) → T F w'
theorem Thing.part {α : Type} {T : (Nat → Prop) → World → α → Prop} (h : Thing T) (a : α) : Part (fun F w => T F w a) := ⟨fun h1 => h.lt h1, fun h1 h2 h3 => h.keep h1 h2 h3⟩
/-- the things T 0 .. T (n - 1), in no block of X, and in none of each other's -/
def Bund (n : Nat) (T : Nat → (Nat → Prop) → World → Prop) (X : Nat → Prop) (w : World) : Prop :=
  (∀ k, X k → k < w.heap.size) ∧ ∃ F : Nat → Nat → Prop, (∀ i, i < n → T i (F i) w) ∧ (∀ i, i < n → ∀ k, X k → ¬ F i k) ∧ ∀ i j, i < n → j < n → i ≠ j → ∀ k, F i k → ¬ F j k
/-- the i-th one is another then -/
def swapP (T : Nat → (Nat → Prop) → World → Prop) (i : Nat) (U : (Nat → Prop) → World → Prop) : Nat → (Nat → Prop) → World → Prop := fun j => if j = i then U else T j
section
variable {n i : Nat} {T : Nat → (Nat → Prop) → World → Prop} {U : (Nat → Prop) → World → Prop} {X Y : Nat → Prop} {w w' : World}
theorem Bund.less (h : Bund n T X w) (hy : ∀ k, Y k → X k) : Bund n T Y w := by
  obtain ⟨h1, F, h2, h3, h4⟩ := h
  exact ⟨fun k hk => h1 k (hy k hk), F, h2, fun i hi k hk => h3 i hi k (hy k hk), h4⟩
theorem Bund.kept (hT : ∀ i, i < n → Part (T i)) (h : Bund n T X w) {S : Nat → Prop} (hk : Kept S w w') (hS : ∀ k, ¬ S k → X k) : Bund n T X w' := by
  obtain ⟨h1, F, h2, h3, h4⟩ := h
  refine ⟨fun k hx => Nat.lt_of_lt_of_le (h1 k hx) hk.size, F, fun i hi => (hT i hi).keep (h2 i hi) hk (fun k hf => ?_), h3, h4⟩
  exact Classical.byContradiction fun hn => h3 i hi k (hS k hn) hf
theorem Bund.below (hT : ∀ i, i < n → Part (T i)) (h : Bund n T X w) (hb : Below w.heap.size w w') : Bund n T X w' :=
  h.kept hT (Kept.ofBelow hb (fun _ => True)) (fun k hn => absurd trivial hn)
theorem Bund.wider (hT : ∀ i, i < n → Part (T i)) (h : Bund n T X w) (hb : Below w.heap.size w w') : Bund n T (fun k => X k ∨ (w.heap.size ≤ k ∧ k < w'.heap.size)) w' := by
  have hb2 := h.below hT hb
  obtain ⟨h1, F, h2, h3, h4⟩ := h
  refine ⟨fun k hk => ?_, F, fun i hi => (hT i hi).keep (h2 i hi) (Kept.ofBelow hb (fun _ => True)) (fun _ _ => trivial), fun i hi k hk hf => ?_, h4⟩
  · rcases hk with hk | hk
    · exact Nat.lt_of_lt_of_le (h1 k hk) hb.size
    · exact hk.2
  · rcases hk with hk | hk
    · exact h3 i hi k hk hf
    · have := (hT i hi).lt (h2 i hi) k hf; omega
/-- one of them is looked at -/
theorem Bund.look (h : Bund n T X w) (hi : i < n) : ∃ F, T i F w ∧ ∀ k, X k → ¬ F k := by
  obtain ⟨h1, F, h2, h3, h4⟩ := h
  exact ⟨F i, h2 i hi, h3 i hi⟩
/-- one of them has turned, in its own blocks and new ones; C: new memory that was handed out besides -/
theorem Bund.turn (hT : ∀ i, i < n → Part (T i)) (h : Bund n T X w) (hi : i < n) {C : Nat → Prop} (hC : ∀ k, C k → w.heap.size ≤ k ∧ k < w'.heap.size)
    (hc : ∀ F : Nat → Prop, T i F w → (∀ k, X k → ¬ F k) → ∃ F' : Nat → Prop, U F' w' ∧ (∀ k, C k → ¬ F' k) ∧ Kept (fun k => ¬ F k) w w' ∧ ∀ k, F' k → F k ∨ w.heap.size ≤ k) :
    Bund n (swapP T i U) (fun k => X k ∨ C k) w' ∧ Kept X w w' := by
  obtain ⟨h1, F, h2, h3, h4⟩ := h
  obtain ⟨F', r1, r2, r3, r4⟩ := hc (F i) (h2 i hi) (h3 i hi)
  refine ⟨⟨fun k hk => ?_, fun j => if j = i then F' else F j, fun j hj => ?_, fun j hj k hk hf => ?_, fun j l hj hl hne k hf hg => ?_⟩, r3.mono (h3 i hi)⟩
  · rcases hk with hk | hk
    · exact Nat.lt_of_lt_of_le (h1 k hk) r3.size
    · exact (hC k hk).2
  · unfold swapP
    by_cases e : j = i
    · simp only [e, if_true]
      exact r1
    · simp only [e, if_false]
      exact (hT j hj).keep (h2 j hj) r3 (fun k hf hg => h4 j i hj hi e k hf hg)
  · by_cases e : j = i
    · simp only [e, if_true] at hf
      rcases hk with hk | hk
      · rcases r4 k hf with h | h
        · exact h3 i hi k hk h
        · have := h1 k hk; omega
      · exact r2 k hk hf
    · simp only [e, if_false] at hf
      rcases hk with hk | hk
      · exact h3 j hj k hk hf
      · have := (hT j hj).lt (h2 j hj) k hf
        have := (hC k hk).1
        omega
  · by_cases e : j = i
    · have e2 : l ≠ i := fun h => hne (e.trans h.symm)
      simp only [e, if_true] at hf
      simp only [e2, if_false] at hg
      rcases r4 k hf with h | h
      · exact h4 i l hi hl (fun h => e2 h.symm) k h hg
      · have := (hT l hl).lt (h2 l hl) k hg; omega
    · simp only [e, if_false] at hf
      by_cases e2 : l = i
      · simp only [e2, if_true] at hg
        rcases r4 k hg with h | h
        · exact h4 j i hj hi e k hf h
        · have := (hT j hj).lt (h2 j hj) k hf; omega
      · simp only [e2, if_false] at hg
        exact h4 j l hj hl hne k hf hg
/-- one more is made, in new memory -/
theorem Bund.more (hT : ∀ i, i < n → Part (T i)) (h : Bund n T X w) (hb : Below w.heap.size w w') {G : Nat → Prop} (hu : U G w') (hG : ∀ k, G k → w.heap.size ≤ k) : Bund (n + 1) (swapP T n U) X w' := by
  obtain ⟨h1, F, h2, h3, h4⟩ := h
  have hold : ∀ j, j < n → T j (F j) w' := fun j hj => (hT j hj).keep (h2 j hj) (Kept.ofBelow hb (fun _ => True)) (fun _ _ => trivial)
  refine ⟨fun k hk => Nat.lt_of_lt_of_le (h1 k hk) hb.size, fun j => if j = n then G else F j, fun j hj => ?_, fun j hj k hk hf => ?_, fun j l hj hl hne k hf hg => ?_⟩
  · unfold swapP
    by_cases e : j = n
    · simp only [e, if_true]
      exact hu
    · simp only [e, if_false]
      exact hold j (by omega)
  · by_cases e : j = n
    · simp only [e, if_true] at hf
      have := h1 k hk
      have := hG k hf
      omega
    · simp only [e, if_false] at hf
      exact h3 j (by omega) k hk hf
  · by_cases e : j = n
    · have e2 : l ≠ n := fun h => hne (e.trans h.symm)
      simp only [e, if_true] at hf
      simp only [e2, if_false] at hg
      have := (hT l (by omega)).lt (h2 l (by omega)) k hg
      have := hG k hf
      omega
    · simp only [e, if_false] at hf
      by_cases e2 : l = n
      · simp only [e2, if_true] at hg
        have := (hT j (by omega)).lt (h2 j (by omega)) k hf
        have := hG k hg
        omega
      · simp only [e2, if_false] at hg
        exact h4 j l (by omega) (by omega) hne k hf hg
theorem Bund.none (hX : ∀ k, X k → k < w.heap.size) : Bund 0 T X w := ⟨hX, fun _ _ => False, fun i hi => absurd hi (Nat.not_lt_zero i), fun i hi => absurd hi (Nat.not_lt_zero i), fun i j hi => absurd hi (Nat.not_lt_zero i)⟩
/-- all of them together are a thing again -/
theorem Bund.same {T2 : Nat → (Nat → Prop) → World → Prop} (h : Bund n T X w) (e : ∀ i, i < n → ∀ F W, T i F W → T2 i F W) : Bund n T2 X w := by
  obtain ⟨h1, F, h2, h3, h4⟩ := h
  exact ⟨h1, F, fun i hi => e i hi _ _ (h2 i hi), h3, h4⟩
end
end Go.Proofs.YtchhmfdalghgcaaGreat
namespace Go.Proofs.YtchhmfdalghgcaaGreat
set_option linter.unusedVariables false
open Go.RowKit
set_option maxRecDepth 20000
theorem six_cells {w : World} {b : Nat} {v0 v1 v2 v3 v4 v5 : Value} {t : TypeId} (h : w.heap[b]? = some (.cells #[v0, v1, v2, v3, v4, v5] t (0, 0))) :
    (w.cell? ⟨b, 0, none⟩ = some v0 ∧ w.cell? ⟨b, 1, none⟩ = some v1 ∧ w.cell? ⟨b, 2, none⟩ = some v2 ∧ w.cell? ⟨b, 3, none⟩ = some v3 ∧ w.cell? ⟨b, 4, none⟩ = some v4 ∧ w.cell? ⟨b, 5, none⟩ = some v5) ∧
    w.frozen? ⟨b, 0, none⟩ = false ∧ w.frozen? ⟨b, 1, none⟩ = false ∧ w.frozen? ⟨b, 2, none⟩ = false ∧ w.frozen? ⟨b, 3, none⟩ = false ∧ w.frozen? ⟨b, 4, none⟩ = false ∧ w.frozen? ⟨b, 5, none⟩ = false :=
  ⟨⟨cell_of h 0, cell_of h 1, cell_of h 2, cell_of h 3, cell_of h 4, cell_of h 5⟩, free_of h 0, free_of h 1, free_of h 2, free_of h 3, free_of h 4, free_of h 5⟩
/-- what the document's layout's cells hold -/
theorem RL.open {r : Nat} {G : Nat → Prop} {w : World} {y : Ly} (h : RL r G w y) : ∃ ao cap bo cb, w.heap[r]? = some (.cells #[.int .i64 y.ep, .slice ao y.L.length cap, .slice bo y.used.length cb, .int .i64 y.mark, .int .i64 y.size, .int .i64 y.n] 129 (0, 0)) ∧ CL w ao y.L ∧ NLI w bo cb y.used ∧ goodB y.ep y.L = true := by
  obtain ⟨⟨k, hk⟩, _, v, u, F, h2, h3, h4, _⟩ := h
  obtain ⟨ao, cap, rfl, h5, _⟩ := h3.cl
  obtain ⟨bo, cb, rfl, h6, _⟩ := h4
  exact ⟨ao, cap, bo, cb, h2, h5, h6, hk.good⟩
theorem good_small {ep : Int} {L : List (List Int)} (h : goodB ep L = true) : L.length ≤ 255 ∧ ∀ c ∈ L, c.length ≤ 255 := by
  obtain ⟨_, h2, h3, _⟩ := goodB_iff.1 h
  exact ⟨by omega, fun c hc => by have := (chainB_iff.1 (h3 c hc)).1; omega⟩
end Go.Proofs.YtchhmfdalghgcaaGreat
