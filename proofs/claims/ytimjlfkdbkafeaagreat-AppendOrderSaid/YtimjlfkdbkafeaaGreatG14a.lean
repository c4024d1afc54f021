/- What the program's own Good returns. Conditions: the projection lies where the call was told, and is not too large. What the program's own 'follows' returns: may a chain stand behind the one that stood there? Conditions: the chain lies where the call was told; no unit stands twice in it, nor in the projection ahead; the map is of that projection. What the program's own Tail returns; all that the laws of pages ask of the program. Conditions: the object lies where the call was told; its pages are as the calls make them. Many things in memory, each of them in blocks of its own: what a call of the one leaves of the others. Conditions: as each statement says. A thing and chains that a call handed out, as one thing. Conditions: as each statement says. What the document's own layout tells of the units that were used, and whether a projection may come next. Conditions: it and the projection lie where the call was told. What the document's own Tail returns. Conditions: the projection and the counts lie where the call was told, and are not too large. -/
import Derived.Test.YtimjlfkdbkafeaaGreatG13b
import Derived.Test.YtimjlfkdbkafeaaGreatG13a
import Derived.Maps.RangeWalk
import Derived.Test.YtimjlfkdbkafeaaGreatG12b
import Derived.Test.YtimjlfkdbkafeaaGreatG11b
set_option linter.unusedVariables false
namespace Go.Proofs.YtimjlfkdbkafeaaGreat
open Go.RowKit Go.Maps
set_option maxRecDepth 20000
/-- is a number within bounds? -/
def inB (v a b : Int) : Bool := decide (a ≤ v ∧ v ≤ b)
theorem pwithin_any (v a b : Int) (w : World) :
    Calls Tryz.prog 55 #[.int .i64 v, .int .i64 a, .int .i64 b] w fun e w' => e = .returned (.bool (inB v a b)) ∧ w = w' := by
  by_cases h1 : a ≤ v
  · by_cases h2 : v ≤ b
    · rw [show inB v a b = true from decide_eq_true ⟨h1, h2⟩]
      go_enter Tryz.func55, Tryz.ntmps55
      go_wp2_with fail
      go_ret
      exact ⟨rfl, rfl⟩
    · rw [show inB v a b = false from decide_eq_false (fun h => h2 h.2)]
      have h3 : decide (v ≤ b) = false := decide_eq_false h2
      clear h2
      go_enter Tryz.func55, Tryz.ntmps55
      go_wp2_with fail
      go_ret
      exact ⟨rfl, rfl⟩
  · rw [show inB v a b = false from decide_eq_false (fun h => h1 h.1)]
    have h3 : decide (a ≤ v) = false := decide_eq_false h1
    clear h1
    go_enter Tryz.func55, Tryz.ntmps55
    go_wp2_with fail
    go_ret
    exact ⟨rfl, rfl⟩
theorem isNone_any (v : Int) (w : World) :
    Calls Tryz.prog 57 #[.int .i64 v] w fun e w' => e = .returned (.bool (!inB v 0 15)) ∧ w = w' := by
  go_enter Tryz.func57, Tryz.ntmps57
  go_wp2_with (go_at_call 55; refine (pwithin_any _ _ _ _).mono ?_; rintro e w1 ⟨rfl, rfl⟩)
  go_ret
  exact ⟨rfl, rfl⟩
/-- does a unit out of bounds stand in a chain? -/
def badB (l : List Int) : Bool := !(l.all fun u => inB u 0 15)
theorem badB_no {l : List Int} (h : ∀ u ∈ l.take l.length, inB u 0 15 = true) : badB l = false := by
  rw [List.take_of_length_le (Nat.le_refl _)] at h
  simpa [badB, List.all_eq_true] using h
theorem badB_yes {l : List Int} {k : Nat} (hk : k < l.length) (h : inB l[k] 0 15 = false) : badB l = true := by
  cases e : badB l
  · have : ∀ u ∈ l, inB u 0 15 = true := by simpa [badB, List.all_eq_true] using e
    rw [this _ (List.getElem_mem hk)] at h
    cases h
  · rfl
theorem all_in_succ {l : List Int} {k : Nat} (hk : k < l.length) (h : ∀ u ∈ l.take k, inB u 0 15 = true) (e : inB l[k] 0 15 = true) : ∀ u ∈ l.take (k + 1), inB u 0 15 = true := by
  rw [List.take_succ_eq_append_getElem hk]
  intro u hu
  rcases List.mem_append.1 hu with h1 | h1
  · exact h u h1
  · rw [List.mem_singleton.1 h1]; exact e
theorem index_any (l : List Int) (ao : Option Addr) (cap : Nat) (w : World) (h : NLI w ao cap l) (hl : l.length ≤ 1000000) :
    Calls Tryz.prog 72 #[.slice ao l.length cap, .func (.func 57) #[] #[]] w fun e w' => ∃ r : Int, e = .returned (.int .i64 r) ∧ w = w' ∧ ((0 ≤ r ∧ badB l = true) ∨ (r < 0 ∧ badB l = false)) := by
  have HY := Lib.hid (fun k (hk : k < l.length) => show inB l[k] 0 15 = false → badB l = true from fun e => badB_yes hk e)
  have HN := Lib.hid (show (∀ u ∈ l.take l.length, inB u 0 15 = true) → badB l = false from badB_no)
  generalize badB l = R at *
  have HA := Lib.hid h
  have hl' : (l.length : Int) ≤ 1000000 := by omega
  clear h
  go_enter Tryz.func72, Tryz.ntmps72
  go_wp2_with fail
  go_loop [8] (fun i => ∃ k : Nat, i = .int .i64 k ∧ k ≤ l.length ∧ Hid (∀ u ∈ l.take k, inB u 0 15 = true)) (fun i => l.length - (intOf i).toNat)
  case atStart => exact ⟨0, rfl, Nat.zero_le _, Lib.hid (by simp)⟩
  case round =>
    obtain ⟨k, rfl, hk, HT⟩ := hrel
    by_cases hlt : k < l.length
    · obtain ⟨bk, off, rfl, c0⟩ := HA.out.at k hlt
      have k0 : (k : Int) < (l.length : Int) := by omega
      by_cases he : inB l[k] 0 15 = true
      · have HT2 := Lib.hid (all_in_succ hlt HT.out he)
        have CI := Lib.hid (isNone_any l[k] w)
        rw [he] at CI
        clear he
        generalize l[k] = u at *
        go_wp2_with (go_at_call 57; refine CI.out.mono ?_; rintro e w1 ⟨rfl, rfl⟩)
        go_round
        case rel => exact ⟨k + 1, by go_num, by omega, HT2⟩
        case measure => simp [intOf]; omega
      · have he' : inB l[k] 0 15 = false := by simpa using he
        have HX := Lib.hid (HY.out k hlt he')
        have CI := Lib.hid (isNone_any l[k] w)
        rw [he'] at CI
        clear he he'
        generalize l[k] = u at *
        go_wp2_with (go_at_call 57; refine CI.out.mono ?_; rintro e w1 ⟨rfl, rfl⟩)
        go_ret
        exact ⟨_, rfl, rfl, .inl ⟨by omega, HX.out⟩⟩
    · obtain rfl : k = l.length := by omega
      have HX := Lib.hid (HN.out HT.out)
      go_wp2_with fail
      go_ret
      exact ⟨_, rfl, rfl, .inr ⟨by decide, HX.out⟩⟩
theorem contains_any (l : List Int) (ao : Option Addr) (cap : Nat) (w : World) (h : NLI w ao cap l) (hl : l.length ≤ 1000000) :
    Calls Tryz.prog 56 #[.slice ao l.length cap, .func (.func 57) #[] #[]] w fun e w' => e = .returned (.bool (badB l)) ∧ w = w' := by
  have CI := Lib.hid (index_any l ao cap w h hl)
  have HW := Lib.hid h
  clear h hl
  by_cases hb : badB l = true
  · rw [hb] at CI ⊢
    clear hb
    go_enter Tryz.func56, Tryz.ntmps56
    go_wp2_with (go_at_call 72; refine CI.out.mono ?_; rintro e w1 ⟨r, rfl, rfl, hr⟩; have hr0 : decide (0 ≤ r) = true := decide_eq_true (hr.elim (fun h => h.1) (fun h => by cases h.2)); clear hr)
    go_ret
    exact ⟨rfl, rfl⟩
  · have hb' : badB l = false := by simpa using hb
    rw [hb'] at CI ⊢
    clear hb hb'
    go_enter Tryz.func56, Tryz.ntmps56
    go_wp2_with (go_at_call 72; refine CI.out.mono ?_; rintro e w1 ⟨r, rfl, rfl, hr⟩; have hr0 : decide (0 ≤ r) = false := decide_eq_false (Int.not_le.2 (hr.elim (fun h => by cases h.2) (fun h => h.1))); clear hr)
    go_ret
    exact ⟨rfl, rfl⟩
/-- how many units stand in the first n chains -/
def standN (L : List (List Int)) (n : Nat) : Nat := (L.take n).flatten.length
theorem standN_succ {L : List (List Int)} {n : Nat} (h : n < L.length) : standN L (n + 1) = standN L n + L[n].length := by
  unfold standN
  rw [List.take_succ_eq_append_getElem h, List.flatten_append, List.length_append]
  simp
theorem standN_all (L : List (List Int)) : standN L L.length = L.flatten.length := by
  unfold standN
  rw [List.take_of_length_le (Nat.le_refl _)]
theorem standN_le {L : List (List Int)} (hl : L.length ≤ 255 ∧ ∀ c ∈ L, c.length ≤ 255) (n : Nat) : standN L n ≤ 70000 := by
  have h2 := flat_le (L.take n) 255 (fun c hc => hl.2 c (List.mem_of_mem_take hc))
  have h5 : (L.take n).length ≤ 255 := by rw [List.length_take]; omega
  have h6 : 255 * (L.take n).length ≤ 255 * 255 := Nat.mul_le_mul_left _ h5
  unfold standN
  omega
theorem chainB_parts (c : List Int) : chainB c = (inB c.length 1 4 && !badB c) := by
  unfold chainB badB inB
  rw [Bool.not_not]
  congr 1
  rw [decide_eq_decide]
  omega
theorem goodB_chainB {ep : Int} {L : List (List Int)} {n : Nat} (hn : n < L.length) (h : chainB L[n] = false) : goodB ep L = false := by
  rw [Bool.eq_false_iff]
  intro e
  rw [(goodB_iff.1 e).2.2.1 _ (List.getElem_mem hn)] at h
  cases h
theorem take_chains {L : List (List Int)} {n : Nat} (hn : n < L.length) (h : ∀ c ∈ L.take n, chainB c = true) (e : chainB L[n] = true) : ∀ c ∈ L.take (n + 1), chainB c = true := by
  rw [List.take_succ_eq_append_getElem hn]
  intro u hu
  rcases List.mem_append.1 hu with h1 | h1
  · exact h u h1
  · rw [List.mem_singleton.1 h1]; exact e
theorem goodB_head {ep : Int} {L : List (List Int)} (h : inB ep 0 2147483647 = false ∨ inB L.length 1 4 = false) : goodB ep L = false := by
  rw [Bool.eq_false_iff]
  intro e
  obtain ⟨h1, h2, _⟩ := goodB_iff.1 e
  rcases h with h | h
  · exact absurd h1 (of_decide_eq_false h)
  · exact absurd (show (1 : Int) ≤ L.length ∧ (L.length : Int) ≤ 4 by omega) (of_decide_eq_false h)
theorem goodB_last {ep : Int} {L : List (List Int)} (h1 : inB ep 0 2147483647 = true) (h2 : inB L.length 1 4 = true) (h3 : ∀ c ∈ L.take L.length, chainB c = true) {D : DataW Unit} (h : Ms L D L.flatten) :
    (((Maps.size D : Nat) : Int) == ((standN L L.length : Nat) : Int)) = goodB ep L := by
  rw [List.take_of_length_le (Nat.le_refl _)] at h3
  have e1 := of_decide_eq_true h1
  have e2 := of_decide_eq_true h2
  have e3 := unitsR_length L
  have e4 : Maps.size D = (unitsR L).length := h.size
  rw [standN_all, Bool.eq_iff_iff, beq_iff_eq, goodB_iff, e4]
  constructor
  · intro e
    exact ⟨e1, by omega, h3, e3.1 (by omega)⟩
  · rintro ⟨_, _, _, e⟩
    have := e3.2 e
    omega
set_option maxHeartbeats 4000000 in
theorem pgood_any (ep : Int) (ao : Option Addr) (cap : Nat) (L : List (List Int)) (w : World) (h : CL w ao L) (hl : L.length ≤ 255 ∧ ∀ c ∈ L, c.length ≤ 255) :
    Calls Tryz.prog 33 #[.agg #[.int .i64 ep, .slice ao L.length cap]] w fun e w' => e = .returned (.bool (goodB ep L)) ∧ Below w.heap.size w w' := by
  have HB0 := Lib.hid ((Below.refl w.heap.size w).alloc (Nat.le_refl _) (.cells #[.int .i64 ep, .slice ao L.length cap] 27))
  have HC := Lib.hid (h.below HB0.out)
  have hl' : (L.length : Int) ≤ 255 := by have := hl.1; omega
  have HM := Lib.hid hl
  have HH := Lib.hid (fun h => @goodB_head ep L h)
  have CE := Lib.hid (fun w => pwithin_any ep 0 2147483647 w)
  have CN := Lib.hid (fun w => pwithin_any L.length 1 4 w)
  clear h hl
  by_cases he : inB ep 0 2147483647 = false
  · rw [HH.out (.inl he)]
    rw [he] at CE
    clear he
    go_enter Tryz.func33, Tryz.ntmps33
    go_wp2_with (go_at_call 55; (with_reducible refine (CE.out _).mono ?_); rintro e w1 ⟨rfl, rfl⟩)
    go_ret
    exact ⟨rfl, HB0.out⟩
  have he' : inB ep 0 2147483647 = true := by simpa using he
  by_cases hn : inB L.length 1 4 = false
  · rw [HH.out (.inr hn)]
    rw [he'] at CE
    rw [hn] at CN
    clear he he' hn
    go_enter Tryz.func33, Tryz.ntmps33
    go_wp2_with (go_at_call 55; first | ((with_reducible refine (CE.out _).mono ?_); rintro e w1 ⟨rfl, rfl⟩) | ((with_reducible refine (CN.out _).mono ?_); rintro e w1 ⟨rfl, rfl⟩))
    go_ret
    exact ⟨rfl, HB0.out⟩
  have hn' : inB L.length 1 4 = true := by simpa using hn
  have HCH := Lib.hid (fun n hn => @goodB_chainB ep L n hn)
  have HLA := Lib.hid (fun h3 D h => @goodB_last ep L he' hn' h3 D h)
  have HST := Lib.hid (fun n => standN_le HM.out n)
  have HSS := Lib.hid (fun n h => @standN_succ L n h)
  have CM := Lib.hid (met_any ep ao cap L _ HC.out HM.out)
  have HS0 := Lib.hid (show standN L 0 = 0 from rfl)
  rw [he'] at CE
  rw [hn'] at CN
  clear he he' hn hn'
  generalize goodB ep L = R at *
  go_enter Tryz.func33, Tryz.ntmps33
  go_wp2_with (go_at_call 55; first | ((with_reducible refine (CE.out _).mono ?_); rintro e w1 ⟨rfl, rfl⟩) | ((with_reducible refine (CN.out _).mono ?_); rintro e w1 ⟨rfl, rfl⟩))
  go_loop [3, 20] (fun s i => ∃ n : Nat, i = .int .i64 n ∧ s = .int .i64 (standN L n) ∧ n ≤ L.length ∧ Hid (∀ c ∈ L.take n, chainB c = true)) (fun _ i => L.length - (intOf i).toNat)
  case atStart => exact ⟨0, rfl, by rw [HS0.out]; rfl, Nat.zero_le _, Lib.hid (by simp)⟩
  case round =>
    obtain ⟨n, rfl, rfl, hn, HA⟩ := hrel
    by_cases hlt : n < L.length
    · obtain ⟨bk, off, ai, ci, hao, c0, hN⟩ := HC.out n hlt
      subst hao
      have k0 : (n : Int) < (L.length : Int) := by omega
      have m0 := HM.out.2 _ (List.getElem_mem hlt)
      have m0' : (L[n].length : Int) ≤ 255 := by omega
      have CK := Lib.hid (contains_any L[n] ai ci _ hN (by omega))
      have CL1 := Lib.hid (fun w => pwithin_any L[n].length 1 4 w)
      have HP := Lib.hid (chainB_parts L[n])
      clear hN
      by_cases h1 : inB L[n].length 1 4 = false
      · have HX := Lib.hid (HCH.out n hlt (by rw [HP.out, h1]; rfl))
        rw [h1] at CL1
        clear h1
        go_wp2_with (go_at_call 55; refine (CL1.out _).mono ?_; rintro e w1 ⟨rfl, rfl⟩)
        go_ret
        rw [HX.out]
        exact ⟨rfl, HB0.out⟩
      have h1' : inB L[n].length 1 4 = true := by simpa using h1
      by_cases h2 : badB L[n] = true
      · have HX := Lib.hid (HCH.out n hlt (by rw [HP.out, h1', h2]; rfl))
        rw [h1'] at CL1
        rw [h2] at CK
        clear h1 h1' h2
        go_wp2_with (first | (go_at_call 55; refine (CL1.out _).mono ?_; rintro e w1 ⟨rfl, rfl⟩) | (go_at_call 56; refine CK.out.mono ?_; rintro e w1 ⟨rfl, rfl⟩))
        go_ret
        rw [HX.out]
        exact ⟨rfl, HB0.out⟩
      have h2' : badB L[n] = false := by simpa using h2
      have HAN := Lib.hid (take_chains hlt HA.out (by rw [HP.out, h1', h2']; rfl))
      have HSN := Lib.hid (HSS.out n hlt)
      have st := HST.out n
      rw [h1'] at CL1
      rw [h2'] at CK
      clear h1 h1' h2 h2'
      generalize standN L n = s at *
      go_wp2_with (first | (go_at_call 55; refine (CL1.out _).mono ?_; rintro e w1 ⟨rfl, rfl⟩) | (go_at_call 56; refine CK.out.mono ?_; rintro e w1 ⟨rfl, rfl⟩))
      go_round
      case rel => exact ⟨n + 1, by go_num, by rw [HSN.out]; go_num, by omega, HAN⟩
      case measure => simp [intOf]; omega
    · obtain rfl : n = L.length := by omega
      have HX := Lib.hid (fun D h => HLA.out HA.out D h)
      have st := HST.out L.length
      generalize standN L L.length = s at *
      go_wp2_with (first
        | (go_at_call 58; refine CM.out.mono ?_; rintro e w1 ⟨b, rfl, hb, ⟨D, hD, hMs⟩, hb1⟩; have HD := Lib.hid hD; have HR := Lib.hid (HX.out D hMs); have HB1 := Lib.hid (HB0.out.trans (hb1.mono (by simp))); clear hb hD hMs hb1)
        | (at_len; refine wpList_len_own _ rfl _ 129 rfl 166 164 Tryz.underlying129 spotR _ _ _ rfl HD.out ?_))
      go_ret
      rw [HR.out]
      exact ⟨rfl, HB1.out⟩
end Go.Proofs.YtimjlfkdbkafeaaGreat
namespace Go.Proofs.YtimjlfkdbkafeaaGreat
open Go.RowKit Go.Maps
set_option maxRecDepth 20000
/-- the map's datum is D -/
theorem owns_below {w w' : World} {b n : Nat} {D : DataW Unit} (h : w.ownsMap Tryz.prog 166 spotR b n D) (hb : Below w.heap.size w w') : w'.ownsMap Tryz.prog 166 spotR b n D := by
  obtain ⟨es, clock, h1, h2⟩ := h
  exact ⟨es, clock, below_heap hb h1, h2⟩
section
variable {w : World} {ops : Array Oper} {rest : List Oper} {o : Oper} {a : Act} {Q : Exit → Act → World → Prop}
theorem lookup_in (hg : o.guard = none) (m x : Operand) (hop : o.op = Op.lookup 129 m x true) {b n : Nat} {D : DataW Unit} (hm : a.eval m = .map (some b)) (hown : w.ownsMap Tryz.prog 166 spotR b n D)
    {u i j : Int} (hx : a.eval x = .agg #[.int .i64 u]) (hu : (Lit.int .i64 u).wf = true) (hh : Maps.has D (klU u) = true) (hat : ∀ zd, D.atKey (klU u) zd = spotD i j)
    (hK : wpList Tryz.prog ops Q rest (a.put o.dst (.tuple #[.agg #[.int .i64 i, .int .i64 j], .bool true])) w) : wpList Tryz.prog ops Q (o :: rest) a w :=
  wpList_lookup_own_ok w hg m x _ hop 166 164 unit_law Tryz.underlying129 spotR (zero_spot w) (spotD 0 0) [] (spotR_mk 0 0) b n D hm hown _ _ hx (unit_key u hu) (fun v ps hv => by
    obtain ⟨i2, j2, rfl, e⟩ := spotR_inv hv
    have e1 := congrArg Prod.fst e
    simp only [hat] at e1
    obtain ⟨rfl, rfl⟩ := spotD_inj e1
    rw [hh]
    exact hK)
theorem lookup_out (hg : o.guard = none) (m x : Operand) (hop : o.op = Op.lookup 129 m x true) {b n : Nat} {D : DataW Unit} (hm : a.eval m = .map (some b)) (hown : w.ownsMap Tryz.prog 166 spotR b n D)
    {u : Int} (hx : a.eval x = .agg #[.int .i64 u]) (hu : (Lit.int .i64 u).wf = true) (hh : Maps.has D (klU u) = false)
    (hK : wpList Tryz.prog ops Q rest (a.put o.dst (.tuple #[.agg #[.int .i64 0, .int .i64 0], .bool false])) w) : wpList Tryz.prog ops Q (o :: rest) a w :=
  wpList_lookup_own_ok w hg m x _ hop 166 164 unit_law Tryz.underlying129 spotR (zero_spot w) (spotD 0 0) [] (spotR_mk 0 0) b n D hm hown _ _ hx (unit_key u hu) (fun v ps hv => by
    obtain ⟨i2, j2, rfl, e⟩ := spotR_inv hv
    have e1 := congrArg Prod.fst e
    simp only [atKey_of_not_has hh] at e1
    obtain ⟨rfl, rfl⟩ := spotD_inj e1
    rw [hh]
    exact hK)
end
theorem mem_preU {L : List (List Int)} {n k i j : Nat} (hi : i < L.length) (hj : j < L[i].length) (h : i < n ∨ (i = n ∧ j < k)) : L[i][j] ∈ preU L n k := by
  unfold preU
  rcases h with h | ⟨rfl, h⟩
  · refine List.mem_append_left _ (List.mem_flatten.2 ⟨L[i], ?_, List.getElem_mem hj⟩)
    rw [List.mem_take_iff_getElem]
    exact ⟨i, by omega, rfl⟩
  · refine List.mem_append_right _ ?_
    rw [show L.getD i [] = L[i] by simp [hi], List.mem_take_iff_getElem]
    exact ⟨j, by omega, rfl⟩
/-- each unit stands in one place alone -/
theorem flat_one {L : List (List Int)} (h : L.flatten.Nodup) {i j n k : Nat} (hi : i < L.length) (hj : j < L[i].length) (hn : n < L.length) (hk : k < L[n].length) (e : L[i][j] = L[n][k]) : i = n ∧ j = k := by
  by_cases h1 : i < n ∨ (i = n ∧ j < k)
  · exact absurd (e ▸ mem_preU hi hj h1) (preU_nodup h hn hk)
  · by_cases h2 : n < i ∨ (n = i ∧ k < j)
    · exact absurd (e ▸ mem_preU hn hk h2) (preU_nodup h hi hj)
    · omega
/-- a chain's units stand in one place each -/
theorem row_one {L : List (List Int)} (h : L.flatten.Nodup) {n j k : Nat} (hn : n < L.length) (hj : j < L[n].length) (hk : k < L[n].length) (e : L[n][j] = L[n][k]) : j = k := (flat_one h hn hj hn hk e).2
/-- what is still to be told of a chain, at its k-th unit: s of them stayed, the last of them stood at la -/
def JF (all old c : List Int) (T : Bool) (k s : Nat) (la : Int) : Prop :=
  (s = k ∧ ((k = 0 ∧ la = -1) ∨ ∃ (p : Nat) (hp : p < old.length) (hk : k - 1 < c.length), 0 < k ∧ la = p ∧ old[p] = c[k - 1]) ∧ seqB all old (c.drop k) (old.drop (la + 1).toNat) (decide (0 < k)) = T) ∨
  (s < k ∧ (decide (0 < s) && outB all (c.drop k)) = T)
section
variable {all old c : List Int} {T : Bool} {k s : Nat} {la : Int}
theorem JF.start (h : seqB all old c old false = T) : JF all old c T 0 0 (-1) := .inl ⟨rfl, .inl ⟨rfl, rfl⟩, h⟩
theorem seq_not {rest : List Int} {m : Bool} (hk : k < c.length) (h : c[k] ∉ old) : seqB all old (c.drop k) rest m = (m && outB all (c.drop k)) := by
  rw [List.drop_eq_getElem_cons hk]
  show (if c[k] ∈ old then _ else _) = _
  rw [if_neg h]
  rfl
theorem JF.out (h : JF all old c T k s la) (hk : k < c.length) (h1 : c[k] ∉ old) (h2 : c[k] ∉ all) : JF all old c T (k + 1) s la := by
  rcases h with ⟨rfl, _, h⟩ | ⟨h3, h⟩
  · rw [seq_not hk h1, out_step hk h2] at h
    exact .inr ⟨by omega, h⟩
  · rw [out_step hk h2] at h
    exact .inr ⟨by omega, h⟩
theorem JF.other (h : JF all old c T k s la) (hk : k < c.length) (h1 : c[k] ∉ old) (h2 : c[k] ∈ all) : T = false := by
  rcases h with ⟨rfl, _, h⟩ | ⟨h3, h⟩
  · rw [seq_not hk h1, out_no hk h2] at h
    simpa using h.symm
  · rw [out_no hk h2] at h
    simpa using h.symm
theorem JF.gap (h : JF all old c T k s la) (hk : k < c.length) (h1 : s ≠ k) (h2 : c[k] ∈ all) : T = false := by
  rcases h with ⟨h3, _⟩ | ⟨h3, h⟩
  · exact absurd h3 h1
  · rw [out_no hk h2] at h
    simpa using h.symm
theorem drop_none {l : List Int} {u : Int} (h : u ∉ l) : l.dropWhile (fun t => t != u) = [] := by
  induction l with
  | nil => rfl
  | cons x l ih =>
    rw [List.mem_cons, not_or] at h
    have e : (fun t => t != u) x = true := bne_iff_ne.2 fun e => h.1 e.symm
    exact (List.dropWhile_cons_of_pos (p := fun t => t != u) (a := x) (l := l) e).trans (ih h.2)
theorem JF.back (h : JF all old c T k s la) (hu : ∀ i j (hi : i < old.length) (hj : j < old.length), old[i] = old[j] → i = j) (hk : k < c.length) {j : Nat} (hj : j < old.length) (he : old[j] = c[k]) (hl : (j : Int) < la) (hs : s = k) : T = false := by
  subst hs
  rcases h with ⟨_, h1, h⟩ | ⟨h3, h⟩
  · rcases h1 with ⟨_, rfl⟩ | ⟨p, hp, hk1, _, rfl, _⟩
    · omega
    · rw [seq_lost hk (he ▸ List.getElem_mem hj) (drop_none _)] at h
      · exact h.symm
      · intro hm
        obtain ⟨x, hx, e⟩ := List.getElem_of_mem hm
        rw [List.length_drop] at hx
        rw [List.getElem_drop, ← he] at e
        have := hu _ _ _ _ e
        omega
  · omega
theorem drop_found {l : List Int} {a j : Nat} (hu : ∀ i j (hi : i < l.length) (hj : j < l.length), l[i] = l[j] → i = j) (hj : j < l.length) (h : a ≤ j) : (l.drop a).dropWhile (fun t => t != l[j]) = l[j] :: l.drop (j + 1) := by
  induction hd : j - a generalizing a with
  | zero =>
    obtain rfl : a = j := by omega
    exact drop_stop hj (by simp)
  | succ d ih =>
    have ha : a < l.length := by omega
    rw [drop_at ha (by rw [bne_iff_ne]; intro e; have := hu _ _ _ _ e; omega)]
    exact ih (by omega) (by omega)
theorem JF.on (h : JF all old c T k s la) (hu : ∀ i j (hi : i < old.length) (hj : j < old.length), old[i] = old[j] → i = j) (hc : ∀ i j (hi : i < c.length) (hj : j < c.length), c[i] = c[j] → i = j) (hk : k < c.length) {j : Nat} (hj : j < old.length) (he : old[j] = c[k]) (hl : ¬ (j : Int) < la) (hs : s = k) :
    JF all old c T (k + 1) (s + 1) j := by
  subst hs
  rcases h with ⟨_, h1, h⟩ | ⟨h3, h⟩
  · have hla : (la + 1).toNat ≤ j := by
      rcases h1 with ⟨_, rfl⟩ | ⟨p, hp, hk1, hk0, rfl, e⟩
      · omega
      · have : p ≠ j := by
          rintro rfl
          have := hc _ _ _ _ (e.symm.trans he)
          omega
        omega
    have hf := drop_found hu hj hla
    rw [he] at hf
    rw [seq_found hk (he ▸ List.getElem_mem hj) hf] at h
    refine .inl ⟨rfl, .inr ⟨j, hj, by simpa using hk, by omega, rfl, by simpa using he⟩, ?_⟩
    rw [show ((j : Int) + 1).toNat = j + 1 by omega]
    exact h
  · omega
theorem JF.done (h : JF all old c T c.length s la) : T = decide (0 < s) := by
  rcases h with ⟨rfl, _, h⟩ | ⟨_, h⟩
  · rw [List.drop_of_length_le (Nat.le_refl _)] at h
    exact h.symm
  · rw [List.drop_of_length_le (Nat.le_refl _)] at h
    rw [← h]
    exact Bool.and_true _
end
set_option maxHeartbeats 4000000 in
theorem follows_any (c : List Int) (ao : Option Addr) (cap i b : Nat) (L : List (List Int)) (w : World) (hi : i < L.length) (hN : NLI w ao cap c) (hM : Mt w b L L.flatten) (hL : L.flatten.Nodup) (hc : ∀ i j (hi : i < c.length) (hj : j < c.length), c[i] = c[j] → i = j) (hl : c.length ≤ 255) :
    Calls Tryz.prog 160 #[.slice ao c.length cap, .int .i64 i, .map (some b)] w fun e w' => e = .returned (.bool (seqB (unitsR L) L[i] c L[i] false)) ∧ Below w.heap.size w w' := by
  obtain ⟨D, hD, hMs⟩ := hM
  have HD := Lib.hid hD
  have HMS := Lib.hid hMs
  have HNN := Lib.hid hN
  have hl' : (c.length : Int) ≤ 255 := by omega
  have HU := Lib.hid (fun a b ha hb => @row_one L hL i a b hi ha hb)
  have HF := Lib.hid (fun (a b x y : Nat) ha hb hx hy => @flat_one L hL a b x y ha hb hx hy)
  have HS := Lib.hid (JF.start (rfl : seqB (unitsR L) L[i] c L[i] false = _))
  have HALL := Lib.hid (fun u => (unitsR_mem L u))
  have HIN := Lib.hid (fun u (h : u ∈ L[i]) => show u ∈ L.flatten from List.mem_flatten.2 ⟨_, List.getElem_mem hi, h⟩)
  have HC := Lib.hid hc
  clear hD hMs hN hc hL
  generalize seqB (unitsR L) L[i] c L[i] false = T at *
  generalize unitsR L = all at *
  go_enter Tryz.func160, Tryz.ntmps160
  go_wp2_with fail
  go_loopw [7, 8, 15] (fun st la at' wr => ∃ (k s : Nat) (l : Int), at' = .int .i64 k ∧ st = .int .i64 s ∧ la = .int .i64 l ∧ k ≤ c.length ∧ s ≤ k ∧ Hid (JF all L[i] c T k s l) ∧ Hid (Below w.heap.size w wr)) (fun _ _ at' _ => c.length - (intOf at').toNat)
  case atStart => exact ⟨0, 0, -1, rfl, rfl, rfl, Nat.zero_le _, Nat.le_refl _, HS, Lib.hid (Below.refl _ _)⟩
  case round =>
    obtain ⟨k, s, l, rfl, rfl, rfl, hk, hsk, HJ, HB⟩ := hrel
    by_cases hlt : k < c.length
    · obtain ⟨bk, off, hai, c0⟩ := (HNN.out.below HB.out).at k hlt
      have HWF := Lib.hid (HNN.out.wf _ (List.getElem_mem hlt))
      subst hai
      have k0 : (k : Int) < (c.length : Int) := by omega
      have HDW := Lib.hid (owns_below HD.out HB.out)
      have HB1 := Lib.hid (fun x => HB.out.alloc HB.out.size x)
      by_cases hin : c[k] ∈ L.flatten
      · have HA := Lib.hid ((HALL.out c[k]).2 hin)
        have HH := Lib.hid ((HMS.out.hs _ HWF.out).trans (decide_eq_true hin))
        obtain ⟨i0, j0, hi0, hj0, e0, hat⟩ := HMS.out.spot _ hin
        have HAT := Lib.hid hat
        clear hat hin
        by_cases hii : i0 = i
        · subst hii
          have d1 : ((i0 : Int) != (i0 : Int)) = false := by simp
          by_cases hjl : (j0 : Int) < l
          · have d2 : decide ((j0 : Int) < l) = true := decide_eq_true hjl
            have HX := Lib.hid (show T = false from by
              by_cases hs : s = k
              · exact HJ.out.back HU.out hlt hj0 e0 hjl hs
              · exact HJ.out.gap hlt hs HA.out)
            clear e0
            generalize c[k] = u at *
            go_wp2_with (at_lookup; refine lookup_in rfl _ _ rfl rfl HDW.out rfl HWF.out HH.out HAT.out ?_)
            go_ret
            rw [HX.out]
            exact ⟨rfl, HB1.out _⟩
          have d2 : decide ((j0 : Int) < l) = false := decide_eq_false hjl
          by_cases hs : s = k
          · have HJ2 := Lib.hid (HJ.out.on HU.out HC.out hlt hj0 e0 hjl hs)
            have d3 : ((k : Int) != (s : Int)) = false := by simp [hs]
            clear e0 hjl hs
            generalize c[k] = u at *
            go_wp2_with (at_lookup; refine lookup_in rfl _ _ rfl rfl HDW.out rfl HWF.out HH.out HAT.out ?_)
            go_quiet (fail)
            go_wp2_with fail
            go_roundw
            case rel => exact ⟨k + 1, s + 1, j0, by go_num, by go_num, rfl, by omega, by omega, HJ2, Lib.hid (below_drewN (HB1.out _) _)⟩
            case measure => simp [intOf]; omega
          · have HX := Lib.hid (HJ.out.gap hlt hs HA.out)
            have d3 : ((k : Int) != (s : Int)) = true := bne_iff_ne.2 (by omega)
            clear e0 hjl hs
            generalize c[k] = u at *
            go_wp2_with (at_lookup; refine lookup_in rfl _ _ rfl rfl HDW.out rfl HWF.out HH.out HAT.out ?_)
            go_ret
            rw [HX.out]
            exact ⟨rfl, HB1.out _⟩
        · have d1 : ((i0 : Int) != (i : Int)) = true := bne_iff_ne.2 (by omega)
          have HX := Lib.hid (HJ.out.other hlt (fun hm => by
            obtain ⟨j, hj, e⟩ := List.getElem_of_mem hm
            exact hii (HF.out _ _ _ _ hi0 hj0 hi hj (e0.trans e.symm)).1) HA.out)
          clear e0 hii
          generalize c[k] = u at *
          go_wp2_with (at_lookup; refine lookup_in rfl _ _ rfl rfl HDW.out rfl HWF.out HH.out HAT.out ?_)
          go_ret
          rw [HX.out]
          exact ⟨rfl, HB1.out _⟩
      · have HJ2 := Lib.hid (HJ.out.out hlt (fun h => hin (HIN.out _ h)) (fun h => hin ((HALL.out c[k]).1 h)))
        have HH := Lib.hid ((HMS.out.hs _ HWF.out).trans (decide_eq_false hin))
        clear hin
        generalize c[k] = u at *
        go_wp2_with (at_lookup; refine lookup_out rfl _ _ rfl rfl HDW.out rfl HWF.out HH.out ?_)
        go_roundw
        case rel => exact ⟨k + 1, s, l, by go_num, rfl, rfl, by omega, by omega, HJ2, Lib.hid (HB1.out _)⟩
        case measure => simp [intOf]; omega
    · obtain rfl : k = c.length := by omega
      have HX := Lib.hid HJ.out.done
      go_wp2_with fail
      go_ret
      rw [HX.out]
      exact ⟨rfl, HB.out⟩
end Go.Proofs.YtimjlfkdbkafeaaGreat
namespace Go.Proofs.YtimjlfkdbkafeaaGreat
open Go.RowKit Go.Maps
set_option linter.unusedVariables false
set_option maxRecDepth 20000
theorem below_grew {w w' : World} (h : Below w.heap.size w w') : w.grownBy w' none := ⟨h.os, h.tape, h.output, h.size, fun k hk _ => h.block k hk⟩
/-- t is the greatest of what lies just behind the pages that were met, and the edge -/
def Grp (l : List Pg) (ed : Int) (left : Lit → Bool) (t : Int) : Prop := (t = ed ∨ ∃ x ∈ l, t = x.at_ + 1) ∧ ed ≤ t ∧ ∀ x ∈ l, left (klA x.at_) = false → x.at_ + 1 ≤ t
theorem Grp.start {D : DataW Unit} {l : List Pg} (h : Mp D l) (ed : Int) : Grp l ed (Maps.has D) ed := by
  refine ⟨.inl rfl, Int.le_refl _, fun x hx hl => ?_⟩
  rw [h.hs _ (h.wf x hx), decide_eq_true (List.mem_map.2 ⟨x, hx, rfl⟩)] at hl
  cases hl
theorem Mp.met {D : DataW Unit} {l : List Pg} (h : Mp D l) {u : Int} (hu : (Lit.int .i64 u).wf = true) {y : DataW Unit} (hat : ∀ z, D.atKey (klA u) z = y) : ∃ x ∈ l, x.at_ = u := by
  have h1 := has_true_of_atKey hat
  rw [h.hs u hu] at h1
  obtain ⟨x, hx, e⟩ := List.mem_map.1 (of_decide_eq_true h1)
  exact ⟨x, hx, e⟩
theorem Grp.step {D : DataW Unit} {l : List Pg} {ed t u : Int} {left : Lit → Bool} (h : Grp l ed left t) (hM : Mp D l) (hu : ∃ x ∈ l, x.at_ = u) : Grp l ed (fun z => left z && !z.sameKey (klA u)) (max t (u + 1)) := by
  obtain ⟨x, hx, rfl⟩ := hu
  refine ⟨?_, by have := h.2.1; omega, fun y hy hl => ?_⟩
  · rcases Int.le_total t (x.at_ + 1) with h4 | h4
    · exact .inr ⟨x, hx, by omega⟩
    · rw [show max t (x.at_ + 1) = t by omega]; exact h.1
  · by_cases e : y.at_ = x.at_
    · rw [e]; omega
    · have h1 : (left (klA y.at_) && !(klA y.at_).sameKey (klA x.at_)) = false := hl
      rw [sameKey_ne (fun e2 => e (klA_inj (hM.wf y hy) (hM.wf x hx) e2))] at h1
      have := h.2.2 y hy (by simpa using h1)
      omega
theorem Grp.done {l : List Pg} {ed t : Int} {left : Lit → Bool} (h : Grp l ed left t) (h0 : ∀ z, left z = false) : t = tailP l ed := tailP_of h.1 h.2.1 (fun x hx => h.2.2 x hx (h0 _))
set_option maxHeartbeats 8000000 in
theorem ptail_any (G : Nat → Prop) (w : World) (b : Nat) (p : Ps) (h : PGm G w b p) (hok : p.Ok) :
    Calls Tryz.prog 147 #[.pointer (some ⟨b, 0, none⟩)] w fun e w' => e = .returned (.int .i64 p.tail) ∧ Below w.heap.size w w' := by
  obtain ⟨mb, h1, ⟨D, hD, hM⟩, _⟩ := h
  obtain ⟨c0, c1, c2, _⟩ := three_cells h1
  have HD := Lib.hid hD
  have HM := Lib.hid hM
  have HBL := Lib.hid hD.lt
  have HOK := Lib.hid hok.each
  have HED := Lib.hid hok.edge
  have HT := Lib.hid (show tailP p.l p.edge = p.tail from rfl)
  generalize p.tail = tl at *
  generalize p.edge = ed at *
  clear h1 hD hM hok
  go_enter Tryz.func147, Tryz.ntmps147
  go_wp2_with (at_range; refine wpList_range_own _ rfl _ 105 rfl 109 104 pspot_law Tryz.underlying105 sheetR mb _ _ rfl HD.out ?_; intro w3 hrg0 hg0 hs0)
  go_frame
  have hbr := HBL.out
  have HX3 := Lib.hid (show Below w.heap.size w w3 from (Below.refl _ _).grown hg0 (Nat.le_refl _) (fun j hj => by cases hj))
  have hed := HED.out
  clear hg0 c0 c1 c2
  go_loopw [3] (fun v wr => ∃ (left : Lit → Bool) (cnt : Nat) (t : Int), v = .int .i64 t ∧ Hid (wr.ranges Tryz.prog 109 sheetR mb w.heap.size p.l.length D left cnt) ∧ Hid (Grp p.l ed left t) ∧ 0 ≤ t ∧ t ≤ 4096 ∧ Hid (Below w.heap.size w wr)) (fun _ wr => wr.rangeLeft mb w.heap.size)
  case atStart => exact ⟨_, _, ed, rfl, Lib.hid hrg0, Lib.hid (Grp.start HM.out ed), by omega, by omega, HX3⟩
  case round =>
    obtain ⟨left, cnt, t, rfl, HR, HG, t0, t1, HX⟩ := hrel
    clear hrg0
    go_wp2_with (at_next; refine wpList_next_ranges (α := Int) (β := Int × ByteArray) _ rfl _ rfl 109 pspot_law sheetR (fun x => .agg #[.int .i64 x]) (fun c => .agg #[.int .i64 c.1, .string c.2]) (fun key kl hkey => by obtain ⟨u, e, _⟩ := pspot_inv hkey; exact ⟨u, e⟩) (fun v y hv => by obtain ⟨k, s, e, _⟩ := sheetR_inv hv; exact ⟨(k, s), e⟩) mb w.heap.size _ _ _ _ rfl HR.out ?_ ?_)
    · intro hc0 hl0
      have HF := Lib.hid (HG.out.done hl0)
      go_wp2_with fail
      go_ret
      rw [← HT.out, ← HF.out]
      exact ⟨rfl, HX.out⟩
    · intro x y1 y2 kl z1 z2 w4 cnt4 hkey hlk hv hat hrg4 hlt hg4 hs4 hen
      obtain ⟨u, e, hwf⟩ := pspot_inv hkey
      obtain rfl : x = u := agg1_inj e
      obtain rfl : kl = klA x := Option.some.inj (hkey.symm.trans (pspot_key x hwf))
      have hin := HM.out.met hwf hat
      have hxb : 0 ≤ x ∧ x < 4096 := by
        obtain ⟨q, hq, rfl⟩ := hin
        have := (HOK.out q hq).1
        omega
      have hg5 := HG.out.step HM.out hin
      have HG5 := Lib.hid hg5
      have HB4 := HX.out.grown hg4 HX.out.size (fun j hj => by cases hj; exact Nat.le_refl _)
      have HX4 := Lib.hid (HB4.alloc HB4.size (.cells #[.int .i64 x] 109))
      have HR4 := Lib.hid (hrg4.alloc (.cells #[.int .i64 x] 109))
      obtain ⟨x0, x1⟩ := hxb
      clear e hkey hlk hv hat hrg4 hg4 hwf hin hg5 HB4
      obtain ⟨t2, ht2⟩ : ∃ t2, (if t < x + 1 then x + 1 else t) = t2 := ⟨_, rfl⟩
      have h5 : max t (x + 1) = t2 := by rw [← ht2]; split <;> omega
      rw [h5] at HG5
      have t20 : 0 ≤ t2 := by omega
      have t21 : t2 ≤ 4096 := by omega
      clear h5
      go_wp2_with fail
      go_roundw
      case rel => exact ⟨_, cnt4, t2, rfl, HR4, HG5, t20, t21, HX4⟩
      case measure => rw [HR4.out.left_eq, HR.out.left_eq]; exact hlt
theorem ptail_nil (w : World) : Calls Tryz.prog 147 #[.pointer none] w fun e w' => e = .returned (.int .i64 0) ∧ w = w' := by
  go_enter Tryz.func147, Tryz.ntmps147
  go_wp2_with fail
  go_ret
  exact ⟨rfl, rfl⟩
theorem calls_same {f : FuncId} {a : Array Value} {w : World} {v : Value} (h : Calls Tryz.prog f a w fun e w' => e = .returned v ∧ w = w') : Calls Tryz.prog f a w fun e w' => e = .returned v ∧ Below w.heap.size w w' := h.mono fun e w' ⟨h1, h2⟩ => ⟨h1, h2 ▸ Below.refl _ _⟩
theorem pageSays : PageSays PGm where
  lt := fun h => h.lt
  keep := fun h hk hG => h.keep hk hG
  new_yes := fun room w hr => pnew_yes room w hr
  new_no := fun room w hr _ => pnew_no room w hr
  write := fun G w b p a s h hok _ hs => pwrite_any G w b p a s h hok hs
  fill := fun G w b p a h hok _ => pfill_any G w b p a h hok
  trim := fun G w b p a h hok ha => ptrim_any G w b p a h hok ha
  read := fun G w b p a h hok _ => pread_any G w b p a h hok
  kind := fun G w b p a h _ _ => calls_same (kind_any G w b p a h)
  tail := fun G w b p h hok => ptail_any G w b p h hok
  nil_write := fun a s w hs => calls_same (pwrite_nil a s w hs)
  nil_fill := fun a w => calls_same (pfill_nil a w)
  nil_trim := fun a w => calls_same (ptrim_nil a w)
  nil_read := fun a w => calls_same (pread_nil a w)
  nil_kind := fun a w => calls_same (kind_nil a w)
  nil_tail := fun w => calls_same (ptail_nil w)
end Go.Proofs.YtimjlfkdbkafeaaGreat
namespace Go.Proofs.YtimjlfkdbkafeaaGreat
set_option linter.unusedVariables false
open Go.RowKit
set_option maxRecDepth 20000
/-- T F w: in world w a thing (of some state) lies in the blocks of F -/
structure Part (T : (Nat → Prop) → World → Prop) : Prop where
  lt : ∀ {F : Nat → Prop} {w : World}, T F w → ∀ k, F k → k < w.heap.size
  keep : ∀ {F S : Nat → Prop} {w w' : World}, T F w → Kept S w w' → (∀ k, F k → S k) → T F w'
theorem Thing.part {α : Type} {T : (Nat → Prop) → World → α → Prop} (h : Thing T) (a : α) : Part (fun F w => T F w a) := ⟨fun h1 => h.lt h1, fun h1 h2 h3 => h.keep h1 h2 h3⟩
/-- the things T 0 .. T (n - 1), in no block of X, and in none of each other's -/
def Bund (n : Nat) (T : Nat → (Nat → Prop) → World → Prop) (X : Nat → Prop) (w : World) : Prop :=
  (∀ k, X k → k < w.heap.size) ∧ ∃ F : Nat → Nat → Prop, (∀ i, i < n → T i (F i) w) ∧ (∀ i, i < n → ∀ k, X k → ¬ F i k) ∧ ∀ i j, i < n → j < n → i ≠ j → ∀ k, F i k → ¬ F j k
/-- the i-th one is another then -/
def swapP (T : Nat → (Nat → Prop) → World → Prop) (i : Nat) (U : (Nat → Prop) → World → Prop) : Nat → (Nat → Prop) → World → Prop := fun j => if j = i then U else T j
section
variable {n i : Nat} {T : Nat → (Nat → Prop) → World → Prop} {U : (Nat → Prop) → World → Prop} {X Y : Nat → Prop} {w w' : World}
theorem Bund.less (h : Bund n T X w) (hy : ∀ k, Y k → X k) : Bund n T Y w := by
  obtain ⟨h1, F, h2, h3, h4⟩ := h
  exact ⟨fun k hk => h1 k (hy k hk), F, h2, fun i hi k hk => h3 i hi k (hy k hk), h4⟩
theorem Bund.kept (hT : ∀ i, i < n → Part (T i)) (h : Bund n T X w) {S : Nat → Prop} (hk : Kept S w w') (hS : ∀ k, ¬ S k → X k) : Bund n T X w' := by
  obtain ⟨h1, F, h2, h3, h4⟩ := h
  refine ⟨fun k hx => Nat.lt_of_lt_of_le (h1 k hx) hk.size, F, fun i hi => (hT i hi).keep (h2 i hi) hk (fun k hf => ?_), h3, h4⟩
  exact Classical.byContradiction fun hn => h3 i hi k (hS k hn) hf
theorem Bund.below (hT : ∀ i, i < n → Part (T i)) (h : Bund n T X w) (hb : Below w.heap.size w w') : Bund n T X w' :=
  h.kept hT (Kept.ofBelow hb (fun _ => True)) (fun k hn => absurd trivial hn)
theorem Bund.wider (hT : ∀ i, i < n → Part (T i)) (h : Bund n T X w) (hb : Below w.heap.size w w') : Bund n T (fun k => X k ∨ (w.heap.size ≤ k ∧ k < w'.heap.size)) w' := by
  have hb2 := h.below hT hb
  obtain ⟨h1, F, h2, h3, h4⟩ := h
  refine ⟨fun k hk => ?_, F, fun i hi => (hT i hi).keep (h2 i hi) (Kept.ofBelow hb (fun _ => True)) (fun _ _ => trivial), fun i hi k hk hf => ?_, h4⟩
  · rcases hk with hk | hk
    · exact Nat.lt_of_lt_of_le (h1 k hk) hb.size
    · exact hk.2
  · rcases hk with hk | hk
    · exact h3 i hi k hk hf
    · have := (hT i hi).lt (h2 i hi) k hf; omega
/-- one of them is looked at -/
theorem Bund.look (h : Bund n T X w) (hi : i < n) : ∃ F, T i F w ∧ ∀ k, X k → ¬ F k := by
  obtain ⟨h1, F, h2, h3, h4⟩ := h
  exact ⟨F i, h2 i hi, h3 i hi⟩
/-- one of them has turned, in its own blocks and new ones; C: new memory that was handed out besides -/
theorem Bund.turn (hT : ∀ i, i < n → Part (T i)) (h : Bund n T X w) (hi : i < n) {C : Nat → Prop} (hC : ∀ k, C k → w.heap.size ≤ k ∧ k < w'.heap.size)
    (hc : ∀ F : Nat → Prop, T i F w → (∀ k, X k → ¬ F k) → ∃ F' : Nat → Prop, U F' w' ∧ (∀ k, C k → ¬ F' k) ∧ Kept (fun k => ¬ F k) w w' ∧ ∀ k, F' k → F k ∨ w.heap.size ≤ k) :
    Bund n (swapP T i U) (fun k => X k ∨ C k) w' ∧ Kept X w w' := by
  obtain ⟨h1, F, h2, h3, h4⟩ := h
  obtain ⟨F', r1, r2, r3, r4⟩ := hc (F i) (h2 i hi) (h3 i hi)
  refine ⟨⟨fun k hk => ?_, fun j => if j = i then F' else F j, fun j hj => ?_, fun j hj k hk hf => ?_, fun j l hj hl hne k hf hg => ?_⟩, r3.mono (h3 i hi)⟩
  · rcases hk with hk | hk
    · exact Nat.lt_of_lt_of_le (h1 k hk) r3.size
    · exact (hC k hk).2
  · unfold swapP
    by_cases e : j = i
    · simp only [e, if_true]
      exact r1
    · simp only [e, if_false]
      exact (hT j hj).keep (h2 j hj) r3 (fun k hf hg => h4 j i hj hi e k hf hg)
  · by_cases e : j = i
    · simp only [e, if_true] at hf
      rcases hk with hk | hk
      · rcases r4 k hf with h | h
        · exact h3 i hi k hk h
        · have := h1 k hk; omega
      · exact r2 k hk hf
    · simp only [e, if_false] at hf
      rcases hk with hk | hk
      · exact h3 j hj k hk hf
      · have := (hT j hj).lt (h2 j hj) k hf
        have := (hC k hk).1
        omega
  · by_cases e : j = i
    · have e2 : l ≠ i := fun h => hne (e.trans h.symm)
      simp only [e, if_true] at hf
      simp only [e2, if_false] at hg
      rcases r4 k hf with h | h
      · exact h4 i l hi hl (fun h => e2 h.symm) k h hg
      · have := (hT l hl).lt (h2 l hl) k hg; omega
    · simp only [e, if_false] at hf
      by_cases e2 : l = i
      · simp only [e2, if_true] at hg
        rcases r4 k hg with h | h
        · exact h4 j i hj hi e k hf h
        · have := (hT j hj).lt (h2 j hj) k hf; omega
      · simp only [e2, if_false] at hg
        exact h4 j l hj hl hne k hf hg
/-- one more is made, in new memory -/
theorem Bund.more (hT : ∀ i, i < n → Part (T i)) (h : Bund n T X w) (hb : Below w.heap.size w w') {G : Nat → Prop} (hu : U G w') (hG : ∀ k, G k → w.heap.size ≤ k) : Bund (n + 1) (swapP T n U) X w' := by
  obtain ⟨h1, F, h2, h3, h4⟩ := h
  have hold : ∀ j, j < n → T j (F j) w' := fun j hj => (hT j hj).keep (h2 j hj) (Kept.ofBelow hb (fun _ => True)) (fun _ _ => trivial)
  refine ⟨fun k hk => Nat.lt_of_lt_of_le (h1 k hk) hb.size, fun j => if j = n then G else F j, fun j hj => ?_, fun j hj k hk hf => ?_, fun j l hj hl hne k hf hg => ?_⟩
  · unfold swapP
    by_cases e : j = n
    · simp only [e, if_true]
      exact hu
    · simp only [e, if_false]
      exact hold j (by omega)
  · by_cases e : j = n
    · simp only [e, if_true] at hf
      have := h1 k hk
      have := hG k hf
      omega
    · simp only [e, if_false] at hf
      exact h3 j (by omega) k hk hf
  · by_cases e : j = n
    · have e2 : l ≠ n := fun h => hne (e.trans h.symm)
      simp only [e, if_true] at hf
      simp only [e2, if_false] at hg
      have := (hT l (by omega)).lt (h2 l (by omega)) k hg
      have := hG k hf
      omega
    · simp only [e, if_false] at hf
      by_cases e2 : l = n
      · simp only [e2, if_true] at hg
        have := (hT j (by omega)).lt (h2 j (by omega)) k hf
        have := hG k hg
        omega
      · simp only [e2, if_false] at hg
        exact h4 j l (by omega) (by omega) hne k hf hg
theorem Bund.none (hX : ∀ k, X k → k < w.heap.size) : Bund 0 T X w := ⟨hX, fun _ _ => False, fun i hi => absurd hi (Nat.not_lt_zero i), fun i hi => absurd hi (Nat.not_lt_zero i), fun i j hi => absurd hi (Nat.not_lt_zero i)⟩
/-- all of them together are a thing again -/
theorem Bund.same {T2 : Nat → (Nat → Prop) → World → Prop} (h : Bund n T X w) (e : ∀ i, i < n → ∀ F W, T i F W → T2 i F W) : Bund n T2 X w := by
  obtain ⟨h1, F, h2, h3, h4⟩ := h
  exact ⟨h1, F, fun i hi => e i hi _ _ (h2 i hi), h3, h4⟩
end
end Go.Proofs.YtimjlfkdbkafeaaGreat
namespace Go.Proofs.YtimjlfkdbkafeaaGreat
set_option linter.unusedVariables false
open Go.RowKit
set_option maxRecDepth 20000
/-- the thing, beside it the chains L at v, in blocks C -/
def Chained {α : Type} (T : (Nat → Prop) → World → α → Prop) (C : Nat → Prop) (v : Value) (L : List (List Int)) (H : Nat → Prop) (w : World) (s : α) : Prop :=
  ∃ H1 : Nat → Prop, T H1 w s ∧ CG C w v L ∧ (∀ k, C k → k < w.heap.size) ∧ (∀ k, C k → ¬ H1 k) ∧ ∀ k, H k ↔ H1 k ∨ C k
section
variable {α β : Type} {T : (Nat → Prop) → World → α → Prop} {U : (Nat → Prop) → World → β → Prop} {C G : Nat → Prop} {v : Value} {L : List (List Int)} {w w' : World} {s s' : α} {x : An} {e : Ending}
theorem chained_thing (hT : Thing T) (C : Nat → Prop) (v : Value) (L : List (List Int)) : Thing (Chained T C v L) where
  lt := by
    rintro H w s ⟨H1, h1, h2, h3, h4, h5⟩ k hk
    rcases (h5 k).1 hk with h | h
    · exact hT.lt h1 k h
    · exact h3 k h
  keep := by
    rintro H S w w' s ⟨H1, h1, h2, h3, h4, h5⟩ hk hS
    exact ⟨H1, hT.keep h1 hk (fun k hf => hS k ((h5 k).2 (.inl hf))), h2.keep hk (fun k hc => hS k ((h5 k).2 (.inr hc))), fun k hc => Nat.lt_of_lt_of_le (h3 k hc) hk.size, h4, h5⟩
theorem tells_chained (h : Tells T G w s' x e w') : ∃ (ao : Option Addr) (cap : Nat) (C : Nat → Prop), e = .returned (ansV x ao cap) ∧ (∀ k, C k → w.heap.size ≤ k) ∧ Leaves (Chained T C (.slice ao x.L.length cap) x.L) G w w' s' := by
  obtain ⟨ao, cap, C, he, hC, hF, G', r1, r2, r3, r4⟩ := h
  refine ⟨ao, cap, C, he, fun k hk => (hF k hk).1, fun k => G' k ∨ C k, ⟨G', r1, hC, fun k hk => (hF k hk).2, r2, fun k => Iff.rfl⟩, r3, fun k hk => ?_⟩
  rcases hk with h | h
  · exact r4 k h
  · exact .inr (hF k h).1
theorem chained_tells {ao : Option Addr} {cap : Nat} (hC : ∀ k, C k → w.heap.size ≤ k) (h : Leaves (Chained T C (.slice ao x.L.length cap) x.L) G w w' s') : Tells T G w s' x (.returned (ansV x ao cap)) w' := by
  obtain ⟨H, ⟨H1, h1, h2, h3, h4, h5⟩, r2, r3⟩ := h
  exact ⟨ao, cap, C, rfl, h2, fun k hk => ⟨hC k hk, h3 k hk⟩, H1, h1, h4, r2, fun k hk => r3 k ((h5 k).2 (.inl hk))⟩
theorem tells_plain (h : Leaves T G w w' s') (hL : x.L = []) (he : e = .returned (ansV x none 0)) : Tells T G w s' x e w' := by
  rw [he]
  exact Tells.plain h hL
/-- chains that were made behind the thing -/
theorem chained_new (hT : Thing T) (h : T G w s) (hb : Below w.heap.size w w') (hO : OC w' w.heap.size v L) : Leaves (Chained T (fun k => w.heap.size ≤ k ∧ k < w'.heap.size) v L) G w w' s := by
  refine ⟨fun k => G k ∨ (w.heap.size ≤ k ∧ k < w'.heap.size), ⟨G, hT.keep h (Kept.ofBelow hb (fun _ => True)) (fun _ _ => trivial), CG.of hO, fun k hk => hk.2, fun k hk hg => ?_, fun k => Iff.rfl⟩, Kept.ofBelow hb _, fun k hk => hk.imp id (fun h => h.1)⟩
  have := hT.lt h k hg
  omega
/-- the thing is told otherwise -/
theorem Tells.to {γ : Type} {V : (Nat → Prop) → World → γ → Prop} {z : γ} (h : Tells T G w s' x e w') (hs : ∀ H W, T H W s' → V H W z) : Tells V G w z x e w' := by
  obtain ⟨ao, cap, F, h1, h2, h3, G', h4, h5⟩ := h
  exact ⟨ao, cap, F, h1, h2, h3, G', hs _ _ h4, h5⟩
end
end Go.Proofs.YtimjlfkdbkafeaaGreat
namespace Go.Proofs.YtimjlfkdbkafeaaGreat
set_option linter.unusedVariables false
open Go.RowKit
set_option maxRecDepth 20000
theorem six_cells {w : World} {b : Nat} {v0 v1 v2 v3 v4 v5 : Value} {t : TypeId} (h : w.heap[b]? = some (.cells #[v0, v1, v2, v3, v4, v5] t (0, 0))) :
    (w.cell? ⟨b, 0, none⟩ = some v0 ∧ w.cell? ⟨b, 1, none⟩ = some v1 ∧ w.cell? ⟨b, 2, none⟩ = some v2 ∧ w.cell? ⟨b, 3, none⟩ = some v3 ∧ w.cell? ⟨b, 4, none⟩ = some v4 ∧ w.cell? ⟨b, 5, none⟩ = some v5) ∧
    w.frozen? ⟨b, 0, none⟩ = false ∧ w.frozen? ⟨b, 1, none⟩ = false ∧ w.frozen? ⟨b, 2, none⟩ = false ∧ w.frozen? ⟨b, 3, none⟩ = false ∧ w.frozen? ⟨b, 4, none⟩ = false ∧ w.frozen? ⟨b, 5, none⟩ = false :=
  ⟨⟨cell_of h 0, cell_of h 1, cell_of h 2, cell_of h 3, cell_of h 4, cell_of h 5⟩, free_of h 0, free_of h 1, free_of h 2, free_of h 3, free_of h 4, free_of h 5⟩
/-- what the document's layout's cells hold -/
theorem RL.open {r : Nat} {G : Nat → Prop} {w : World} {y : Ly} (h : RL r G w y) : ∃ ao cap bo cb, w.heap[r]? = some (.cells #[.int .i64 y.ep, .slice ao y.L.length cap, .slice bo y.used.length cb, .int .i64 y.mark, .int .i64 y.size, .int .i64 y.n] 154 (0, 0)) ∧ CL w ao y.L ∧ NLI w bo cb y.used ∧ goodB y.ep y.L = true := by
  obtain ⟨⟨k, hk⟩, _, v, u, F, h2, h3, h4, _⟩ := h
  obtain ⟨ao, cap, rfl, h5, _⟩ := h3.cl
  obtain ⟨bo, cb, rfl, h6, _⟩ := h4
  exact ⟨ao, cap, bo, cb, h2, h5, h6, hk.good⟩
theorem good_small {ep : Int} {L : List (List Int)} (h : goodB ep L = true) : L.length ≤ 255 ∧ ∀ c ∈ L, c.length ≤ 255 := by
  obtain ⟨_, h2, h3, _⟩ := goodB_iff.1 h
  exact ⟨by omega, fun c hc => by have := (chainB_iff.1 (h3 c hc)).1; omega⟩
end Go.Proofs.YtimjlfkdbkafeaaGreat
namespace Go.Proofs.YtimjlfkdbkafeaaGreat
open Go.RowKit
set_option maxRecDepth 20000
theorem most_eq (v : Int) : ∃ (m1 : Int) (m2 : Nat), (if (4096 : Int) < v then (4096 : Int) else v) = m1 ∧ (if (0 : Int) < m1 then m1 else (0 : Int)) = m2 ∧ (m2 : Int) = max 0 (min v 4096) ∧ m2 ≤ 4096 := by
  refine ⟨_, (max 0 (min v 4096)).toNat, rfl, ?_, ?_, ?_⟩
  · split <;> split <;> omega
  · omega
  · omega
theorem tailK_zero (n i : Int) (K : List (Int × Int)) (c : List Int) (t : Int) : tailK n i K (c.take 0) t = t := rfl
theorem tailJ_zero (n i u : Int) (K : List (Int × Int)) (t : Int) : tailJ n i u (K.take 0) t = t := rfl
theorem tailJ_next (n i u : Int) {K : List (Int × Int)} {j : Nat} (h : j < K.length) (t : Int) : tailJ n i u (K.take (j + 1)) t = if K[j].1 = u then max (tailJ n i u (K.take j) t) (gain n i K[j].2) else tailJ n i u (K.take j) t := by
  rw [List.take_succ_eq_append_getElem h, tailJ_snoc]
theorem tailK_next (n i : Int) (K : List (Int × Int)) {c : List Int} {k : Nat} (h : k < c.length) (t : Int) : tailK n i K (c.take (k + 1)) t = tailJ n i c[k] (K.take K.length) (tailK n i K (c.take k) t) := by
  rw [List.take_succ_eq_append_getElem h, tailK_snoc, List.take_of_length_le (Nat.le_refl _)]
theorem tailN_next {L : List (List Int)} (K : List (Int × Int)) {i : Nat} (h : i < L.length) : tailN L K (i + 1) = tailK L.length i K (L[i].take L[i].length) (tailN L K i) := by
  rw [tailN_succ, List.take_of_length_le (Nat.le_refl _)]
  simp [h]
theorem max_gain {n i t v : Int} (hn : 1 ≤ n ∧ n ≤ 4) (hi : 0 ≤ i ∧ i < n) (ht : 0 ≤ t ∧ t ≤ 16384) : 0 ≤ max t (gain n i v) ∧ max t (gain n i v) ≤ 16384 := by
  have := gain_range (v := v) hn hi
  omega
end Go.Proofs.YtimjlfkdbkafeaaGreat
