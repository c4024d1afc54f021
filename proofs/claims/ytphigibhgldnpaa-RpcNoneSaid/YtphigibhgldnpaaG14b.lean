/- What the program's own 'follows' returns: may a chain stand behind the one that stood there? Conditions: the chain lies where the call was told; no unit stands twice in it, nor in the projection ahead; the map is of that projection. What the document's own layout tells of the units that were used, and whether a projection may come next. Conditions: it and the projection lie where the call was told. -/
import Derived.Test.YtphigibhgldnpaaG13b
import Derived.Test.YtphigibhgldnpaaG13a
import Derived.Test.YtphigibhgldnpaaG12b
set_option linter.unusedVariables false
namespace Go.Proofs.Ytphigibhgldnpaa
open Go.RowKit Go.Maps
set_option maxRecDepth 20000
/-- the map's datum is D -/
theorem owns_below {w w' : World} {b n : Nat} {D : DataW Unit} (h : w.ownsMap Try.prog 99 spotR b n D) (hb : Below w.heap.size w w') : w'.ownsMap Try.prog 99 spotR b n D := by
  obtain ⟨es, clock, h1, h2⟩ := h
  exact ⟨es, clock, below_heap hb h1, h2⟩
section
variable {w : World} {ops : Array Oper} {rest : List Oper} {o : Oper} {a : Act} {Q : Exit → Act → World → Prop}
theorem lookup_in (hg : o.guard = none) (m x : Operand) (hop : o.op = Op.lookup 89 m x true) {b n : Nat} {D : DataW Unit} (hm : a.eval m = .map (some b)) (hown : w.ownsMap Try.prog 99 spotR b n D)
    {u i j : Int} (hx : a.eval x = .agg #[.int .i64 u]) (hu : (Lit.int .i64 u).wf = true) (hh : Maps.has D (klU u) = true) (hat : ∀ zd, D.atKey (klU u) zd = spotD i j)
    (hK : wpList Try.prog ops Q rest (a.put o.dst (.tuple #[.agg #[.int .i64 i, .int .i64 j], .bool true])) w) : wpList Try.prog ops Q (o :: rest) a w :=
  wpList_lookup_own_ok w hg m x _ hop 99 97 unit_law Try.underlying89 spotR (zero_spot w) (spotD 0 0) [] (spotR_mk 0 0) b n D hm hown _ _ hx (unit_key u hu) (fun v ps hv => by
    obtain ⟨i2, j2, rfl, e⟩ := spotR_inv hv
    have e1 := congrArg Prod.fst e
    simp only [hat] at e1
    obtain ⟨rfl, rfl⟩ := spotD_inj e1
    rw [hh]
    exact hK)
theorem lookup_out (hg : o.guard = none) (m x : Operand) (hop : o.op = Op.lookup 89 m x true) {b n : Nat} {D : DataW Unit} (hm : a.eval m = .map (some b)) (hown : w.ownsMap Try.prog 99 spotR b n D)
    {u : Int} (hx : a.eval x = .agg #[.int .i64 u]) (hu : (Lit.int .i64 u).wf = true) (hh : Maps.has D (klU u) = false)
    (hK : wpList Try.prog ops Q rest (a.put o.dst (.tuple #[.agg #[.int .i64 0, .int .i64 0], .bool false])) w) : wpList Try.prog ops Q (o :: rest) a w :=
  wpList_lookup_own_ok w hg m x _ hop 99 97 unit_law Try.underlying89 spotR (zero_spot w) (spotD 0 0) [] (spotR_mk 0 0) b n D hm hown _ _ hx (unit_key u hu) (fun v ps hv => by
    obtain ⟨i2, j2, rfl, e⟩ := spotR_inv hv
    have e1 := congrArg Prod.fst e
    simp only [atKey_of_not_has hh] at e1
    obtain ⟨rfl, rfl⟩ := spotD_inj e1
    rw [hh]
    exact hK)
end
theorem mem_preU {L : List (List Int)} {n k i j : Nat} (hi : i < L.length) (hj : j < L[i].length) (h : i < n ∨ (i = n ∧ j < k)) : L[i][j] ∈ preU L n k := by
  unfold preU
  rcases h with h | ⟨rfl, h⟩
  · refine List.mem_append_left _ (List.mem_flatten.2 ⟨L[i], ?_, List.getElem_mem hj⟩)
    rw [List.mem_take_iff_getElem]
    exact ⟨i, by omega, rfl⟩
  · refine List.mem_append_right _ ?_
    rw [show L.getD i [] = L[i] by simp [hi], List.mem_take_iff_getElem]
    exact ⟨j, by omega, rfl⟩
/-- each unit stands in one place alone -/
theorem flat_one {L : List (List Int)} (h : L.flatten.Nodup) {i j n k : Nat} (hi : i < L.length) (hj : j < L[i].length) (hn : n < L.length) (hk : k < L[n].length) (e : L[i][j] = L[n][k]) : i = n ∧ j = k := by
  by_cases h1 : i < n ∨ (i = n ∧ j < k)
  · exact absurd (e ▸ mem_preU hi hj h1) (preU_nodup h hn hk)
  · by_cases h2 : n < i ∨ (n = i ∧ k < j)
    · exact absurd (e ▸ mem_preU hn hk h2) (preU_nodup h hi hj)
    · omega
/-- a chain's units stand in one place each -/
theorem row_one {L : List (List Int)} (h : L.flatten.Nodup) {n j k : Nat} (hn : n < L.length) (hj : j < L[n].length) (hk : k < L[n].length) (e : L[n][j] = L[n][k]) : j = k := (flat_one h hn hj hn hk e).2
/-- what is still to be told of a chain, at its k-th unit: s of them stayed, the last of them stood at la -/
def JF (all old c : List Int) (T : Bool) (k s : Nat) (la : Int) : Prop :=
  (s = k ∧ ((k = 0 ∧ la = -1) ∨ ∃ (p : Nat) (hp : p < old.length) (hk : k - 1 < c.length), 0 < k ∧ la = p ∧ old[p] = c[k - 1]) ∧ seqB all old (c.drop k) (old.drop (la + 1).toNat) (decide (0 < k)) = T) ∨
  (s < k ∧ (decide (0 < s) && outB all (c.drop k)) = T)
section
variable {all old c : List Int} {T : Bool} {k s : Nat} {la : Int}
theorem JF.start (h : seqB all old c old false = T) : JF all old c T 0 0 (-1) := .inl ⟨rfl, .inl ⟨rfl, rfl⟩, h⟩
theorem seq_not {rest : List Int} {m : Bool} (hk : k < c.length) (h : c[k] ∉ old) : seqB all old (c.drop k) rest m = (m && outB all (c.drop k)) := by
  rw [List.drop_eq_getElem_cons hk]
  show (if c[k] ∈ old then _ else _) = _
  rw [if_neg h]
  rfl
theorem JF.out (h : JF all old c T k s la) (hk : k < c.length) (h1 : c[k] ∉ old) (h2 : c[k] ∉ all) : JF all old c T (k + 1) s la := by
  rcases h with ⟨rfl, _, h⟩ | ⟨h3, h⟩
  · rw [seq_not hk h1, out_step hk h2] at h
    exact .inr ⟨by omega, h⟩
  · rw [out_step hk h2] at h
    exact .inr ⟨by omega, h⟩
theorem JF.other (h : JF all old c T k s la) (hk : k < c.length) (h1 : c[k] ∉ old) (h2 : c[k] ∈ all) : T = false := by
  rcases h with ⟨rfl, _, h⟩ | ⟨h3, h⟩
  · rw [seq_not hk h1, out_no hk h2] at h
    simpa using h.symm
  · rw [out_no hk h2] at h
    simpa using h.symm
theorem JF.gap (h : JF all old c T k s la) (hk : k < c.length) (h1 : s ≠ k) (h2 : c[k] ∈ all) : T = false := by
  rcases h with ⟨h3, _⟩ | ⟨h3, h⟩
  · exact absurd h3 h1
  · rw [out_no hk h2] at h
    simpa using h.symm
theorem drop_none {l : List Int} {u : Int} (h : u ∉ l) : l.dropWhile (fun t => t != u) = [] := by
  induction l with
  | nil => rfl
  | cons x l ih =>
    rw [List.mem_cons, not_or] at h
    have e : (fun t => t != u) x = true := bne_iff_ne.2 fun e => h.1 e.symm
    exact (List.dropWhile_cons_of_pos (p := fun t => t != u) (a := x) (l := l) e).trans (ih h.2)
theorem JF.back (h : JF all old c T k s la) (hu : ∀ i j (hi : i < old.length) (hj : j < old.length), old[i] = old[j] → i = j) (hk : k < c.length) {j : Nat} (hj : j < old.length) (he : old[j] = c[k]) (hl : (j : Int) < la) (hs : s = k) : T = false := by
  subst hs
  rcases h with ⟨_, h1, h⟩ | ⟨h3, h⟩
  · rcases h1 with ⟨_, rfl⟩ | ⟨p, hp, hk1, _, rfl, _⟩
    · omega
    · rw [seq_lost hk (he ▸ List.getElem_mem hj) (drop_none _)] at h
      · exact h.symm
      · intro hm
        obtain ⟨x, hx, e⟩ := List.getElem_of_mem hm
        rw [List.length_drop] at hx
        rw [List.getElem_drop, ← he] at e
        have := hu _ _ _ _ e
        omega
  · omega
theorem drop_found {l : List Int} {a j : Nat} (hu : ∀ i j (hi : i < l.length) (hj : j < l.length), l[i] = l[j] → i = j) (hj : j < l.length) (h : a ≤ j) : (l.drop a).dropWhile (fun t => t != l[j]) = l[j] :: l.drop (j + 1) := by
  induction hd : j - a generalizing a with
  | zero =>
    obtain rfl : a = j := by omega
    exact drop_stop hj (by simp)
  | succ d ih =>
    have ha : a < l.length := by omega
    rw [drop_at ha (by rw [bne_iff_ne]; intro e; have := hu _ _ _ _ e; omega)]
    exact ih (by omega) (by omega)
theorem JF.on (h : JF all old c T k s la) (hu : ∀ i j (hi : i < old.length) (hj : j < old.length), old[i] = old[j] → i = j) (hc : ∀ i j (hi : i < c.length) (hj : j < c.length), c[i] = c[j] → i = j) (hk : k < c.length) {j : Nat} (hj : j < old.length) (he : old[j] = c[k]) (hl : ¬ (j : Int) < la) (hs : s = k) :
    JF all old c T (k + 1) (s + 1) j := by
  subst hs
  rcases h with ⟨_, h1, h⟩ | ⟨h3, h⟩
  · have hla : (la + 1).toNat ≤ j := by
      rcases h1 with ⟨_, rfl⟩ | ⟨p, hp, hk1, hk0, rfl, e⟩
      · omega
      · have : p ≠ j := by
          rintro rfl
          have := hc _ _ _ _ (e.symm.trans he)
          omega
        omega
    have hf := drop_found hu hj hla
    rw [he] at hf
    rw [seq_found hk (he ▸ List.getElem_mem hj) hf] at h
    refine .inl ⟨rfl, .inr ⟨j, hj, by simpa using hk, by omega, rfl, by simpa using he⟩, ?_⟩
    rw [show ((j : Int) + 1).toNat = j + 1 by omega]
    exact h
  · omega
theorem JF.done (h : JF all old c T c.length s la) : T = decide (0 < s) := by
  rcases h with ⟨rfl, _, h⟩ | ⟨_, h⟩
  · rw [List.drop_of_length_le (Nat.le_refl _)] at h
    exact h.symm
  · rw [List.drop_of_length_le (Nat.le_refl _)] at h
    rw [← h]
    exact Bool.and_true _
end
set_option maxHeartbeats 4000000 in
theorem follows_any (c : List Int) (ao : Option Addr) (cap i b : Nat) (L : List (List Int)) (w : World) (hi : i < L.length) (hN : NLI w ao cap c) (hM : Mt w b L L.flatten) (hL : L.flatten.Nodup) (hc : ∀ i j (hi : i < c.length) (hj : j < c.length), c[i] = c[j] → i = j) (hl : c.length ≤ 255) :
    Calls Try.prog 113 #[.slice ao c.length cap, .int .i64 i, .map (some b)] w fun e w' => e = .returned (.bool (seqB (unitsR L) L[i] c L[i] false)) ∧ Below w.heap.size w w' := by
  obtain ⟨D, hD, hMs⟩ := hM
  have HD := Lib.hid hD
  have HMS := Lib.hid hMs
  have HNN := Lib.hid hN
  have hl' : (c.length : Int) ≤ 255 := by omega
  have HU := Lib.hid (fun a b ha hb => @row_one L hL i a b hi ha hb)
  have HF := Lib.hid (fun (a b x y : Nat) ha hb hx hy => @flat_one L hL a b x y ha hb hx hy)
  have HS := Lib.hid (JF.start (rfl : seqB (unitsR L) L[i] c L[i] false = _))
  have HALL := Lib.hid (fun u => (unitsR_mem L u))
  have HIN := Lib.hid (fun u (h : u ∈ L[i]) => show u ∈ L.flatten from List.mem_flatten.2 ⟨_, List.getElem_mem hi, h⟩)
  have HC := Lib.hid hc
  clear hD hMs hN hc hL
  generalize seqB (unitsR L) L[i] c L[i] false = T at *
  generalize unitsR L = all at *
  go_enter Try.func113, Try.ntmps113
  go_wp2_with fail
  go_loopw [7, 8, 15] (fun st la at' wr => ∃ (k s : Nat) (l : Int), at' = .int .i64 k ∧ st = .int .i64 s ∧ la = .int .i64 l ∧ k ≤ c.length ∧ s ≤ k ∧ Hid (JF all L[i] c T k s l) ∧ Hid (Below w.heap.size w wr)) (fun _ _ at' _ => c.length - (intOf at').toNat)
  case atStart => exact ⟨0, 0, -1, rfl, rfl, rfl, Nat.zero_le _, Nat.le_refl _, HS, Lib.hid (Below.refl _ _)⟩
  case round =>
    obtain ⟨k, s, l, rfl, rfl, rfl, hk, hsk, HJ, HB⟩ := hrel
    by_cases hlt : k < c.length
    · obtain ⟨bk, off, hai, c0⟩ := (HNN.out.below HB.out).at k hlt
      have HWF := Lib.hid (HNN.out.wf _ (List.getElem_mem hlt))
      subst hai
      have k0 : (k : Int) < (c.length : Int) := by omega
      have HDW := Lib.hid (owns_below HD.out HB.out)
      have HB1 := Lib.hid (fun x => HB.out.alloc HB.out.size x)
      by_cases hin : c[k] ∈ L.flatten
      · have HA := Lib.hid ((HALL.out c[k]).2 hin)
        have HH := Lib.hid ((HMS.out.hs _ HWF.out).trans (decide_eq_true hin))
        obtain ⟨i0, j0, hi0, hj0, e0, hat⟩ := HMS.out.spot _ hin
        have HAT := Lib.hid hat
        clear hat hin
        by_cases hii : i0 = i
        · subst hii
          have d1 : ((i0 : Int) != (i0 : Int)) = false := by simp
          by_cases hjl : (j0 : Int) < l
          · have d2 : decide ((j0 : Int) < l) = true := decide_eq_true hjl
            have HX := Lib.hid (show T = false from by
              by_cases hs : s = k
              · exact HJ.out.back HU.out hlt hj0 e0 hjl hs
              · exact HJ.out.gap hlt hs HA.out)
            clear e0
            generalize c[k] = u at *
            go_wp2_with (at_lookup; refine lookup_in rfl _ _ rfl rfl HDW.out rfl HWF.out HH.out HAT.out ?_)
            go_ret
            rw [HX.out]
            exact ⟨rfl, HB1.out _⟩
          have d2 : decide ((j0 : Int) < l) = false := decide_eq_false hjl
          by_cases hs : s = k
          · have HJ2 := Lib.hid (HJ.out.on HU.out HC.out hlt hj0 e0 hjl hs)
            have d3 : ((k : Int) != (s : Int)) = false := by simp [hs]
            clear e0 hjl hs
            generalize c[k] = u at *
            go_wp2_with (at_lookup; refine lookup_in rfl _ _ rfl rfl HDW.out rfl HWF.out HH.out HAT.out ?_)
            go_quiet (fail)
            go_wp2_with fail
            go_roundw
            case rel => exact ⟨k + 1, s + 1, j0, by go_num, by go_num, rfl, by omega, by omega, HJ2, Lib.hid (below_drewN (HB1.out _) _)⟩
            case measure => simp [intOf]; omega
          · have HX := Lib.hid (HJ.out.gap hlt hs HA.out)
            have d3 : ((k : Int) != (s : Int)) = true := bne_iff_ne.2 (by omega)
            clear e0 hjl hs
            generalize c[k] = u at *
            go_wp2_with (at_lookup; refine lookup_in rfl _ _ rfl rfl HDW.out rfl HWF.out HH.out HAT.out ?_)
            go_ret
            rw [HX.out]
            exact ⟨rfl, HB1.out _⟩
        · have d1 : ((i0 : Int) != (i : Int)) = true := bne_iff_ne.2 (by omega)
          have HX := Lib.hid (HJ.out.other hlt (fun hm => by
            obtain ⟨j, hj, e⟩ := List.getElem_of_mem hm
            exact hii (HF.out _ _ _ _ hi0 hj0 hi hj (e0.trans e.symm)).1) HA.out)
          clear e0 hii
          generalize c[k] = u at *
          go_wp2_with (at_lookup; refine lookup_in rfl _ _ rfl rfl HDW.out rfl HWF.out HH.out HAT.out ?_)
          go_ret
          rw [HX.out]
          exact ⟨rfl, HB1.out _⟩
      · have HJ2 := Lib.hid (HJ.out.out hlt (fun h => hin (HIN.out _ h)) (fun h => hin ((HALL.out c[k]).1 h)))
        have HH := Lib.hid ((HMS.out.hs _ HWF.out).trans (decide_eq_false hin))
        clear hin
        generalize c[k] = u at *
        go_wp2_with (at_lookup; refine lookup_out rfl _ _ rfl rfl HDW.out rfl HWF.out HH.out ?_)
        go_roundw
        case rel => exact ⟨k + 1, s, l, by go_num, rfl, rfl, by omega, by omega, HJ2, Lib.hid (HB1.out _)⟩
        case measure => simp [intOf]; omega
    · obtain rfl : k = c.length := by omega
      have HX := Lib.hid HJ.out.done
      go_wp2_with fail
      go_ret
      rw [HX.out]
      exact ⟨rfl, HB.out⟩
end Go.Proofs.Ytphigibhgldnpaa
namespace Go.Proofs.Ytphigibhgldnpaa
set_option linter.unusedVariables false
open Go.RowKit
set_option maxRecDepth 20000
theorem six_cells {w : World} {b : Nat} {v0 v1 v2 v3 v4 v5 : Value} {t : TypeId} (h : w.heap[b]? = some (.cells #[v0, v1, v2, v3, v4, v5] t (0, 0))) :
    (w.cell? ⟨b, 0, none⟩ = some v0 ∧ w.cell? ⟨b, 1, none⟩ = some v1 ∧ w.cell? ⟨b, 2, none⟩ = some v2 ∧ w.cell? ⟨b, 3, none⟩ = some v3 ∧ w.cell? ⟨b, 4, none⟩ = some v4 ∧ w.cell? ⟨b, 5, none⟩ = some v5) ∧
    w.frozen? ⟨b, 0, none⟩ = false ∧ w.frozen? ⟨b, 1, none⟩ = false ∧ w.frozen? ⟨b, 2, none⟩ = false ∧ w.frozen? ⟨b, 3, none⟩ = false ∧ w.frozen? ⟨b, 4, none⟩ = false ∧ w.frozen? ⟨b, 5, none⟩ = false :=
  ⟨⟨cell_of h 0, cell_of h 1, cell_of h 2, cell_of h 3, cell_of h 4, cell_of h 5⟩, free_of h 0, free_of h 1, free_of h 2, free_of h 3, free_of h 4, free_of h 5⟩
/-- what the document's layout's cells hold -/
theorem RL.open {r : Nat} {G : Nat → Prop} {w : World} {y : Ly} (h : RL r G w y) : ∃ ao cap bo cb, w.heap[r]? = some (.cells #[.int .i64 y.ep, .slice ao y.L.length cap, .slice bo y.used.length cb, .int .i64 y.mark, .int .i64 y.size, .int .i64 y.n] 0 (0, 0)) ∧ CL w ao y.L ∧ NLI w bo cb y.used ∧ goodB y.ep y.L = true := by
  obtain ⟨⟨k, hk⟩, _, v, u, F, h2, h3, h4, _⟩ := h
  obtain ⟨ao, cap, rfl, h5, _⟩ := h3.cl
  obtain ⟨bo, cb, rfl, h6, _⟩ := h4
  exact ⟨ao, cap, bo, cb, h2, h5, h6, hk.good⟩
theorem good_small {ep : Int} {L : List (List Int)} (h : goodB ep L = true) : L.length ≤ 255 ∧ ∀ c ∈ L, c.length ≤ 255 := by
  obtain ⟨_, h2, h3, _⟩ := goodB_iff.1 h
  exact ⟨by omega, fun c hc => by have := (chainB_iff.1 (h3 c hc)).1; omega⟩
end Go.Proofs.Ytphigibhgldnpaa
