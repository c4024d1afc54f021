/- What the program's own 'follows' returns: may a chain stand behind the one that stood there? Conditions: the chain lies where the call was told; no unit stands twice in it, nor in the projection ahead; the map is of that projection. What the library's Sort makes of a row of numbers of the call's own, and what the program's own Units returns. Conditions: the projection lies where the call was told, and is not too large. Many things in memory, each of them in blocks of its own: what a call of the one leaves of the others. Conditions: as each statement says. -/
import Derived.Test.YtphigibhgldnpaaGreatG13b
import Derived.Test.YtphigibhgldnpaaGreatG13a
import Derived.Test.YtphigibhgldnpaaGreatG04a
import Derived.Test.YtphigibhgldnpaaGreatShelf
import Derived.Test.YtphigibhgldnpaaGreatG13c
set_option linter.unusedVariables false
namespace Go.Proofs.YtphigibhgldnpaaGreat
open Go.RowKit Go.Maps
set_option maxRecDepth 20000
/-- the map's datum is D -/
theorem owns_below {w w' : World} {b n : Nat} {D : DataW Unit} (h : w.ownsMap Tryz.prog 134 spotR b n D) (hb : Below w.heap.size w w') : w'.ownsMap Tryz.prog 134 spotR b n D := by
  obtain ⟨es, clock, h1, h2⟩ := h
  exact ⟨es, clock, below_heap hb h1, h2⟩
section
variable {w : World} {ops : Array Oper} {rest : List Oper} {o : Oper} {a : Act} {Q : Exit → Act → World → Prop}
theorem lookup_in (hg : o.guard = none) (m x : Operand) (hop : o.op = Op.lookup 125 m x true) {b n : Nat} {D : DataW Unit} (hm : a.eval m = .map (some b)) (hown : w.ownsMap Tryz.prog 134 spotR b n D)
    {u i j : Int} (hx : a.eval x = .agg #[.int .i64 u]) (hu : (Lit.int .i64 u).wf = true) (hh : Maps.has D (klU u) = true) (hat : ∀ zd, D.atKey (klU u) zd = spotD i j)
    (hK : wpList Tryz.prog ops Q rest (a.put o.dst (.tuple #[.agg #[.int .i64 i, .int .i64 j], .bool true])) w) : wpList Tryz.prog ops Q (o :: rest) a w :=
  wpList_lookup_own_ok w hg m x _ hop 134 132 unit_law Tryz.underlying125 spotR (zero_spot w) (spotD 0 0) [] (spotR_mk 0 0) b n D hm hown _ _ hx (unit_key u hu) (fun v ps hv => by
    obtain ⟨i2, j2, rfl, e⟩ := spotR_inv hv
    have e1 := congrArg Prod.fst e
    simp only [hat] at e1
    obtain ⟨rfl, rfl⟩ := spotD_inj e1
    rw [hh]
    exact hK)
theorem lookup_out (hg : o.guard = none) (m x : Operand) (hop : o.op = Op.lookup 125 m x true) {b n : Nat} {D : DataW Unit} (hm : a.eval m = .map (some b)) (hown : w.ownsMap Tryz.prog 134 spotR b n D)
    {u : Int} (hx : a.eval x = .agg #[.int .i64 u]) (hu : (Lit.int .i64 u).wf = true) (hh : Maps.has D (klU u) = false)
    (hK : wpList Tryz.prog ops Q rest (a.put o.dst (.tuple #[.agg #[.int .i64 0, .int .i64 0], .bool false])) w) : wpList Tryz.prog ops Q (o :: rest) a w :=
  wpList_lookup_own_ok w hg m x _ hop 134 132 unit_law Tryz.underlying125 spotR (zero_spot w) (spotD 0 0) [] (spotR_mk 0 0) b n D hm hown _ _ hx (unit_key u hu) (fun v ps hv => by
    obtain ⟨i2, j2, rfl, e⟩ := spotR_inv hv
    have e1 := congrArg Prod.fst e
    simp only [atKey_of_not_has hh] at e1
    obtain ⟨rfl, rfl⟩ := spotD_inj e1
    rw [hh]
    exact hK)
end
theorem mem_preU {L : List (List Int)} {n k i j : Nat} (hi : i < L.length) (hj : j < L[i].length) (h : i < n ∨ (i = n ∧ j < k)) : L[i][j] ∈ preU L n k := by
  unfold preU
  rcases h with h | ⟨rfl, h⟩
  · refine List.mem_append_left _ (List.mem_flatten.2 ⟨L[i], ?_, List.getElem_mem hj⟩)
    rw [List.mem_take_iff_getElem]
    exact ⟨i, by omega, rfl⟩
  · refine List.mem_append_right _ ?_
    rw [show L.getD i [] = L[i] by simp [hi], List.mem_take_iff_getElem]
    exact ⟨j, by omega, rfl⟩
/-- each unit stands in one place alone -/
theorem flat_one {L : List (List Int)} (h : L.flatten.Nodup) {i j n k : Nat} (hi : i < L.length) (hj : j < L[i].length) (hn : n < L.length) (hk : k < L[n].length) (e : L[i][j] = L[n][k]) : i = n ∧ j = k := by
  by_cases h1 : i < n ∨ (i = n ∧ j < k)
  · exact absurd (e ▸ mem_preU hi hj h1) (preU_nodup h hn hk)
  · by_cases h2 : n < i ∨ (n = i ∧ k < j)
    · exact absurd (e ▸ mem_preU hn hk h2) (preU_nodup h hi hj)
    · omega
/-- a chain's units stand in one place each -/
theorem row_one {L : List (List Int)} (h : L.flatten.Nodup) {n j k : Nat} (hn : n < L.length) (hj : j < L[n].length) (hk : k < L[n].length) (e : L[n][j] = L[n][k]) : j = k := (flat_one h hn hj hn hk e).2
/-- what is still to be told of a chain, at its k-th unit: s of them stayed, the last of them stood at la -/
def JF (all old c : List Int) (T : Bool) (k s : Nat) (la : Int) : Prop :=
  (s = k ∧ ((k = 0 ∧ la = -1) ∨ ∃ (p : Nat) (hp : p < old.length) (hk : k - 1 < c.length), 0 < k ∧ la = p ∧ old[p] = c[k - 1]) ∧ seqB all old (c.drop k) (old.drop (la + 1).toNat) (decide (0 < k)) = T) ∨
  (s < k ∧ (decide (0 < s) && outB all (c.drop k)) = T)
section
variable {all old c : List Int} {T : Bool} {k s : Nat} {la : Int}
theorem JF.start (h : seqB all old c old false = T) : JF all old c T 0 0 (-1) := .inl ⟨rfl, .inl ⟨rfl, rfl⟩, h⟩
theorem seq_not {rest : List Int} {m : Bool} (hk : k < c.length) (h : c[k] ∉ old) : seqB all old (c.drop k) rest m = (m && outB all (c.drop k)) := by
  rw [List.drop_eq_getElem_cons hk]
  show (if c[k] ∈ old then _ else _) = _
  rw [if_neg h]
  rfl
theorem JF.out (h : JF all old c T k s la) (hk : k < c.length) (h1 : c[k] ∉ old) (h2 : c[k] ∉ all) : JF all old c T (k + 1) s la := by
  rcases h with ⟨rfl, _, h⟩ | ⟨h3, h⟩
  · rw [seq_not hk h1, out_step hk h2] at h
    exact .inr ⟨by omega, h⟩
  · rw [out_step hk h2] at h
    exact .inr ⟨by omega, h⟩
theorem JF.other (h : JF all old c T k s la) (hk : k < c.length) (h1 : c[k] ∉ old) (h2 : c[k] ∈ all) : T = false := by
  rcases h with ⟨rfl, _, h⟩ | ⟨h3, h⟩
  · rw [seq_not hk h1, out_no hk h2] at h
    simpa using h.symm
  · rw [out_no hk h2] at h
    simpa using h.symm
theorem JF.gap (h : JF all old c T k s la) (hk : k < c.length) (h1 : s ≠ k) (h2 : c[k] ∈ all) : T = false := by
  rcases h with ⟨h3, _⟩ | ⟨h3, h⟩
  · exact absurd h3 h1
  · rw [out_no hk h2] at h
    simpa using h.symm
theorem drop_none {l : List Int} {u : Int} (h : u ∉ l) : l.dropWhile (fun t => t != u) = [] := by
  induction l with
  | nil => rfl
  | cons x l ih =>
    rw [List.mem_cons, not_or] at h
    have e : (fun t => t != u) x = true := bne_iff_ne.2 fun e => h.1 e.symm
    exact (List.dropWhile_cons_of_pos (p := fun t => t != u) (a := x) (l := l) e).trans (ih h.2)
theorem JF.back (h : JF all old c T k s la) (hu : ∀ i j (hi : i < old.length) (hj : j < old.length), old[i] = old[j] → i = j) (hk : k < c.length) {j : Nat} (hj : j < old.length) (he : old[j] = c[k]) (hl : (j : Int) < la) (hs : s = k) : T = false := by
  subst hs
  rcases h with ⟨_, h1, h⟩ | ⟨h3, h⟩
  · rcases h1 with ⟨_, rfl⟩ | ⟨p, hp, hk1, _, rfl, _⟩
    · omega
    · rw [seq_lost hk (he ▸ List.getElem_mem hj) (drop_none _)] at h
      · exact h.symm
      · intro hm
        obtain ⟨x, hx, e⟩ := List.getElem_of_mem hm
        rw [List.length_drop] at hx
        rw [List.getElem_drop, ← he] at e
        have := hu _ _ _ _ e
        omega
  · omega
theorem drop_found {l : List Int} {a j : Nat} (hu : ∀ i j (hi : i < l.length) (hj : j < l.length), l[i] = l[j] → i = j) (hj : j < l.length) (h : a ≤ j) : (l.drop a).dropWhile (fun t => t != l[j]) = l[j] :: l.drop (j + 1) := by
  induction hd : j - a generalizing a with
  | zero =>
    obtain rfl : a = j := by omega
    exact drop_stop hj (by simp)
  | succ d ih =>
    have ha : a < l.length := by omega
    rw [drop_at ha (by rw [bne_iff_ne]; intro e; have := hu _ _ _ _ e; omega)]
    exact ih (by omega) (by omega)
theorem JF.on (h : JF all old c T k s la) (hu : ∀ i j (hi : i < old.length) (hj : j < old.length), old[i] = old[j] → i = j) (hc : ∀ i j (hi : i < c.length) (hj : j < c.length), c[i] = c[j] → i = j) (hk : k < c.length) {j : Nat} (hj : j < old.length) (he : old[j] = c[k]) (hl : ¬ (j : Int) < la) (hs : s = k) :
    JF all old c T (k + 1) (s + 1) j := by
  subst hs
  rcases h with ⟨_, h1, h⟩ | ⟨h3, h⟩
  · have hla : (la + 1).toNat ≤ j := by
      rcases h1 with ⟨_, rfl⟩ | ⟨p, hp, hk1, hk0, rfl, e⟩
      · omega
      · have : p ≠ j := by
          rintro rfl
          have := hc _ _ _ _ (e.symm.trans he)
          omega
        omega
    have hf := drop_found hu hj hla
    rw [he] at hf
    rw [seq_found hk (he ▸ List.getElem_mem hj) hf] at h
    refine .inl ⟨rfl, .inr ⟨j, hj, by simpa using hk, by omega, rfl, by simpa using he⟩, ?_⟩
    rw [show ((j : Int) + 1).toNat = j + 1 by omega]
    exact h
  · omega
theorem JF.done (h : JF all old c T c.length s la) : T = decide (0 < s) := by
  rcases h with ⟨rfl, _, h⟩ | ⟨_, h⟩
  · rw [List.drop_of_length_le (Nat.le_refl _)] at h
    exact h.symm
  · rw [List.drop_of_length_le (Nat.le_refl _)] at h
    rw [← h]
    exact Bool.and_true _
end
set_option maxHeartbeats 4000000 in
theorem follows_any (c : List Int) (ao : Option Addr) (cap i b : Nat) (L : List (List Int)) (w : World) (hi : i < L.length) (hN : NLI w ao cap c) (hM : Mt w b L L.flatten) (hL : L.flatten.Nodup) (hc : ∀ i j (hi : i < c.length) (hj : j < c.length), c[i] = c[j] → i = j) (hl : c.length ≤ 255) :
    Calls Tryz.prog 139 #[.slice ao c.length cap, .int .i64 i, .map (some b)] w fun e w' => e = .returned (.bool (seqB (unitsR L) L[i] c L[i] false)) ∧ Below w.heap.size w w' := by
  obtain ⟨D, hD, hMs⟩ := hM
  have HD := Lib.hid hD
  have HMS := Lib.hid hMs
  have HNN := Lib.hid hN
  have hl' : (c.length : Int) ≤ 255 := by omega
  have HU := Lib.hid (fun a b ha hb => @row_one L hL i a b hi ha hb)
  have HF := Lib.hid (fun (a b x y : Nat) ha hb hx hy => @flat_one L hL a b x y ha hb hx hy)
  have HS := Lib.hid (JF.start (rfl : seqB (unitsR L) L[i] c L[i] false = _))
  have HALL := Lib.hid (fun u => (unitsR_mem L u))
  have HIN := Lib.hid (fun u (h : u ∈ L[i]) => show u ∈ L.flatten from List.mem_flatten.2 ⟨_, List.getElem_mem hi, h⟩)
  have HC := Lib.hid hc
  clear hD hMs hN hc hL
  generalize seqB (unitsR L) L[i] c L[i] false = T at *
  generalize unitsR L = all at *
  go_enter Tryz.func139, Tryz.ntmps139
  go_wp2_with fail
  go_loopw [7, 8, 15] (fun st la at' wr => ∃ (k s : Nat) (l : Int), at' = .int .i64 k ∧ st = .int .i64 s ∧ la = .int .i64 l ∧ k ≤ c.length ∧ s ≤ k ∧ Hid (JF all L[i] c T k s l) ∧ Hid (Below w.heap.size w wr)) (fun _ _ at' _ => c.length - (intOf at').toNat)
  case atStart => exact ⟨0, 0, -1, rfl, rfl, rfl, Nat.zero_le _, Nat.le_refl _, HS, Lib.hid (Below.refl _ _)⟩
  case round =>
    obtain ⟨k, s, l, rfl, rfl, rfl, hk, hsk, HJ, HB⟩ := hrel
    by_cases hlt : k < c.length
    · obtain ⟨bk, off, hai, c0⟩ := (HNN.out.below HB.out).at k hlt
      have HWF := Lib.hid (HNN.out.wf _ (List.getElem_mem hlt))
      subst hai
      have k0 : (k : Int) < (c.length : Int) := by omega
      have HDW := Lib.hid (owns_below HD.out HB.out)
      have HB1 := Lib.hid (fun x => HB.out.alloc HB.out.size x)
      by_cases hin : c[k] ∈ L.flatten
      · have HA := Lib.hid ((HALL.out c[k]).2 hin)
        have HH := Lib.hid ((HMS.out.hs _ HWF.out).trans (decide_eq_true hin))
        obtain ⟨i0, j0, hi0, hj0, e0, hat⟩ := HMS.out.spot _ hin
        have HAT := Lib.hid hat
        clear hat hin
        by_cases hii : i0 = i
        · subst hii
          have d1 : ((i0 : Int) != (i0 : Int)) = false := by simp
          by_cases hjl : (j0 : Int) < l
          · have d2 : decide ((j0 : Int) < l) = true := decide_eq_true hjl
            have HX := Lib.hid (show T = false from by
              by_cases hs : s = k
              · exact HJ.out.back HU.out hlt hj0 e0 hjl hs
              · exact HJ.out.gap hlt hs HA.out)
            clear e0
            generalize c[k] = u at *
            go_wp2_with (at_lookup; refine lookup_in rfl _ _ rfl rfl HDW.out rfl HWF.out HH.out HAT.out ?_)
            go_ret
            rw [HX.out]
            exact ⟨rfl, HB1.out _⟩
          have d2 : decide ((j0 : Int) < l) = false := decide_eq_false hjl
          by_cases hs : s = k
          · have HJ2 := Lib.hid (HJ.out.on HU.out HC.out hlt hj0 e0 hjl hs)
            have d3 : ((k : Int) != (s : Int)) = false := by simp [hs]
            clear e0 hjl hs
            generalize c[k] = u at *
            go_wp2_with (at_lookup; refine lookup_in rfl _ _ rfl rfl HDW.out rfl HWF.out HH.out HAT.out ?_)
            go_quiet (fail)
            go_wp2_with fail
            go_roundw
            case rel => exact ⟨k + 1, s + 1, j0, by go_num, by go_num, rfl, by omega, by omega, HJ2, Lib.hid (below_drewN (HB1.out _) _)⟩
            case measure => simp [intOf]; omega
          · have HX := Lib.hid (HJ.out.gap hlt hs HA.out)
            have d3 : ((k : Int) != (s : Int)) = true := bne_iff_ne.2 (by omega)
            clear e0 hjl hs
            generalize c[k] = u at *
            go_wp2_with (at_lookup; refine lookup_in rfl _ _ rfl rfl HDW.out rfl HWF.out HH.out HAT.out ?_)
            go_ret
            rw [HX.out]
            exact ⟨rfl, HB1.out _⟩
        · have d1 : ((i0 : Int) != (i : Int)) = true := bne_iff_ne.2 (by omega)
          have HX := Lib.hid (HJ.out.other hlt (fun hm => by
            obtain ⟨j, hj, e⟩ := List.getElem_of_mem hm
            exact hii (HF.out _ _ _ _ hi0 hj0 hi hj (e0.trans e.symm)).1) HA.out)
          clear e0 hii
          generalize c[k] = u at *
          go_wp2_with (at_lookup; refine lookup_in rfl _ _ rfl rfl HDW.out rfl HWF.out HH.out HAT.out ?_)
          go_ret
          rw [HX.out]
          exact ⟨rfl, HB1.out _⟩
      · have HJ2 := Lib.hid (HJ.out.out hlt (fun h => hin (HIN.out _ h)) (fun h => hin ((HALL.out c[k]).1 h)))
        have HH := Lib.hid ((HMS.out.hs _ HWF.out).trans (decide_eq_false hin))
        clear hin
        generalize c[k] = u at *
        go_wp2_with (at_lookup; refine lookup_out rfl _ _ rfl rfl HDW.out rfl HWF.out HH.out ?_)
        go_roundw
        case rel => exact ⟨k + 1, s, l, by go_num, rfl, rfl, by omega, by omega, HJ2, Lib.hid (HB1.out _)⟩
        case measure => simp [intOf]; omega
    · obtain rfl : k = c.length := by omega
      have HX := Lib.hid HJ.out.done
      go_wp2_with fail
      go_ret
      rw [HX.out]
      exact ⟨rfl, HB.out⟩
end Go.Proofs.YtphigibhgldnpaaGreat
namespace Go.Proofs.YtphigibhgldnpaaGreat
open Go.RowKit Go.Maps
set_option maxRecDepth 20000
theorem unit_inv {v : Value} {kl : Lit} (h : keyOf Tryz.prog 134 v = some kl) : ∃ u, v = .agg #[.int .i64 u] ∧ (Lit.int .i64 u).wf = true := by
  obtain ⟨n, hn⟩ := types_succ
  exact key_one_inv Tryz.underlying134 (by kernel_rfl) (by rfl) rfl (by kernel_rfl) Tryz.underlying3 (by kernel_rfl) hn h
/-- the units that were met, and those that are still to come -/
def Coll (S : List Int) (left : Lit → Bool) (l : List Int) : Prop := l.Nodup ∧ ∀ u, (Lit.int .i64 u).wf = true → (u ∈ l ↔ u ∈ S ∧ left (klU u) = false)
theorem Coll.start {L : List (List Int)} {D : DataW Unit} {S : List Int} (h : Ms L D S) : Coll S (Maps.has D) [] := by
  refine ⟨List.Pairwise.nil, fun u hu => ?_⟩
  rw [h.hs u hu]
  simp
theorem Coll.step {L : List (List Int)} {D : DataW Unit} {S l : List Int} {left : Lit → Bool} (hM : Ms L D S) (h : Coll S left l) {u : Int} {y : DataW Unit} (hu : (Lit.int .i64 u).wf = true) (hl : left (klU u) = true) (hat : ∀ z, D.atKey (klU u) z = y) :
    Coll S (fun z => left z && !z.sameKey (klU u)) (l ++ [u]) := by
  have hS : u ∈ S := by
    have h1 := has_true_of_atKey hat
    rw [hM.hs u hu] at h1
    exact of_decide_eq_true h1
  have hn : u ∉ l := by
    intro hm
    have := ((h.2 u hu).1 hm).2
    rw [hl] at this
    cases this
  refine ⟨nodup_snoc h.1 hn, fun v hv => ?_⟩
  rw [List.mem_append, List.mem_singleton]
  by_cases e : v = u
  · subst e
    simp [hS, WideAt.sameKey_self (klU_key hu)]
  · show v ∈ l ∨ v = u ↔ v ∈ S ∧ (left (klU v) && !(klU v).sameKey (klU u)) = false
    rw [h.2 v hv, sameKey_ne (fun e2 => e (klU_inj hv hu e2))]
    simp [e]
theorem Coll.done {S l : List Int} {left : Lit → Bool} (h : Coll S left l) (h0 : ∀ z, left z = false) (hS : ∀ u ∈ S, (Lit.int .i64 u).wf = true) (hl : ∀ u ∈ l, (Lit.int .i64 u).wf = true) : ∀ u, u ∈ l ↔ u ∈ S := by
  intro u
  constructor
  · intro hu
    exact ((h.2 u (hl u hu)).1 hu).1
  · intro hu
    exact (h.2 u (hS u hu)).2 ⟨hu, h0 _⟩
theorem sort_units {L : List (List Int)} {l : List Int} (hn : l.Nodup) (hm : ∀ u, u ∈ l ↔ u ∈ L.flatten) : l.mergeSort (fun x y => decide (x ≤ y)) = unitsR L := by
  have hp := List.mergeSort_perm l (fun x y => decide (x ≤ y))
  refine unitsR_of ?_ (fun x => (hp.mem_iff).trans (hm x))
  have h1 : (l.mergeSort (fun x y => decide (x ≤ y))).Pairwise (fun a b => decide (a ≤ b) = true) := List.pairwise_mergeSort (fun a b c h1 h2 => by simp at *; omega) (fun a b => by simp; omega) l
  have h2 : (l.mergeSort (fun x y => decide (x ≤ y))).Nodup := hp.symm.nodup hn
  unfold Rises
  exact (h1.and h2).imp (fun {a b} h => by have h3 := of_decide_eq_true h.1; have h4 : a ≠ b := h.2; omega)
theorem grown_sorted {w : World} {g n : Nat} {os : Array Obj} (d : Array Int) : w.grownBy (Sort.grow (Sort.putRow (Value.int .i64) (Sort.ahead w n) g 0 d) os) (some g) := by
  refine ⟨rfl, rfl, rfl, by simp, fun k hk hne => ?_⟩
  rw [Sort.heap_grow_old _ _ (by simpa using hk)]
  have : g ≠ k := fun e => hne (by rw [e])
  simp [Sort.putRow, Sort.mapBlock, Sort.ahead, Array.getElem?_modify, this]
theorem sort_ownO {w : World} {B : Nat} {v : Value} {l : List Int} (h : OI w B v l) (hl : l.length ≤ 1000000) (hB : B ≤ w.heap.size) :
    Calls Tryz.prog 74 #[v] w fun e w' => e = .returned (.tuple #[]) ∧ OI w' B v (l.mergeSort fun x y => decide (x ≤ y)) ∧ Below B w w' := by
  have hw : wfL (l.mergeSort fun x y => decide (x ≤ y)) := fun u hu => h.2 u ((List.mergeSort_perm l _).mem_iff.1 hu)
  rcases h.1.2 with ⟨rfl, h0⟩ | ⟨g, cap, cur, rfl, hbg, hh, hnc, hcm, hcs, ht⟩
  · have : l = [] := List.eq_nil_of_length_eq_zero h0
    subst this
    refine (Tryz.slices_Sort_int_none none 0 w).mono ?_
    rintro e w' ⟨rfl, rfl⟩
    exact ⟨rfl, by rw [show ([] : List Int).mergeSort (fun x y => decide (x ≤ y)) = [] from by simp]; exact OI.nil _ _, Below.refl _ _⟩
  · have hg := lt_of_block hh
    have hH : Sort.Holds (Value.int .i64) w g 0 l.toArray := by
      intro j hj
      have hj' : j < l.length := by simpa using hj
      obtain ⟨bk, off, e1, e2⟩ := (show NLI w (some ⟨g, 0, none⟩) cap l from by obtain ⟨a, c, e, hN, _⟩ := h.form; cases e; exact hN).at j hj'
      cases e1
      exact ⟨by rw [e2]; simp [hj'], by simp [World.frozen?, hh]⟩
    refine (Tryz.slices_Sort_int g 0 cap l w hH hg (by omega)).mono ?_
    rintro e w' ⟨rfl, n, os, rfl⟩
    generalize hs : (l.mergeSort fun x y => decide (x ≤ y)) = s at *
    have hlen : s.length = l.length := by rw [← hs]; exact (List.mergeSort_perm l _).length_eq
    have hb : Below B w (Sort.grow (Sort.putRow (Value.int .i64) (Sort.ahead w n) g 0 s.toArray) os) := (Below.refl B w).grown (grown_sorted _) hB (fun k e => by cases e; exact hbg)
    have hx : (Sort.grow (Sort.putRow (Value.int .i64) (Sort.ahead w n) g 0 s.toArray) os).heap[g]? = some (.cells (Sort.putCells (Value.int .i64) 0 s.toArray cur) 3 (0, 0)) := by
      rw [Sort.heap_grow_old _ _ (by simpa [Sort.putRow, Sort.mapBlock, Sort.ahead] using hg)]
      simp [Sort.putRow, Sort.mapBlock, Sort.ahead, Array.getElem?_modify, hh, Sort.onCells]
    refine ⟨rfl, ⟨⟨by simp, .inr ⟨g, cap, Sort.putCells (Value.int .i64) 0 s.toArray cur, by rw [hlen], hbg, hx, by omega, hcm, by simpa [Sort.putCells] using hcs, ?_⟩⟩, hw⟩, hb⟩
    apply List.ext_getElem?
    intro i
    by_cases hi : i < s.length
    · have hc : i < cur.size := by omega
      rw [List.getElem?_take, if_pos (by omega), List.getElem?_map, List.getElem?_eq_getElem hi]
      simp [Sort.putCells, hc, hi]
    · rw [List.getElem?_take, if_neg (by omega), List.getElem?_map, List.getElem?_eq_none (by omega)]
      rfl
theorem sort_own {w : World} {B : Nat} {v : Value} {l : List Int} (h : OI w B v l) (hl : l.length ≤ 1000000) (hB : B ≤ w.heap.size) :
    Calls Tryz.prog 74 #[v] w fun e w' => e = .returned (.tuple #[]) ∧ ∃ bo cb, v = .slice bo l.length cb ∧ NLI w' bo cb (l.mergeSort fun x y => decide (x ≤ y)) ∧ Below B w w' := by
  refine (sort_ownO h hl hB).mono ?_
  rintro e w' ⟨rfl, hO, hb⟩
  obtain ⟨bo, cb, e, hN, _⟩ := hO.form
  exact ⟨rfl, bo, cb, by rw [e, (List.mergeSort_perm l _).length_eq], hN, hb⟩
end Go.Proofs.YtphigibhgldnpaaGreat
namespace Go.Proofs.YtphigibhgldnpaaGreat
set_option linter.unusedVariables false
open Go.RowKit
set_option maxRecDepth 20000
/-- T F w: in world w a thing (of some state) lies in the blocks of F -/
structure Part (T : (Nat → Prop) → World → Prop) : Prop where
  lt : ∀ {F : Nat → Prop} {w : World}, T F w → ∀ k, F k → k < w.heap.size
  keep : ∀ {F S : Nat → Prop} {w w' : World}, T F w → Kept S w w' → (∀ k, F k → S k) → T F w'
theorem Thing.part {α : Type} {T : (Nat → Prop) → World → α → Prop} (h : Thing T) (a : α) : Part (fun F w => T F w a) := ⟨fun h1 => h.lt h1, fun h1 h2 h3 => h.keep h1 h2 h3⟩
/-- the things T 0 .. T (n - 1), in no block of X, and in none of each other's -/
def Bund (n : Nat) (T : Nat → (Nat → Prop) → World → Prop) (X : Nat → Prop) (w : World) : Prop :=
  (∀ k, X k → k < w.heap.size) ∧ ∃ F : Nat → Nat → Prop, (∀ i, i < n → T i (F i) w) ∧ (∀ i, i < n → ∀ k, X k → ¬ F i k) ∧ ∀ i j, i < n → j < n → i ≠ j → ∀ k, F i k → ¬ F j k
/-- the i-th one is another then -/
def swapP (T : Nat → (Nat → Prop) → World → Prop) (i : Nat) (U : (Nat → Prop) → World → Prop) : Nat → (Nat → Prop) → World → Prop := fun j => if j = i then U else T j
section
variable {n i : Nat} {T : Nat → (Nat → Prop) → World → Prop} {U : (Nat → Prop) → World → Prop} {X Y : Nat → Prop} {w w' : World}
theorem Bund.less (h : Bund n T X w) (hy : ∀ k, Y k → X k) : Bund n T Y w := by
  obtain ⟨h1, F, h2, h3, h4⟩ := h
  exact ⟨fun k hk => h1 k (hy k hk), F, h2, fun i hi k hk => h3 i hi k (hy k hk), h4⟩
theorem Bund.kept (hT : ∀ i, i < n → Part (T i)) (h : Bund n T X w) {S : Nat → Prop} (hk : Kept S w w') (hS : ∀ k, ¬ S k → X k) : Bund n T X w' := by
  obtain ⟨h1, F, h2, h3, h4⟩ := h
  refine ⟨fun k hx => Nat.lt_of_lt_of_le (h1 k hx) hk.size, F, fun i hi => (hT i hi).keep (h2 i hi) hk (fun k hf => ?_), h3, h4⟩
  exact Classical.byContradiction fun hn => h3 i hi k (hS k hn) hf
theorem Bund.below (hT : ∀ i, i < n → Part (T i)) (h : Bund n T X w) (hb : Below w.heap.size w w') : Bund n T X w' :=
  h.kept hT (Kept.ofBelow hb (fun _ => True)) (fun k hn => absurd trivial hn)
theorem Bund.wider (hT : ∀ i, i < n → Part (T i)) (h : Bund n T X w) (hb : Below w.heap.size w w') : Bund n T (fun k => X k ∨ (w.heap.size ≤ k ∧ k < w'.heap.size)) w' := by
  have hb2 := h.below hT hb
  obtain ⟨h1, F, h2, h3, h4⟩ := h
  refine ⟨fun k hk => ?_, F, fun i hi => (hT i hi).keep (h2 i hi) (Kept.ofBelow hb (fun _ => True)) (fun _ _ => trivial), fun i hi k hk hf => ?_, h4⟩
  · rcases hk with hk | hk
    · exact Nat.lt_of_lt_of_le (h1 k hk) hb.size
    · exact hk.2
  · rcases hk with hk | hk
    · exact h3 i hi k hk hf
    · have := (hT i hi).lt (h2 i hi) k hf; omega
/-- one of them is looked at -/
theorem Bund.look (h : Bund n T X w) (hi : i < n) : ∃ F, T i F w ∧ ∀ k, X k → ¬ F k := by
  obtain ⟨h1, F, h2, h3, h4⟩ := h
  exact ⟨F i, h2 i hi, h3 i hi⟩
/-- one of them has turned, in its own blocks and new ones; C: new memory that was handed out besides -/
theorem Bund.turn (hT : ∀ i, i < n → Part (T i)) (h : Bund n T X w) (hi : i < n) {C : Nat → Prop} (hC : ∀ k, C k → w.heap.size ≤ k ∧ k < w'.heap.size)
    (hc : ∀ F : Nat → Prop, T i F w → (∀ k, X k → ¬ F k) → ∃ F' : Nat → Prop, U F' w' ∧ (∀ k, C k → ¬ F' k) ∧ Kept (fun k => ¬ F k) w w' ∧ ∀ k, F' k → F k ∨ w.heap.size ≤ k) :
    Bund n (swapP T i U) (fun k => X k ∨ C k) w' ∧ Kept X w w' := by
  obtain ⟨h1, F, h2, h3, h4⟩ := h
  obtain ⟨F', r1, r2, r3, r4⟩ := hc (F i) (h2 i hi) (h3 i hi)
  refine ⟨⟨fun k hk => ?_, fun j => if j = i then F' else F j, fun j hj => ?_, fun j hj k hk hf => ?_, fun j l hj hl hne k hf hg => ?_⟩, r3.mono (h3 i hi)⟩
  · rcases hk with hk | hk
    · exact Nat.lt_of_lt_of_le (h1 k hk) r3.size
    · exact (hC k hk).2
  · unfold swapP
    by_cases e : j = i
    · simp only [e, if_true]
      exact r1
    · simp only [e, if_false]
      exact (hT j hj).keep (h2 j hj) r3 (fun k hf hg => h4 j i hj hi e k hf hg)
  · by_cases e : j = i
    · simp only [e, if_true] at hf
      rcases hk with hk | hk
      · rcases r4 k hf with h | h
        · exact h3 i hi k hk h
        · have := h1 k hk; omega
      · exact r2 k hk hf
    · simp only [e, if_false] at hf
      rcases hk with hk | hk
      · exact h3 j hj k hk hf
      · have := (hT j hj).lt (h2 j hj) k hf
        have := (hC k hk).1
        omega
  · by_cases e : j = i
    · have e2 : l ≠ i := fun h => hne (e.trans h.symm)
      simp only [e, if_true] at hf
      simp only [e2, if_false] at hg
      rcases r4 k hf with h | h
      · exact h4 i l hi hl (fun h => e2 h.symm) k h hg
      · have := (hT l hl).lt (h2 l hl) k hg; omega
    · simp only [e, if_false] at hf
      by_cases e2 : l = i
      · simp only [e2, if_true] at hg
        rcases r4 k hg with h | h
        · exact h4 j i hj hi e k hf h
        · have := (hT j hj).lt (h2 j hj) k hf; omega
      · simp only [e2, if_false] at hg
        exact h4 j l hj hl hne k hf hg
/-- one more is made, in new memory -/
theorem Bund.more (hT : ∀ i, i < n → Part (T i)) (h : Bund n T X w) (hb : Below w.heap.size w w') {G : Nat → Prop} (hu : U G w') (hG : ∀ k, G k → w.heap.size ≤ k) : Bund (n + 1) (swapP T n U) X w' := by
  obtain ⟨h1, F, h2, h3, h4⟩ := h
  have hold : ∀ j, j < n → T j (F j) w' := fun j hj => (hT j hj).keep (h2 j hj) (Kept.ofBelow hb (fun _ => True)) (fun _ _ => trivial)
  refine ⟨fun k hk => Nat.lt_of_lt_of_le (h1 k hk) hb.size, fun j => if j = n then G else F j, fun j hj => ?_, fun j hj k hk hf => ?_, fun j l hj hl hne k hf hg => ?_⟩
  · unfold swapP
    by_cases e : j = n
    · simp only [e, if_true]
      exact hu
    · simp only [e, if_false]
      exact hold j (by omega)
  · by_cases e : j = n
    · simp only [e, if_true] at hf
      have := h1 k hk
      have := hG k hf
      omega
    · simp only [e, if_false] at hf
      exact h3 j (by omega) k hk hf
  · by_cases e : j = n
    · have e2 : l ≠ n := fun h => hne (e.trans h.symm)
      simp only [e, if_true] at hf
      simp only [e2, if_false] at hg
      have := (hT l (by omega)).lt (h2 l (by omega)) k hg
      have := hG k hf
      omega
    · simp only [e, if_false] at hf
      by_cases e2 : l = n
      · simp only [e2, if_true] at hg
        have := (hT j (by omega)).lt (h2 j (by omega)) k hf
        have := hG k hg
        omega
      · simp only [e2, if_false] at hg
        exact h4 j l (by omega) (by omega) hne k hf hg
theorem Bund.none (hX : ∀ k, X k → k < w.heap.size) : Bund 0 T X w := ⟨hX, fun _ _ => False, fun i hi => absurd hi (Nat.not_lt_zero i), fun i hi => absurd hi (Nat.not_lt_zero i), fun i j hi => absurd hi (Nat.not_lt_zero i)⟩
/-- all of them together are a thing again -/
theorem Bund.same {T2 : Nat → (Nat → Prop) → World → Prop} (h : Bund n T X w) (e : ∀ i, i < n → ∀ F W, T i F W → T2 i F W) : Bund n T2 X w := by
  obtain ⟨h1, F, h2, h3, h4⟩ := h
  exact ⟨h1, F, fun i hi => e i hi _ _ (h2 i hi), h3, h4⟩
end
end Go.Proofs.YtphigibhgldnpaaGreat
