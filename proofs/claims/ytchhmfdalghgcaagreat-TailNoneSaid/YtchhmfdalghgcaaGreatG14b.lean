/- What the program's own 'follows' returns: may a chain stand behind the one that stood there? Conditions: the chain lies where the call was told; no unit stands twice in it, nor in the projection ahead; the map is of that projection. What the program's own Tail returns; all that the laws of pages ask of the program. Conditions: the object lies where the call was told; its pages are as the calls make them. A thing and chains that a call handed out, as one thing. Conditions: as each statement says. -/
import Derived.Test.YtchhmfdalghgcaaGreatG13b
import Derived.Test.YtchhmfdalghgcaaGreatG13a
import Derived.Maps.RangeWalk
set_option linter.unusedVariables false
namespace Go.Proofs.YtchhmfdalghgcaaGreat
open Go.RowKit Go.Maps
set_option maxRecDepth 20000
/-- the map's datum is D -/
theorem owns_below {w w' : World} {b n : Nat} {D : DataW Unit} (h : w.ownsMap Tryz.prog 143 spotR b n D) (hb : Below w.heap.size w w') : w'.ownsMap Tryz.prog 143 spotR b n D := by
  obtain ⟨es, clock, h1, h2⟩ := h
  exact ⟨es, clock, below_heap hb h1, h2⟩
section
variable {w : World} {ops : Array Oper} {rest : List Oper} {o : Oper} {a : Act} {Q : Exit → Act → World → Prop}
theorem lookup_in (hg : o.guard = none) (m x : Operand) (hop : o.op = Op.lookup 112 m x true) {b n : Nat} {D : DataW Unit} (hm : a.eval m = .map (some b)) (hown : w.ownsMap Tryz.prog 143 spotR b n D)
    {u i j : Int} (hx : a.eval x = .agg #[.int .i64 u]) (hu : (Lit.int .i64 u).wf = true) (hh : Maps.has D (klU u) = true) (hat : ∀ zd, D.atKey (klU u) zd = spotD i j)
    (hK : wpList Tryz.prog ops Q rest (a.put o.dst (.tuple #[.agg #[.int .i64 i, .int .i64 j], .bool true])) w) : wpList Tryz.prog ops Q (o :: rest) a w :=
  wpList_lookup_own_ok w hg m x _ hop 143 141 unit_law Tryz.underlying112 spotR (zero_spot w) (spotD 0 0) [] (spotR_mk 0 0) b n D hm hown _ _ hx (unit_key u hu) (fun v ps hv => by
    obtain ⟨i2, j2, rfl, e⟩ := spotR_inv hv
    have e1 := congrArg Prod.fst e
    simp only [hat] at e1
    obtain ⟨rfl, rfl⟩ := spotD_inj e1
    rw [hh]
    exact hK)
theorem lookup_out (hg : o.guard = none) (m x : Operand) (hop : o.op = Op.lookup 112 m x true) {b n : Nat} {D : DataW Unit} (hm : a.eval m = .map (some b)) (hown : w.ownsMap Tryz.prog 143 spotR b n D)
    {u : Int} (hx : a.eval x = .agg #[.int .i64 u]) (hu : (Lit.int .i64 u).wf = true) (hh : Maps.has D (klU u) = false)
    (hK : wpList Tryz.prog ops Q rest (a.put o.dst (.tuple #[.agg #[.int .i64 0, .int .i64 0], .bool false])) w) : wpList Tryz.prog ops Q (o :: rest) a w :=
  wpList_lookup_own_ok w hg m x _ hop 143 141 unit_law Tryz.underlying112 spotR (zero_spot w) (spotD 0 0) [] (spotR_mk 0 0) b n D hm hown _ _ hx (unit_key u hu) (fun v ps hv => by
    obtain ⟨i2, j2, rfl, e⟩ := spotR_inv hv
    have e1 := congrArg Prod.fst e
    simp only [atKey_of_not_has hh] at e1
    obtain ⟨rfl, rfl⟩ := spotD_inj e1
    rw [hh]
    exact hK)
end
theorem mem_preU {L : List (List Int)} {n k i j : Nat} (hi : i < L.length) (hj : j < L[i].length) (h : i < n ∨ (i = n ∧ j < k)) : L[i][j] ∈ preU L n k := by
  unfold preU
  rcases h with h | ⟨rfl, h⟩
  · refine List.mem_append_left _ (List.mem_flatten.2 ⟨L[i], ?_, List.getElem_mem hj⟩)
    rw [List.mem_take_iff_getElem]
    exact ⟨i, by omega, rfl⟩
  · refine List.mem_append_right _ ?_
    rw [show L.getD i [] = L[i] by simp [hi], List.mem_take_iff_getElem]
    exact ⟨j, by omega, rfl⟩
/-- each unit stands in one place alone -/
theorem flat_one {L : List (List Int)} (h : L.flatten.Nodup) {i j n k : Nat} (hi : i < L.length) (hj : j < L[i].length) (hn : n < L.length) (hk : k < L[n].length) (e : L[i][j] = L[n][k]) : i = n ∧ j = k := by
  by_cases h1 : i < n ∨ (i = n ∧ j < k)
  · exact absurd (e ▸ mem_preU hi hj h1) (preU_nodup h hn hk)
  · by_cases h2 : n < i ∨ (n = i ∧ k < j)
    · exact absurd (e ▸ mem_preU hn hk h2) (preU_nodup h hi hj)
    · omega
/-- a chain's units stand in one place each -/
theorem row_one {L : List (List Int)} (h : L.flatten.Nodup) {n j k : Nat} (hn : n < L.length) (hj : j < L[n].length) (hk : k < L[n].length) (e : L[n][j] = L[n][k]) : j = k := (flat_one h hn hj hn hk e).2
/-- what is still to be told of a chain, at its k-th unit: s of them stayed, the last of them stood at la -/
def JF (all old c : List Int) (T : Bool) (k s : Nat) (la : Int) : Prop :=
  (s = k ∧ ((k = 0 ∧ la = -1) ∨ ∃ (p : Nat) (hp : p < old.length) (hk : k - 1 < c.length), 0 < k ∧ la = p ∧ old[p] = c[k - 1]) ∧ seqB all old (c.drop k) (old.drop (la + 1).toNat) (decide (0 < k)) = T) ∨
  (s < k ∧ (decide (0 < s) && outB all (c.drop k)) = T)
section
variable {all old c : List Int} {T : Bool} {k s : Nat} {la : Int}
theorem JF.start (h : seqB all old c old false = T) : JF all old c T 0 0 (-1) := .inl ⟨rfl, .inl ⟨rfl, rfl⟩, h⟩
theorem seq_not {rest : List Int} {m : Bool} (hk : k < c.length) (h : c[k] ∉ old) : seqB all old (c.drop k) rest m = (m && outB all (c.drop k)) := by
  rw [List.drop_eq_getElem_cons hk]
  show (if c[k] ∈ old then _ else _) = _
  rw [if_neg h]
  rfl
theorem JF.out (h : JF all old c T k s la) (hk : k < c.length) (h1 : c[k] ∉ old) (h2 : c[k] ∉ all) : JF all old c T (k + 1) s la := by
  rcases h with ⟨rfl, _, h⟩ | ⟨h3, h⟩
  · rw [seq_not hk h1, out_step hk h2] at h
    exact .inr ⟨by omega, h⟩
  · rw [out_step hk h2] at h
    exact .inr ⟨by omega, h⟩
theorem JF.other (h : JF all old c T k s la) (hk : k < c.length) (h1 : c[k] ∉ old) (h2 : c[k] ∈ all) : T = false := by
  rcases h with ⟨rfl, _, h⟩ | ⟨h3, h⟩
  · rw [seq_not hk h1, out_no hk h2] at h
    simpa using h.symm
  · rw [out_no hk h2] at h
    simpa using h.symm
theorem JF.gap (h : JF all old c T k s la) (hk : k < c.length) (h1 : s ≠ k) (h2 : c[k] ∈ all) : T = false := by
  rcases h with ⟨h3, _⟩ | ⟨h3, h⟩
  · exact absurd h3 h1
  · rw [out_no hk h2] at h
    simpa using h.symm
theorem drop_none {l : List Int} {u : Int} (h : u ∉ l) : l.dropWhile (fun t => t != u) = [] := by
  induction l with
  | nil => rfl
  | cons x l ih =>
    rw [List.mem_cons, not_or] at h
    have e : (fun t => t != u) x = true := bne_iff_ne.2 fun e => h.1 e.symm
    exact (List.dropWhile_cons_of_pos (p := fun t => t != u) (a := x) (l := l) e).trans (ih h.2)
theorem JF.back (h : JF all old c T k s la) (hu : ∀ i j (hi : i < old.length) (hj : j < old.length), old[i] = old[j] → i = j) (hk : k < c.length) {j : Nat} (hj : j < old.length) (he : old[j] = c[k]) (hl : (j : Int) < la) (hs : s = k) : T = false := by
  subst hs
  rcases h with ⟨_, h1, h⟩ | ⟨h3, h⟩
  · rcases h1 with ⟨_, rfl⟩ | ⟨p, hp, hk1, _, rfl, _⟩
    · omega
    · rw [seq_lost hk (he ▸ List.getElem_mem hj) (drop_none _)] at h
      · exact h.symm
      · intro hm
        obtain ⟨x, hx, e⟩ := List.getElem_of_mem hm
        rw [List.length_drop] at hx
        rw [List.getElem_drop, ← he] at e
        have := hu _ _ _ _ e
        omega
  · omega
theorem drop_found {l : List Int} {a j : Nat} (hu : ∀ i j (hi : i < l.length) (hj : j < l.length), l[i] = l[j] → i = j) (hj : j < l.length) (h : a ≤ j) : (l.drop a).dropWhile (fun t => t != l[j]) = l[j] :: l.drop (j + 1) := by
  induction hd : j - a generalizing a with
  | zero =>
    obtain rfl : a = j := by omega
    exact drop_stop hj (by simp)
  | succ d ih =>
    have ha : a < l.length := by omega
    rw [drop_at ha (by rw [bne_iff_ne]; intro e; have := hu _ _ _ _ e; omega)]
    exact ih (by omega) (by omega)
theorem JF.on (h : JF all old c T k s la) (hu : ∀ i j (hi : i < old.length) (hj : j < old.length), old[i] = old[j] → i = j) (hc : ∀ i j (hi : i < c.length) (hj : j < c.length), c[i] = c[j] → i = j) (hk : k < c.length) {j : Nat} (hj : j < old.length) (he : old[j] = c[k]) (hl : ¬ (j : Int) < la) (hs : s = k) :
    JF all old c T (k + 1) (s + 1) j := by
  subst hs
  rcases h with ⟨_, h1, h⟩ | ⟨h3, h⟩
  · have hla : (la + 1).toNat ≤ j := by
      rcases h1 with ⟨_, rfl⟩ | ⟨p, hp, hk1, hk0, rfl, e⟩
      · omega
      · have : p ≠ j := by
          rintro rfl
          have := hc _ _ _ _ (e.symm.trans he)
          omega
        omega
    have hf := drop_found hu hj hla
    rw [he] at hf
    rw [seq_found hk (he ▸ List.getElem_mem hj) hf] at h
    refine .inl ⟨rfl, .inr ⟨j, hj, by simpa using hk, by omega, rfl, by simpa using he⟩, ?_⟩
    rw [show ((j : Int) + 1).toNat = j + 1 by omega]
    exact h
  · omega
theorem JF.done (h : JF all old c T c.length s la) : T = decide (0 < s) := by
  rcases h with ⟨rfl, _, h⟩ | ⟨_, h⟩
  · rw [List.drop_of_length_le (Nat.le_refl _)] at h
    exact h.symm
  · rw [List.drop_of_length_le (Nat.le_refl _)] at h
    rw [← h]
    exact Bool.and_true _
end
set_option maxHeartbeats 4000000 in
theorem follows_any (c : List Int) (ao : Option Addr) (cap i b : Nat) (L : List (List Int)) (w : World) (hi : i < L.length) (hN : NLI w ao cap c) (hM : Mt w b L L.flatten) (hL : L.flatten.Nodup) (hc : ∀ i j (hi : i < c.length) (hj : j < c.length), c[i] = c[j] → i = j) (hl : c.length ≤ 255) :
    Calls Tryz.prog 149 #[.slice ao c.length cap, .int .i64 i, .map (some b)] w fun e w' => e = .returned (.bool (seqB (unitsR L) L[i] c L[i] false)) ∧ Below w.heap.size w w' := by
  obtain ⟨D, hD, hMs⟩ := hM
  have HD := Lib.hid hD
  have HMS := Lib.hid hMs
  have HNN := Lib.hid hN
  have hl' : (c.length : Int) ≤ 255 := by omega
  have HU := Lib.hid (fun a b ha hb => @row_one L hL i a b hi ha hb)
  have HF := Lib.hid (fun (a b x y : Nat) ha hb hx hy => @flat_one L hL a b x y ha hb hx hy)
  have HS := Lib.hid (JF.start (rfl : seqB (unitsR L) L[i] c L[i] false = _))
  have HALL := Lib.hid (fun u => (unitsR_mem L u))
  have HIN := Lib.hid (fun u (h : u ∈ L[i]) => show u ∈ L.flatten from List.mem_flatten.2 ⟨_, List.getElem_mem hi, h⟩)
  have HC := Lib.hid hc
  clear hD hMs hN hc hL
  generalize seqB (unitsR L) L[i] c L[i] false = T at *
  generalize unitsR L = all at *
  go_enter Tryz.func149, Tryz.ntmps149
  go_wp2_with fail
  go_loopw [7, 8, 15] (fun st la at' wr => ∃ (k s : Nat) (l : Int), at' = .int .i64 k ∧ st = .int .i64 s ∧ la = .int .i64 l ∧ k ≤ c.length ∧ s ≤ k ∧ Hid (JF all L[i] c T k s l) ∧ Hid (Below w.heap.size w wr)) (fun _ _ at' _ => c.length - (intOf at').toNat)
  case atStart => exact ⟨0, 0, -1, rfl, rfl, rfl, Nat.zero_le _, Nat.le_refl _, HS, Lib.hid (Below.refl _ _)⟩
  case round =>
    obtain ⟨k, s, l, rfl, rfl, rfl, hk, hsk, HJ, HB⟩ := hrel
    by_cases hlt : k < c.length
    · obtain ⟨bk, off, hai, c0⟩ := (HNN.out.below HB.out).at k hlt
      have HWF := Lib.hid (HNN.out.wf _ (List.getElem_mem hlt))
      subst hai
      have k0 : (k : Int) < (c.length : Int) := by omega
      have HDW := Lib.hid (owns_below HD.out HB.out)
      have HB1 := Lib.hid (fun x => HB.out.alloc HB.out.size x)
      by_cases hin : c[k] ∈ L.flatten
      · have HA := Lib.hid ((HALL.out c[k]).2 hin)
        have HH := Lib.hid ((HMS.out.hs _ HWF.out).trans (decide_eq_true hin))
        obtain ⟨i0, j0, hi0, hj0, e0, hat⟩ := HMS.out.spot _ hin
        have HAT := Lib.hid hat
        clear hat hin
        by_cases hii : i0 = i
        · subst hii
          have d1 : ((i0 : Int) != (i0 : Int)) = false := by simp
          by_cases hjl : (j0 : Int) < l
          · have d2 : decide ((j0 : Int) < l) = true := decide_eq_true hjl
            have HX := Lib.hid (show T = false from by
              by_cases hs : s = k
              · exact HJ.out.back HU.out hlt hj0 e0 hjl hs
              · exact HJ.out.gap hlt hs HA.out)
            clear e0
            generalize c[k] = u at *
            go_wp2_with (at_lookup; refine lookup_in rfl _ _ rfl rfl HDW.out rfl HWF.out HH.out HAT.out ?_)
            go_ret
            rw [HX.out]
            exact ⟨rfl, HB1.out _⟩
          have d2 : decide ((j0 : Int) < l) = false := decide_eq_false hjl
          by_cases hs : s = k
          · have HJ2 := Lib.hid (HJ.out.on HU.out HC.out hlt hj0 e0 hjl hs)
            have d3 : ((k : Int) != (s : Int)) = false := by simp [hs]
            clear e0 hjl hs
            generalize c[k] = u at *
            go_wp2_with (at_lookup; refine lookup_in rfl _ _ rfl rfl HDW.out rfl HWF.out HH.out HAT.out ?_)
            go_quiet (fail)
            go_wp2_with fail
            go_roundw
            case rel => exact ⟨k + 1, s + 1, j0, by go_num, by go_num, rfl, by omega, by omega, HJ2, Lib.hid (below_drewN (HB1.out _) _)⟩
            case measure => simp [intOf]; omega
          · have HX := Lib.hid (HJ.out.gap hlt hs HA.out)
            have d3 : ((k : Int) != (s : Int)) = true := bne_iff_ne.2 (by omega)
            clear e0 hjl hs
            generalize c[k] = u at *
            go_wp2_with (at_lookup; refine lookup_in rfl _ _ rfl rfl HDW.out rfl HWF.out HH.out HAT.out ?_)
            go_ret
            rw [HX.out]
            exact ⟨rfl, HB1.out _⟩
        · have d1 : ((i0 : Int) != (i : Int)) = true := bne_iff_ne.2 (by omega)
          have HX := Lib.hid (HJ.out.other hlt (fun hm => by
            obtain ⟨j, hj, e⟩ := List.getElem_of_mem hm
            exact hii (HF.out _ _ _ _ hi0 hj0 hi hj (e0.trans e.symm)).1) HA.out)
          clear e0 hii
          generalize c[k] = u at *
          go_wp2_with (at_lookup; refine lookup_in rfl _ _ rfl rfl HDW.out rfl HWF.out HH.out HAT.out ?_)
          go_ret
          rw [HX.out]
          exact ⟨rfl, HB1.out _⟩
      · have HJ2 := Lib.hid (HJ.out.out hlt (fun h => hin (HIN.out _ h)) (fun h => hin ((HALL.out c[k]).1 h)))
        have HH := Lib.hid ((HMS.out.hs _ HWF.out).trans (decide_eq_false hin))
        clear hin
        generalize c[k] = u at *
        go_wp2_with (at_lookup; refine lookup_out rfl _ _ rfl rfl HDW.out rfl HWF.out HH.out ?_)
        go_roundw
        case rel => exact ⟨k + 1, s, l, by go_num, rfl, rfl, by omega, by omega, HJ2, Lib.hid (HB1.out _)⟩
        case measure => simp [intOf]; omega
    · obtain rfl : k = c.length := by omega
      have HX := Lib.hid HJ.out.done
      go_wp2_with fail
      go_ret
      rw [HX.out]
      exact ⟨rfl, HB.out⟩
end Go.Proofs.YtchhmfdalghgcaaGreat
namespace Go.Proofs.YtchhmfdalghgcaaGreat
open Go.RowKit Go.Maps
set_option linter.unusedVariables false
set_option maxRecDepth 20000
/-- t is the greatest of what lies just behind the pages that were met, and the edge -/
def Grp (l : List Pg) (ed : Int) (left : Lit → Bool) (t : Int) : Prop := (t = ed ∨ ∃ x ∈ l, t = x.at_ + 1) ∧ ed ≤ t ∧ ∀ x ∈ l, left (klA x.at_) = false → x.at_ + 1 ≤ t
theorem Grp.start {D : DataW Unit} {l : List Pg} (h : Mp D l) (ed : Int) : Grp l ed (Maps.has D) ed := by
  refine ⟨.inl rfl, Int.le_refl _, fun x hx hl => ?_⟩
  rw [h.hs _ (h.wf x hx), decide_eq_true (List.mem_map.2 ⟨x, hx, rfl⟩)] at hl
  cases hl
theorem Mp.met {D : DataW Unit} {l : List Pg} (h : Mp D l) {u : Int} (hu : (Lit.int .i64 u).wf = true) {y : DataW Unit} (hat : ∀ z, D.atKey (klA u) z = y) : ∃ x ∈ l, x.at_ = u := by
  have h1 := has_true_of_atKey hat
  rw [h.hs u hu] at h1
  obtain ⟨x, hx, e⟩ := List.mem_map.1 (of_decide_eq_true h1)
  exact ⟨x, hx, e⟩
theorem Grp.step {D : DataW Unit} {l : List Pg} {ed t u : Int} {left : Lit → Bool} (h : Grp l ed left t) (hM : Mp D l) (hu : ∃ x ∈ l, x.at_ = u) : Grp l ed (fun z => left z && !z.sameKey (klA u)) (max t (u + 1)) := by
  obtain ⟨x, hx, rfl⟩ := hu
  refine ⟨?_, by have := h.2.1; omega, fun y hy hl => ?_⟩
  · rcases Int.le_total t (x.at_ + 1) with h4 | h4
    · exact .inr ⟨x, hx, by omega⟩
    · rw [show max t (x.at_ + 1) = t by omega]; exact h.1
  · by_cases e : y.at_ = x.at_
    · rw [e]; omega
    · have h1 : (left (klA y.at_) && !(klA y.at_).sameKey (klA x.at_)) = false := hl
      rw [sameKey_ne (fun e2 => e (klA_inj (hM.wf y hy) (hM.wf x hx) e2))] at h1
      have := h.2.2 y hy (by simpa using h1)
      omega
theorem Grp.done {l : List Pg} {ed t : Int} {left : Lit → Bool} (h : Grp l ed left t) (h0 : ∀ z, left z = false) : t = tailP l ed := tailP_of h.1 h.2.1 (fun x hx => h.2.2 x hx (h0 _))
set_option maxHeartbeats 8000000 in
theorem ptail_any (G : Nat → Prop) (w : World) (b : Nat) (p : Ps) (h : PGm G w b p) (hok : p.Ok) :
    Calls Tryz.prog 135 #[.pointer (some ⟨b, 0, none⟩)] w fun e w' => e = .returned (.int .i64 p.tail) ∧ Below w.heap.size w w' := by
  obtain ⟨mb, h1, ⟨D, hD, hM⟩, _⟩ := h
  obtain ⟨c0, c1, c2, _⟩ := three_cells h1
  have HD := Lib.hid hD
  have HM := Lib.hid hM
  have HBL := Lib.hid hD.lt
  have HOK := Lib.hid hok.each
  have HED := Lib.hid hok.edge
  have HT := Lib.hid (show tailP p.l p.edge = p.tail from rfl)
  generalize p.tail = tl at *
  generalize p.edge = ed at *
  clear h1 hD hM hok
  go_enter Tryz.func135, Tryz.ntmps135
  go_wp2_with (at_range; refine wpList_range_own _ rfl _ 147 rfl 212 210 pspot_law Tryz.underlying147 sheetR mb _ _ rfl HD.out ?_; intro w3 hrg0 hg0 hs0)
  go_frame
  have hbr := HBL.out
  have HX3 := Lib.hid (show Below w.heap.size w w3 from (Below.refl _ _).grown hg0 (Nat.le_refl _) (fun j hj => by cases hj))
  have hed := HED.out
  clear hg0 c0 c1 c2
  go_loopw [3] (fun v wr => ∃ (left : Lit → Bool) (cnt : Nat) (t : Int), v = .int .i64 t ∧ Hid (wr.ranges Tryz.prog 212 sheetR mb w.heap.size p.l.length D left cnt) ∧ Hid (Grp p.l ed left t) ∧ 0 ≤ t ∧ t ≤ 4096 ∧ Hid (Below w.heap.size w wr)) (fun _ wr => wr.rangeLeft mb w.heap.size)
  case atStart => exact ⟨_, _, ed, rfl, Lib.hid hrg0, Lib.hid (Grp.start HM.out ed), by omega, by omega, HX3⟩
  case round =>
    obtain ⟨left, cnt, t, rfl, HR, HG, t0, t1, HX⟩ := hrel
    clear hrg0
    go_wp2_with (at_next; refine wpList_next_ranges (α := Int) (β := Int × ByteArray) _ rfl _ rfl 212 pspot_law sheetR (fun x => .agg #[.int .i64 x]) (fun c => .agg #[.int .i64 c.1, .string c.2]) (fun key kl hkey => by obtain ⟨u, e, _⟩ := pspot_inv hkey; exact ⟨u, e⟩) (fun v y hv => by obtain ⟨k, s, e, _⟩ := sheetR_inv hv; exact ⟨(k, s), e⟩) mb w.heap.size _ _ _ _ rfl HR.out ?_ ?_)
    · intro hc0 hl0
      have HF := Lib.hid (HG.out.done hl0)
      go_wp2_with fail
      go_ret
      rw [← HT.out, ← HF.out]
      exact ⟨rfl, HX.out⟩
    · intro x y1 y2 kl z1 z2 w4 cnt4 hkey hlk hv hat hrg4 hlt hg4 hs4 hen
      obtain ⟨u, e, hwf⟩ := pspot_inv hkey
      obtain rfl : x = u := agg1_inj e
      obtain rfl : kl = klA x := Option.some.inj (hkey.symm.trans (pspot_key x hwf))
      have hin := HM.out.met hwf hat
      have hxb : 0 ≤ x ∧ x < 4096 := by
        obtain ⟨q, hq, rfl⟩ := hin
        have := (HOK.out q hq).1
        omega
      have hg5 := HG.out.step HM.out hin
      have HG5 := Lib.hid hg5
      have HB4 := HX.out.grown hg4 HX.out.size (fun j hj => by cases hj; exact Nat.le_refl _)
      have HX4 := Lib.hid (HB4.alloc HB4.size (.cells #[.int .i64 x] 212))
      have HR4 := Lib.hid (hrg4.alloc (.cells #[.int .i64 x] 212))
      obtain ⟨x0, x1⟩ := hxb
      clear e hkey hlk hv hat hrg4 hg4 hwf hin hg5 HB4
      obtain ⟨t2, ht2⟩ : ∃ t2, (if t < x + 1 then x + 1 else t) = t2 := ⟨_, rfl⟩
      have h5 : max t (x + 1) = t2 := by rw [← ht2]; split <;> omega
      rw [h5] at HG5
      have t20 : 0 ≤ t2 := by omega
      have t21 : t2 ≤ 4096 := by omega
      clear h5
      go_wp2_with fail
      go_roundw
      case rel => exact ⟨_, cnt4, t2, rfl, HR4, HG5, t20, t21, HX4⟩
      case measure => rw [HR4.out.left_eq, HR.out.left_eq]; exact hlt
theorem ptail_nil (w : World) : Calls Tryz.prog 135 #[.pointer none] w fun e w' => e = .returned (.int .i64 0) ∧ w = w' := by
  go_enter Tryz.func135, Tryz.ntmps135
  go_wp2_with fail
  go_ret
  exact ⟨rfl, rfl⟩
theorem calls_same {f : FuncId} {a : Array Value} {w : World} {v : Value} (h : Calls Tryz.prog f a w fun e w' => e = .returned v ∧ w = w') : Calls Tryz.prog f a w fun e w' => e = .returned v ∧ Below w.heap.size w w' := h.mono fun e w' ⟨h1, h2⟩ => ⟨h1, h2 ▸ Below.refl _ _⟩
theorem pageSays : PageSays PGm where
  lt := fun h => h.lt
  keep := fun h hk hG => h.keep hk hG
  new_yes := fun room w hr => pnew_yes room w hr
  new_no := fun room w hr _ => pnew_no room w hr
  write := fun G w b p a s h hok _ hs => pwrite_any G w b p a s h hok hs
  fill := fun G w b p a h hok _ => pfill_any G w b p a h hok
  trim := fun G w b p a h hok ha => ptrim_any G w b p a h hok ha
  read := fun G w b p a h hok _ => pread_any G w b p a h hok
  kind := fun G w b p a h _ _ => calls_same (kind_any G w b p a h)
  tail := fun G w b p h hok => ptail_any G w b p h hok
  nil_write := fun a s w hs => calls_same (pwrite_nil a s w hs)
  nil_fill := fun a w => calls_same (pfill_nil a w)
  nil_trim := fun a w => calls_same (ptrim_nil a w)
  nil_read := fun a w => calls_same (pread_nil a w)
  nil_kind := fun a w => calls_same (kind_nil a w)
  nil_tail := fun w => calls_same (ptail_nil w)
end Go.Proofs.YtchhmfdalghgcaaGreat
namespace Go.Proofs.YtchhmfdalghgcaaGreat
set_option linter.unusedVariables false
open Go.RowKit
set_option maxRecDepth 20000
/-- the thing, beside it the chains L at v, in blocks C -/
def Chained {α : Type} (T : (Nat → Prop) → World → α → Prop) (C : Nat → Prop) (v : Value) (L : List (List Int)) (H : Nat → Prop) (w : World) (s : α) : Prop :=
  ∃ H1 : Nat → Prop, T H1 w s ∧ CG C w v L ∧ (∀ k, C k → k < w.heap.size) ∧ (∀ k, C k → ¬ H1 k) ∧ ∀ k, H k ↔ H1 k ∨ C k
section
variable {α β : Type} {T : (Nat → Prop) → World → α → Prop} {U : (Nat → Prop) → World → β → Prop} {C G : Nat → Prop} {v : Value} {L : List (List Int)} {w w' : World} {s s' : α} {x : An} {e : Ending}
theorem chained_thing (hT : Thing T) (C : Nat → Prop) (v : Value) (L : List (List Int)) : Thing (Chained T C v L) where
  lt := by
    rintro H w s ⟨H1, h1, h2, h3, h4, h5⟩ k hk
    rcases (h5 k).1 hk with h | h
    · exact hT.lt h1 k h
    · exact h3 k h
  keep := by
    rintro H S w w' s ⟨H1, h1, h2, h3, h4, h5⟩ hk hS
    exact ⟨H1, hT.keep h1 hk (fun k hf => hS k ((h5 k).2 (.inl hf))), h2.keep hk (fun k hc => hS k ((h5 k).2 (.inr hc))), fun k hc => Nat.lt_of_lt_of_le (h3 k hc) hk.size, h4, h5⟩
theorem tells_chained (h : Tells T G w s' x e w') : ∃ (ao : Option Addr) (cap : Nat) (C : Nat → Prop), e = .returned (ansV x ao cap) ∧ (∀ k, C k → w.heap.size ≤ k) ∧ Leaves (Chained T C (.slice ao x.L.length cap) x.L) G w w' s' := by
  obtain ⟨ao, cap, C, he, hC, hF, G', r1, r2, r3, r4⟩ := h
  refine ⟨ao, cap, C, he, fun k hk => (hF k hk).1, fun k => G' k ∨ C k, ⟨G', r1, hC, fun k hk => (hF k hk).2, r2, fun k => Iff.rfl⟩, r3, fun k hk => ?_⟩
  rcases hk with h | h
  · exact r4 k h
  · exact .inr (hF k h).1
theorem chained_tells {ao : Option Addr} {cap : Nat} (hC : ∀ k, C k → w.heap.size ≤ k) (h : Leaves (Chained T C (.slice ao x.L.length cap) x.L) G w w' s') : Tells T G w s' x (.returned (ansV x ao cap)) w' := by
  obtain ⟨H, ⟨H1, h1, h2, h3, h4, h5⟩, r2, r3⟩ := h
  exact ⟨ao, cap, C, rfl, h2, fun k hk => ⟨hC k hk, h3 k hk⟩, H1, h1, h4, r2, fun k hk => r3 k ((h5 k).2 (.inl hk))⟩
theorem tells_plain (h : Leaves T G w w' s') (hL : x.L = []) (he : e = .returned (ansV x none 0)) : Tells T G w s' x e w' := by
  rw [he]
  exact Tells.plain h hL
/-- chains that were made behind the thing -/
theorem chained_new (hT : Thing T) (h : T G w s) (hb : Below w.heap.size w w') (hO : OC w' w.heap.size v L) : Leaves (Chained T (fun k => w.heap.size ≤ k ∧ k < w'.heap.size) v L) G w w' s := by
  refine ⟨fun k => G k ∨ (w.heap.size ≤ k ∧ k < w'.heap.size), ⟨G, hT.keep h (Kept.ofBelow hb (fun _ => True)) (fun _ _ => trivial), CG.of hO, fun k hk => hk.2, fun k hk hg => ?_, fun k => Iff.rfl⟩, Kept.ofBelow hb _, fun k hk => hk.imp id (fun h => h.1)⟩
  have := hT.lt h k hg
  omega
/-- the thing is told otherwise -/
theorem Tells.to {γ : Type} {V : (Nat → Prop) → World → γ → Prop} {z : γ} (h : Tells T G w s' x e w') (hs : ∀ H W, T H W s' → V H W z) : Tells V G w z x e w' := by
  obtain ⟨ao, cap, F, h1, h2, h3, G', h4, h5⟩ := h
  exact ⟨ao, cap, F, h1, h2, h3, G', hs _ _ h4, h5⟩
end
end Go.Proofs.YtchhmfdalghgcaaGreat
