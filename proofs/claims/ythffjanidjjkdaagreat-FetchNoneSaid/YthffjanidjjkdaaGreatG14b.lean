/- What the program's own 'follows' returns: may a chain stand behind the one that stood there? Conditions: the chain lies where the call was told; no unit stands twice in it, nor in the projection ahead; the map is of that projection. What the program's own Tail returns; all that the laws of pages ask of the program. Conditions: the object lies where the call was told; its pages are as the calls make them. Plain facts on a fetch whose questions come to nodes, or do not, while nobody else asks anything: what all of them keep, and that it is over within a few once it is heard. No conditions but those that the statements name. What the document's own Tail returns. Conditions: the projection and the counts lie where the call was told, and are not too large. -/
import Derived.Test.YthffjanidjjkdaaGreatG13b
import Derived.Test.YthffjanidjjkdaaGreatG13a
import Derived.Maps.RangeWalk
import Derived.Test.YthffjanidjjkdaaGreatG11b
set_option linter.unusedVariables false
namespace Go.Proofs.YthffjanidjjkdaaGreat
open Go.RowKit Go.Maps
set_option maxRecDepth 20000
/-- the map's datum is D -/
theorem owns_below {w w' : World} {b n : Nat} {D : DataW Unit} (h : w.ownsMap Tryz.prog 177 spotR b n D) (hb : Below w.heap.size w w') : w'.ownsMap Tryz.prog 177 spotR b n D := by
  obtain ⟨es, clock, h1, h2⟩ := h
  exact ⟨es, clock, below_heap hb h1, h2⟩
section
variable {w : World} {ops : Array Oper} {rest : List Oper} {o : Oper} {a : Act} {Q : Exit → Act → World → Prop}
theorem lookup_in (hg : o.guard = none) (m x : Operand) (hop : o.op = Op.lookup 165 m x true) {b n : Nat} {D : DataW Unit} (hm : a.eval m = .map (some b)) (hown : w.ownsMap Tryz.prog 177 spotR b n D)
    {u i j : Int} (hx : a.eval x = .agg #[.int .i64 u]) (hu : (Lit.int .i64 u).wf = true) (hh : Maps.has D (klU u) = true) (hat : ∀ zd, D.atKey (klU u) zd = spotD i j)
    (hK : wpList Tryz.prog ops Q rest (a.put o.dst (.tuple #[.agg #[.int .i64 i, .int .i64 j], .bool true])) w) : wpList Tryz.prog ops Q (o :: rest) a w :=
  wpList_lookup_own_ok w hg m x _ hop 177 175 unit_law Tryz.underlying165 spotR (zero_spot w) (spotD 0 0) [] (spotR_mk 0 0) b n D hm hown _ _ hx (unit_key u hu) (fun v ps hv => by
    obtain ⟨i2, j2, rfl, e⟩ := spotR_inv hv
    have e1 := congrArg Prod.fst e
    simp only [hat] at e1
    obtain ⟨rfl, rfl⟩ := spotD_inj e1
    rw [hh]
    exact hK)
theorem lookup_out (hg : o.guard = none) (m x : Operand) (hop : o.op = Op.lookup 165 m x true) {b n : Nat} {D : DataW Unit} (hm : a.eval m = .map (some b)) (hown : w.ownsMap Tryz.prog 177 spotR b n D)
    {u : Int} (hx : a.eval x = .agg #[.int .i64 u]) (hu : (Lit.int .i64 u).wf = true) (hh : Maps.has D (klU u) = false)
    (hK : wpList Tryz.prog ops Q rest (a.put o.dst (.tuple #[.agg #[.int .i64 0, .int .i64 0], .bool false])) w) : wpList Tryz.prog ops Q (o :: rest) a w :=
  wpList_lookup_own_ok w hg m x _ hop 177 175 unit_law Tryz.underlying165 spotR (zero_spot w) (spotD 0 0) [] (spotR_mk 0 0) b n D hm hown _ _ hx (unit_key u hu) (fun v ps hv => by
    obtain ⟨i2, j2, rfl, e⟩ := spotR_inv hv
    have e1 := congrArg Prod.fst e
    simp only [atKey_of_not_has hh] at e1
    obtain ⟨rfl, rfl⟩ := spotD_inj e1
    rw [hh]
    exact hK)
end
theorem mem_preU {L : List (List Int)} {n k i j : Nat} (hi : i < L.length) (hj : j < L[i].length) (h : i < n ∨ (i = n ∧ j < k)) : L[i][j] ∈ preU L n k := by
  unfold preU
  rcases h with h | ⟨rfl, h⟩
  · refine List.mem_append_left _ (List.mem_flatten.2 ⟨L[i], ?_, List.getElem_mem hj⟩)
    rw [List.mem_take_iff_getElem]
    exact ⟨i, by omega, rfl⟩
  · refine List.mem_append_right _ ?_
    rw [show L.getD i [] = L[i] by simp [hi], List.mem_take_iff_getElem]
    exact ⟨j, by omega, rfl⟩
/-- each unit stands in one place alone -/
theorem flat_one {L : List (List Int)} (h : L.flatten.Nodup) {i j n k : Nat} (hi : i < L.length) (hj : j < L[i].length) (hn : n < L.length) (hk : k < L[n].length) (e : L[i][j] = L[n][k]) : i = n ∧ j = k := by
  by_cases h1 : i < n ∨ (i = n ∧ j < k)
  · exact absurd (e ▸ mem_preU hi hj h1) (preU_nodup h hn hk)
  · by_cases h2 : n < i ∨ (n = i ∧ k < j)
    · exact absurd (e ▸ mem_preU hn hk h2) (preU_nodup h hi hj)
    · omega
/-- a chain's units stand in one place each -/
theorem row_one {L : List (List Int)} (h : L.flatten.Nodup) {n j k : Nat} (hn : n < L.length) (hj : j < L[n].length) (hk : k < L[n].length) (e : L[n][j] = L[n][k]) : j = k := (flat_one h hn hj hn hk e).2
/-- what is still to be told of a chain, at its k-th unit: s of them stayed, the last of them stood at la -/
def JF (all old c : List Int) (T : Bool) (k s : Nat) (la : Int) : Prop :=
  (s = k ∧ ((k = 0 ∧ la = -1) ∨ ∃ (p : Nat) (hp : p < old.length) (hk : k - 1 < c.length), 0 < k ∧ la = p ∧ old[p] = c[k - 1]) ∧ seqB all old (c.drop k) (old.drop (la + 1).toNat) (decide (0 < k)) = T) ∨
  (s < k ∧ (decide (0 < s) && outB all (c.drop k)) = T)
section
variable {all old c : List Int} {T : Bool} {k s : Nat} {la : Int}
theorem JF.start (h : seqB all old c old false = T) : JF all old c T 0 0 (-1) := .inl ⟨rfl, .inl ⟨rfl, rfl⟩, h⟩
theorem seq_not {rest : List Int} {m : Bool} (hk : k < c.length) (h : c[k] ∉ old) : seqB all old (c.drop k) rest m = (m && outB all (c.drop k)) := by
  rw [List.drop_eq_getElem_cons hk]
  show (if c[k] ∈ old then _ else _) = _
  rw [if_neg h]
  rfl
theorem JF.out (h : JF all old c T k s la) (hk : k < c.length) (h1 : c[k] ∉ old) (h2 : c[k] ∉ all) : JF all old c T (k + 1) s la := by
  rcases h with ⟨rfl, _, h⟩ | ⟨h3, h⟩
  · rw [seq_not hk h1, out_step hk h2] at h
    exact .inr ⟨by omega, h⟩
  · rw [out_step hk h2] at h
    exact .inr ⟨by omega, h⟩
theorem JF.other (h : JF all old c T k s la) (hk : k < c.length) (h1 : c[k] ∉ old) (h2 : c[k] ∈ all) : T = false := by
  rcases h with ⟨rfl, _, h⟩ | ⟨h3, h⟩
  · rw [seq_not hk h1, out_no hk h2] at h
    simpa using h.symm
  · rw [out_no hk h2] at h
    simpa using h.symm
theorem JF.gap (h : JF all old c T k s la) (hk : k < c.length) (h1 : s ≠ k) (h2 : c[k] ∈ all) : T = false := by
  rcases h with ⟨h3, _⟩ | ⟨h3, h⟩
  · exact absurd h3 h1
  · rw [out_no hk h2] at h
    simpa using h.symm
theorem drop_none {l : List Int} {u : Int} (h : u ∉ l) : l.dropWhile (fun t => t != u) = [] := by
  induction l with
  | nil => rfl
  | cons x l ih =>
    rw [List.mem_cons, not_or] at h
    have e : (fun t => t != u) x = true := bne_iff_ne.2 fun e => h.1 e.symm
    exact (List.dropWhile_cons_of_pos (p := fun t => t != u) (a := x) (l := l) e).trans (ih h.2)
theorem JF.back (h : JF all old c T k s la) (hu : ∀ i j (hi : i < old.length) (hj : j < old.length), old[i] = old[j] → i = j) (hk : k < c.length) {j : Nat} (hj : j < old.length) (he : old[j] = c[k]) (hl : (j : Int) < la) (hs : s = k) : T = false := by
  subst hs
  rcases h with ⟨_, h1, h⟩ | ⟨h3, h⟩
  · rcases h1 with ⟨_, rfl⟩ | ⟨p, hp, hk1, _, rfl, _⟩
    · omega
    · rw [seq_lost hk (he ▸ List.getElem_mem hj) (drop_none _)] at h
      · exact h.symm
      · intro hm
        obtain ⟨x, hx, e⟩ := List.getElem_of_mem hm
        rw [List.length_drop] at hx
        rw [List.getElem_drop, ← he] at e
        have := hu _ _ _ _ e
        omega
  · omega
theorem drop_found {l : List Int} {a j : Nat} (hu : ∀ i j (hi : i < l.length) (hj : j < l.length), l[i] = l[j] → i = j) (hj : j < l.length) (h : a ≤ j) : (l.drop a).dropWhile (fun t => t != l[j]) = l[j] :: l.drop (j + 1) := by
  induction hd : j - a generalizing a with
  | zero =>
    obtain rfl : a = j := by omega
    exact drop_stop hj (by simp)
  | succ d ih =>
    have ha : a < l.length := by omega
    rw [drop_at ha (by rw [bne_iff_ne]; intro e; have := hu _ _ _ _ e; omega)]
    exact ih (by omega) (by omega)
theorem JF.on (h : JF all old c T k s la) (hu : ∀ i j (hi : i < old.length) (hj : j < old.length), old[i] = old[j] → i = j) (hc : ∀ i j (hi : i < c.length) (hj : j < c.length), c[i] = c[j] → i = j) (hk : k < c.length) {j : Nat} (hj : j < old.length) (he : old[j] = c[k]) (hl : ¬ (j : Int) < la) (hs : s = k) :
    JF all old c T (k + 1) (s + 1) j := by
  subst hs
  rcases h with ⟨_, h1, h⟩ | ⟨h3, h⟩
  · have hla : (la + 1).toNat ≤ j := by
      rcases h1 with ⟨_, rfl⟩ | ⟨p, hp, hk1, hk0, rfl, e⟩
      · omega
      · have : p ≠ j := by
          rintro rfl
          have := hc _ _ _ _ (e.symm.trans he)
          omega
        omega
    have hf := drop_found hu hj hla
    rw [he] at hf
    rw [seq_found hk (he ▸ List.getElem_mem hj) hf] at h
    refine .inl ⟨rfl, .inr ⟨j, hj, by simpa using hk, by omega, rfl, by simpa using he⟩, ?_⟩
    rw [show ((j : Int) + 1).toNat = j + 1 by omega]
    exact h
  · omega
theorem JF.done (h : JF all old c T c.length s la) : T = decide (0 < s) := by
  rcases h with ⟨rfl, _, h⟩ | ⟨_, h⟩
  · rw [List.drop_of_length_le (Nat.le_refl _)] at h
    exact h.symm
  · rw [List.drop_of_length_le (Nat.le_refl _)] at h
    rw [← h]
    exact Bool.and_true _
end
set_option maxHeartbeats 4000000 in
theorem follows_any (c : List Int) (ao : Option Addr) (cap i b : Nat) (L : List (List Int)) (w : World) (hi : i < L.length) (hN : NLI w ao cap c) (hM : Mt w b L L.flatten) (hL : L.flatten.Nodup) (hc : ∀ i j (hi : i < c.length) (hj : j < c.length), c[i] = c[j] → i = j) (hl : c.length ≤ 255) :
    Calls Tryz.prog 166 #[.slice ao c.length cap, .int .i64 i, .map (some b)] w fun e w' => e = .returned (.bool (seqB (unitsR L) L[i] c L[i] false)) ∧ Below w.heap.size w w' := by
  obtain ⟨D, hD, hMs⟩ := hM
  have HD := Lib.hid hD
  have HMS := Lib.hid hMs
  have HNN := Lib.hid hN
  have hl' : (c.length : Int) ≤ 255 := by omega
  have HU := Lib.hid (fun a b ha hb => @row_one L hL i a b hi ha hb)
  have HF := Lib.hid (fun (a b x y : Nat) ha hb hx hy => @flat_one L hL a b x y ha hb hx hy)
  have HS := Lib.hid (JF.start (rfl : seqB (unitsR L) L[i] c L[i] false = _))
  have HALL := Lib.hid (fun u => (unitsR_mem L u))
  have HIN := Lib.hid (fun u (h : u ∈ L[i]) => show u ∈ L.flatten from List.mem_flatten.2 ⟨_, List.getElem_mem hi, h⟩)
  have HC := Lib.hid hc
  clear hD hMs hN hc hL
  generalize seqB (unitsR L) L[i] c L[i] false = T at *
  generalize unitsR L = all at *
  go_enter Tryz.func166, Tryz.ntmps166
  go_wp2_with fail
  go_loopw [7, 8, 15] (fun st la at' wr => ∃ (k s : Nat) (l : Int), at' = .int .i64 k ∧ st = .int .i64 s ∧ la = .int .i64 l ∧ k ≤ c.length ∧ s ≤ k ∧ Hid (JF all L[i] c T k s l) ∧ Hid (Below w.heap.size w wr)) (fun _ _ at' _ => c.length - (intOf at').toNat)
  case atStart => exact ⟨0, 0, -1, rfl, rfl, rfl, Nat.zero_le _, Nat.le_refl _, HS, Lib.hid (Below.refl _ _)⟩
  case round =>
    obtain ⟨k, s, l, rfl, rfl, rfl, hk, hsk, HJ, HB⟩ := hrel
    by_cases hlt : k < c.length
    · obtain ⟨bk, off, hai, c0⟩ := (HNN.out.below HB.out).at k hlt
      have HWF := Lib.hid (HNN.out.wf _ (List.getElem_mem hlt))
      subst hai
      have k0 : (k : Int) < (c.length : Int) := by omega
      have HDW := Lib.hid (owns_below HD.out HB.out)
      have HB1 := Lib.hid (fun x => HB.out.alloc HB.out.size x)
      by_cases hin : c[k] ∈ L.flatten
      · have HA := Lib.hid ((HALL.out c[k]).2 hin)
        have HH := Lib.hid ((HMS.out.hs _ HWF.out).trans (decide_eq_true hin))
        obtain ⟨i0, j0, hi0, hj0, e0, hat⟩ := HMS.out.spot _ hin
        have HAT := Lib.hid hat
        clear hat hin
        by_cases hii : i0 = i
        · subst hii
          have d1 : ((i0 : Int) != (i0 : Int)) = false := by simp
          by_cases hjl : (j0 : Int) < l
          · have d2 : decide ((j0 : Int) < l) = true := decide_eq_true hjl
            have HX := Lib.hid (show T = false from by
              by_cases hs : s = k
              · exact HJ.out.back HU.out hlt hj0 e0 hjl hs
              · exact HJ.out.gap hlt hs HA.out)
            clear e0
            generalize c[k] = u at *
            go_wp2_with (at_lookup; refine lookup_in rfl _ _ rfl rfl HDW.out rfl HWF.out HH.out HAT.out ?_)
            go_ret
            rw [HX.out]
            exact ⟨rfl, HB1.out _⟩
          have d2 : decide ((j0 : Int) < l) = false := decide_eq_false hjl
          by_cases hs : s = k
          · have HJ2 := Lib.hid (HJ.out.on HU.out HC.out hlt hj0 e0 hjl hs)
            have d3 : ((k : Int) != (s : Int)) = false := by simp [hs]
            clear e0 hjl hs
            generalize c[k] = u at *
            go_wp2_with (at_lookup; refine lookup_in rfl _ _ rfl rfl HDW.out rfl HWF.out HH.out HAT.out ?_)
            go_quiet (fail)
            go_wp2_with fail
            go_roundw
            case rel => exact ⟨k + 1, s + 1, j0, by go_num, by go_num, rfl, by omega, by omega, HJ2, Lib.hid (below_drewN (HB1.out _) _)⟩
            case measure => simp [intOf]; omega
          · have HX := Lib.hid (HJ.out.gap hlt hs HA.out)
            have d3 : ((k : Int) != (s : Int)) = true := bne_iff_ne.2 (by omega)
            clear e0 hjl hs
            generalize c[k] = u at *
            go_wp2_with (at_lookup; refine lookup_in rfl _ _ rfl rfl HDW.out rfl HWF.out HH.out HAT.out ?_)
            go_ret
            rw [HX.out]
            exact ⟨rfl, HB1.out _⟩
        · have d1 : ((i0 : Int) != (i : Int)) = true := bne_iff_ne.2 (by omega)
          have HX := Lib.hid (HJ.out.other hlt (fun hm => by
            obtain ⟨j, hj, e⟩ := List.getElem_of_mem hm
            exact hii (HF.out _ _ _ _ hi0 hj0 hi hj (e0.trans e.symm)).1) HA.out)
          clear e0 hii
          generalize c[k] = u at *
          go_wp2_with (at_lookup; refine lookup_in rfl _ _ rfl rfl HDW.out rfl HWF.out HH.out HAT.out ?_)
          go_ret
          rw [HX.out]
          exact ⟨rfl, HB1.out _⟩
      · have HJ2 := Lib.hid (HJ.out.out hlt (fun h => hin (HIN.out _ h)) (fun h => hin ((HALL.out c[k]).1 h)))
        have HH := Lib.hid ((HMS.out.hs _ HWF.out).trans (decide_eq_false hin))
        clear hin
        generalize c[k] = u at *
        go_wp2_with (at_lookup; refine lookup_out rfl _ _ rfl rfl HDW.out rfl HWF.out HH.out ?_)
        go_roundw
        case rel => exact ⟨k + 1, s, l, by go_num, rfl, rfl, by omega, by omega, HJ2, Lib.hid (HB1.out _)⟩
        case measure => simp [intOf]; omega
    · obtain rfl : k = c.length := by omega
      have HX := Lib.hid HJ.out.done
      go_wp2_with fail
      go_ret
      rw [HX.out]
      exact ⟨rfl, HB.out⟩
end Go.Proofs.YthffjanidjjkdaaGreat
namespace Go.Proofs.YthffjanidjjkdaaGreat
open Go.RowKit Go.Maps
set_option linter.unusedVariables false
set_option maxRecDepth 20000
/-- t is the greatest of what lies just behind the pages that were met, and the edge -/
def Grp (l : List Pg) (ed : Int) (left : Lit → Bool) (t : Int) : Prop := (t = ed ∨ ∃ x ∈ l, t = x.at_ + 1) ∧ ed ≤ t ∧ ∀ x ∈ l, left (klA x.at_) = false → x.at_ + 1 ≤ t
theorem Grp.start {D : DataW Unit} {l : List Pg} (h : Mp D l) (ed : Int) : Grp l ed (Maps.has D) ed := by
  refine ⟨.inl rfl, Int.le_refl _, fun x hx hl => ?_⟩
  rw [h.hs _ (h.wf x hx), decide_eq_true (List.mem_map.2 ⟨x, hx, rfl⟩)] at hl
  cases hl
theorem Mp.met {D : DataW Unit} {l : List Pg} (h : Mp D l) {u : Int} (hu : (Lit.int .i64 u).wf = true) {y : DataW Unit} (hat : ∀ z, D.atKey (klA u) z = y) : ∃ x ∈ l, x.at_ = u := by
  have h1 := has_true_of_atKey hat
  rw [h.hs u hu] at h1
  obtain ⟨x, hx, e⟩ := List.mem_map.1 (of_decide_eq_true h1)
  exact ⟨x, hx, e⟩
theorem Grp.step {D : DataW Unit} {l : List Pg} {ed t u : Int} {left : Lit → Bool} (h : Grp l ed left t) (hM : Mp D l) (hu : ∃ x ∈ l, x.at_ = u) : Grp l ed (fun z => left z && !z.sameKey (klA u)) (max t (u + 1)) := by
  obtain ⟨x, hx, rfl⟩ := hu
  refine ⟨?_, by have := h.2.1; omega, fun y hy hl => ?_⟩
  · rcases Int.le_total t (x.at_ + 1) with h4 | h4
    · exact .inr ⟨x, hx, by omega⟩
    · rw [show max t (x.at_ + 1) = t by omega]; exact h.1
  · by_cases e : y.at_ = x.at_
    · rw [e]; omega
    · have h1 : (left (klA y.at_) && !(klA y.at_).sameKey (klA x.at_)) = false := hl
      rw [sameKey_ne (fun e2 => e (klA_inj (hM.wf y hy) (hM.wf x hx) e2))] at h1
      have := h.2.2 y hy (by simpa using h1)
      omega
theorem Grp.done {l : List Pg} {ed t : Int} {left : Lit → Bool} (h : Grp l ed left t) (h0 : ∀ z, left z = false) : t = tailP l ed := tailP_of h.1 h.2.1 (fun x hx => h.2.2 x hx (h0 _))
set_option maxHeartbeats 8000000 in
theorem ptail_any (G : Nat → Prop) (w : World) (b : Nat) (p : Ps) (h : PGm G w b p) (hok : p.Ok) :
    Calls Tryz.prog 153 #[.pointer (some ⟨b, 0, none⟩)] w fun e w' => e = .returned (.int .i64 p.tail) ∧ Below w.heap.size w w' := by
  obtain ⟨mb, h1, ⟨D, hD, hM⟩, _⟩ := h
  obtain ⟨c0, c1, c2, _⟩ := three_cells h1
  have HD := Lib.hid hD
  have HM := Lib.hid hM
  have HBL := Lib.hid hD.lt
  have HOK := Lib.hid hok.each
  have HED := Lib.hid hok.edge
  have HT := Lib.hid (show tailP p.l p.edge = p.tail from rfl)
  generalize p.tail = tl at *
  generalize p.edge = ed at *
  clear h1 hD hM hok
  go_enter Tryz.func153, Tryz.ntmps153
  go_wp2_with (at_range; refine wpList_range_own _ rfl _ 99 rfl 103 98 pspot_law Tryz.underlying99 sheetR mb _ _ rfl HD.out ?_; intro w3 hrg0 hg0 hs0)
  go_frame
  have hbr := HBL.out
  have HX3 := Lib.hid (show Below w.heap.size w w3 from (Below.refl _ _).grown hg0 (Nat.le_refl _) (fun j hj => by cases hj))
  have hed := HED.out
  clear hg0 c0 c1 c2
  go_loopw [3] (fun v wr => ∃ (left : Lit → Bool) (cnt : Nat) (t : Int), v = .int .i64 t ∧ Hid (wr.ranges Tryz.prog 103 sheetR mb w.heap.size p.l.length D left cnt) ∧ Hid (Grp p.l ed left t) ∧ 0 ≤ t ∧ t ≤ 4096 ∧ Hid (Below w.heap.size w wr)) (fun _ wr => wr.rangeLeft mb w.heap.size)
  case atStart => exact ⟨_, _, ed, rfl, Lib.hid hrg0, Lib.hid (Grp.start HM.out ed), by omega, by omega, HX3⟩
  case round =>
    obtain ⟨left, cnt, t, rfl, HR, HG, t0, t1, HX⟩ := hrel
    clear hrg0
    go_wp2_with (at_next; refine wpList_next_ranges (α := Int) (β := Int × ByteArray) _ rfl _ rfl 103 pspot_law sheetR (fun x => .agg #[.int .i64 x]) (fun c => .agg #[.int .i64 c.1, .string c.2]) (fun key kl hkey => by obtain ⟨u, e, _⟩ := pspot_inv hkey; exact ⟨u, e⟩) (fun v y hv => by obtain ⟨k, s, e, _⟩ := sheetR_inv hv; exact ⟨(k, s), e⟩) mb w.heap.size _ _ _ _ rfl HR.out ?_ ?_)
    · intro hc0 hl0
      have HF := Lib.hid (HG.out.done hl0)
      go_wp2_with fail
      go_ret
      rw [← HT.out, ← HF.out]
      exact ⟨rfl, HX.out⟩
    · intro x y1 y2 kl z1 z2 w4 cnt4 hkey hlk hv hat hrg4 hlt hg4 hs4 hen
      obtain ⟨u, e, hwf⟩ := pspot_inv hkey
      obtain rfl : x = u := agg1_inj e
      obtain rfl : kl = klA x := Option.some.inj (hkey.symm.trans (pspot_key x hwf))
      have hin := HM.out.met hwf hat
      have hxb : 0 ≤ x ∧ x < 4096 := by
        obtain ⟨q, hq, rfl⟩ := hin
        have := (HOK.out q hq).1
        omega
      have hg5 := HG.out.step HM.out hin
      have HG5 := Lib.hid hg5
      have HB4 := HX.out.grown hg4 HX.out.size (fun j hj => by cases hj; exact Nat.le_refl _)
      have HX4 := Lib.hid (HB4.alloc HB4.size (.cells #[.int .i64 x] 103))
      have HR4 := Lib.hid (hrg4.alloc (.cells #[.int .i64 x] 103))
      obtain ⟨x0, x1⟩ := hxb
      clear e hkey hlk hv hat hrg4 hg4 hwf hin hg5 HB4
      obtain ⟨t2, ht2⟩ : ∃ t2, (if t < x + 1 then x + 1 else t) = t2 := ⟨_, rfl⟩
      have h5 : max t (x + 1) = t2 := by rw [← ht2]; split <;> omega
      rw [h5] at HG5
      have t20 : 0 ≤ t2 := by omega
      have t21 : t2 ≤ 4096 := by omega
      clear h5
      go_wp2_with fail
      go_roundw
      case rel => exact ⟨_, cnt4, t2, rfl, HR4, HG5, t20, t21, HX4⟩
      case measure => rw [HR4.out.left_eq, HR.out.left_eq]; exact hlt
theorem ptail_nil (w : World) : Calls Tryz.prog 153 #[.pointer none] w fun e w' => e = .returned (.int .i64 0) ∧ w = w' := by
  go_enter Tryz.func153, Tryz.ntmps153
  go_wp2_with fail
  go_ret
  exact ⟨rfl, rfl⟩
theorem calls_same {f : FuncId} {a : Array Value} {w : World} {v : Value} (h : Calls Tryz.prog f a w fun e w' => e = .returned v ∧ w = w') : Calls Tryz.prog f a w fun e w' => e = .returned v ∧ Below w.heap.size w w' := h.mono fun e w' ⟨h1, h2⟩ => ⟨h1, h2 ▸ Below.refl _ _⟩
theorem pageSays : PageSays PGm where
  lt := fun h => h.lt
  keep := fun h hk hG => h.keep hk hG
  new_yes := fun room w hr => pnew_yes room w hr
  new_no := fun room w hr _ => pnew_no room w hr
  write := fun G w b p a s h hok _ hs => pwrite_any G w b p a s h hok hs
  fill := fun G w b p a h hok _ => pfill_any G w b p a h hok
  trim := fun G w b p a h hok ha => ptrim_any G w b p a h hok ha
  read := fun G w b p a h hok _ => pread_any G w b p a h hok
  kind := fun G w b p a h _ _ => calls_same (kind_any G w b p a h)
  tail := fun G w b p h hok => ptail_any G w b p h hok
  used := fun G w b p h _ => calls_same (used_any G w b p h)
  nil_write := fun a s w hs => calls_same (pwrite_nil a s w hs)
  nil_fill := fun a w => calls_same (pfill_nil a w)
  nil_trim := fun a w => calls_same (ptrim_nil a w)
  nil_read := fun a w => calls_same (pread_nil a w)
  nil_kind := fun a w => calls_same (kind_nil a w)
  nil_tail := fun w => calls_same (ptail_nil w)
  nil_used := fun w => calls_same (used_nil w)
end Go.Proofs.YthffjanidjjkdaaGreat
namespace Go.Proofs.YthffjanidjjkdaaGreat
set_option linter.unusedVariables false
open Go.RowKit
/-- the nodes while address a is fetched that has, or is to have, V (its text S, if V is a text) -/
structure FNod (n0 : Nd) (V : Int) (S : ByteArray) (a : Int) (fill : Bool) (n : Nd) : Prop where
  ft : FtN n
  each : ∀ j, j < lenF a → FK n a j = 0 ∨ (FK n a j = V ∧ (V = 1 → FX n a j = S))
  kind : V = 0 ∨ V = 1 ∨ V = 2 ∨ V = 3
  one : V = 1 → FK n a 0 = 1
  two : V = 2 → fill = true ∨ FK n a 0 = 2
  nil : V = 0 → fill = false
  trim : V = 3 → ∀ j, j < lenF a → FK n a j = 3
  pre : PreA n a
  off : ∀ b i, i < lenF b → b ≠ a → FK n b i = FK n0 b i ∧ FX n b i = FX n0 b i
  edge : ∀ i, (n.u i).p.edge = (n0.u i).p.edge
  l : n.l = n0.l
  same : V = 0 ∨ V = 3 → n = n0
def foundS (V : Int) (S : ByteArray) : ByteArray := if V = 1 then S else noS
/-- where the fetch is -/
def PlF (n : Nd) (V : Int) (S : ByteArray) (a : Int) (fill : Bool) (f : Fe) : Prop :=
  f.at_ = 2 ∨ (f.at_ = 3 ∧ V ≠ 3) ∨ (f.at_ = 4 ∧ V = 2 ∧ fill = true) ∨
  (f.at_ = 5 ∧ (1 ≤ f.i ∧ f.i < lenF a) ∧ (V = 1 ∨ V = 2) ∧ f.kind = V ∧ f.s = foundS V S ∧ ∀ j, j < f.i → FK n a j = V) ∨
  (f.at_ = 7 ∧ f.kind = V ∧ f.s = foundS V S ∧ f.e = 0 ∧ ∀ j, j < lenF a → FK n a j = V)
structure FPr (a : Int) (fill : Bool) (f : Fe) : Prop where
  ep : f.ep = 0
  chains : f.L = thL
  addr : f.addr = a
  fill : f.fill = fill
def rankF (f : Fe) : Nat := if f.at_ = 2 then 5 else if f.at_ = 3 then 4 else if f.at_ = 4 then 3 else if f.at_ = 5 then 3 - f.i else 0
theorem one_low {P : Nat → Prop} (h : P 0) : ∀ j, j < 1 → P j := fun j hj => by
  have e : j = 0 := by omega
  rw [e]
  exact h
section
variable {n0 n n' : Nd} {V : Int} {S : ByteArray} {a : Int} {fill : Bool} {f : Fe}
theorem FNod.put (h : FNod n0 V S a fill n) (hv : V = 1 ∨ V = 2) {j : Nat} (hj : j < lenF a) (hb : ∀ i, i < j → FK n a i = V) (hm : Moved n n' a j) (hk : FK n' a j = V) (hx : V = 1 → FX n' a j = S) (h1 : V = 1 → j ≠ 0) :
    FNod n0 V S a fill n' ∧ ∀ i, i < j + 1 → FK n' a i = V := by
  have up : ∀ i, i < j + 1 → FK n' a i = V := fun i hi => by
    by_cases e : i = j
    · rw [e]; exact hk
    · rw [(hm.off a i (by omega) (fun g => e g.2)).1]; exact hb i (by omega)
  have each' : ∀ i, i < lenF a → FK n' a i = 0 ∨ (FK n' a i = V ∧ (V = 1 → FX n' a i = S)) := fun i hi => by
    by_cases e : i = j
    · rw [e]; exact .inr ⟨hk, hx⟩
    · obtain ⟨g1, g2⟩ := hm.off a i hi (fun g => e g.2)
      rw [g1, g2]
      exact h.each i hi
  refine ⟨⟨hm.ft, each', h.kind, fun e => ?_, fun e => .inr ?_, fun e => by omega, fun e => by omega, fun i hi h0 => ?_, fun b i hi hb => ?_, fun i => (hm.edge i).trans (h.edge i), hm.l.trans h.l, fun e => by omega⟩, up⟩
  · rw [(hm.off a 0 (by omega) (fun g => h1 e g.2.symm)).1]; exact h.one e
  · rw [up 0 (by omega)]; exact e
  · have e1 : FK n' a i ≠ 0 := by
      by_cases g1 : i < j + 1
      · rw [up i g1]; omega
      · rw [(hm.off a (i + 1) hi (fun g => by omega)).1] at h0
        rw [(hm.off a i (by omega) (fun g => by omega)).1, (h.pre i hi h0).1]
        exact h0
    rcases each' i (by omega) with g | ⟨g1, g2⟩
    · exact absurd g e1
    · rcases each' (i + 1) hi with k | ⟨k1, k2⟩
      · exact absurd k h0
      · exact ⟨g1.trans k1.symm, fun e => (g2 (g1 ▸ e)).trans (k2 (g1 ▸ e)).symm⟩
  · obtain ⟨g1, g2⟩ := hm.off b i hi (fun g => hb g.1)
    rw [g1, g2]
    exact h.off b i hi hb
theorem FPr.unitK (h : FPr a fill f) (ha : 0 ≤ a ∧ a < 42) (kd : Int) {i : Nat} (hi : i < lenF a) (s : ByteArray) : f.unitK kd i s = ⟨kd, (unF a i : Int), 0, a / 3, 0, 0, s, 0, [], none, 0⟩ := by
  unfold Fe.unitK Fe.chain
  rw [h.ep, h.chains, h.addr, thL_unit (by omega) hi, (thL_of (by omega)).1]
theorem asksA (ha : 0 ≤ a ∧ a < 42) {kd : Int} (hk : kd = 1 ∨ kd = 2 ∨ kd = 3) (i : Nat) {s : ByteArray} (hs : s.size ≤ 4096) : AskA a i ⟨kd, (unF a i : Int), 0, a / 3, 0, 0, s, 0, [], none, 0⟩ :=
  ⟨⟨hk, rfl, by show 0 ≤ a / 3 ∧ a / 3 < 14; omega, hs⟩, rfl, rfl⟩
theorem FPr.len (h : FPr a fill f) (ha : 0 ≤ a ∧ a < 42) : f.chain.length = lenF a := by
  unfold Fe.chain
  rw [h.ep, h.chains, h.addr, thL_len (by omega)]
/-- the mending that begins, or goes on -/
theorem mend_place (hp : FPr a fill f) (ha : 0 ≤ a ∧ a < 42) (hv : V = 1 ∨ V = 2) (hk : f.kind = V) (hs : f.s = foundS V S) {i : Nat} (hi : 1 ≤ i ∧ i ≤ lenF a) (hb : ∀ j, j < i → FK n a j = V) : FPr a fill (f.mend i) ∧ PlF n V S a fill (f.mend i) ∧ rankF (f.mend i) ≤ 3 - i := by
  unfold Fe.mend
  rw [hp.len ha]
  by_cases e : i = lenF a
  · rw [if_pos e]
    exact ⟨⟨hp.ep, hp.chains, hp.addr, hp.fill⟩, .inr (.inr (.inr (.inr ⟨rfl, hk, hs, rfl, by rw [← e]; exact hb⟩))), Nat.zero_le _⟩
  · rw [if_neg e]
    exact ⟨⟨hp.ep, hp.chains, hp.addr, hp.fill⟩, .inr (.inr (.inr (.inl ⟨rfl, ⟨hi.1, by show i < lenF a; omega⟩, hv, hk, hs, hb⟩))), Nat.le_refl _⟩
/-- what the first unit says -/
theorem first_place (h : FNod n0 V S a fill n) (hp : FPr a fill f) (ha : 0 ≤ a ∧ a < 42) (h3 : V ≠ 3) {x : An} (hc : x.code = (if FK n a 0 = 3 then 43 else if FK n a 0 = 0 then 42 else if FK n a 0 = 2 then 46 else 0)) (hx : FK n a 0 = 1 → x.data = FX n a 0) :
    FPr a fill (f.first x) ∧ PlF n V S a fill (f.first x) ∧ rankF (f.first x) ≤ 3 := by
  have hl := lenF_pos a
  rcases h.each 0 (by omega) with h0 | ⟨h0, hS⟩
  · have hc' : x.code = 42 := by rw [hc, h0]; rfl
    unfold Fe.first
    rw [hc', if_neg (by decide), if_neg (by decide), if_neg (by decide), if_pos rfl, hp.fill]
    cases fill with
    | true =>
      have hv : V = 2 := by
        rcases h.kind with e | e | e | e
        · exact absurd (h.nil e) (by decide)
        · have := h.one e; omega
        · exact e
        · exact absurd e h3
      exact ⟨⟨hp.ep, hp.chains, hp.addr, hp.fill⟩, .inr (.inr (.inl ⟨rfl, hv, rfl⟩)), Nat.le_refl _⟩
    | false =>
      have hv : V = 0 := by
        rcases h.kind with e | e | e | e
        · exact e
        · have := h.one e; omega
        · rcases h.two e with g | g
          · exact absurd g (by decide)
          · omega
        · exact absurd e h3
      refine ⟨⟨hp.ep, hp.chains, hp.addr, hp.fill⟩, .inr (.inr (.inr (.inr ⟨rfl, hv.symm, ?_, rfl, fun j hj => ?_⟩))), Nat.zero_le _⟩
      · unfold foundS
        rw [hv]
        rfl
      · rcases h.each j hj with g | g
        · rw [g, hv]
        · exact g.1
  · rcases h.kind with e | e | e | e
    · have hc' : x.code = 42 := by rw [hc, h0, e]; rfl
      have hf := h.nil e
      unfold Fe.first
      rw [hc', if_neg (by decide), if_neg (by decide), if_neg (by decide), if_pos rfl, hp.fill, hf]
      refine ⟨⟨hp.ep, hp.chains, hp.addr, hp.fill.trans hf⟩, .inr (.inr (.inr (.inr ⟨rfl, e.symm, ?_, rfl, fun j hj => ?_⟩))), Nat.zero_le _⟩
      · unfold foundS
        rw [e]
        rfl
      · rcases h.each j hj with g | g
        · rw [g, e]
        · exact g.1
    · have hc' : x.code = 0 := by rw [hc, h0, e]; rfl
      unfold Fe.first
      rw [if_pos hc']
      obtain ⟨g1, g2, g3⟩ := mend_place (n := n) (V := V) (S := S) (f := f.found 1 x.data) (i := 1) ⟨hp.ep, hp.chains, hp.addr, hp.fill⟩ ha (.inl e) e.symm (by show x.data = _; unfold foundS; rw [if_pos e, hx (h0.trans e), hS e]) ⟨Nat.le_refl _, hl.1⟩ (one_low h0)
      exact ⟨g1, g2, Nat.le_trans g3 (by omega)⟩
    · have hc' : x.code = 46 := by rw [hc, h0, e]; rfl
      unfold Fe.first
      rw [hc', if_neg (by decide), if_pos rfl]
      obtain ⟨g1, g2, g3⟩ := mend_place (n := n) (V := V) (S := S) (f := f.found 2 noS) (i := 1) ⟨hp.ep, hp.chains, hp.addr, hp.fill⟩ ha (.inr e) e.symm (by show noS = _; unfold foundS; rw [if_neg (by omega)]) ⟨Nat.le_refl _, hl.1⟩ (one_low h0)
      exact ⟨g1, g2, Nat.le_trans g3 (by omega)⟩
    · exact absurd e h3
/-- one question that comes to the nodes: what it leaves, whether its answer is heard or not -/
theorem FNod.turn (h : FNod n0 V S a fill n) (hp : FPr a fill f) (hl : PlF n V S a fill f) (ha : 0 ≤ a ∧ a < 42) (hS : V = 1 → S.size ≤ 4096) (h7 : f.at_ ≠ 7) :
    (FNod n0 V S a fill (n.done f.ask) ∧ PlF (n.done f.ask) V S a fill f) ∧ FPr a fill (f.hear (n.ans f.ask) true) ∧ PlF (n.done f.ask) V S a fill (f.hear (n.ans f.ask) true) ∧ rankF (f.hear (n.ans f.ask) true) < rankF f := by
  have hlen := lenF_pos a
  have nS : (noS : ByteArray).size ≤ 4096 := by decide
  have hh : ∀ x : An, x.code ≠ 45 → x.code ≠ 40 → f.at_ ≠ 1 → f.at_ ≠ 6 → f.hear x true = (if f.at_ = 2 then (if x.code = 0 then f.ends 1 x.data 0 else if x.code = 46 then f.ends 2 noS 0 else if x.code = 43 then f.ends 3 noS 0 else if x.code = 42 then (if f.chain.length = 1 then f.first x else f.to 3) else f.ends 0 noS x.code)
      else if f.at_ = 3 then f.first x
      else if f.at_ = 4 then (if x.code = 0 then (f.found 2 noS).mend 1 else if x.code = 41 then f.to 3 else if x.code = 43 then f.ends 3 noS 0 else f.ends 0 noS x.code)
      else (if x.code = 0 ∨ x.code = 41 then f.mend (f.i + 1) else if x.code = 43 then f.ends 3 noS 0 else f.ends 0 noS x.code)) := fun x e1 e2 e3 e4 => by
    unfold Fe.hear
    rw [if_neg (fun g => g.elim h7 Bool.noConfusion), if_neg e1, if_neg e2, if_neg e3, if_neg e4]
  rcases id hl with p | ⟨p, v3⟩ | ⟨p, v2, hfl⟩ | ⟨p, ⟨i1, i2⟩, hv, pk, ps, pb⟩ | ⟨p, _⟩
  · -- the last unit
    have ek : f.ask = f.unitK 3 (f.chain.length - 1) ⟨#[]⟩ := by unfold Fe.ask; rw [if_neg (by omega), if_pos p]
    rw [hp.len ha, hp.unitK ha 3 (by omega)] at ek
    have hA := asksA ha (.inr (.inr rfl)) (lenF a - 1) (s := ⟨#[]⟩) nS
    rw [← ek] at hA
    obtain ⟨r1, r2, r3⟩ := h.ft.read hA (by omega) (by rw [ek])
    rw [r3]
    refine ⟨⟨h, hl⟩, ?_⟩
    have hk3 : rankF f = 5 := by unfold rankF; rw [if_pos p]
    rw [hk3]
    rcases h.each (lenF a - 1) (by omega) with g | ⟨g1, g2⟩
    · have hc : (n.ans f.ask).code = 42 := by rw [r1, g]; rfl
      rw [hh _ (by omega) (by omega) (by omega) (by omega), if_pos p, hc, if_neg (by decide), if_neg (by decide), if_neg (by decide), if_pos rfl, hp.len ha]
      have v3 : V ≠ 3 := fun e => by have := h.trim e (lenF a - 1) (by omega); omega
      by_cases e1 : lenF a = 1
      · rw [if_pos e1]
        rw [e1] at g r1 r2
        obtain ⟨q1, q2, q3⟩ := first_place h hp ha v3 r1 r2
        exact ⟨q1, q2, by omega⟩
      · rw [if_neg e1]
        exact ⟨⟨hp.ep, hp.chains, hp.addr, hp.fill⟩, .inr (.inl ⟨rfl, v3⟩), by show 4 < 5; omega⟩
    · have hall : V ≠ 0 → ∀ j, j < lenF a → FK n a j = V := fun hv0 j hj => by
        have hd := (h.pre.down (lenF a - 1 - j) j (by omega) (by rw [show j + (lenF a - 1 - j) = lenF a - 1 by omega, g1]; exact hv0)).1
        rw [hd, show j + (lenF a - 1 - j) = lenF a - 1 by omega, g1]
      rcases h.kind with e | e | e | e
      · have g : FK n a (lenF a - 1) = 0 := g1.trans e
        have hc : (n.ans f.ask).code = 42 := by rw [r1, g]; rfl
        rw [hh _ (by omega) (by omega) (by omega) (by omega), if_pos p, hc, if_neg (by decide), if_neg (by decide), if_neg (by decide), if_pos rfl, hp.len ha]
        have v3 : V ≠ 3 := by omega
        by_cases e1 : lenF a = 1
        · rw [if_pos e1]
          rw [e1] at r1 r2
          obtain ⟨q1, q2, q3⟩ := first_place h hp ha v3 r1 r2
          exact ⟨q1, q2, by omega⟩
        · rw [if_neg e1]
          exact ⟨⟨hp.ep, hp.chains, hp.addr, hp.fill⟩, .inr (.inl ⟨rfl, v3⟩), by show 4 < 5; omega⟩
      · have hc : (n.ans f.ask).code = 0 := by rw [r1, g1, e]; rfl
        rw [hh _ (by omega) (by omega) (by omega) (by omega), if_pos p, if_pos hc]
        refine ⟨⟨hp.ep, hp.chains, hp.addr, hp.fill⟩, .inr (.inr (.inr (.inr ⟨rfl, e.symm, ?_, rfl, hall (by omega)⟩))), by show 0 < 5; omega⟩
        show (n.ans f.ask).data = _
        rw [r2 (g1.trans e), g2 e]
        unfold foundS
        rw [if_pos e]
      · have hc : (n.ans f.ask).code = 46 := by rw [r1, g1, e]; rfl
        rw [hh _ (by omega) (by omega) (by omega) (by omega), if_pos p, hc, if_neg (by decide), if_pos rfl]
        exact ⟨⟨hp.ep, hp.chains, hp.addr, hp.fill⟩, .inr (.inr (.inr (.inr ⟨rfl, e.symm, by show noS = _; unfold foundS; rw [if_neg (by omega)], rfl, hall (by omega)⟩))), by show 0 < 5; omega⟩
      · have hc : (n.ans f.ask).code = 43 := by rw [r1, g1, e]; rfl
        rw [hh _ (by omega) (by omega) (by omega) (by omega), if_pos p, hc, if_neg (by decide), if_neg (by decide), if_pos rfl]
        exact ⟨⟨hp.ep, hp.chains, hp.addr, hp.fill⟩, .inr (.inr (.inr (.inr ⟨rfl, e.symm, by show noS = _; unfold foundS; rw [if_neg (by omega)], rfl, hall (by omega)⟩))), by show 0 < 5; omega⟩
  · -- the first unit
    have ek : f.ask = f.unitK 3 0 ⟨#[]⟩ := by unfold Fe.ask; rw [if_neg (by omega), if_neg (by omega), if_pos p]
    rw [hp.unitK ha 3 (by omega)] at ek
    have hA := asksA ha (.inr (.inr rfl)) 0 (s := ⟨#[]⟩) nS
    rw [← ek] at hA
    obtain ⟨r1, r2, r3⟩ := h.ft.read hA (by omega) (by rw [ek])
    have hk3 : rankF f = 4 := by unfold rankF; rw [if_neg (by omega), if_pos p]
    have hne : (n.ans f.ask).code ≠ 45 ∧ (n.ans f.ask).code ≠ 40 := by
      rw [r1]
      repeat' split
      all_goals exact ⟨by decide, by decide⟩
    rw [r3, hk3, hh _ hne.1 hne.2 (by omega) (by omega), if_neg (by omega), if_pos p]
    obtain ⟨q1, q2, q3⟩ := first_place h hp ha v3 r1 r2
    exact ⟨⟨h, hl⟩, q1, q2, by omega⟩
  · -- junk of the first unit
    have ek : f.ask = f.unitK 2 0 ⟨#[]⟩ := by unfold Fe.ask; rw [if_neg (by omega), if_neg (by omega), if_neg (by omega), if_pos p]
    rw [hp.unitK ha 2 (by omega)] at ek
    have hA := asksA ha (.inr (.inl rfl)) 0 (s := ⟨#[]⟩) nS
    rw [← ek] at hA
    have hk3 : rankF f = 3 := by unfold rankF; rw [if_neg (by omega), if_neg (by omega), if_pos p]
    have key : (n.ans f.ask).code = 0 ∧ FNod n0 V S a fill (n.done f.ask) ∧ FK (n.done f.ask) a 0 = V := by
      by_cases h0 : FK n a 0 = 0
      · obtain ⟨r1, r2, r3⟩ := h.ft.fill_new hA (by omega) (by rw [ek]) h0
        obtain ⟨q1, q2⟩ := h.put (.inr v2) (by omega) (fun i hi => by omega) r2 (r3.trans v2.symm) (fun e => by omega) (fun e => by omega)
        exact ⟨r1, q1, q2 0 (by omega)⟩
      · obtain ⟨r1, r2⟩ := h.ft.fill_old hA (by omega) (by rw [ek]) h0
        have g : FK n a 0 = V := (h.each 0 (by omega)).elim (fun g => absurd g h0) (fun g => g.1)
        rw [r2]
        exact ⟨by rw [r1, g, v2]; rfl, h, g⟩
    obtain ⟨hc, k1, k2⟩ := key
    rw [hk3, hh _ (by omega) (by omega) (by omega) (by omega), if_neg (by omega), if_neg (by omega), if_pos p, if_pos hc]
    obtain ⟨g1, g2, g3⟩ := mend_place (n := n.done f.ask) (V := V) (S := S) (f := f.found 2 noS) (i := 1) ⟨hp.ep, hp.chains, hp.addr, hp.fill⟩ ha (.inr v2) v2.symm (by show noS = _; unfold foundS; rw [if_neg (by omega)]) ⟨Nat.le_refl _, hlen.1⟩ (one_low k2)
    exact ⟨⟨k1, .inr (.inr (.inl ⟨p, v2, hfl⟩))⟩, g1, g2, by omega⟩
  · -- the next unit
    have hk3 : rankF f = 3 - f.i := by unfold rankF; rw [if_neg (by omega), if_neg (by omega), if_neg (by omega), if_pos p]
    have key : ((n.ans f.ask).code = 0 ∨ (n.ans f.ask).code = 41) ∧ FNod n0 V S a fill (n.done f.ask) ∧ ∀ j, j < f.i + 1 → FK (n.done f.ask) a j = V := by
      rcases hv with v | v
      · have ek : f.ask = f.unitK 1 f.i f.s := by unfold Fe.ask; rw [if_neg (by omega), if_neg (by omega), if_neg (by omega), if_neg (by omega), if_pos p, if_pos (by omega)]
        rw [hp.unitK ha 1 i2] at ek
        have es : f.s = S := by rw [ps]; unfold foundS; rw [if_pos v]
        have hA := asksA ha (.inl rfl) f.i (s := f.s) (by rw [es]; exact hS v)
        rw [← ek] at hA
        by_cases h0 : FK n a f.i = 0
        · obtain ⟨r1, r2, r3, r4⟩ := h.ft.write_new hA i2 (by rw [ek]) h0
          obtain ⟨q1, q2⟩ := h.put (.inl v) i2 pb r2 (r3.trans v.symm) (fun _ => by rw [r4, ek]; exact es) (fun _ => by omega)
          exact ⟨.inl r1, q1, q2⟩
        · obtain ⟨r1, r2⟩ := h.ft.write_old hA i2 (by rw [ek]) h0
          have g : FK n a f.i = V := (h.each f.i i2).elim (fun g => absurd g h0) (fun g => g.1)
          rw [r2]
          exact ⟨.inr (by rw [r1, g, v]; rfl), h, fun j hj => by by_cases e : j = f.i; (· rw [e]; exact g); (· exact pb j (by omega))⟩
      · have ek : f.ask = f.unitK 2 f.i ⟨#[]⟩ := by unfold Fe.ask; rw [if_neg (by omega), if_neg (by omega), if_neg (by omega), if_neg (by omega), if_pos p, if_neg (by omega)]
        rw [hp.unitK ha 2 i2] at ek
        have hA := asksA ha (.inr (.inl rfl)) f.i (s := ⟨#[]⟩) nS
        rw [← ek] at hA
        by_cases h0 : FK n a f.i = 0
        · obtain ⟨r1, r2, r3⟩ := h.ft.fill_new hA i2 (by rw [ek]) h0
          obtain ⟨q1, q2⟩ := h.put (.inr v) i2 pb r2 (r3.trans v.symm) (fun e => by omega) (fun e => by omega)
          exact ⟨.inl r1, q1, q2⟩
        · obtain ⟨r1, r2⟩ := h.ft.fill_old hA i2 (by rw [ek]) h0
          have g : FK n a f.i = V := (h.each f.i i2).elim (fun g => absurd g h0) (fun g => g.1)
          rw [r2]
          exact ⟨.inl (by rw [r1, g, v]; rfl), h, fun j hj => by by_cases e : j = f.i; (· rw [e]; exact g); (· exact pb j (by omega))⟩
    obtain ⟨hc, k1, k2⟩ := key
    rw [hk3, hh _ (by omega) (by omega) (by omega) (by omega), if_neg (by omega), if_neg (by omega), if_neg (by omega), if_pos hc]
    obtain ⟨g1, g2, g3⟩ := mend_place (n := n.done f.ask) hp ha hv pk ps (i := f.i + 1) ⟨by omega, by omega⟩ k2
    exact ⟨⟨k1, .inr (.inr (.inr (.inl ⟨p, ⟨i1, i2⟩, hv, pk, ps, fun j hj => k2 j (by omega)⟩)))⟩, g1, g2, by omega⟩
  · exact absurd p h7
/-- an answer that a unit gives is short -/
theorem FtU.short {u : Us} (h : FtU u) (k : Ak) : (u.ans k).data.size ≤ 4096 := by
  have nS : (noS : ByteArray).size ≤ 4096 := by decide
  have hr : ∀ q, (u.p.readS q).size ≤ 4096 := fun q => by
    unfold Ps.readS Ps.text
    split
    · cases e : findP u.p.l q with
      | some x => exact (h.ok.each x (findP_some e).1).2.2
      | none => exact nS
    · exact nS
  unfold Us.ans
  repeat' split
  all_goals first | exact nS | exact hr _
/-- a question to a page of a unit -/
structure SmallF (k : Ak) : Prop where
  kind : 1 ≤ k.kind ∧ k.kind ≤ 3
  unit : 0 ≤ k.unit ∧ k.unit ≤ 15
  epoch : k.epoch = 0
  page : 0 ≤ k.page ∧ k.page < 14
  data : k.data.size ≤ 4096
theorem AskA.small {j : Nat} {k : Ak} (h : AskA a j k) (hj : j < lenF a) : SmallF k := by
  have h1 := h.q.kind
  have h2 := h.unit
  have h3 := unF_low hj
  exact ⟨by omega, by omega, h.q.ep, h.q.page, h.q.data⟩
theorem FNod.small (h : FNod n0 V S a fill n) (hp : FPr a fill f) (hl : PlF n V S a fill f) (ha : 0 ≤ a ∧ a < 42) (hS : V = 1 → S.size ≤ 4096) (h7 : f.at_ ≠ 7) : SmallF f.ask := by
  have hlen := lenF_pos a
  have nS : (noS : ByteArray).size ≤ 4096 := by decide
  rcases hl with p | ⟨p, v3⟩ | ⟨p, v2, hfl⟩ | ⟨p, ⟨i1, i2⟩, hv, pk, ps, pb⟩ | ⟨p, _⟩
  · have ek : f.ask = f.unitK 3 (f.chain.length - 1) ⟨#[]⟩ := by unfold Fe.ask; rw [if_neg (by omega), if_pos p]
    rw [hp.len ha, hp.unitK ha 3 (by omega)] at ek
    rw [ek]
    exact (asksA ha (.inr (.inr rfl)) (lenF a - 1) (s := ⟨#[]⟩) nS).small (by omega)
  · have ek : f.ask = f.unitK 3 0 ⟨#[]⟩ := by unfold Fe.ask; rw [if_neg (by omega), if_neg (by omega), if_pos p]
    rw [hp.unitK ha 3 (by omega)] at ek
    rw [ek]
    exact (asksA ha (.inr (.inr rfl)) 0 (s := ⟨#[]⟩) nS).small (by omega)
  · have ek : f.ask = f.unitK 2 0 ⟨#[]⟩ := by unfold Fe.ask; rw [if_neg (by omega), if_neg (by omega), if_neg (by omega), if_pos p]
    rw [hp.unitK ha 2 (by omega)] at ek
    rw [ek]
    exact (asksA ha (.inr (.inl rfl)) 0 (s := ⟨#[]⟩) nS).small (by omega)
  · rcases hv with v | v
    · have ek : f.ask = f.unitK 1 f.i f.s := by unfold Fe.ask; rw [if_neg (by omega), if_neg (by omega), if_neg (by omega), if_neg (by omega), if_pos p, if_pos (by omega)]
      rw [hp.unitK ha 1 i2] at ek
      have es : f.s = S := by rw [ps]; unfold foundS; rw [if_pos v]
      rw [ek]
      exact (asksA ha (.inl rfl) f.i (s := f.s) (by rw [es]; exact hS v)).small i2
    · have ek : f.ask = f.unitK 2 f.i ⟨#[]⟩ := by unfold Fe.ask; rw [if_neg (by omega), if_neg (by omega), if_neg (by omega), if_neg (by omega), if_pos p, if_neg (by omega)]
      rw [hp.unitK ha 2 i2] at ek
      rw [ek]
      exact (asksA ha (.inr (.inl rfl)) f.i (s := ⟨#[]⟩) nS).small i2
  · exact absurd p h7
theorem PlF.le (hl : PlF n V S a fill f) : rankF f ≤ 5 := by
  unfold rankF
  repeat' split
  all_goals omega
/-- a question of any fate -/
theorem FNod.fate {h : Hd} (hN : FNod n0 V S a fill h.n) (hp : FPr a fill f) (hl : PlF h.n V S a fill f) (ha : 0 ≤ a ∧ a < 42) (hS : V = 1 → S.size ≤ 4096) (h7 : f.at_ ≠ 7) (m : Int) :
    FNod n0 V S a fill (h.asked f.ask m).n ∧ FPr a fill (f.hear (h.heard f.ask m) (decide (m = 0))) ∧ PlF (h.asked f.ask m).n V S a fill (f.hear (h.heard f.ask m) (decide (m = 0))) ∧ (m = 0 → rankF (f.hear (h.heard f.ask m) (decide (m = 0))) < rankF f) := by
  obtain ⟨⟨t1, t2⟩, t3, t4, t5⟩ := hN.turn hp hl ha hS h7
  unfold Hd.asked Hd.heard
  by_cases m0 : m = 0
  · rw [if_pos (.inl m0), if_pos m0, decide_eq_true m0]
    exact ⟨t1, t3, t4, fun _ => t5⟩
  · have e : f.hear zeroX (decide (m = 0)) = f := by
      rw [decide_eq_false m0]
      unfold Fe.hear
      rw [if_pos (.inr rfl)]
    rw [if_neg (c := m = 0) m0, e]
    by_cases m2 : m = 2
    · rw [if_pos (.inr m2)]
      exact ⟨t1, hp, t2, fun g => absurd g m0⟩
    · rw [if_neg (by omega)]
      split
      · exact ⟨hN, hp, hl, fun g => absurd g m0⟩
      · exact ⟨hN, hp, hl, fun g => absurd g m0⟩
theorem FNod.short {h : Hd} (hN : FNod n0 V S a fill h.n) {k : Ak} (hk : SmallF k) (m : Int) : (h.heard k m).data.size ≤ 1000000 := by
  unfold Hd.heard
  split
  · have h1 := hk.kind
    have h2 := hk.unit
    unfold Nd.ans
    rw [if_pos (by omega), if_pos h2]
    exact Nat.le_trans ((hN.ft.u k.unit.toNat (by omega)).short k) (by decide)
  · show (noS : ByteArray).size ≤ _
    decide
theorem start_place (n : Nd) (V : Int) (S : ByteArray) (ha : 0 ≤ a ∧ a < 42) (fill : Bool) : FPr a fill (newFe 0 thL a fill) ∧ PlF n V S a fill (newFe 0 thL a fill) ∧ rankF (newFe 0 thL a fill) = 5 := by
  have ho : ofB 0 thL a = true := ofB_iff.2 ⟨thL_good, by omega⟩
  unfold newFe
  rw [if_pos ho]
  exact ⟨⟨rfl, rfl, rfl, rfl⟩, .inl rfl, rfl⟩
theorem PlF.ends (hl : PlF n V S a fill f) (h7 : f.at_ = 7) : f.overK = V ∧ f.overS = foundS V S ∧ f.overE = 0 ∧ f.overB = true ∧ ∀ j, j < lenF a → FK n a j = V := by
  rcases hl with p | ⟨p, _⟩ | ⟨p, _⟩ | ⟨p, _⟩ | ⟨p, p1, p2, p3, p4⟩
  · omega
  · omega
  · omega
  · omega
  · exact ⟨(if_pos h7).trans p1, (if_pos h7).trans p2, (if_pos h7).trans p3, decide_eq_true h7, p4⟩
end
end Go.Proofs.YthffjanidjjkdaaGreat
namespace Go.Proofs.YthffjanidjjkdaaGreat
open Go.RowKit
set_option maxRecDepth 20000
end Go.Proofs.YthffjanidjjkdaaGreat
