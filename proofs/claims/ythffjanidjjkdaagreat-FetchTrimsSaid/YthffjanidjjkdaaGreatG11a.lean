/- What the document's own Good returns. Conditions: the projection lies where the call was told, and is not too large. Plain facts on a fetch: what it asks, what each answer makes of it, how it is over. No conditions. Maps from numbers to numbers: which pairs one tells; one that a literal makes, one that a law fills. No conditions. -/
import Derived.Test.YthffjanidjjkdaaGreatG10a
import Derived.Test.YthffjanidjjkdaaGreatG10b
import Derived.Maps.Own
import Derived.Maps.OwnOps
import Derived.Maps.OwnSet
import Derived.Maps.Views
import Derived.DeepKeys4
set_option linter.unusedVariables false
namespace Go.Proofs.YthffjanidjjkdaaGreat
set_option linter.unusedVariables false
open Go.RowKit
set_option maxRecDepth 20000

theorem goodB_ep {ep : Int} {L : List (List Int)} (h : ep < 0 ∨ 2147483647 < ep) : goodB ep L = false := by
  rw [Bool.eq_false_iff]; intro e; have := (goodB_iff.1 e).1; omega
theorem goodB_len {ep : Int} {L : List (List Int)} (h : L.length < 1 ∨ 4 < L.length) : goodB ep L = false := by
  rw [Bool.eq_false_iff]; intro e; have := (goodB_iff.1 e).2.1; omega
theorem goodB_chain {ep : Int} {L : List (List Int)} {k : Nat} (hk : k < L.length) (h : L[k].length < 1 ∨ 4 < L[k].length) : goodB ep L = false := by
  rw [Bool.eq_false_iff]; intro e
  have := (chainB_iff.1 ((goodB_iff.1 e).2.2.1 _ (List.getElem_mem hk))).1
  omega
theorem goodB_unit {ep : Int} {L : List (List Int)} {k j : Nat} (hk : k < L.length) (hj : j < L[k].length) (h : L[k][j] < 0 ∨ 15 < L[k][j]) : goodB ep L = false := by
  rw [Bool.eq_false_iff]; intro e
  have := (chainB_iff.1 ((goodB_iff.1 e).2.2.1 _ (List.getElem_mem hk))).2 _ (List.getElem_mem hj)
  omega
theorem goodB_end {ep : Int} {L : List (List Int)} (h0 : 0 ≤ ep ∧ ep ≤ 2147483647) (h1 : 1 ≤ L.length ∧ L.length ≤ 4) (h : ∀ c ∈ L.take L.length, chainB c = true) : goodB ep L = decide ((unitsR L).length = (L.take L.length).flatten.length) := by
  rw [List.take_of_length_le (Nat.le_refl _)] at *
  rw [Bool.eq_iff_iff, goodB_iff, decide_eq_true_eq, unitsR_length]
  exact ⟨fun e => e.2.2.2, fun e => ⟨h0, h1, h, e⟩⟩
theorem flat_succ {L : List (List Int)} {k : Nat} (hk : k < L.length) : (L.take (k + 1)).flatten.length = (L.take k).flatten.length + L[k].length := by
  rw [List.take_succ_eq_append_getElem hk, List.flatten_append, List.length_append]
  simp
theorem flat_four {L : List (List Int)} {k : Nat} (hl : L.length ≤ 4) (h : ∀ c ∈ L.take k, chainB c = true) : (L.take k).flatten.length ≤ 16 := by
  have h1 := flat_le (L.take k) 4 (fun c hc => (chainB_iff.1 (h c hc)).1.2)
  have h2 : (L.take k).length ≤ 4 := by rw [List.length_take]; omega
  omega
set_option maxHeartbeats 4000000 in
theorem rgood_any (ep : Int) (ao : Option Addr) (cap : Nat) (L : List (List Int)) (w : World) (h : CL w ao L) (hl : L.length ≤ 255 ∧ ∀ c ∈ L, c.length ≤ 255) :
    Calls Tryz.prog 35 #[.agg #[.int .i64 ep, .slice ao L.length cap]] w fun e w' => e = .returned (.bool (goodB ep L)) ∧ Below w.heap.size w w' := by
  have HB0 := Lib.hid ((Below.refl w.heap.size w).alloc (Nat.le_refl _) (.cells #[.int .i64 ep, .slice ao L.length cap] 30))
  have HC := Lib.hid (h.below HB0.out)
  have hl' : (L.length : Int) ≤ 255 := by omega
  have HM := Lib.hid hl
  clear h hl
  by_cases he : ep < 0 ∨ 2147483647 < ep
  · rw [goodB_ep he]
    by_cases h0 : ep < 0
    · clear he
      go_enter Tryz.func35, Tryz.ntmps35
      go_wp2_with fail
      go_ret
      exact ⟨rfl, HB0.out⟩
    · have h1 : 2147483647 < ep := by omega
      clear he
      go_enter Tryz.func35, Tryz.ntmps35
      go_wp2_with fail
      go_ret
      exact ⟨rfl, HB0.out⟩
  have e0 : 0 ≤ ep := by omega
  have e1 : ep ≤ 2147483647 := by omega
  clear he
  by_cases hn : L.length < 1 ∨ 4 < L.length
  · rw [goodB_len hn]
    by_cases h0 : L.length < 1
    · have h2 : (L.length : Int) < 1 := by omega
      clear hn
      go_enter Tryz.func35, Tryz.ntmps35
      go_wp2_with fail
      go_ret
      exact ⟨rfl, HB0.out⟩
    · have h1 : (4 : Int) < (L.length : Int) := by omega
      have h2 : (1 : Int) ≤ (L.length : Int) := by omega
      clear hn
      go_enter Tryz.func35, Tryz.ntmps35
      go_wp2_with fail
      go_ret
      exact ⟨rfl, HB0.out⟩
  have n1 : (1 : Int) ≤ (L.length : Int) := by omega
  have n4 : (L.length : Int) ≤ 4 := by omega
  have HN4 := Lib.hid (show L.length ≤ 4 by omega)
  have HE := Lib.hid (@goodB_end ep L ⟨e0, e1⟩ (by omega))
  have HCH := Lib.hid (fun k hk => @goodB_chain ep L k hk)
  have HU := Lib.hid (fun k j hk hj => @goodB_unit ep L k j hk hj)
  clear hn hl'
  generalize goodB ep L = R at *
  go_enter Tryz.func35, Tryz.ntmps35
  go_wp2_with fail
  go_loop [3, 4] (fun s i => ∃ n m : Nat, i = .int .i64 n ∧ s = .int .i64 m ∧ n ≤ L.length ∧ m ≤ 16 ∧ Hid (m = (L.take n).flatten.length ∧ ∀ c ∈ L.take n, chainB c = true)) (fun _ i => L.length - (intOf i).toNat)
  case atStart => exact ⟨0, 0, rfl, rfl, Nat.zero_le _, Nat.zero_le _, Lib.hid ⟨rfl, by simp⟩⟩
  case round =>
    obtain ⟨n, m, rfl, rfl, hn, hm, HA⟩ := hrel
    by_cases hlt : n < L.length
    · obtain ⟨bk, off, ai, ci, hao, c0, hN⟩ := HC.out n hlt
      subst hao
      have k0 : (n : Int) < (L.length : Int) := by omega
      by_cases hc : L[n].length < 1 ∨ 4 < L[n].length
      · have HX := Lib.hid (HCH.out n hlt hc)
        have m0 := HM.out.2 _ (List.getElem_mem hlt)
        by_cases h0 : L[n].length < 1
        · have h1 : (L[n].length : Int) < 1 := by omega
          clear hc
          go_wp2_with fail
          go_ret
          rw [HX.out]
          exact ⟨rfl, HB0.out⟩
        · have h1 : (4 : Int) < (L[n].length : Int) := by omega
          have h2 : (1 : Int) ≤ (L[n].length : Int) := by omega
          clear hc
          go_wp2_with fail
          go_ret
          rw [HX.out]
          exact ⟨rfl, HB0.out⟩
      · have h1 : (1 : Int) ≤ (L[n].length : Int) := by omega
        have h2 : (L[n].length : Int) ≤ 4 := by omega
        have HL := Lib.hid (show 1 ≤ L[n].length ∧ L[n].length ≤ 4 by omega)
        have HNN := Lib.hid hN
        clear hc hN
        go_wp2_with fail
        go_loop [5] (fun k => ∃ j : Nat, k = .int .i64 j ∧ j ≤ L[n].length ∧ Hid (∀ u ∈ L[n].take j, 0 ≤ u ∧ u ≤ 15)) (fun k => L[n].length - (intOf k).toNat)
        case atStart => exact ⟨0, rfl, Nat.zero_le _, Lib.hid (by simp)⟩
        case round =>
          obtain ⟨j, rfl, hj, HJ⟩ := hrel
          by_cases hjt : j < L[n].length
          · obtain ⟨b5, o5, hai, c5⟩ := HNN.out.at j hjt
            subst hai
            have k5 : (j : Int) < (L[n].length : Int) := by omega
            by_cases hu : L[n][j] < 0 ∨ 15 < L[n][j]
            · have HX := Lib.hid (HU.out n j hlt hjt hu)
              generalize L[n][j] = u at *
              by_cases h0 : u < 0
              · clear hu
                go_wp2_with fail
                go_ret
                rw [HX.out]
                exact ⟨rfl, HB0.out⟩
              · have h3 : 15 < u := by omega
                have h4 : 0 ≤ u := by omega
                clear hu
                go_wp2_with fail
                go_ret
                rw [HX.out]
                exact ⟨rfl, HB0.out⟩
            · have h3 : 0 ≤ L[n][j] := by omega
              have h4 : L[n][j] ≤ 15 := by omega
              have HJ2 := Lib.hid (all_take_succ hjt HJ.out ⟨h3, h4⟩)
              generalize L[n][j] = u at *
              clear hu
              go_wp2_with fail
              go_round
              case rel => exact ⟨j + 1, by go_num, by omega, HJ2⟩
              case measure => simp [intOf]; omega
          · obtain rfl : j = L[n].length := by omega
            have HC2 := Lib.hid (show chainB L[n] = true from chainB_iff.2 ⟨HL.out, by have := HJ.out; rwa [List.take_of_length_le (Nat.le_refl _)] at this⟩)
            have HA2 := Lib.hid (all_take_succ hlt HA.out.2 HC2.out)
            have HF := Lib.hid (show m + L[n].length = (L.take (n + 1)).flatten.length by rw [flat_succ hlt, HA.out.1])
            have h16 := flat_four HN4.out HA2.out
            rw [← HF.out] at h16
            go_wp2_with fail
            go_round
            case rel => exact ⟨n + 1, m + L[n].length, by go_num, by go_num, by omega, h16, Lib.hid ⟨HF.out, HA2.out⟩⟩
            case measure => simp [intOf]; omega
    · obtain rfl : n = L.length := by omega
      have HX := Lib.hid (HE.out HA.out.2)
      rw [← HA.out.1] at HX
      by_cases hq : (unitsR L).length = m
      · have HR := Lib.hid (show R = true from by rw [HX.out]; exact decide_eq_true hq)
        have q1 : (((unitsR L).length : Int) == (m : Int)) = true := beq_iff_eq.2 (by omega)
        have q2 : ((unitsR L).length == m) = true := beq_iff_eq.2 hq
        clear hq
        go_wp2_with (go_at_call 57; refine (refUnits_any ep ao cap L _ HC.out HM.out).mono ?_; rintro e w1 ⟨bo, cb, rfl, _, hb1⟩)
        go_ret
        rw [HR.out]
        exact ⟨rfl, HB0.out.trans (hb1.mono HB0.out.size)⟩
      · have HR := Lib.hid (show R = false from by rw [HX.out]; exact decide_eq_false hq)
        have q1 : (((unitsR L).length : Int) == (m : Int)) = false := beq_eq_false_iff_ne.2 (by omega)
        have q2 : ((unitsR L).length == m) = false := beq_eq_false_iff_ne.2 hq
        clear hq
        go_wp2_with (go_at_call 57; refine (refUnits_any ep ao cap L _ HC.out HM.out).mono ?_; rintro e w1 ⟨bo, cb, rfl, _, hb1⟩)
        go_ret
        rw [HR.out]
        exact ⟨rfl, HB0.out.trans (hb1.mono HB0.out.size)⟩
end Go.Proofs.YthffjanidjjkdaaGreat
namespace Go.Proofs.YthffjanidjjkdaaGreat
set_option linter.unusedVariables false
open Go.RowKit
/-- a fetch: its projection, its address, does it fill?; where it is (1 layout, 2 last, 3 first, 4 junk, 5 mend, 6 check, 7 over), where it was ahead of a check; which unit is mended; what was found, its text; its error -/
structure Fe where
  ep : Int
  L : List (List Int)
  addr : Int
  fill : Bool
  at_ : Int
  was : Int
  i : Nat
  kind : Int
  s : ByteArray
  e : Int
def newFe (ep : Int) (L : List (List Int)) (addr : Int) (fill : Bool) : Fe := if ofB ep L addr = true then ⟨ep, L, addr, fill, 2, 0, 0, 0, noS, 0⟩ else ⟨ep, L, addr, fill, 7, 0, 0, 0, noS, 1⟩
def Fe.chain (f : Fe) : List Int := chainR f.ep f.L f.addr
/-- a question to the i-th unit of the chain -/
def Fe.unitK (f : Fe) (kind : Int) (i : Nat) (s : ByteArray) : Ak := ⟨kind, f.chain.getD i 0, f.ep, ofP f.ep f.L f.addr, 0, 0, s, 0, [], none, 0⟩
def Fe.asks (f : Fe) : Bool := decide (f.at_ ≠ 7)
def Fe.ask (f : Fe) : Ak :=
  if f.at_ = 1 ∨ f.at_ = 6 then layK else if f.at_ = 2 then f.unitK 3 (f.chain.length - 1) ⟨#[]⟩ else if f.at_ = 3 then f.unitK 3 0 ⟨#[]⟩ else if f.at_ = 4 then f.unitK 2 0 ⟨#[]⟩
  else if f.at_ = 5 then (if f.kind = 1 then f.unitK 1 f.i f.s else f.unitK 2 f.i ⟨#[]⟩) else zeroK
def Fe.to (f : Fe) (m : Int) : Fe := { f with at_ := m }
def Fe.ends (f : Fe) (kind : Int) (s : ByteArray) (e : Int) : Fe := { f with at_ := 7, kind := kind, s := s, e := e }
def Fe.found (f : Fe) (kind : Int) (s : ByteArray) : Fe := { f with kind := kind, s := s }
/-- mend from the i-th unit on -/
def Fe.mend (f : Fe) (i : Nat) : Fe := if i = f.chain.length then { f with at_ := 7, i := i, e := 0 } else { f with at_ := 5, i := i }
def Fe.first (f : Fe) (x : An) : Fe :=
  if x.code = 0 then (f.found 1 x.data).mend 1 else if x.code = 46 then (f.found 2 noS).mend 1 else if x.code = 43 then f.ends 3 noS 0
  else if x.code = 42 then (if f.fill = true then f.to 4 else f.ends 0 noS 0) else f.ends 0 noS x.code
def Fe.learns (f : Fe) (x : An) : Fe := { f with ep := x.pe, L := x.L, at_ := 2, kind := 0, s := noS }
/-- it hears an answer, or none -/
def Fe.hear (f : Fe) (x : An) (heard : Bool) : Fe :=
  if f.at_ = 7 ∨ heard = false then f
  else if x.code = 45 then (if f.at_ ≠ 1 ∧ f.at_ ≠ 6 then { f with at_ := 6, was := f.at_ } else f)
  else if x.code = 40 then f.to 1
  else if f.at_ = 1 then (if x.code = 0 ∧ goodB x.pe x.L = true then f.learns x else f)
  else if f.at_ = 6 then (if x.code = 0 ∧ goodB x.pe x.L = true ∧ x.pe ≠ f.ep then f.learns x else f.to f.was)
  else if f.at_ = 2 then (if x.code = 0 then f.ends 1 x.data 0 else if x.code = 46 then f.ends 2 noS 0 else if x.code = 43 then f.ends 3 noS 0 else if x.code = 42 then (if f.chain.length = 1 then f.first x else f.to 3) else f.ends 0 noS x.code)
  else if f.at_ = 3 then f.first x
  else if f.at_ = 4 then (if x.code = 0 then (f.found 2 noS).mend 1 else if x.code = 41 then f.to 3 else if x.code = 43 then f.ends 3 noS 0 else f.ends 0 noS x.code)
  else (if x.code = 0 ∨ x.code = 41 then f.mend (f.i + 1) else if x.code = 43 then f.ends 3 noS 0 else f.ends 0 noS x.code)
/-- how it ended: what was found, its text, the error, whether it did -/
def Fe.overK (f : Fe) : Int := if f.at_ = 7 then f.kind else 0
def Fe.overS (f : Fe) : ByteArray := if f.at_ = 7 then f.s else noS
def Fe.overE (f : Fe) : Int := if f.at_ = 7 then f.e else 0
def Fe.overB (f : Fe) : Bool := decide (f.at_ = 7)
end Go.Proofs.YthffjanidjjkdaaGreat
namespace Go.Proofs.YthffjanidjjkdaaGreat
open Go.RowKit Go.Maps
set_option maxRecDepth 20000
theorem int_law : Keyed Tryz.prog 3 := int_keyed Tryz.underlying3
theorem int_key {u : Int} (hu : (Lit.int .i64 u).wf = true) : keyOf Tryz.prog 3 (.int .i64 u) = some (.int .i64 u) := by
  simp [keyOf, Tryz.underlying3, mapKey, hu]
/-- the map's datum tells the pairs K, each number once -/
structure MK (D : DataW Unit) (K : List (Int × Int)) : Prop where
  tidy : Tidy D
  hs : ∀ u, (Lit.int .i64 u).wf = true → Maps.has D (.int .i64 u) = decide (u ∈ K.map (·.1))
  size : Maps.size D = K.length
  at_ : ∀ e ∈ K, ∀ z, D.atKey (.int .i64 e.1) z = .lit (.int .i64 e.2)
  once : (K.map (·.1)).Nodup
theorem MK.nil : MK (.map []) [] := ⟨tidy_empty, fun _ _ => rfl, rfl, fun e he => (by cases he), List.Pairwise.nil⟩
theorem MK.put {D : DataW Unit} {K : List (Int × Int)} (h : MK D K) {u v : Int} (hu : (Lit.int .i64 u).wf = true) (hn : u ∉ K.map (·.1)) : MK (D.put (.int .i64 u) (.lit (.int .i64 v))) (K ++ [(u, v)]) := by
  have hk : WideAt.IsKeyLit (.int .i64 u) := int_law.key (int_key hu)
  refine ⟨h.tidy.put hk _, fun x hx => ?_, ?_, fun e he z => ?_, ?_⟩
  · by_cases e : x = u
    · subst e
      rw [has_put_same h.tidy.isMap hk]
      exact (decide_eq_true (by simp)).symm
    · rw [has_put_other (fun e2 => e (by injection e2)), h.hs x hx]
      simp [e]
  · rw [size_put h.tidy, h.hs u hu, h.size, decide_eq_false hn]
    simp
  · by_cases e2 : e.1 = u
    · have e3 : e = (u, v) := by
        rcases List.mem_append.1 he with h1 | h1
        · exact absurd (e2 ▸ List.mem_map.2 ⟨e, h1, rfl⟩) hn
        · exact List.mem_singleton.1 h1
      subst e3
      exact atKey_put_same h.tidy.isMap hk _ _
    · rw [atKey_put_other (fun e3 => e2 (by injection e3))]
      rcases List.mem_append.1 he with h1 | h1
      · exact h.at_ e h1 z
      · exact absurd (by rw [List.mem_singleton.1 h1]) e2
  · rw [List.map_append, List.nodup_append]
    refine ⟨h.once, by simp, fun a ha b hb e => ?_⟩
    rw [List.map_singleton, List.mem_singleton] at hb
    subst hb
    exact hn (e ▸ ha)
/-- the map at block b tells the pairs K -/
def Tm (w : World) (b : Nat) (K : List (Int × Int)) : Prop := ∃ D, w.ownsMap Tryz.prog 3 (plainElem Tryz.prog 3) b K.length D ∧ MK D K
theorem Tm.made (w : World) : Tm (w.alloc (.map #[] 0)) w.heap.size [] := ⟨_, World.ownsMap_made _ _ _ _, MK.nil⟩
theorem Tm.below {w w' : World} {b : Nat} {K : List (Int × Int)} (h : Tm w b K) (hb : Below w.heap.size w w') : Tm w' b K := by
  obtain ⟨D, ⟨es, clock, h1, h2⟩, h3⟩ := h
  exact ⟨D, ⟨es, clock, below_heap hb h1, h2⟩, h3⟩
theorem Tm.lt {w : World} {b : Nat} {K : List (Int × Int)} (h : Tm w b K) : b < w.heap.size := by
  obtain ⟨D, h1, _⟩ := h
  exact h1.lt
/-- how many entries its block has -/
theorem Tm.block {w : World} {b : Nat} {K : List (Int × Int)} (h : Tm w b K) : ∃ es clock, w.heap[b]? = some (.map es clock) ∧ es.size = K.length := by
  obtain ⟨D, ⟨es, clock, h1, _, _, rfl⟩, h3⟩ := h
  refine ⟨es, clock, h1, ?_⟩
  rw [← h3.size, size_eq, length_sorted]
  simp
end Go.Proofs.YthffjanidjjkdaaGreat
