/- What the document's own Next returns. Conditions: the projections lie where the call was told, and are not too large. What the document's own Chain returns. Conditions: the projection lies where the call was told, and is not too large. What the program's own 'met' returns: a map in which each unit of a projection leads to a place where it stands, and nothing else does. Conditions: the projection lies where the call was told, and is not too large. Chains that a statement lays out itself: one of any units, or two. Conditions: numbers of 64 bits. Plain facts on addresses over chains of three units, two, one: what their units have, what each question makes of that. No conditions but those that the statements name. -/
import Derived.Test.YthffjanidjjkdaaGreatG12b
import Derived.Test.YthffjanidjjkdaaGreatG08b
import Derived.Test.YthffjanidjjkdaaGreatG11a
import Derived.Test.YthffjanidjjkdaaGreatG12a
import Derived.Maps.RangeWalk
set_option linter.unusedVariables false
namespace Go.Proofs.YthffjanidjjkdaaGreat
set_option linter.unusedVariables false
open Go.RowKit
set_option maxRecDepth 20000

theorem zip_no {L1 L2 : List (List Int)} {f : List Int × List Int → Bool} {k : Nat} (h1 : k < L1.length) (h2 : k < L2.length) (h : f (L1[k], L2[k]) = false) : (L1.zip L2).all f = false := by
  rw [Bool.eq_false_iff]
  intro e
  have hm : (L1[k], L2[k]) ∈ L1.zip L2 := by
    have : (L1.zip L2)[k]'(by rw [List.length_zip]; omega) = (L1[k], L2[k]) := List.getElem_zip
    rw [← this]
    exact List.getElem_mem _
  rw [List.all_eq_true.1 e _ hm] at h
  cases h
theorem zip_yes {L1 L2 : List (List Int)} {f : List Int × List Int → Bool} (h : ∀ i, i < L1.length → ∀ (h1 : i < L1.length) (h2 : i < L2.length), f (L1[i], L2[i]) = true) : (L1.zip L2).all f = true := by
  rw [List.all_eq_true]
  intro c hc
  obtain ⟨i, hi, rfl⟩ := List.getElem_of_mem hc
  rw [List.length_zip] at hi
  rw [List.getElem_zip]
  exact h i (by omega) (by omega) (by omega)
def outB (U : List Int) (l : List Int) : Bool := l.all (fun y => !decide (y ∈ U))
theorem seq_step {U old now rest : List Int} {y : Nat} {m : Bool} (hy : y < now.length) (hz : now[y] ∈ old) : seqB U old (now.drop y) rest m = match rest.dropWhile (fun t => t != now[y]) with | [] => false | _ :: r => seqB U old (now.drop (y + 1)) r true := by
  rw [List.drop_eq_getElem_cons hy]
  show (if now[y] ∈ old then _ else _) = _
  rw [if_pos hz]
  rfl
theorem seq_found {U old now rest r : List Int} {y : Nat} {m : Bool} {t : Int} (hy : y < now.length) (hz : now[y] ∈ old) (h : rest.dropWhile (fun t => t != now[y]) = t :: r) : seqB U old (now.drop y) rest m = seqB U old (now.drop (y + 1)) r (decide (0 < y + 1)) := by
  rw [seq_step hy hz, h]
  simp
theorem seq_lost {U old now rest : List Int} {y : Nat} {m : Bool} (hy : y < now.length) (hz : now[y] ∈ old) (h : rest.dropWhile (fun t => t != now[y]) = []) : seqB U old (now.drop y) rest m = false := by
  rw [seq_step hy hz, h]
theorem drop_at {l : List Int} {x : Nat} (h : x < l.length) {p : Int → Bool} (e : p l[x] = true) : (l.drop x).dropWhile p = (l.drop (x + 1)).dropWhile p := by
  rw [List.drop_eq_getElem_cons h, List.dropWhile_cons_of_pos e]
theorem drop_stop {l : List Int} {x : Nat} (h : x < l.length) {p : Int → Bool} (e : p l[x] = false) : (l.drop x).dropWhile p = l[x] :: l.drop (x + 1) := by
  rw [List.drop_eq_getElem_cons h, List.dropWhile_cons_of_neg (by rw [e]; decide)]
theorem out_step {U l : List Int} {y : Nat} (h : y < l.length) (e : l[y] ∉ U) : outB U (l.drop y) = outB U (l.drop (y + 1)) := by
  rw [List.drop_eq_getElem_cons h]
  show (!decide (l[y] ∈ U) && outB U (l.drop (y + 1))) = _
  rw [decide_eq_false e]
  rfl
theorem out_no {U l : List Int} {y : Nat} (h : y < l.length) (e : l[y] ∈ U) : outB U (l.drop y) = false := by
  rw [List.drop_eq_getElem_cons h]
  show (!decide (l[y] ∈ U) && outB U (l.drop (y + 1))) = _
  rw [decide_eq_true e]
  rfl
end Go.Proofs.YthffjanidjjkdaaGreat
namespace Go.Proofs.YthffjanidjjkdaaGreat
open Go.RowKit
set_option maxRecDepth 20000
theorem chainR_no {ep : Int} {L : List (List Int)} {a : Int} (h : ofB ep L a = false) : chainR ep L a = [] := if_neg (by rw [h]; decide)
theorem chainR_yes {ep : Int} {L : List (List Int)} {a : Int} (h : ofB ep L a = true) {k : Nat} (hk : k < L.length) (e : a % (L.length : Int) = k) : chainR ep L a = L[k] := by
  unfold chainR
  rw [if_pos h, e, Int.toNat_natCast]
  simp [hk]
theorem made_at (w : World) {B n : Nat} (hn : w.heap.size = n) (hB : B ≤ n) : OI (w.alloc (.cells #[] 3)) B (.slice (some ⟨n, 0, none⟩) 0 0) [] := by
  subst hn
  exact OI.made w hB
set_option maxHeartbeats 4000000 in
theorem refChainO_any (ep : Int) (ao : Option Addr) (cap : Nat) (L : List (List Int)) (a : Int) (w : World) (h : CL w ao L) (hl : L.length ≤ 255 ∧ ∀ c ∈ L, c.length ≤ 255) :
    Calls Tryz.prog 13 #[.agg #[.int .i64 ep, .slice ao L.length cap], .int .i64 a] w fun e w' => ∃ bo cb, e = .returned (.slice bo (chainR ep L a).length cb) ∧ OI w' w.heap.size (.slice bo (chainR ep L a).length cb) (chainR ep L a) ∧ Below w.heap.size w w' := by
  have HB0 := Lib.hid ((Below.refl w.heap.size w).alloc (Nat.le_refl _) (.cells #[.int .i64 ep, .slice ao L.length cap] 30))
  have HC := Lib.hid (h.below HB0.out)
  have HP := Lib.hid (show PB (w.alloc (.cells #[.int .i64 ep, .slice ao L.length cap] 30)) w.heap.size ep ao L.length cap from heap_alloc_new _ _)
  have CO := Lib.hid (refOf_any ep ao cap L a _ HC.out hl)
  have hl' : (L.length : Int) ≤ 255 := by have := hl.1; omega
  have HM := Lib.hid hl
  clear h hl
  by_cases ho : ofB ep L a = true
  · obtain ⟨hg, ha⟩ := ofB_iff.1 ho
    obtain ⟨n1, n4⟩ := good_len hg
    obtain ⟨r1, _, _⟩ := of_range (n := L.length) ⟨by omega, by omega⟩ ha
    obtain ⟨k, hk⟩ := Int.eq_ofNat_of_zero_le r1.1
    have hkl : k < L.length := by omega
    have HX := Lib.hid (chainR_yes ho hkl hk)
    rw [gotV_yes ho, hk] at CO
    have mo := HM.out.2 _ (List.getElem_mem hkl)
    have mo' : L[k].length ≤ 1000000 := by omega
    have k0 : (k : Int) < (L.length : Int) := by omega
    clear ho hg ha r1 hk
    generalize a / (L.length : Int) = q at *
    go_enter Tryz.func13, Tryz.ntmps13
    go_wp2_with (first
      | (go_at_call 14; refine CO.out.mono ?_; rintro e w1 ⟨rfl, hb1⟩; have HB1 := Lib.hid (HB0.out.trans (hb1.mono HB0.out.size)); obtain ⟨b0, b1⟩ := (HP.out.below hb1).cells; obtain ⟨bk, off, ai, ci, hao, c0, hN⟩ := (HC.out.below hb1) k hkl; subst hao; have HN := Lib.hid hN; have hw1 := block_lt_of_cell b1; have hbk := block_lt_of_cell c0; have HMD := Lib.hid (made_at (w1.alloc (.cells #[.int .i64 k, .int .i64 q, .bool true] 41)) (B := w.heap.size) (n := w1.heap.size + 1) (by simp) (by have := HB1.out.size; simp; omega)); clear hb1 hN)
      | (refine wpList_app_ints (o := ⟨some 20, _, _, _, _, _⟩) rfl (.tmp 12) (.tmp 19) rfl (B := w.heap.size) (v := .slice (some ⟨w1.heap.size + 1, 0, none⟩) 0 0) (D := []) rfl HMD.out (ao := ai) (cap := ci) (l := L[k]) rfl rfl ((HN.out.alloc _).alloc _) (by simp; omega) (by have := HB1.out.size; simp; omega) ?_; intro v2 w2 hI hg _; rw [List.nil_append] at hI; obtain ⟨a2, c2, hv2, hN2, _, _⟩ := hI.form; have HB2 := Lib.hid (((HB1.out.alloc HB1.out.size _).alloc (by have := HB1.out.size; simp; omega) _).grown hg (by have := HB1.out.size; simp; omega) (fun k e => by have := HB1.out.size; have e2 : w1.heap.size + 1 = k := Option.some.inj e; omega)); subst hv2; have HN2 := Lib.hid hI; clear hI hg hN2))
    go_ret
    rw [HX.out]
    exact ⟨_, _, rfl, HN2.out, HB2.out⟩
  · have ho' : ofB ep L a = false := Bool.eq_false_iff.2 ho
    rw [gotV_no ho'] at CO
    rw [chainR_no ho']
    clear ho ho'
    go_enter Tryz.func13, Tryz.ntmps13
    go_wp2_with (go_at_call 14; refine CO.out.mono ?_; rintro e w1 ⟨rfl, hb1⟩; have HB1 := Lib.hid (HB0.out.trans (hb1.mono HB0.out.size)); clear hb1)
    go_ret
    exact ⟨none, 0, rfl, OI.nil _ _, HB1.out.alloc HB1.out.size _⟩
end Go.Proofs.YthffjanidjjkdaaGreat
namespace Go.Proofs.YthffjanidjjkdaaGreat
open Go.RowKit Go.Maps
set_option maxRecDepth 20000
theorem unit_key_row : (177 : TypeId) < Tryz.prog.types.size := of_decide_eq_true (by kernel_rfl)
theorem unit_law : Keyed Tryz.prog 177 := Keyed.of_law (deep_law_laid laidOut (m := 2) (by omega) unit_key_row (by kernel_rfl) (by rw [Tryz.underlying177]))
/-- a unit as a key -/
def klU (u : Int) : Lit := .string (keyBytes [.int .i64 u])
theorem types_succ : ∃ n, Tryz.prog.types.size = n + 1 := ⟨Tryz.prog.types.size - 1, by have h := Nat.lt_of_le_of_lt (Nat.zero_le _) unit_key_row; exact (Nat.succ_pred_eq_of_pos h).symm⟩
theorem unit_key (u : Int) (hu : (Lit.int .i64 u).wf = true) : keyOf Tryz.prog 177 (.agg #[.int .i64 u]) = some (klU u) := by
  obtain ⟨n, hn⟩ := types_succ
  exact key_one Tryz.underlying177 (by kernel_rfl) (by rfl) rfl (by kernel_rfl) Tryz.underlying3 (by kernel_rfl) hn hu
theorem unit_inj (u v : Int) (h : (Value.agg #[Value.int .i64 u]) = .agg #[.int .i64 v]) : u = v := by simpa using h
theorem klU_inj {u v : Int} (hu : (Lit.int .i64 u).wf = true) (hv : (Lit.int .i64 v).wf = true) (h : klU u = klU v) : u = v :=
  unit_inj u v (unit_law.inj (unit_key u hu) (h ▸ unit_key v hv))
theorem klU_key {u : Int} (hu : (Lit.int .i64 u).wf = true) : WideAt.IsKeyLit (klU u) := unit_law.key (unit_key u hu)
/-- a place: in which chain, how far behind its beginning -/
def spotD (i j : Int) : DataW Unit := .agg [.lit (.int .i64 i), .lit (.int .i64 j)]
def spotR : Value → Option (DataW Unit × List MemPlace)
  | .agg a => match a.toList with
    | [.int .i64 i, .int .i64 j] => some (spotD i j, [])
    | _ => none
  | _ => none
theorem spotR_mk (i j : Int) : spotR (.agg #[.int .i64 i, .int .i64 j]) = some (spotD i j, []) := rfl
theorem spotR_inv {v : Value} {z : DataW Unit × List MemPlace} (h : spotR v = some z) : ∃ i j, v = .agg #[.int .i64 i, .int .i64 j] ∧ z = (spotD i j, []) := by
  unfold spotR at h
  split at h
  · next a =>
    split at h
    · next i j e =>
      cases h
      refine ⟨i, j, ?_, rfl⟩
      rw [← Array.toArray_toList (xs := a), e]
    · cases h
  · cases h
theorem spotD_inj {i j k l : Int} (h : spotD i j = spotD k l) : i = k ∧ j = l := by
  unfold spotD at h
  simpa using h
theorem zero_spot (w : World) : (zeroValue 175).run Tryz.prog w = .ok (.agg #[.int .i64 0, .int .i64 0]) w := by kernel_rfl
/-- each unit of S, and nothing else, leads to a place in L where it stands -/
structure Ms (L : List (List Int)) (D : DataW Unit) (S : List Int) : Prop where
  tidy : Tidy D
  hs : ∀ u, (Lit.int .i64 u).wf = true → Maps.has D (klU u) = decide (u ∈ S)
  size : Maps.size D = (insAll [] S).length
  spot : ∀ u ∈ S, ∃ (i j : Nat) (hi : i < L.length) (hj : j < L[i].length), L[i][j] = u ∧ ∀ zd, D.atKey (klU u) zd = spotD i j
theorem Ms.nil (L : List (List Int)) : Ms L (.map []) [] := ⟨tidy_empty, fun _ _ => rfl, rfl, fun u hu => by cases hu⟩
theorem Ms.put {L : List (List Int)} {D : DataW Unit} {S : List Int} (h : Ms L D S) (hS : ∀ u ∈ S, (Lit.int .i64 u).wf = true) {i j : Nat} (hi : i < L.length) (hj : j < L[i].length) (hu : (Lit.int .i64 L[i][j]).wf = true) :
    Ms L (D.put (klU L[i][j]) (spotD i j)) (S ++ [L[i][j]]) := by
  have hk := klU_key hu
  refine ⟨h.tidy.put hk _, fun v hv => ?_, ?_, fun v hv => ?_⟩
  · by_cases e : v = L[i][j]
    · subst e
      rw [has_put_same h.tidy.isMap hk]
      exact (decide_eq_true (by simp)).symm
    · rw [has_put_other (fun e2 => e (klU_inj hv hu e2)), h.hs v hv]
      simp [e]
  · rw [size_put h.tidy, h.hs _ hu, h.size, insAll_snoc, insU_length _ _ (insAll_rises _ _ List.Pairwise.nil)]
    by_cases e : L[i][j] ∈ S
    · simp [e, insAll_mem]
    · simp [e, insAll_mem]
  · by_cases e : v = L[i][j]
    · subst e
      exact ⟨i, j, hi, hj, rfl, fun zd => atKey_put_same h.tidy.isMap hk _ _⟩
    · have hv' : v ∈ S := by
        rcases List.mem_append.1 hv with h1 | h1
        · exact h1
        · exact absurd (List.mem_singleton.1 h1) e
      obtain ⟨a, b, ha, hb, e1, e2⟩ := h.spot v hv'
      exact ⟨a, b, ha, hb, e1, fun zd => by rw [atKey_put_other (fun e3 => e (klU_inj (hS v hv') hu e3))]; exact e2 zd⟩
/-- the map at block b leads each unit of S to its place -/
def Mt (w : World) (b : Nat) (L : List (List Int)) (S : List Int) : Prop := ∃ D, w.ownsMap Tryz.prog 177 spotR b S.length D ∧ Ms L D S
theorem Mt.made (w : World) (L : List (List Int)) : Mt (w.alloc (.map #[] 0)) w.heap.size L [] := ⟨_, World.ownsMap_made _ _ _ _, Ms.nil L⟩
theorem Mt.below {w w' : World} {b : Nat} {L : List (List Int)} {S : List Int} (h : Mt w b L S) (hb : Below w.heap.size w w') : Mt w' b L S := by
  obtain ⟨D, ⟨es, clock, h1, h2⟩, h3⟩ := h
  exact ⟨D, ⟨es, clock, below_heap hb h1, h2⟩, h3⟩
theorem Mt.lt {w : World} {b : Nat} {L : List (List Int)} {S : List Int} (h : Mt w b L S) : b < w.heap.size := by
  obtain ⟨D, h1, _⟩ := h
  exact h1.lt
/-- in the map that 'met' returns, all units stand -/
theorem preU_wf2 {w : World} {ao : Option Addr} {L : List (List Int)} (h : CL w ao L) : ∀ u ∈ L.flatten, (Lit.int .i64 u).wf = true := by
  have := preU_wf h L.length 0
  rwa [preU_all] at this
set_option maxHeartbeats 4000000 in
theorem met_any (ep : Int) (ao : Option Addr) (cap : Nat) (L : List (List Int)) (w : World) (h : CL w ao L) (hl : L.length ≤ 255 ∧ ∀ c ∈ L, c.length ≤ 255) :
    Calls Tryz.prog 75 #[.agg #[.int .i64 ep, .slice ao L.length cap]] w fun e w' => ∃ b, e = .returned (.map (some b)) ∧ w.heap.size ≤ b ∧ Mt w' b L L.flatten ∧ Below w.heap.size w w' := by
  have HB0 := Lib.hid ((Below.refl w.heap.size w).alloc (Nat.le_refl _) (.cells #[.int .i64 ep, .slice ao L.length cap] 30))
  have hl' : (L.length : Int) ≤ 255 := by have := hl.1; omega
  have HT := Lib.hid h
  have HM := Lib.hid hl
  have hmm := @run_makeMap Tryz.prog
  clear h hl
  go_enter Tryz.func75, Tryz.ntmps75
  go_wp2_with fail
  go_loopw [12] (fun i wr => ∃ n : Nat, i = .int .i64 n ∧ n ≤ L.length ∧ Hid (Mt wr (w.heap.size + 1) L (preU L n 0)) ∧ Hid (Below (w.heap.size + 1) (w.alloc (.cells #[.int .i64 ep, .slice ao L.length cap] 30)) wr)) (fun i _ => L.length - (intOf i).toNat)
  case atStart => exact ⟨0, rfl, Nat.zero_le _, Lib.hid (by rw [preU_zero]; have h := Mt.made (w.alloc (.cells #[.int .i64 ep, .slice ao L.length cap] 30)) L; simpa using h), Lib.hid ((Below.refl _ _).alloc (by simp) _)⟩
  case round =>
    obtain ⟨n, rfl, hn, HO, HB⟩ := hrel
    by_cases hlt : n < L.length
    · have HWB := Lib.hid (HB0.out.trans (HB.out.mono (by omega)))
      obtain ⟨bk, off, ai, ci, hao, c0w, hN⟩ := HT.out n hlt
      subst hao
      have c0 : wr.cell? ⟨bk, off + n, none⟩ = some (.slice ai L[n].length ci) := cellB HWB.out (block_lt_of_cell c0w) c0w
      have HNN := Lib.hid hN
      have k0 : (n : Int) < (L.length : Int) := by omega
      have m0 := HM.out.2 _ (List.getElem_mem hlt)
      have m0' : (L[n].length : Int) ≤ 255 := by omega
      clear c0w hN
      go_wp2_with fail
      go_loopw [19] (fun j wq => ∃ k : Nat, j = .int .i64 k ∧ k ≤ L[n].length ∧ Hid (Mt wq (w.heap.size + 1) L (preU L n k)) ∧ Hid (Below (w.heap.size + 1) (w.alloc (.cells #[.int .i64 ep, .slice (some ⟨bk, off, none⟩) L.length cap] 30)) wq)) (fun j _ => L[n].length - (intOf j).toNat)
      case atStart => exact ⟨0, rfl, Nat.zero_le _, HO, HB⟩
      case round =>
        obtain ⟨k, rfl, hk, HO2, HB2⟩ := hrel
        clear c0
        have HWQ := Lib.hid (HB0.out.trans (HB2.out.mono (by omega)))
        by_cases hkt : k < L[n].length
        · obtain ⟨b5, o5, hai, c5⟩ := (HNN.out.below HWQ.out).at k hkt
          have hwf := HNN.out.wf _ (List.getElem_mem hkt)
          subst hai
          have k5 : (k : Int) < (L[n].length : Int) := by omega
          obtain ⟨D, hD, hMs⟩ := HO2.out
          have HD := Lib.hid hD
          have HKEY := Lib.hid (unit_key _ hwf)
          have HPUT := Lib.hid (hMs.put (preU_wf HT.out n k) hlt hkt hwf)
          have HPS := Lib.hid (preU_succ hlt hkt)
          have HCNT := Lib.hid (show (preU L n k).length < maxLen from by have := preU_len (k := k) HM.out hlt; unfold maxLen; omega)
          have hB : w.heap.size + 1 ≤ wr.heap.size := by have := HB2.out.size; simpa using this
          clear hwf hD hMs
          rw [← HPS.out] at HPUT
          generalize L[n][k] = u at *
          go_wp2_with (at_mapUpdate; refine wpList_mapUpdate_own _ rfl _ _ _ 165 rfl 177 175 unit_law Tryz.underlying165 spotR (w.heap.size + 1) _ _ rfl HD.out HCNT.out _ _ _ rfl rfl HKEY.out (spotD n k) [] (spotR_mk _ _) ?_; intro w1 hown1 hgrow1; have HO3 := Lib.hid hown1; have HB3 := Lib.hid (HB2.out.grown hgrow1 hB (fun k e => by cases e; exact Nat.le_refl _)); clear hown1 hgrow1)
          exact ⟨⟨k + 1, by go_num, by omega, Lib.hid ⟨_, by rw [show (preU L n (k + 1)).length = (preU L n k).length + 1 from by rw [HPS.out, List.length_append]; rfl]; exact HO3.out, HPUT.out⟩, HB3⟩, by simp [intOf]; omega⟩
        · obtain rfl : k = L[n].length := by omega
          have HPC := Lib.hid (preU_chain hlt)
          rw [HPC.out] at HO2
          go_wp2_with fail
          go_roundw
          case rel => exact ⟨n + 1, by go_num, by omega, HO2, HB2⟩
          case measure => simp [intOf]; omega
    · obtain rfl : n = L.length := by omega
      have HWB := Lib.hid (HB0.out.trans (HB.out.mono (by omega)))
      rw [preU_all] at HO
      go_wp2_with fail
      go_ret
      exact ⟨_, rfl, by omega, HO.out, HWB.out⟩
end Go.Proofs.YthffjanidjjkdaaGreat
namespace Go.Proofs.YthffjanidjjkdaaGreat
set_option linter.unusedVariables false
open Go.RowKit
set_option maxRecDepth 20000
def numA (l : List Int) : Array Value := (l.map (fun v => Value.int .i64 v)).toArray
theorem lit_nums {W : World} {b : Nat} {t : TypeId} {l : List Int} (h : W.heap[b]? = some (.cells (numA l) t (0, 0))) (hw : ∀ v ∈ l, i64w v) : NLI W (some ⟨b, 0, none⟩) l.length l := by
  refine ⟨fun j hj => ⟨⟨b, 0, rfl, ?_⟩, hw _ (List.getElem_mem hj)⟩, fun e => (by cases e), Nat.le_refl _⟩
  rw [Nat.zero_add, cell_of h j]
  simp [numA, hj]
def lit1W (w : World) (l : List Int) : World := (w.alloc (.cells (numA l) 3)).alloc (.cells #[.slice (some ⟨w.heap.size, 0, none⟩) l.length l.length] 36)
theorem lit1_size (w : World) (l : List Int) : (lit1W w l).heap.size = w.heap.size + 2 := by simp [lit1W]
theorem lit1_below (w : World) (l : List Int) : Below w.heap.size w (lit1W w l) := (below_new _ _).alloc (by simp) _
theorem lit1_chain (w : World) {l : List Int} (hw : ∀ v ∈ l, i64w v) : CG (fun k => w.heap.size ≤ k ∧ k < (lit1W w l).heap.size) (lit1W w l) (.slice (some ⟨w.heap.size + 1, 0, none⟩) 1 1) [l] := by
  obtain ⟨h1, h2⟩ := two_blocks w (numA l) #[.slice (some ⟨w.heap.size, 0, none⟩) l.length l.length] 3 36
  have hs := lit1_size w l
  refine ⟨some ⟨w.heap.size + 1, 0, none⟩, 1, rfl, fun e => (by cases e), Nat.le_refl _, fun a e => ?_, fun i hi => ?_⟩
  · cases e
    exact ⟨⟨Nat.le_succ _, by show w.heap.size + 1 < _; omega⟩, by show w.heap.size + 1 < _; omega⟩
  · match i, hi with
    | 0, _ =>
      refine ⟨w.heap.size + 1, 0, some ⟨w.heap.size, 0, none⟩, l.length, rfl, cell_of h2 0, lit_nums h1 hw, fun a e => ?_⟩
      cases e
      exact ⟨⟨Nat.le_refl _, by show w.heap.size < _; omega⟩, by show w.heap.size < _; omega⟩
theorem num_small {l : List Int} (h : ∀ v ∈ l, 0 ≤ v ∧ v ≤ 20) : ∀ v ∈ l, i64w v := fun v hv => WalkArith.wf_i64 (by have := h v hv; omega)
end Go.Proofs.YthffjanidjjkdaaGreat
namespace Go.Proofs.YthffjanidjjkdaaGreat
set_option linter.unusedVariables false
open Go.RowKit
def thL : List (List Int) := [[0, 1, 2], [3, 4], [5]]
theorem thL_good : goodB 0 thL = true := by decide +kernel
def lenF (a : Int) : Nat := if a % 3 = 0 then 3 else if a % 3 = 1 then 2 else 1
def unF (a : Int) (j : Nat) : Nat := if a % 3 = 0 then j else if a % 3 = 1 then 3 + j else 5
theorem thL_of {x : Int} (h : 0 ≤ x ∧ x < 16384) : ofP 0 thL x = x / 3 ∧ chainR 0 thL x = (if x % 3 = 0 then [0, 1, 2] else if x % 3 = 1 then [3, 4] else [5]) := by
  have ho : ofB 0 thL x = true := ofB_iff.2 ⟨thL_good, h⟩
  constructor
  · unfold ofP
    rw [if_pos ho]
    rfl
  · unfold chainR
    rw [if_pos ho]
    show thL.getD (x % 3).toNat [] = _
    have h2 : x % 3 = 0 ∨ x % 3 = 1 ∨ x % 3 = 2 := by omega
    rcases h2 with h2 | h2 | h2
    · rw [h2]; rfl
    · rw [h2]; rfl
    · rw [h2]; rfl
theorem lenF_pos (a : Int) : 1 ≤ lenF a ∧ lenF a ≤ 3 := by
  unfold lenF
  split
  · omega
  split <;> omega
theorem thL_len {x : Int} (h : 0 ≤ x ∧ x < 16384) : (chainR 0 thL x).length = lenF x := by
  rw [(thL_of h).2]
  unfold lenF
  split
  · rfl
  split <;> rfl
theorem unF_low {a : Int} {j : Nat} (hj : j < lenF a) : unF a j < 6 := by
  unfold lenF at hj
  unfold unF
  split
  · next h => rw [if_pos h] at hj; omega
  · next h =>
    rw [if_neg h] at hj
    split
    · next h => rw [if_pos h] at hj; omega
    · omega
theorem thL_unit {x : Int} (h : 0 ≤ x ∧ x < 16384) {j : Nat} (hj : j < lenF x) : (chainR 0 thL x).getD j 0 = (unF x j : Int) := by
  rw [(thL_of h).2]
  unfold lenF at hj
  unfold unF
  split
  · next hx =>
    rw [if_pos hx] at hj
    have : j = 0 ∨ j = 1 ∨ j = 2 := by omega
    rcases this with rfl | rfl | rfl <;> rfl
  · next hx =>
    rw [if_neg hx] at hj
    split
    · next hy =>
      rw [if_pos hy] at hj
      have : j = 0 ∨ j = 1 := by omega
      rcases this with rfl | rfl <;> rfl
    · next hy =>
      rw [if_neg hy] at hj
      obtain rfl : j = 0 := by omega
      rfl
/-- what the j-th unit of an address's chain has there: its kind, its text -/
def FK (n : Nd) (a : Int) (j : Nat) : Int := (n.u (unF a j)).p.kind (a / 3)
def FX (n : Nd) (a : Int) (j : Nat) : ByteArray := (n.u (unF a j)).p.text (a / 3)
structure FtN (n : Nd) : Prop where
  u : ∀ i, i < 16 → FtU (n.u i)
/-- a question to the j-th unit of a's chain, of a's page -/
structure AskA (a : Int) (j : Nat) (k : Ak) : Prop where
  q : AskF k
  unit : k.unit = (unF a j : Int)
  page : k.page = a / 3
theorem unF_apart {a b : Int} {i j : Nat} (hj : j < lenF a) (hi : i < lenF b) (h : unF b i = unF a j) (hp : b / 3 = a / 3) : b = a ∧ i = j := by
  have ea : a % 3 = 0 ∨ a % 3 = 1 ∨ a % 3 = 2 := by omega
  have eb : b % 3 = 0 ∨ b % 3 = 1 ∨ b % 3 = 2 := by omega
  unfold lenF at hi hj
  unfold unF at h
  rcases ea with e | e | e <;> rcases eb with g | g | g <;> rw [e] at hj h <;> rw [g] at hi h
  all_goals simp at hi hj h
  all_goals omega
/-- what a question to the j-th unit of a's chain leaves: all else as it was -/
structure Moved (n n' : Nd) (a : Int) (j : Nat) : Prop where
  ft : FtN n'
  off : ∀ b i, i < lenF b → ¬ (b = a ∧ i = j) → FK n' b i = FK n b i ∧ FX n' b i = FX n b i
  edge : ∀ i, (n'.u i).p.edge = (n.u i).p.edge
  l : n'.l = n.l
section
variable {n : Nd} {a : Int} {j : Nat} {k : Ak}
theorem Moved.refl (h : FtN n) (a : Int) (j : Nat) : Moved n n a j := ⟨h, fun _ _ _ _ => ⟨rfl, rfl⟩, fun _ => rfl, rfl⟩
theorem AskA.ans (hk : AskA a j k) (hj : j < lenF a) : n.ans k = (n.u (unF a j)).ans k ∧ n.done k = n.putU (unF a j) ((n.u (unF a j)).done k) := by
  have hu := unF_low hj
  have h1 := hk.q.kind
  have h2 := hk.unit
  have e : k.unit.toNat = unF a j := by omega
  constructor
  · unfold Nd.ans
    rw [if_pos (by omega), if_pos (by omega), e]
  · unfold Nd.done
    rw [if_pos (by omega), if_pos (by omega), e]
theorem moved (h : FtN n) (hj : j < lenF a) {v : Us} (hl : Leaf (n.u (unF a j)) v (a / 3)) : Moved n (n.putU (unF a j) v) a j := by
  refine ⟨⟨fun i hi => ?_⟩, fun b i hi hn => ?_, fun i => ?_, rfl⟩
  · by_cases e : i = unF a j
    · rw [e, putU_at]; exact hl.ft
    · rw [putU_off _ _ e]; exact h.u i hi
  · unfold FK FX
    by_cases e : unF b i = unF a j
    · rw [e, putU_at]
      by_cases hp : b / 3 = a / 3
      · exact absurd (unF_apart hj hi e hp) hn
      · exact hl.off _ hp
    · rw [putU_off _ _ e]
      exact ⟨rfl, rfl⟩
  · by_cases e : i = unF a j
    · rw [e, putU_at]; exact hl.edge
    · rw [putU_off _ _ e]
theorem FtN.write_new (h : FtN n) (hk : AskA a j k) (hj : j < lenF a) (h1 : k.kind = 1) (h0 : FK n a j = 0) : (n.ans k).code = 0 ∧ Moved n (n.done k) a j ∧ FK (n.done k) a j = 1 ∧ FX (n.done k) a j = k.data := by
  have hU := h.u (unF a j) (by have := unF_low hj; omega)
  unfold FK FX at *
  rw [← hk.page] at h0 ⊢
  obtain ⟨r1, r2, r3, r4⟩ := hU.write_new hk.q h1 h0
  obtain ⟨e1, e2⟩ := hk.ans (n := n) hj
  rw [e1, e2, putU_at]
  exact ⟨r1, moved h hj (hk.page ▸ r2), r3, r4⟩
theorem FtN.write_old (h : FtN n) (hk : AskA a j k) (hj : j < lenF a) (h1 : k.kind = 1) (h0 : FK n a j ≠ 0) : (n.ans k).code = (if FK n a j = 3 then 43 else 41) ∧ n.done k = n := by
  have hU := h.u (unF a j) (by have := unF_low hj; omega)
  unfold FK at *
  rw [← hk.page] at h0 ⊢
  obtain ⟨r1, r2⟩ := hU.write_old hk.q h1 h0
  obtain ⟨e1, e2⟩ := hk.ans (n := n) hj
  rw [e1, e2, r2, putU_same]
  exact ⟨r1, rfl⟩
theorem FtN.fill_new (h : FtN n) (hk : AskA a j k) (hj : j < lenF a) (h1 : k.kind = 2) (h0 : FK n a j = 0) : (n.ans k).code = 0 ∧ Moved n (n.done k) a j ∧ FK (n.done k) a j = 2 := by
  have hU := h.u (unF a j) (by have := unF_low hj; omega)
  unfold FK at *
  rw [← hk.page] at h0 ⊢
  obtain ⟨r1, r2, r3⟩ := hU.fill_new hk.q h1 h0
  obtain ⟨e1, e2⟩ := hk.ans (n := n) hj
  rw [e1, e2, putU_at]
  exact ⟨r1, moved h hj (hk.page ▸ r2), r3⟩
theorem FtN.fill_old (h : FtN n) (hk : AskA a j k) (hj : j < lenF a) (h1 : k.kind = 2) (h0 : FK n a j ≠ 0) : (n.ans k).code = (if FK n a j = 3 then 43 else if FK n a j = 2 then 0 else 41) ∧ n.done k = n := by
  have hU := h.u (unF a j) (by have := unF_low hj; omega)
  unfold FK at *
  rw [← hk.page] at h0 ⊢
  obtain ⟨r1, r2⟩ := hU.fill_old hk.q h1 h0
  obtain ⟨e1, e2⟩ := hk.ans (n := n) hj
  rw [e1, e2, r2, putU_same]
  exact ⟨r1, rfl⟩
theorem FtN.read (h : FtN n) (hk : AskA a j k) (hj : j < lenF a) (h1 : k.kind = 3) : (n.ans k).code = (if FK n a j = 3 then 43 else if FK n a j = 0 then 42 else if FK n a j = 2 then 46 else 0) ∧ (FK n a j = 1 → (n.ans k).data = FX n a j) ∧ n.done k = n := by
  have hU := h.u (unF a j) (by have := unF_low hj; omega)
  unfold FK FX
  rw [← hk.page]
  obtain ⟨r1, r2, r3⟩ := hU.read hk.q h1
  obtain ⟨e1, e2⟩ := hk.ans (n := n) hj
  rw [e1, e2, r3, putU_same]
  exact ⟨r1, r2, rfl⟩
theorem FtN.kinds (h : FtN n) (hj : j < lenF a) : FK n a j = 0 ∨ FK n a j = 1 ∨ FK n a j = 2 ∨ FK n a j = 3 :=
  (h.u (unF a j) (by have := unF_low hj; omega)).ok.kinds _
end
/-- no unit of the chain has more than the one ahead of it -/
def PreA (n : Nd) (a : Int) : Prop := ∀ j, j + 1 < lenF a → FK n a (j + 1) ≠ 0 → FK n a j = FK n a (j + 1) ∧ (FK n a j = 1 → FX n a j = FX n a (j + 1))
theorem PreA.down {n : Nd} {a : Int} (h : PreA n a) : ∀ d j, j + d < lenF a → FK n a (j + d) ≠ 0 → FK n a j = FK n a (j + d) ∧ (FK n a j = 1 → FX n a j = FX n a (j + d)) := by
  intro d
  induction d with
  | zero => intro j _ _; exact ⟨rfl, fun _ => rfl⟩
  | succ d ih =>
    intro j hj h0
    obtain ⟨h1, h2⟩ := h (j + d) (by omega) h0
    obtain ⟨h3, h4⟩ := ih j (by omega) (by rw [h1]; exact h0)
    refine ⟨h3.trans h1, fun e => ?_⟩
    rw [h4 e]
    exact h2 (h3 ▸ e)
end Go.Proofs.YthffjanidjjkdaaGreat
