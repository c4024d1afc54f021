/- What the program's own 'met' returns: a map in which each unit of a projection leads to a place where it stands, and nothing else does. Conditions: the projection lies where the call was told, and is not too large. -/
import Derived.Test.YthfbefkddnbbcaaPrjH
import Derived.Test.YthfbefkddnbbcaaPrjN
import Derived.Maps.RangeWalk
namespace Go.Proofs.Ythfbefkddnbbcaa
open Go.RowKit Go.Maps
set_option maxRecDepth 20000
theorem unit_key_row : (80 : TypeId) < Try.prog.types.size := of_decide_eq_true (by kernel_rfl)
theorem unit_law : Keyed Try.prog 80 := Keyed.of_law (deep_law_laid laidOut (m := 2) (by omega) unit_key_row (by kernel_rfl) (by rw [Try.underlying80]))
/-- a unit as a key -/
def klU (u : Int) : Lit := .string (keyBytes [.int .i64 u])
theorem types_succ : ∃ n, Try.prog.types.size = n + 1 := ⟨Try.prog.types.size - 1, by have h := Nat.lt_of_le_of_lt (Nat.zero_le _) unit_key_row; exact (Nat.succ_pred_eq_of_pos h).symm⟩
theorem unit_key (u : Int) (hu : (Lit.int .i64 u).wf = true) : keyOf Try.prog 80 (.agg #[.int .i64 u]) = some (klU u) := by
  obtain ⟨n, hn⟩ := types_succ
  exact key_one Try.underlying80 (by kernel_rfl) (by rfl) rfl (by kernel_rfl) Try.underlying3 (by kernel_rfl) hn hu
theorem unit_inj (u v : Int) (h : (Value.agg #[Value.int .i64 u]) = .agg #[.int .i64 v]) : u = v := by simpa using h
theorem klU_inj {u v : Int} (hu : (Lit.int .i64 u).wf = true) (hv : (Lit.int .i64 v).wf = true) (h : klU u = klU v) : u = v :=
  unit_inj u v (unit_law.inj (unit_key u hu) (h ▸ unit_key v hv))
theorem klU_key {u : Int} (hu : (Lit.int .i64 u).wf = true) : WideAt.IsKeyLit (klU u) := unit_law.key (unit_key u hu)
/-- a place: in which chain, how far behind its beginning -/
def spotD (i j : Int) : DataW Unit := .agg [.lit (.int .i64 i), .lit (.int .i64 j)]
def spotR : Value → Option (DataW Unit × List MemPlace)
  | .agg a => match a.toList with
    | [.int .i64 i, .int .i64 j] => some (spotD i j, [])
    | _ => none
  | _ => none
theorem spotR_mk (i j : Int) : spotR (.agg #[.int .i64 i, .int .i64 j]) = some (spotD i j, []) := rfl
theorem spotR_inv {v : Value} {z : DataW Unit × List MemPlace} (h : spotR v = some z) : ∃ i j, v = .agg #[.int .i64 i, .int .i64 j] ∧ z = (spotD i j, []) := by
  unfold spotR at h
  split at h
  · next a =>
    split at h
    · next i j e =>
      cases h
      refine ⟨i, j, ?_, rfl⟩
      rw [← Array.toArray_toList (xs := a), e]
    · cases h
  · cases h
theorem spotD_inj {i j k l : Int} (h : spotD i j = spotD k l) : i = k ∧ j = l := by
  unfold spotD at h
  simpa using h
theorem zero_spot (w : World) : (zeroValue 78).run Try.prog w = .ok (.agg #[.int .i64 0, .int .i64 0]) w := by kernel_rfl
/-- each unit of S, and nothing else, leads to a place in L where it stands -/
structure Ms (L : List (List Int)) (D : DataW Unit) (S : List Int) : Prop where
  tidy : Tidy D
  hs : ∀ u, (Lit.int .i64 u).wf = true → Maps.has D (klU u) = decide (u ∈ S)
  size : Maps.size D = (insAll [] S).length
  spot : ∀ u ∈ S, ∃ (i j : Nat) (hi : i < L.length) (hj : j < L[i].length), L[i][j] = u ∧ ∀ zd, D.atKey (klU u) zd = spotD i j
theorem Ms.nil (L : List (List Int)) : Ms L (.map []) [] := ⟨tidy_empty, fun _ _ => rfl, rfl, fun u hu => by cases hu⟩
theorem Ms.put {L : List (List Int)} {D : DataW Unit} {S : List Int} (h : Ms L D S) (hS : ∀ u ∈ S, (Lit.int .i64 u).wf = true) {i j : Nat} (hi : i < L.length) (hj : j < L[i].length) (hu : (Lit.int .i64 L[i][j]).wf = true) :
    Ms L (D.put (klU L[i][j]) (spotD i j)) (S ++ [L[i][j]]) := by
  have hk := klU_key hu
  refine ⟨h.tidy.put hk _, fun v hv => ?_, ?_, fun v hv => ?_⟩
  · by_cases e : v = L[i][j]
    · subst e
      rw [has_put_same h.tidy.isMap hk]
      exact (decide_eq_true (by simp)).symm
    · rw [has_put_other (fun e2 => e (klU_inj hv hu e2)), h.hs v hv]
      simp [e]
  · rw [size_put h.tidy, h.hs _ hu, h.size, insAll_snoc, insU_length _ _ (insAll_rises _ _ List.Pairwise.nil)]
    by_cases e : L[i][j] ∈ S
    · simp [e, insAll_mem]
    · simp [e, insAll_mem]
  · by_cases e : v = L[i][j]
    · subst e
      exact ⟨i, j, hi, hj, rfl, fun zd => atKey_put_same h.tidy.isMap hk _ _⟩
    · have hv' : v ∈ S := by
        rcases List.mem_append.1 hv with h1 | h1
        · exact h1
        · exact absurd (List.mem_singleton.1 h1) e
      obtain ⟨a, b, ha, hb, e1, e2⟩ := h.spot v hv'
      exact ⟨a, b, ha, hb, e1, fun zd => by rw [atKey_put_other (fun e3 => e (klU_inj (hS v hv') hu e3))]; exact e2 zd⟩
/-- the map at block b leads each unit of S to its place -/
def Mt (w : World) (b : Nat) (L : List (List Int)) (S : List Int) : Prop := ∃ D, w.ownsMap Try.prog 80 spotR b S.length D ∧ Ms L D S
theorem Mt.made (w : World) (L : List (List Int)) : Mt (w.alloc (.map #[] 0)) w.heap.size L [] := ⟨_, World.ownsMap_made _ _ _ _, Ms.nil L⟩
theorem Mt.below {w w' : World} {b : Nat} {L : List (List Int)} {S : List Int} (h : Mt w b L S) (hb : Below w.heap.size w w') : Mt w' b L S := by
  obtain ⟨D, ⟨es, clock, h1, h2⟩, h3⟩ := h
  exact ⟨D, ⟨es, clock, below_heap hb h1, h2⟩, h3⟩
theorem Mt.lt {w : World} {b : Nat} {L : List (List Int)} {S : List Int} (h : Mt w b L S) : b < w.heap.size := by
  obtain ⟨D, h1, _⟩ := h
  exact h1.lt
/-- in the map that 'met' returns, all units stand -/
theorem preU_wf2 {w : World} {ao : Option Addr} {L : List (List Int)} (h : CL w ao L) : ∀ u ∈ L.flatten, (Lit.int .i64 u).wf = true := by
  have := preU_wf h L.length 0
  rwa [preU_all] at this
set_option maxHeartbeats 4000000 in
theorem met_any (ep : Int) (ao : Option Addr) (cap : Nat) (L : List (List Int)) (w : World) (h : CL w ao L) (hl : L.length ≤ 255 ∧ ∀ c ∈ L, c.length ≤ 255) :
    Calls Try.prog 37 #[.agg #[.int .i64 ep, .slice ao L.length cap]] w fun e w' => ∃ b, e = .returned (.map (some b)) ∧ w.heap.size ≤ b ∧ Mt w' b L L.flatten ∧ Below w.heap.size w w' := by
  have HB0 := Lib.hid ((Below.refl w.heap.size w).alloc (Nat.le_refl _) (.cells #[.int .i64 ep, .slice ao L.length cap] 24))
  have hl' : (L.length : Int) ≤ 255 := by have := hl.1; omega
  have HT := Lib.hid h
  have HM := Lib.hid hl
  have hmm := @run_makeMap Try.prog
  clear h hl
  go_enter Try.func37, Try.ntmps37
  go_wp2_with fail
  go_loopw [12] (fun i wr => ∃ n : Nat, i = .int .i64 n ∧ n ≤ L.length ∧ Hid (Mt wr (w.heap.size + 1) L (preU L n 0)) ∧ Hid (Below (w.heap.size + 1) (w.alloc (.cells #[.int .i64 ep, .slice ao L.length cap] 24)) wr)) (fun i _ => L.length - (intOf i).toNat)
  case atStart => exact ⟨0, rfl, Nat.zero_le _, Lib.hid (by rw [preU_zero]; have h := Mt.made (w.alloc (.cells #[.int .i64 ep, .slice ao L.length cap] 24)) L; simpa using h), Lib.hid ((Below.refl _ _).alloc (by simp) _)⟩
  case round =>
    obtain ⟨n, rfl, hn, HO, HB⟩ := hrel
    by_cases hlt : n < L.length
    · have HWB := Lib.hid (HB0.out.trans (HB.out.mono (by omega)))
      obtain ⟨bk, off, ai, ci, hao, c0w, hN⟩ := HT.out n hlt
      subst hao
      have c0 : wr.cell? ⟨bk, off + n, none⟩ = some (.slice ai L[n].length ci) := cellB HWB.out (block_lt_of_cell c0w) c0w
      have HNN := Lib.hid hN
      have k0 : (n : Int) < (L.length : Int) := by omega
      have m0 := HM.out.2 _ (List.getElem_mem hlt)
      have m0' : (L[n].length : Int) ≤ 255 := by omega
      clear c0w hN
      go_wp2_with fail
      go_loopw [19] (fun j wq => ∃ k : Nat, j = .int .i64 k ∧ k ≤ L[n].length ∧ Hid (Mt wq (w.heap.size + 1) L (preU L n k)) ∧ Hid (Below (w.heap.size + 1) (w.alloc (.cells #[.int .i64 ep, .slice (some ⟨bk, off, none⟩) L.length cap] 24)) wq)) (fun j _ => L[n].length - (intOf j).toNat)
      case atStart => exact ⟨0, rfl, Nat.zero_le _, HO, HB⟩
      case round =>
        obtain ⟨k, rfl, hk, HO2, HB2⟩ := hrel
        clear c0
        have HWQ := Lib.hid (HB0.out.trans (HB2.out.mono (by omega)))
        by_cases hkt : k < L[n].length
        · obtain ⟨b5, o5, hai, c5⟩ := (HNN.out.below HWQ.out).at k hkt
          have hwf := HNN.out.wf _ (List.getElem_mem hkt)
          subst hai
          have k5 : (k : Int) < (L[n].length : Int) := by omega
          obtain ⟨D, hD, hMs⟩ := HO2.out
          have HD := Lib.hid hD
          have HKEY := Lib.hid (unit_key _ hwf)
          have HPUT := Lib.hid (hMs.put (preU_wf HT.out n k) hlt hkt hwf)
          have HPS := Lib.hid (preU_succ hlt hkt)
          have HCNT := Lib.hid (show (preU L n k).length < maxLen from by have := preU_len (k := k) HM.out hlt; unfold maxLen; omega)
          have hB : w.heap.size + 1 ≤ wr.heap.size := by have := HB2.out.size; simpa using this
          clear hwf hD hMs
          rw [← HPS.out] at HPUT
          generalize L[n][k] = u at *
          go_wp2_with (at_mapUpdate; refine wpList_mapUpdate_own _ rfl _ _ _ 70 rfl 80 78 unit_law Try.underlying70 spotR (w.heap.size + 1) _ _ rfl HD.out HCNT.out _ _ _ rfl rfl HKEY.out (spotD n k) [] (spotR_mk _ _) ?_; intro w1 hown1 hgrow1; have HO3 := Lib.hid hown1; have HB3 := Lib.hid (HB2.out.grown hgrow1 hB (fun k e => by cases e; exact Nat.le_refl _)); clear hown1 hgrow1)
          exact ⟨⟨k + 1, by go_num, by omega, Lib.hid ⟨_, by rw [show (preU L n (k + 1)).length = (preU L n k).length + 1 from by rw [HPS.out, List.length_append]; rfl]; exact HO3.out, HPUT.out⟩, HB3⟩, by simp [intOf]; omega⟩
        · obtain rfl : k = L[n].length := by omega
          have HPC := Lib.hid (preU_chain hlt)
          rw [HPC.out] at HO2
          go_wp2_with fail
          go_roundw
          case rel => exact ⟨n + 1, by go_num, by omega, HO2, HB2⟩
          case measure => simp [intOf]; omega
    · obtain rfl : n = L.length := by omega
      have HWB := Lib.hid (HB0.out.trans (HB.out.mono (by omega)))
      rw [preU_all] at HO
      go_wp2_with fail
      go_ret
      exact ⟨_, rfl, by omega, HO.out, HWB.out⟩
end Go.Proofs.Ythfbefkddnbbcaa
