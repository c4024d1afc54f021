/- The program's own Copy makes a copy in new memory, each of its rows in a place of its own. Conditions: the projection lies where the call was told, and is not too large. What the statements' own fair tells of a list of questions. Conditions: the list is one that was handed over. -/
import Derived.Test.YtphigibhgldnpaaG10b
set_option linter.unusedVariables false
namespace Go.Proofs.Ytphigibhgldnpaa
open Go.RowKit
set_option linter.unusedVariables false
set_option maxRecDepth 20000
theorem OC.ofCP {w : World} {B : Nat} {v : Value} {vs : List Value} {L : List (List Int)} (h : CP w B v vs L) : OC w B v L := by
  refine ⟨vs, h.1, fun i hi => ?_⟩
  have hv : i < vs.length := by rw [h.2.1]; exact hi
  obtain ⟨h1, h2⟩ := h.2.2.1 i hi vs[i] (List.getElem?_eq_getElem hv)
  obtain ⟨ao, cap, e, hN, hA, ho⟩ := h1.form
  exact ⟨ao, cap, by rw [List.getElem?_eq_getElem hv, e], hN, fun a ea => ⟨(hA a ea).1, (hA a ea).2, h2 a.block (by rw [ho, ea]; rfl)⟩⟩
set_option maxHeartbeats 8000000 in
theorem copyO_any (ep : Int) (ao : Option Addr) (cap : Nat) (L : List (List Int)) (w : World) (hT : CL w ao L) (hS : L.length ≤ 255 ∧ ∀ c ∈ L, c.length ≤ 255) :
    Calls Try.prog 25 #[.agg #[.int .i64 ep, .slice ao L.length cap]] w fun e w' => ∃ v, e = .returned (.agg #[.int .i64 ep, v]) ∧ OC w' w.heap.size v L ∧ Below w.heap.size w w' := by
  have HB0 := Lib.hid ((((Below.refl w.heap.size w).alloc (Nat.le_refl _) (.cells #[.int .i64 ep, .slice ao L.length cap] 30)).alloc (by simp) (.cells #[.int .i64 0, .slice none 0 0] 30)).alloc (by simp; omega) (.cells #[.int .i64 ep, .slice none 0 0] 30))
  have hl' : (L.length : Int) ≤ 255 := by have := hS.1; omega
  have HT := Lib.hid hT
  have HM := Lib.hid hS
  have HRES := Lib.hid (show ((((w.alloc (.cells #[.int .i64 ep, .slice ao L.length cap] 30)).alloc (.cells #[.int .i64 0, .slice none 0 0] 30)).alloc (.cells #[.int .i64 ep, .slice none 0 0] 30))).heap[w.heap.size + 1]? = some (.cells #[.int .i64 0, .slice none 0 0] 30 (0, 0)) from by
    have h := heap_alloc_new (w.alloc (.cells #[.int .i64 ep, .slice ao L.length cap] 30)) (.cells #[.int .i64 0, .slice none 0 0] 30)
    have h2 := below_heap ((Below.refl _ _).alloc (Nat.le_refl _) (.cells #[.int .i64 ep, .slice none 0 0] 30)) h
    simpa using h2)
  have HQ0 := Lib.hid (show ((((w.alloc (.cells #[.int .i64 ep, .slice ao L.length cap] 30)).alloc (.cells #[.int .i64 0, .slice none 0 0] 30)).alloc (.cells #[.int .i64 ep, .slice none 0 0] 30))).heap[w.heap.size + 2]? = some (.cells #[.int .i64 ep, .slice none 0 0] 30 (0, 0)) from by
    have h := heap_alloc_new ((w.alloc (.cells #[.int .i64 ep, .slice ao L.length cap] 30)).alloc (.cells #[.int .i64 0, .slice none 0 0] 30)) (.cells #[.int .i64 ep, .slice none 0 0] 30)
    simpa using h)
  have HSZ := Lib.hid (show ((((w.alloc (.cells #[.int .i64 ep, .slice ao L.length cap] 30)).alloc (.cells #[.int .i64 0, .slice none 0 0] 30)).alloc (.cells #[.int .i64 ep, .slice none 0 0] 30))).heap.size = w.heap.size + 3 from by simp)
  clear hT hS
  go_enter Try.func25, Try.ntmps25
  go_wp2_with fail
  generalize hW0 : World.alloc (World.alloc _ _) _ = W0 at *
  go_loopw [12] (fun i wr => ∃ (n : Nat) (v : Value) (vs : List Value), i = .int .i64 n ∧ n ≤ L.length ∧ Hid (wr.heap[w.heap.size + 2]? = some (.cells #[.int .i64 ep, v] 30 (0, 0))) ∧ Hid (CP wr (w.heap.size + 3) v vs (L.take n)) ∧ Hid (Kept (fun k => k < w.heap.size + 3 ∧ k ≠ w.heap.size + 2) W0 wr)) (fun i _ => L.length - (intOf i).toNat)
  case atStart => exact ⟨0, _, [], rfl, Nat.zero_le _, HQ0, Lib.hid (by rw [List.take_zero]; exact CP.nil _ _), Lib.hid (Kept.refl _ _)⟩
  case round =>
    obtain ⟨n, v, vs, rfl, hn, HP, HC, HK⟩ := hrel
    have HWB := Lib.hid (HB0.out.trans (HK.out.toBelow (by rw [HSZ.out]; omega) (fun k h => ⟨by omega, by omega⟩)))
    have hszr : w.heap.size + 3 ≤ wr.heap.size := by have := HK.out.size; have := HSZ.out; omega
    by_cases hlt : n < L.length
    · obtain ⟨bk, off, ai, ci, hao, c0w, hN⟩ := HT.out n hlt
      subst hao
      have cA : wr.cell? ⟨bk, off + n, none⟩ = some (.slice ai L[n].length ci) := cellB HWB.out (block_lt_of_cell c0w) c0w
      have HNN := Lib.hid (show NLI wr.drew ai ci L[n] from (hN.below HWB.out).drew)
      have k0 : (n : Int) < (L.length : Int) := by omega
      have m0 := HM.out.2 _ (List.getElem_mem hlt)
      have m0' : (L[n].length : Int) ≤ 255 := by omega
      have hLn := HM.out.1
      have HLT := Lib.hid (show (L.take n).length + 1 ≤ 1000000 from by rw [List.length_take]; omega)
      obtain ⟨c0, c1, f0, f1⟩ := two_cells HP.out
      have HTK := Lib.hid (fun (w' : World) (v' : Value) (vs' : List Value) h => @CP.take w' (w.heap.size + 3) v' vs' L n hlt h)
      have hqr : w.heap.size + 2 < wr.heap.size := by omega
      clear c0w hN
      go_wp2_with fail
      clear cA
      go_region_law (first
        | (refine step_app_ints rfl (.const (.slice none 0 0)) (.tmp 18) rfl (B := wr.heap.size) (v := .slice none 0 0) (D := []) rfl (OI.nil _ _) (ao := ai) (cap := ci) (l := L[n]) rfl rfl HNN.out (by simp; omega) (Nat.le_refl _) ?_; intro v1 w1 hI hg _; rw [List.nil_append] at hI; have hb1 : Below wr.heap.size wr w1 := (Below.refl wr.heap.size wr).drew.grown hg (Nat.le_refl _) (fun k e => by cases e); obtain ⟨a1, cc1, hv1, _, _, _⟩ := hI.form; subst hv1; have HC1 := Lib.hid (HC.out.below hb1); have HF1 := Lib.hid (HC.out.fresh hI); have HI1 := Lib.hid (hI.lower hszr); have HB1 := Lib.hid hb1; have hsz1 : w.heap.size + 3 ≤ w1.heap.size := Nat.le_trans hszr hb1.size; have hq1 : w.heap.size + 2 < w1.heap.size := hsz1; have HP1 := Lib.hid (below_heap hb1 HP.out); obtain ⟨d0, d1, g0, g1⟩ := two_cells HP1.out; clear hI hg hb1)
        | (refine step_app_copy rfl (.tmp 17) (.tmp 20) rfl (w := w1) (B := w.heap.size + 3) (v := v) (vs := vs) (L := L.take n) rfl HC1.out (y := .slice a1 L[n].length cc1) (l := L[n]) rfl HI1.out HF1.out HLT.out hsz1 ?_; intro v2 w2 hC2 hb2; obtain ⟨b8, n8, c8, hv8⟩ : ∃ b8 n8 c8, v2 = .slice b8 n8 c8 := (by obtain ⟨x, y, e⟩ := hC2.form; exact ⟨x, _, y, e⟩); subst hv8; have HC2 := Lib.hid (HTK.out _ _ _ hC2); have HP2 := Lib.hid ((below_kept hb2 hsz1).heap (b := w.heap.size + 2) (by omega) HP1.out); obtain ⟨x0, x1, y0, y1⟩ := two_cells HP2.out; have HK2 := Lib.hid ((HK.out.below HB1.out).trans ((below_kept hb2 hsz1).mono (fun k h => h.1))); clear hC2 hb2))
      all_goals
        go_wp2_with fail
        go_roundw
        case rel =>
          refine ⟨n + 1, .slice b8 n8 c8, vs ++ [.slice a1 L[n].length cc1], by go_num, by omega, Lib.hid (two_set1 HP2.out (.slice b8 n8 c8)), Lib.hid ?_, Lib.hid ?_⟩
          · exact HC2.out.keep ((Kept.refl (fun k => w.heap.size + 3 ≤ k) w2).setCell (p := ⟨w.heap.size + 2, 1, none⟩) (by simp) (.slice b8 n8 c8)) (fun k h _ => h)
          · exact HK2.out.setCell (p := ⟨w.heap.size + 2, 1, none⟩) (by simp) (.slice b8 n8 c8)
        case measure => simp [intOf]; omega
    · obtain rfl : n = L.length := by omega
      rw [List.take_of_length_le (Nat.le_refl _)] at HC
      obtain ⟨bo1, cb1, hv1⟩ := HC.out.form
      subst hv1
      have HR := Lib.hid (HK.out.heap (b := w.heap.size + 1) ⟨by omega, by omega⟩ HRES.out)
      obtain ⟨c0, c1, f0, f1⟩ := two_cells HP.out
      obtain ⟨t0, t1, g0, g1⟩ := two_cells HR.out
      have hszp : w.heap.size + 2 < wr.heap.size := by omega
      go_wp2_with fail
      have hK := ((Kept.refl (fun k => w.heap.size + 3 ≤ k) wr).setCell (p := ⟨w.heap.size + 1, 0, none⟩) (by simp) (.int .i64 ep)).setCell (p := ⟨w.heap.size + 1, 1, none⟩) (by simp) (.slice bo1 L.length cb1)
      exact proj_ret rfl (two_set1 (two_set0 HR.out (.int .i64 ep)) (.slice bo1 L.length cb1)) rfl rfl ⟨.slice bo1 L.length cb1, rfl, (OC.ofCP (HC.out.keep hK (fun _ h _ => h))).lower (by omega), (HWB.out.setCell (by simp) _).setCell (by simp) _⟩
end Go.Proofs.Ytphigibhgldnpaa
namespace Go.Proofs.Ytphigibhgldnpaa
set_option linter.unusedVariables false
open Go.RowKit
set_option maxRecDepth 20000
/-- the list is gone through -/
def fairN (l : List Ak) : Prop := l.length ≤ 150 ∧ ∀ s ∈ l, largeA s = false
def Fair13 (l : List Ak) (e : Ending) : Prop := ∃ c : Bool, e = .returned (.bool c) ∧ (c = true → fairN l)
set_option maxHeartbeats 4000000 in
theorem fair13_any (ao : Option Addr) (cap : Nat) (l : List Ak) (w : World) (hl : l.length ≤ maxLen) (h : Row w ao 9 askC l) (hk : ∀ s ∈ l, AkIn w s) :
    Calls Try.prog 6 #[.slice ao l.length cap] w fun e w' => Fair13 l e ∧ Below w.heap.size w w' := by
  unfold maxLen at hl
  have hl' : (l.length : Int) ≤ 9223372036854775807 := by omega
  have HF := Lib.hid h
  have HK := Lib.hid hk
  clear h hk
  go_enter Try.func6, Try.ntmps6
  go_wp2_with fail
  go_loopw [3] (fun i wr => ∃ k : Nat, i = .int .i64 k ∧ k ≤ l.length ∧ Hid (∀ s ∈ l.take k, largeA s = false) ∧ Hid (Below w.heap.size w wr)) (fun i _ => l.length - (intOf i).toNat)
  case atStart => exact ⟨0, rfl, Nat.zero_le _, Lib.hid (by simp), Lib.hid (Below.refl _ _)⟩
  case round =>
    obtain ⟨k, rfl, hkl, HT, HB⟩ := hrel
    by_cases hlt : k < l.length
    · obtain ⟨bk, off, rfl, d0, d1, d2, d3, d4, d5, d6, d7, d8⟩ := ask_at (HF.out.below HB.out) hlt
      have k0 : (k : Int) < (l.length : Int) := by omega
      have HA := Lib.hid ((HK.out _ (List.getElem_mem hlt)).below HB.out)
      have CL1 := Lib.hid (largeAsk_any _ _ HA.out)
      have HT2 := Lib.hid (fun (e : largeA l[k] = false) => show ∀ s ∈ l.take (k + 1), largeA s = false from by
        rw [List.take_succ_eq_append_getElem hlt]
        intro s hs
        rcases List.mem_append.1 hs with h1 | h1
        · exact HT.out s h1
        · rw [List.mem_singleton.1 h1]; exact e)
      cases hc : largeA l[k]
      · rw [hc] at CL1
        have HT3 := Lib.hid (HT2.out hc)
        go_wp2_with (go_at_call 17; refine CL1.out.mono ?_; rintro e w1 ⟨rfl, hb1⟩; have HB1 := Lib.hid (HB.out.trans (hb1.mono HB.out.size)); clear hb1)
        go_roundw
        case rel => exact ⟨k + 1, by go_num, by omega, HT3, HB1⟩
        case measure => simp [intOf]; omega
      · rw [hc] at CL1
        go_wp2_with (go_at_call 17; refine CL1.out.mono ?_; rintro e w1 ⟨rfl, hb1⟩; have HB1 := Lib.hid (HB.out.trans (hb1.mono HB.out.size)); clear hb1)
        go_ret
        exact ⟨⟨false, rfl, fun e => by cases e⟩, HB1.out⟩
    · obtain rfl : k = l.length := by omega
      have HA := Lib.hid (show ∀ s ∈ l, largeA s = false from by have := HT.out; rwa [List.take_of_length_le (Nat.le_refl _)] at this)
      by_cases h2 : l.length ≤ 150
      · have d : decide ((l.length : Int) ≤ 150) = true := decide_eq_true (by omega)
        go_wp2_with fail
        go_ret
        exact ⟨⟨_, rfl, fun _ => ⟨h2, HA.out⟩⟩, HB.out⟩
      · have d : decide ((l.length : Int) ≤ 150) = false := decide_eq_false (by omega)
        go_wp2_with fail
        go_ret
        exact ⟨⟨false, rfl, fun e => by cases e⟩, HB.out⟩
end Go.Proofs.Ytphigibhgldnpaa
