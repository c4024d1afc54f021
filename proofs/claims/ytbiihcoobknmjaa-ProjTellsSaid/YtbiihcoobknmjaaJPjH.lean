/- The program's own Copy makes such a copy. No conditions but those that the statement names. -/
import Derived.Test.YtbiihcoobknmjaaJPjG
set_option linter.unusedVariables false
namespace Go.Proofs.Ytbiihcoobknmjaa
open Go.RowKit
set_option maxRecDepth 20000
theorem CP.fresh {w w1 : World} {B : Nat} {v y : Value} {vs : List Value} {L : List (List Int)} {l : List Int} (h : CP w B v vs L) (hO : OI w1 w.heap.size y l) : ∀ k, y.ownBlock = some k → v.ownBlock ≠ some k ∧ ∀ (i : Nat) (z : Value), vs[i]? = some z → z.ownBlock ≠ some k := by
  intro k hk
  have h1 := (hO.1.lt k hk).1
  refine ⟨fun e => by have := (h.1.lt k e).2; omega, fun i z hz e => ?_⟩
  have hi : i < L.length := by
    obtain ⟨hi, _⟩ := List.getElem?_eq_some_iff.1 hz
    rw [h.2.1] at hi
    exact hi
  have := ((h.2.2.1 i hi z hz).1.1.lt k e).2
  omega
theorem CP.take {w : World} {B : Nat} {v : Value} {vs : List Value} {L : List (List Int)} {n : Nat} (hn : n < L.length) (h : CP w B v vs (L.take n ++ [L[n]])) : CP w B v vs (L.take (n + 1)) := by
  rw [List.take_succ_eq_append_getElem hn]
  exact h
set_option maxHeartbeats 8000000 in
theorem copySays : CopySays := by
  intro ep ao cap L w hT hS
  have HB0 := Lib.hid ((((Below.refl w.heap.size w).alloc (Nat.le_refl _) (.cells #[.int .i64 ep, .slice ao L.length cap] 24)).alloc (by simp) (.cells #[.int .i64 0, .slice none 0 0] 24)).alloc (by simp; omega) (.cells #[.int .i64 ep, .slice none 0 0] 24))
  have hl' : (L.length : Int) ≤ 255 := by have := hS.1; omega
  have HT := Lib.hid hT.1
  have HM := Lib.hid hS
  have HRES := Lib.hid (show ((((w.alloc (.cells #[.int .i64 ep, .slice ao L.length cap] 24)).alloc (.cells #[.int .i64 0, .slice none 0 0] 24)).alloc (.cells #[.int .i64 ep, .slice none 0 0] 24))).heap[w.heap.size + 1]? = some (.cells #[.int .i64 0, .slice none 0 0] 24 (0, 0)) from by
    have h := heap_alloc_new (w.alloc (.cells #[.int .i64 ep, .slice ao L.length cap] 24)) (.cells #[.int .i64 0, .slice none 0 0] 24)
    have h2 := below_heap ((Below.refl _ _).alloc (Nat.le_refl _) (.cells #[.int .i64 ep, .slice none 0 0] 24)) h
    simpa using h2)
  have HQ0 := Lib.hid (show ((((w.alloc (.cells #[.int .i64 ep, .slice ao L.length cap] 24)).alloc (.cells #[.int .i64 0, .slice none 0 0] 24)).alloc (.cells #[.int .i64 ep, .slice none 0 0] 24))).heap[w.heap.size + 2]? = some (.cells #[.int .i64 ep, .slice none 0 0] 24 (0, 0)) from by
    have h := heap_alloc_new ((w.alloc (.cells #[.int .i64 ep, .slice ao L.length cap] 24)).alloc (.cells #[.int .i64 0, .slice none 0 0] 24)) (.cells #[.int .i64 ep, .slice none 0 0] 24)
    simpa using h)
  have HSZ := Lib.hid (show ((((w.alloc (.cells #[.int .i64 ep, .slice ao L.length cap] 24)).alloc (.cells #[.int .i64 0, .slice none 0 0] 24)).alloc (.cells #[.int .i64 ep, .slice none 0 0] 24))).heap.size = w.heap.size + 3 from by simp)
  clear hT hS
  go_enter Try.func11, Try.ntmps11
  go_wp2_with fail
  generalize hW0 : World.alloc (World.alloc _ _) _ = W0 at *
  go_loopw [12] (fun i wr => ∃ (n : Nat) (v : Value) (vs : List Value), i = .int .i64 n ∧ n ≤ L.length ∧ Hid (wr.heap[w.heap.size + 2]? = some (.cells #[.int .i64 ep, v] 24 (0, 0))) ∧ Hid (CP wr (w.heap.size + 3) v vs (L.take n)) ∧ Hid (Kept (fun k => k < w.heap.size + 3 ∧ k ≠ w.heap.size + 2) W0 wr)) (fun i _ => L.length - (intOf i).toNat)
  case atStart => exact ⟨0, _, [], rfl, Nat.zero_le _, HQ0, Lib.hid (by rw [List.take_zero]; exact CP.nil _ _), Lib.hid (Kept.refl _ _)⟩
  case round =>
    obtain ⟨n, v, vs, rfl, hn, HP, HC, HK⟩ := hrel
    have HWB := Lib.hid (HB0.out.trans (HK.out.toBelow (by rw [HSZ.out]; omega) (fun k h => ⟨by omega, by omega⟩)))
    have hszr : w.heap.size + 3 ≤ wr.heap.size := by have := HK.out.size; have := HSZ.out; omega
    by_cases hlt : n < L.length
    · obtain ⟨bk, off, ai, ci, hao, c0w, hN⟩ := HT.out n hlt
      subst hao
      have cA : wr.cell? ⟨bk, off + n, none⟩ = some (.slice ai L[n].length ci) := cellB HWB.out (block_lt_of_cell c0w) c0w
      have HNN := Lib.hid (show NLI wr.drew ai ci L[n] from (hN.below HWB.out).drew)
      have k0 : (n : Int) < (L.length : Int) := by omega
      have m0 := HM.out.2 _ (List.getElem_mem hlt)
      have m0' : (L[n].length : Int) ≤ 255 := by omega
      have hLn := HM.out.1
      have HLT := Lib.hid (show (L.take n).length + 1 ≤ 1000000 from by rw [List.length_take]; omega)
      obtain ⟨c0, c1, f0, f1⟩ := two_cells HP.out
      have HTK := Lib.hid (fun (w' : World) (v' : Value) (vs' : List Value) h => @CP.take w' (w.heap.size + 3) v' vs' L n hlt h)
      have hqr : w.heap.size + 2 < wr.heap.size := by omega
      clear c0w hN
      go_wp2_with fail
      clear cA
      go_region_law (first
        | (refine step_app_ints rfl (.const (.slice none 0 0)) (.tmp 18) rfl (B := wr.heap.size) (v := .slice none 0 0) (D := []) rfl (OI.nil _ _) (ao := ai) (cap := ci) (l := L[n]) rfl rfl HNN.out (by simp; omega) (Nat.le_refl _) ?_; intro v1 w1 hI hg _; rw [List.nil_append] at hI; have hb1 : Below wr.heap.size wr w1 := (Below.refl wr.heap.size wr).drew.grown hg (Nat.le_refl _) (fun k e => by cases e); obtain ⟨a1, cc1, hv1, _, _, _⟩ := hI.form; subst hv1; have HC1 := Lib.hid (HC.out.below hb1); have HF1 := Lib.hid (HC.out.fresh hI); have HI1 := Lib.hid (hI.lower hszr); have HB1 := Lib.hid hb1; have hsz1 : w.heap.size + 3 ≤ w1.heap.size := Nat.le_trans hszr hb1.size; have hq1 : w.heap.size + 2 < w1.heap.size := hsz1; have HP1 := Lib.hid (below_heap hb1 HP.out); obtain ⟨d0, d1, g0, g1⟩ := two_cells HP1.out; clear hI hg hb1)
        | (refine step_app_copy rfl (.tmp 17) (.tmp 20) rfl (w := w1) (B := w.heap.size + 3) (v := v) (vs := vs) (L := L.take n) rfl HC1.out (y := .slice a1 L[n].length cc1) (l := L[n]) rfl HI1.out HF1.out HLT.out hsz1 ?_; intro v2 w2 hC2 hb2; obtain ⟨b8, n8, c8, hv8⟩ : ∃ b8 n8 c8, v2 = .slice b8 n8 c8 := (by obtain ⟨x, y, e⟩ := hC2.form; exact ⟨x, _, y, e⟩); subst hv8; have HC2 := Lib.hid (HTK.out _ _ _ hC2); have HP2 := Lib.hid ((below_kept hb2 hsz1).heap (b := w.heap.size + 2) (by omega) HP1.out); obtain ⟨x0, x1, y0, y1⟩ := two_cells HP2.out; have HK2 := Lib.hid ((HK.out.below HB1.out).trans ((below_kept hb2 hsz1).mono (fun k h => h.1))); clear hC2 hb2))
      all_goals
        go_wp2_with fail
        go_roundw
        case rel =>
          refine ⟨n + 1, .slice b8 n8 c8, vs ++ [.slice a1 L[n].length cc1], by go_num, by omega, Lib.hid (two_set1 HP2.out (.slice b8 n8 c8)), Lib.hid ?_, Lib.hid ?_⟩
          · exact HC2.out.keep ((Kept.refl (fun k => w.heap.size + 3 ≤ k) w2).setCell (p := ⟨w.heap.size + 2, 1, none⟩) (by simp) (.slice b8 n8 c8)) (fun k h _ => h)
          · exact HK2.out.setCell (p := ⟨w.heap.size + 2, 1, none⟩) (by simp) (.slice b8 n8 c8)
        case measure => simp [intOf]; omega
    · obtain rfl : n = L.length := by omega
      rw [List.take_of_length_le (Nat.le_refl _)] at HC
      obtain ⟨bo1, cb1, hv1⟩ := HC.out.form
      subst hv1
      have HR := Lib.hid (HK.out.heap (b := w.heap.size + 1) ⟨by omega, by omega⟩ HRES.out)
      obtain ⟨c0, c1, f0, f1⟩ := two_cells HP.out
      obtain ⟨t0, t1, g0, g1⟩ := two_cells HR.out
      have hszp : w.heap.size + 2 < wr.heap.size := by omega
      go_wp2_with fail
      have hK := ((Kept.refl (fun k => w.heap.size + 3 ≤ k) wr).setCell (p := ⟨w.heap.size + 1, 0, none⟩) (by simp) (.int .i64 ep)).setCell (p := ⟨w.heap.size + 1, 1, none⟩) (by simp) (.slice bo1 L.length cb1)
      obtain ⟨bo, cb, bk, off, g, o, c, aj, e2, hLay⟩ := (HC.out.keep hK (fun _ h _ => h)).lay
      cases e2
      have hLay2 : Lay _ w.heap.size bo1 L bk off g o c aj (fun _ _ => True) := ⟨fun i hi => ⟨(hLay.row i hi).1, by have := (hLay.row i hi).2.1; omega, (hLay.row i hi).2.2⟩, fun i hi k hk => ⟨(hLay.cell i hi k hk).1, by have := (hLay.cell i hi k hk).2.1; omega, (hLay.cell i hi k hk).2.2⟩, hLay.apart, hLay.far⟩
      exact proj_ret rfl (two_set1 (two_set0 HR.out (.int .i64 ep)) (.slice bo1 L.length cb1)) rfl rfl ⟨bo1, cb1, bk, off, g, o, c, aj, rfl, hLay2, (HWB.out.setCell (by simp) _).setCell (by simp) _⟩
end Go.Proofs.Ytbiihcoobknmjaa
