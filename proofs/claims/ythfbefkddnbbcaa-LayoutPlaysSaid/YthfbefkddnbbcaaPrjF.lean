/- What the statements' own small function CopyProjection returns. Conditions: the projection lies where the call was told, and is not too large to be gone through. -/
import Derived.Test.YthfbefkddnbbcaaPrjD
namespace Go.Proofs.Ythfbefkddnbbcaa
set_option linter.unusedVariables false
open Go.RowKit
set_option maxRecDepth 20000

theorem bcell0 {B : Nat} {W w1 : World} (hb : Below B W w1) {b o : Nat} {v : Value} (h : W.cell? ⟨b, o, none⟩ = some v) (hl : b < B) : w1.cell? ⟨b, o, none⟩ = some v := (hb.cell (p := ⟨b, o, none⟩) hl).trans h
theorem bfree0 {B : Nat} {W w1 : World} (hb : Below B W w1) {b o : Nat} (h : W.frozen? ⟨b, o, none⟩ = false) (hl : b < B) : w1.frozen? ⟨b, o, none⟩ = false := (hb.frozen (p := ⟨b, o, none⟩) hl).trans h
theorem OC.lower {w : World} {B B' : Nat} {v : Value} {L : List (List Int)} (h : OC w B v L) (hb : B' ≤ B) : OC w B' v L := by
  obtain ⟨xs, h1, h2⟩ := h
  refine ⟨xs, ⟨h1.1, ?_⟩, fun i hi => ?_⟩
  · rcases h1.2 with h3 | ⟨g, cap, cur, h3, h4, r⟩
    · exact .inl h3
    · exact .inr ⟨g, cap, cur, h3, Nat.le_trans hb h4, r⟩
  · obtain ⟨ai, ci, h3, h4, h5⟩ := h2 i hi
    exact ⟨ai, ci, h3, h4, fun a e => ⟨Nat.le_trans hb (h5 a e).1, (h5 a e).2⟩⟩
set_option maxHeartbeats 2000000 in
theorem keepCopyO_any (ep : Int) (ao : Option Addr) (cap : Nat) (L : List (List Int)) (w : World) (h : CL w ao L) (hl : L.length ≤ 1000 ∧ ∀ c ∈ L, c.length ≤ 1000) :
    Calls Try.prog 10 #[.agg #[.int .i64 ep, .slice ao L.length cap]] w fun e w' => ∃ v, e = .returned (.agg #[.int .i64 ep, v]) ∧ OC w' w.heap.size v L ∧ Below w.heap.size w w' := by
  have HB0 := Lib.hid (((Below.refl w.heap.size w).alloc (Nat.le_refl _) (.cells #[.int .i64 ep, .slice ao L.length cap] 24)).alloc (by simp) (.cells #[.int .i64 0, .slice none 0 0] 24))
  have HC := Lib.hid h
  have hl' : (L.length : Int) ≤ 1000 := by omega
  have hl2 : L.length ≤ 1000 := hl.1
  have HM := Lib.hid hl.2
  clear h hl
  go_enter Try.func10, Try.ntmps10
  go_wp2_with fail
  go_loopw [3, 4] (fun v i wr => ∃ k : Nat, i = .int .i64 k ∧ k ≤ L.length ∧ OC wr (w.heap.size + 2) v (L.take k) ∧ Below (w.heap.size + 2) ((w.alloc (.cells #[.int .i64 ep, .slice ao L.length cap] 24)).alloc (.cells #[.int .i64 0, .slice none 0 0] 24)) wr) (fun _ i _ => L.length - (intOf i).toNat)
  case atStart => exact ⟨0, rfl, Nat.zero_le _, by rw [List.take_zero]; exact OC.nil _ _, Below.refl _ _⟩
  case round =>
    obtain ⟨k, rfl, hk, hO, hb⟩ := hrel
    have b1 : wr.cell? ⟨w.heap.size, 1, none⟩ = some (.slice ao L.length cap) := bcell0 hb (by simp) (by omega)
    have HW := Lib.hid (HB0.out.trans (hb.mono (by omega)))
    have hsz : w.heap.size + 2 ≤ wr.heap.size := by have := hb.size; simpa using this
    have hsz0 : w.heap.size < wr.heap.size := by omega
    by_cases hlt : k < L.length
    · obtain ⟨bk, off, ai, ci, hao, c0, hN⟩ := (HC.out.below HW.out) k hlt
      subst hao
      have hbk := block_lt_of_cell c0
      have m0 := HM.out L[k] (List.getElem_mem hlt)
      have hNd := Lib.hid hN
      have HT := Lib.hid (show L.take (k + 1) = L.take k ++ [L[k]] from List.take_succ_eq_append_getElem hlt)
      have HO := Lib.hid hO
      have HB := Lib.hid hb
      clear hN hO hb
      go_wp2_with (first
        | (refine wpList_app_ints (o := ⟨some 19, _, _, _, _, _⟩) rfl (.tmp 13) (.tmp 18) rfl (B := wr.heap.size) (v := .slice (some ⟨wr.heap.size, 0, none⟩) 0 0) (D := []) rfl (OI.made wr (Nat.le_refl _)) (ao := ai) (cap := ci) (l := L[k]) rfl rfl (hNd.out.alloc _) (by simp; omega) (by simp) ?_; intro v1 w1 hI hg _; rw [List.nil_append] at hI; obtain ⟨a1, c1, hv1, hN1, hA1, _⟩ := hI.form; have HG := Lib.hid (below_app hg (fun k e => by cases e; exact Nat.le_refl _)); have HN1 := Lib.hid hN1; have HA1 := Lib.hid (HO.out.apart hsz hA1); clear hI hg hN1 hA1; subst hv1)
        | (refine wpList_app_chain (o := ⟨some 21, _, _, _, _, _⟩) (w := w1) rfl (.tmp 12) (.tmp 20) rfl (B := w.heap.size + 2) (v := u3) (L := L.take k) rfl (HO.out.below HG.out) (ai := a1) (ci := c1) (l := L[k]) rfl HN1.out HA1.out (by simp; omega) (Nat.le_trans hsz HG.out.size) ?_; intro v2 w2 hO2 hb2; rw [← HT.out] at hO2; have HO2 := Lib.hid hO2; have HB2 := Lib.hid ((HB.out.trans (HG.out.mono hsz)).trans hb2); clear hO2 hb2))
      go_roundw
      case rel => exact ⟨k + 1, by go_num, by omega, HO2.out, HB2.out⟩
      case measure => simp [intOf]; omega
    · obtain rfl : k = L.length := by omega
      rw [List.take_of_length_le (Nat.le_refl _)] at hO
      obtain ⟨bo, cb, rfl, hC2, hn2, hl2, ha2⟩ := hO.form
      have b0 : wr.cell? ⟨w.heap.size, 0, none⟩ = some (.int .i64 ep) := bcell0 hb (by simp) (by omega)
      have f1 : wr.frozen? ⟨w.heap.size, 1, none⟩ = false := bfree0 hb (by simp) (by omega)
      have r0 : wr.cell? ⟨w.heap.size + 1, 0, none⟩ = some (.int .i64 0) := bcell0 hb (by simp) (by omega)
      have r1 : wr.cell? ⟨w.heap.size + 1, 1, none⟩ = some (.slice none 0 0) := bcell0 hb (by simp) (by omega)
      have g0 : wr.frozen? ⟨w.heap.size + 1, 0, none⟩ = false := bfree0 hb (by simp) (by omega)
      have g1 : wr.frozen? ⟨w.heap.size + 1, 1, none⟩ = false := bfree0 hb (by simp) (by omega)
      have HR := Lib.hid ((hb.block (w.heap.size + 1) (by omega)).trans (show _ = some (.cells #[.int .i64 0, .slice none 0 0] 24 (0, 0)) by have := heap_alloc_new (w.alloc (.cells #[.int .i64 ep, .slice ao L.length cap] 24)) (.cells #[.int .i64 0, .slice none 0 0] 24); simpa using this))
      have HO := Lib.hid hO
      clear hO hC2 hn2 hl2 ha2 hb
      go_wp2_with fail
      have hR1 := two_set1 (two_set0 ((((Kept.refl (fun k => k = w.heap.size + 1) wr).setCell (p := ⟨w.heap.size, 1, none⟩) (by simp) (.slice bo L.length cb)).heap rfl HR.out)) (.int .i64 ep)) (.slice bo L.length cb)
      have hK := (((Kept.refl (fun k => w.heap.size + 2 ≤ k) wr).setCell (p := ⟨w.heap.size, 1, none⟩) (by simp) (.slice bo L.length cb)).setCell (p := ⟨w.heap.size + 1, 0, none⟩) (by simp) (.int .i64 ep)).setCell (p := ⟨w.heap.size + 1, 1, none⟩) (by simp) (.slice bo L.length cb)
      have hO2 := HO.out.keep hK (fun _ h _ => h)
      exact proj_ret rfl hR1 rfl rfl ⟨_, rfl, hO2.lower (by omega), ((HW.out.setCell (by simp) _).setCell (by simp) _).setCell (by simp) _⟩
theorem keepCopy_any (ep : Int) (ao : Option Addr) (cap : Nat) (L : List (List Int)) (w : World) (h : CL w ao L) (hl : L.length ≤ 1000 ∧ ∀ c ∈ L, c.length ≤ 1000) :
    Calls Try.prog 10 #[.agg #[.int .i64 ep, .slice ao L.length cap]] w fun e w' => ∃ bo cb, e = .returned (.agg #[.int .i64 ep, .slice bo L.length cb]) ∧ CL w' bo L ∧ (bo = none → cb = 0) ∧ L.length ≤ cb ∧ Below w.heap.size w w' := by
  refine (keepCopyO_any ep ao cap L w h hl).mono ?_
  rintro e w' ⟨v, rfl, hO, hb⟩
  obtain ⟨bo, cb, rfl, h2, h3, h4, _⟩ := hO.form
  exact ⟨bo, cb, rfl, h2, h3, h4, hb⟩
end Go.Proofs.Ythfbefkddnbbcaa
