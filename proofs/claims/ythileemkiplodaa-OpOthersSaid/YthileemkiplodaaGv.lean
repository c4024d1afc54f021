/- What the walks of the document's Encode lean on: what a good record's fields are. No conditions. What the document's Encode returns, at good records of the kind 13, and at all. Conditions: the moves lie where the call was told; sizes of at most 1000000. -/
import Derived.Test.YthileemkiplodaaGm
import Derived.Test.YthileemkiplodaaGi
import Derived.Test.YthileemkiplodaaGt
set_option linter.unusedVariables false
namespace Go.Proofs.Ythileemkiplodaa
open Go.RowKit
set_option maxRecDepth 20000

theorem num_qk {w : World} {q B : Nat} {t : St} {v n : Int} (_ : QK w q (t.num v n)) (h : t.s.size ≤ B) : (t.num v n).s.size ≤ B + 8 := num_le h v n
theorem text_qk {w : World} {q B : Nat} {t : St} {x : ByteArray} (_ : QK w q (t.text x)) (h : t.s.size ≤ B) (hx : x.size ≤ 1000000) : (t.text x).s.size ≤ B + 1000010 := text_le h x hx
theorem stE_size : stE.s.size ≤ 0 := Nat.le_refl _
theorem good_form {o : Rec} (h : goodO o = true) : formR o = true := by
  rw [good_pre, Bool.and_eq_true] at h
  exact h.2
theorem good_by {o : Rec} (h : goodO o = true) : (0 ≤ o.client ∧ o.client ≤ 7) ∧ (1 ≤ o.seq ∧ o.seq ≤ 2147483647) := by
  simp only [goodO, Bool.and_eq_true, inR_iff] at h
  exact ⟨h.1, h.2.1⟩
end Go.Proofs.Ythileemkiplodaa
namespace Go.Proofs.Ythileemkiplodaa
open Go.RowKit
set_option maxRecDepth 20000

theorem encMove_le {t : St} {B : Nat} (h : t.s.size ≤ B) (m : Mv) : (encMove t m).s.size ≤ B + 32 := num_le (num_le (num_le (num_le h _ _) _ _) _ _) _ _
theorem mv_at {L : List Mv} {n k : Nat} (h : k < L.length) (ha : ∀ m ∈ L, mvGood n m = true) : (0 ≤ L[k].addr ∧ L[k].addr ≤ 16383) ∧ (0 ≤ L[k].src ∧ L[k].src ≤ 1024) ∧ (1 ≤ L[k].len ∧ L[k].len ≤ 1024) ∧ (0 ≤ L[k].dst ∧ L[k].dst ≤ 1024) := by
  have := ha _ (List.getElem_mem h)
  simp only [mvGood, Bool.and_eq_true, inR_iff] at this
  exact ⟨this.1, this.2.1, this.2.2.1, this.2.2.2.1⟩
set_option maxRecDepth 100000 in
set_option maxHeartbeats 8000000 in
theorem renc_13 (o : Rec) (ao : Option Addr) (cap : Nat) (w : World) (hv : VLI w ao cap o.moves) (hl : o.moves.length ≤ 1000000) (hz : o.path.size ≤ 1000000 ∧ o.dest.size ≤ 1000000 ∧ o.data.size ≤ 1000000) (hg : goodO o = true) (hk : o.kind = 13) :
    Calls Try.prog 12 #[.agg (recA o (.slice ao o.moves.length cap))] w fun e w' => e = .returned (.tuple #[.string (encSt o).made, .int .i64 0]) ∧ Below w.heap.size w w' := by
  have hf := good_form hg
  obtain ⟨⟨c1, c2⟩, ⟨q1, q2⟩⟩ := good_by hg
  simp [formR, hk] at hf
  obtain ⟨s1, s2⟩ := inR_iff.1 hf.1; obtain ⟨s3, s4⟩ := inR_iff.1 hf.2.1; have HM := Lib.hid hf.2.2.2
  have HE := Lib.hid (show encSt o = (o.moves.foldl encMove (((((stE.num 13 1).num o.client 1).num o.seq 4).num o.ino 4).num (o.moves.length : Int) 1)).text o.data by simp [encSt, encHead, hk])
  have HG := Lib.hid hg
  have HZ := Lib.hid hz
  have HL := Lib.hid hl
  have HX := Lib.hid (heap_alloc_new w (.cells (recA o (.slice ao o.moves.length cap)) 24))
  have HB0 := Lib.hid ((Below.refl w.heap.size w).alloc (Nat.le_refl _) (.cells (recA o (.slice ao o.moves.length cap)) 24))
  have HV := Lib.hid (hv.below ((Below.refl w.heap.size w).alloc (Nat.le_refl _) (.cells (recA o (.slice ao o.moves.length cap)) 24)))
  obtain ⟨y0, y1, y2, y3, y4, y5, y6, y7, y8, y9, y10, y11⟩ := rec_cells HX.out
  have HK := Lib.hid hk
  have HV0 := Lib.hid hv
  clear hf hg hz hv hk
  go_enter Try.func12, Try.ntmps12
  go_wp2_with (first | (go_at_call 14; refine (rgoodO_any o ao cap _ HV.out HL.out HZ.out).mono ?_; rintro e w1 ⟨rfl, hb1⟩; rw [HG.out]; replace HX := Lib.hid (below_heap hb1 HX.out); have HLT := Lib.hid (lt_of_block HX.out); replace HB0 := Lib.hid (HB0.out.trans (hb1.mono HB0.out.size)); clear hb1 y0 y1 y2 y3 y4 y5 y6 y7 y8 y9 y10 y11; obtain ⟨y0, y1, y2, y3, y4, y5, y6, y7, y8, y9, y10, y11⟩ := rec_cells HX.out; rw [HK.out] at y2) | (go_at_call 25; refine (refNew_any _).mono ?_; rintro e w2 ⟨rfl, hq2, hb2⟩; have HQ := Lib.hid (show QK _ _ stE from hq2); have HS := Lib.hid stE_size; replace HX := Lib.hid (below_heap hb2 HX.out); have HNE := Lib.hid (Nat.ne_of_lt HLT.out); have HQL := Lib.hid (Nat.le_of_lt HLT.out); replace HB0 := Lib.hid (HB0.out.trans (hb2.mono HB0.out.size)); clear hq2 hb2 y0 y1 y2 y3 y4 y5 y6 y7 y8 y9 y10 y11; obtain ⟨y0, y1, y2, y3, y4, y5, y6, y7, y8, y9, y10, y11⟩ := rec_cells HX.out; rw [HK.out] at y2) | (go_at_call 26; refine (refNum_any _ _ _ _ _ HQ.out (Nat.le_trans HS.out (by decide)) (by constructor <;> omega)).mono ?_; rintro e w5 ⟨rfl, hq5, hk5⟩; replace HQ := Lib.hid hq5; replace HS := Lib.hid (num_qk hq5 HS.out); replace HX := Lib.hid (hk5.heap HNE.out HX.out); replace HB0 := Lib.hid (HB0.out.trans (hk5.toBelow HB0.out.size (fun k hk => by have := HQL.out; omega))); clear hq5 hk5 y0 y1 y2 y3 y4 y5 y6 y7 y8 y9 y10 y11; obtain ⟨y0, y1, y2, y3, y4, y5, y6, y7, y8, y9, y10, y11⟩ := rec_cells HX.out; rw [HK.out] at y2) | (go_at_call 27; refine (refText_any _ _ _ _ HQ.out (Nat.le_trans HS.out (by decide)) (by have := HZ.out; omega)).mono ?_; rintro e w5 ⟨rfl, hq5, hk5⟩; replace HQ := Lib.hid hq5; replace HS := Lib.hid (text_qk hq5 HS.out (by have := HZ.out; omega)); replace HX := Lib.hid (hk5.heap HNE.out HX.out); replace HB0 := Lib.hid (HB0.out.trans (hk5.toBelow HB0.out.size (fun k hk => by have := HQL.out; omega))); clear hq5 hk5 y0 y1 y2 y3 y4 y5 y6 y7 y8 y9 y10 y11; obtain ⟨y0, y1, y2, y3, y4, y5, y6, y7, y8, y9, y10, y11⟩ := rec_cells HX.out; rw [HK.out] at y2) | (go_at_call 28; refine (refDone_any _ _ _ HQ.out (Nat.le_trans HS.out (by decide))).mono ?_; rintro e w6 ⟨rfl, rfl⟩))
  have hl16 : (o.moves.length : Int) ≤ 16 := s4
  generalize hT : (((((stE.num 13 1).num o.client 1).num o.seq 4).num o.ino 4).num (o.moves.length : Int) 1) = T0 at *
  clear hT
  go_loopw [5] (fun i wr => ∃ k : Nat, i = .int .i64 k ∧ k ≤ o.moves.length ∧ Hid (QK wr w1.heap.size ((o.moves.take k).foldl encMove T0)) ∧ Hid (((o.moves.take k).foldl encMove T0).s.size ≤ 100 + 32 * k) ∧ Hid (wr.heap[w.heap.size]? = some (.cells (recA o (.slice ao o.moves.length cap)) 24 (0, 0))) ∧ Hid (Below w.heap.size w wr)) (fun i _ => o.moves.length - (intOf i).toNat)
  case atStart => exact ⟨0, rfl, Nat.zero_le _, HQ, Lib.hid (Nat.le_trans HS.out (by decide)), HX, HB0⟩
  case round =>
    clear HQ HS HX HB0 y0 y1 y2 y3 y4 y5 y6 y7 y8 y9 y10 y11
    obtain ⟨k, rfl, hk, HQ, HS0, HX, HB0⟩ := hrel
    have HS := Lib.hid (show ((o.moves.take k).foldl encMove T0).s.size ≤ 1000 by have := HS0.out; omega)
    obtain ⟨y0, y1, y2, y3, y4, y5, y6, y7, y8, y9, y10, y11⟩ := rec_cells HX.out
    rw [HK.out] at y2
    by_cases hlt : k < o.moves.length
    · obtain ⟨bk, off, rfl, x0, x1, x2, x3⟩ := HV0.out.1.below HB0.out k hlt
      have HTK := Lib.hid (foldl_take hlt T0)
      have hmg := mv_at hlt HM.out
      obtain ⟨⟨a1, a2⟩, ⟨a3, a4⟩, ⟨a5, a6⟩, ⟨a7, a8⟩⟩ := hmg
      generalize (o.moves.take k).foldl encMove T0 = t at *
      go_wp2_with (go_at_call 26; refine (refNum_any _ _ _ _ _ HQ.out (Nat.le_trans HS.out (by decide)) (by constructor <;> omega)).mono ?_; rintro e w5 ⟨rfl, hq5, hk5⟩; replace HQ := Lib.hid hq5; replace HS := Lib.hid (num_qk hq5 HS.out); replace HX := Lib.hid (hk5.heap HNE.out HX.out); replace HB0 := Lib.hid (HB0.out.trans (hk5.toBelow HB0.out.size (fun k hk => by have := HQL.out; omega))); clear hq5 hk5 y0 y1 y2 y3 y4 y5 y6 y7 y8 y9 y10 y11; obtain ⟨y0, y1, y2, y3, y4, y5, y6, y7, y8, y9, y10, y11⟩ := rec_cells HX.out; clear x0 x1 x2 x3; obtain ⟨_, _, ee, x0, x1, x2, x3⟩ := HV0.out.1.below HB0.out k hlt; cases ee)
      go_roundw
      case rel => exact ⟨k + 1, by go_num, by omega, by rw [HTK.out]; exact HQ, by rw [HTK.out]; exact Lib.hid (by have := encMove_le HS0.out o.moves[k]; omega), HX, HB0⟩
      case measure => simp [intOf]; omega
    · obtain rfl : k = o.moves.length := by omega
      rw [List.take_of_length_le (Nat.le_refl _)] at HQ HS HS0
      go_wp2_with (first | (go_at_call 14; refine (rgoodO_any o ao cap _ HV.out HL.out HZ.out).mono ?_; rintro e w1 ⟨rfl, hb1⟩; rw [HG.out]; replace HX := Lib.hid (below_heap hb1 HX.out); have HLT := Lib.hid (lt_of_block HX.out); replace HB0 := Lib.hid (HB0.out.trans (hb1.mono HB0.out.size)); clear hb1 y0 y1 y2 y3 y4 y5 y6 y7 y8 y9 y10 y11; obtain ⟨y0, y1, y2, y3, y4, y5, y6, y7, y8, y9, y10, y11⟩ := rec_cells HX.out; rw [HK.out] at y2) | (go_at_call 25; refine (refNew_any _).mono ?_; rintro e w2 ⟨rfl, hq2, hb2⟩; have HQ := Lib.hid (show QK _ _ stE from hq2); have HS := Lib.hid stE_size; replace HX := Lib.hid (below_heap hb2 HX.out); have HNE := Lib.hid (Nat.ne_of_lt HLT.out); have HQL := Lib.hid (Nat.le_of_lt HLT.out); replace HB0 := Lib.hid (HB0.out.trans (hb2.mono HB0.out.size)); clear hq2 hb2 y0 y1 y2 y3 y4 y5 y6 y7 y8 y9 y10 y11; obtain ⟨y0, y1, y2, y3, y4, y5, y6, y7, y8, y9, y10, y11⟩ := rec_cells HX.out; rw [HK.out] at y2) | (go_at_call 26; refine (refNum_any _ _ _ _ _ HQ.out (Nat.le_trans HS.out (by decide)) (by constructor <;> omega)).mono ?_; rintro e w5 ⟨rfl, hq5, hk5⟩; replace HQ := Lib.hid hq5; replace HS := Lib.hid (num_qk hq5 HS.out); replace HX := Lib.hid (hk5.heap HNE.out HX.out); replace HB0 := Lib.hid (HB0.out.trans (hk5.toBelow HB0.out.size (fun k hk => by have := HQL.out; omega))); clear hq5 hk5 y0 y1 y2 y3 y4 y5 y6 y7 y8 y9 y10 y11; obtain ⟨y0, y1, y2, y3, y4, y5, y6, y7, y8, y9, y10, y11⟩ := rec_cells HX.out; rw [HK.out] at y2) | (go_at_call 27; refine (refText_any _ _ _ _ HQ.out (Nat.le_trans HS.out (by decide)) (by have := HZ.out; omega)).mono ?_; rintro e w5 ⟨rfl, hq5, hk5⟩; replace HQ := Lib.hid hq5; replace HS := Lib.hid (text_qk hq5 HS.out (by have := HZ.out; omega)); replace HX := Lib.hid (hk5.heap HNE.out HX.out); replace HB0 := Lib.hid (HB0.out.trans (hk5.toBelow HB0.out.size (fun k hk => by have := HQL.out; omega))); clear hq5 hk5 y0 y1 y2 y3 y4 y5 y6 y7 y8 y9 y10 y11; obtain ⟨y0, y1, y2, y3, y4, y5, y6, y7, y8, y9, y10, y11⟩ := rec_cells HX.out; rw [HK.out] at y2) | (go_at_call 28; refine (refDone_any _ _ _ HQ.out (Nat.le_trans HS.out (by decide))).mono ?_; rintro e w6 ⟨rfl, rfl⟩))
      go_ret2
      rw [HE.out]
      exact ⟨rfl, HB0.out⟩
end Go.Proofs.Ythileemkiplodaa
