/- What the document's Encode returns, at good records of the kinds 1 to 7. Conditions: the moves lie where the call was told; sizes of at most 1000000. -/
import Derived.Test.YthileemkiplodaaGv
set_option linter.unusedVariables false
namespace Go.Proofs.Ythileemkiplodaa
open Go.RowKit
set_option maxRecDepth 20000

set_option maxRecDepth 100000 in
set_option maxHeartbeats 8000000 in
theorem renc_1 (o : Rec) (ao : Option Addr) (cap : Nat) (w : World) (hv : VLI w ao cap o.moves) (hl : o.moves.length ≤ 1000000) (hz : o.path.size ≤ 1000000 ∧ o.dest.size ≤ 1000000 ∧ o.data.size ≤ 1000000) (hg : goodO o = true) (hk : o.kind = 1) :
    Calls Try.prog 12 #[.agg (recA o (.slice ao o.moves.length cap))] w fun e w' => e = .returned (.tuple #[.string (encSt o).made, .int .i64 0]) ∧ Below w.heap.size w w' := by
  have hf := good_form hg
  obtain ⟨⟨c1, c2⟩, ⟨q1, q2⟩⟩ := good_by hg
  simp [formR, hk] at hf
  skip
  have HE := Lib.hid (show encSt o = (((stE.num 1 1).num o.client 1).num o.seq 4).text o.path by simp [encSt, encHead, hk])
  have HG := Lib.hid hg
  have HZ := Lib.hid hz
  have HL := Lib.hid hl
  have HX := Lib.hid (heap_alloc_new w (.cells (recA o (.slice ao o.moves.length cap)) 24))
  have HB0 := Lib.hid ((Below.refl w.heap.size w).alloc (Nat.le_refl _) (.cells (recA o (.slice ao o.moves.length cap)) 24))
  have HV := Lib.hid (hv.below ((Below.refl w.heap.size w).alloc (Nat.le_refl _) (.cells (recA o (.slice ao o.moves.length cap)) 24)))
  obtain ⟨y0, y1, y2, y3, y4, y5, y6, y7, y8, y9, y10, y11⟩ := rec_cells HX.out
  have HK := Lib.hid hk
  clear hf hg hz hv hk
  go_enter Try.func12, Try.ntmps12
  go_wp2_with (first | (go_at_call 14; refine (rgoodO_any o ao cap _ HV.out HL.out HZ.out).mono ?_; rintro e w1 ⟨rfl, hb1⟩; rw [HG.out]; replace HX := Lib.hid (below_heap hb1 HX.out); have HLT := Lib.hid (lt_of_block HX.out); replace HB0 := Lib.hid (HB0.out.trans (hb1.mono HB0.out.size)); clear hb1 y0 y1 y2 y3 y4 y5 y6 y7 y8 y9 y10 y11; obtain ⟨y0, y1, y2, y3, y4, y5, y6, y7, y8, y9, y10, y11⟩ := rec_cells HX.out; rw [HK.out] at y2) | (go_at_call 25; refine (refNew_any _).mono ?_; rintro e w2 ⟨rfl, hq2, hb2⟩; have HQ := Lib.hid (show QK _ _ stE from hq2); have HS := Lib.hid stE_size; replace HX := Lib.hid (below_heap hb2 HX.out); have HNE := Lib.hid (Nat.ne_of_lt HLT.out); have HQL := Lib.hid (Nat.le_of_lt HLT.out); replace HB0 := Lib.hid (HB0.out.trans (hb2.mono HB0.out.size)); clear hq2 hb2 y0 y1 y2 y3 y4 y5 y6 y7 y8 y9 y10 y11; obtain ⟨y0, y1, y2, y3, y4, y5, y6, y7, y8, y9, y10, y11⟩ := rec_cells HX.out; rw [HK.out] at y2) | (go_at_call 26; refine (refNum_any _ _ _ _ _ HQ.out (Nat.le_trans HS.out (by decide)) (by constructor <;> omega)).mono ?_; rintro e w5 ⟨rfl, hq5, hk5⟩; replace HQ := Lib.hid hq5; replace HS := Lib.hid (num_qk hq5 HS.out); replace HX := Lib.hid (hk5.heap HNE.out HX.out); replace HB0 := Lib.hid (HB0.out.trans (hk5.toBelow HB0.out.size (fun k hk => by have := HQL.out; omega))); clear hq5 hk5 y0 y1 y2 y3 y4 y5 y6 y7 y8 y9 y10 y11; obtain ⟨y0, y1, y2, y3, y4, y5, y6, y7, y8, y9, y10, y11⟩ := rec_cells HX.out; rw [HK.out] at y2) | (go_at_call 27; refine (refText_any _ _ _ _ HQ.out (Nat.le_trans HS.out (by decide)) (by have := HZ.out; omega)).mono ?_; rintro e w5 ⟨rfl, hq5, hk5⟩; replace HQ := Lib.hid hq5; replace HS := Lib.hid (text_qk hq5 HS.out (by have := HZ.out; omega)); replace HX := Lib.hid (hk5.heap HNE.out HX.out); replace HB0 := Lib.hid (HB0.out.trans (hk5.toBelow HB0.out.size (fun k hk => by have := HQL.out; omega))); clear hq5 hk5 y0 y1 y2 y3 y4 y5 y6 y7 y8 y9 y10 y11; obtain ⟨y0, y1, y2, y3, y4, y5, y6, y7, y8, y9, y10, y11⟩ := rec_cells HX.out; rw [HK.out] at y2) | (go_at_call 28; refine (refDone_any _ _ _ HQ.out (Nat.le_trans HS.out (by decide))).mono ?_; rintro e w6 ⟨rfl, rfl⟩))
  go_ret2
  rw [HE.out]
  exact ⟨rfl, HB0.out⟩
set_option maxRecDepth 100000 in
set_option maxHeartbeats 8000000 in
theorem renc_2 (o : Rec) (ao : Option Addr) (cap : Nat) (w : World) (hv : VLI w ao cap o.moves) (hl : o.moves.length ≤ 1000000) (hz : o.path.size ≤ 1000000 ∧ o.dest.size ≤ 1000000 ∧ o.data.size ≤ 1000000) (hg : goodO o = true) (hk : o.kind = 2) :
    Calls Try.prog 12 #[.agg (recA o (.slice ao o.moves.length cap))] w fun e w' => e = .returned (.tuple #[.string (encSt o).made, .int .i64 0]) ∧ Below w.heap.size w w' := by
  have hf := good_form hg
  obtain ⟨⟨c1, c2⟩, ⟨q1, q2⟩⟩ := good_by hg
  simp [formR, hk] at hf
  skip
  have HE := Lib.hid (show encSt o = (((stE.num 2 1).num o.client 1).num o.seq 4).text o.path by simp [encSt, encHead, hk])
  have HG := Lib.hid hg
  have HZ := Lib.hid hz
  have HL := Lib.hid hl
  have HX := Lib.hid (heap_alloc_new w (.cells (recA o (.slice ao o.moves.length cap)) 24))
  have HB0 := Lib.hid ((Below.refl w.heap.size w).alloc (Nat.le_refl _) (.cells (recA o (.slice ao o.moves.length cap)) 24))
  have HV := Lib.hid (hv.below ((Below.refl w.heap.size w).alloc (Nat.le_refl _) (.cells (recA o (.slice ao o.moves.length cap)) 24)))
  obtain ⟨y0, y1, y2, y3, y4, y5, y6, y7, y8, y9, y10, y11⟩ := rec_cells HX.out
  have HK := Lib.hid hk
  clear hf hg hz hv hk
  go_enter Try.func12, Try.ntmps12
  go_wp2_with (first | (go_at_call 14; refine (rgoodO_any o ao cap _ HV.out HL.out HZ.out).mono ?_; rintro e w1 ⟨rfl, hb1⟩; rw [HG.out]; replace HX := Lib.hid (below_heap hb1 HX.out); have HLT := Lib.hid (lt_of_block HX.out); replace HB0 := Lib.hid (HB0.out.trans (hb1.mono HB0.out.size)); clear hb1 y0 y1 y2 y3 y4 y5 y6 y7 y8 y9 y10 y11; obtain ⟨y0, y1, y2, y3, y4, y5, y6, y7, y8, y9, y10, y11⟩ := rec_cells HX.out; rw [HK.out] at y2) | (go_at_call 25; refine (refNew_any _).mono ?_; rintro e w2 ⟨rfl, hq2, hb2⟩; have HQ := Lib.hid (show QK _ _ stE from hq2); have HS := Lib.hid stE_size; replace HX := Lib.hid (below_heap hb2 HX.out); have HNE := Lib.hid (Nat.ne_of_lt HLT.out); have HQL := Lib.hid (Nat.le_of_lt HLT.out); replace HB0 := Lib.hid (HB0.out.trans (hb2.mono HB0.out.size)); clear hq2 hb2 y0 y1 y2 y3 y4 y5 y6 y7 y8 y9 y10 y11; obtain ⟨y0, y1, y2, y3, y4, y5, y6, y7, y8, y9, y10, y11⟩ := rec_cells HX.out; rw [HK.out] at y2) | (go_at_call 26; refine (refNum_any _ _ _ _ _ HQ.out (Nat.le_trans HS.out (by decide)) (by constructor <;> omega)).mono ?_; rintro e w5 ⟨rfl, hq5, hk5⟩; replace HQ := Lib.hid hq5; replace HS := Lib.hid (num_qk hq5 HS.out); replace HX := Lib.hid (hk5.heap HNE.out HX.out); replace HB0 := Lib.hid (HB0.out.trans (hk5.toBelow HB0.out.size (fun k hk => by have := HQL.out; omega))); clear hq5 hk5 y0 y1 y2 y3 y4 y5 y6 y7 y8 y9 y10 y11; obtain ⟨y0, y1, y2, y3, y4, y5, y6, y7, y8, y9, y10, y11⟩ := rec_cells HX.out; rw [HK.out] at y2) | (go_at_call 27; refine (refText_any _ _ _ _ HQ.out (Nat.le_trans HS.out (by decide)) (by have := HZ.out; omega)).mono ?_; rintro e w5 ⟨rfl, hq5, hk5⟩; replace HQ := Lib.hid hq5; replace HS := Lib.hid (text_qk hq5 HS.out (by have := HZ.out; omega)); replace HX := Lib.hid (hk5.heap HNE.out HX.out); replace HB0 := Lib.hid (HB0.out.trans (hk5.toBelow HB0.out.size (fun k hk => by have := HQL.out; omega))); clear hq5 hk5 y0 y1 y2 y3 y4 y5 y6 y7 y8 y9 y10 y11; obtain ⟨y0, y1, y2, y3, y4, y5, y6, y7, y8, y9, y10, y11⟩ := rec_cells HX.out; rw [HK.out] at y2) | (go_at_call 28; refine (refDone_any _ _ _ HQ.out (Nat.le_trans HS.out (by decide))).mono ?_; rintro e w6 ⟨rfl, rfl⟩))
  go_ret2
  rw [HE.out]
  exact ⟨rfl, HB0.out⟩
set_option maxRecDepth 100000 in
set_option maxHeartbeats 8000000 in
theorem renc_3 (o : Rec) (ao : Option Addr) (cap : Nat) (w : World) (hv : VLI w ao cap o.moves) (hl : o.moves.length ≤ 1000000) (hz : o.path.size ≤ 1000000 ∧ o.dest.size ≤ 1000000 ∧ o.data.size ≤ 1000000) (hg : goodO o = true) (hk : o.kind = 3) :
    Calls Try.prog 12 #[.agg (recA o (.slice ao o.moves.length cap))] w fun e w' => e = .returned (.tuple #[.string (encSt o).made, .int .i64 0]) ∧ Below w.heap.size w w' := by
  have hf := good_form hg
  obtain ⟨⟨c1, c2⟩, ⟨q1, q2⟩⟩ := good_by hg
  simp [formR, hk] at hf
  skip
  have HE := Lib.hid (show encSt o = (((stE.num 3 1).num o.client 1).num o.seq 4).text o.path by simp [encSt, encHead, hk])
  have HG := Lib.hid hg
  have HZ := Lib.hid hz
  have HL := Lib.hid hl
  have HX := Lib.hid (heap_alloc_new w (.cells (recA o (.slice ao o.moves.length cap)) 24))
  have HB0 := Lib.hid ((Below.refl w.heap.size w).alloc (Nat.le_refl _) (.cells (recA o (.slice ao o.moves.length cap)) 24))
  have HV := Lib.hid (hv.below ((Below.refl w.heap.size w).alloc (Nat.le_refl _) (.cells (recA o (.slice ao o.moves.length cap)) 24)))
  obtain ⟨y0, y1, y2, y3, y4, y5, y6, y7, y8, y9, y10, y11⟩ := rec_cells HX.out
  have HK := Lib.hid hk
  clear hf hg hz hv hk
  go_enter Try.func12, Try.ntmps12
  go_wp2_with (first | (go_at_call 14; refine (rgoodO_any o ao cap _ HV.out HL.out HZ.out).mono ?_; rintro e w1 ⟨rfl, hb1⟩; rw [HG.out]; replace HX := Lib.hid (below_heap hb1 HX.out); have HLT := Lib.hid (lt_of_block HX.out); replace HB0 := Lib.hid (HB0.out.trans (hb1.mono HB0.out.size)); clear hb1 y0 y1 y2 y3 y4 y5 y6 y7 y8 y9 y10 y11; obtain ⟨y0, y1, y2, y3, y4, y5, y6, y7, y8, y9, y10, y11⟩ := rec_cells HX.out; rw [HK.out] at y2) | (go_at_call 25; refine (refNew_any _).mono ?_; rintro e w2 ⟨rfl, hq2, hb2⟩; have HQ := Lib.hid (show QK _ _ stE from hq2); have HS := Lib.hid stE_size; replace HX := Lib.hid (below_heap hb2 HX.out); have HNE := Lib.hid (Nat.ne_of_lt HLT.out); have HQL := Lib.hid (Nat.le_of_lt HLT.out); replace HB0 := Lib.hid (HB0.out.trans (hb2.mono HB0.out.size)); clear hq2 hb2 y0 y1 y2 y3 y4 y5 y6 y7 y8 y9 y10 y11; obtain ⟨y0, y1, y2, y3, y4, y5, y6, y7, y8, y9, y10, y11⟩ := rec_cells HX.out; rw [HK.out] at y2) | (go_at_call 26; refine (refNum_any _ _ _ _ _ HQ.out (Nat.le_trans HS.out (by decide)) (by constructor <;> omega)).mono ?_; rintro e w5 ⟨rfl, hq5, hk5⟩; replace HQ := Lib.hid hq5; replace HS := Lib.hid (num_qk hq5 HS.out); replace HX := Lib.hid (hk5.heap HNE.out HX.out); replace HB0 := Lib.hid (HB0.out.trans (hk5.toBelow HB0.out.size (fun k hk => by have := HQL.out; omega))); clear hq5 hk5 y0 y1 y2 y3 y4 y5 y6 y7 y8 y9 y10 y11; obtain ⟨y0, y1, y2, y3, y4, y5, y6, y7, y8, y9, y10, y11⟩ := rec_cells HX.out; rw [HK.out] at y2) | (go_at_call 27; refine (refText_any _ _ _ _ HQ.out (Nat.le_trans HS.out (by decide)) (by have := HZ.out; omega)).mono ?_; rintro e w5 ⟨rfl, hq5, hk5⟩; replace HQ := Lib.hid hq5; replace HS := Lib.hid (text_qk hq5 HS.out (by have := HZ.out; omega)); replace HX := Lib.hid (hk5.heap HNE.out HX.out); replace HB0 := Lib.hid (HB0.out.trans (hk5.toBelow HB0.out.size (fun k hk => by have := HQL.out; omega))); clear hq5 hk5 y0 y1 y2 y3 y4 y5 y6 y7 y8 y9 y10 y11; obtain ⟨y0, y1, y2, y3, y4, y5, y6, y7, y8, y9, y10, y11⟩ := rec_cells HX.out; rw [HK.out] at y2) | (go_at_call 28; refine (refDone_any _ _ _ HQ.out (Nat.le_trans HS.out (by decide))).mono ?_; rintro e w6 ⟨rfl, rfl⟩))
  go_ret2
  rw [HE.out]
  exact ⟨rfl, HB0.out⟩
set_option maxRecDepth 100000 in
set_option maxHeartbeats 8000000 in
theorem renc_4 (o : Rec) (ao : Option Addr) (cap : Nat) (w : World) (hv : VLI w ao cap o.moves) (hl : o.moves.length ≤ 1000000) (hz : o.path.size ≤ 1000000 ∧ o.dest.size ≤ 1000000 ∧ o.data.size ≤ 1000000) (hg : goodO o = true) (hk : o.kind = 4) :
    Calls Try.prog 12 #[.agg (recA o (.slice ao o.moves.length cap))] w fun e w' => e = .returned (.tuple #[.string (encSt o).made, .int .i64 0]) ∧ Below w.heap.size w w' := by
  have hf := good_form hg
  obtain ⟨⟨c1, c2⟩, ⟨q1, q2⟩⟩ := good_by hg
  simp [formR, hk] at hf
  skip
  have HE := Lib.hid (show encSt o = ((((stE.num 4 1).num o.client 1).num o.seq 4).text o.path).text o.dest by simp [encSt, encHead, hk])
  have HG := Lib.hid hg
  have HZ := Lib.hid hz
  have HL := Lib.hid hl
  have HX := Lib.hid (heap_alloc_new w (.cells (recA o (.slice ao o.moves.length cap)) 24))
  have HB0 := Lib.hid ((Below.refl w.heap.size w).alloc (Nat.le_refl _) (.cells (recA o (.slice ao o.moves.length cap)) 24))
  have HV := Lib.hid (hv.below ((Below.refl w.heap.size w).alloc (Nat.le_refl _) (.cells (recA o (.slice ao o.moves.length cap)) 24)))
  obtain ⟨y0, y1, y2, y3, y4, y5, y6, y7, y8, y9, y10, y11⟩ := rec_cells HX.out
  have HK := Lib.hid hk
  clear hf hg hz hv hk
  go_enter Try.func12, Try.ntmps12
  go_wp2_with (first | (go_at_call 14; refine (rgoodO_any o ao cap _ HV.out HL.out HZ.out).mono ?_; rintro e w1 ⟨rfl, hb1⟩; rw [HG.out]; replace HX := Lib.hid (below_heap hb1 HX.out); have HLT := Lib.hid (lt_of_block HX.out); replace HB0 := Lib.hid (HB0.out.trans (hb1.mono HB0.out.size)); clear hb1 y0 y1 y2 y3 y4 y5 y6 y7 y8 y9 y10 y11; obtain ⟨y0, y1, y2, y3, y4, y5, y6, y7, y8, y9, y10, y11⟩ := rec_cells HX.out; rw [HK.out] at y2) | (go_at_call 25; refine (refNew_any _).mono ?_; rintro e w2 ⟨rfl, hq2, hb2⟩; have HQ := Lib.hid (show QK _ _ stE from hq2); have HS := Lib.hid stE_size; replace HX := Lib.hid (below_heap hb2 HX.out); have HNE := Lib.hid (Nat.ne_of_lt HLT.out); have HQL := Lib.hid (Nat.le_of_lt HLT.out); replace HB0 := Lib.hid (HB0.out.trans (hb2.mono HB0.out.size)); clear hq2 hb2 y0 y1 y2 y3 y4 y5 y6 y7 y8 y9 y10 y11; obtain ⟨y0, y1, y2, y3, y4, y5, y6, y7, y8, y9, y10, y11⟩ := rec_cells HX.out; rw [HK.out] at y2) | (go_at_call 26; refine (refNum_any _ _ _ _ _ HQ.out (Nat.le_trans HS.out (by decide)) (by constructor <;> omega)).mono ?_; rintro e w5 ⟨rfl, hq5, hk5⟩; replace HQ := Lib.hid hq5; replace HS := Lib.hid (num_qk hq5 HS.out); replace HX := Lib.hid (hk5.heap HNE.out HX.out); replace HB0 := Lib.hid (HB0.out.trans (hk5.toBelow HB0.out.size (fun k hk => by have := HQL.out; omega))); clear hq5 hk5 y0 y1 y2 y3 y4 y5 y6 y7 y8 y9 y10 y11; obtain ⟨y0, y1, y2, y3, y4, y5, y6, y7, y8, y9, y10, y11⟩ := rec_cells HX.out; rw [HK.out] at y2) | (go_at_call 27; refine (refText_any _ _ _ _ HQ.out (Nat.le_trans HS.out (by decide)) (by have := HZ.out; omega)).mono ?_; rintro e w5 ⟨rfl, hq5, hk5⟩; replace HQ := Lib.hid hq5; replace HS := Lib.hid (text_qk hq5 HS.out (by have := HZ.out; omega)); replace HX := Lib.hid (hk5.heap HNE.out HX.out); replace HB0 := Lib.hid (HB0.out.trans (hk5.toBelow HB0.out.size (fun k hk => by have := HQL.out; omega))); clear hq5 hk5 y0 y1 y2 y3 y4 y5 y6 y7 y8 y9 y10 y11; obtain ⟨y0, y1, y2, y3, y4, y5, y6, y7, y8, y9, y10, y11⟩ := rec_cells HX.out; rw [HK.out] at y2) | (go_at_call 28; refine (refDone_any _ _ _ HQ.out (Nat.le_trans HS.out (by decide))).mono ?_; rintro e w6 ⟨rfl, rfl⟩))
  go_ret2
  rw [HE.out]
  exact ⟨rfl, HB0.out⟩
set_option maxRecDepth 100000 in
set_option maxHeartbeats 8000000 in
theorem renc_5 (o : Rec) (ao : Option Addr) (cap : Nat) (w : World) (hv : VLI w ao cap o.moves) (hl : o.moves.length ≤ 1000000) (hz : o.path.size ≤ 1000000 ∧ o.dest.size ≤ 1000000 ∧ o.data.size ≤ 1000000) (hg : goodO o = true) (hk : o.kind = 5) :
    Calls Try.prog 12 #[.agg (recA o (.slice ao o.moves.length cap))] w fun e w' => e = .returned (.tuple #[.string (encSt o).made, .int .i64 0]) ∧ Below w.heap.size w w' := by
  have hf := good_form hg
  obtain ⟨⟨c1, c2⟩, ⟨q1, q2⟩⟩ := good_by hg
  simp [formR, hk] at hf
  skip
  have HE := Lib.hid (show encSt o = (((stE.num 5 1).num o.client 1).num o.seq 4).text o.path by simp [encSt, encHead, hk])
  have HG := Lib.hid hg
  have HZ := Lib.hid hz
  have HL := Lib.hid hl
  have HX := Lib.hid (heap_alloc_new w (.cells (recA o (.slice ao o.moves.length cap)) 24))
  have HB0 := Lib.hid ((Below.refl w.heap.size w).alloc (Nat.le_refl _) (.cells (recA o (.slice ao o.moves.length cap)) 24))
  have HV := Lib.hid (hv.below ((Below.refl w.heap.size w).alloc (Nat.le_refl _) (.cells (recA o (.slice ao o.moves.length cap)) 24)))
  obtain ⟨y0, y1, y2, y3, y4, y5, y6, y7, y8, y9, y10, y11⟩ := rec_cells HX.out
  have HK := Lib.hid hk
  clear hf hg hz hv hk
  go_enter Try.func12, Try.ntmps12
  go_wp2_with (first | (go_at_call 14; refine (rgoodO_any o ao cap _ HV.out HL.out HZ.out).mono ?_; rintro e w1 ⟨rfl, hb1⟩; rw [HG.out]; replace HX := Lib.hid (below_heap hb1 HX.out); have HLT := Lib.hid (lt_of_block HX.out); replace HB0 := Lib.hid (HB0.out.trans (hb1.mono HB0.out.size)); clear hb1 y0 y1 y2 y3 y4 y5 y6 y7 y8 y9 y10 y11; obtain ⟨y0, y1, y2, y3, y4, y5, y6, y7, y8, y9, y10, y11⟩ := rec_cells HX.out; rw [HK.out] at y2) | (go_at_call 25; refine (refNew_any _).mono ?_; rintro e w2 ⟨rfl, hq2, hb2⟩; have HQ := Lib.hid (show QK _ _ stE from hq2); have HS := Lib.hid stE_size; replace HX := Lib.hid (below_heap hb2 HX.out); have HNE := Lib.hid (Nat.ne_of_lt HLT.out); have HQL := Lib.hid (Nat.le_of_lt HLT.out); replace HB0 := Lib.hid (HB0.out.trans (hb2.mono HB0.out.size)); clear hq2 hb2 y0 y1 y2 y3 y4 y5 y6 y7 y8 y9 y10 y11; obtain ⟨y0, y1, y2, y3, y4, y5, y6, y7, y8, y9, y10, y11⟩ := rec_cells HX.out; rw [HK.out] at y2) | (go_at_call 26; refine (refNum_any _ _ _ _ _ HQ.out (Nat.le_trans HS.out (by decide)) (by constructor <;> omega)).mono ?_; rintro e w5 ⟨rfl, hq5, hk5⟩; replace HQ := Lib.hid hq5; replace HS := Lib.hid (num_qk hq5 HS.out); replace HX := Lib.hid (hk5.heap HNE.out HX.out); replace HB0 := Lib.hid (HB0.out.trans (hk5.toBelow HB0.out.size (fun k hk => by have := HQL.out; omega))); clear hq5 hk5 y0 y1 y2 y3 y4 y5 y6 y7 y8 y9 y10 y11; obtain ⟨y0, y1, y2, y3, y4, y5, y6, y7, y8, y9, y10, y11⟩ := rec_cells HX.out; rw [HK.out] at y2) | (go_at_call 27; refine (refText_any _ _ _ _ HQ.out (Nat.le_trans HS.out (by decide)) (by have := HZ.out; omega)).mono ?_; rintro e w5 ⟨rfl, hq5, hk5⟩; replace HQ := Lib.hid hq5; replace HS := Lib.hid (text_qk hq5 HS.out (by have := HZ.out; omega)); replace HX := Lib.hid (hk5.heap HNE.out HX.out); replace HB0 := Lib.hid (HB0.out.trans (hk5.toBelow HB0.out.size (fun k hk => by have := HQL.out; omega))); clear hq5 hk5 y0 y1 y2 y3 y4 y5 y6 y7 y8 y9 y10 y11; obtain ⟨y0, y1, y2, y3, y4, y5, y6, y7, y8, y9, y10, y11⟩ := rec_cells HX.out; rw [HK.out] at y2) | (go_at_call 28; refine (refDone_any _ _ _ HQ.out (Nat.le_trans HS.out (by decide))).mono ?_; rintro e w6 ⟨rfl, rfl⟩))
  go_ret2
  rw [HE.out]
  exact ⟨rfl, HB0.out⟩
set_option maxRecDepth 100000 in
set_option maxHeartbeats 8000000 in
theorem renc_6 (o : Rec) (ao : Option Addr) (cap : Nat) (w : World) (hv : VLI w ao cap o.moves) (hl : o.moves.length ≤ 1000000) (hz : o.path.size ≤ 1000000 ∧ o.dest.size ≤ 1000000 ∧ o.data.size ≤ 1000000) (hg : goodO o = true) (hk : o.kind = 6) :
    Calls Try.prog 12 #[.agg (recA o (.slice ao o.moves.length cap))] w fun e w' => e = .returned (.tuple #[.string (encSt o).made, .int .i64 0]) ∧ Below w.heap.size w w' := by
  have hf := good_form hg
  obtain ⟨⟨c1, c2⟩, ⟨q1, q2⟩⟩ := good_by hg
  simp [formR, hk] at hf
  skip
  have HE := Lib.hid (show encSt o = ((((stE.num 6 1).num o.client 1).num o.seq 4).text o.path).text o.dest by simp [encSt, encHead, hk])
  have HG := Lib.hid hg
  have HZ := Lib.hid hz
  have HL := Lib.hid hl
  have HX := Lib.hid (heap_alloc_new w (.cells (recA o (.slice ao o.moves.length cap)) 24))
  have HB0 := Lib.hid ((Below.refl w.heap.size w).alloc (Nat.le_refl _) (.cells (recA o (.slice ao o.moves.length cap)) 24))
  have HV := Lib.hid (hv.below ((Below.refl w.heap.size w).alloc (Nat.le_refl _) (.cells (recA o (.slice ao o.moves.length cap)) 24)))
  obtain ⟨y0, y1, y2, y3, y4, y5, y6, y7, y8, y9, y10, y11⟩ := rec_cells HX.out
  have HK := Lib.hid hk
  clear hf hg hz hv hk
  go_enter Try.func12, Try.ntmps12
  go_wp2_with (first | (go_at_call 14; refine (rgoodO_any o ao cap _ HV.out HL.out HZ.out).mono ?_; rintro e w1 ⟨rfl, hb1⟩; rw [HG.out]; replace HX := Lib.hid (below_heap hb1 HX.out); have HLT := Lib.hid (lt_of_block HX.out); replace HB0 := Lib.hid (HB0.out.trans (hb1.mono HB0.out.size)); clear hb1 y0 y1 y2 y3 y4 y5 y6 y7 y8 y9 y10 y11; obtain ⟨y0, y1, y2, y3, y4, y5, y6, y7, y8, y9, y10, y11⟩ := rec_cells HX.out; rw [HK.out] at y2) | (go_at_call 25; refine (refNew_any _).mono ?_; rintro e w2 ⟨rfl, hq2, hb2⟩; have HQ := Lib.hid (show QK _ _ stE from hq2); have HS := Lib.hid stE_size; replace HX := Lib.hid (below_heap hb2 HX.out); have HNE := Lib.hid (Nat.ne_of_lt HLT.out); have HQL := Lib.hid (Nat.le_of_lt HLT.out); replace HB0 := Lib.hid (HB0.out.trans (hb2.mono HB0.out.size)); clear hq2 hb2 y0 y1 y2 y3 y4 y5 y6 y7 y8 y9 y10 y11; obtain ⟨y0, y1, y2, y3, y4, y5, y6, y7, y8, y9, y10, y11⟩ := rec_cells HX.out; rw [HK.out] at y2) | (go_at_call 26; refine (refNum_any _ _ _ _ _ HQ.out (Nat.le_trans HS.out (by decide)) (by constructor <;> omega)).mono ?_; rintro e w5 ⟨rfl, hq5, hk5⟩; replace HQ := Lib.hid hq5; replace HS := Lib.hid (num_qk hq5 HS.out); replace HX := Lib.hid (hk5.heap HNE.out HX.out); replace HB0 := Lib.hid (HB0.out.trans (hk5.toBelow HB0.out.size (fun k hk => by have := HQL.out; omega))); clear hq5 hk5 y0 y1 y2 y3 y4 y5 y6 y7 y8 y9 y10 y11; obtain ⟨y0, y1, y2, y3, y4, y5, y6, y7, y8, y9, y10, y11⟩ := rec_cells HX.out; rw [HK.out] at y2) | (go_at_call 27; refine (refText_any _ _ _ _ HQ.out (Nat.le_trans HS.out (by decide)) (by have := HZ.out; omega)).mono ?_; rintro e w5 ⟨rfl, hq5, hk5⟩; replace HQ := Lib.hid hq5; replace HS := Lib.hid (text_qk hq5 HS.out (by have := HZ.out; omega)); replace HX := Lib.hid (hk5.heap HNE.out HX.out); replace HB0 := Lib.hid (HB0.out.trans (hk5.toBelow HB0.out.size (fun k hk => by have := HQL.out; omega))); clear hq5 hk5 y0 y1 y2 y3 y4 y5 y6 y7 y8 y9 y10 y11; obtain ⟨y0, y1, y2, y3, y4, y5, y6, y7, y8, y9, y10, y11⟩ := rec_cells HX.out; rw [HK.out] at y2) | (go_at_call 28; refine (refDone_any _ _ _ HQ.out (Nat.le_trans HS.out (by decide))).mono ?_; rintro e w6 ⟨rfl, rfl⟩))
  go_ret2
  rw [HE.out]
  exact ⟨rfl, HB0.out⟩
set_option maxRecDepth 100000 in
set_option maxHeartbeats 8000000 in
theorem renc_7 (o : Rec) (ao : Option Addr) (cap : Nat) (w : World) (hv : VLI w ao cap o.moves) (hl : o.moves.length ≤ 1000000) (hz : o.path.size ≤ 1000000 ∧ o.dest.size ≤ 1000000 ∧ o.data.size ≤ 1000000) (hg : goodO o = true) (hk : o.kind = 7) :
    Calls Try.prog 12 #[.agg (recA o (.slice ao o.moves.length cap))] w fun e w' => e = .returned (.tuple #[.string (encSt o).made, .int .i64 0]) ∧ Below w.heap.size w w' := by
  have hf := good_form hg
  obtain ⟨⟨c1, c2⟩, ⟨q1, q2⟩⟩ := good_by hg
  simp [formR, hk] at hf
  obtain ⟨s1, s2⟩ := inR_iff.1 hf.2
  have HE := Lib.hid (show encSt o = ((((stE.num 7 1).num o.client 1).num o.seq 4).text o.path).num o.size 4 by simp [encSt, encHead, hk])
  have HG := Lib.hid hg
  have HZ := Lib.hid hz
  have HL := Lib.hid hl
  have HX := Lib.hid (heap_alloc_new w (.cells (recA o (.slice ao o.moves.length cap)) 24))
  have HB0 := Lib.hid ((Below.refl w.heap.size w).alloc (Nat.le_refl _) (.cells (recA o (.slice ao o.moves.length cap)) 24))
  have HV := Lib.hid (hv.below ((Below.refl w.heap.size w).alloc (Nat.le_refl _) (.cells (recA o (.slice ao o.moves.length cap)) 24)))
  obtain ⟨y0, y1, y2, y3, y4, y5, y6, y7, y8, y9, y10, y11⟩ := rec_cells HX.out
  have HK := Lib.hid hk
  clear hf hg hz hv hk
  go_enter Try.func12, Try.ntmps12
  go_wp2_with (first | (go_at_call 14; refine (rgoodO_any o ao cap _ HV.out HL.out HZ.out).mono ?_; rintro e w1 ⟨rfl, hb1⟩; rw [HG.out]; replace HX := Lib.hid (below_heap hb1 HX.out); have HLT := Lib.hid (lt_of_block HX.out); replace HB0 := Lib.hid (HB0.out.trans (hb1.mono HB0.out.size)); clear hb1 y0 y1 y2 y3 y4 y5 y6 y7 y8 y9 y10 y11; obtain ⟨y0, y1, y2, y3, y4, y5, y6, y7, y8, y9, y10, y11⟩ := rec_cells HX.out; rw [HK.out] at y2) | (go_at_call 25; refine (refNew_any _).mono ?_; rintro e w2 ⟨rfl, hq2, hb2⟩; have HQ := Lib.hid (show QK _ _ stE from hq2); have HS := Lib.hid stE_size; replace HX := Lib.hid (below_heap hb2 HX.out); have HNE := Lib.hid (Nat.ne_of_lt HLT.out); have HQL := Lib.hid (Nat.le_of_lt HLT.out); replace HB0 := Lib.hid (HB0.out.trans (hb2.mono HB0.out.size)); clear hq2 hb2 y0 y1 y2 y3 y4 y5 y6 y7 y8 y9 y10 y11; obtain ⟨y0, y1, y2, y3, y4, y5, y6, y7, y8, y9, y10, y11⟩ := rec_cells HX.out; rw [HK.out] at y2) | (go_at_call 26; refine (refNum_any _ _ _ _ _ HQ.out (Nat.le_trans HS.out (by decide)) (by constructor <;> omega)).mono ?_; rintro e w5 ⟨rfl, hq5, hk5⟩; replace HQ := Lib.hid hq5; replace HS := Lib.hid (num_qk hq5 HS.out); replace HX := Lib.hid (hk5.heap HNE.out HX.out); replace HB0 := Lib.hid (HB0.out.trans (hk5.toBelow HB0.out.size (fun k hk => by have := HQL.out; omega))); clear hq5 hk5 y0 y1 y2 y3 y4 y5 y6 y7 y8 y9 y10 y11; obtain ⟨y0, y1, y2, y3, y4, y5, y6, y7, y8, y9, y10, y11⟩ := rec_cells HX.out; rw [HK.out] at y2) | (go_at_call 27; refine (refText_any _ _ _ _ HQ.out (Nat.le_trans HS.out (by decide)) (by have := HZ.out; omega)).mono ?_; rintro e w5 ⟨rfl, hq5, hk5⟩; replace HQ := Lib.hid hq5; replace HS := Lib.hid (text_qk hq5 HS.out (by have := HZ.out; omega)); replace HX := Lib.hid (hk5.heap HNE.out HX.out); replace HB0 := Lib.hid (HB0.out.trans (hk5.toBelow HB0.out.size (fun k hk => by have := HQL.out; omega))); clear hq5 hk5 y0 y1 y2 y3 y4 y5 y6 y7 y8 y9 y10 y11; obtain ⟨y0, y1, y2, y3, y4, y5, y6, y7, y8, y9, y10, y11⟩ := rec_cells HX.out; rw [HK.out] at y2) | (go_at_call 28; refine (refDone_any _ _ _ HQ.out (Nat.le_trans HS.out (by decide))).mono ?_; rintro e w6 ⟨rfl, rfl⟩))
  go_ret2
  rw [HE.out]
  exact ⟨rfl, HB0.out⟩
end Go.Proofs.Ythileemkiplodaa
