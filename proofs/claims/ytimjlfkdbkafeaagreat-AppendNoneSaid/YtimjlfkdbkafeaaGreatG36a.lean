/- The program keeps to the contracts of an append; pages are read through their unit. No conditions but those that the contracts name. -/
import Derived.Test.YtimjlfkdbkafeaaGreatG35a
import Derived.Test.YtimjlfkdbkafeaaGreatG28b
import Derived.Test.YtimjlfkdbkafeaaGreatG20a
import Derived.Test.YtimjlfkdbkafeaaGreatG14a
set_option linter.unusedVariables false
namespace Go.Proofs.YtimjlfkdbkafeaaGreat
set_option linter.unusedVariables false
open Go.RowKit
set_option maxRecDepth 20000
theorem kept_low {S : Nat → Prop} {B : Nat} {w w' : World} (hk : Kept S w w') (hS : ∀ k, k < B → S k) (hB : B ≤ w.heap.size) : Below B w w' :=
  ⟨hk.os, hk.tape, hk.output, hk.size, fun k hkB => hk.block k (hS k hkB) (Nat.lt_of_lt_of_le hkB hB)⟩
theorem aq_made {W w2 : World} {v : Value} {L : List (List Int)} (hO : OC w2 W.heap.size v L) (hb : Below W.heap.size W w2) (q : Qa) (hL : q.L = L) :
    AQ w2.heap.size (fun k => W.heap.size ≤ k ∧ k ≤ w2.heap.size) (w2.alloc (.cells #[.int .i64 q.ep, v, .string q.txt, .int .i64 q.at_, .int .i64 q.was, .int .i64 q.addr, .int .i64 q.unit, .bool q.may, .int .i64 q.err] 84)) q := by
  refine ⟨v, fun k => W.heap.size ≤ k ∧ k < w2.heap.size, heap_alloc_new _ _, ?_, ⟨hb.size, Nat.le_refl _⟩, fun k hk => ⟨⟨hk.1, by omega⟩, by omega⟩, fun k hk => by simp; omega⟩
  rw [hL]
  exact (CG.of hO).keep (Kept.ofBelow (below_new w2 _) (fun _ => True)) (fun _ _ => trivial)
/-- what New leaves -/
def NewQ (w : World) (q : Qa) (e : Ending) (w' : World) : Prop := ∃ (b : Nat) (G : Nat → Prop), e = .returned (ptrP b) ∧ AQ b G w' q ∧ (∀ k, G k → w.heap.size ≤ k) ∧ Below w.heap.size w w'
theorem new_ended {w w1 w4 w5 : World} {b : Nat} {G : Nat → Prop} {q : Qa} (hG : ∀ k, G k → w1.heap.size ≤ k) (hb : Below w.heap.size w w4) (h1 : w.heap.size ≤ w1.heap.size) (hl : Leaves (AQ b) G w4 w5 q) : NewQ w q (.returned (.pointer (some ⟨b, 0, none⟩))) w5 := by
  obtain ⟨G', r1, r2, r3⟩ := hl
  refine ⟨b, G', rfl, r1, fun k hk => ?_, hb.trans (kept_low r2 (fun k hk hg => by have := hG k hg; omega) hb.size)⟩
  rcases r3 k hk with h | h
  · exact Nat.le_trans h1 (hG k h)
  · exact Nat.le_trans hb.size h
set_option maxHeartbeats 2000000 in
theorem new_bad (ep : Int) (ao : Option Addr) (cap : Nat) (L : List (List Int)) (rec : ByteArray) (w : World) (hc : CL w ao L) (hf : fewL L) (hg : goodB ep L = false) :
    Calls Tryz.prog 9 #[.agg #[.int .i64 ep, .slice ao L.length cap], .string rec] w (NewQ w ⟨ep, L, noS, 5, 0, 0, 0, false, 1⟩) := by
  have HB := Lib.hid (below_new w (.cells #[.int .i64 ep, .slice ao L.length cap] 27))
  have HC := Lib.hid (hc.below HB.out)
  have HX := Lib.hid (heap_alloc_new w (.cells #[.int .i64 ep, .slice ao L.length cap] 27))
  have CC := Lib.hid (fun W (hC : CL W ao L) => copyO_any ep ao cap L W hC hf)
  have CG := Lib.hid (fun W (hC : CL W ao L) => pgood_any ep ao cap L W hC hf)
  rw [hg] at CG
  obtain ⟨c0, c1, _⟩ := two_cells HX.out
  clear hc hf hg
  go_enter Tryz.func9, Tryz.ntmps9
  go_wp2_with (first
    | (go_at_call 32; refine (CC.out _ HC.out).mono ?_; rintro e w2 ⟨v, rfl, hO, hb2⟩; obtain ⟨vo, vc, hv, _⟩ := hO.form; subst hv; have HQ := Lib.hid (aq_made hO hb2 ⟨ep, L, noS, 2, 0, 0, 0, false, 0⟩ rfl); have HB3 := Lib.hid ((HB.out.trans (hb2.mono HB.out.size)).trans ((below_new w2 (.cells #[.int .i64 ep, .slice vo L.length vc, .string ⟨#[]⟩, .int .i64 2, .int .i64 0, .int .i64 0, .int .i64 0, .bool false, .int .i64 0] 84)).mono (HB.out.trans (hb2.mono HB.out.size)).size)); have HC3 := Lib.hid ((HC.out.below hb2).below (below_new w2 (.cells #[.int .i64 ep, .slice vo L.length vc, .string ⟨#[]⟩, .int .i64 2, .int .i64 0, .int .i64 0, .int .i64 0, .bool false, .int .i64 0] 84))); obtain ⟨e0, e1, _⟩ := two_cells (below_heap (below_new w2 (.cells #[.int .i64 ep, .slice vo L.length vc, .string ⟨#[]⟩, .int .i64 2, .int .i64 0, .int .i64 0, .int .i64 0, .bool false, .int .i64 0] 84)) (below_heap hb2 HX.out)); clear hO hb2)
    | (go_at_call 33; refine (CG.out _ HC3.out).mono ?_; rintro e w4 ⟨rfl, hb4⟩; have HQ4 := Lib.hid (HQ.out.below hb4); have HB4 := Lib.hid (HB3.out.trans (hb4.mono HB3.out.size)); clear hb4)
    | (go_at_call 34; refine (ap_end _ _ _ ⟨ep, L, noS, 2, 0, 0, 0, false, 0⟩ 0 1 HQ4.out).mono ?_; rintro e w5 ⟨rfl, hl5⟩; have HL := Lib.hid hl5; clear hl5))
  go_ret
  exact new_ended (fun k hk => hk.1) HB4.out HB.out.size HL.out
set_option maxHeartbeats 2000000 in
theorem new_long (ep : Int) (ao : Option Addr) (cap : Nat) (L : List (List Int)) (rec : ByteArray) (w : World) (hc : CL w ao L) (hf : fewL L) (hg : goodB ep L = true) (hr : 4096 < rec.size) (hz : rec.size ≤ 1000000) :
    Calls Tryz.prog 9 #[.agg #[.int .i64 ep, .slice ao L.length cap], .string rec] w (NewQ w ⟨ep, L, noS, 5, 0, 0, 0, false, 2⟩) := by
  have HB := Lib.hid (below_new w (.cells #[.int .i64 ep, .slice ao L.length cap] 27))
  have HC := Lib.hid (hc.below HB.out)
  have HX := Lib.hid (heap_alloc_new w (.cells #[.int .i64 ep, .slice ao L.length cap] 27))
  have CC := Lib.hid (fun W (hC : CL W ao L) => copyO_any ep ao cap L W hC hf)
  have CG := Lib.hid (fun W (hC : CL W ao L) => pgood_any ep ao cap L W hC hf)
  rw [hg] at CG
  obtain ⟨c0, c1, _⟩ := two_cells HX.out
  have hl : ((rec.size : Nat) : Int) ≤ 1000000 := by omega
  clear hc hf hg
  go_enter Tryz.func9, Tryz.ntmps9
  go_wp2_with (first
    | (go_at_call 32; refine (CC.out _ HC.out).mono ?_; rintro e w2 ⟨v, rfl, hO, hb2⟩; obtain ⟨vo, vc, hv, _⟩ := hO.form; subst hv; have HQ := Lib.hid (aq_made hO hb2 ⟨ep, L, noS, 2, 0, 0, 0, false, 0⟩ rfl); have HB3 := Lib.hid ((HB.out.trans (hb2.mono HB.out.size)).trans ((below_new w2 (.cells #[.int .i64 ep, .slice vo L.length vc, .string ⟨#[]⟩, .int .i64 2, .int .i64 0, .int .i64 0, .int .i64 0, .bool false, .int .i64 0] 84)).mono (HB.out.trans (hb2.mono HB.out.size)).size)); have HC3 := Lib.hid ((HC.out.below hb2).below (below_new w2 (.cells #[.int .i64 ep, .slice vo L.length vc, .string ⟨#[]⟩, .int .i64 2, .int .i64 0, .int .i64 0, .int .i64 0, .bool false, .int .i64 0] 84))); obtain ⟨e0, e1, _⟩ := two_cells (below_heap (below_new w2 (.cells #[.int .i64 ep, .slice vo L.length vc, .string ⟨#[]⟩, .int .i64 2, .int .i64 0, .int .i64 0, .int .i64 0, .bool false, .int .i64 0] 84)) (below_heap hb2 HX.out)); clear hO hb2)
    | (go_at_call 33; refine (CG.out _ HC3.out).mono ?_; rintro e w4 ⟨rfl, hb4⟩; have HQ4 := Lib.hid (HQ.out.below hb4); have HB4 := Lib.hid (HB3.out.trans (hb4.mono HB3.out.size)); clear hb4)
    | (go_at_call 34; refine (ap_end _ _ _ ⟨ep, L, noS, 2, 0, 0, 0, false, 0⟩ 0 2 HQ4.out).mono ?_; rintro e w5 ⟨rfl, hl5⟩; have HL := Lib.hid hl5; clear hl5))
  go_ret
  exact new_ended (fun k hk => hk.1) HB4.out HB.out.size HL.out
set_option maxHeartbeats 2000000 in
theorem new_ok (ep : Int) (ao : Option Addr) (cap : Nat) (L : List (List Int)) (rec : ByteArray) (w : World) (hc : CL w ao L) (hf : fewL L) (hg : goodB ep L = true) (hr : ¬ 4096 < rec.size) :
    Calls Tryz.prog 9 #[.agg #[.int .i64 ep, .slice ao L.length cap], .string rec] w (NewQ w ⟨ep, L, rec, 2, 0, 0, 0, false, 0⟩) := by
  have HB := Lib.hid (below_new w (.cells #[.int .i64 ep, .slice ao L.length cap] 27))
  have HC := Lib.hid (hc.below HB.out)
  have HX := Lib.hid (heap_alloc_new w (.cells #[.int .i64 ep, .slice ao L.length cap] 27))
  have CC := Lib.hid (fun W (hC : CL W ao L) => copyO_any ep ao cap L W hC hf)
  have CG := Lib.hid (fun W (hC : CL W ao L) => pgood_any ep ao cap L W hC hf)
  rw [hg] at CG
  obtain ⟨c0, c1, _⟩ := two_cells HX.out
  have hl : ((rec.size : Nat) : Int) ≤ 1000000 := by omega
  have CK := Lib.hid (fun w => clone_any rec w (by omega))
  clear hc hf hg
  go_enter Tryz.func9, Tryz.ntmps9
  go_wp2_with (first
    | (go_at_call 32; refine (CC.out _ HC.out).mono ?_; rintro e w2 ⟨v, rfl, hO, hb2⟩; obtain ⟨vo, vc, hv, _⟩ := hO.form; subst hv; have HQ := Lib.hid (aq_made hO hb2 ⟨ep, L, noS, 2, 0, 0, 0, false, 0⟩ rfl); have HB3 := Lib.hid ((HB.out.trans (hb2.mono HB.out.size)).trans ((below_new w2 (.cells #[.int .i64 ep, .slice vo L.length vc, .string ⟨#[]⟩, .int .i64 2, .int .i64 0, .int .i64 0, .int .i64 0, .bool false, .int .i64 0] 84)).mono (HB.out.trans (hb2.mono HB.out.size)).size)); have HC3 := Lib.hid ((HC.out.below hb2).below (below_new w2 (.cells #[.int .i64 ep, .slice vo L.length vc, .string ⟨#[]⟩, .int .i64 2, .int .i64 0, .int .i64 0, .int .i64 0, .bool false, .int .i64 0] 84))); obtain ⟨e0, e1, _⟩ := two_cells (below_heap (below_new w2 (.cells #[.int .i64 ep, .slice vo L.length vc, .string ⟨#[]⟩, .int .i64 2, .int .i64 0, .int .i64 0, .int .i64 0, .bool false, .int .i64 0] 84)) (below_heap hb2 HX.out)); clear hO hb2)
    | (go_at_call 33; refine (CG.out _ HC3.out).mono ?_; rintro e w4 ⟨rfl, hb4⟩; have HQ4 := Lib.hid (HQ.out.below hb4); have HB4 := Lib.hid (HB3.out.trans (hb4.mono HB3.out.size)); clear hb4))
  go_at_call 35
  refine (CK.out _).mono ?_
  rintro e w5 ⟨rfl, hb5⟩
  have HQ5 := Lib.hid (HQ4.out.below hb5)
  have HB5 := Lib.hid (HB4.out.trans (hb5.mono HB4.out.size))
  obtain ⟨a5, k5, h1, _, h3⟩ := HQ5.out.open
  obtain ⟨_, f0, f1, f2, _⟩ := nine_of h1
  have hb := lt_of_block h1
  have H1 := Lib.hid h1
  have H3 := Lib.hid h3
  clear h1 h3 hb5
  go_wp2_with fail
  go_ret
  exact new_ended (fun k hk => hk.1) HB5.out HB.out.size (H3.out _ ⟨ep, L, rec, 2, 0, 0, 0, false, 0⟩ ((Kept.refl _ w5).setCell (p := ⟨w2.heap.size, 2, none⟩) (fun h => h rfl) _) rfl (nset2 H1.out _))
end Go.Proofs.YtimjlfkdbkafeaaGreat
