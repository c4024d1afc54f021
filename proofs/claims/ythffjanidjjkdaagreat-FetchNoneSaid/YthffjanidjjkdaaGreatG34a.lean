/- A new fetch of the program. Conditions: the projection's chains lie in memory, and are not too many. (Written by gen/genfmp.py.) -/
import Derived.Test.YthffjanidjjkdaaGreatG33a
import Derived.Test.YthffjanidjjkdaaGreatG18b
set_option linter.unusedVariables false
namespace Go.Proofs.YthffjanidjjkdaaGreat
set_option linter.unusedVariables false
open Go.RowKit
set_option maxRecDepth 20000
theorem fq_zero {W : World} {b : Nat} {addr : Int} {fill : Bool} (h : W.heap[b]? = some (.cells #[.int .i64 0, .slice none 0 0, .int .i64 addr, .bool fill, .int .i64 0, .int .i64 0, .int .i64 0, .int .i64 0, .string ⟨#[]⟩, .int .i64 0] 109 (0, 0))) : FQ b (fun k => k = b) W ⟨0, [], addr, fill, 0, 0, 0, 0, noS, 0⟩ :=
  ⟨_, fun _ => False, h, ⟨none, 0, rfl, fun _ => rfl, Nat.le_refl _, fun a e => (by cases e), fun i hi => absurd hi (Nat.not_lt_zero i)⟩, rfl, fun k hk => hk.elim, fun k hk => (show k = b from hk) ▸ lt_of_block h⟩
/-- what New leaves -/
def NewF (w : World) (q : Qf) (e : Ending) (w' : World) : Prop := ∃ (b : Nat) (G : Nat → Prop), e = .returned (ptrP b) ∧ FQ b G w' q ∧ (∀ k, G k → w.heap.size ≤ k) ∧ Below w.heap.size w w'
theorem newf_ended {w w4 w5 : World} {b : Nat} {q : Qf} (hB : w.heap.size ≤ b) (hb : Below w.heap.size w w4) (hl : Leaves (FQ b) (fun k => k = b) w4 w5 q) : NewF w q (.returned (.pointer (some ⟨b, 0, none⟩))) w5 := by
  obtain ⟨G', r1, r2, r3⟩ := hl
  refine ⟨b, G', rfl, r1, fun k hk => ?_, hb.trans (kept_low r2 (fun k hk hg => by have hg : k = b := hg; omega) hb.size)⟩
  rcases r3 k hk with h | h
  · have h : k = b := h
    omega
  · exact Nat.le_trans hb.size h
theorem size_one (w : World) (x : Obj) : (w.alloc x).heap.size = w.heap.size + 1 := by simp
set_option maxHeartbeats 2000000 in
theorem newf_yes (ep : Int) (ao : Option Addr) (cap : Nat) (L : List (List Int)) (addr : Int) (fill : Bool) (w : World) (hc : CL w ao L) (hf : fewL L) (ho : ofB ep L addr = true) :
    Calls Tryz.prog 29 #[.agg #[.int .i64 ep, .slice ao L.length cap], .int .i64 addr, .bool fill] w (NewF w ⟨ep, L, addr, fill, 2, 0, (chainR ep L addr).length - 1, 0, noS, 0⟩) := by
  have HB := Lib.hid (((Below.refl w.heap.size w).alloc (Nat.le_refl _) (.cells #[.int .i64 ep, .slice ao L.length cap] 30)).alloc (by simp) (.cells #[.int .i64 0, .slice none 0 0, .int .i64 addr, .bool fill, .int .i64 0, .int .i64 0, .int .i64 0, .int .i64 0, .string ⟨#[]⟩, .int .i64 0] 109))
  have HC := Lib.hid (hc.below HB.out)
  have HX := Lib.hid (below_heap (below_new (w.alloc (.cells #[.int .i64 ep, .slice ao L.length cap] 30)) (.cells #[.int .i64 0, .slice none 0 0, .int .i64 addr, .bool fill, .int .i64 0, .int .i64 0, .int .i64 0, .int .i64 0, .string ⟨#[]⟩, .int .i64 0] 109)) (heap_alloc_new w (.cells #[.int .i64 ep, .slice ao L.length cap] 30)))
  have HF := Lib.hid (heap_alloc_new (w.alloc (.cells #[.int .i64 ep, .slice ao L.length cap] 30)) (.cells #[.int .i64 0, .slice none 0 0, .int .i64 addr, .bool fill, .int .i64 0, .int .i64 0, .int .i64 0, .int .i64 0, .string ⟨#[]⟩, .int .i64 0] 109))
  rw [size_one] at HF
  obtain ⟨x0, x1, _⟩ := two_cells HX.out
  have CO := Lib.hid (fun W (hC : CL W ao L) => pOf_any ep ao cap L addr W hC hf)
  unfold ofV at CO
  rw [ho] at CO
  generalize ofC ep L addr = oc at *
  generalize ofP ep L addr = op at *
  have CB := Lib.hid (fun b G W h hC => fp_begin b G W ⟨0, [], addr, fill, 0, 0, 0, 0, noS, 0⟩ ep ao cap L h hC hf (chain_small ep L addr))
  clear hc hf ho
  go_enter Tryz.func29, Tryz.ntmps29
  go_wp2_with (go_at_call 46; refine (CO.out _ HC.out).mono ?_; rintro e w3 ⟨rfl, hb3⟩; have HB4 := Lib.hid (((HB.out.trans (hb3.mono HB.out.size)).trans ((below_new w3 (.cells #[.int .i64 oc, .int .i64 op] 39)).mono (HB.out.trans (hb3.mono HB.out.size)).size))); have HC4 := Lib.hid ((HC.out.below hb3).below (below_new w3 (.cells #[.int .i64 oc, .int .i64 op] 39))); have HX4 := Lib.hid (below_heap (below_new w3 (.cells #[.int .i64 oc, .int .i64 op] 39)) (below_heap hb3 HX.out)); have HF4 := Lib.hid (below_heap (below_new w3 (.cells #[.int .i64 oc, .int .i64 op] 39)) (below_heap hb3 HF.out)); obtain ⟨y0, y1, _⟩ := two_cells HX4.out; clear hb3 x0 x1)
  generalize w3.alloc _ = w4 at *
  go_wp2_with (go_at_call 47; refine (CB.out _ _ _ (fq_zero HF4.out) HC4.out).mono ?_; rintro e w5 ⟨rfl, hl⟩; have HL := Lib.hid hl; clear hl)
  go_ret
  exact newf_ended (Nat.le_succ _) HB4.out HL.out
set_option maxHeartbeats 2000000 in
theorem newf_no (ep : Int) (ao : Option Addr) (cap : Nat) (L : List (List Int)) (addr : Int) (fill : Bool) (w : World) (hc : CL w ao L) (hf : fewL L) (ho : ofB ep L addr = false) :
    Calls Tryz.prog 29 #[.agg #[.int .i64 ep, .slice ao L.length cap], .int .i64 addr, .bool fill] w (NewF w ⟨ep, L, addr, fill, 6, 0, 0, 0, noS, 1⟩) := by
  have HB := Lib.hid (((Below.refl w.heap.size w).alloc (Nat.le_refl _) (.cells #[.int .i64 ep, .slice ao L.length cap] 30)).alloc (by simp) (.cells #[.int .i64 0, .slice none 0 0, .int .i64 addr, .bool fill, .int .i64 0, .int .i64 0, .int .i64 0, .int .i64 0, .string ⟨#[]⟩, .int .i64 0] 109))
  have HC := Lib.hid (hc.below HB.out)
  have HX := Lib.hid (below_heap (below_new (w.alloc (.cells #[.int .i64 ep, .slice ao L.length cap] 30)) (.cells #[.int .i64 0, .slice none 0 0, .int .i64 addr, .bool fill, .int .i64 0, .int .i64 0, .int .i64 0, .int .i64 0, .string ⟨#[]⟩, .int .i64 0] 109)) (heap_alloc_new w (.cells #[.int .i64 ep, .slice ao L.length cap] 30)))
  have HF := Lib.hid (heap_alloc_new (w.alloc (.cells #[.int .i64 ep, .slice ao L.length cap] 30)) (.cells #[.int .i64 0, .slice none 0 0, .int .i64 addr, .bool fill, .int .i64 0, .int .i64 0, .int .i64 0, .int .i64 0, .string ⟨#[]⟩, .int .i64 0] 109))
  rw [size_one] at HF
  obtain ⟨x0, x1, _⟩ := two_cells HX.out
  have CO := Lib.hid (fun W (hC : CL W ao L) => pOf_any ep ao cap L addr W hC hf)
  unfold ofV at CO
  rw [ho] at CO
  generalize ofC ep L addr = oc at *
  generalize ofP ep L addr = op at *
  have CC := Lib.hid (fun W (hC : CL W ao L) => copyO_any ep ao cap L W hC hf)
  clear hc hf ho
  go_enter Tryz.func29, Tryz.ntmps29
  go_wp2_with (go_at_call 46; refine (CO.out _ HC.out).mono ?_; rintro e w3 ⟨rfl, hb3⟩; have HB4 := Lib.hid (((HB.out.trans (hb3.mono HB.out.size)).trans ((below_new w3 (.cells #[.int .i64 oc, .int .i64 op] 39)).mono (HB.out.trans (hb3.mono HB.out.size)).size))); have HC4 := Lib.hid ((HC.out.below hb3).below (below_new w3 (.cells #[.int .i64 oc, .int .i64 op] 39))); have HX4 := Lib.hid (below_heap (below_new w3 (.cells #[.int .i64 oc, .int .i64 op] 39)) (below_heap hb3 HX.out)); have HF4 := Lib.hid (below_heap (below_new w3 (.cells #[.int .i64 oc, .int .i64 op] 39)) (below_heap hb3 HF.out)); obtain ⟨y0, y1, _⟩ := two_cells HX4.out; clear hb3 x0 x1)
  generalize w3.alloc _ = w4 at *
  have HQ := Lib.hid (fq_zero HF4.out)
  go_wp2_with (go_at_call 45; refine (CC.out _ HC4.out).mono ?_; rintro e w5 ⟨v, rfl, hO, hb5⟩; obtain ⟨vo, vc, hv, _⟩ := hO.form; subst hv; have HO := Lib.hid hO; have HB5 := Lib.hid hb5; have HR := Lib.hid (below_heap hb5 HF4.out); obtain ⟨_, g0, g1, _⟩ := ten_of HR.out; have hb := lt_of_block HR.out; clear hO hb5)
  have HL5 := Lib.hid (HQ.out.chains (q' := ⟨ep, L, addr, fill, 0, 0, 0, 0, noS, 0⟩) HB5.out HO.out (((Kept.refl _ w5).setCell (p := ⟨w.heap.size + 1, 0, none⟩) (fun h => h rfl) (.int .i64 ep)).setCell (p := ⟨w.heap.size + 1, 1, none⟩) (fun h => h rfl) (.slice vo L.length vc)) (tset1 (tset0 HR.out _) _))
  generalize World.setCell _ _ _ = w6 at *
  obtain ⟨H, hA6, hU⟩ := lv_use (fun k hk => (show k = w.heap.size + 1 from hk) ▸ lt_of_block HF4.out) HL5.out
  have HA6 := Lib.hid hA6
  have HU := Lib.hid hU
  clear hA6 hU HL5 g0 g1 hb
  go_wp2_with (go_at_call 48; refine (fp_end _ _ _ ⟨ep, L, addr, fill, 0, 0, 0, 0, noS, 0⟩ 0 ⟨#[]⟩ 1 HA6.out).mono ?_; rintro e w7 ⟨rfl, hl⟩; have HL := Lib.hid hl; clear hl)
  go_ret
  exact newf_ended (Nat.le_succ _) HB4.out (HU.out _ _ HL.out)
end Go.Proofs.YthffjanidjjkdaaGreat
