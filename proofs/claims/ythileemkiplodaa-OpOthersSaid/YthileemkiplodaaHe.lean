/- What the document's Decode returns. Conditions: the text is no longer than 1000000 bytes. What the laws of op lean on: how many moves a record has; a record that is stored. No conditions. -/
import Derived.Test.YthileemkiplodaaJOpH1
import Derived.Test.YthileemkiplodaaJOpH2
import Derived.Test.YthileemkiplodaaJOpH3
import Derived.Test.YthileemkiplodaaJOpH4
import Derived.Test.YthileemkiplodaaJOpH6
import Derived.Test.YthileemkiplodaaJFrame
import Derived.Test.YthileemkiplodaaHd
import Derived.Test.YthileemkiplodaaGx
import Derived.Test.YthileemkiplodaaGi
set_option linter.unusedVariables false
namespace Go.Proofs.Ythileemkiplodaa
open Go.RowKit
set_option maxRecDepth 20000

theorem rdecode_any (s : ByteArray) (w : World) (hs : s.size ≤ 1000000) :
    Calls Try.prog 17 #[.string s] w (TellsE w (decR s)) := by
  by_cases k1 : numV (some s) 1 = 1
  · exact rdec_1 s w hs k1
  by_cases k2 : numV (some s) 1 = 2
  · exact rdec_2 s w hs k2
  by_cases k3 : numV (some s) 1 = 3
  · exact rdec_3 s w hs k3
  by_cases k4 : numV (some s) 1 = 4
  · exact rdec_4 s w hs k4
  by_cases k5 : numV (some s) 1 = 5
  · exact rdec_5 s w hs k5
  by_cases k6 : numV (some s) 1 = 6
  · exact rdec_6 s w hs k6
  by_cases k7 : numV (some s) 1 = 7
  · exact rdec_7 s w hs k7
  by_cases k8 : numV (some s) 1 = 8
  · exact rdec_8 s w hs k8
  by_cases k9 : numV (some s) 1 = 9
  · exact rdec_9 s w hs k9
  by_cases k10 : numV (some s) 1 = 10
  · exact rdec_10 s w hs k10
  by_cases k11 : numV (some s) 1 = 11
  · exact rdec_11 s w hs k11
  by_cases k12 : numV (some s) 1 = 12
  · exact rdec_12 s w hs k12
  by_cases k13 : numV (some s) 1 = 13
  · exact rdec_13 s w hs k13
  by_cases k14 : numV (some s) 1 = 14
  · exact rdec_14 s w hs k14
  exact rdec_0 s w hs ⟨k1, k2, k3, k4, k5, k6, k7, k8, k9, k10, k11, k12, k13, k14⟩
end Go.Proofs.Ythileemkiplodaa
namespace Go.Proofs.Ythileemkiplodaa
open Go.RowKit
set_option maxRecDepth 20000

theorem good_len {o : Rec} (h : goodO o = true) : o.moves.length ≤ 16 := by
  obtain ⟨_, _, _, ho, hf⟩ := good_parts h
  have hk := form_kind hf
  by_cases k : o.kind = 13
  · unfold formR at hf
    rw [if_neg (by omega), if_neg (by omega), if_neg (by omega), if_neg (by omega), if_neg (by omega), if_neg (by omega), if_pos k] at hf
    simp only [Bool.and_eq_true, inR_iff] at hf
    omega
  · have : o.moves = [] := by
      unfold onlyR at ho
      repeat' split at ho
      all_goals first
        | (exfalso; omega)
        | (rw [ho]; rfl)
    rw [this]
    exact Nat.zero_le _
theorem dec_len (s : ByteArray) : (decR s).1.moves.length ≤ 16 := by
  unfold decR endR
  split
  · next h => exact good_len h.2
  · exact Nat.zero_le _
theorem dec_small (s : ByteArray) : smallR (decR s).1 := by
  have h := dec_len s
  have h2 : (decR s).1.path.size ≤ 4096 ∧ (decR s).1.dest.size ≤ 4096 ∧ (decR s).1.data.size ≤ 4096 := by
    unfold decR endR
    split
    · next h => exact good_small h.2
    · exact ⟨Nat.zero_le _, Nat.zero_le _, Nat.zero_le _⟩
  exact ⟨by omega, by omega, by omega, by omega⟩
theorem small_of {o : Rec} (h : largeR o = false) : smallR o := by
  simp [largeR] at h
  exact ⟨by omega, by omega, by omega, by omega⟩
theorem row_stored {w w0 : World} {o : Rec} {mv : Value} {g : Nat} (hb : Below w0.heap.size w0 w) (hg : g = w.heap.size) : ((w.alloc (.cells (recA rec0 (.slice none 0 0)) 24)).setRow g (recA o mv)).heap[g]? = some (.cells (recA o mv) 24 (0, 0)) ∧ Below w0.heap.size w0 ((w.alloc (.cells (recA rec0 (.slice none 0 0)) 24)).setRow g (recA o mv)) ∧ Below w.heap.size w ((w.alloc (.cells (recA rec0 (.slice none 0 0)) 24)).setRow g (recA o mv)) := by
  subst hg
  exact ⟨setRow_heap _ _ _ _ _ _ (heap_alloc_new w _), setRow_below (hb.alloc hb.size _) hb.size _, setRow_below ((Below.refl _ _).alloc (Nat.le_refl _) _) (Nat.le_refl _) _⟩
theorem op_same (o : Rec) (ao bo : Option Addr) (ca cb : Nat) (w : World) (hl : o.moves.length ≤ 1000000) (hA : VL w ao o.moves) (hB : VL w bo o.moves) :
    Calls Try.prog 15 #[.agg (recA o (.slice ao o.moves.length ca)), .agg (recA o (.slice bo o.moves.length cb))] w fun e w' => e = .returned (.bool true) ∧ Below w.heap.size w w' := by
  have h := op_any o o ao bo ca cb w hl hl hA hB
  rwa [Rec.same_self] at h
end Go.Proofs.Ythileemkiplodaa
