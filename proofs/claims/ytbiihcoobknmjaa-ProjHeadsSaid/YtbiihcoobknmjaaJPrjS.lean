/- What the laws of projections ask of the program's functions: each one's contract, as a statement (proved where the program is spoken of). No conditions. -/
import Derived.Test.YtbiihcoobknmjaaJPrjJ
import Derived.Test.YtbiihcoobknmjaaJPrjL
set_option linter.unusedVariables false
namespace Go.Proofs.Ytbiihcoobknmjaa
open Go.RowKit
/-- not too many chains, nor units in a chain -/
def Small (L : List (List Int)) : Prop := L.length ≤ 255 ∧ ∀ c ∈ L, c.length ≤ 255
/-- the program's functions return what is said here -/
structure ProgSays : Prop where
  good : ∀ (ep : Int) (ao : Option Addr) (cap : Nat) (L : List (List Int)) (w : World), Told w ao cap L → Small L →
    Calls Try.prog 12 #[.agg #[.int .i64 ep, .slice ao L.length cap]] w fun e w' => e = .returned (.bool (goodB ep L)) ∧ Below w.heap.size w w'
  next : ∀ (e1 : Int) (ao1 : Option Addr) (c1 : Nat) (L1 : List (List Int)) (e2 : Int) (ao2 : Option Addr) (c2 : Nat) (L2 : List (List Int)) (w : World), Told w ao1 c1 L1 → Told w ao2 c2 L2 → Small L1 → Small L2 →
    Calls Try.prog 18 #[.agg #[.int .i64 e1, .slice ao1 L1.length c1], .agg #[.int .i64 e2, .slice ao2 L2.length c2]] w fun e w' => e = .returned (.bool (nextB e1 L1 e2 L2)) ∧ Below w.heap.size w w'
  encode : ∀ (ep : Int) (ao : Option Addr) (cap : Nat) (L : List (List Int)) (w : World), Told w ao cap L → Small L → -9223372036854775808 ≤ ep ∧ ep ≤ 9223372036854775807 →
    Calls Try.prog 20 #[.agg #[.int .i64 ep, .slice ao L.length cap]] w fun e w' => e = .returned (.tuple #[.string (encB ep L), .int .i64 (encC ep L)]) ∧ Below w.heap.size w w'
  decode : ∀ (s : ByteArray) (w : World), s.size ≤ 1000000 →
    Calls Try.prog 22 #[.string s] w fun e w' => ∃ bo cb, e = .returned (.tuple #[.agg #[.int .i64 (decE s), .slice bo (decL s).length cb], .int .i64 (decC s)]) ∧ Told w' bo cb (decL s) ∧ Below w.heap.size w w'
  units : ∀ (ep : Int) (ao : Option Addr) (cap : Nat) (L : List (List Int)) (w : World), Told w ao cap L → Small L →
    Calls Try.prog 15 #[.agg #[.int .i64 ep, .slice ao L.length cap]] w fun e w' => ∃ bo cb, e = .returned (.slice bo (unitsR L).length cb) ∧ NLI w' bo cb (unitsR L) ∧ Below w.heap.size w w'
theorem Told.below {w w' : World} {ao : Option Addr} {cap : Nat} {L : List (List Int)} (h : Told w ao cap L) (hb : Below w.heap.size w w') : Told w' ao cap L := ⟨h.1.below hb, h.2⟩
theorem PB.lt {w : World} {b : Nat} {ep : Int} {ao : Option Addr} {n cap : Nat} (h : PB w b ep ao n cap) : b < w.heap.size := by
  unfold PB at h
  exact lt_of_block h
/-- a projection that was handed to a law -/
def PIn (w : World) (ep : Int) (ao : Option Addr) (cap : Nat) (L : List (List Int)) : Prop := Told w ao cap L ∧ (-9223372036854775808 ≤ ep ∧ ep ≤ 9223372036854775807) ∧ L.length ≤ maxLen ∧ ∀ c ∈ L, c.length ≤ maxLen
theorem PIn.below {w w' : World} {ep : Int} {ao : Option Addr} {cap : Nat} {L : List (List Int)} (h : PIn w ep ao cap L) (hb : Below w.heap.size w w') : PIn w' ep ao cap L := ⟨h.1.below hb, h.2⟩
theorem large_small {L : List (List Int)} (h : largeB L = false) : Small L := by
  obtain ⟨h1, h2⟩ := largeB_no h
  exact ⟨by omega, fun c hc => by have := h2 c hc; omega⟩
theorem small_copy {L : List (List Int)} (h : Small L) : L.length ≤ 1000 ∧ ∀ c ∈ L, c.length ≤ 1000 := ⟨by have := h.1; omega, fun c hc => by have := h.2 c hc; omega⟩
theorem small_million {L : List (List Int)} (h : Small L) : L.length ≤ 1000000 ∧ ∀ c ∈ L, c.length ≤ 1000000 := ⟨by have := h.1; omega, fun c hc => by have := h.2 c hc; omega⟩
theorem sameP_self (e : Int) (L : List (List Int)) : sameP e L e L = true := decide_eq_true ⟨rfl, rfl⟩
theorem dec_small (s : ByteArray) : Small (decL s) := by
  unfold decL
  split
  · next h =>
    obtain ⟨_, h2, h3, _⟩ := goodB_iff.1 (code_forth h).1
    exact ⟨by omega, fun c hc => by have := (chainB_iff.1 (h3 c hc)).1; omega⟩
  · exact ⟨Nat.zero_le _, fun c hc => by cases hc⟩
/-- the examples of the laws: three projections, side by side in memory -/
def exP : List (List Int) := [[0, 1], [2, 3]]
def exQ : List (List Int) := [[1], [2, 3, 4]]
def exR : List (List Int) := [[1, 0], [2, 3]]
theorem ex_facts : goodB 0 exP = true ∧ nextB 0 exP 1 exQ = true ∧ nextB 0 exP 1 exR = false ∧ (unitsR exQ).length = 4 := by decide +kernel
theorem ex_small : Small exP ∧ Small exQ ∧ Small exR := by
  unfold Small exP exQ exR
  decide
theorem ex_code : encB 0 exP = projB 0 exP ∧ encC 0 exP = 0 ∧ decE (projB 0 exP) = 0 ∧ decL (projB 0 exP) = exP ∧ decC (projB 0 exP) = 0 ∧ (projB 0 exP).size ≤ 25 := by
  have hg := ex_facts.1
  have hc := code_back hg
  obtain ⟨h1, h2, _⟩ := open_back hg
  exact ⟨if_pos hg, if_pos hg, (if_pos hc).trans h1, (if_pos hc).trans h2, if_pos hc, projB_size hg⟩
/-- two chains that a composite literal made -/
theorem told_two {w : World} {g0 g1 g : Nat} {a b : List Int} (h0 : NLI w (some ⟨g0, 0, none⟩) a.length a) (h1 : NLI w (some ⟨g1, 0, none⟩) b.length b)
    (hg : w.heap[g]? = some (.cells #[.slice (some ⟨g0, 0, none⟩) a.length a.length, .slice (some ⟨g1, 0, none⟩) b.length b.length] 28 (0, 0))) : Told w (some ⟨g, 0, none⟩) 2 [a, b] := by
  refine ⟨fun i hi => ?_, (fun e => by cases e), Nat.le_refl _⟩
  match i, hi with
  | 0, _ => exact ⟨g, 0, _, _, rfl, cell_of hg 0, h0⟩
  | 1, _ => exact ⟨g, 0, _, _, rfl, cell_of hg 1, h1⟩
theorem nli_block {w : World} {g : Nat} {l : List Int} (hl : ∀ u ∈ l, (Lit.int .i64 u).wf = true) (h : w.heap[g]? = some (.cells (l.map (Value.int .i64)).toArray 3 (0, 0))) : NLI w (some ⟨g, 0, none⟩) l.length l := by
  refine ⟨fun i hi => ⟨⟨g, 0, rfl, ?_⟩, hl _ (List.getElem_mem hi)⟩, (fun e => by cases e), Nat.le_refl _⟩
  rw [cell_of h]
  simp [hi]
theorem made_ints (w : World) (l : List Int) : (w.alloc (.cells (l.map (Value.int .i64)).toArray 3)).heap[w.heap.size]? = some (.cells (l.map (Value.int .i64)).toArray 3 (0, 0)) := heap_alloc_new w _
/-- a projection of two chains, made by a literal: four blocks, one behind the other -/
def layP (w : World) (ep : Int) (a b : List Int) : World :=
  (((w.alloc (.cells (a.map (Value.int .i64)).toArray 3)).alloc (.cells (b.map (Value.int .i64)).toArray 3)).alloc (.cells #[.slice (some ⟨w.heap.size, 0, none⟩) a.length a.length, .slice (some ⟨w.heap.size + 1, 0, none⟩) b.length b.length] 28)).alloc
    (.cells #[.int .i64 ep, .slice (some ⟨w.heap.size + 2, 0, none⟩) 2 2] 24)
theorem layP_size (w : World) (ep : Int) (a b : List Int) : (layP w ep a b).heap.size = w.heap.size + 4 := by simp [layP]
theorem layP_below (w : World) (ep : Int) (a b : List Int) : Below w.heap.size w (layP w ep a b) :=
  ((((Below.refl _ _).alloc (Nat.le_refl _) _).alloc (by simp) _).alloc (by first | (simp; done) | (simp; omega)) _).alloc (by first | (simp; done) | (simp; omega)) _
theorem layP_told (w : World) (ep : Int) (a b : List Int) (ha : ∀ u ∈ a, (Lit.int .i64 u).wf = true) (hb : ∀ u ∈ b, (Lit.int .i64 u).wf = true) :
    Told (layP w ep a b) (some ⟨w.heap.size + 2, 0, none⟩) 2 [a, b] ∧ PB (layP w ep a b) (w.heap.size + 3) ep (some ⟨w.heap.size + 2, 0, none⟩) 2 2 := by
  have s1 : (w.alloc (.cells (a.map (Value.int .i64)).toArray 3)).heap.size = w.heap.size + 1 := by simp
  have s2 : ((w.alloc (.cells (a.map (Value.int .i64)).toArray 3)).alloc (.cells (b.map (Value.int .i64)).toArray 3)).heap.size = w.heap.size + 2 := by simp
  have s3 : (((w.alloc (.cells (a.map (Value.int .i64)).toArray 3)).alloc (.cells (b.map (Value.int .i64)).toArray 3)).alloc (.cells #[.slice (some ⟨w.heap.size, 0, none⟩) a.length a.length, .slice (some ⟨w.heap.size + 1, 0, none⟩) b.length b.length] 28)).heap.size = w.heap.size + 3 := by simp
  refine ⟨told_two (g0 := w.heap.size) (g1 := w.heap.size + 1) (nli_block ha ?_) (nli_block hb ?_) ?_, ?_⟩
  · exact below_heap ((((Below.refl _ _).alloc (Nat.le_refl _) _).alloc (by simp) _).alloc (by first | (simp; done) | (simp; omega)) _) (made_ints w a)
  · have h := made_ints (w.alloc (.cells (a.map (Value.int .i64)).toArray 3)) b
    rw [s1] at h
    exact below_heap (((Below.refl _ _).alloc (Nat.le_refl _) _).alloc (by simp) _) h
  · have h := heap_alloc_new ((w.alloc (.cells (a.map (Value.int .i64)).toArray 3)).alloc (.cells (b.map (Value.int .i64)).toArray 3)) (.cells #[.slice (some ⟨w.heap.size, 0, none⟩) a.length a.length, .slice (some ⟨w.heap.size + 1, 0, none⟩) b.length b.length] 28)
    rw [s2] at h
    exact below_heap ((Below.refl _ _).alloc (Nat.le_refl _) _) h
  · have h := heap_alloc_new (((w.alloc (.cells (a.map (Value.int .i64)).toArray 3)).alloc (.cells (b.map (Value.int .i64)).toArray 3)).alloc (.cells #[.slice (some ⟨w.heap.size, 0, none⟩) a.length a.length, .slice (some ⟨w.heap.size + 1, 0, none⟩) b.length b.length] 28)) (.cells #[.int .i64 ep, .slice (some ⟨w.heap.size + 2, 0, none⟩) 2 2] 24)
    rw [s3] at h
    exact h
end Go.Proofs.Ytbiihcoobknmjaa
