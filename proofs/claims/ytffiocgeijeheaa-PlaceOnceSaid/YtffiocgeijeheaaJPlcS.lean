/- What the laws of places ask of the program's functions: each one's contract, as a statement (proved where the program is spoken of); that place is awake. No conditions but those that the statements name. -/
import Derived.Test.YtffiocgeijeheaaJPlcC
import Derived.Test.YtffiocgeijeheaaJPlcT
import Derived.Test.YtffiocgeijeheaaJPlcK
set_option linter.unusedVariables false
namespace Go.Proofs.Ytffiocgeijeheaa
open Go.RowKit
set_option maxRecDepth 20000
def i64 (a : Int) : Prop := -9223372036854775808 ≤ a ∧ a ≤ 9223372036854775807
/-- the place of an address, and whether there is one -/
def ofV (ep : Int) (L : List (List Int)) (a : Int) : Value := .tuple #[.agg #[.int .i64 (ofC ep L a), .int .i64 (ofP ep L a)], .bool (ofB ep L a)]
def addrV (ep : Int) (L : List (List Int)) (c p : Int) : Value := .tuple #[.int .i64 (max (addrR ep L c p) 0), .bool (decide (0 ≤ addrR ep L c p))]
/-- the program's functions return what is said here -/
structure PlaceSays : Prop where
  of : ∀ (ep : Int) (ao : Option Addr) (cap : Nat) (L : List (List Int)) (a : Int) (w : World), Told w ao cap L → Small L → i64 ep → i64 a →
    Calls Try.prog 11 #[.agg #[.int .i64 ep, .slice ao L.length cap], .int .i64 a] w fun e w' => e = .returned (ofV ep L a) ∧ Below w.heap.size w w'
  addr : ∀ (ep : Int) (ao : Option Addr) (cap : Nat) (L : List (List Int)) (c p : Int) (w : World), Told w ao cap L → Small L → i64 ep → i64 c → i64 p →
    Calls Try.prog 13 #[.agg #[.int .i64 ep, .slice ao L.length cap], .agg #[.int .i64 c, .int .i64 p]] w fun e w' => e = .returned (addrV ep L c p) ∧ Below w.heap.size w w'
  chain : ∀ (ep : Int) (ao : Option Addr) (cap : Nat) (L : List (List Int)) (a : Int) (w : World), Told w ao cap L → Small L → i64 ep → i64 a →
    Calls Try.prog 16 #[.agg #[.int .i64 ep, .slice ao L.length cap], .int .i64 a] w fun e w' => ∃ bo cb, e = .returned (.slice bo (chainR ep L a).length cb) ∧ NLI w' bo cb (chainR ep L a) ∧ Below w.heap.size w w'
  tail : ∀ (ep : Int) (ao : Option Addr) (cap : Nat) (L : List (List Int)) (b : Nat) (K : List (Int × Int)) (w : World), Told w ao cap L → Small L → i64 ep → Tm w b K → K.length ≤ 30 → (∀ e ∈ K, i64 e.1 ∧ i64 e.2) →
    Calls Try.prog 19 #[.agg #[.int .i64 ep, .slice ao L.length cap], .map (some b)] w fun e w' => e = .returned (.int .i64 (tailR ep L K)) ∧ Below w.heap.size w w'
  below : ∀ (ep : Int) (ao : Option Addr) (cap : Nat) (L : List (List Int)) (a c : Int) (w : World), Told w ao cap L → Small L → i64 ep → i64 a → i64 c →
    Calls Try.prog 21 #[.agg #[.int .i64 ep, .slice ao L.length cap], .int .i64 a, .int .i64 c] w fun e w' => e = .returned (.int .i64 (belowR ep L a c)) ∧ Below w.heap.size w w'
/-- the laws' example -/
def exL : List (List Int) := [[0, 1], [2]]
theorem exL_facts : ofV 0 exL 5 = .tuple #[.agg #[.int .i64 1, .int .i64 2], .bool true] ∧ addrV 0 exL 1 2 = .tuple #[.int .i64 5, .bool true] ∧ tailR 0 exL [(2, 3)] = 6 ∧ belowR 0 exL 5 0 = 3 := by
  have h1 : ofC 0 exL 5 = 1 ∧ ofP 0 exL 5 = 2 ∧ ofB 0 exL 5 = true ∧ addrR 0 exL 1 2 = 5 ∧ tailR 0 exL [(2, 3)] = 6 ∧ belowR 0 exL 5 0 = 3 := by decide +kernel
  obtain ⟨a, b, c, d, e, f⟩ := h1
  unfold ofV addrV
  rw [a, b, c, d]
  exact ⟨rfl, rfl, e, f⟩
theorem exL_small : Small exL := by
  unfold Small exL
  decide
theorem lay8_eq (w : World) : ((((w.alloc (.cells #[.int .i64 0, .int .i64 1] 3)).alloc (.cells #[.int .i64 2] 3)).alloc (.cells #[.slice (some ⟨w.heap.size, 0, none⟩) 2 2, .slice (some ⟨w.heap.size + 1, 0, none⟩) 1 1] 39)).alloc (.cells #[.int .i64 0, .slice (some ⟨w.heap.size + 1 + 1, 0, none⟩) 2 2] 24)) = layP w 0 [0, 1] [2] := by
  simp [layP]
theorem lay8_told (w W : World) (h : W = layP w 0 [0, 1] [2]) :
    Told W (some ⟨w.heap.size + 1 + 1, 0, none⟩) 2 exL ∧ PB W (w.heap.size + 1 + 1 + 1) 0 (some ⟨w.heap.size + 1 + 1, 0, none⟩) 2 2 ∧ Below w.heap.size w W ∧ W.heap.size = w.heap.size + 4 := by
  subst h
  obtain ⟨p1, p2⟩ := layP_told w 0 [0, 1] [2] (fun u hu => WalkArith.wf_i64 (by simp at hu; omega)) (fun u hu => WalkArith.wf_i64 (by simp at hu; omega))
  exact ⟨p1, p2, layP_below w 0 [0, 1] [2], layP_size w 0 [0, 1] [2]⟩
set_option maxHeartbeats 4000000 in
theorem wakes8_any (HS : PlaceSays) (w : World) : Calls Try.prog 9 #[] w fun e w' => e = .returned (.bool true) ∧ Below w.heap.size w w' := by
  have SM := Lib.hid exL_small
  have FA := Lib.hid exL_facts
  have hmm := @run_makeMap Try.prog
  have ZZ := Lib.hid (show (i64 0 ∧ i64 1 ∧ i64 2 ∧ i64 3 ∧ i64 5) ∧ ((Lit.int .i64 2).wf = true ∧ (Lit.int .i64 3).wf = true) ∧ ∀ e ∈ [((2 : Int), (3 : Int))], i64 e.1 ∧ i64 e.2 from by unfold i64; exact ⟨by decide, ⟨by decide, by decide⟩, by decide⟩)
  go_enter Try.func9, Try.ntmps9
  go_wp2_with fail
  rw [lay8_eq w]
  obtain ⟨W, hW⟩ : ∃ W, W = layP w 0 [0, 1] [2] := ⟨_, rfl⟩
  rw [← hW]
  obtain ⟨p1, p2, hb, hs⟩ := lay8_told w W hW
  have HB := Lib.hid hb
  have HP := Lib.hid p1
  have HP2 := Lib.hid p2
  have hlt : w.heap.size + 4 ≤ W.heap.size := by omega
  clear hW hb p1 p2 hs
  refine (HS.of 0 _ 2 exL 5 W HP.out SM.out ZZ.out.1.1 ZZ.out.1.2.2.2.2).mono ?_
  rintro e w1 ⟨rfl, hb1⟩
  rw [FA.out.1]
  have hz1 : w.heap.size + 4 ≤ w1.heap.size := Nat.le_trans hlt hb1.size
  have HG1 := Lib.hid (hb1.alloc hb1.size (.cells #[.int .i64 1, .int .i64 2] 26))
  have HX1 := Lib.hid (heap_alloc_new w1 (.cells #[.int .i64 1, .int .i64 2] 26))
  have HP1 := Lib.hid (HP2.out.below hb1)
  have HT1 := Lib.hid (HP.out.below HG1.out)
  obtain ⟨x0, x1⟩ := HP1.out.cells
  have hx0 := block_lt_of_cell x0
  clear hb1
  go_wp2_with (first
    | (go_at_call 13; refine (HS.addr 0 _ 2 exL 1 2 _ HT1.out SM.out ZZ.out.1.1 ZZ.out.1.2.1 ZZ.out.1.2.2.1).mono ?_; rintro e w2 ⟨rfl, hb2⟩; rw [FA.out.2.1]; have hz2 : w1.heap.size < w2.heap.size := (by have := hb2.size; simp at this; omega); have HG2 := Lib.hid (HG1.out.trans (hb2.mono HG1.out.size)); obtain ⟨y0, y1, _, _⟩ := two_cells (below_heap hb2 HX1.out); obtain ⟨z0, z1⟩ := (HP2.out.below HG2.out).cells; obtain ⟨w3, hins, ht3, hb3⟩ := map_lit w2 ZZ.out.2.1.1 ZZ.out.2.1.2; have HM3 := Lib.hid ht3; have HG3 := Lib.hid (HG2.out.trans (hb3.mono HG2.out.size)); clear hb2 ht3 hb3 x0 x1)
    | (go_at_call 19; refine (HS.tail 0 _ 2 exL w2.heap.size [(2, 3)] w3 (HP.out.below HG3.out) SM.out ZZ.out.1.1 HM3.out (by simp) ZZ.out.2.2).mono ?_; rintro e w4 ⟨rfl, hb4⟩; rw [FA.out.2.2.1]; have HG4 := Lib.hid (HG3.out.trans (hb4.mono HG3.out.size)); obtain ⟨q0, q1⟩ := (HP2.out.below HG4.out).cells; clear hb4 hins)
    | (go_at_call 21; refine (HS.below 0 _ 2 exL 5 0 w4 (HP.out.below HG4.out) SM.out ZZ.out.1.1 ZZ.out.1.2.2.2.2 ZZ.out.1.1).mono ?_; rintro e w5 ⟨rfl, hb5⟩; rw [FA.out.2.2.2]; have HG5 := Lib.hid (HG4.out.trans (hb5.mono HG4.out.size)); clear hb5))
  go_ret
  exact ⟨rfl, HB.out.trans (HG5.out.mono HB.out.size)⟩
end Go.Proofs.Ytffiocgeijeheaa
