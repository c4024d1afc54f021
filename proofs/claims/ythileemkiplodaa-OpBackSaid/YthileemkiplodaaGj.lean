/- What the fields of a record do: the numbers. Conditions: the cell holds a number of 64 bits; the packer or unpacker is as told. What the fields of a record do: the tick, as the numbers. Conditions: the cell holds a number of 64 bits; the packer or unpacker is as told. What the makers of fields tell: a number within bounds; the four numbers of a move. Conditions: the move lies where the call was told. -/
import Derived.Test.YthileemkiplodaaGd
import Derived.Test.YthileemkiplodaaGe
import Derived.Test.YthileemkiplodaaGf
import Derived.ChangeAlike
import Derived.RegionTactic
import Derived.StillTailTactics
import Derived.Deep.RegionWith
import Derived.Test.YthileemkiplodaaGh
set_option linter.unusedVariables false
namespace Go.Proofs.Ythileemkiplodaa
open Go.RowKit
set_option maxRecDepth 20000

theorem inR_lo {v lo hi : Int} (h : ¬ lo ≤ v) : inR v lo hi = false := by simp [inR, h]
theorem inR_hi {v lo hi : Int} (h : ¬ v ≤ hi) : inR v lo hi = false := by simp [inR, h]
theorem cell_new {w : World} {p : Addr} {v : Value} (h : w.cell? p = some v) (x : Obj) : (w.alloc x).cell? p = some v := by
  cases p with
  | mk b j s => exact (((Below.refl w.heap.size w).alloc (Nat.le_refl _) x).cell (block_lt_of_cell h)).trans h
theorem heap_past {w : World} {b : Nat} {o : Obj} (h : w.heap[b]? = some o) (x : Obj) : (w.alloc x).heap[b]? = some o := below_heap ((Below.refl _ _).alloc (Nat.le_refl _) x) h

theorem ngood_any (b j : Nat) (n lo hi v : Int) (w : World) (h : w.cell? ⟨b, j, none⟩ = some (.int .i64 v)) :
    Calls Try.prog 109 #[.agg #[.pointer (some ⟨b, j, none⟩), .int .i64 n, .int .i64 lo, .int .i64 hi]] w fun e w' => e = .returned (.bool (inR v lo hi)) ∧ Below w.heap.size w w' := by
  have HB := Lib.hid (fun (x : Obj) => show Below w.heap.size w (w.alloc x) from (Below.refl _ _).alloc (Nat.le_refl _) _)
  have hc := fun x => cell_new h x
  by_cases h1 : lo ≤ v
  · by_cases h2 : v ≤ hi
    · rw [show inR v lo hi = true from inR_iff.2 ⟨h1, h2⟩]
      go_enter Try.func109, Try.ntmps109
      go_wp2
      go_quiet (fail)
      go_wp2
      go_ret
      exact ⟨rfl, below_drewN (HB.out _) _⟩
    · rw [inR_hi h2]
      have d2 : decide (v ≤ hi) = false := decide_eq_false h2
      clear h2
      go_enter Try.func109, Try.ntmps109
      go_wp2
      go_quiet (fail)
      go_wp2
      go_ret
      exact ⟨rfl, below_drewN (HB.out _) _⟩
  · rw [inR_lo h1]
    have d1 : decide (lo ≤ v) = false := decide_eq_false h1
    clear h1
    go_enter Try.func109, Try.ntmps109
    go_wp2
    go_quiet (fail)
    go_wp2
    go_ret
    exact ⟨rfl, below_drewN (HB.out _) _⟩
theorem nclear_any (b j : Nat) (n lo hi : Int) (cs : Array Value) (T : TypeId) (w : World) (h : w.heap[b]? = some (.cells cs T (0, 0))) (hj : ∃ v, cs[j]? = some (.int .i64 v)) :
    Calls Try.prog 108 #[.agg #[.pointer (some ⟨b, j, none⟩), .int .i64 n, .int .i64 lo, .int .i64 hi]] w fun e w' => e = .returned (.tuple #[]) ∧ w'.heap[b]? = some (.cells (cs.setIfInBounds j (.int .i64 0)) T (0, 0)) ∧ Kept (fun k => k ≠ b) w w' := by
  obtain ⟨v, hj⟩ := hj
  have HK := Lib.hid (fun (x : Obj) (u : Value) => show Kept (fun k => k ≠ b) w ((w.alloc x).setCell ⟨b, j, none⟩ u) from ((Kept.refl _ _).alloc _).setCell (by simp) _)
  have HH := Lib.hid (fun (x : Obj) (u : Value) => heap_setCell_same (w.alloc x) b j cs T u (heap_past h x))
  have hc := fun x => (cell_of (heap_past h x) j).trans hj
  have hf := fun x => free_of (heap_past h x) j
  clear h hj
  go_enter Try.func108, Try.ntmps108
  go_wp2
  go_end0
  exact ⟨rfl, HH.out _ _, HK.out _ _⟩
theorem nput_any (S : Nat → Prop) (b j p : Nat) (t : St) (n lo hi v : Int) (w : World) (h : w.cell? ⟨b, j, none⟩ = some (.int .i64 v)) (hp : PKs S w p t) (hv : -9223372036854775808 ≤ v ∧ v ≤ 9223372036854775807) :
    Calls Try.prog 110 #[.agg #[.pointer (some ⟨b, j, none⟩), .int .i64 n, .int .i64 lo, .int .i64 hi], .pointer (some ⟨p, 0, none⟩)] w fun e w' => e = .returned (.tuple #[]) ∧ PKs S w' p (t.num v n) ∧ Kept S w w' := by
  have HB := Lib.hid (fun (x : Obj) (k : Nat) => show Below w.heap.size w ((w.alloc x).drewN k) from below_drewN ((Below.refl _ _).alloc (Nat.le_refl _) _) k)
  have HP := Lib.hid (fun (x : Obj) (k : Nat) => show PKs S ((w.alloc x).drewN k) p t from hp.keep (Kept.ofBelow (HB.out x k) (fun _ => True)) (fun _ _ => trivial))
  have hc := fun x => cell_new h x
  clear h hp
  go_enter Try.func110, Try.ntmps110
  go_wp2
  generalize hw1 : w.alloc _ = w1
  have e0 : w1.heap[w.heap.size]? = some (.cells #[.pointer (some ⟨b, j, none⟩), .int .i64 n, .int .i64 lo, .int .i64 hi] 108 (0, 0)) := by rw [← hw1]; exact heap_alloc_new w _
  have c0 := cell_of e0 0
  have c1 := cell_of e0 1
  have cv : w1.cell? ⟨b, j, none⟩ = some (.int .i64 v) := by rw [← hw1]; exact hc _
  have HB1 : Below w.heap.size w w1.drew := by rw [← hw1]; exact HB.out _ 1
  have HP1 : PKs S w1.drew p t := by rw [← hw1]; exact HP.out _ 1
  clear hc hw1
  go_still_tail 7, (by kernel_rfl)
  change wpList _ _ _ _ _ w1.drew
  go_wp2_with (go_at_call 22; refine (nums_any S _ p t v n HP1 hv).mono ?_; rintro e w1 ⟨rfl, hp1, hk1⟩)
  go_end0
  exact ⟨rfl, hp1, (Kept.ofBelow HB1 S).trans hk1⟩
theorem ntake_any (b j u : Nat) (o : Option ByteArray) (n lo hi : Int) (cs : Array Value) (T : TypeId) (w : World) (h : w.heap[b]? = some (.cells cs T (0, 0))) (hj : ∃ v, cs[j]? = some (.int .i64 v)) (hu : UK w u o) (hl : (ukL o).size ≤ 1099511627776) (hbu : b ≠ u)
    (hn : -9223372036854775808 ≤ n ∧ n ≤ 9223372036854775807) :
    Calls Try.prog 111 #[.agg #[.pointer (some ⟨b, j, none⟩), .int .i64 n, .int .i64 lo, .int .i64 hi], .pointer (some ⟨u, 0, none⟩)] w fun e w' =>
      e = .returned (.tuple #[]) ∧ UK w' u (numO o n) ∧ w'.heap[b]? = some (.cells (cs.setIfInBounds j (.int .i64 (numV o n))) T (0, 0)) ∧ Kept (fun k => k ≠ b ∧ k ≠ u) w w' := by
  obtain ⟨v, hj⟩ := hj
  have HB := Lib.hid (fun (x : Obj) (k : Nat) => show Below w.heap.size w ((w.alloc x).drewN k) from below_drewN ((Below.refl _ _).alloc (Nat.le_refl _) _) k)
  have HU := Lib.hid (fun (x : Obj) (k : Nat) => show UK ((w.alloc x).drewN k) u o from hu.keep (Kept.ofBelow (HB.out x k) (fun _ => True)) trivial)
  have HH := Lib.hid (fun (x : Obj) (k : Nat) => show ((w.alloc x).drewN k).heap[b]? = _ from heap_past h x)
  have HJ := Lib.hid hj
  have hult := lt_of_block hu.cells
  clear h hu hj
  go_enter Try.func111, Try.ntmps111
  go_wp2
  generalize hw1 : w.alloc _ = w1
  have e0 : w1.heap[w.heap.size]? = some (.cells #[.pointer (some ⟨b, j, none⟩), .int .i64 n, .int .i64 lo, .int .i64 hi] 108 (0, 0)) := by rw [← hw1]; exact heap_alloc_new w _
  have c0 := cell_of e0 0
  have c1 := cell_of e0 1
  have HB1 : Below w.heap.size w w1.drew := by rw [← hw1]; exact HB.out _ 1
  have HU1 : UK w1.drew u o := by rw [← hw1]; exact HU.out _ 1
  have HH1 : w1.drew.heap[b]? = some (.cells cs T (0, 0)) := by rw [← hw1]; exact HH.out _ 1
  have hub : w.heap.size ≠ u := Ne.symm (Nat.ne_of_lt hult)
  have E0 := Lib.hid e0
  clear hw1 e0 hult
  go_region_with (go_at_call 32; refine (uNum_any _ u o n HU1 hl hn).mono ?_; rintro e w2 ⟨rfl, hu2, hk2⟩; have h2 := hk2.heap (b := b) hbu HH1; have c2 := (cell_of h2 j).trans HJ.out; have f2 := free_of h2 j; have g2 := hk2.heap (b := w.heap.size) hub E0.out; have d0 := cell_of g2 0; have d1 := cell_of g2 1; have H2 := Lib.hid h2; clear h2 g2)
  all_goals
    go_wp2_with fail
    go_end0
    have hk := (Kept.refl (fun k => k ≠ b) w2).setCell (p := ⟨b, j, none⟩) (by simp) (.int .i64 (numV o n))
    exact ⟨rfl, hu2.keep hk (Ne.symm hbu), heap_setCell_same w2 b j cs T _ H2.out, ((Kept.ofBelow HB1 _).trans (hk2.mono (fun k h => h.2))).trans (hk.mono (fun k h => h.1))⟩
end Go.Proofs.Ythileemkiplodaa
namespace Go.Proofs.Ythileemkiplodaa
open Go.RowKit
set_option maxRecDepth 20000

theorem kgood_any (b j : Nat) (n lo hi v : Int) (w : World) (h : w.cell? ⟨b, j, none⟩ = some (.int .i64 v)) :
    Calls Try.prog 113 #[.agg #[.pointer (some ⟨b, j, none⟩), .int .i64 n, .int .i64 lo, .int .i64 hi]] w fun e w' => e = .returned (.bool (inR v lo hi)) ∧ Below w.heap.size w w' := by
  have HB := Lib.hid (fun (x : Obj) => show Below w.heap.size w (w.alloc x) from (Below.refl _ _).alloc (Nat.le_refl _) _)
  have hc := fun x => cell_new h x
  by_cases h1 : lo ≤ v
  · by_cases h2 : v ≤ hi
    · rw [show inR v lo hi = true from inR_iff.2 ⟨h1, h2⟩]
      go_enter Try.func113, Try.ntmps113
      go_wp2
      go_quiet (fail)
      go_wp2
      go_ret
      exact ⟨rfl, below_drewN (HB.out _) _⟩
    · rw [inR_hi h2]
      have d2 : decide (v ≤ hi) = false := decide_eq_false h2
      clear h2
      go_enter Try.func113, Try.ntmps113
      go_wp2
      go_quiet (fail)
      go_wp2
      go_ret
      exact ⟨rfl, below_drewN (HB.out _) _⟩
  · rw [inR_lo h1]
    have d1 : decide (lo ≤ v) = false := decide_eq_false h1
    clear h1
    go_enter Try.func113, Try.ntmps113
    go_wp2
    go_quiet (fail)
    go_wp2
    go_ret
    exact ⟨rfl, below_drewN (HB.out _) _⟩
theorem kclear_any (b j : Nat) (n lo hi : Int) (cs : Array Value) (T : TypeId) (w : World) (h : w.heap[b]? = some (.cells cs T (0, 0))) (hj : ∃ v, cs[j]? = some (.int .i64 v)) :
    Calls Try.prog 112 #[.agg #[.pointer (some ⟨b, j, none⟩), .int .i64 n, .int .i64 lo, .int .i64 hi]] w fun e w' => e = .returned (.tuple #[]) ∧ w'.heap[b]? = some (.cells (cs.setIfInBounds j (.int .i64 0)) T (0, 0)) ∧ Kept (fun k => k ≠ b) w w' := by
  obtain ⟨v, hj⟩ := hj
  have HK := Lib.hid (fun (x : Obj) (u : Value) => show Kept (fun k => k ≠ b) w ((w.alloc x).setCell ⟨b, j, none⟩ u) from ((Kept.refl _ _).alloc _).setCell (by simp) _)
  have HH := Lib.hid (fun (x : Obj) (u : Value) => heap_setCell_same (w.alloc x) b j cs T u (heap_past h x))
  have hc := fun x => (cell_of (heap_past h x) j).trans hj
  have hf := fun x => free_of (heap_past h x) j
  clear h hj
  go_enter Try.func112, Try.ntmps112
  go_wp2
  go_end0
  exact ⟨rfl, HH.out _ _, HK.out _ _⟩
theorem kput_any (S : Nat → Prop) (b j p : Nat) (t : St) (n lo hi v : Int) (w : World) (h : w.cell? ⟨b, j, none⟩ = some (.int .i64 v)) (hp : PKs S w p t) (hv : -9223372036854775808 ≤ v ∧ v ≤ 9223372036854775807) :
    Calls Try.prog 114 #[.agg #[.pointer (some ⟨b, j, none⟩), .int .i64 n, .int .i64 lo, .int .i64 hi], .pointer (some ⟨p, 0, none⟩)] w fun e w' => e = .returned (.tuple #[]) ∧ PKs S w' p (t.num v n) ∧ Kept S w w' := by
  have HB := Lib.hid (fun (x : Obj) (k : Nat) => show Below w.heap.size w ((w.alloc x).drewN k) from below_drewN ((Below.refl _ _).alloc (Nat.le_refl _) _) k)
  have HP := Lib.hid (fun (x : Obj) (k : Nat) => show PKs S ((w.alloc x).drewN k) p t from hp.keep (Kept.ofBelow (HB.out x k) (fun _ => True)) (fun _ _ => trivial))
  have hc := fun x => cell_new h x
  clear h hp
  go_enter Try.func114, Try.ntmps114
  go_wp2
  generalize hw1 : w.alloc _ = w1
  have e0 : w1.heap[w.heap.size]? = some (.cells #[.pointer (some ⟨b, j, none⟩), .int .i64 n, .int .i64 lo, .int .i64 hi] 118 (0, 0)) := by rw [← hw1]; exact heap_alloc_new w _
  have c0 := cell_of e0 0
  have c1 := cell_of e0 1
  have cv : w1.cell? ⟨b, j, none⟩ = some (.int .i64 v) := by rw [← hw1]; exact hc _
  have HB1 : Below w.heap.size w w1.drew := by rw [← hw1]; exact HB.out _ 1
  have HP1 : PKs S w1.drew p t := by rw [← hw1]; exact HP.out _ 1
  clear hc hw1
  go_still_tail 7, (by kernel_rfl)
  change wpList _ _ _ _ _ w1.drew
  go_wp2_with (go_at_call 22; refine (nums_any S _ p t v n HP1 hv).mono ?_; rintro e w1 ⟨rfl, hp1, hk1⟩)
  go_end0
  exact ⟨rfl, hp1, (Kept.ofBelow HB1 S).trans hk1⟩
theorem ktake_any (b j u : Nat) (o : Option ByteArray) (n lo hi : Int) (cs : Array Value) (T : TypeId) (w : World) (h : w.heap[b]? = some (.cells cs T (0, 0))) (hj : ∃ v, cs[j]? = some (.int .i64 v)) (hu : UK w u o) (hl : (ukL o).size ≤ 1099511627776) (hbu : b ≠ u)
    (hn : -9223372036854775808 ≤ n ∧ n ≤ 9223372036854775807) :
    Calls Try.prog 115 #[.agg #[.pointer (some ⟨b, j, none⟩), .int .i64 n, .int .i64 lo, .int .i64 hi], .pointer (some ⟨u, 0, none⟩)] w fun e w' =>
      e = .returned (.tuple #[]) ∧ UK w' u (numO o n) ∧ w'.heap[b]? = some (.cells (cs.setIfInBounds j (.int .i64 (numV o n))) T (0, 0)) ∧ Kept (fun k => k ≠ b ∧ k ≠ u) w w' := by
  obtain ⟨v, hj⟩ := hj
  have HB := Lib.hid (fun (x : Obj) (k : Nat) => show Below w.heap.size w ((w.alloc x).drewN k) from below_drewN ((Below.refl _ _).alloc (Nat.le_refl _) _) k)
  have HU := Lib.hid (fun (x : Obj) (k : Nat) => show UK ((w.alloc x).drewN k) u o from hu.keep (Kept.ofBelow (HB.out x k) (fun _ => True)) trivial)
  have HH := Lib.hid (fun (x : Obj) (k : Nat) => show ((w.alloc x).drewN k).heap[b]? = _ from heap_past h x)
  have HJ := Lib.hid hj
  have hult := lt_of_block hu.cells
  clear h hu hj
  go_enter Try.func115, Try.ntmps115
  go_wp2
  generalize hw1 : w.alloc _ = w1
  have e0 : w1.heap[w.heap.size]? = some (.cells #[.pointer (some ⟨b, j, none⟩), .int .i64 n, .int .i64 lo, .int .i64 hi] 118 (0, 0)) := by rw [← hw1]; exact heap_alloc_new w _
  have c0 := cell_of e0 0
  have c1 := cell_of e0 1
  have HB1 : Below w.heap.size w w1.drew := by rw [← hw1]; exact HB.out _ 1
  have HU1 : UK w1.drew u o := by rw [← hw1]; exact HU.out _ 1
  have HH1 : w1.drew.heap[b]? = some (.cells cs T (0, 0)) := by rw [← hw1]; exact HH.out _ 1
  have hub : w.heap.size ≠ u := Ne.symm (Nat.ne_of_lt hult)
  have E0 := Lib.hid e0
  clear hw1 e0 hult
  go_region_with (go_at_call 32; refine (uNum_any _ u o n HU1 hl hn).mono ?_; rintro e w2 ⟨rfl, hu2, hk2⟩; have h2 := hk2.heap (b := b) hbu HH1; have c2 := (cell_of h2 j).trans HJ.out; have f2 := free_of h2 j; have g2 := hk2.heap (b := w.heap.size) hub E0.out; have d0 := cell_of g2 0; have d1 := cell_of g2 1; have H2 := Lib.hid h2; clear h2 g2)
  all_goals
    go_wp2_with fail
    go_end0
    have hk := (Kept.refl (fun k => k ≠ b) w2).setCell (p := ⟨b, j, none⟩) (by simp) (.int .i64 (numV o n))
    exact ⟨rfl, hu2.keep hk (Ne.symm hbu), heap_setCell_same w2 b j cs T _ H2.out, ((Kept.ofBelow HB1 _).trans (hk2.mono (fun k h => h.2))).trans (hk.mono (fun k h => h.1))⟩
end Go.Proofs.Ythileemkiplodaa
namespace Go.Proofs.Ythileemkiplodaa
open Go.RowKit
set_option maxRecDepth 20000

/-- the fields as values: a number, a tick, a text, the moves -/
def numF (b j : Nat) (n lo hi : Int) : Value := .iface 108 (.agg #[.pointer (some ⟨b, j, none⟩), .int .i64 n, .int .i64 lo, .int .i64 hi])
def tickF (b j : Nat) (n lo hi : Int) : Value := .iface 118 (.agg #[.pointer (some ⟨b, j, none⟩), .int .i64 n, .int .i64 lo, .int .i64 hi])
theorem within_any (b j : Nat) (n lo hi : Int) (w : World) :
    Calls Try.prog 41 #[.pointer (some ⟨b, j, none⟩), .int .i64 n, .int .i64 lo, .int .i64 hi] w fun e w' => e = .returned (numF b j n lo hi) ∧ w' = w := by
  go_enter Try.func41, Try.ntmps41
  go_wp2
  go_ret
  exact ⟨rfl, rfl⟩
theorem within64_any (b j : Nat) (n lo hi : Int) (w : World) :
    Calls Try.prog 59 #[.pointer (some ⟨b, j, none⟩), .int .i64 n, .int .i64 lo, .int .i64 hi] w fun e w' => e = .returned (tickF b j n lo hi) ∧ w' = w := by
  go_enter Try.func59, Try.ntmps59
  go_wp2
  go_ret
  exact ⟨rfl, rfl⟩
set_option maxHeartbeats 2000000 in
theorem fields_any (lv : Value) (d ml : Int) (g off : Nat) (w : World) (h : w.cell? ⟨g, off + 2, none⟩ = some (.int .i64 ml)) :
    Calls Try.prog 107 #[.agg #[lv, .int .i64 d], .pointer (some ⟨g, off, none⟩)] w fun e w' => ∃ fb, w.heap.size ≤ fb ∧ e = .returned (.slice (some ⟨fb, 0, none⟩) 4 4) ∧
      w'.heap[fb]? = some (.cells #[numF g off 2 0 16383, numF g (off + 1) 2 0 1024, numF g (off + 2) 2 1 1024, numF g (off + 3) 2 0 (wrap64 (d - ml))] 57 (0, 0)) ∧ Below w.heap.size w w' := by
  have HB := Lib.hid (fun (x : Obj) (k : Nat) => show Below w.heap.size w ((w.alloc x).drewN k) from below_drewN ((Below.refl _ _).alloc (Nat.le_refl _) _) k)
  have hc := fun x => cell_new h x
  clear h
  go_enter Try.func107, Try.ntmps107
  go_wp2
  generalize hw1 : w.alloc _ = w1
  have e0 : w1.heap[w.heap.size]? = some (.cells #[lv, .int .i64 d] 106 (0, 0)) := by rw [← hw1]; exact heap_alloc_new w _
  have c1 := cell_of e0 1
  have cv : w1.cell? ⟨g, off + 2, none⟩ = some (.int .i64 ml) := by rw [← hw1]; exact hc _
  have HB1 : Below w.heap.size w w1.drew := by rw [← hw1]; exact HB.out _ 1
  clear hw1 hc
  refine wp_region_still_tail 23 (by kernel_rfl) (by kernel_rfl) ?_
  simp only [List.take_succ_cons, List.take_zero, List.drop_succ_cons, List.drop_zero]
  change wpStill _ _ w1.drew (fun a' => wpList _ _ _ _ a' w1.drew) _ _
  have d1 : w1.drew.cell? ⟨w.heap.size, 1, none⟩ = some (.int .i64 d) := c1
  have dv : w1.drew.cell? ⟨g, off + 2, none⟩ = some (.int .i64 ml) := cv
  generalize w1.drew = w2 at *
  repeat (first | (still_call (within_any _ _ _ _ _ _)) | still_step)
  refine wpStill_nil ?_
  unfold numF
  go_wp2_with fail
  go_ret
  exact ⟨w2.heap.size, HB1.size, rfl, heap_alloc_new _ _, HB1.alloc HB1.size _⟩
end Go.Proofs.Ythileemkiplodaa
