/- What the fields of a record do: the texts. Conditions: the cell holds a text; the packer or unpacker is as told. -/
import Derived.Test.YthileemkiplodaaGj
import Derived.Test.YthileemkiplodaaGg
set_option linter.unusedVariables false
namespace Go.Proofs.Ythileemkiplodaa
open Go.RowKit
set_option maxRecDepth 20000

theorem fitsData_any (l : Nat) (least : Int) (x : ByteArray) (w : World) (h : w.cell? ⟨l, 0, none⟩ = some (.int .i64 least)) :
    Calls Try.prog 54 #[.string x, .pointer (some ⟨l, 0, none⟩)] w fun e w' => e = .returned (.bool (inR x.size least 1024)) ∧ w = w' := by
  by_cases h1 : least ≤ (x.size : Int)
  · by_cases h2 : (x.size : Int) ≤ 1024
    · rw [show inR x.size least 1024 = true from inR_iff.2 ⟨h1, h2⟩]
      go_enter Try.func54, Try.ntmps54
      go_wp2
      go_ret
      exact ⟨rfl, rfl⟩
    · rw [inR_hi h2]
      have d2 : decide ((x.size : Int) ≤ 1024) = false := decide_eq_false h2
      have d3 : decide (x.size ≤ 1024) = false := decide_eq_false (by omega)
      clear h2
      go_enter Try.func54, Try.ntmps54
      go_wp2
      go_ret
      exact ⟨rfl, rfl⟩
  · rw [inR_lo h1]
    have d1 : decide (least ≤ (x.size : Int)) = false := decide_eq_false h1
    clear h1
    go_enter Try.func54, Try.ntmps54
    go_wp2
    go_ret
    exact ⟨rfl, rfl⟩
/-- the test of a path; the test of data of so many bytes at least, which stand in block l -/
def fitP : Value := .func (.func 56) #[] #[]
def fitD (l : Nat) : Value := .func (.func 54) #[] #[.pointer (some ⟨l, 0, none⟩)]
theorem tgood_path (b j : Nat) (x : ByteArray) (w : World) (h : w.cell? ⟨b, j, none⟩ = some (.string x)) (hx : x.size ≤ 1099511627776) :
    Calls Try.prog 97 #[.agg #[.pointer (some ⟨b, j, none⟩), fitP]] w fun e w' => e = .returned (.bool (goodR x)) ∧ Below w.heap.size w w' := by
  have HB := Lib.hid (fun (x : Obj) (k : Nat) => show Below w.heap.size w ((w.alloc x).drewN k) from below_drewN ((Below.refl _ _).alloc (Nat.le_refl _) _) k)
  have hc := fun x => cell_new h x
  have c := fun w => good_any x hx w
  unfold fitP
  clear h
  go_enter Try.func97, Try.ntmps97
  go_wp2
  generalize hw1 : w.alloc _ = w1
  have e0 : w1.heap[w.heap.size]? = some (.cells #[.pointer (some ⟨b, j, none⟩), .func (.func 56) #[] #[]] 100 (0, 0)) := by rw [← hw1]; exact heap_alloc_new w _
  have c0 := cell_of e0 0
  have c1 := cell_of e0 1
  have cv : w1.cell? ⟨b, j, none⟩ = some (.string x) := by rw [← hw1]; exact hc _
  have HB1 : Below w.heap.size w w1.drew := by rw [← hw1]; exact HB.out _ 1

  clear hc hw1
  go_still_tail 6, (by kernel_rfl)
  change wpList _ _ _ _ _ w1.drew
  go_wp2_with (go_at_call 56; refine (c _).mono ?_; rintro e w2 ⟨rfl, hb2⟩)
  go_ret
  exact ⟨rfl, HB1.trans (hb2.mono HB1.size)⟩
theorem tgood_data (b j l : Nat) (x : ByteArray) (least : Int) (w : World) (h : w.cell? ⟨b, j, none⟩ = some (.string x)) (hl : w.cell? ⟨l, 0, none⟩ = some (.int .i64 least)) :
    Calls Try.prog 97 #[.agg #[.pointer (some ⟨b, j, none⟩), fitD l]] w fun e w' => e = .returned (.bool (inR x.size least 1024)) ∧ Below w.heap.size w w' := by
  have HB := Lib.hid (fun (x : Obj) (k : Nat) => show Below w.heap.size w ((w.alloc x).drewN k) from below_drewN ((Below.refl _ _).alloc (Nat.le_refl _) _) k)
  have hc := fun x => cell_new h x
  have hl0 := fun x => cell_new hl x
  unfold fitD
  clear hl
  clear h
  go_enter Try.func97, Try.ntmps97
  go_wp2
  generalize hw1 : w.alloc _ = w1
  have e0 : w1.heap[w.heap.size]? = some (.cells #[.pointer (some ⟨b, j, none⟩), .func (.func 54) #[] #[.pointer (some ⟨l, 0, none⟩)]] 100 (0, 0)) := by rw [← hw1]; exact heap_alloc_new w _
  have c0 := cell_of e0 0
  have c1 := cell_of e0 1
  have cv : w1.cell? ⟨b, j, none⟩ = some (.string x) := by rw [← hw1]; exact hc _
  have HB1 : Below w.heap.size w w1.drew := by rw [← hw1]; exact HB.out _ 1
  have hl1 : w1.drew.cell? ⟨l, 0, none⟩ = some (.int .i64 least) := by rw [← hw1]; exact hl0 _
  clear hc hw1
  go_still_tail 6, (by kernel_rfl)
  change wpList _ _ _ _ _ w1.drew
  go_wp2_with (go_at_call 54; refine (fitsData_any l least x _ hl1).mono ?_; rintro e w2 ⟨rfl, rfl⟩)
  go_ret
  exact ⟨rfl, HB1⟩
theorem tclear_any (b j : Nat) (fit : Value) (cs : Array Value) (T : TypeId) (w : World) (h : w.heap[b]? = some (.cells cs T (0, 0))) (hj : ∃ x, cs[j]? = some (.string x)) :
    Calls Try.prog 96 #[.agg #[.pointer (some ⟨b, j, none⟩), fit]] w fun e w' => e = .returned (.tuple #[]) ∧ w'.heap[b]? = some (.cells (cs.setIfInBounds j (.string ⟨#[]⟩)) T (0, 0)) ∧ Kept (fun k => k ≠ b) w w' := by
  obtain ⟨v, hj⟩ := hj
  have HK := Lib.hid (fun (x : Obj) (u : Value) => show Kept (fun k => k ≠ b) w ((w.alloc x).setCell ⟨b, j, none⟩ u) from ((Kept.refl _ _).alloc _).setCell (by simp) _)
  have HH := Lib.hid (fun (x : Obj) (u : Value) => heap_setCell_same (w.alloc x) b j cs T u (heap_past h x))
  have hc := fun x => (cell_of (heap_past h x) j).trans hj
  have hf := fun x => free_of (heap_past h x) j
  clear h hj
  go_enter Try.func96, Try.ntmps96
  go_wp2
  go_end0
  exact ⟨rfl, HH.out _ _, HK.out _ _⟩
theorem tput_any (S : Nat → Prop) (b j p : Nat) (fit : Value) (t : St) (x : ByteArray) (w : World) (h : w.cell? ⟨b, j, none⟩ = some (.string x)) (hp : PKs S w p t) (hx : x.size ≤ 1099511627776) :
    Calls Try.prog 98 #[.agg #[.pointer (some ⟨b, j, none⟩), fit], .pointer (some ⟨p, 0, none⟩)] w fun e w' => e = .returned (.tuple #[]) ∧ PKs S w' p (t.text x) ∧ Kept S w w' := by
  have HB := Lib.hid (fun (x : Obj) => show Below w.heap.size w (w.alloc x) from (Below.refl _ _).alloc (Nat.le_refl _) _)
  have HP := Lib.hid (fun (x : Obj) => show PKs S (w.alloc x) p t from hp.keep (Kept.ofBelow (HB.out x) (fun _ => True)) (fun _ _ => trivial))
  have hc := fun x => cell_new h x
  clear h hp
  go_enter Try.func98, Try.ntmps98
  go_wp2_with (go_at_call 95; refine (texts_any S _ p t x (HP.out _) hx).mono ?_; rintro e w1 ⟨rfl, hp1, hk1⟩)
  go_end0
  exact ⟨rfl, hp1, (Kept.ofBelow (HB.out _) S).trans hk1⟩
theorem ttake_any (b j u : Nat) (fit : Value) (o : Option ByteArray) (cs : Array Value) (T : TypeId) (w : World) (h : w.heap[b]? = some (.cells cs T (0, 0))) (hj : ∃ x, cs[j]? = some (.string x)) (hu : UK w u o) (hl : (ukL o).size ≤ 1099511627776) (hbu : b ≠ u) :
    Calls Try.prog 99 #[.agg #[.pointer (some ⟨b, j, none⟩), fit], .pointer (some ⟨u, 0, none⟩)] w fun e w' =>
      e = .returned (.tuple #[]) ∧ UK w' u (textO o 4096) ∧ w'.heap[b]? = some (.cells (cs.setIfInBounds j (.string (textV o 4096))) T (0, 0)) ∧ Kept (fun k => k ≠ b ∧ k ≠ u) w w' := by
  obtain ⟨v, hj⟩ := hj
  have HB := Lib.hid (fun (x : Obj) (k : Nat) => show Below w.heap.size w ((w.alloc x).drewN k) from below_drewN ((Below.refl _ _).alloc (Nat.le_refl _) _) k)
  have HU := Lib.hid (fun (x : Obj) (k : Nat) => show UK ((w.alloc x).drewN k) u o from hu.keep (Kept.ofBelow (HB.out x k) (fun _ => True)) trivial)
  have HH := Lib.hid (fun (x : Obj) (k : Nat) => show ((w.alloc x).drewN k).heap[b]? = _ from heap_past h x)
  have HJ := Lib.hid hj
  have hult := lt_of_block hu.cells
  clear h hu hj
  go_enter Try.func99, Try.ntmps99
  go_wp2
  generalize hw1 : w.alloc _ = w1
  have e0 : w1.heap[w.heap.size]? = some (.cells #[.pointer (some ⟨b, j, none⟩), fit] 100 (0, 0)) := by rw [← hw1]; exact heap_alloc_new w _
  have c0 := cell_of e0 0
  have HB1 : Below w.heap.size w w1.drew := by rw [← hw1]; exact HB.out _ 1
  have HU1 : UK w1.drew u o := by rw [← hw1]; exact HU.out _ 1
  have HH1 : w1.drew.heap[b]? = some (.cells cs T (0, 0)) := by rw [← hw1]; exact HH.out _ 1
  have hub : w.heap.size ≠ u := Ne.symm (Nat.ne_of_lt hult)
  have E0 := Lib.hid e0
  clear hw1 e0 hult
  go_region_with (go_at_call 100; refine (uText_any _ u o 4096 HU1 hl).mono ?_; rintro e w2 ⟨rfl, hu2, hk2⟩; have h2 := hk2.heap (b := b) hbu HH1; have c2 := (cell_of h2 j).trans HJ.out; have f2 := free_of h2 j; have g2 := hk2.heap (b := w.heap.size) hub E0.out; have d0 := cell_of g2 0; have H2 := Lib.hid h2; clear h2 g2)
  all_goals
    go_wp2_with fail
    go_end0
    have hk := (Kept.refl (fun k => k ≠ b) w2).setCell (p := ⟨b, j, none⟩) (by simp) (.string (textV o 4096))
    exact ⟨rfl, hu2.keep hk (Ne.symm hbu), heap_setCell_same w2 b j cs T _ H2.out, ((Kept.ofBelow HB1 _).trans (hk2.mono (fun k h => h.2))).trans (hk.mono (fun k h => h.1))⟩
end Go.Proofs.Ythileemkiplodaa
