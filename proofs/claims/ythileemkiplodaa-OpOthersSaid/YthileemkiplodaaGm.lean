/- What the statements' own small function Op returns: whether two records are alike; what the document's Only returns. Conditions: the moves lie where the call was told; at most 1000000 of them. What the document's Good returns, of records. Conditions: their moves lie where the call was told. -/
import Derived.Test.YthileemkiplodaaJOpC1
import Derived.Test.YthileemkiplodaaJOpC2
import Derived.Test.YthileemkiplodaaGl
import Derived.Test.YthileemkiplodaaJOpC5
import Derived.Test.YthileemkiplodaaGk
import Derived.Test.YthileemkiplodaaJOpD2
import Derived.Test.YthileemkiplodaaGh
import Derived.Deep.RegionWith
import Derived.Deep.DeepCutAuto
set_option linter.unusedVariables false
namespace Go.Proofs.Ythileemkiplodaa
open Go.RowKit
set_option maxRecDepth 20000

theorem op_any (a b : Rec) (ao bo : Option Addr) (ca cb : Nat) (w : World) (la : a.moves.length ≤ 1000000) (lb : b.moves.length ≤ 1000000) (hA : VL w ao a.moves) (hB : VL w bo b.moves) :
    Calls Try.prog 15 #[.agg (recA a (.slice ao a.moves.length ca)), .agg (recA b (.slice bo b.moves.length cb))] w fun e w' => e = .returned (.bool (a.same b)) ∧ Below w.heap.size w w' := by
  by_cases h0 : a.client = b.client
  rotate_left
  · rw [same_no (fun e => h0 (by rw [e]))]
    exact op_part0 a b ao bo ca cb w (bne_iff_ne.2 h0)
  by_cases h1 : a.seq = b.seq
  rotate_left
  · rw [same_no (fun e => h1 (by rw [e]))]
    exact op_part1 a b ao bo ca cb w (bne_eq_false_iff_eq.2 h0) (bne_iff_ne.2 h1)
  by_cases h2 : a.kind = b.kind
  rotate_left
  · rw [same_no (fun e => h2 (by rw [e]))]
    exact op_part2 a b ao bo ca cb w (bne_eq_false_iff_eq.2 h0) (bne_eq_false_iff_eq.2 h1) (bne_iff_ne.2 h2)
  by_cases h3 : a.path = b.path
  rotate_left
  · rw [same_no (fun e => h3 (by rw [e]))]
    exact op_part3 a b ao bo ca cb w (bne_eq_false_iff_eq.2 h0) (bne_eq_false_iff_eq.2 h1) (bne_eq_false_iff_eq.2 h2) (str_ne h3)
  by_cases h4 : a.dest = b.dest
  rotate_left
  · rw [same_no (fun e => h4 (by rw [e]))]
    exact op_part4 a b ao bo ca cb w (bne_eq_false_iff_eq.2 h0) (bne_eq_false_iff_eq.2 h1) (bne_eq_false_iff_eq.2 h2) (by rw [h3, beq_iff_eq]) (str_ne h4)
  by_cases h5 : a.size = b.size
  rotate_left
  · rw [same_no (fun e => h5 (by rw [e]))]
    exact op_part5 a b ao bo ca cb w (bne_eq_false_iff_eq.2 h0) (bne_eq_false_iff_eq.2 h1) (bne_eq_false_iff_eq.2 h2) (by rw [h3, beq_iff_eq]) (by rw [h4, beq_iff_eq]) (bne_iff_ne.2 h5)
  by_cases h6 : a.handle = b.handle
  rotate_left
  · rw [same_no (fun e => h6 (by rw [e]))]
    exact op_part6 a b ao bo ca cb w (bne_eq_false_iff_eq.2 h0) (bne_eq_false_iff_eq.2 h1) (bne_eq_false_iff_eq.2 h2) (by rw [h3, beq_iff_eq]) (by rw [h4, beq_iff_eq]) (bne_eq_false_iff_eq.2 h5) (bne_iff_ne.2 h6)
  by_cases h7 : a.off = b.off
  rotate_left
  · rw [same_no (fun e => h7 (by rw [e]))]
    exact op_part7 a b ao bo ca cb w (bne_eq_false_iff_eq.2 h0) (bne_eq_false_iff_eq.2 h1) (bne_eq_false_iff_eq.2 h2) (by rw [h3, beq_iff_eq]) (by rw [h4, beq_iff_eq]) (bne_eq_false_iff_eq.2 h5) (bne_eq_false_iff_eq.2 h6) (bne_iff_ne.2 h7)
  by_cases h8 : a.data = b.data
  rotate_left
  · rw [same_no (fun e => h8 (by rw [e]))]
    exact op_part8 a b ao bo ca cb w (bne_eq_false_iff_eq.2 h0) (bne_eq_false_iff_eq.2 h1) (bne_eq_false_iff_eq.2 h2) (by rw [h3, beq_iff_eq]) (by rw [h4, beq_iff_eq]) (bne_eq_false_iff_eq.2 h5) (bne_eq_false_iff_eq.2 h6) (bne_eq_false_iff_eq.2 h7) (str_ne h8)
  by_cases h9 : a.tick = b.tick
  rotate_left
  · rw [same_no (fun e => h9 (by rw [e]))]
    exact op_part9 a b ao bo ca cb w (bne_eq_false_iff_eq.2 h0) (bne_eq_false_iff_eq.2 h1) (bne_eq_false_iff_eq.2 h2) (by rw [h3, beq_iff_eq]) (by rw [h4, beq_iff_eq]) (bne_eq_false_iff_eq.2 h5) (bne_eq_false_iff_eq.2 h6) (bne_eq_false_iff_eq.2 h7) (by rw [h8, beq_iff_eq]) (bne_iff_ne.2 h9)
  by_cases h10 : a.ino = b.ino
  rotate_left
  · rw [same_no (fun e => h10 (by rw [e]))]
    exact op_part10 a b ao bo ca cb w (bne_eq_false_iff_eq.2 h0) (bne_eq_false_iff_eq.2 h1) (bne_eq_false_iff_eq.2 h2) (by rw [h3, beq_iff_eq]) (by rw [h4, beq_iff_eq]) (bne_eq_false_iff_eq.2 h5) (bne_eq_false_iff_eq.2 h6) (bne_eq_false_iff_eq.2 h7) (by rw [h8, beq_iff_eq]) (bne_eq_false_iff_eq.2 h9) (bne_iff_ne.2 h10)
  by_cases hl : a.moves.length = b.moves.length
  · exact op_moves a b ao bo ca cb w la hA hB h0 h1 h2 h3 h4 h5 h6 h7 h8 h9 h10 hl
  · rw [same_no (fun e => hl (by rw [e]))]
    exact op_part11 a b ao bo ca cb w (bne_eq_false_iff_eq.2 h0) (bne_eq_false_iff_eq.2 h1) (bne_eq_false_iff_eq.2 h2) (by rw [h3, beq_iff_eq]) (by rw [h4, beq_iff_eq]) (bne_eq_false_iff_eq.2 h5) (bne_eq_false_iff_eq.2 h6) (bne_eq_false_iff_eq.2 h7) (by rw [h8, beq_iff_eq]) (bne_eq_false_iff_eq.2 h9) (bne_eq_false_iff_eq.2 h10) la lb (bne_iff_ne.2 (by omega))
theorem only_any (o : Rec) (ao : Option Addr) (cap : Nat) (w : World) (hv : VLI w ao cap o.moves) :
    Calls Try.prog 19 #[.agg (recA o (.slice ao o.moves.length cap))] w (Tells w (onlyR o)) := by
  by_cases k1 : o.kind = 1
  · exact only_1 o ao cap w hv k1
  by_cases k2 : o.kind = 2
  · exact only_2 o ao cap w hv k2
  by_cases k3 : o.kind = 3
  · exact only_3 o ao cap w hv k3
  by_cases k4 : o.kind = 4
  · exact only_4 o ao cap w hv k4
  by_cases k5 : o.kind = 5
  · exact only_5 o ao cap w hv k5
  by_cases k6 : o.kind = 6
  · exact only_6 o ao cap w hv k6
  by_cases k7 : o.kind = 7
  · exact only_7 o ao cap w hv k7
  by_cases k8 : o.kind = 8
  · exact only_8 o ao cap w hv k8
  by_cases k9 : o.kind = 9
  · exact only_9 o ao cap w hv k9
  by_cases k10 : o.kind = 10
  · exact only_10 o ao cap w hv k10
  by_cases k11 : o.kind = 11
  · exact only_11 o ao cap w hv k11
  by_cases k12 : o.kind = 12
  · exact only_12 o ao cap w hv k12
  by_cases k13 : o.kind = 13
  · exact only_13 o ao cap w hv k13
  by_cases k14 : o.kind = 14
  · exact only_14 o ao cap w hv k14
  exact only_0 o ao cap w hv ⟨k1, k2, k3, k4, k5, k6, k7, k8, k9, k10, k11, k12, k13, k14⟩
end Go.Proofs.Ythileemkiplodaa
namespace Go.Proofs.Ythileemkiplodaa
open Go.RowKit
set_option maxRecDepth 20000

theorem rec_cells {w : World} {g : Nat} {o : Rec} {mv : Value} (h : w.heap[g]? = some (.cells (recA o mv) 24 (0, 0))) :
    w.cell? ⟨g, 0, none⟩ = some (.int .i64 o.client) ∧ w.cell? ⟨g, 1, none⟩ = some (.int .i64 o.seq) ∧ w.cell? ⟨g, 2, none⟩ = some (.int .i64 o.kind) ∧ w.cell? ⟨g, 3, none⟩ = some (.string o.path) ∧ w.cell? ⟨g, 4, none⟩ = some (.string o.dest) ∧ w.cell? ⟨g, 5, none⟩ = some (.int .i64 o.size) ∧ w.cell? ⟨g, 6, none⟩ = some (.int .i64 o.handle) ∧ w.cell? ⟨g, 7, none⟩ = some (.int .i64 o.off) ∧ w.cell? ⟨g, 8, none⟩ = some (.string o.data) ∧ w.cell? ⟨g, 9, none⟩ = some (.int .i64 o.tick) ∧ w.cell? ⟨g, 10, none⟩ = some (.int .i64 o.ino) ∧ w.cell? ⟨g, 11, none⟩ = some mv :=
  ⟨cell_of h 0, cell_of h 1, cell_of h 2, cell_of h 3, cell_of h 4, cell_of h 5, cell_of h 6, cell_of h 7, cell_of h 8, cell_of h 9, cell_of h 10, cell_of h 11⟩
/-- is a record by whom it may be, with no field that its kind has not? -/
def preR (o : Rec) : Bool := inR o.client 0 7 && (inR o.seq 1 2147483647 && o.same (onlyR o))
theorem mv_no {L : List Mv} {n k : Nat} (h : k < L.length) (e : mvGood n L[k] = false) : L.all (mvGood n) = false := by
  apply Bool.eq_false_iff.2
  intro ha
  have := List.all_eq_true.1 ha _ (List.getElem_mem h)
  rw [e] at this
  cases this
theorem mv_yes {L : List Mv} {n k : Nat} (h : k < L.length) (ha : (L.take k).all (mvGood n) = true) (e : mvGood n L[k] = true) : (L.take (k + 1)).all (mvGood n) = true := by
  rw [List.take_succ_eq_append_getElem h, List.all_append, ha]
  simp [e]
theorem good_pre (o : Rec) : goodO o = (preR o && formR o) := by simp [goodO, preR, Bool.and_assoc]
theorem only_len (o : Rec) (h : o.moves.length ≤ 1000000) : (onlyR o).moves.length ≤ 1000000 := by
  unfold onlyR
  repeat' split
  all_goals first | exact h | exact Nat.zero_le _
set_option maxRecDepth 100000 in
set_option maxHeartbeats 40000000 in
theorem rgoodO_any (o : Rec) (ao : Option Addr) (cap : Nat) (w : World) (hv : VLI w ao cap o.moves) (hl : o.moves.length ≤ 1000000) (hz : o.path.size ≤ 1000000 ∧ o.dest.size ≤ 1000000 ∧ o.data.size ≤ 1000000) :
    Calls Try.prog 14 #[.agg (recA o (.slice ao o.moves.length cap))] w fun e w' => e = .returned (.bool (goodO o)) ∧ Below w.heap.size w w' := by
  have hbox := heap_alloc_new w (.cells (recA o (.slice ao o.moves.length cap)) 24)
  obtain ⟨c0, c1, c2, c3, c4, c5, c6, c7, c8, c9, c10, c11⟩ := rec_cells hbox
  have HBOX := Lib.hid hbox
  have HV := Lib.hid hv
  clear hbox hv
  go_enter Try.func14, Try.ntmps14
  go_upto_region 1 with fail
  go_cut [21] (fun s21 wc => s21 = .bool (!preR o) ∧ wc.heap[w.heap.size]? = some (.cells (recA o (.slice ao o.moves.length cap)) 24 (0, 0)) ∧ Below w.heap.size w wc)
  case first =>
    cases hc : inR o.client 0 7
    · have r1 := fun w => rin_any o.client 0 7 w
      rw [hc] at r1
      have hp : preR o = false := by simp [preR, hc]
      have HP := Lib.hid hp
      clear hc hp
      go_quiet ((go_at_call 29; exact quiet_eq (r1 _)))
      go_wp2_with fail
      go_meet
      case rel => exact ⟨by rw [HP.out]; rfl, HBOX.out, below_drewN ((Below.refl _ _).alloc (Nat.le_refl _) _) _⟩
    cases hq : inR o.seq 1 2147483647
    · have r1 := fun w => rin_any o.client 0 7 w
      rw [hc] at r1
      have r2 := fun w => rin_any o.seq 1 2147483647 w
      rw [hq] at r2
      have hp : preR o = false := by simp [preR, hc, hq]
      have HP := Lib.hid hp
      clear hc hp hq
      go_quiet ((first | (go_at_call 29; with_reducible exact quiet_eq (r1 _)) | (go_at_call 29; with_reducible exact quiet_eq (r2 _))))
      go_wp2_with fail
      go_meet
      case rel => exact ⟨by rw [HP.out]; rfl, HBOX.out, below_drewN ((Below.refl _ _).alloc (Nat.le_refl _) _) _⟩
    · have r1 := fun w => rin_any o.client 0 7 w
      rw [hc] at r1
      have r2 := fun w => rin_any o.seq 1 2147483647 w
      rw [hq] at r2
      have hp : preR o = o.same (onlyR o) := by simp [preR, hc, hq]
      have HP := Lib.hid hp
      have HL1 := Lib.hid hl
      have HL2 := Lib.hid (only_len o hl)
      have HB0 := Lib.hid ((Below.refl w.heap.size w).alloc (Nat.le_refl _) (.cells (recA o (.slice ao o.moves.length cap)) 24)).drew
      have HVB := Lib.hid (HV.out.below ((Below.refl w.heap.size w).alloc (Nat.le_refl _) (.cells (recA o (.slice ao o.moves.length cap)) 24)))
      clear hc hp hq hl
      go_region_with (first | (go_at_call 29; ((with_reducible refine (r1 _).mono ?_); rintro e w' ⟨rfl, rfl⟩)) | (go_at_call 29; ((with_reducible refine (r2 _).mono ?_); rintro e w' ⟨rfl, rfl⟩)) | (go_at_call 19; refine (only_any o ao cap _ (hv_drew HVB.out)).mono ?_; rintro e w1 ⟨a1, p1, rfl, hv1, hb1⟩; have hx1 := below_heap hb1 HBOX.out; obtain ⟨x0, x1, x2, x3, x4, x5, x6, x7, x8, x9, x10, x11⟩ := rec_cells hx1; have HX1 := Lib.hid hx1; have HW1 := Lib.hid (HB0.out.trans (hb1.mono HB0.out.size)); have HV1 := Lib.hid (VLI.below (hv_drew HVB.out) hb1); have HQ1 := Lib.hid hv1; clear hx1 hb1 hv1) | (go_at_call 15; refine (op_any o (onlyR o) ao a1 cap p1 _ HL1.out HL2.out HV1.out.1 HQ1.out.1).mono ?_; rintro e w2 ⟨rfl, hb2⟩; have HX2 := Lib.hid (below_heap hb2 HX1.out); have HW2 := Lib.hid (HW1.out.trans (hb2.mono HW1.out.size)); clear hb2))
      all_goals go_wp2_with fail
      all_goals go_meet
      all_goals
        case rel => exact ⟨by rw [HP.out], HX2.out, HW2.out⟩
  case rest =>
    clear c0 c1 c2 c3 c4 c5 c6 c7 c8 c9 c10 c11 HBOX
    obtain ⟨rfl, hx, hb0⟩ := hcut
    obtain ⟨y0, y1, y2, y3, y4, y5, y6, y7, y8, y9, y10, y11⟩ := rec_cells hx
    have HZ := Lib.hid hz
    have hzd : (o.data.size : Int) ≤ 1000000 := by omega
    clear hz
    cases hp : preR o
    · have HF := Lib.hid (show goodO o = false by rw [good_pre, hp]; rfl)
      clear hp
      go_wp2_with fail
      go_ret
      rw [HF.out]
      exact ⟨rfl, hb0⟩
    have HG := Lib.hid (show goodO o = formR o by rw [good_pre, hp, Bool.true_and])
    clear hp
    rcases Decidable.em (o.kind = 1) with hk | n1
    · rw [hk] at y2
      have r1 := fun w => rgood_any o.path HZ.out.1 w
      have HF := Lib.hid (show goodO o = goodR o.path by rw [HG.out]; simp [formR, hk])
      clear hk 
      go_wp2_with (first | (go_at_call 30; ((with_reducible refine (r1 _).mono ?_); rintro e w2 ⟨rfl, hb2⟩; replace hb0 := hb0.trans (hb2.mono hb0.size); clear hb2)))
      go_ret
      rw [HF.out]
      exact ⟨rfl, hb0⟩
    rcases Decidable.em (o.kind = 2) with hk | n2
    · rw [hk] at y2
      have r1 := fun w => rgood_any o.path HZ.out.1 w
      have HF := Lib.hid (show goodO o = goodR o.path by rw [HG.out]; simp [formR, hk])
      clear hk 
      go_wp2_with (first | (go_at_call 30; ((with_reducible refine (r1 _).mono ?_); rintro e w2 ⟨rfl, hb2⟩; replace hb0 := hb0.trans (hb2.mono hb0.size); clear hb2)))
      go_ret
      rw [HF.out]
      exact ⟨rfl, hb0⟩
    rcases Decidable.em (o.kind = 3) with hk | n3
    · rw [hk] at y2
      have r1 := fun w => rgood_any o.path HZ.out.1 w
      have HF := Lib.hid (show goodO o = goodR o.path by rw [HG.out]; simp [formR, hk])
      clear hk 
      go_wp2_with (first | (go_at_call 30; ((with_reducible refine (r1 _).mono ?_); rintro e w2 ⟨rfl, hb2⟩; replace hb0 := hb0.trans (hb2.mono hb0.size); clear hb2)))
      go_ret
      rw [HF.out]
      exact ⟨rfl, hb0⟩
    rcases Decidable.em (o.kind = 5) with hk | n5
    · rw [hk] at y2
      have r1 := fun w => rgood_any o.path HZ.out.1 w
      have HF := Lib.hid (show goodO o = goodR o.path by rw [HG.out]; simp [formR, hk])
      clear hk 
      go_wp2_with (first | (go_at_call 30; ((with_reducible refine (r1 _).mono ?_); rintro e w2 ⟨rfl, hb2⟩; replace hb0 := hb0.trans (hb2.mono hb0.size); clear hb2)))
      go_ret
      rw [HF.out]
      exact ⟨rfl, hb0⟩
    rcases Decidable.em (o.kind = 8) with hk | n8
    · rw [hk] at y2
      have r1 := fun w => rgood_any o.path HZ.out.1 w
      have HF := Lib.hid (show goodO o = goodR o.path by rw [HG.out]; simp [formR, hk])
      clear hk 
      go_wp2_with (first | (go_at_call 30; ((with_reducible refine (r1 _).mono ?_); rintro e w2 ⟨rfl, hb2⟩; replace hb0 := hb0.trans (hb2.mono hb0.size); clear hb2)))
      go_ret
      rw [HF.out]
      exact ⟨rfl, hb0⟩
    rcases Decidable.em (o.kind = 4) with hk | n4
    · rw [hk] at y2
      have r1 := fun w => rgood_any o.path HZ.out.1 w
      cases hr1 : goodR o.path
      · rw [hr1] at r1
        have HF := Lib.hid (show goodO o = false by rw [HG.out]; simp [formR, hk, hr1])
        clear hk hr1
        go_wp2_with (first | (go_at_call 30; ((with_reducible refine (r1 _).mono ?_); rintro e w2 ⟨rfl, hb2⟩; replace hb0 := hb0.trans (hb2.mono hb0.size); clear hb2)))
        go_ret
        rw [HF.out]
        exact ⟨rfl, hb0⟩
      · rw [hr1] at r1
        have r2 := fun w => rgood_any o.dest HZ.out.2.1 w
        have HF := Lib.hid (show goodO o = goodR o.dest by rw [HG.out]; simp [formR, hk, hr1])
        clear hk hr1
        go_wp2_with (first | (go_at_call 30; ((with_reducible refine (r1 _).mono ?_); rintro e w2 ⟨rfl, hb2⟩; replace hb0 := hb0.trans (hb2.mono hb0.size); replace hx := below_heap hb2 hx; clear hb2; obtain ⟨y0, y1, y2, y3, y4, y5, y6, y7, y8, y9, y10, y11⟩ := rec_cells hx)) | (go_at_call 30; ((with_reducible refine (r2 _).mono ?_); rintro e w2 ⟨rfl, hb2⟩; replace hb0 := hb0.trans (hb2.mono hb0.size); clear hb2)))
        go_ret
        rw [HF.out]
        exact ⟨rfl, hb0⟩
    rcases Decidable.em (o.kind = 6) with hk | n6
    · rw [hk] at y2
      have r1 := fun w => rgood_any o.path HZ.out.1 w
      cases hr1 : goodR o.path
      · rw [hr1] at r1
        have HF := Lib.hid (show goodO o = false by rw [HG.out]; simp [formR, hk, hr1])
        clear hk hr1
        go_wp2_with (first | (go_at_call 30; ((with_reducible refine (r1 _).mono ?_); rintro e w2 ⟨rfl, hb2⟩; replace hb0 := hb0.trans (hb2.mono hb0.size); clear hb2)))
        go_ret
        rw [HF.out]
        exact ⟨rfl, hb0⟩
      · rw [hr1] at r1
        have r2 := fun w => rgood_any o.dest HZ.out.2.1 w
        have HF := Lib.hid (show goodO o = goodR o.dest by rw [HG.out]; simp [formR, hk, hr1])
        clear hk hr1
        go_wp2_with (first | (go_at_call 30; ((with_reducible refine (r1 _).mono ?_); rintro e w2 ⟨rfl, hb2⟩; replace hb0 := hb0.trans (hb2.mono hb0.size); replace hx := below_heap hb2 hx; clear hb2; obtain ⟨y0, y1, y2, y3, y4, y5, y6, y7, y8, y9, y10, y11⟩ := rec_cells hx)) | (go_at_call 30; ((with_reducible refine (r2 _).mono ?_); rintro e w2 ⟨rfl, hb2⟩; replace hb0 := hb0.trans (hb2.mono hb0.size); clear hb2)))
        go_ret
        rw [HF.out]
        exact ⟨rfl, hb0⟩
    rcases Decidable.em (o.kind = 7) with hk | n7
    · rw [hk] at y2
      have r1 := fun w => rgood_any o.path HZ.out.1 w
      cases hr1 : goodR o.path
      · rw [hr1] at r1
        have HF := Lib.hid (show goodO o = false by rw [HG.out]; simp [formR, hk, hr1])
        clear hk hr1
        go_wp2_with (first | (go_at_call 30; ((with_reducible refine (r1 _).mono ?_); rintro e w2 ⟨rfl, hb2⟩; replace hb0 := hb0.trans (hb2.mono hb0.size); clear hb2)))
        go_ret
        rw [HF.out]
        exact ⟨rfl, hb0⟩
      · rw [hr1] at r1
        have r2 := fun w => rin_any o.size 0 8192 w
        have HF := Lib.hid (show goodO o = inR o.size 0 8192 by rw [HG.out]; simp [formR, hk, hr1])
        clear hk hr1
        go_wp2_with (first | (go_at_call 30; ((with_reducible refine (r1 _).mono ?_); rintro e w2 ⟨rfl, hb2⟩; replace hb0 := hb0.trans (hb2.mono hb0.size); replace hx := below_heap hb2 hx; clear hb2; obtain ⟨y0, y1, y2, y3, y4, y5, y6, y7, y8, y9, y10, y11⟩ := rec_cells hx)) | (go_at_call 29; ((with_reducible refine (r2 _).mono ?_); rintro e w' ⟨rfl, rfl⟩)))
        go_ret
        rw [HF.out]
        exact ⟨rfl, hb0⟩
    rcases Decidable.em (o.kind = 9) with hk | n9
    · rw [hk] at y2
      have r1 := fun w => rin_any o.handle 0 16383 w
      have HF := Lib.hid (show goodO o = inR o.handle 0 16383 by rw [HG.out]; simp [formR, hk])
      clear hk 
      go_wp2_with (first | (go_at_call 29; ((with_reducible refine (r1 _).mono ?_); rintro e w' ⟨rfl, rfl⟩)))
      go_ret
      rw [HF.out]
      exact ⟨rfl, hb0⟩
    rcases Decidable.em (o.kind = 10) with hk | n10
    · rw [hk] at y2
      have r1 := fun w => rin_any o.handle 0 16383 w
      cases hr1 : inR o.handle 0 16383
      · rw [hr1] at r1
        have HF := Lib.hid (show goodO o = false by rw [HG.out]; simp [formR, hk, hr1])
        clear hk hr1
        go_wp2_with (first | (go_at_call 29; ((with_reducible refine (r1 _).mono ?_); rintro e w' ⟨rfl, rfl⟩)))
        go_ret
        rw [HF.out]
        exact ⟨rfl, hb0⟩
      · rw [hr1] at r1
        have r2 := fun w => rin_any o.off 0 8192 w
        cases hr2 : inR o.off 0 8192
        · rw [hr2] at r2
          have HF := Lib.hid (show goodO o = false by rw [HG.out]; simp [formR, hk, hr1, hr2])
          clear hk hr1 hr2
          go_wp2_with (first | (go_at_call 29; ((with_reducible refine (r1 _).mono ?_); rintro e w' ⟨rfl, rfl⟩)) | (go_at_call 29; ((with_reducible refine (r2 _).mono ?_); rintro e w' ⟨rfl, rfl⟩)))
          go_ret
          rw [HF.out]
          exact ⟨rfl, hb0⟩
        · rw [hr2] at r2
          have r3 := fun w => rin_any (o.data.size : Int) 1 1024 w
          have HF := Lib.hid (show goodO o = inR (o.data.size : Int) 1 1024 by rw [HG.out]; simp [formR, hk, hr1, hr2])
          clear hk hr1 hr2
          go_wp2_with (first | (go_at_call 29; ((with_reducible refine (r1 _).mono ?_); rintro e w' ⟨rfl, rfl⟩)) | (go_at_call 29; ((with_reducible refine (r2 _).mono ?_); rintro e w' ⟨rfl, rfl⟩)) | (go_at_call 29; ((with_reducible refine (r3 _).mono ?_); rintro e w' ⟨rfl, rfl⟩)))
          go_ret
          rw [HF.out]
          exact ⟨rfl, hb0⟩
    rcases Decidable.em (o.kind = 11) with hk | n11
    · rw [hk] at y2
      by_cases t1 : 0 ≤ o.tick
      · by_cases t2 : o.tick ≤ 1099511627776
        · have HF := Lib.hid (show goodO o = true by rw [HG.out]; simp [formR, inR, hk, t1, t2])
          clear hk
          go_wp2_with fail
          go_ret
          rw [HF.out]
          exact ⟨rfl, hb0⟩
        · have HF := Lib.hid (show goodO o = false by rw [HG.out]; simp [formR, inR, hk, t2])
          have e2 : decide (o.tick ≤ 1099511627776) = false := decide_eq_false t2
          clear hk t2
          go_wp2_with fail
          go_ret
          rw [HF.out]
          exact ⟨rfl, hb0⟩
      · have HF := Lib.hid (show goodO o = false by rw [HG.out]; simp [formR, inR, hk, t1])
        have e1 : decide (0 ≤ o.tick) = false := decide_eq_false t1
        clear hk t1
        go_wp2_with fail
        go_ret
        rw [HF.out]
        exact ⟨rfl, hb0⟩
    rcases Decidable.em (o.kind = 12) with hk | n12
    · rw [hk] at y2
      by_cases t1 : 0 ≤ o.tick
      · by_cases t2 : o.tick ≤ 1099511627776
        · have HF := Lib.hid (show goodO o = true by rw [HG.out]; simp [formR, inR, hk, t1, t2])
          clear hk
          go_wp2_with fail
          go_ret
          rw [HF.out]
          exact ⟨rfl, hb0⟩
        · have HF := Lib.hid (show goodO o = false by rw [HG.out]; simp [formR, inR, hk, t2])
          have e2 : decide (o.tick ≤ 1099511627776) = false := decide_eq_false t2
          clear hk t2
          go_wp2_with fail
          go_ret
          rw [HF.out]
          exact ⟨rfl, hb0⟩
      · have HF := Lib.hid (show goodO o = false by rw [HG.out]; simp [formR, inR, hk, t1])
        have e1 : decide (0 ≤ o.tick) = false := decide_eq_false t1
        clear hk t1
        go_wp2_with fail
        go_ret
        rw [HF.out]
        exact ⟨rfl, hb0⟩
    rcases Decidable.em (o.kind = 13) with hk | n13
    · rw [hk] at y2
      have r1 := fun w => rin_any o.ino 1 2147483647 w
      cases hr1 : inR o.ino 1 2147483647
      · rw [hr1] at r1
        have HF := Lib.hid (show goodO o = false by rw [HG.out]; simp [formR, hk, hr1])
        clear hk hr1
        go_wp2_with (first | (go_at_call 29; ((with_reducible refine (r1 _).mono ?_); rintro e w' ⟨rfl, rfl⟩)))
        go_ret
        rw [HF.out]
        exact ⟨rfl, hb0⟩
      rw [hr1] at r1
      have r2 := fun w => rin_any (o.moves.length : Int) 1 16 w
      cases hr2 : inR (o.moves.length : Int) 1 16
      · rw [hr2] at r2
        have HF := Lib.hid (show goodO o = false by rw [HG.out]; simp [formR, hk, hr1, hr2])
        clear hk hr1 hr2
        go_wp2_with (first | (go_at_call 29; ((with_reducible refine (r1 _).mono ?_); rintro e w' ⟨rfl, rfl⟩)) | (go_at_call 29; ((with_reducible refine (r2 _).mono ?_); rintro e w' ⟨rfl, rfl⟩)))
        go_ret
        rw [HF.out]
        exact ⟨rfl, hb0⟩
      rw [hr2] at r2
      by_cases t3 : (o.data.size : Int) ≤ 1024
      rotate_left
      · have HF := Lib.hid (show goodO o = false by rw [HG.out]; simp [formR, hk, hr1, hr2, t3])
        have e3 : (1024 : Int) < (o.data.size : Int) := by omega
        clear hk hr1 hr2 t3
        go_wp2_with (first | (go_at_call 29; ((with_reducible refine (r1 _).mono ?_); rintro e w' ⟨rfl, rfl⟩)) | (go_at_call 29; ((with_reducible refine (r2 _).mono ?_); rintro e w' ⟨rfl, rfl⟩)))
        go_ret
        rw [HF.out]
        exact ⟨rfl, hb0⟩
      have HF := Lib.hid (show goodO o = o.moves.all (mvGood o.data.size) by rw [HG.out]; simp [formR, hk, hr1, hr2, t3])
      have hm16 := (inR_iff.1 hr2).2
      have HX := Lib.hid hx
      have HB0 := Lib.hid hb0
      clear hk hr1 hr2
      go_wp2_with (first | (go_at_call 29; ((with_reducible refine (r1 _).mono ?_); rintro e w' ⟨rfl, rfl⟩)) | (go_at_call 29; ((with_reducible refine (r2 _).mono ?_); rintro e w' ⟨rfl, rfl⟩)))
      go_loopw [3] (fun i wr => ∃ k : Nat, i = .int .i64 k ∧ k ≤ o.moves.length ∧ Hid ((o.moves.take k).all (mvGood o.data.size) = true) ∧ Hid (wr.heap[w.heap.size]? = some (.cells (recA o (.slice ao o.moves.length cap)) 24 (0, 0)) ∧ Below w.heap.size w wr)) (fun i _ => o.moves.length - (intOf i).toNat)
      case atStart => exact ⟨0, rfl, Nat.zero_le _, Lib.hid (by simp), Lib.hid ⟨HX.out, HB0.out⟩⟩
      case round =>
        obtain ⟨k, rfl, hk, HT, HW⟩ := hrel
        clear y0 y1 y2 y3 y4 y5 y6 y7 y8 y9 y10 y11 hx hb0 r1 r2
        have y8 : wr.cell? ⟨w.heap.size, 8, none⟩ = some (.string o.data) := cell_of HW.out.1 8
        have y11 : wr.cell? ⟨w.heap.size, 11, none⟩ = some (Value.slice ao o.moves.length cap) := cell_of HW.out.1 11
        by_cases hlt : k < o.moves.length
        rotate_left
        · obtain rfl : k = o.moves.length := by omega
          have HT2 := Lib.hid (show o.moves.all (mvGood o.data.size) = true by have := HT.out; rwa [List.take_of_length_le (Nat.le_refl _)] at this)
          go_wp2_with fail
          go_ret
          rw [HF.out, HT2.out]
          exact ⟨rfl, HW.out.2⟩
        obtain ⟨bk, off, rfl, x0, x1, x2, x3⟩ := HV.out.1.below HW.out.2 k hlt
        have z1 := block_lt_of_cell y11
        have z3 := block_lt_of_cell x0
        simp only at z1 z3
        have HNO := Lib.hid (show mvGood o.data.size o.moves[k] = false → goodO o = false from fun e => by rw [HF.out]; exact mv_no hlt e)
        have HYES := Lib.hid (show mvGood o.data.size o.moves[k] = true → (o.moves.take (k + 1)).all (mvGood o.data.size) = true from fun e => mv_yes hlt HT.out e)
        have HWA := Lib.hid (fun (x : Obj) => show (wr.alloc x).heap[w.heap.size]? = some (.cells (recA o (.slice (some ⟨bk, off, none⟩) o.moves.length cap)) 24 (0, 0)) ∧ Below w.heap.size w (wr.alloc x) from ⟨below_heap ((Below.refl _ _).alloc (Nat.le_refl _) _) HW.out.1, HW.out.2.alloc HW.out.2.size _⟩)
        generalize hmv : o.moves[k] = m at *
        have q1 := fun w => rin_any m.addr 0 16383 w
        cases hq1 : inR m.addr 0 16383
        · rw [hq1] at q1
          have HN := Lib.hid (HNO.out (by simp [mvGood, hq1]))
          clear hq1
          go_wp2_with (first | (go_at_call 29; ((with_reducible refine (q1 _).mono ?_); rintro e w' ⟨rfl, rfl⟩)))
          go_ret
          rw [HN.out]
          exact ⟨rfl, (HWA.out _).2⟩
        rw [hq1] at q1
        have q2 := fun w => rin_any m.src 0 1024 w
        cases hq2 : inR m.src 0 1024
        · rw [hq2] at q2
          have HN := Lib.hid (HNO.out (by simp [mvGood, hq1, hq2]))
          clear hq1 hq2
          go_wp2_with (first | (go_at_call 29; ((with_reducible refine (q1 _).mono ?_); rintro e w' ⟨rfl, rfl⟩)) | (go_at_call 29; ((with_reducible refine (q2 _).mono ?_); rintro e w' ⟨rfl, rfl⟩)))
          go_ret
          rw [HN.out]
          exact ⟨rfl, (HWA.out _).2⟩
        rw [hq2] at q2
        have q3 := fun w => rin_any m.len 1 1024 w
        cases hq3 : inR m.len 1 1024
        · rw [hq3] at q3
          have HN := Lib.hid (HNO.out (by simp [mvGood, hq1, hq2, hq3]))
          clear hq1 hq2 hq3
          go_wp2_with (first | (go_at_call 29; ((with_reducible refine (q1 _).mono ?_); rintro e w' ⟨rfl, rfl⟩)) | (go_at_call 29; ((with_reducible refine (q2 _).mono ?_); rintro e w' ⟨rfl, rfl⟩)) | (go_at_call 29; ((with_reducible refine (q3 _).mono ?_); rintro e w' ⟨rfl, rfl⟩)))
          go_ret
          rw [HN.out]
          exact ⟨rfl, (HWA.out _).2⟩
        rw [hq3] at q3
        have q4 := fun w => rin_any m.dst 0 1024 w
        cases hq4 : inR m.dst 0 1024
        · rw [hq4] at q4
          have HN := Lib.hid (HNO.out (by simp [mvGood, hq1, hq2, hq3, hq4]))
          clear hq1 hq2 hq3 hq4
          go_wp2_with (first | (go_at_call 29; ((with_reducible refine (q1 _).mono ?_); rintro e w' ⟨rfl, rfl⟩)) | (go_at_call 29; ((with_reducible refine (q2 _).mono ?_); rintro e w' ⟨rfl, rfl⟩)) | (go_at_call 29; ((with_reducible refine (q3 _).mono ?_); rintro e w' ⟨rfl, rfl⟩)) | (go_at_call 29; ((with_reducible refine (q4 _).mono ?_); rintro e w' ⟨rfl, rfl⟩)))
          go_ret
          rw [HN.out]
          exact ⟨rfl, (HWA.out _).2⟩
        rw [hq4] at q4
        obtain ⟨i31, i32⟩ := inR_iff.1 hq3
        obtain ⟨i41, i42⟩ := inR_iff.1 hq4
        by_cases t5 : m.dst + m.len ≤ (o.data.size : Int)
        · have HN := Lib.hid (HYES.out (by simp [mvGood, hq1, hq2, hq3, hq4, t5]))
          clear hq1 hq2 hq3 hq4
          go_wp2_with (first | (go_at_call 29; ((with_reducible refine (q1 _).mono ?_); rintro e w' ⟨rfl, rfl⟩)) | (go_at_call 29; ((with_reducible refine (q2 _).mono ?_); rintro e w' ⟨rfl, rfl⟩)) | (go_at_call 29; ((with_reducible refine (q3 _).mono ?_); rintro e w' ⟨rfl, rfl⟩)) | (go_at_call 29; ((with_reducible refine (q4 _).mono ?_); rintro e w' ⟨rfl, rfl⟩)))
          go_roundw
          case rel => exact ⟨k + 1, by go_num, by omega, HN, Lib.hid (HWA.out _)⟩
          case measure => simp [intOf]; omega
        · have HN := Lib.hid (HNO.out (by simp [mvGood, t5]))
          have t6 : (o.data.size : Int) < m.dst + m.len := by omega
          clear hq1 hq2 hq3 hq4 t5
          go_wp2_with (first | (go_at_call 29; ((with_reducible refine (q1 _).mono ?_); rintro e w' ⟨rfl, rfl⟩)) | (go_at_call 29; ((with_reducible refine (q2 _).mono ?_); rintro e w' ⟨rfl, rfl⟩)) | (go_at_call 29; ((with_reducible refine (q3 _).mono ?_); rintro e w' ⟨rfl, rfl⟩)) | (go_at_call 29; ((with_reducible refine (q4 _).mono ?_); rintro e w' ⟨rfl, rfl⟩)))
          go_ret
          rw [HN.out]
          exact ⟨rfl, (HWA.out _).2⟩
    rcases Decidable.em (o.kind = 14) with hk | n14
    · rw [hk] at y2
      have r1 := fun w => rin_any (o.data.size : Int) 1 1024 w
      cases hr1 : inR (o.data.size : Int) 1 1024
      · rw [hr1] at r1
        have HF := Lib.hid (show goodO o = false by rw [HG.out]; simp [formR, hk, hr1])
        clear hk hr1
        go_wp2_with (first | (go_at_call 29; ((with_reducible refine (r1 _).mono ?_); rintro e w' ⟨rfl, rfl⟩)))
        go_ret
        rw [HF.out]
        exact ⟨rfl, hb0⟩
      rw [hr1] at r1
      have r2 := fun w => rin_any o.size 1 65536 w
      cases hr2 : inR o.size 1 65536
      · rw [hr2] at r2
        have HF := Lib.hid (show goodO o = false by rw [HG.out]; simp [formR, hk, hr1, hr2])
        clear hk hr1 hr2
        go_wp2_with (first | (go_at_call 29; ((with_reducible refine (r1 _).mono ?_); rintro e w' ⟨rfl, rfl⟩)) | (go_at_call 29; ((with_reducible refine (r2 _).mono ?_); rintro e w' ⟨rfl, rfl⟩)))
        go_ret
        rw [HF.out]
        exact ⟨rfl, hb0⟩
      rw [hr2] at r2
      have r3 := fun w => rin_any o.off 0 o.size w
      cases hr3 : inR o.off 0 o.size
      · rw [hr3] at r3
        have HF := Lib.hid (show goodO o = false by rw [HG.out]; simp [formR, hk, hr1, hr2, hr3])
        clear hk hr1 hr2 hr3
        go_wp2_with (first | (go_at_call 29; ((with_reducible refine (r1 _).mono ?_); rintro e w' ⟨rfl, rfl⟩)) | (go_at_call 29; ((with_reducible refine (r2 _).mono ?_); rintro e w' ⟨rfl, rfl⟩)) | (go_at_call 29; ((with_reducible refine (r3 _).mono ?_); rintro e w' ⟨rfl, rfl⟩)))
        go_ret
        rw [HF.out]
        exact ⟨rfl, hb0⟩
      rw [hr3] at r3
      have i1 := inR_iff.1 hr1
      have i2 := inR_iff.1 hr2
      have i3 := inR_iff.1 hr3
      obtain ⟨i11, i12⟩ := i1
      obtain ⟨i21, i22⟩ := i2
      obtain ⟨i31, i32⟩ := i3
      by_cases t4 : o.off + (o.data.size : Int) ≤ o.size
      · have HF := Lib.hid (show goodO o = true by rw [HG.out]; simp [formR, hk, hr1, hr2, hr3, t4])
        clear hk hr1 hr2 hr3
        go_wp2_with (first | (go_at_call 29; ((with_reducible refine (r1 _).mono ?_); rintro e w' ⟨rfl, rfl⟩)) | (go_at_call 29; ((with_reducible refine (r2 _).mono ?_); rintro e w' ⟨rfl, rfl⟩)) | (go_at_call 29; ((with_reducible refine (r3 _).mono ?_); rintro e w' ⟨rfl, rfl⟩)))
        go_ret
        rw [HF.out]
        exact ⟨rfl, hb0⟩
      · have HF := Lib.hid (show goodO o = false by rw [HG.out]; simp [formR, hk, hr1, hr2, hr3, t4])
        have e4 : decide (o.off + (o.data.size : Int) ≤ o.size) = false := decide_eq_false t4
        clear hk hr1 hr2 hr3 t4
        go_wp2_with (first | (go_at_call 29; ((with_reducible refine (r1 _).mono ?_); rintro e w' ⟨rfl, rfl⟩)) | (go_at_call 29; ((with_reducible refine (r2 _).mono ?_); rintro e w' ⟨rfl, rfl⟩)) | (go_at_call 29; ((with_reducible refine (r3 _).mono ?_); rintro e w' ⟨rfl, rfl⟩)))
        go_ret
        rw [HF.out]
        exact ⟨rfl, hb0⟩
    have HF := Lib.hid (show goodO o = false by rw [HG.out]; simp [formR, n1, n2, n3, n4, n5, n6, n7, n8, n9, n10, n11, n12, n13, n14])
    have e1 := beq_eq_false_iff_ne.2 n1
    have e2 := beq_eq_false_iff_ne.2 n2
    have e3 := beq_eq_false_iff_ne.2 n3
    have e4 := beq_eq_false_iff_ne.2 n4
    have e5 := beq_eq_false_iff_ne.2 n5
    have e6 := beq_eq_false_iff_ne.2 n6
    have e7 := beq_eq_false_iff_ne.2 n7
    have e8 := beq_eq_false_iff_ne.2 n8
    have e9 := beq_eq_false_iff_ne.2 n9
    have e10 := beq_eq_false_iff_ne.2 n10
    have e11 := beq_eq_false_iff_ne.2 n11
    have e12 := beq_eq_false_iff_ne.2 n12
    have e13 := beq_eq_false_iff_ne.2 n13
    have e14 := beq_eq_false_iff_ne.2 n14
    clear n1 n2 n3 n4 n5 n6 n7 n8 n9 n10 n11 n12 n13 n14
    go_wp2_with fail
    go_ret
    rw [HF.out]
    exact ⟨rfl, hb0⟩
end Go.Proofs.Ythileemkiplodaa
