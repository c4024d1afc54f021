/- What fieldsOf tells, by the makers of fields (written by gen/genfo.py). Conditions: the record's cells lie where the call was told. What fieldsOf tells, by the makers of fields (written by gen/genfo.py). Conditions: the record's cells lie where the call was told. -/
import Derived.Test.YthileemkiplodaaGo
import Derived.Test.YthileemkiplodaaGn
import Derived.Test.YthileemkiplodaaGg
set_option linter.unusedVariables false
namespace Go.Proofs.Ythileemkiplodaa
open Go.RowKit
set_option maxRecDepth 20000

set_option maxHeartbeats 2000000 in
theorem fo_tick (b k : Nat) (w : World) (hk : k < 15) (hf : ∀ q h d r, (kindsA q h d r)[k]? = some (.func (.func 58) #[] #[ptr q])) (c2 : w.cell? ⟨b, 2, none⟩ = some (.int .i64 (k : Int))) :
    Calls Try.prog 20 #[ptr b] w (FoTells w b (fun l => headD ++ [.tick 9 8 0 1099511627776])) := by
  have ck := kinds_any b
  have HI := Lib.hid (show (Try.prog.info? 70).map (·.size) = some 15 by kernel_rfl)
  have k0 : (k : Int) < 15 := by omega
  have k1 : (0 : Int) ≤ k := by omega
  have hEq : ∀ (q : Nat) (w : World), (binOp BinOp.eql 69 (.func (.func 58) #[] #[ptr q]) .nilFunc).run Try.prog w = .ok (.bool false) w := fun _ _ => rfl
  clear hk
  go_enter Try.func20, Try.ntmps20
  go_wp2_with (first | (go_at_call 40; refine (ck _).mono ?_; rintro e w1 ⟨q, h, d, r, rfl, hq, hh, hd, hr, hb1⟩; have hA := hf q h d r; have HS := Lib.hid (kindsA_size q h d r); have HO := Lib.hid (kindsA_one q h d r); clear hf; generalize kindsA q h d r = A at *) | (refine wpList_store_row (o := ⟨none, _, _, _, _, _⟩) ?a1 70 (.tmp 4) (.tmp 7) ?a2 w1.heap.size A ?a3 ?a4 70 (.replicate 15 .nilFunc) (heap_alloc_new w1 _) (by rw [HS.out]; exact HI.out) (by rw [HS.out]; rfl) HO.out ?a5; (case a1 => rfl); (case a2 => rfl); (case a3 => rfl); (case a4 => rfl); generalize hW2 : World.setRow _ _ _ = w2; have hA2 : w2.heap[w1.heap.size]? = some (.cells A 70 (0, 0)) := by {rw [← hW2]; exact setRow_heap _ _ _ _ _ _ (heap_alloc_new w1 _)}; have HB2 : Below w.heap.size w w2 := by {rw [← hW2]; exact setRow_below (hb1.alloc hb1.size _) hb1.size _}; have HB12 : Below w1.heap.size w1 w2 := by {rw [← hW2]; exact setRow_below ((Below.refl _ _).alloc (Nat.le_refl _) _) (Nat.le_refl _) _}; have cA : w2.cell? ⟨w1.heap.size, k, none⟩ = some (.func (.func 58) #[] #[ptr q]) := (cell_of hA2 k).trans hA; have d2 := cellB HB2 (block_lt_of_cell c2) c2; clear hW2 hA2))
  have HQ := Lib.hid hq
  have HH := Lib.hid hh
  have HDD := Lib.hid hd
  have HR := Lib.hid hr
  clear hq hh hd hr
  refine wp_region_still_tail 8 (by kernel_rfl) (by kernel_rfl) ?_
  simp only [List.take_succ_cons, List.take_zero, List.drop_succ_cons, List.drop_zero]
  change wpStill _ _ w2.drew (fun a' => wpList _ _ _ _ a' w2.drew) _ _
  repeat (first | (still_call (within_any _ _ _ _ _ _)) | still_step)
  refine wpStill_nil ?_
  unfold numF
  have cr : ∀ w, w.cell? ⟨q, 0, none⟩ = some (ptr b) → Calls Try.prog 58 #[ptr q] w fun e w' => ∃ l v, e = .returned v ∧ OL w' w.heap.size v [tickF b 9 8 0 1099511627776] ∧ True ∧ Below w.heap.size w w' := fun w hq => (tick_any q b w hq).mono fun _ _ ⟨he, hw⟩ => ⟨0, _, he, by rw [hw]; exact OL.new (M := #[_]) (heap_alloc_new _ _) (Nat.le_refl _) (Nat.le_of_ble_eq_true rfl), trivial, by rw [hw]; exact (Below.refl _ _).alloc (Nat.le_refl _) _⟩
  have HD : Below w.heap.size w w2.drew := HB2.drew
  have HD1 : Below w1.heap.size w1 w2.drew := HB12.drew
  have e2 : w2.drew.cell? ⟨b, 2, none⟩ = some (.int .i64 (k : Int)) := d2
  have eA : w2.drew.cell? ⟨w1.heap.size, k, none⟩ = some (.func (.func 58) #[] #[ptr q]) := cA
  clear c2 d2 cA HB12 HB2
  generalize w2.drew = w3 at *
  have e2' := fun x => cell_new e2 x
  have eA' := fun x => cell_new eA x
  have HN := Lib.hid (fun (x y : Value) => OL.new (M := #[x, y]) (heap_alloc_new w3 (.cells #[x, y] 57)) HD.size (Nat.le_of_ble_eq_true rfl))
  have HA := Lib.hid (fun (x : Obj) => HD.alloc HD.size x)
  have HX := Lib.hid (fun (x : Obj) => show Below w1.heap.size w1 (w3.alloc x) from HD1.alloc HD1.size x)
  have HDS := Lib.hid HD.size
  clear HD HD1 hb1
  go_wp2_with (first | (go_at_call 58; refine (cr _ (cellB (HX.out _) (block_lt_of_cell HQ.out) HQ.out)).mono ?_; rintro e w4 ⟨l, v, rfl, hv, hdf, hb4⟩; have ho4 := (HN.out _ _).below hb4; have hb4 := (HA.out _).trans (hb4.mono (HA.out _).size)) | (refine wpList_append_ol (o := ⟨some 46, _, _, _, _, _⟩) ?b1 (.tmp 38) (.tmp 45) ?b2 w.heap.size _ _ v _ _ ?b3 ho4 ?b4 hv ?b5 ?b6 ?b7 hb4.size ?b8; (case b1 => rfl); (case b2 => rfl); (case b3 => rfl); (case b4 => rfl); (case b5 => exact List.cons_ne_nil _ _); (case b6 => intro u hu; simp only [List.mem_cons, List.not_mem_nil, or_false] at hu; rcases hu with rfl <;> rfl); (case b7 => exact Nat.le_of_ble_eq_true rfl); intro v5 w5 ho5 hg5))
  go_ret2
  refine ⟨l, v5, rfl, ho5, ?_, hb4.grown hg5 hb4.size (fun k hk => by cases hk; exact HDS.out)⟩
  intro j l' y hm
  exfalso
  simp [headD] at hm

set_option maxHeartbeats 2000000 in
theorem fo_write (b k : Nat) (w : World) (hk : k < 15) (hf : ∀ q h d r, (kindsA q h d r)[k]? = some (.func (.func 62) #[] #[ptr h, ptr q, ptr d])) (c2 : w.cell? ⟨b, 2, none⟩ = some (.int .i64 (k : Int))) :
    Calls Try.prog 20 #[ptr b] w (FoTells w b (fun l => headD ++ [.num 6 4 0 16383, .num 7 4 0 8192, .data 8 l 1])) := by
  have ck := kinds_any b
  have HI := Lib.hid (show (Try.prog.info? 70).map (·.size) = some 15 by kernel_rfl)
  have k0 : (k : Int) < 15 := by omega
  have k1 : (0 : Int) ≤ k := by omega
  have hEq : ∀ (h q d : Nat) (w : World), (binOp BinOp.eql 69 (.func (.func 62) #[] #[ptr h, ptr q, ptr d]) .nilFunc).run Try.prog w = .ok (.bool false) w := fun _ _ _ _ => rfl
  clear hk
  go_enter Try.func20, Try.ntmps20
  go_wp2_with (first | (go_at_call 40; refine (ck _).mono ?_; rintro e w1 ⟨q, h, d, r, rfl, hq, hh, hd, hr, hb1⟩; have hA := hf q h d r; have HS := Lib.hid (kindsA_size q h d r); have HO := Lib.hid (kindsA_one q h d r); clear hf; generalize kindsA q h d r = A at *) | (refine wpList_store_row (o := ⟨none, _, _, _, _, _⟩) ?a1 70 (.tmp 4) (.tmp 7) ?a2 w1.heap.size A ?a3 ?a4 70 (.replicate 15 .nilFunc) (heap_alloc_new w1 _) (by rw [HS.out]; exact HI.out) (by rw [HS.out]; rfl) HO.out ?a5; (case a1 => rfl); (case a2 => rfl); (case a3 => rfl); (case a4 => rfl); generalize hW2 : World.setRow _ _ _ = w2; have hA2 : w2.heap[w1.heap.size]? = some (.cells A 70 (0, 0)) := by {rw [← hW2]; exact setRow_heap _ _ _ _ _ _ (heap_alloc_new w1 _)}; have HB2 : Below w.heap.size w w2 := by {rw [← hW2]; exact setRow_below (hb1.alloc hb1.size _) hb1.size _}; have HB12 : Below w1.heap.size w1 w2 := by {rw [← hW2]; exact setRow_below ((Below.refl _ _).alloc (Nat.le_refl _) _) (Nat.le_refl _) _}; have cA : w2.cell? ⟨w1.heap.size, k, none⟩ = some (.func (.func 62) #[] #[ptr h, ptr q, ptr d]) := (cell_of hA2 k).trans hA; have d2 := cellB HB2 (block_lt_of_cell c2) c2; clear hW2 hA2))
  have HQ := Lib.hid hq
  have HH := Lib.hid hh
  have HDD := Lib.hid hd
  have HR := Lib.hid hr
  clear hq hh hd hr
  refine wp_region_still_tail 8 (by kernel_rfl) (by kernel_rfl) ?_
  simp only [List.take_succ_cons, List.take_zero, List.drop_succ_cons, List.drop_zero]
  change wpStill _ _ w2.drew (fun a' => wpList _ _ _ _ a' w2.drew) _ _
  repeat (first | (still_call (within_any _ _ _ _ _ _)) | still_step)
  refine wpStill_nil ?_
  unfold numF
  have cr : ∀ w, w.cell? ⟨q, 0, none⟩ = some (ptr b) → w.cell? ⟨h, 0, none⟩ = some (handleFn q) → w.cell? ⟨d, 0, none⟩ = some (dataFn q) → Calls Try.prog 62 #[ptr h, ptr q, ptr d] w fun e w' => ∃ l v, e = .returned v ∧ OL w' w.heap.size v [numF b 6 4 0 16383, numF b 7 4 0 8192, dataF b 8 l] ∧ (w'.cell? ⟨l, 0, none⟩ = some (.int .i64 1) ∧ w.heap.size ≤ l) ∧ Below w.heap.size w w' := fun w hq hh hd => (write_any q b h d w hh hd hq).mono fun _ _ ⟨l, v, he, ho, hc, hl, hb⟩ => ⟨l, v, he, ho, ⟨hc, hl⟩, hb⟩
  have HD : Below w.heap.size w w2.drew := HB2.drew
  have HD1 : Below w1.heap.size w1 w2.drew := HB12.drew
  have e2 : w2.drew.cell? ⟨b, 2, none⟩ = some (.int .i64 (k : Int)) := d2
  have eA : w2.drew.cell? ⟨w1.heap.size, k, none⟩ = some (.func (.func 62) #[] #[ptr h, ptr q, ptr d]) := cA
  clear c2 d2 cA HB12 HB2
  generalize w2.drew = w3 at *
  have e2' := fun x => cell_new e2 x
  have eA' := fun x => cell_new eA x
  have HN := Lib.hid (fun (x y : Value) => OL.new (M := #[x, y]) (heap_alloc_new w3 (.cells #[x, y] 57)) HD.size (Nat.le_of_ble_eq_true rfl))
  have HA := Lib.hid (fun (x : Obj) => HD.alloc HD.size x)
  have HX := Lib.hid (fun (x : Obj) => show Below w1.heap.size w1 (w3.alloc x) from HD1.alloc HD1.size x)
  have HDS := Lib.hid HD.size
  clear HD HD1 hb1
  go_wp2_with (first | (go_at_call 62; refine (cr _ (cellB (HX.out _) (block_lt_of_cell HQ.out) HQ.out) (cellB (HX.out _) (block_lt_of_cell HH.out) HH.out) (cellB (HX.out _) (block_lt_of_cell HDD.out) HDD.out)).mono ?_; rintro e w4 ⟨l, v, rfl, hv, hdf, hb4⟩; have ho4 := (HN.out _ _).below hb4; have hb4 := (HA.out _).trans (hb4.mono (HA.out _).size)) | (refine wpList_append_ol (o := ⟨some 46, _, _, _, _, _⟩) ?b1 (.tmp 38) (.tmp 45) ?b2 w.heap.size _ _ v _ _ ?b3 ho4 ?b4 hv ?b5 ?b6 ?b7 hb4.size ?b8; (case b1 => rfl); (case b2 => rfl); (case b3 => rfl); (case b4 => rfl); (case b5 => exact List.cons_ne_nil _ _); (case b6 => intro u hu; simp only [List.mem_cons, List.not_mem_nil, or_false] at hu; rcases hu with rfl | rfl | rfl <;> rfl); (case b7 => exact Nat.le_of_ble_eq_true rfl); intro v5 w5 ho5 hg5))
  go_ret2
  refine ⟨l, v5, rfl, ho5, ?_, hb4.grown hg5 hb4.size (fun k hk => by cases hk; exact HDS.out)⟩
  intro j l' y hm
  have hm' : j = 8 ∧ l' = l ∧ y = 1 := by simpa [headD] using hm
  obtain ⟨rfl, rfl, rfl⟩ := hm'
  have hk5 : Kept (fun k => k ≠ w3.heap.size) w4 w5 := (Kept.refl _ _).grown hg5 (fun k hk => by cases hk; simp)
  have hl3 : w3.heap.size + 1 ≤ l' := by have := hdf.2; rwa [sz_alloc] at this
  exact ⟨(World.cell?_of_block (hk5.block l' (by omega) (block_lt_of_cell hdf.1))).trans hdf.1, by have := HDS.out; omega⟩
end Go.Proofs.Ythileemkiplodaa
namespace Go.Proofs.Ythileemkiplodaa
open Go.RowKit
set_option maxRecDepth 20000

set_option maxHeartbeats 2000000 in
theorem fo_move (b k : Nat) (x : ByteArray) (w : World) (hk : k < 15) (hf : ∀ q h d r, (kindsA q h d r)[k]? = some (.func (.func 63) #[] #[ptr q, ptr d])) (c2 : w.cell? ⟨b, 2, none⟩ = some (.int .i64 (k : Int))) (c8 : w.cell? ⟨b, 8, none⟩ = some (.string x)) :
    Calls Try.prog 20 #[ptr b] w (FoTells w b (fun l => headD ++ [.num 10 4 1 2147483647, .mvs 11 x.size, .data 8 l 0])) := by
  have ck := kinds_any b
  have HI := Lib.hid (show (Try.prog.info? 70).map (·.size) = some 15 by kernel_rfl)
  have k0 : (k : Int) < 15 := by omega
  have k1 : (0 : Int) ≤ k := by omega
  have hEq : ∀ (q d : Nat) (w : World), (binOp BinOp.eql 69 (.func (.func 63) #[] #[ptr q, ptr d]) .nilFunc).run Try.prog w = .ok (.bool false) w := fun _ _ _ => rfl
  clear hk
  go_enter Try.func20, Try.ntmps20
  go_wp2_with (first | (go_at_call 40; refine (ck _).mono ?_; rintro e w1 ⟨q, h, d, r, rfl, hq, hh, hd, hr, hb1⟩; have hA := hf q h d r; have HS := Lib.hid (kindsA_size q h d r); have HO := Lib.hid (kindsA_one q h d r); clear hf; generalize kindsA q h d r = A at *) | (refine wpList_store_row (o := ⟨none, _, _, _, _, _⟩) ?a1 70 (.tmp 4) (.tmp 7) ?a2 w1.heap.size A ?a3 ?a4 70 (.replicate 15 .nilFunc) (heap_alloc_new w1 _) (by rw [HS.out]; exact HI.out) (by rw [HS.out]; rfl) HO.out ?a5; (case a1 => rfl); (case a2 => rfl); (case a3 => rfl); (case a4 => rfl); generalize hW2 : World.setRow _ _ _ = w2; have hA2 : w2.heap[w1.heap.size]? = some (.cells A 70 (0, 0)) := by {rw [← hW2]; exact setRow_heap _ _ _ _ _ _ (heap_alloc_new w1 _)}; have HB2 : Below w.heap.size w w2 := by {rw [← hW2]; exact setRow_below (hb1.alloc hb1.size _) hb1.size _}; have HB12 : Below w1.heap.size w1 w2 := by {rw [← hW2]; exact setRow_below ((Below.refl _ _).alloc (Nat.le_refl _) _) (Nat.le_refl _) _}; have cA : w2.cell? ⟨w1.heap.size, k, none⟩ = some (.func (.func 63) #[] #[ptr q, ptr d]) := (cell_of hA2 k).trans hA; have d2 := cellB HB2 (block_lt_of_cell c2) c2; clear hW2 hA2))
  have HQ := Lib.hid hq
  have HH := Lib.hid hh
  have HDD := Lib.hid hd
  have HR := Lib.hid hr
  clear hq hh hd hr
  refine wp_region_still_tail 8 (by kernel_rfl) (by kernel_rfl) ?_
  simp only [List.take_succ_cons, List.take_zero, List.drop_succ_cons, List.drop_zero]
  change wpStill _ _ w2.drew (fun a' => wpList _ _ _ _ a' w2.drew) _ _
  repeat (first | (still_call (within_any _ _ _ _ _ _)) | still_step)
  refine wpStill_nil ?_
  unfold numF
  have cr : ∀ w, w.cell? ⟨q, 0, none⟩ = some (ptr b) → w.cell? ⟨d, 0, none⟩ = some (dataFn q) → w.cell? ⟨b, 8, none⟩ = some (.string x) → Calls Try.prog 63 #[ptr q, ptr d] w fun e w' => ∃ l v, e = .returned v ∧ OL w' w.heap.size v [numF b 10 4 1 2147483647, mvsF b 11 x.size, dataF b 8 l] ∧ (w'.cell? ⟨l, 0, none⟩ = some (.int .i64 0) ∧ w.heap.size ≤ l) ∧ Below w.heap.size w w' := fun w hq hd h8 => (move_any q b d x w hd hq h8).mono fun _ _ ⟨l, v, he, ho, hc, hl, hb⟩ => ⟨l, v, he, ho, ⟨hc, hl⟩, hb⟩
  have HD : Below w.heap.size w w2.drew := HB2.drew
  have HD1 : Below w1.heap.size w1 w2.drew := HB12.drew
  have e2 : w2.drew.cell? ⟨b, 2, none⟩ = some (.int .i64 (k : Int)) := d2
  have eA : w2.drew.cell? ⟨w1.heap.size, k, none⟩ = some (.func (.func 63) #[] #[ptr q, ptr d]) := cA
  clear c2 d2 cA HB12 HB2
  generalize w2.drew = w3 at *
  have e2' := fun x => cell_new e2 x
  have eA' := fun x => cell_new eA x
  have HN := Lib.hid (fun (x y : Value) => OL.new (M := #[x, y]) (heap_alloc_new w3 (.cells #[x, y] 57)) HD.size (Nat.le_of_ble_eq_true rfl))
  have HA := Lib.hid (fun (x : Obj) => HD.alloc HD.size x)
  have HX := Lib.hid (fun (x : Obj) => show Below w1.heap.size w1 (w3.alloc x) from HD1.alloc HD1.size x)
  have HDS := Lib.hid HD.size
  have H8 := Lib.hid (fun (x : Obj) => cellB (HA.out x) (block_lt_of_cell c8) c8)
  clear c8
  clear HD HD1 hb1
  go_wp2_with (first | (go_at_call 63; refine (cr _ (cellB (HX.out _) (block_lt_of_cell HQ.out) HQ.out) (cellB (HX.out _) (block_lt_of_cell HDD.out) HDD.out) (H8.out _)).mono ?_; rintro e w4 ⟨l, v, rfl, hv, hdf, hb4⟩; have ho4 := (HN.out _ _).below hb4; have hb4 := (HA.out _).trans (hb4.mono (HA.out _).size)) | (refine wpList_append_ol (o := ⟨some 46, _, _, _, _, _⟩) ?b1 (.tmp 38) (.tmp 45) ?b2 w.heap.size _ _ v _ _ ?b3 ho4 ?b4 hv ?b5 ?b6 ?b7 hb4.size ?b8; (case b1 => rfl); (case b2 => rfl); (case b3 => rfl); (case b4 => rfl); (case b5 => exact List.cons_ne_nil _ _); (case b6 => intro u hu; simp only [List.mem_cons, List.not_mem_nil, or_false] at hu; rcases hu with rfl | rfl | rfl <;> rfl); (case b7 => exact Nat.le_of_ble_eq_true rfl); intro v5 w5 ho5 hg5))
  go_ret2
  refine ⟨l, v5, rfl, ho5, ?_, hb4.grown hg5 hb4.size (fun k hk => by cases hk; exact HDS.out)⟩
  intro j l' y hm
  have hm' : j = 8 ∧ l' = l ∧ y = 0 := by simpa [headD] using hm
  obtain ⟨rfl, rfl, rfl⟩ := hm'
  have hk5 : Kept (fun k => k ≠ w3.heap.size) w4 w5 := (Kept.refl _ _).grown hg5 (fun k hk => by cases hk; simp)
  have hl3 : w3.heap.size + 1 ≤ l' := by have := hdf.2; rwa [sz_alloc] at this
  exact ⟨(World.cell?_of_block (hk5.block l' (by omega) (block_lt_of_cell hdf.1))).trans hdf.1, by have := HDS.out; omega⟩

set_option maxHeartbeats 2000000 in
theorem fo_image (b k : Nat) (x : ByteArray) (sz : Int) (w : World) (hk : k < 15) (hf : ∀ q h d r, (kindsA q h d r)[k]? = some (.func (.func 64) #[] #[ptr q, ptr d])) (c2 : w.cell? ⟨b, 2, none⟩ = some (.int .i64 (k : Int))) (c8 : w.cell? ⟨b, 8, none⟩ = some (.string x)) (c5 : w.cell? ⟨b, 5, none⟩ = some (.int .i64 sz)) :
    Calls Try.prog 20 #[ptr b] w (FoTells w b (fun l => headD ++ [.data 8 l 1, .num 5 4 1 65536, .num 7 4 0 (wrap64 (sz - x.size))])) := by
  have ck := kinds_any b
  have HI := Lib.hid (show (Try.prog.info? 70).map (·.size) = some 15 by kernel_rfl)
  have k0 : (k : Int) < 15 := by omega
  have k1 : (0 : Int) ≤ k := by omega
  have hEq : ∀ (q d : Nat) (w : World), (binOp BinOp.eql 69 (.func (.func 64) #[] #[ptr q, ptr d]) .nilFunc).run Try.prog w = .ok (.bool false) w := fun _ _ _ => rfl
  clear hk
  go_enter Try.func20, Try.ntmps20
  go_wp2_with (first | (go_at_call 40; refine (ck _).mono ?_; rintro e w1 ⟨q, h, d, r, rfl, hq, hh, hd, hr, hb1⟩; have hA := hf q h d r; have HS := Lib.hid (kindsA_size q h d r); have HO := Lib.hid (kindsA_one q h d r); clear hf; generalize kindsA q h d r = A at *) | (refine wpList_store_row (o := ⟨none, _, _, _, _, _⟩) ?a1 70 (.tmp 4) (.tmp 7) ?a2 w1.heap.size A ?a3 ?a4 70 (.replicate 15 .nilFunc) (heap_alloc_new w1 _) (by rw [HS.out]; exact HI.out) (by rw [HS.out]; rfl) HO.out ?a5; (case a1 => rfl); (case a2 => rfl); (case a3 => rfl); (case a4 => rfl); generalize hW2 : World.setRow _ _ _ = w2; have hA2 : w2.heap[w1.heap.size]? = some (.cells A 70 (0, 0)) := by {rw [← hW2]; exact setRow_heap _ _ _ _ _ _ (heap_alloc_new w1 _)}; have HB2 : Below w.heap.size w w2 := by {rw [← hW2]; exact setRow_below (hb1.alloc hb1.size _) hb1.size _}; have HB12 : Below w1.heap.size w1 w2 := by {rw [← hW2]; exact setRow_below ((Below.refl _ _).alloc (Nat.le_refl _) _) (Nat.le_refl _) _}; have cA : w2.cell? ⟨w1.heap.size, k, none⟩ = some (.func (.func 64) #[] #[ptr q, ptr d]) := (cell_of hA2 k).trans hA; have d2 := cellB HB2 (block_lt_of_cell c2) c2; clear hW2 hA2))
  have HQ := Lib.hid hq
  have HH := Lib.hid hh
  have HDD := Lib.hid hd
  have HR := Lib.hid hr
  clear hq hh hd hr
  refine wp_region_still_tail 8 (by kernel_rfl) (by kernel_rfl) ?_
  simp only [List.take_succ_cons, List.take_zero, List.drop_succ_cons, List.drop_zero]
  change wpStill _ _ w2.drew (fun a' => wpList _ _ _ _ a' w2.drew) _ _
  repeat (first | (still_call (within_any _ _ _ _ _ _)) | still_step)
  refine wpStill_nil ?_
  unfold numF
  have cr : ∀ w, w.cell? ⟨q, 0, none⟩ = some (ptr b) → w.cell? ⟨d, 0, none⟩ = some (dataFn q) → w.cell? ⟨b, 8, none⟩ = some (.string x) → w.cell? ⟨b, 5, none⟩ = some (.int .i64 sz) → Calls Try.prog 64 #[ptr q, ptr d] w fun e w' => ∃ l v, e = .returned v ∧ OL w' w.heap.size v [dataF b 8 l, numF b 5 4 1 65536, numF b 7 4 0 (wrap64 (sz - x.size))] ∧ (w'.cell? ⟨l, 0, none⟩ = some (.int .i64 1) ∧ w.heap.size ≤ l) ∧ Below w.heap.size w w' := fun w hq hd h8 h5 => (image_any q b d x sz w hd hq h8 h5).mono fun _ _ ⟨l, v, he, ho, hc, hl, hb⟩ => ⟨l, v, he, ho, ⟨hc, hl⟩, hb⟩
  have HD : Below w.heap.size w w2.drew := HB2.drew
  have HD1 : Below w1.heap.size w1 w2.drew := HB12.drew
  have e2 : w2.drew.cell? ⟨b, 2, none⟩ = some (.int .i64 (k : Int)) := d2
  have eA : w2.drew.cell? ⟨w1.heap.size, k, none⟩ = some (.func (.func 64) #[] #[ptr q, ptr d]) := cA
  clear c2 d2 cA HB12 HB2
  generalize w2.drew = w3 at *
  have e2' := fun x => cell_new e2 x
  have eA' := fun x => cell_new eA x
  have HN := Lib.hid (fun (x y : Value) => OL.new (M := #[x, y]) (heap_alloc_new w3 (.cells #[x, y] 57)) HD.size (Nat.le_of_ble_eq_true rfl))
  have HA := Lib.hid (fun (x : Obj) => HD.alloc HD.size x)
  have HX := Lib.hid (fun (x : Obj) => show Below w1.heap.size w1 (w3.alloc x) from HD1.alloc HD1.size x)
  have HDS := Lib.hid HD.size
  have H8 := Lib.hid (fun (x : Obj) => cellB (HA.out x) (block_lt_of_cell c8) c8)
  have H5 := Lib.hid (fun (x : Obj) => cellB (HA.out x) (block_lt_of_cell c5) c5)
  clear c8
  clear c5
  clear HD HD1 hb1
  go_wp2_with (first | (go_at_call 64; refine (cr _ (cellB (HX.out _) (block_lt_of_cell HQ.out) HQ.out) (cellB (HX.out _) (block_lt_of_cell HDD.out) HDD.out) (H8.out _) (H5.out _)).mono ?_; rintro e w4 ⟨l, v, rfl, hv, hdf, hb4⟩; have ho4 := (HN.out _ _).below hb4; have hb4 := (HA.out _).trans (hb4.mono (HA.out _).size)) | (refine wpList_append_ol (o := ⟨some 46, _, _, _, _, _⟩) ?b1 (.tmp 38) (.tmp 45) ?b2 w.heap.size _ _ v _ _ ?b3 ho4 ?b4 hv ?b5 ?b6 ?b7 hb4.size ?b8; (case b1 => rfl); (case b2 => rfl); (case b3 => rfl); (case b4 => rfl); (case b5 => exact List.cons_ne_nil _ _); (case b6 => intro u hu; simp only [List.mem_cons, List.not_mem_nil, or_false] at hu; rcases hu with rfl | rfl | rfl <;> rfl); (case b7 => exact Nat.le_of_ble_eq_true rfl); intro v5 w5 ho5 hg5))
  go_ret2
  refine ⟨l, v5, rfl, ho5, ?_, hb4.grown hg5 hb4.size (fun k hk => by cases hk; exact HDS.out)⟩
  intro j l' y hm
  have hm' : j = 8 ∧ l' = l ∧ y = 1 := by simpa [headD] using hm
  obtain ⟨rfl, rfl, rfl⟩ := hm'
  have hk5 : Kept (fun k => k ≠ w3.heap.size) w4 w5 := (Kept.refl _ _).grown hg5 (fun k hk => by cases hk; simp)
  have hl3 : w3.heap.size + 1 ≤ l' := by have := hdf.2; rwa [sz_alloc] at this
  exact ⟨(World.cell?_of_block (hk5.block l' (by omega) (block_lt_of_cell hdf.1))).trans hdf.1, by have := HDS.out; omega⟩
end Go.Proofs.Ythileemkiplodaa
