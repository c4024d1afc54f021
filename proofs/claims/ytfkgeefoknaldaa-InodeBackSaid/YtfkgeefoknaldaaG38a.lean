/- Stage 20: a step of the statements' on both tables: both answer alike. Conditions: numbers of 64 bits. -/
import Derived.Test.YtfkgeefoknaldaaG37a
set_option linter.unusedVariables false
namespace Go.Proofs.Ytfkgeefoknaldaa
open Go.RowKit
set_option linter.unusedVariables false
set_option maxRecDepth 20000
theorem stpB_cells {w : World} {g : Nat} {s : Stp} (h : w.heap[g]? = some (.cells #[.int .i64 s.kind, .int .i64 s.ino, .int .i64 s.n, .int .i64 s.off, .int .i64 s.addr, .slice s.ao s.ms.length s.cap] 31 (0, 0))) : w.cell? ⟨g, 0, none⟩ = some (.int .i64 s.kind) ∧ w.cell? ⟨g, 1, none⟩ = some (.int .i64 s.ino) ∧ w.cell? ⟨g, 2, none⟩ = some (.int .i64 s.n) ∧ w.cell? ⟨g, 3, none⟩ = some (.int .i64 s.off) ∧ w.cell? ⟨g, 4, none⟩ = some (.int .i64 s.addr) ∧ w.cell? ⟨g, 5, none⟩ = some (.slice s.ao s.ms.length s.cap) := ⟨cell_of h 0, cell_of h 1, cell_of h 2, cell_of h 3, cell_of h 4, cell_of h 5⟩
section
variable {b q : Nat} {X : Nat → Prop} {w : World} {t : Tb}
set_option maxHeartbeats 1000000 in
theorem step1_any (hs : Side (PT b) (RT q) X w t t) (ht : TbI t) (hnx : t.next ≤ 9000000000) (s : Stp) (hok : StpOk s) (hk : s.kind = 1) :
    Calls Try.prog 14 #[.pointer (some ⟨b, 0, none⟩), .pointer (some ⟨q, 0, none⟩), .agg #[.int .i64 s.kind, .int .i64 s.ino, .int .i64 s.n, .int .i64 s.off, .int .i64 s.addr, .slice s.ao s.ms.length s.cap]] w fun e w' => e = .returned (.bool true) ∧ Side (PT b) (RT q) X w' (linkI t s.ino s.n).1 (linkI t s.ino s.n).1 ∧ Kept X w w' := by
  have hs0 := Side.beside (pt_thing b) (rt_thing q) hs (.cells #[.int .i64 s.kind, .int .i64 s.ino, .int .i64 s.n, .int .i64 s.off, .int .i64 s.addr, .slice s.ao s.ms.length s.cap] 31 (0, 0))
  have hc0 := stpB_cells (heap_alloc_new w (.cells #[.int .i64 s.kind, .int .i64 s.ino, .int .i64 s.n, .int .i64 s.off, .int .i64 s.addr, .slice s.ao s.ms.length s.cap] 31 (0, 0)))
  have HK0 := Lib.hid (show Kept X w (w.alloc (.cells #[.int .i64 s.kind, .int .i64 s.ino, .int .i64 s.n, .int .i64 s.off, .int .i64 s.addr, .slice s.ao s.ms.length s.cap] 31 (0, 0))) from (Kept.refl X w).alloc _)
  obtain ⟨Y, hY⟩ : ∃ Y : Nat → Prop, (fun k => X k ∨ k = w.heap.size) = Y := ⟨_, rfl⟩
  rw [hY] at hs0
  have HYX := Lib.hid (show ∀ k, X k → Y k from fun k hk => by rw [← hY]; exact .inl hk)
  have HYG := Lib.hid (show Y w.heap.size from by rw [← hY]; exact .inr rfl)
  have HSd := Lib.hid (hs0.below (pt_thing b) (rt_thing q) (Below.refl _ _).drew)
  have hn : (Lit.int .i64 s.ino).wf = true := hok.ino
  have hN := i64w.of hok.n
  have hO := i64w.of hok.off
  have e0 : (s.kind == 0) = false := beq_eq_false_iff_ne.2 (by omega)
  have e1 : (s.kind == 1) = true := beq_iff_eq.2 hk
  have C1 := Lib.hid (fun (W : World) (hs : Side (PT b) (RT q) Y W t t) => sd_linkI hs ht (Int.le_trans hnx (by decide)) hn s.n)
  have C2 := Lib.hid (fun (W : World) (hs : Side (PT b) (RT q) Y W (linkI t s.ino s.n).1 t) => sr_linkI hs ht s.ino s.n)
  generalize (linkI t s.ino s.n).2 = ec at *
  generalize (linkI t s.ino s.n).1 = t2 at *
  have he : (ec == ec) = true := beq_self_eq_true ec
  have HG0 := Lib.hid (show w.heap.size < (w.alloc (.cells #[.int .i64 s.kind, .int .i64 s.ino, .int .i64 s.n, .int .i64 s.off, .int .i64 s.addr, .slice s.ao s.ms.length s.cap] 31 (0, 0))).heap.size from block_lt_of_cell hc0.1)
  clear hs hs0 ht hnx hok hk hn hN hO hY
  go_enter Try.func14, Try.ntmps14
  go_wp2_with fail
  generalize w.alloc _ = W0 at *
  have s0 := hc0
  generalize w.heap.size = g at *
  clear hc0
  go_region_held3 (fun W => W.cell? ⟨g, 0, none⟩ = some (.int .i64 s.kind) ∧ W.cell? ⟨g, 1, none⟩ = some (.int .i64 s.ino) ∧ W.cell? ⟨g, 2, none⟩ = some (.int .i64 s.n) ∧ W.cell? ⟨g, 3, none⟩ = some (.int .i64 s.off) ∧ W.cell? ⟨g, 4, none⟩ = some (.int .i64 s.addr) ∧ W.cell? ⟨g, 5, none⟩ = some (.slice s.ao s.ms.length s.cap))
    (first | with_reducible exact s0 | with_reducible exact s1 | with_reducible exact s2 | with_reducible exact six_dr s0 | with_reducible exact six_dr s1 | (trace "KEEP"; trace_state; fail))
    (first
      | (go_at_call 11; refine (C1.out W0.drew HSd.out).mono ?_; rintro e w1 ⟨rfl, hs1, hk1⟩; have HS1 := Lib.hid hs1; have HK1 := Lib.hid hk1; have s1 := six_hp s0 (hk1.block g HYG.out HG0.out); clear hs1 hk1)
      | (go_at_call 13; refine (C2.out w1 HS1.out).mono ?_; rintro e w2 ⟨rfl, hs2, hk2⟩; have HS2 := Lib.hid hs2; have HK2 := Lib.hid (HK1.out.trans hk2); have s2 := six_hp s1 (hk2.block g HYG.out (Nat.lt_of_lt_of_le HG0.out HK1.out.size)); clear hs2 hk2))
  go_wp2_with fail
  go_ret
  exact ⟨rfl, HS2.out.less HYX.out, HK0.out.drew.trans (HK2.out.mono HYX.out)⟩
set_option maxHeartbeats 1000000 in
theorem step2_any (hs : Side (PT b) (RT q) X w t t) (ht : TbI t) (hnx : t.next ≤ 9000000000) (s : Stp) (hok : StpOk s) (hk : s.kind = 2) :
    Calls Try.prog 14 #[.pointer (some ⟨b, 0, none⟩), .pointer (some ⟨q, 0, none⟩), .agg #[.int .i64 s.kind, .int .i64 s.ino, .int .i64 s.n, .int .i64 s.off, .int .i64 s.addr, .slice s.ao s.ms.length s.cap]] w fun e w' => e = .returned (.bool true) ∧ Side (PT b) (RT q) X w' (openI t s.ino s.n).1 (openI t s.ino s.n).1 ∧ Kept X w w' := by
  have hs0 := Side.beside (pt_thing b) (rt_thing q) hs (.cells #[.int .i64 s.kind, .int .i64 s.ino, .int .i64 s.n, .int .i64 s.off, .int .i64 s.addr, .slice s.ao s.ms.length s.cap] 31 (0, 0))
  have hc0 := stpB_cells (heap_alloc_new w (.cells #[.int .i64 s.kind, .int .i64 s.ino, .int .i64 s.n, .int .i64 s.off, .int .i64 s.addr, .slice s.ao s.ms.length s.cap] 31 (0, 0)))
  have HK0 := Lib.hid (show Kept X w (w.alloc (.cells #[.int .i64 s.kind, .int .i64 s.ino, .int .i64 s.n, .int .i64 s.off, .int .i64 s.addr, .slice s.ao s.ms.length s.cap] 31 (0, 0))) from (Kept.refl X w).alloc _)
  obtain ⟨Y, hY⟩ : ∃ Y : Nat → Prop, (fun k => X k ∨ k = w.heap.size) = Y := ⟨_, rfl⟩
  rw [hY] at hs0
  have HYX := Lib.hid (show ∀ k, X k → Y k from fun k hk => by rw [← hY]; exact .inl hk)
  have HYG := Lib.hid (show Y w.heap.size from by rw [← hY]; exact .inr rfl)
  have HSd := Lib.hid (hs0.below (pt_thing b) (rt_thing q) (Below.refl _ _).drew)
  have hn : (Lit.int .i64 s.ino).wf = true := hok.ino
  have hN := i64w.of hok.n
  have hO := i64w.of hok.off
  have e0 : (s.kind == 0) = false := beq_eq_false_iff_ne.2 (by omega)
  have e1 : (s.kind == 1) = false := beq_eq_false_iff_ne.2 (by omega)
  have e2 : (s.kind == 2) = true := beq_iff_eq.2 hk
  have C1 := Lib.hid (fun (W : World) (hs : Side (PT b) (RT q) Y W t t) => sd_openI hs ht (Int.le_trans hnx (by decide)) hn s.n)
  have C2 := Lib.hid (fun (W : World) (hs : Side (PT b) (RT q) Y W (openI t s.ino s.n).1 t) => sr_openI hs ht s.ino s.n)
  generalize (openI t s.ino s.n).2 = ec at *
  generalize (openI t s.ino s.n).1 = t2 at *
  have he : (ec == ec) = true := beq_self_eq_true ec
  have HG0 := Lib.hid (show w.heap.size < (w.alloc (.cells #[.int .i64 s.kind, .int .i64 s.ino, .int .i64 s.n, .int .i64 s.off, .int .i64 s.addr, .slice s.ao s.ms.length s.cap] 31 (0, 0))).heap.size from block_lt_of_cell hc0.1)
  clear hs hs0 ht hnx hok hk hn hN hO hY
  go_enter Try.func14, Try.ntmps14
  go_wp2_with fail
  generalize w.alloc _ = W0 at *
  have s0 := hc0
  generalize w.heap.size = g at *
  clear hc0
  go_region_held3 (fun W => W.cell? ⟨g, 0, none⟩ = some (.int .i64 s.kind) ∧ W.cell? ⟨g, 1, none⟩ = some (.int .i64 s.ino) ∧ W.cell? ⟨g, 2, none⟩ = some (.int .i64 s.n) ∧ W.cell? ⟨g, 3, none⟩ = some (.int .i64 s.off) ∧ W.cell? ⟨g, 4, none⟩ = some (.int .i64 s.addr) ∧ W.cell? ⟨g, 5, none⟩ = some (.slice s.ao s.ms.length s.cap))
    (first | with_reducible exact s0 | with_reducible exact s1 | with_reducible exact s2 | with_reducible exact six_dr s0 | with_reducible exact six_dr s1 | (trace "KEEP"; trace_state; fail))
    (first
      | (go_at_call 24; refine (C1.out W0.drew HSd.out).mono ?_; rintro e w1 ⟨rfl, hs1, hk1⟩; have HS1 := Lib.hid hs1; have HK1 := Lib.hid hk1; have s1 := six_hp s0 (hk1.block g HYG.out HG0.out); clear hs1 hk1)
      | (go_at_call 37; refine (C2.out w1 HS1.out).mono ?_; rintro e w2 ⟨rfl, hs2, hk2⟩; have HS2 := Lib.hid hs2; have HK2 := Lib.hid (HK1.out.trans hk2); have s2 := six_hp s1 (hk2.block g HYG.out (Nat.lt_of_lt_of_le HG0.out HK1.out.size)); clear hs2 hk2))
  go_wp2_with fail
  go_ret
  exact ⟨rfl, HS2.out.less HYX.out, HK0.out.drew.trans (HK2.out.mono HYX.out)⟩
set_option maxHeartbeats 1000000 in
theorem step3_any (hs : Side (PT b) (RT q) X w t t) (ht : TbI t) (hnx : t.next ≤ 9000000000) (s : Stp) (hok : StpOk s) (hk : s.kind = 3) :
    Calls Try.prog 14 #[.pointer (some ⟨b, 0, none⟩), .pointer (some ⟨q, 0, none⟩), .agg #[.int .i64 s.kind, .int .i64 s.ino, .int .i64 s.n, .int .i64 s.off, .int .i64 s.addr, .slice s.ao s.ms.length s.cap]] w fun e w' => e = .returned (.bool true) ∧ Side (PT b) (RT q) X w' (writeI t s.ino s.off s.n s.addr).1 (writeI t s.ino s.off s.n s.addr).1 ∧ Kept X w w' := by
  have hs0 := Side.beside (pt_thing b) (rt_thing q) hs (.cells #[.int .i64 s.kind, .int .i64 s.ino, .int .i64 s.n, .int .i64 s.off, .int .i64 s.addr, .slice s.ao s.ms.length s.cap] 31 (0, 0))
  have hc0 := stpB_cells (heap_alloc_new w (.cells #[.int .i64 s.kind, .int .i64 s.ino, .int .i64 s.n, .int .i64 s.off, .int .i64 s.addr, .slice s.ao s.ms.length s.cap] 31 (0, 0)))
  have HK0 := Lib.hid (show Kept X w (w.alloc (.cells #[.int .i64 s.kind, .int .i64 s.ino, .int .i64 s.n, .int .i64 s.off, .int .i64 s.addr, .slice s.ao s.ms.length s.cap] 31 (0, 0))) from (Kept.refl X w).alloc _)
  obtain ⟨Y, hY⟩ : ∃ Y : Nat → Prop, (fun k => X k ∨ k = w.heap.size) = Y := ⟨_, rfl⟩
  rw [hY] at hs0
  have HYX := Lib.hid (show ∀ k, X k → Y k from fun k hk => by rw [← hY]; exact .inl hk)
  have HYG := Lib.hid (show Y w.heap.size from by rw [← hY]; exact .inr rfl)
  have HSd := Lib.hid (hs0.below (pt_thing b) (rt_thing q) (Below.refl _ _).drew)
  have hn : (Lit.int .i64 s.ino).wf = true := hok.ino
  have hN := i64w.of hok.n
  have hO := i64w.of hok.off
  have e0 : (s.kind == 0) = false := beq_eq_false_iff_ne.2 (by omega)
  have e1 : (s.kind == 1) = false := beq_eq_false_iff_ne.2 (by omega)
  have e2 : (s.kind == 2) = false := beq_eq_false_iff_ne.2 (by omega)
  have e3 : (s.kind == 3) = true := beq_iff_eq.2 hk
  have C1 := Lib.hid (fun (W : World) (hs : Side (PT b) (RT q) Y W t t) => sd_writeI hs ht hn hO s.n s.addr)
  have C2 := Lib.hid (fun (W : World) (hs : Side (PT b) (RT q) Y W (writeI t s.ino s.off s.n s.addr).1 t) => sr_writeI hs ht s.ino hO hN s.addr)
  generalize (writeI t s.ino s.off s.n s.addr).2 = ec at *
  generalize (writeI t s.ino s.off s.n s.addr).1 = t2 at *
  have he : (ec == ec) = true := beq_self_eq_true ec
  have HG0 := Lib.hid (show w.heap.size < (w.alloc (.cells #[.int .i64 s.kind, .int .i64 s.ino, .int .i64 s.n, .int .i64 s.off, .int .i64 s.addr, .slice s.ao s.ms.length s.cap] 31 (0, 0))).heap.size from block_lt_of_cell hc0.1)
  clear hs hs0 ht hnx hok hk hn hN hO hY
  go_enter Try.func14, Try.ntmps14
  go_wp2_with fail
  generalize w.alloc _ = W0 at *
  have s0 := hc0
  generalize w.heap.size = g at *
  clear hc0
  go_region_held3 (fun W => W.cell? ⟨g, 0, none⟩ = some (.int .i64 s.kind) ∧ W.cell? ⟨g, 1, none⟩ = some (.int .i64 s.ino) ∧ W.cell? ⟨g, 2, none⟩ = some (.int .i64 s.n) ∧ W.cell? ⟨g, 3, none⟩ = some (.int .i64 s.off) ∧ W.cell? ⟨g, 4, none⟩ = some (.int .i64 s.addr) ∧ W.cell? ⟨g, 5, none⟩ = some (.slice s.ao s.ms.length s.cap))
    (first | with_reducible exact s0 | with_reducible exact s1 | with_reducible exact s2 | with_reducible exact six_dr s0 | with_reducible exact six_dr s1 | (trace "KEEP"; trace_state; fail))
    (first
      | (go_at_call 25; refine (C1.out W0.drew HSd.out).mono ?_; rintro e w1 ⟨rfl, hs1, hk1⟩; have HS1 := Lib.hid hs1; have HK1 := Lib.hid hk1; have s1 := six_hp s0 (hk1.block g HYG.out HG0.out); clear hs1 hk1)
      | (go_at_call 38; refine (C2.out w1 HS1.out).mono ?_; rintro e w2 ⟨rfl, hs2, hk2⟩; have HS2 := Lib.hid hs2; have HK2 := Lib.hid (HK1.out.trans hk2); have s2 := six_hp s1 (hk2.block g HYG.out (Nat.lt_of_lt_of_le HG0.out HK1.out.size)); clear hs2 hk2))
  go_wp2_with fail
  go_ret
  exact ⟨rfl, HS2.out.less HYX.out, HK0.out.drew.trans (HK2.out.mono HYX.out)⟩
set_option maxHeartbeats 1000000 in
theorem step4_any (hs : Side (PT b) (RT q) X w t t) (ht : TbI t) (hnx : t.next ≤ 9000000000) (s : Stp) (hok : StpOk s) (hk : s.kind = 4) :
    Calls Try.prog 14 #[.pointer (some ⟨b, 0, none⟩), .pointer (some ⟨q, 0, none⟩), .agg #[.int .i64 s.kind, .int .i64 s.ino, .int .i64 s.n, .int .i64 s.off, .int .i64 s.addr, .slice s.ao s.ms.length s.cap]] w fun e w' => e = .returned (.bool true) ∧ Side (PT b) (RT q) X w' (truncI t s.ino s.n).1 (truncI t s.ino s.n).1 ∧ Kept X w w' := by
  have hs0 := Side.beside (pt_thing b) (rt_thing q) hs (.cells #[.int .i64 s.kind, .int .i64 s.ino, .int .i64 s.n, .int .i64 s.off, .int .i64 s.addr, .slice s.ao s.ms.length s.cap] 31 (0, 0))
  have hc0 := stpB_cells (heap_alloc_new w (.cells #[.int .i64 s.kind, .int .i64 s.ino, .int .i64 s.n, .int .i64 s.off, .int .i64 s.addr, .slice s.ao s.ms.length s.cap] 31 (0, 0)))
  have HK0 := Lib.hid (show Kept X w (w.alloc (.cells #[.int .i64 s.kind, .int .i64 s.ino, .int .i64 s.n, .int .i64 s.off, .int .i64 s.addr, .slice s.ao s.ms.length s.cap] 31 (0, 0))) from (Kept.refl X w).alloc _)
  obtain ⟨Y, hY⟩ : ∃ Y : Nat → Prop, (fun k => X k ∨ k = w.heap.size) = Y := ⟨_, rfl⟩
  rw [hY] at hs0
  have HYX := Lib.hid (show ∀ k, X k → Y k from fun k hk => by rw [← hY]; exact .inl hk)
  have HYG := Lib.hid (show Y w.heap.size from by rw [← hY]; exact .inr rfl)
  have HSd := Lib.hid (hs0.below (pt_thing b) (rt_thing q) (Below.refl _ _).drew)
  have hn : (Lit.int .i64 s.ino).wf = true := hok.ino
  have hN := i64w.of hok.n
  have hO := i64w.of hok.off
  have e0 : (s.kind == 0) = false := beq_eq_false_iff_ne.2 (by omega)
  have e1 : (s.kind == 1) = false := beq_eq_false_iff_ne.2 (by omega)
  have e2 : (s.kind == 2) = false := beq_eq_false_iff_ne.2 (by omega)
  have e3 : (s.kind == 3) = false := beq_eq_false_iff_ne.2 (by omega)
  have e4 : (s.kind == 4) = true := beq_iff_eq.2 hk
  have C1 := Lib.hid (fun (W : World) (hs : Side (PT b) (RT q) Y W t t) => sd_truncI hs ht hn hN)
  have C2 := Lib.hid (fun (W : World) (hs : Side (PT b) (RT q) Y W (truncI t s.ino s.n).1 t) => sr_truncI hs ht s.ino hN)
  generalize (truncI t s.ino s.n).2 = ec at *
  generalize (truncI t s.ino s.n).1 = t2 at *
  have he : (ec == ec) = true := beq_self_eq_true ec
  have HG0 := Lib.hid (show w.heap.size < (w.alloc (.cells #[.int .i64 s.kind, .int .i64 s.ino, .int .i64 s.n, .int .i64 s.off, .int .i64 s.addr, .slice s.ao s.ms.length s.cap] 31 (0, 0))).heap.size from block_lt_of_cell hc0.1)
  clear hs hs0 ht hnx hok hk hn hN hO hY
  go_enter Try.func14, Try.ntmps14
  go_wp2_with fail
  generalize w.alloc _ = W0 at *
  have s0 := hc0
  generalize w.heap.size = g at *
  clear hc0
  go_region_held3 (fun W => W.cell? ⟨g, 0, none⟩ = some (.int .i64 s.kind) ∧ W.cell? ⟨g, 1, none⟩ = some (.int .i64 s.ino) ∧ W.cell? ⟨g, 2, none⟩ = some (.int .i64 s.n) ∧ W.cell? ⟨g, 3, none⟩ = some (.int .i64 s.off) ∧ W.cell? ⟨g, 4, none⟩ = some (.int .i64 s.addr) ∧ W.cell? ⟨g, 5, none⟩ = some (.slice s.ao s.ms.length s.cap))
    (first | with_reducible exact s0 | with_reducible exact s1 | with_reducible exact s2 | with_reducible exact six_dr s0 | with_reducible exact six_dr s1 | (trace "KEEP"; trace_state; fail))
    (first
      | (go_at_call 26; refine (C1.out W0.drew HSd.out).mono ?_; rintro e w1 ⟨rfl, hs1, hk1⟩; have HS1 := Lib.hid hs1; have HK1 := Lib.hid hk1; have s1 := six_hp s0 (hk1.block g HYG.out HG0.out); clear hs1 hk1)
      | (go_at_call 39; refine (C2.out w1 HS1.out).mono ?_; rintro e w2 ⟨rfl, hs2, hk2⟩; have HS2 := Lib.hid hs2; have HK2 := Lib.hid (HK1.out.trans hk2); have s2 := six_hp s1 (hk2.block g HYG.out (Nat.lt_of_lt_of_le HG0.out HK1.out.size)); clear hs2 hk2))
  go_wp2_with fail
  go_ret
  exact ⟨rfl, HS2.out.less HYX.out, HK0.out.drew.trans (HK2.out.mono HYX.out)⟩
set_option maxHeartbeats 1000000 in
theorem step5_any (hs : Side (PT b) (RT q) X w t t) (ht : TbI t) (hnx : t.next ≤ 9000000000) (s : Stp) (hok : StpOk s) (hk : s.kind = 5) (hmv : ∀ W, Kept X w W → MvL W s.ao s.ms) (hml : s.ms.length ≤ 30) :
    Calls Try.prog 14 #[.pointer (some ⟨b, 0, none⟩), .pointer (some ⟨q, 0, none⟩), .agg #[.int .i64 s.kind, .int .i64 s.ino, .int .i64 s.n, .int .i64 s.off, .int .i64 s.addr, .slice s.ao s.ms.length s.cap]] w fun e w' => e = .returned (.bool true) ∧ Side (PT b) (RT q) X w' (movI t s.ino s.ms s.addr).1 (movI t s.ino s.ms s.addr).1 ∧ Kept X w w' := by
  have hs0 := Side.beside (pt_thing b) (rt_thing q) hs (.cells #[.int .i64 s.kind, .int .i64 s.ino, .int .i64 s.n, .int .i64 s.off, .int .i64 s.addr, .slice s.ao s.ms.length s.cap] 31 (0, 0))
  have hc0 := stpB_cells (heap_alloc_new w (.cells #[.int .i64 s.kind, .int .i64 s.ino, .int .i64 s.n, .int .i64 s.off, .int .i64 s.addr, .slice s.ao s.ms.length s.cap] 31 (0, 0)))
  have HK0 := Lib.hid (show Kept X w (w.alloc (.cells #[.int .i64 s.kind, .int .i64 s.ino, .int .i64 s.n, .int .i64 s.off, .int .i64 s.addr, .slice s.ao s.ms.length s.cap] 31 (0, 0))) from (Kept.refl X w).alloc _)
  obtain ⟨Y, hY⟩ : ∃ Y : Nat → Prop, (fun k => X k ∨ k = w.heap.size) = Y := ⟨_, rfl⟩
  rw [hY] at hs0
  have HYX := Lib.hid (show ∀ k, X k → Y k from fun k hk => by rw [← hY]; exact .inl hk)
  have HYG := Lib.hid (show Y w.heap.size from by rw [← hY]; exact .inr rfl)
  have HSd := Lib.hid (hs0.below (pt_thing b) (rt_thing q) (Below.refl _ _).drew)
  have hn : (Lit.int .i64 s.ino).wf = true := hok.ino
  have hN := i64w.of hok.n
  have hO := i64w.of hok.off
  have e0 : (s.kind == 0) = false := beq_eq_false_iff_ne.2 (by omega)
  have e1 : (s.kind == 1) = false := beq_eq_false_iff_ne.2 (by omega)
  have e2 : (s.kind == 2) = false := beq_eq_false_iff_ne.2 (by omega)
  have e3 : (s.kind == 3) = false := beq_eq_false_iff_ne.2 (by omega)
  have e4 : (s.kind == 4) = false := beq_eq_false_iff_ne.2 (by omega)
  have e5 : (s.kind == 5) = true := beq_iff_eq.2 hk
  have C1 := Lib.hid (fun (W : World) (hs : Side (PT b) (RT q) Y W t t) (mo : Option Addr) (mc : Nat) (h2 : MvL W mo s.ms) => sd_movI (mc := mc) hs ht hn h2 (Nat.le_trans hml (by decide)) s.addr)
  have C2 := Lib.hid (fun (W : World) (hs : Side (PT b) (RT q) Y W (movI t s.ino s.ms s.addr).1 t) (h2 : MvL W s.ao s.ms) => sr_movI (mc := s.cap) hs ht s.ino h2 (Nat.le_trans hml (by decide)) s.addr)
  generalize (movI t s.ino s.ms s.addr).2 = ec at *
  generalize (movI t s.ino s.ms s.addr).1 = t2 at *
  have he : (ec == ec) = true := beq_self_eq_true ec
  have HMV := Lib.hid hmv
  have HMA := Lib.hid (hmv _ (((Kept.refl X w).alloc (.cells #[.int .i64 s.kind, .int .i64 s.ino, .int .i64 s.n, .int .i64 s.off, .int .i64 s.addr, .slice s.ao s.ms.length s.cap] 31 (0, 0))).alloc (.cells #[] 91 (0, 0))))
  have HM := Lib.hid (show OR 91 4 mvC ((w.alloc (.cells #[.int .i64 s.kind, .int .i64 s.ino, .int .i64 s.n, .int .i64 s.off, .int .i64 s.addr, .slice s.ao s.ms.length s.cap] 31 (0, 0))).alloc (.cells #[] 91 (0, 0))) (w.heap.size + 1) (.slice (some ⟨w.heap.size + 1, 0, none⟩) 0 0) [] from OR.made (w.alloc (.cells #[.int .i64 s.kind, .int .i64 s.ino, .int .i64 s.n, .int .i64 s.off, .int .i64 s.addr, .slice s.ao s.ms.length s.cap] 31 (0, 0))) (by simp) (Nat.le_refl _))
  have HNN := Lib.hid hok.nil
  have HCC := Lib.hid hok.room
  have HLL := Lib.hid (show ([] : List Mv).length + s.ms.length ≤ 1000000 from by simp; omega)
  have HS0 := Lib.hid hs0
  have HC0 := Lib.hid hc0
  clear hs hs0 ht hnx hok hk hn hN hO hY hmv hml HSd
  go_enter Try.func14, Try.ntmps14
  go_wp2_with (refine wpList_app_rows mv_rows (o := ⟨some 111, _, _, _, _, _⟩) rfl (.tmp 108) (.tmp 110) rfl (B := w.heap.size + 1) (v := .slice (some ⟨w.heap.size + 1, 0, none⟩) 0 0) (D := []) rfl HM.out (ao := s.ao) (cap := s.cap) (l := s.ms) (m := s.ms.length) rfl rfl HMA.out HNN.out HCC.out HLL.out (by simp) ?_; intro va wa hI hg _; rw [List.nil_append] at hI; have hba : Below (w.heap.size + 1) (w.alloc (.cells #[.int .i64 s.kind, .int .i64 s.ino, .int .i64 s.n, .int .i64 s.off, .int .i64 s.addr, .slice s.ao s.ms.length s.cap] 31 (0, 0))) wa := ((blwA _ _).mono (by simp)).grown hg (by simp) (fun k e => by cases e; exact Nat.le_refl _); have hbb : Below (w.alloc (.cells #[.int .i64 s.kind, .int .i64 s.ino, .int .i64 s.n, .int .i64 s.off, .int .i64 s.addr, .slice s.ao s.ms.length s.cap] 31 (0, 0))).heap.size (w.alloc (.cells #[.int .i64 s.kind, .int .i64 s.ino, .int .i64 s.n, .int .i64 s.off, .int .i64 s.addr, .slice s.ao s.ms.length s.cap] 31 (0, 0))) wa := hba.mono (by simp); obtain ⟨ao1, cp1, hv1, hm1, _, _, _, hr1⟩ := OR.form mv_rows hI; clear hr1; subst hv1; have HMa := Lib.hid (show MvL wa ao1 s.ms from hm1); have HSd := Lib.hid ((HS0.out.below (pt_thing b) (rt_thing q) hbb).below (pt_thing b) (rt_thing q) (Below.refl _ wa).drew); have HKa := Lib.hid (HK0.out.below hbb); have s0 := six_on HC0.out hba; have HGa := Lib.hid (show w.heap.size < wa.heap.size from block_lt_of_cell s0.1); clear hI hg hba hbb hm1)
  clear hc0
  obtain ⟨g, hgw⟩ : ∃ g, w.heap.size = g := ⟨_, rfl⟩
  rw [hgw] at s0 HYG HGa
  go_region_held3 (fun W => W.cell? ⟨g, 0, none⟩ = some (.int .i64 s.kind) ∧ W.cell? ⟨g, 1, none⟩ = some (.int .i64 s.ino) ∧ W.cell? ⟨g, 2, none⟩ = some (.int .i64 s.n) ∧ W.cell? ⟨g, 3, none⟩ = some (.int .i64 s.off) ∧ W.cell? ⟨g, 4, none⟩ = some (.int .i64 s.addr) ∧ W.cell? ⟨g, 5, none⟩ = some (.slice s.ao s.ms.length s.cap))
    (first | with_reducible exact s0 | with_reducible exact s1 | with_reducible exact s2 | with_reducible exact six_dr s0 | with_reducible exact six_dr s1 | (trace "KEEP"; trace_state; fail))
    (first
      | (go_at_call 27; refine (C1.out wa.drew HSd.out ao1 cp1 (MvL.below HMa.out (Below.refl _ wa).drew)).mono ?_; rintro e w1 ⟨rfl, hs1, hk1⟩; have HS1 := Lib.hid hs1; have HK1 := Lib.hid hk1; have s1 := six_hp s0 (hk1.block g HYG.out HGa.out); clear hs1 hk1)
      | (go_at_call 40; refine (C2.out w1 HS1.out (HMV.out w1 (HKa.out.drew.trans (HK1.out.mono HYX.out)))).mono ?_; rintro e w2 ⟨rfl, hs2, hk2⟩; have HS2 := Lib.hid hs2; have HK2 := Lib.hid (HK1.out.trans hk2); have s2 := six_hp s1 (hk2.block g HYG.out (Nat.lt_of_lt_of_le HGa.out HK1.out.size)); clear hs2 hk2))
  go_wp2_with fail
  go_ret
  exact ⟨rfl, HS2.out.less HYX.out, HKa.out.drew.trans (HK2.out.mono HYX.out)⟩
end
end Go.Proofs.Ytfkgeefoknaldaa
