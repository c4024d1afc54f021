/- What Next and Open return, of the document's own answer. Conditions: the text is no longer than 2^40 bytes. -/
import Derived.Test.YtbfalmbmalmfoaaFrmC
import Derived.Laws.ResultCell
import Derived.Laws.Rows
namespace Go.Proofs.Ytbfalmbmalmfoaa
open Go.RowKit

theorem results_row_tmp {P : Program} {fn : Func} {p u : Tmp} {ty : TypeId} (h : fn.results = #[.cell p ty, .tmp u]) (tmps : Array Value) (w : World) (g : Nat) (t : TypeId) (cs : Array Value) (fr : Nat × Nat) (d : TypeDesc)
    (hp : tmps.getD p undef = .pointer (some ⟨g, 0, none⟩)) (hg : w.heap[g]? = some (.cells cs t fr))
    (hu : P.underlying ty = some d) (hd : (match d with | .struct _ | .array _ _ => true | _ => false) = true) (hi : (P.info? ty).map (·.size) = some cs.size) :
    (results fn tmps).run P w = .ok (.tuple #[.agg cs, tmps.getD u undef]) w := by
  rw [results_cell_tmp h, hp]
  simp [asAddr, Result.andThen, run_loadVar_row w g t ty cs fr d hg hu hd hi]
theorem got_ret {fn : Func} {p u : Tmp} (h : fn.results = #[.cell p 32, .tmp u]) {a : Act} {w : World} {g : Nat} {t : ByteArray} {n x : Int} {R : Ending → World → Prop}
    (hg : w.heap[g]? = some (.cells #[.string t, .int .i64 n] 32 (0, 0))) (hp : a.tmps.getD p undef = .pointer (some ⟨g, 0, none⟩)) (hx : a.tmps.getD u undef = .int .i64 x) (hd : a.defers = [])
    (hR : R (.returned (.tuple #[.agg #[.string t, .int .i64 n], .int .i64 x])) w) : bodyPost Try.prog fn R .ret a w := by
  have e := results_row_tmp (P := Try.prog) h a.tmps w g 32 #[.string t, .int .i64 n] (0, 0) _ hp hg Try.underlying32 rfl (by kernel_rfl)
  rw [hx] at e
  exact bodyPost_ret e hd hR
theorem rnext_short (f : ByteArray) (h : f.size < 8) (w : World) :
    Calls Try.prog 14 #[.string f] w fun e w' => e = .returned (.tuple #[.agg #[.string ⟨#[]⟩, .int .i64 0], .int .i64 10]) ∧ Below w.heap.size w w' := by
  have h1 : (f.size : Int) < 8 := by omega
  clear h
  go_enter Try.func14, Try.ntmps14
  go_wp2_with fail
  exact got_ret rfl (heap_alloc_new _ _) rfl rfl rfl ⟨rfl, (Below.refl _ _).alloc (Nat.le_refl _) _⟩
theorem rnext_long (f : ByteArray) (hs : f.size ≤ maxLen) (h : 8 ≤ f.size) (hl : 65536 < lenV f) (w : World) :
    Calls Try.prog 14 #[.string f] w fun e w' => e = .returned (.tuple #[.agg #[.string ⟨#[]⟩, .int .i64 0], .int .i64 2]) ∧ Below w.heap.size w w' := by
  have c := fun w => refGetLen f hs h w
  have h1 : (8 : Int) ≤ (f.size : Int) := by omega
  generalize lenV f = n at *
  clear h hs
  go_enter Try.func14, Try.ntmps14
  go_wp2_with (go_at_call 23; refine (c _).mono ?_; rintro e w' ⟨rfl, rfl⟩)
  exact got_ret rfl (heap_alloc_new _ _) rfl rfl rfl ⟨rfl, (Below.refl _ _).alloc (Nat.le_refl _) _⟩
theorem rnext_cut (f : ByteArray) (hs : f.size ≤ maxLen) (h : 8 ≤ f.size) (hl : lenV f ≤ 65536) (hc : (f.size : Int) < 8 + lenV f) (w : World) :
    Calls Try.prog 14 #[.string f] w fun e w' => e = .returned (.tuple #[.agg #[.string ⟨#[]⟩, .int .i64 0], .int .i64 10]) ∧ Below w.heap.size w w' := by
  have c := fun w => refGetLen f hs h w
  have h0 := (get4_lt f 0 (by omega)).1
  have h1 : (8 : Int) ≤ (f.size : Int) := by omega
  have h2 : (f.size : Int) - 8 < lenV f := by omega
  change 0 ≤ lenV f at h0
  generalize lenV f = n at *
  clear h hs hc
  go_enter Try.func14, Try.ntmps14
  go_wp2_with (go_at_call 23; refine (c _).mono ?_; rintro e w' ⟨rfl, rfl⟩)
  exact got_ret rfl (heap_alloc_new _ _) rfl rfl rfl ⟨rfl, (Below.refl _ _).alloc (Nat.le_refl _) _⟩
set_option maxHeartbeats 1000000 in
theorem rnext_in (f : ByteArray) (hs : f.size ≤ 1099511627776) (h : 8 ≤ f.size) (hl : lenV f ≤ 65536) (hc : 8 + lenV f ≤ (f.size : Int)) (w : World) :
    Calls Try.prog 14 #[.string f] w fun e w' => e = .returned (.tuple #[.agg #[.string (nextR f).1, .int .i64 (nextR f).2.1], .int .i64 (nextR f).2.2]) ∧ Below w.heap.size w w' := by
  have hm : f.size ≤ maxLen := by unfold maxLen; omega
  have c := fun w => refGetLen f hm h w
  have c' := fun w => refGetSum f hm h w
  have h0 := (get4_lt f 0 (by omega)).1
  have h1 : (8 : Int) ≤ (f.size : Int) := by omega
  have h2 := get4_lt f 4 (by omega)
  have H4 := nextR_is f h hl hc
  have H5 := nextR_sum f h hl hc
  have h5 : lenV f ≤ (f.size : Int) - 8 := by omega
  have h6 : (f.size : Int) ≤ 1099511627776 := by omega
  unfold headR bodyR at H4 H5
  change 0 ≤ lenV f at h0
  change 0 ≤ sumV f ∧ sumV f < 4294967296 at h2
  obtain ⟨h2, h3⟩ := h2
  generalize lenV f = n at *
  generalize sumV f = x at *
  obtain ⟨n, rfl⟩ := Int.eq_ofNat_of_zero_le h0
  rw [Int.toNat_natCast] at H4 H5
  have k1 : (f.extract 0 4).size ≤ 4 := by rw [ByteArray.size_extract]; omega
  have k2 : (f.extract 8 (8 + n)).size ≤ 65536 := by rw [ByteArray.size_extract]; omega
  have L1 := Lib.hid (show (f.extract 0 4 ++ f.extract 8 (8 + n)).size ≤ maxLen by rw [ByteArray.size_append]; unfold maxLen; omega)
  clear h hm hs
  by_cases he : x = (sumR (f.extract 0 4 ++ f.extract 8 (8 + n)) : Nat)
  · have H := Lib.hid (H4 he)
    have hd : (x != ((sumR (f.extract 0 4 ++ f.extract 8 (8 + n)) : Nat) : Int)) = false := bne_eq_false_iff_eq.2 he
    clear H4 H5 he
    go_enter Try.func14, Try.ntmps14
    go_wp2_with (first | (go_at_call 23; (with_reducible refine (c _).mono ?_); rintro e w' ⟨rfl, rfl⟩) | (go_at_call 23; (with_reducible refine (c' _).mono ?_); rintro e w' ⟨rfl, rfl⟩) | (go_at_call 20; refine (rsum_any _ L1.out _).mono ?_; rintro e w2 ⟨rfl, rfl⟩))
    rw [H.out]
    exact got_ret rfl (heap_alloc_new _ _) rfl rfl rfl ⟨rfl, (Below.refl _ _).alloc (Nat.le_refl _) _⟩
  · have H := Lib.hid (H5 he)
    have hd : (x != ((sumR (f.extract 0 4 ++ f.extract 8 (8 + n)) : Nat) : Int)) = true := bne_iff_ne.2 he
    clear H4 H5 he
    go_enter Try.func14, Try.ntmps14
    go_wp2_with (first | (go_at_call 23; (with_reducible refine (c _).mono ?_); rintro e w' ⟨rfl, rfl⟩) | (go_at_call 23; (with_reducible refine (c' _).mono ?_); rintro e w' ⟨rfl, rfl⟩) | (go_at_call 20; refine (rsum_any _ L1.out _).mono ?_; rintro e w2 ⟨rfl, rfl⟩))
    rw [H.out]
    exact got_ret rfl (heap_alloc_new _ _) rfl rfl rfl ⟨rfl, (Below.refl _ _).alloc (Nat.le_refl _) _⟩
theorem rnext_any (f : ByteArray) (hs : f.size ≤ 1099511627776) (w : World) :
    Calls Try.prog 14 #[.string f] w fun e w' => e = .returned (.tuple #[.agg #[.string (nextR f).1, .int .i64 (nextR f).2.1], .int .i64 (nextR f).2.2]) ∧ Below w.heap.size w w' := by
  have hm : f.size ≤ maxLen := by unfold maxLen; omega
  by_cases h : f.size < 8
  · rw [nextR_short f h]
    exact rnext_short f h w
  · by_cases h1 : 65536 < lenV f
    · rw [nextR_long f (by omega) h1]
      exact rnext_long f hm (by omega) h1 w
    · by_cases h2 : (f.size : Int) < 8 + lenV f
      · rw [nextR_cut f (by omega) (by omega) h2]
        exact rnext_cut f hm (by omega) (by omega) h2 w
      · exact rnext_in f hs (by omega) (by omega) (by omega) w
theorem ropen_any (f : ByteArray) (hs : f.size ≤ 1099511627776) (w : World) :
    Calls Try.prog 12 #[.string f] w fun e w' => e = .returned (.tuple #[.string (openR f).1, .int .i64 (openR f).2]) ∧ Below w.heap.size w w' := by
  have c := rnext_any f hs w
  obtain ⟨b0, b1⟩ := nextR_le f
  have b2 : (f.size : Int) ≤ 1099511627776 := by omega
  have HO := Lib.hid (show openR f = if (nextR f).2.2 ≠ 0 then (⟨#[]⟩, (nextR f).2.2) else if (nextR f).2.1 < (f.size : Int) then (⟨#[]⟩, 11) else ((nextR f).1, 0) from rfl)
  generalize nextR f = r at *
  obtain ⟨t, n, x⟩ := r
  simp only at b0 b1 c HO
  generalize openR f = o at *
  by_cases hx : x = 0
  · subst hx
    by_cases hn : n < (f.size : Int)
    · obtain rfl := HO.out.trans ((if_neg (by simp)).trans (if_pos hn))
      have hd : (n != (f.size : Int)) = true := bne_iff_ne.2 (by omega)
      clear HO hs
      go_enter Try.func12, Try.ntmps12
      go_wp2_with (go_at_call 14; refine c.mono ?_; rintro e w1 ⟨rfl, hb1⟩)
      go_ret2
      exact ⟨rfl, hb1.alloc hb1.size _⟩
    · obtain rfl := HO.out.trans ((if_neg (by simp)).trans (if_neg hn))
      have hd : (n != (f.size : Int)) = false := bne_eq_false_iff_eq.2 (by omega)
      clear HO hs hn
      go_enter Try.func12, Try.ntmps12
      go_wp2_with (go_at_call 14; refine c.mono ?_; rintro e w1 ⟨rfl, hb1⟩)
      go_ret2
      exact ⟨rfl, hb1.alloc hb1.size _⟩
  · obtain rfl := HO.out.trans (if_pos hx)
    have hd : (x != 0) = true := bne_iff_ne.2 hx
    clear HO hs hx
    go_enter Try.func12, Try.ntmps12
    go_wp2_with (go_at_call 14; refine c.mono ?_; rintro e w1 ⟨rfl, hb1⟩)
    go_ret2
    exact ⟨rfl, hb1.alloc hb1.size _⟩
end Go.Proofs.Ytbfalmbmalmfoaa
