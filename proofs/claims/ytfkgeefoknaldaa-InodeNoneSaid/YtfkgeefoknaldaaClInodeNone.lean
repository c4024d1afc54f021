/- The law InodeNone: a table that nobody made has no inodes. No conditions. -/
import Derived.Test.YtfkgeefoknaldaaG35a
import Derived.Test.YtfkgeefoknaldaaG11a
namespace Go.Proofs.Ytfkgeefoknaldaa
open Go.ChangeShapes Go.WideShapes Go.ChangeAt Go.RowKit Go.Maps
set_option linter.unusedVariables false
set_option maxRecDepth 20000
theorem stp_cells {w : World} {g : Nat} {s : Stp} (h : w.heap[g]? = some (.cells #[.int .i64 s.kind, .int .i64 s.ino, .int .i64 s.n, .int .i64 s.off, .int .i64 s.addr, .slice s.ao s.ms.length s.cap] 31 (0, 0))) : w.cell? ⟨g, 0, none⟩ = some (.int .i64 s.kind) ∧ w.cell? ⟨g, 1, none⟩ = some (.int .i64 s.ino) ∧ w.cell? ⟨g, 2, none⟩ = some (.int .i64 s.n) ∧ w.cell? ⟨g, 3, none⟩ = some (.int .i64 s.off) ∧ w.cell? ⟨g, 4, none⟩ = some (.int .i64 s.addr) ∧ w.cell? ⟨g, 5, none⟩ = some (.slice s.ao s.ms.length s.cap) := ⟨cell_of h 0, cell_of h 1, cell_of h 2, cell_of h 3, cell_of h 4, cell_of h 5⟩
theorem nparts_nil (n : Int) (w : World) : Calls Try.prog 21 #[.pointer none, .int .i64 n] w fun e w' => ∃ ao cap, e = .returned (.slice ao 0 cap) ∧ Below w.heap.size w w' := by
  refine (pparts_of (y := noV) (c := 1) (pfind_nil n w) (Row.nil _ _ _ _) (fun _ => rfl) (Nat.le_refl _) (Nat.zero_le _)).mono ?_
  rintro e w' ⟨v, rfl, hO, hb⟩
  obtain ⟨ao, cap, hv, _⟩ := OR.form par_rows hO
  exact ⟨ao, cap, by rw [hv]; rfl, hb⟩
set_option maxHeartbeats 1000000 in
theorem inodeNone_walk (s : Stp) (w : World) (hF : StpIn w s) :
    Calls Try.prog 4 #[stpV s] w fun e w' => e = .returned (.bool true) ∧ Below w.heap.size w w' := by
  show Calls Try.prog 4 #[.agg #[.int .i64 s.kind, .int .i64 s.ino, .int .i64 s.n, .int .i64 s.off, .int .i64 s.addr, .slice s.ao s.ms.length s.cap]] w fun e w' => e = .returned (.bool true) ∧ Below w.heap.size w w'
  have hlen := hF.1.len
  have hlI : (s.ms.length : Int) ≤ 9223372036854775807 := by unfold maxLen at hlen; omega
  clear hF hlen
  have CK := Lib.hid wakes20_any
  have HB0 := Lib.hid (blwA w (.cells #[.int .i64 s.kind, .int .i64 s.ino, .int .i64 s.n, .int .i64 s.off, .int .i64 s.addr, .slice s.ao s.ms.length s.cap] 31 (0, 0)))
  have HX := Lib.hid (fun (W : World) (hb : Below (w.alloc (.cells #[.int .i64 s.kind, .int .i64 s.ino, .int .i64 s.n, .int .i64 s.off, .int .i64 s.addr, .slice s.ao s.ms.length s.cap] 31 (0, 0))).heap.size (w.alloc (.cells #[.int .i64 s.kind, .int .i64 s.ino, .int .i64 s.n, .int .i64 s.off, .int .i64 s.addr, .slice s.ao s.ms.length s.cap] 31 (0, 0))) W) => stp_cells (below_heap hb (heap_alloc_new w (.cells #[.int .i64 s.kind, .int .i64 s.ino, .int .i64 s.n, .int .i64 s.off, .int .i64 s.addr, .slice s.ao s.ms.length s.cap] 31 (0, 0)))))
  by_cases hl : 30 < (s.ms.length : Int)
  · go_enter Try.func4, Try.ntmps4
    go_wp2_with (go_at_call 9; refine (CK.out _).mono ?_; rintro e w1 ⟨rfl, hb⟩; have HB1 := Lib.hid (blwO hb HB0.out); clear hb)
    go_ret
    exact ⟨rfl, HB1.out⟩
  have hl2 : (s.ms.length : Int) ≤ 30 := by omega
  have HC0 := Lib.hid (Below.refl (w.alloc (.cells #[.int .i64 s.kind, .int .i64 s.ino, .int .i64 s.n, .int .i64 s.off, .int .i64 s.addr, .slice s.ao s.ms.length s.cap] 31 (0, 0))).heap.size (w.alloc (.cells #[.int .i64 s.kind, .int .i64 s.ino, .int .i64 s.n, .int .i64 s.off, .int .i64 s.addr, .slice s.ao s.ms.length s.cap] 31 (0, 0))))
  have C0 := Lib.hid pmake_nil
  have C1 := Lib.hid (fun n W => show Calls Try.prog 23 #[.pointer none, .int .i64 n] W fun e w' => e = .returned (.tuple #[.agg #[.int .i64 0, .int .i64 0, .int .i64 0, .int .i64 0], .bool false]) ∧ Below W.heap.size W w' from pstat_of (y := noV) (c := 1) (fun W2 _ => pfind_nil n W2))
  have C2 := Lib.hid plink_nil
  have C3 := Lib.hid popen_nil
  have C4 := Lib.hid pwrite_nil
  have C5 := Lib.hid ptrunc_nil
  have C6 := Lib.hid pmov_nil
  have C7 := Lib.hid popens_nil
  have C8 := Lib.hid nparts_nil
  have C9 := Lib.hid pall_nil
  have C10 := Lib.hid pnext_nil
  have C11 := Lib.hid pload_nil
  have C12 := Lib.hid pdump_nil
  clear hl
  go_enter Try.func4, Try.ntmps4
  go_wp2_with (first
    | (go_at_call 10; with_reducible refine (C0.out _ _).mono ?_; rintro e w' ⟨rfl, rfl⟩; obtain ⟨p0a, p0b, p0c, p0d, p0e, p0f⟩ := HX.out _ HC0.out)
    | (go_at_call 23; with_reducible refine (C1.out _ _).mono ?_; rintro e w1 ⟨rfl, hb⟩; have HC1 := Lib.hid (blwO (blwO (blwA w1 (.cells #[.int .i64 0, .int .i64 0, .int .i64 0, .int .i64 0] 56 (0, 0))) hb) HC0.out); obtain ⟨p1a, p1b, p1c, p1d, p1e, p1f⟩ := HX.out _ HC1.out; clear hb)
    | (go_at_call 11; with_reducible refine (C2.out _ _ _).mono ?_; rintro e w2 ⟨rfl, hb⟩; have HC2 := Lib.hid (blwO hb HC1.out); obtain ⟨p2a, p2b, p2c, p2d, p2e, p2f⟩ := HX.out _ HC2.out; clear hb)
    | (go_at_call 24; with_reducible refine (C3.out _ _ _).mono ?_; rintro e w3 ⟨rfl, hb⟩; have HC3 := Lib.hid (blwO hb HC2.out); obtain ⟨p3a, p3b, p3c, p3d, p3e, p3f⟩ := HX.out _ HC3.out; clear hb)
    | (go_at_call 25; with_reducible refine (C4.out _ _ _ _ _).mono ?_; rintro e w4 ⟨rfl, hb⟩; have HC4 := Lib.hid (blwO hb HC3.out); obtain ⟨p4a, p4b, p4c, p4d, p4e, p4f⟩ := HX.out _ HC4.out; clear hb)
    | (go_at_call 26; with_reducible refine (C5.out _ _ _).mono ?_; rintro e w5 ⟨rfl, hb⟩; have HC5 := Lib.hid (blwO hb HC4.out); obtain ⟨p5a, p5b, p5c, p5d, p5e, p5f⟩ := HX.out _ HC5.out; clear hb)
    | (go_at_call 27; with_reducible refine (C6.out _ _ _ _ _ _).mono ?_; rintro e w6 ⟨rfl, hb⟩; have HC6 := Lib.hid (blwO hb HC5.out); obtain ⟨p6a, p6b, p6c, p6d, p6e, p6f⟩ := HX.out _ HC6.out; clear hb)
    | (go_at_call 28; with_reducible refine (C7.out _ _).mono ?_; rintro e w7 ⟨rfl, hb⟩; have HC7 := Lib.hid (blwO hb HC6.out); obtain ⟨p7a, p7b, p7c, p7d, p7e, p7f⟩ := HX.out _ HC7.out; clear hb)
    | (go_at_call 21; with_reducible refine (C8.out _ _).mono ?_; rintro e w8 ⟨ao8, cp8, rfl, hb⟩; have HC8 := Lib.hid (blwO hb HC7.out); obtain ⟨p8a, p8b, p8c, p8d, p8e, p8f⟩ := HX.out _ HC8.out; clear hb)
    | (go_at_call 29; with_reducible refine (C9.out _).mono ?_; rintro e w' ⟨rfl, rfl⟩)
    | (go_at_call 18; with_reducible refine (C10.out _).mono ?_; rintro e w' ⟨rfl, rfl⟩)
    | (go_at_call 16; with_reducible refine (C11.out _ _ _ _ _).mono ?_; rintro e w' ⟨rfl, rfl⟩)
    | (go_at_call 15; with_reducible refine (C12.out _).mono ?_; rintro e w' ⟨rfl, rfl⟩)
    | (go_at_call 9; refine (CK.out _).mono ?_; rintro e w9 ⟨rfl, hb⟩; have HB9 := Lib.hid (blwO hb (blwO HC8.out HB0.out)); clear hb))
  go_ret
  exact ⟨rfl, HB9.out⟩

set_option maxRecDepth 100000 in
theorem inodeNone_lifted (os : Os) (started : os.Started) (H : Type) (enc : TypeId × Value → H) :
    ReturnsInHanded {} Try.checked os 4 .any (Rows.inodeNoneSpec.pre6 enc Try.prog Try.f4 Rows.inodeNoneRow.domain false) (Rows.inodeNoneSpec.post enc Try.prog Try.f4 false true false false) := by
  refine returnsInHanded_of_change (C := Try.checked) own started (by kernel_rfl) Try.func4
    (ChangeSpec.witness6 (enc := enc) (C := Try.checked) false ⟨#[], #[.agg #[.int .i64 0, .int .i64 0, .int .i64 0, .int .i64 0, .int .i64 0, .slice none 0 0]], []⟩ 8 (by kernel_rfl) (by kernel_rfl) (by kernel_rfl) (by kernel_rfl)) ?_
  intro W base args ds gs before hval0 hW hcnd _
  have hval : ∀ (j : Nat) t v, Try.f4.params[j]? = some t → args[j]? = some v → Value.okWide Try.prog W .any base t v := hval0
  have hW' := hW
  obtain ⟨p, q, hA0, hV, rfl, hfz, hnd⟩ := hW
  have hA : DataW.TrodAll enc Try.prog W 0 (fun _ => true) true Try.f4.params.toList args.toList ds p := hA0
  rw [Try.params4] at hA hval
  obtain ⟨v0, vs0, d0, ds0, p0, q0, hargs, rfl, rfl, h0, r0⟩ := trodAll_cons hA
  obtain ⟨rfl, rfl, rfl⟩ := trodAll_nil r0
  obtain rfl : args = #[v0] := by cases args; simp_all
  obtain ⟨rfl, rfl⟩ := trodVars_none hV
  have k0 := h0
  have lt0 : ∀ x ∈ p0, x.block < W.heap.size := by obtain ⟨m, hm⟩ := k0; exact DataW.trod_lt m _ _ _ hm
  obtain ⟨s0, rfl, hF0⟩ := open_stp stpT (hval 0 31 v0 rfl rfl) h0
  clear hA0 hval0
  refine (inodeNone_walk s0 W hF0).mono fun e W' ⟨he, bel⟩ => ?_
  subst he
  exact ⟨_, rfl, _, _, _, [], _, [], hW', trodAll_mk1 (shut_bool Try.underlying4 _), (trodAll_cons_mk (Below.trod laidOut (by kernel_rfl) (of_decide_eq_true (by kernel_rfl)) k0 bel lt0) trodAll_mk0), rfl, bel.frame _, fun h => by cases h⟩

theorem inodeNone_over : Rows.inodeNoneRow.holds Try.pinned (OpenSpec.ofChange Rows.inodeNoneSpec) :=
  OpenClaim.holds_of_wide 4 Try.f4 rfl rfl rfl rfl rfl rfl rfl ⟨rfl, rfl, rfl, rfl, rfl⟩ rfl rfl rfl rfl rfl (by kernel_rfl) Try.func4 (by kernel_rfl)
    (of_decide_eq_true (by kernel_rfl)) (by unfold Func.isWrapper; first | (rw [if_pos (by decide +kernel)]; kernel_rfl) | (rw [if_neg (by decide +kernel)]; exact ⟨rfl, rfl⟩))
    (fun os started H enc _ => inodeNone_lifted os started H enc)

/-- THE STATEMENT -/
theorem inodeNone_holds : Rows.InodeNoneSaid := inodeNone_over 
end Go.Proofs.Ytfkgeefoknaldaa
