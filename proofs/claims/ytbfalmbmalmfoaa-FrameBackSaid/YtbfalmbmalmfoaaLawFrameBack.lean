/- FrameBack: a text that was sealed is opened, whatever follows its frame; the law's examples come out. No conditions. -/
import Derived.Test.YtbfalmbmalmfoaaFrame
import Derived.Test.YtbfalmbmalmfoaaFrmE
namespace Go.Proofs.Ytbfalmbmalmfoaa
open Go.ChangeShapes Go.WideShapes Go.ChangeAt Go.RowKit
open Go.ChangeMaps (open_string shut_string)
set_option linter.unusedVariables false

theorem empty_of (l : ByteArray) (h : l.size = 0) : l = ⟨#[]⟩ := ByteArray.ext (Array.eq_empty_of_size_eq_zero h)
theorem toList_ne (l : ByteArray) (h : l.size ≠ 0) : l.toList.isEmpty = false := by
  cases e : l.toList.isEmpty
  · rfl
  · exfalso
    apply h
    have : l.toList = [] := by simpa using e
    have h2 : l.toList.length = l.size := by rw [Lib.toList_data, ← Lib.size_eq]
    rw [← h2, this]
    rfl
theorem fb_open (s : ByteArray) (hs : s.size ≤ 65536) (w : World) :
    Calls Try.prog 11 #[.string (frR s)] w fun e w' => e = .returned (.tuple #[.string s, .int .i64 0]) ∧ Below w.heap.size w w' := by
  have h := open_any (frR s) (by rw [frR_size]; omega) w
  rwa [open_frR s hs] at h
theorem fb_next (s R : ByteArray) (hs : s.size ≤ 65536) (hR : R.size ≤ 1000) (w : World) :
    Calls Try.prog 13 #[.string (frR s ++ R)] w fun e w' => e = .returned (.tuple #[.string s, .int .i64 (8 + s.size), .int .i64 0]) ∧ Below w.heap.size w w' := by
  have h := next_any (frR s ++ R) (by rw [ByteArray.size_append, frR_size]; omega) w
  rwa [next_frR s R hs] at h
theorem fb_more (s R : ByteArray) (hs : s.size ≤ 65536) (hR : R.size ≤ 1000) (h0 : R.size ≠ 0) (w : World) :
    Calls Try.prog 11 #[.string (frR s ++ R)] w fun e w' => e = .returned (.tuple #[.string ⟨#[]⟩, .int .i64 11]) ∧ Below w.heap.size w w' := by
  have h := open_any (frR s ++ R) (by rw [ByteArray.size_append, frR_size]; omega) w
  rwa [open_more s R hs h0] at h
theorem fb_none (s : ByteArray) (hs : s.size ≤ 65536) (w : World) :
    Calls Try.prog 11 #[.string (frR s ++ ⟨#[]⟩)] w fun e w' => e = .returned (.tuple #[.string s, .int .i64 0]) ∧ Below w.heap.size w w' := by
  rw [app_nil]
  exact fb_open s hs w
set_option maxHeartbeats 1000000 in
theorem frameBack_walk (a0 a1 : ByteArray) (w0 : a0.size ≤ maxLen) (w1 : a1.size ≤ maxLen) (w : World) :
    Calls Try.prog 5 #[.string a0, .string a1] w fun e w' => e = .returned (.bool true) ∧ Below w.heap.size w w' := by
  clear w0 w1
  by_cases g0 : (a0.size : Int) ≤ 65536
  · by_cases g1 : (a1.size : Int) ≤ 1000
    · have hs : a0.size ≤ 65536 := by omega
      have hR : a1.size ≤ 1000 := by omega
      have c1 := fun w => seal_in a0 hs w
      have c2 := fun w => fb_open a0 hs w
      have c3 := fun w => fb_next a0 a1 hs hR w
      have k1 : (frR a0).size ≤ 65544 := by rw [frR_size]; omega
      have hz : ((8 + (a0.size : Int)) == ((frR a0).size : Int)) = true := by rw [frR_size]; simp
      by_cases h0 : a1.size = 0
      · obtain rfl := empty_of a1 h0
        have c4 := fun w => fb_none a0 hs w
        clear h0 hs hR
        generalize frR a0 = A at *
        go_enter Try.func5, Try.ntmps5
        go_wp2_with (first | (go_at_call 9; refine (c1 _).mono ?_; rintro e w1 ⟨rfl, hb1⟩) | (go_at_call 11; (with_reducible refine (c2 _).mono ?_); rintro e w2 ⟨rfl, hb2⟩) | (go_at_call 13; refine (c3 _).mono ?_; rintro e w3 ⟨rfl, hb3⟩) | (go_at_call 11; (with_reducible refine (c4 _).mono ?_); rintro e w4 ⟨rfl, hb4⟩) | (go_at_call 8; refine (wakes_any _).mono ?_; rintro e w5 ⟨rfl, hb5⟩))
        go_ret
        have b2 := hb1.trans (hb2.mono hb1.size)
        have b3 := b2.trans (hb3.mono b2.size)
        have b4 := b3.trans (hb4.mono b3.size)
        exact ⟨rfl, b4.trans (hb5.mono b4.size)⟩
      · have c4 := fun w => fb_more a0 a1 hs hR h0 w
        have d1 := toList_ne a1 h0
        have d2 : (!a1.toList.isEmpty) = true := by rw [d1]; rfl
        clear h0 hs hR
        generalize frR a0 = A at *
        go_enter Try.func5, Try.ntmps5
        go_wp2_with (first | (go_at_call 9; refine (c1 _).mono ?_; rintro e w1 ⟨rfl, hb1⟩) | (go_at_call 11; (with_reducible refine (c2 _).mono ?_); rintro e w2 ⟨rfl, hb2⟩) | (go_at_call 13; refine (c3 _).mono ?_; rintro e w3 ⟨rfl, hb3⟩) | (go_at_call 11; (with_reducible refine (c4 _).mono ?_); rintro e w4 ⟨rfl, hb4⟩) | (go_at_call 8; refine (wakes_any _).mono ?_; rintro e w5 ⟨rfl, hb5⟩))
        go_ret
        have b2 := hb1.trans (hb2.mono hb1.size)
        have b3 := b2.trans (hb3.mono b2.size)
        have b4 := b3.trans (hb4.mono b3.size)
        exact ⟨rfl, b4.trans (hb5.mono b4.size)⟩
    · go_enter Try.func5, Try.ntmps5
      go_wp2_with (go_at_call 8; refine (wakes_any _).mono ?_; rintro e w3 ⟨rfl, hb3⟩)
      go_ret
      exact ⟨rfl, hb3⟩
  · go_enter Try.func5, Try.ntmps5
    go_wp2_with (go_at_call 8; refine (wakes_any _).mono ?_; rintro e w3 ⟨rfl, hb3⟩)
    go_ret
    exact ⟨rfl, hb3⟩

set_option maxRecDepth 100000 in
theorem frameBack_lifted (os : Os) (started : os.Started) (H : Type) (enc : TypeId × Value → H) :
    ReturnsInHanded {} Try.checked os 5 .any (Rows.frameBackSpec.pre6 enc Try.prog Try.f5 Rows.frameBackRow.domain false) (Rows.frameBackSpec.post enc Try.prog Try.f5 false true false false) := by
  refine returnsInHanded_of_change (C := Try.checked) own started (by kernel_rfl) Try.func5
    (ChangeSpec.witness6 (enc := enc) (C := Try.checked) false ⟨#[], #[.string ByteArray.empty, .string ByteArray.empty], []⟩ 8 (by kernel_rfl) (by kernel_rfl) (by kernel_rfl) (by kernel_rfl)) ?_
  intro W base args ds gs before hval0 hW hcnd _
  have hval : ∀ (j : Nat) t v, Try.f5.params[j]? = some t → args[j]? = some v → Value.okWide Try.prog W .any base t v := hval0
  have hW' := hW
  obtain ⟨p, q, hA0, hV, rfl, hfz, hnd⟩ := hW
  have hA : DataW.TrodAll enc Try.prog W 0 (fun _ => true) true Try.f5.params.toList args.toList ds p := hA0
  rw [Try.params5] at hA hval
  obtain ⟨v0, vs0, d0, ds0, p0, q0, hargs, rfl, rfl, h0, r0⟩ := trodAll_cons hA
  obtain ⟨v1, vs1, d1, ds1, p1, q1, rfl, rfl, rfl, h1, r1⟩ := trodAll_cons r0
  obtain ⟨rfl, rfl, rfl⟩ := trodAll_nil r1
  obtain rfl : args = #[v0, v1] := by cases args; simp_all
  obtain ⟨rfl, rfl⟩ := trodVars_none hV
  have k0 := h0
  have lt0 : ∀ x ∈ p0, x.block < W.heap.size := by obtain ⟨m, hm⟩ := k0; exact DataW.trod_lt m _ _ _ hm
  have k1 := h1
  have lt1 : ∀ x ∈ p1, x.block < W.heap.size := by obtain ⟨m, hm⟩ := k1; exact DataW.trod_lt m _ _ _ hm
  obtain ⟨a0, rfl, rfl, rfl, w0⟩ := open_string Try.underlying9 (hval 0 9 v0 rfl rfl) h0
  obtain ⟨a1, rfl, rfl, rfl, w1⟩ := open_string Try.underlying9 (hval 1 9 v1 rfl rfl) h1
  clear hA0 hval0
  refine (frameBack_walk a0 a1 w0 w1 W).mono fun e W' ⟨he, bel⟩ => ?_
  subst he
  exact ⟨_, rfl, _, _, _, [], _, [], hW', trodAll_mk1 (shut_bool Try.underlying4 _), (trodAll_cons_mk (Below.trod laidOut (by kernel_rfl) (of_decide_eq_true (by kernel_rfl)) k0 bel lt0) (trodAll_cons_mk (Below.trod laidOut (by kernel_rfl) (of_decide_eq_true (by kernel_rfl)) k1 bel lt1) trodAll_mk0)), rfl, bel.frame _, fun h => by cases h⟩

theorem frameBack_over : Rows.frameBackRow.holds Try.pinned (OpenSpec.ofChange Rows.frameBackSpec) :=
  OpenClaim.holds_of_wide 5 Try.f5 rfl rfl rfl rfl rfl rfl rfl ⟨rfl, rfl, rfl, rfl, rfl⟩ rfl rfl rfl rfl rfl (by kernel_rfl) Try.func5 (by kernel_rfl)
    (of_decide_eq_true (by kernel_rfl)) (by unfold Func.isWrapper; first | (rw [if_pos (by decide +kernel)]; kernel_rfl) | (rw [if_neg (by decide +kernel)]; exact ⟨rfl, rfl⟩))
    (fun os started H enc _ => frameBack_lifted os started H enc)

/-- THE STATEMENT -/
theorem frameBack_holds : Rows.FrameBackSaid := frameBack_over
end Go.Proofs.Ytbfalmbmalmfoaa
