/- What the document's own layout answers, asked to mark an image, or asked what it does not know. Conditions: it and the question lie where the call was told. (Written by gen/genlayf.py.) -/
import Derived.Test.YthfbefkddnbbcaaLayE
namespace Go.Proofs.Ythfbefkddnbbcaa
set_option linter.unusedVariables false
open Go.RowKit
set_option maxRecDepth 20000
set_option maxHeartbeats 8000000 in
theorem ldo_other (r : Nat) (G : Nat → Prop) (w : World) (y : Ly) (a : Ak) (h : RL r G w y) (h9 : a.kind ≠ 9) (h10 : a.kind ≠ 10) (h11 : a.kind ≠ 11) :
    Calls Try.prog 14 #[ptrL r, askV a] w fun e w' => Tells (RL r) G w (y.done a) (y.ans a) e w' := by
  have ha : y.ans a = anP 1 0 noL 0 := by unfold Ly.ans; rw [if_neg h9, if_neg h10, if_neg h11]
  have hd : y.done a = y := by unfold Ly.done; rw [if_neg h10, if_neg (fun h => h11 h.1)]
  rw [ha, hd]
  clear ha hd
  obtain ⟨k, un, ep, pg, sz, n, s, pe, L, ao, cap⟩ := a
  simp only at *
  have HS := Lib.hid (show LdW w ((w.alloc (.cells #[.int .i64 k, .int .i64 un, .int .i64 ep, .int .i64 pg, .int .i64 sz, .int .i64 n, .string s, .int .i64 pe, .slice ao L.length cap] 38)).alloc (.cells #[.int .i64 0, .int .i64 0, .string ⟨#[]⟩, .int .i64 0, .slice none 0 0, .int .i64 0, .int .i64 0, .int .i64 0] 41)) r G G y ⟨k, un, ep, pg, sz, n, s, pe, L, ao, cap⟩ zeroA none from ld_start h ⟨k, un, ep, pg, sz, n, s, pe, L, ao, cap⟩)
  have H1 := Lib.hid (show LdW w ((w.alloc (.cells #[.int .i64 k, .int .i64 un, .int .i64 ep, .int .i64 pg, .int .i64 sz, .int .i64 n, .string s, .int .i64 pe, .slice ao L.length cap] 38)).alloc (.cells #[.int .i64 1, .int .i64 0, .string ⟨#[]⟩, .int .i64 0, .slice none 0 0, .int .i64 0, .int .i64 0, .int .i64 0] 41)) r G G y ⟨k, un, ep, pg, sz, n, s, pe, L, ao, cap⟩ #[.int .i64 1, .int .i64 0, .string ⟨#[]⟩, .int .i64 0, .slice none 0 0, .int .i64 0, .int .i64 0, .int .i64 0] none from ld_startY h ⟨k, un, ep, pg, sz, n, s, pe, L, ao, cap⟩ _)
  have d9 : (k == 9) = false := beq_eq_false_iff_ne.2 h9
  have d10 : (k == 10) = false := beq_eq_false_iff_ne.2 h10
  have d11 : (k == 11) = false := beq_eq_false_iff_ne.2 h11
  clear h h9 h10 h11
  show Calls _ _ #[.pointer (some ⟨r, 0, none⟩), .agg #[.int .i64 k, .int .i64 un, .int .i64 ep, .int .i64 pg, .int .i64 sz, .int .i64 n, .string s, .int .i64 pe, .slice ao L.length cap]] w _
  go_enter Try.func14, Try.ntmps14
  go_wp2_with fail
  exact ans_ret (x := anP 1 0 noL 0) (ao := none) (cap := 0) rfl H1.out.zero rfl rfl (H1.out.plain rfl)
set_option maxHeartbeats 8000000 in
theorem ldo_bad (r : Nat) (G : Nat → Prop) (w : World) (y : Ly) (a : Ak) (h : RL r G w y) (hk : a.kind = 11) (hb : badM a) :
    Calls Try.prog 14 #[ptrL r, askV a] w fun e w' => Tells (RL r) G w (y.done a) (y.ans a) e w' := by
  have ha : y.ans a = anP 1 0 noL 0 := by unfold Ly.ans; rw [if_neg (by omega), if_neg (by omega), if_pos hk, if_pos hb]
  have hd : y.done a = y := by unfold Ly.done; rw [if_neg (by omega), if_neg (fun h => h.2.1 hb)]
  rw [ha, hd]
  clear ha hd
  obtain ⟨k, un, ep, pg, sz, n, s, pe, L, ao, cap⟩ := a
  simp only at *
  have HS := Lib.hid (show LdW w ((w.alloc (.cells #[.int .i64 k, .int .i64 un, .int .i64 ep, .int .i64 pg, .int .i64 sz, .int .i64 n, .string s, .int .i64 pe, .slice ao L.length cap] 38)).alloc (.cells #[.int .i64 0, .int .i64 0, .string ⟨#[]⟩, .int .i64 0, .slice none 0 0, .int .i64 0, .int .i64 0, .int .i64 0] 41)) r G G y ⟨k, un, ep, pg, sz, n, s, pe, L, ao, cap⟩ zeroA none from ld_start h ⟨k, un, ep, pg, sz, n, s, pe, L, ao, cap⟩)
  have d11 : (k == 11) = true := by rw [hk]; rfl
  have d9 : (k == 9) = false := by rw [hk]; rfl
  have d10 : (k == 10) = false := by rw [hk]; rfl
  unfold badM at hb
  simp only at hb
  have H1 := Lib.hid (show LdW w ((w.alloc (.cells #[.int .i64 k, .int .i64 un, .int .i64 ep, .int .i64 pg, .int .i64 sz, .int .i64 n, .string s, .int .i64 pe, .slice ao L.length cap] 38)).alloc (.cells #[.int .i64 1, .int .i64 0, .string ⟨#[]⟩, .int .i64 0, .slice none 0 0, .int .i64 0, .int .i64 0, .int .i64 0] 41)) r G G y ⟨k, un, ep, pg, sz, n, s, pe, L, ao, cap⟩ #[.int .i64 1, .int .i64 0, .string ⟨#[]⟩, .int .i64 0, .slice none 0 0, .int .i64 0, .int .i64 0, .int .i64 0] none from ld_startY h ⟨k, un, ep, pg, sz, n, s, pe, L, ao, cap⟩ _)
  by_cases g0 : pg < 0
  · clear h hk hb
    show Calls _ _ #[.pointer (some ⟨r, 0, none⟩), .agg #[.int .i64 k, .int .i64 un, .int .i64 ep, .int .i64 pg, .int .i64 sz, .int .i64 n, .string s, .int .i64 pe, .slice ao L.length cap]] w _
    go_enter Try.func14, Try.ntmps14
    go_wp2_with fail
    exact ans_ret (x := anP 1 0 noL 0) (ao := none) (cap := 0) rfl H1.out.zero rfl rfl (H1.out.plain rfl)
  have g0 : 0 ≤ pg := by omega
  by_cases g1 : 16384 ≤ pg
  · clear h hk hb
    show Calls _ _ #[.pointer (some ⟨r, 0, none⟩), .agg #[.int .i64 k, .int .i64 un, .int .i64 ep, .int .i64 pg, .int .i64 sz, .int .i64 n, .string s, .int .i64 pe, .slice ao L.length cap]] w _
    go_enter Try.func14, Try.ntmps14
    go_wp2_with fail
    exact ans_ret (x := anP 1 0 noL 0) (ao := none) (cap := 0) rfl H1.out.zero rfl rfl (H1.out.plain rfl)
  have g1 : pg < 16384 := by omega
  by_cases g2 : sz < 1
  · clear h hk hb
    show Calls _ _ #[.pointer (some ⟨r, 0, none⟩), .agg #[.int .i64 k, .int .i64 un, .int .i64 ep, .int .i64 pg, .int .i64 sz, .int .i64 n, .string s, .int .i64 pe, .slice ao L.length cap]] w _
    go_enter Try.func14, Try.ntmps14
    go_wp2_with fail
    exact ans_ret (x := anP 1 0 noL 0) (ao := none) (cap := 0) rfl H1.out.zero rfl rfl (H1.out.plain rfl)
  have g2 : 1 ≤ sz := by omega
  by_cases g3 : 65536 < sz
  · clear h hk hb
    show Calls _ _ #[.pointer (some ⟨r, 0, none⟩), .agg #[.int .i64 k, .int .i64 un, .int .i64 ep, .int .i64 pg, .int .i64 sz, .int .i64 n, .string s, .int .i64 pe, .slice ao L.length cap]] w _
    go_enter Try.func14, Try.ntmps14
    go_wp2_with fail
    exact ans_ret (x := anP 1 0 noL 0) (ao := none) (cap := 0) rfl H1.out.zero rfl rfl (H1.out.plain rfl)
  have g3 : sz ≤ 65536 := by omega
  by_cases g4 : n < 0
  · clear h hk hb
    show Calls _ _ #[.pointer (some ⟨r, 0, none⟩), .agg #[.int .i64 k, .int .i64 un, .int .i64 ep, .int .i64 pg, .int .i64 sz, .int .i64 n, .string s, .int .i64 pe, .slice ao L.length cap]] w _
    go_enter Try.func14, Try.ntmps14
    go_wp2_with fail
    exact ans_ret (x := anP 1 0 noL 0) (ao := none) (cap := 0) rfl H1.out.zero rfl rfl (H1.out.plain rfl)
  have g4 : 0 ≤ n := by omega
  by_cases g5 : 16384 < n
  · clear h hk hb
    show Calls _ _ #[.pointer (some ⟨r, 0, none⟩), .agg #[.int .i64 k, .int .i64 un, .int .i64 ep, .int .i64 pg, .int .i64 sz, .int .i64 n, .string s, .int .i64 pe, .slice ao L.length cap]] w _
    go_enter Try.func14, Try.ntmps14
    go_wp2_with fail
    exact ans_ret (x := anP 1 0 noL 0) (ao := none) (cap := 0) rfl H1.out.zero rfl rfl (H1.out.plain rfl)
  have g5 : n ≤ 16384 := by omega
  exfalso
  rcases hb with h | h | h | h | h | h <;> omega
end Go.Proofs.Ythfbefkddnbbcaa
