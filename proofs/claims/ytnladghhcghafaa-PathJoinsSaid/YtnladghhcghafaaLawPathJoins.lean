/- PathJoins: the path of any names, or that there is none, is what the document's own answer says, for every list of texts; the list is as it was; and the law's examples come out. No conditions. -/
import Derived.Test.YtnladghhcghafaaFrame
import Derived.Test.YtnladghhcghafaaStrsIn
import Derived.Test.YtnladghhcghafaaPathJ
namespace Go.Proofs.Ytnladghhcghafaa
open Go.ChangeShapes Go.WideShapes Go.ChangeAt Go.RowKit
open Go.ChangeMaps (open_string shut_string)
set_option linter.unusedVariables false

theorem texts_same (A : List ByteArray) (ao bo : Option Addr) (ca cb : Nat) (w : World) (hA : SL w ao A) (hB : SL w bo A) (lA : A.length ≤ 1000000) :
    Calls Try.prog 16 #[.slice ao A.length ca, .slice bo A.length cb] w fun e w' => e = .returned (.bool true) ∧ ∃ n, w' = w.drewN n := by
  have h := texts_any A A ao bo ca cb w hA hB lA lA
  rwa [decide_eq_true rfl] at h
set_option maxHeartbeats 2000000 in
theorem pathJoins_walk (ao : Option Addr) (cap : Nat) (L : List ByteArray) (hl : L.length ≤ maxLen) (w : World) (h : SLI w ao cap L) :
    Calls Try.prog 4 #[.slice ao L.length cap] w fun e w' => e = .returned (.bool true) ∧ Below w.heap.size w w' := by
  unfold maxLen at hl
  have hb0 := Below.refl w.heap.size w
  by_cases g0 : L.length ≤ 100
  · have g0' : (L.length : Int) ≤ 100 := by omega
    have H := Lib.hid h
    have HL := Lib.hid g0
    clear hl h g0
    go_enter Try.func4, Try.ntmps4
    go_wp2_with fail
    go_loop [3] (fun i => ∃ k : Nat, k ≤ L.length ∧ i = .int .i64 k) (fun i => L.length - (intOf i).toNat)
    case atStart => exact ⟨0, Nat.zero_le _, rfl⟩
    case round =>
      obtain ⟨k, hk, rfl⟩ := hrel
      by_cases hlt : k < L.length
      · obtain ⟨bk, off, hao, c0⟩ := H.out.1 k hlt
        subst hao
        by_cases hz : L[k].size ≤ 1000
        · have hz' : (L[k].size : Int) ≤ 1000 := by omega
          clear hz
          go_wp2_with fail
          go_round
          case rel => exact ⟨k + 1, by omega, by go_num⟩
          case measure => simp [intOf]; omega
        · have hz' : (1000 : Int) < L[k].size := by omega
          clear hz
          go_wp2_with (go_at_call 7; refine (wakes_any _).mono ?_; rintro e w3 ⟨rfl, hb3⟩)
          go_ret
          exact ⟨rfl, hb3⟩
      · obtain rfl : k = L.length := by omega
        clear hlt hk
        have H1 := Lib.hid (show L.length ≤ 1000000 by have := HL.out; omega)
        have H2 := Lib.hid (show L.length ≤ 2000000 by have := HL.out; omega)
        have HA := Lib.hid (fun (w1 : World) (hb : Below w.heap.size w w1) => H.out.1.below hb)
        have e1 : ((joinR L).1.toList == (joinR L).1.toList) = true := by rw [beq_iff_eq]
        generalize hj : joinR L = J at *
        have HJ := Lib.hid hj
        clear hj
        go_wp2_with (first | (refine wpList_copy_strs (o := ⟨some 28, _, _, _, _, _⟩) ?c1 (.tmp 26) (.tmp 27) ?c2 w.heap.size ?c3 (heap_alloc_new _ _) ao cap L ?c4 ⟨HA.out _ ((Below.refl _ _).alloc (Nat.le_refl _) _), H.out.2⟩ H1.out w.heap.size w (Nat.le_refl _) ((Below.refl _ _).alloc (Nat.le_refl _) _) ?c5; (case c1 => rfl); (case c2 => rfl); (case c3 => rfl); (case c4 => rfl); intro ao1 cap1 w1 hs1 hb1; replace hb0 := hb1; clear hb1) | (go_at_call 17; refine (join_any L _ _ _ hs1 H1.out).mono ?_; rintro e w2 ⟨rfl, hb2⟩; rw [HJ.out]; replace hb0 := hb0.trans (hb2.mono hb0.size); replace hs1 := hs1.below hb2; clear hb2) | (go_at_call 18; refine (rjoin_any L _ _ _ (HA.out _ hb0) H2.out).mono ?_; rintro e w' ⟨rfl, rfl⟩; rw [HJ.out]) | (go_at_call 16; refine (texts_same L _ _ _ _ _ hs1 (HA.out _ hb0) H1.out).mono ?_; rintro e w' ⟨rfl, q, rfl⟩; replace hb0 := below_drewN hb0 q; clear hs1) | (go_at_call 7; refine (wakes_any _).mono ?_; rintro e w7 ⟨rfl, hb7⟩; replace hb0 := hb0.trans (hb7.mono hb0.size); clear hb7))
        go_ret
        exact ⟨rfl, hb0⟩
  · have g0' : (100 : Int) < L.length := by omega
    clear g0
    go_enter Try.func4, Try.ntmps4
    go_wp2_with (go_at_call 7; refine (wakes_any _).mono ?_; rintro e w3 ⟨rfl, hb3⟩)
    go_ret
    exact ⟨rfl, hb3⟩

set_option maxRecDepth 100000 in
theorem pathJoins_lifted (os : Os) (started : os.Started) (H : Type) (enc : TypeId × Value → H) :
    ReturnsInHanded {} Try.checked os 4 .any (Rows.pathJoinsSpec.pre6 enc Try.prog Try.f4 Rows.pathJoinsRow.domain false) (Rows.pathJoinsSpec.post enc Try.prog Try.f4 false true false false) := by
  refine returnsInHanded_of_change (C := Try.checked) own started (by kernel_rfl) Try.func4
    (ChangeSpec.witness6 (enc := enc) (C := Try.checked) false ⟨#[], #[.slice none 0 0], []⟩ 8 (by kernel_rfl) (by kernel_rfl) (by kernel_rfl) (by kernel_rfl)) ?_
  intro W base args ds gs before hval0 hW hcnd _
  have hval : ∀ (j : Nat) t v, Try.f4.params[j]? = some t → args[j]? = some v → Value.okWide Try.prog W .any base t v := hval0
  have hW' := hW
  obtain ⟨p, q, hA0, hV, rfl, hfz, hnd⟩ := hW
  have hA : DataW.TrodAll enc Try.prog W 0 (fun _ => true) true Try.f4.params.toList args.toList ds p := hA0
  rw [Try.params4] at hA hval
  obtain ⟨v0, vs0, d0, ds0, p0, q0, hargs, rfl, rfl, h0, r0⟩ := trodAll_cons hA
  obtain ⟨rfl, rfl, rfl⟩ := trodAll_nil r0
  obtain rfl : args = #[v0] := by cases args; simp_all
  obtain ⟨rfl, rfl⟩ := trodVars_none hV
  have k0 := h0
  have lt0 : ∀ x ∈ p0, x.block < W.heap.size := by obtain ⟨m, hm⟩ := k0; exact DataW.trod_lt m _ _ _ hm
  obtain ⟨ao0, cap0, L0, rfl, w0, hF0⟩ := open_strs Try.underlying23 Try.underlying9 (by kernel_rfl) (hval 0 23 v0 rfl rfl) h0
  clear hA0 hval0
  refine (pathJoins_walk ao0 cap0 L0 w0 W hF0).mono fun e W' ⟨he, bel⟩ => ?_
  subst he
  exact ⟨_, rfl, _, _, _, [], _, [], hW', trodAll_mk1 (shut_bool Try.underlying4 _), (trodAll_cons_mk (Below.trod laidOut (by kernel_rfl) (of_decide_eq_true (by kernel_rfl)) k0 bel lt0) trodAll_mk0), rfl, bel.frame _, fun h => by cases h⟩

theorem pathJoins_over : Rows.pathJoinsRow.holds Try.pinned (OpenSpec.ofChange Rows.pathJoinsSpec) :=
  OpenClaim.holds_of_wide 4 Try.f4 rfl rfl rfl rfl rfl rfl rfl ⟨rfl, rfl, rfl, rfl, rfl⟩ rfl rfl rfl rfl rfl (by kernel_rfl) Try.func4 (by kernel_rfl)
    (of_decide_eq_true (by kernel_rfl)) (by unfold Func.isWrapper; first | (rw [if_pos (by decide +kernel)]; kernel_rfl) | (rw [if_neg (by decide +kernel)]; exact ⟨rfl, rfl⟩))
    (fun os started H enc _ => pathJoins_lifted os started H enc)

/-- THE STATEMENT -/
theorem pathJoins_holds : Rows.PathJoinsSaid := pathJoins_over
end Go.Proofs.Ytnladghhcghafaa
