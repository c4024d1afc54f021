/- PackPacks: fields of any kind, packed one behind the other, give the bytes and the error that the document's own packer gives, for every list of fields, and the law's examples come out. No conditions. -/
import Derived.Test.YtddhdibcchoakaaFrame
import Derived.Test.YtddhdibcchoakaaPackN
namespace Go.Proofs.Ytddhdibcchoakaa
open Go.ChangeShapes Go.WideShapes Go.ChangeAt Go.RowKit
open Go.ChangeMaps (open_string shut_string)
set_option linter.unusedVariables false

set_option maxHeartbeats 2000000 in
theorem packPacks_walk (ao : Option Addr) (cap : Nat) (l : List Fld) (hl : l.length ≤ maxLen) (w : World) (h : FL w ao l) :
    Calls Try.prog 3 #[.slice ao l.length cap] w fun e w' => e = .returned (.bool true) ∧ Below w.heap.size w w' := by
  go_enter Try.func3, Try.ntmps3
  go_wp2_with fail
  refine (fair_any ao cap l _ hl h).mono ?_
  rintro e w' ⟨⟨c, rfl, hc⟩, rfl⟩
  cases c
  · clear hc
    go_wp2_with (go_at_call 8; refine (wakes_any _).mono ?_; rintro e w1 ⟨rfl, hb1⟩)
    go_ret
    exact ⟨rfl, hb1⟩
  · have hf := hc rfl
    have hl200 : l.length ≤ 200 := hf.1
    clear hc
    go_wp2_with (first | (go_at_call 9; refine (news_any (fun k => k < w.heap.size) _ (fun _ h => h)).mono ?_; rintro e w1 ⟨rfl, hp1, hb1⟩) | (go_at_call 10; refine (refNew_any _).mono ?_; rintro e w2 ⟨rfl, hq2, hb2⟩))
    have hp2 := hp1.beside hb2 (Nat.le_refl _) (lt_of_block hq2)
    have hbb : Below w.heap.size w w2 := hb1.trans (hb2.mono hb1.size)
    have hNq := hb1.size
    generalize w1.heap.size = q at *
    go_loopw [5] (fun i wr => ∃ k : Nat, i = .int .i64 k ∧ k ≤ l.length ∧ PKs (fun k => k < w.heap.size ∨ k = q) wr w.heap.size (stT l k) ∧ QK wr q (stT l k) ∧ Below w.heap.size w wr) (fun i _ => l.length - (intOf i).toNat)
    case atStart => exact ⟨0, rfl, Nat.zero_le _, by rw [stT_zero]; exact hp2, by rw [stT_zero]; exact hq2, hbb⟩
    case round =>
      obtain ⟨k, rfl, hk, hp, hq, hb⟩ := hrel
      by_cases hlt : k < l.length
      · obtain ⟨⟨bk, off, rfl, c0, c1, c2⟩, o0, o1, o2⟩ := h k hlt
        have hbk := block_lt_of_cell c0
        have hbk' : bk < w.heap.size := hbk
        have d0 := cellB hb hbk c0
        have d1 := cellB hb hbk c1
        have d2 := cellB hb hbk c2
        have ts := stT_small l k hk hf
        have xs : l[k].s.size ≤ 1099511627776 := by have := sumS_mem l k hlt; have := hf.2; omega
        have hv := i64_of_wf o1
        have HG := Lib.hid (stT_succ l k hlt)
        unfold St.go at HG
        clear o0 o1 o2
        generalize l[k] = f at *
        obtain ⟨n, v, x⟩ := f
        simp only at c0 c1 c2 d0 d1 d2 xs hv HG
        have t1 : (stT l k).s.size ≤ 1099511627776 := by omega
        by_cases hn : n = 0
        · subst hn
          rw [if_pos rfl] at HG
          generalize stT l k = t at *
          go_wp2_with (first | (go_at_call 11; refine (texts_any _ _ _ _ _ hp xs).mono ?_; rintro e w3 ⟨rfl, hp3, hk3⟩; have hb3 := hb.trans (hk3.toBelow hb.size (fun k h => .inl h)); have e2 := cellB hb3 hbk c2) | (go_at_call 12; refine (refText_any _ _ _ _ (hq.keep hk3 (.inr rfl)) t1 xs).mono ?_; rintro e w4 ⟨rfl, hq4, hk4⟩))
          obtain ⟨r1, r2, r3⟩ := both_go hb (Nat.le_refl _) hp3 hk3 hq4 hk4 hNq
          go_roundw
          case rel => exact ⟨k + 1, by go_num, by omega, by rw [HG.out]; exact r1, by rw [HG.out]; exact r2, r3⟩
          case measure => simp [intOf]; omega
        · rw [if_neg hn] at HG
          have hn0 : (n == 0) = false := by simpa using hn
          clear hn
          generalize stT l k = t at *
          go_wp2_with fail
          go_still_tail 11, (by kernel_rfl)
          change wpList _ _ _ _ _ wr.drew
          have hpd := hp.keep ((Kept.refl (fun _ => True) wr).drew) (fun _ _ => trivial)
          go_wp2_with (go_at_call 13; refine (nums_any _ _ _ _ v n hpd hv).mono ?_; rintro e w3 ⟨rfl, hp3, hk3⟩; have hk3 := ((Kept.refl _ wr).drew).trans hk3; have hb3 := hb.trans (hk3.toBelow hb.size (fun k h => .inl h)); have e0 := cellB hb3 hbk c0; have e1 := cellB hb3 hbk c1)
          go_still_tail 11, (by kernel_rfl)
          change wpList _ _ _ _ _ w3.drew
          have hqd := (hq.keep hk3 (.inr rfl)).keep ((Kept.refl (fun _ => True) w3).drew) trivial
          go_wp2_with (go_at_call 14; refine (refNum_any _ _ _ v n hqd t1 hv).mono ?_; rintro e w4 ⟨rfl, hq4, hk4⟩)
          have hk4 := ((Kept.refl _ w3).drew).trans hk4
          obtain ⟨r1, r2, r3⟩ := both_go hb (Nat.le_refl _) hp3 hk3 hq4 hk4 hNq
          go_roundw
          case rel => exact ⟨k + 1, by go_num, by omega, by rw [HG.out]; exact r1, by rw [HG.out]; exact r2, r3⟩
          case measure => simp [intOf]; omega
      · obtain rfl : k = l.length := by omega
        have ts := stT_small l l.length hk hf
        generalize stT l l.length = t at *
        have t1 : t.s.size ≤ 1099511627776 := by omega
        go_wp2_with (first | (go_at_call 15; refine (done_any _ _ _ _ _ hp).mono ?_; rintro e w3 ⟨rfl, kd, rfl⟩) | (go_at_call 16; refine (refDone_any _ _ _ (hq.keep ((Kept.refl (fun _ => True) wr).drewN kd) trivial) t1).mono ?_; rintro e w4 ⟨rfl, rfl⟩) | (go_at_call 8; refine (wakes_any _).mono ?_; rintro e w5 ⟨rfl, hb5⟩))
        go_ret
        exact ⟨rfl, (below_drewN hb kd).trans (hb5.mono (below_drewN hb kd).size)⟩

set_option maxRecDepth 100000 in
theorem packPacks_lifted (os : Os) (started : os.Started) (H : Type) (enc : TypeId × Value → H) :
    ReturnsInHanded {} Try.checked os 3 .any (Rows.packPacksSpec.pre6 enc Try.prog Try.f3 Rows.packPacksRow.domain false) (Rows.packPacksSpec.post enc Try.prog Try.f3 false true false false) := by
  refine returnsInHanded_of_change (C := Try.checked) own started (by kernel_rfl) Try.func3
    (ChangeSpec.witness6 (enc := enc) (C := Try.checked) false ⟨#[], #[.slice none 0 0], []⟩ 8 (by kernel_rfl) (by kernel_rfl) (by kernel_rfl) (by kernel_rfl)) ?_
  intro W base args ds gs before hval0 hW hcnd _
  have hval : ∀ (j : Nat) t v, Try.f3.params[j]? = some t → args[j]? = some v → Value.okWide Try.prog W .any base t v := hval0
  have hW' := hW
  obtain ⟨p, q, hA0, hV, rfl, hfz, hnd⟩ := hW
  have hA : DataW.TrodAll enc Try.prog W 0 (fun _ => true) true Try.f3.params.toList args.toList ds p := hA0
  rw [Try.params3] at hA hval
  obtain ⟨v0, vs0, d0, ds0, p0, q0, hargs, rfl, rfl, h0, r0⟩ := trodAll_cons hA
  obtain ⟨rfl, rfl, rfl⟩ := trodAll_nil r0
  obtain rfl : args = #[v0] := by cases args; simp_all
  obtain ⟨rfl, rfl⟩ := trodVars_none hV
  have k0 := h0
  have lt0 : ∀ x ∈ p0, x.block < W.heap.size := by obtain ⟨m, hm⟩ := k0; exact DataW.trod_lt m _ _ _ hm
  obtain ⟨ao0, cap0, L0, rfl, w0, hF0⟩ := open_flds Try.underlying22 Try.underlying30 (by kernel_rfl) rfl rfl rfl (by kernel_rfl) (by kernel_rfl) (by kernel_rfl) Try.underlying3 Try.underlying2 Try.underlying9 (hval 0 22 v0 rfl rfl) h0
  clear hA0 hval0
  refine (packPacks_walk ao0 cap0 L0 w0 W hF0).mono fun e W' ⟨he, bel⟩ => ?_
  subst he
  exact ⟨_, rfl, _, _, _, [], _, [], hW', trodAll_mk1 (shut_bool Try.underlying4 _), (trodAll_cons_mk (Below.trod laidOut (by kernel_rfl) (of_decide_eq_true (by kernel_rfl)) k0 bel lt0) trodAll_mk0), rfl, bel.frame _, fun h => by cases h⟩

theorem packPacks_over : Rows.packPacksRow.holds Try.pinned (OpenSpec.ofChange Rows.packPacksSpec) :=
  OpenClaim.holds_of_wide 3 Try.f3 rfl rfl rfl rfl rfl rfl rfl ⟨rfl, rfl, rfl, rfl, rfl⟩ rfl rfl rfl rfl rfl (by kernel_rfl) Try.func3 (by kernel_rfl)
    (of_decide_eq_true (by kernel_rfl)) (by unfold Func.isWrapper; first | (rw [if_pos (by decide +kernel)]; kernel_rfl) | (rw [if_neg (by decide +kernel)]; exact ⟨rfl, rfl⟩))
    (fun os started H enc _ => packPacks_lifted os started H enc)

/-- THE STATEMENT -/
theorem packPacks_holds : Rows.PackPacksSaid := packPacks_over
end Go.Proofs.Ytddhdibcchoakaa
