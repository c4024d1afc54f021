/- PackBack: what was packed is taken out, field by field, to the last byte, for every list of fields, and the law's examples come out. No conditions. -/
import Derived.Test.YtddhdibcchoakaaFrame
import Derived.Test.YtddhdibcchoakaaPackQ
namespace Go.Proofs.Ytddhdibcchoakaa
open Go.ChangeShapes Go.WideShapes Go.ChangeAt Go.RowKit
open Go.ChangeMaps (open_string shut_string)
set_option linter.unusedVariables false

theorem bt_num (w : World) (b : Nat) (v n : Int) (R : ByteArray) (h : UK w b (some (putR v n ++ R))) (hl : (putR v n ++ R).size ≤ 1099511627776) (hok : numOk v n) (hv : v ≤ 9223372036854775807) (hn : -9223372036854775808 ≤ n ∧ n ≤ 9223372036854775807) :
    Calls Try.prog 21 #[.pointer (some ⟨b, 0, none⟩), .int .i64 n] w fun e w' => e = .returned (.int .i64 v) ∧ UK w' b (some R) ∧ Kept (fun k => k ≠ b) w w' := by
  have h' := uNum_any w b _ n h hl hn
  rwa [(num_back v n R hok hv).1, (num_back v n R hok hv).2] at h'
theorem bt_text (w : World) (b : Nat) (x R : ByteArray) (h : UK w b (some ((putR x.size 2 ++ x) ++ R))) (hl : ((putR x.size 2 ++ x) ++ R).size ≤ 1099511627776) (hx : x.size ≤ 65535) :
    Calls Try.prog 19 #[.pointer (some ⟨b, 0, none⟩), .int .i64 65535] w fun e w' => e = .returned (.string x) ∧ UK w' b (some R) ∧ Kept (fun k => k ≠ b) w w' := by
  have h' := uText_any w b _ 65535 h hl
  rwa [(text_back x R hx).1, (text_back x R hx).2] at h'
theorem bt_one (w : World) (b : Nat) (h : UK w b (some ⟨#[]⟩)) :
    Calls Try.prog 21 #[.pointer (some ⟨b, 0, none⟩), .int .i64 1] w fun e w' => e = .returned (.int .i64 0) ∧ UK w' b none ∧ Kept (fun k => k ≠ b) w w' := by
  have h' := uNum_any w b _ 1 h (by decide) (by decide)
  rwa [none_left1.1, none_left1.2] at h'
theorem bt_end0 (w : World) (b : Nat) (h : UK w b (some ⟨#[]⟩)) :
    Calls Try.prog 25 #[.pointer (some ⟨b, 0, none⟩)] w fun e w' => e = .returned (.int .i64 0) ∧ w = w' := end_any w b _ h
theorem bt_end1 (w : World) (b : Nat) (h : UK w b none) :
    Calls Try.prog 25 #[.pointer (some ⟨b, 0, none⟩)] w fun e w' => e = .returned (.int .i64 11) ∧ w = w' := end_any w b _ h
theorem bt_left (w : World) (b : Nat) (h : UK w b (some ⟨#[]⟩)) :
    Calls Try.prog 23 #[.pointer (some ⟨b, 0, none⟩)] w fun e w' => e = .returned (.int .i64 0) ∧ w = w' := left_any w b _ h

set_option maxHeartbeats 2000000 in
theorem packBack_walk (ao : Option Addr) (cap : Nat) (l : List Fld) (hl : l.length ≤ maxLen) (w : World) (h : FL w ao l) :
    Calls Try.prog 5 #[.slice ao l.length cap] w fun e w' => e = .returned (.bool true) ∧ Below w.heap.size w w' := by
  go_enter Try.func5, Try.ntmps5
  go_wp2_with fail
  refine (fair_any ao cap l _ hl h).mono ?_
  rintro e w' ⟨⟨c, rfl, hc⟩, rfl⟩
  cases c
  · clear hc
    go_wp2_with (go_at_call 8; refine (wakes_any _).mono ?_; rintro e w1 ⟨rfl, hb1⟩)
    go_ret
    exact ⟨rfl, hb1⟩
  · have hf := hc rfl
    have hl200 : l.length ≤ 200 := hf.1
    clear hc
    go_wp2_with (go_at_call 9; refine (news_any (fun k => k < w.heap.size) _ (fun _ h => h)).mono ?_; rintro e w1 ⟨rfl, hp1, hb1⟩)
    go_loopw [4] (fun i wr => ∃ k : Nat, i = .int .i64 k ∧ k ≤ l.length ∧ PKs (fun k => k < w.heap.size) wr w.heap.size (stT l k) ∧ Below w.heap.size w wr) (fun i _ => l.length - (intOf i).toNat)
    case atStart => exact ⟨0, rfl, Nat.zero_le _, by rw [stT_zero]; exact hp1, hb1⟩
    case round =>
      obtain ⟨k, rfl, hk, hp, hb⟩ := hrel
      by_cases hlt : k < l.length
      · obtain ⟨⟨bk, off, rfl, c0, c1, c2⟩, o0, o1, o2⟩ := h k hlt
        have hbk := block_lt_of_cell c0
        have hbk' : bk < w.heap.size := hbk
        have d0 := cellB hb hbk c0
        have d1 := cellB hb hbk c1
        have d2 := cellB hb hbk c2
        have xs : l[k].s.size ≤ 1099511627776 := by have := sumS_mem l k hlt; have := hf.2; omega
        have hv := i64_of_wf o1
        have HG := Lib.hid (stT_succ l k hlt)
        unfold St.go at HG
        clear o0 o1 o2
        generalize l[k] = f at *
        obtain ⟨n, v, x⟩ := f
        simp only at c0 c1 c2 d0 d1 d2 xs hv HG
        by_cases hn : n = 0
        · subst hn
          rw [if_pos rfl] at HG
          generalize stT l k = t at *
          go_wp2_with (go_at_call 11; refine (texts_any _ _ _ _ _ hp xs).mono ?_; rintro e w3 ⟨rfl, hp3, hk3⟩)
          go_roundw
          case rel => exact ⟨k + 1, by go_num, by omega, by rw [HG.out]; exact hp3, hb.trans (hk3.toBelow hb.size (fun k h => h))⟩
          case measure => simp [intOf]; omega
        · rw [if_neg hn] at HG
          have hn0 : (n == 0) = false := by simpa using hn
          clear hn
          generalize stT l k = t at *
          go_wp2_with fail
          go_still_tail 11, (by kernel_rfl)
          change wpList _ _ _ _ _ wr.drew
          have hpd := hp.keep ((Kept.refl (fun _ => True) wr).drew) (fun _ _ => trivial)
          go_wp2_with (go_at_call 13; refine (nums_any _ _ _ _ v n hpd hv).mono ?_; rintro e w3 ⟨rfl, hp3, hk3⟩; have hk3 := ((Kept.refl _ wr).drew).trans hk3)
          go_roundw
          case rel => exact ⟨k + 1, by go_num, by omega, by rw [HG.out]; exact hp3, hb.trans (hk3.toBelow hb.size (fun k h => h))⟩
          case measure => simp [intOf]; omega
      · obtain rfl : k = l.length := by omega
        by_cases hz : (stT l l.length).code = 0
        · have hbad : (stT l l.length).bad = false := by
            unfold St.code at hz
            cases hq : (stT l l.length).bad
            · rfl
            · rw [hq] at hz; cases hz
          have hsz : ¬ 65536 < (stT l l.length).s.size := fun hx => by
            unfold St.code at hz
            rw [hbad, if_neg (by decide), if_pos hx] at hz
            cases hz
          obtain ⟨HO, hs⟩ := stT_fine l l.length (Nat.le_refl _) hbad
          rw [List.take_of_length_le (Nat.le_refl _)] at hs
          have hm : (stT l l.length).made = encs (l.drop 0) := by
            rw [List.drop_zero, ← hs]
            exact if_neg (by rw [hbad]; simp; omega)
          have es : (encs (l.drop 0)).size ≤ 65536 := by rw [List.drop_zero, ← hs]; omega
          have hd := done_any _ _ _ _ _ hp
          rw [hm, hz] at hd
          have HOh := Lib.hid HO
          clear hz hm hs hbad hsz hp HO
          go_wp2_with (first | (go_at_call 15; refine hd.mono ?_; rintro e w3 ⟨rfl, kd, rfl⟩; have hbd := below_drewN hb kd) | (go_at_call 17; refine (open_any _ _).mono ?_; rintro e w5 ⟨rfl, hu5, hb5⟩))
          have hNq := hbd.size
          have hb6 : Below w.heap.size w w5 := hbd.trans (hb5.mono hbd.size)
          rw [show (wr.drewN kd).heap.size = wr.heap.size by simp] at hu5 hb5 hNq
          generalize wr.heap.size = q at *
          go_loopw [8] (fun i wu => ∃ k : Nat, i = .int .i64 k ∧ k ≤ l.length ∧ UK wu q (some (encs (l.drop k))) ∧ (encs (l.drop k)).size ≤ 65536 ∧ Below w.heap.size w wu) (fun i _ => l.length - (intOf i).toNat)
          case atStart => exact ⟨0, rfl, Nat.zero_le _, hu5, es, hb6⟩
          case round =>
            obtain ⟨k, rfl, hk, hu, hsz, hb⟩ := hrel
            by_cases hlt : k < l.length
            · obtain ⟨⟨bk, off, rfl, c0, c1, c2⟩, o0, o1, o2⟩ := h k hlt
              have hbk := block_lt_of_cell c0
              have hbk' : bk < w.heap.size := hbk
              have d0 := cellB hb hbk c0
              have d1 := cellB hb hbk c1
              have d2 := cellB hb hbk c2
              have hv := i64_of_wf o1
              have hn2 := i64_of_wf o0
              have ok := HOh.out k hlt
              rw [encs_drop l k hlt] at hu hsz
              clear o0 o1 o2
              generalize l[k] = f at *
              have HR := Lib.hid (show (encs (l.drop (k + 1))).size ≤ 65536 by rw [ByteArray.size_append] at hsz; omega)
              generalize hR : encs (l.drop (k + 1)) = R at *
              have HE := Lib.hid hR
              clear hR
              obtain ⟨n, v, x⟩ := f
              unfold okF enc at *
              simp only at c0 c1 c2 d0 d1 d2 hv hn2 ok hu hsz
              by_cases hn : n = 0
              · subst hn
                rw [if_pos rfl] at hu hsz ok
                have hud : UK wr.drew q (some ((putR x.size 2 ++ x) ++ R)) := hu.keep ((Kept.refl (fun _ => True) wr).drew) trivial
                go_wp2_with fail
                go_region_with (go_at_call 19; refine (bt_text _ _ x R hud (by omega) ok).mono ?_; rintro e w6 ⟨rfl, hu6, hk6⟩; have hk6 := ((Kept.refl _ wr).drew).trans hk6; have hb7 := hb.trans (hk6.toBelow hb.size (fun k h => by omega)); have e2 := cellB hb7 hbk c2)
                all_goals
                  go_wp2
                  go_roundw
                  case rel => exact ⟨k + 1, by go_num, by omega, by rw [HE.out]; exact hu6, by rw [HE.out]; exact HR.out, hb7⟩
                  case measure => simp [intOf]; omega
              · rw [if_neg hn] at hu hsz ok
                have hn0 : (n == 0) = false := by simpa using hn
                clear hn
                have hud : UK wr.drew q (some (putR v n ++ R)) := hu.keep ((Kept.refl (fun _ => True) wr).drew) trivial
                go_wp2_with fail
                go_region_with (go_at_call 21; refine (bt_num _ _ v n R hud (by omega) ok hv.2 hn2).mono ?_; rintro e w6 ⟨rfl, hu6, hk6⟩; have hk6 := ((Kept.refl _ wr).drew).trans hk6; have hb7 := hb.trans (hk6.toBelow hb.size (fun k h => by omega)); have e1 := cellB hb7 hbk c1)
                all_goals
                  go_wp2
                  go_roundw
                  case rel => exact ⟨k + 1, by go_num, by omega, by rw [HE.out]; exact hu6, by rw [HE.out]; exact HR.out, hb7⟩
                  case measure => simp [intOf]; omega
            · obtain rfl : k = l.length := by omega
              have hu0 : UK wr q (some ⟨#[]⟩) := by rw [List.drop_length] at hu; exact hu
              go_wp2_with (first | (go_at_call 23; refine (bt_left _ _ hu0).mono ?_; rintro e w6 ⟨rfl, rfl⟩) | (go_at_call 21; refine (bt_one _ _ hu0).mono ?_; rintro e w7 ⟨rfl, hu7, hk7⟩; have hb7 := hb.trans (hk7.toBelow hb.size (fun k h => by omega))) | (go_at_call 25; (with_reducible refine (bt_end1 _ _ hu7).mono ?_); rintro e w8 ⟨rfl, rfl⟩) | (go_at_call 25; refine (bt_end0 _ _ hu0).mono ?_; rintro e w8 ⟨rfl, rfl⟩) | (go_at_call 8; refine (wakes_any _).mono ?_; rintro e w9 ⟨rfl, hb9⟩))
              go_ret
              exact ⟨rfl, hb7.trans (hb9.mono hb7.size)⟩
        · have hm : (stT l l.length).made = ⟨#[]⟩ := by
            unfold St.code at hz
            unfold St.made
            cases hq : (stT l l.length).bad
            · rw [hq, if_neg (by decide)] at hz
              by_cases hx : 65536 < (stT l l.length).s.size
              · rw [if_pos (.inr hx)]
              · rw [if_neg hx] at hz; exact absurd rfl hz
            · rw [if_pos (.inl rfl)]
          have hd := done_any _ _ _ _ _ hp
          rw [hm] at hd
          have hz0 : ((stT l l.length).code != 0) = true := by simpa using hz
          clear hz hm hp
          generalize (stT l l.length).code = c at *
          go_wp2_with (first | (go_at_call 15; refine hd.mono ?_; rintro e w3 ⟨rfl, kd, rfl⟩; have hbd := below_drewN hb kd) | (go_at_call 8; refine (wakes_any _).mono ?_; rintro e w9 ⟨rfl, hb9⟩))
          go_ret
          exact ⟨rfl, hbd.trans (hb9.mono hbd.size)⟩

set_option maxRecDepth 100000 in
theorem packBack_lifted (os : Os) (started : os.Started) (H : Type) (enc : TypeId × Value → H) :
    ReturnsInHanded {} Try.checked os 5 .any (Rows.packBackSpec.pre6 enc Try.prog Try.f5 Rows.packBackRow.domain false) (Rows.packBackSpec.post enc Try.prog Try.f5 false true false false) := by
  refine returnsInHanded_of_change (C := Try.checked) own started (by kernel_rfl) Try.func5
    (ChangeSpec.witness6 (enc := enc) (C := Try.checked) false ⟨#[], #[.slice none 0 0], []⟩ 8 (by kernel_rfl) (by kernel_rfl) (by kernel_rfl) (by kernel_rfl)) ?_
  intro W base args ds gs before hval0 hW hcnd _
  have hval : ∀ (j : Nat) t v, Try.f5.params[j]? = some t → args[j]? = some v → Value.okWide Try.prog W .any base t v := hval0
  have hW' := hW
  obtain ⟨p, q, hA0, hV, rfl, hfz, hnd⟩ := hW
  have hA : DataW.TrodAll enc Try.prog W 0 (fun _ => true) true Try.f5.params.toList args.toList ds p := hA0
  rw [Try.params5] at hA hval
  obtain ⟨v0, vs0, d0, ds0, p0, q0, hargs, rfl, rfl, h0, r0⟩ := trodAll_cons hA
  obtain ⟨rfl, rfl, rfl⟩ := trodAll_nil r0
  obtain rfl : args = #[v0] := by cases args; simp_all
  obtain ⟨rfl, rfl⟩ := trodVars_none hV
  have k0 := h0
  have lt0 : ∀ x ∈ p0, x.block < W.heap.size := by obtain ⟨m, hm⟩ := k0; exact DataW.trod_lt m _ _ _ hm
  obtain ⟨ao0, cap0, L0, rfl, w0, hF0⟩ := open_flds Try.underlying22 Try.underlying30 (by kernel_rfl) rfl rfl rfl (by kernel_rfl) (by kernel_rfl) (by kernel_rfl) Try.underlying3 Try.underlying2 Try.underlying9 (hval 0 22 v0 rfl rfl) h0
  clear hA0 hval0
  refine (packBack_walk ao0 cap0 L0 w0 W hF0).mono fun e W' ⟨he, bel⟩ => ?_
  subst he
  exact ⟨_, rfl, _, _, _, [], _, [], hW', trodAll_mk1 (shut_bool Try.underlying4 _), (trodAll_cons_mk (Below.trod laidOut (by kernel_rfl) (of_decide_eq_true (by kernel_rfl)) k0 bel lt0) trodAll_mk0), rfl, bel.frame _, fun h => by cases h⟩

theorem packBack_over : Rows.packBackRow.holds Try.pinned (OpenSpec.ofChange Rows.packBackSpec) :=
  OpenClaim.holds_of_wide 5 Try.f5 rfl rfl rfl rfl rfl rfl rfl ⟨rfl, rfl, rfl, rfl, rfl⟩ rfl rfl rfl rfl rfl (by kernel_rfl) Try.func5 (by kernel_rfl)
    (of_decide_eq_true (by kernel_rfl)) (by unfold Func.isWrapper; first | (rw [if_pos (by decide +kernel)]; kernel_rfl) | (rw [if_neg (by decide +kernel)]; exact ⟨rfl, rfl⟩))
    (fun os started H enc _ => packBack_lifted os started H enc)

/-- THE STATEMENT -/
theorem packBack_holds : Rows.PackBackSaid := packBack_over
end Go.Proofs.Ytddhdibcchoakaa
