/- PackOpens: what an unpacker takes out of any text, number by number and text by text, and what is left of it, is what the document's own unpacker takes out, for every text and every list of sizes, and the law's examples come out. No conditions. -/
import Derived.Test.YtddhdibcchoakaaFrame
import Derived.Test.YtddhdibcchoakaaNums
import Derived.Test.YtddhdibcchoakaaPackP
import Derived.Test.YtddhdibcchoakaaPackW
namespace Go.Proofs.Ytddhdibcchoakaa
open Go.ChangeShapes Go.WideShapes Go.ChangeAt Go.RowKit
open Go.ChangeMaps (open_string shut_string)
set_option linter.unusedVariables false

def oStep (most : Int) (o : Option ByteArray) (n : Int) : Option ByteArray := if n = 0 then textO o most else numO o n
def oT (s : ByteArray) (most : Int) (l : List Int) (k : Nat) : Option ByteArray := (l.take k).foldl (oStep most) (some s)
theorem oT_zero (s : ByteArray) (most : Int) (l : List Int) : oT s most l 0 = some s := by simp [oT]
theorem oT_succ (s : ByteArray) (most : Int) (l : List Int) (k : Nat) (h : k < l.length) : oT s most l (k + 1) = oStep most (oT s most l k) l[k] := by
  unfold oT
  rw [List.take_succ_eq_append_getElem h, List.foldl_append]
  rfl
theorem textO_size (o : Option ByteArray) (most : Int) : (ukL (textO o most)).size ≤ (ukL o).size := by
  have h := numO_size o 2
  unfold textO
  split
  · show ((ukL (numO o 2)).extract _ _).size ≤ _
    rw [ByteArray.size_extract]
    omega
  · exact Nat.zero_le _
theorem oT_size (s : ByteArray) (most : Int) (l : List Int) (k : Nat) (h : k ≤ l.length) : (ukL (oT s most l k)).size ≤ s.size := by
  induction k with
  | zero => rw [oT_zero]; exact Nat.le_refl _
  | succ k ih =>
    rw [oT_succ s most l k (by omega)]
    have := ih (by omega)
    unfold oStep
    split
    · have := textO_size (oT s most l k) most; omega
    · have := numO_size (oT s most l k) (l[k]'(by omega)); omega
theorem both_un {N u q : Nat} {w w1 w2 w3 : World} {s : ByteArray} {o : Option ByteArray} (hb : Below N w w1) (hN : N ≤ w.heap.size) (hu : UK w2 u o) (hk : Kept (fun k => k ≠ u) w1 w2) (hq : RKo w3 q s o) (hk3 : Kept (fun k => k ≠ q) w2 w3) (hNu : N ≤ u) (hNq : N ≤ q) (hne : u ≠ q) :
    UK w3 u o ∧ RKo w3 q s o ∧ Below N w w3 := by
  have s1 : N ≤ w1.heap.size := Nat.le_trans hN hb.size
  have b2 : Below N w w2 := hb.trans (hk.toBelow s1 (fun k h => by omega))
  exact ⟨hu.keep hk3 hne, hq, b2.trans (hk3.toBelow (Nat.le_trans s1 hk.size) (fun k h => by omega))⟩

set_option maxHeartbeats 2000000 in
theorem packOpens_walk (a0 : ByteArray) (ao : Option Addr) (cap : Nat) (l : List Int) (a2 : Int) (w0 : a0.size ≤ maxLen) (hl : l.length ≤ maxLen) (w2 : (Lit.int .i64 a2).wf = true) (w : World) (h : NL w ao l) :
    Calls Try.prog 4 #[.string a0, .slice ao l.length cap, .int .i64 a2] w fun e w' => e = .returned (.bool true) ∧ Below w.heap.size w w' := by
  unfold maxLen at hl w0
  by_cases hs : a0.size ≤ 70000
  · by_cases hn : l.length ≤ 200
    · have hs1 : (a0.size : Int) ≤ 70000 := by omega
      have hn1 : (l.length : Int) ≤ 200 := by omega
      have hm := i64_of_wf w2
      clear w2
      go_enter Try.func4, Try.ntmps4
      go_wp2_with (first | (go_at_call 17; refine (open_any a0 _).mono ?_; rintro e w3 ⟨rfl, hu3, hb3⟩) | (go_at_call 18; refine (refOpen_any a0 _).mono ?_; rintro e w4 ⟨rfl, hq4, hb4⟩))
      have hu4 : UK w4 w.heap.size (some a0) := hu3.keep (Kept.ofBelow hb4 (fun _ => True)) trivial
      have hqo : RKo w4 w3.heap.size a0 (some a0) := ⟨0, false, hq4, by show some (a0.extract 0 a0.size) = some a0; rw [ext_all]⟩
      have hbb : Below w.heap.size w w4 := hb3.trans (hb4.mono hb3.size)
      have hNq := hb3.size
      have hne : w.heap.size ≠ w3.heap.size := by have := lt_of_block (show w3.heap[w.heap.size]? = _ from hu3); omega
      generalize w3.heap.size = q at *
      go_loopw [9] (fun i wr => ∃ k : Nat, i = .int .i64 k ∧ k ≤ l.length ∧ UK wr w.heap.size (oT a0 a2 l k) ∧ RKo wr q a0 (oT a0 a2 l k) ∧ Below w.heap.size w wr) (fun i _ => l.length - (intOf i).toNat)
      case atStart => exact ⟨0, rfl, Nat.zero_le _, by rw [oT_zero]; exact hu4, by rw [oT_zero]; exact hqo, hbb⟩
      case round =>
        obtain ⟨k, rfl, hk, hu, hq, hb⟩ := hrel
        by_cases hlt : k < l.length
        · obtain ⟨⟨bk, off, rfl, c0⟩, o0⟩ := h k hlt
          have hbk := block_lt_of_cell c0
          have hbk' : bk < w.heap.size := hbk
          have d0 := cellB hb hbk c0
          have ho := oT_size a0 a2 l k hk
          have hsz : (ukL (oT a0 a2 l k)).size ≤ 1099511627776 := by omega
          have ha : a0.size ≤ 1099511627776 := by omega
          have hv := i64_of_wf o0
          have HG := Lib.hid (oT_succ a0 a2 l k hlt)
          unfold oStep at HG
          clear o0
          generalize l[k] = n at *
          by_cases hn0 : n = 0
          · subst hn0
            rw [if_pos rfl] at HG
            generalize oT a0 a2 l k = o at *
            obtain ⟨E0, E1⟩ := ukE_range (textO o a2)
            go_wp2_with (first | (go_at_call 19; refine (uText_any _ _ o a2 hu hsz).mono ?_; rintro e w5 ⟨rfl, hu5, hk5⟩; have hq5 := hq.keep hk5 (Ne.symm hne)) | (go_at_call 20; refine (rText_any _ _ a0 o a2 hq5 ha).mono ?_; rintro e w6 ⟨rfl, hq6, hk6⟩; have hB := both_un hb (Nat.le_refl _) hu5 hk5 hq6 hk6 (Nat.le_refl _) hNq hne; obtain ⟨r1, r2, r3⟩ := hB) | (go_at_call 23; refine (left_any _ _ _ r1).mono ?_; rintro e w7 ⟨rfl, rfl⟩) | (go_at_call 24; refine (refLeft_o _ _ a0 _ r2 ha).mono ?_; rintro e w8 ⟨rfl, kd, rfl⟩; have r1b := r1.keep ((Kept.refl (fun _ => True) w6).drewN kd) trivial; have r2b := r2.keep ((Kept.refl (fun _ => True) w6).drewN kd) trivial; have r3b := below_drewN r3 kd) | (go_at_call 25; refine (end_any _ _ _ r1b).mono ?_; rintro e w9 ⟨rfl, rfl⟩) | (go_at_call 26; refine (refEnd_o _ _ a0 _ r2b).mono ?_; rintro e w10 ⟨rfl, ke, rfl⟩; have r1c := r1b.keep ((Kept.refl (fun _ => True) _).drewN ke) trivial; have r2c := r2b.keep ((Kept.refl (fun _ => True) _).drewN ke) trivial; have r3c := below_drewN r3b ke))
            go_roundw
            case rel => exact ⟨k + 1, by go_num, by omega, by rw [HG.out]; exact r1.keep ((Kept.refl (fun _ => True) _).drewN _) trivial, by rw [HG.out]; exact r2.keep ((Kept.refl (fun _ => True) _).drewN _) trivial, below_drewN r3 _⟩
            case measure => simp [intOf]; omega
          · rw [if_neg hn0] at HG
            have d1 : (n == 0) = false := by simpa using hn0
            clear hn0
            generalize oT a0 a2 l k = o at *
            obtain ⟨E0, E1⟩ := ukE_range (numO o n)
            have hud : UK wr.drew w.heap.size o := hu.keep ((Kept.refl (fun _ => True) wr).drew) trivial
            go_wp2_with fail
            go_region_with (first | (go_at_call 21; refine (uNum_any _ _ o n hud hsz hv).mono ?_; rintro e w5 ⟨rfl, hu5, hk5⟩; have hk5 := ((Kept.refl _ wr).drew).trans hk5; have hq5 := hq.keep hk5 (Ne.symm hne); have e0 := cellB (hb.trans (hk5.toBelow hb.size (fun k h => Nat.ne_of_lt h))) hbk c0) | (go_at_call 22; refine (rNum_any _ _ a0 o n hq5 ha hv).mono ?_; rintro e w6 ⟨rfl, hq6, hk6⟩; have hB := both_un hb (Nat.le_refl _) hu5 hk5 hq6 hk6 (Nat.le_refl _) hNq hne; obtain ⟨r1, r2, r3⟩ := hB))
            all_goals
              go_wp2_with (first | (go_at_call 23; refine (left_any _ _ _ r1).mono ?_; rintro e w7 ⟨rfl, rfl⟩) | (go_at_call 24; refine (refLeft_o _ _ a0 _ r2 ha).mono ?_; rintro e w8 ⟨rfl, kd, rfl⟩; have r1b := r1.keep ((Kept.refl (fun _ => True) w6).drewN kd) trivial; have r2b := r2.keep ((Kept.refl (fun _ => True) w6).drewN kd) trivial; have r3b := below_drewN r3 kd) | (go_at_call 25; refine (end_any _ _ _ r1b).mono ?_; rintro e w9 ⟨rfl, rfl⟩) | (go_at_call 26; refine (refEnd_o _ _ a0 _ r2b).mono ?_; rintro e w10 ⟨rfl, ke, rfl⟩; have r1c := r1b.keep ((Kept.refl (fun _ => True) _).drewN ke) trivial; have r2c := r2b.keep ((Kept.refl (fun _ => True) _).drewN ke) trivial; have r3c := below_drewN r3b ke))
              go_roundw
              case rel => exact ⟨k + 1, by go_num, by omega, by rw [HG.out]; exact r1.keep ((Kept.refl (fun _ => True) _).drewN _) trivial, by rw [HG.out]; exact r2.keep ((Kept.refl (fun _ => True) _).drewN _) trivial, below_drewN r3 _⟩
              case measure => simp [intOf]; omega
        · obtain rfl : k = l.length := by omega
          go_wp2_with (go_at_call 8; refine (wakes_any _).mono ?_; rintro e w5 ⟨rfl, hb5⟩)
          go_ret
          exact ⟨rfl, hb.trans (hb5.mono hb.size)⟩
    · have hn1 : 200 < (l.length : Int) := by omega
      have hs1 : (a0.size : Int) ≤ 70000 := by omega
      clear w2
      go_enter Try.func4, Try.ntmps4
      go_wp2_with (go_at_call 8; refine (wakes_any _).mono ?_; rintro e w5 ⟨rfl, hb5⟩)
      go_ret
      exact ⟨rfl, hb5⟩
  · have hs1 : 70000 < (a0.size : Int) := by omega
    clear w2
    go_enter Try.func4, Try.ntmps4
    go_wp2_with (go_at_call 8; refine (wakes_any _).mono ?_; rintro e w5 ⟨rfl, hb5⟩)
    go_ret
    exact ⟨rfl, hb5⟩

set_option maxRecDepth 100000 in
theorem packOpens_lifted (os : Os) (started : os.Started) (H : Type) (enc : TypeId × Value → H) :
    ReturnsInHanded {} Try.checked os 4 .any (Rows.packOpensSpec.pre6 enc Try.prog Try.f4 Rows.packOpensRow.domain false) (Rows.packOpensSpec.post enc Try.prog Try.f4 false true false false) := by
  refine returnsInHanded_of_change (C := Try.checked) own started (by kernel_rfl) Try.func4
    (ChangeSpec.witness6 (enc := enc) (C := Try.checked) false ⟨#[], #[.string ByteArray.empty, .slice none 0 0, .int .i64 0], []⟩ 8 (by kernel_rfl) (by kernel_rfl) (by kernel_rfl) (by kernel_rfl)) ?_
  intro W base args ds gs before hval0 hW hcnd _
  have hval : ∀ (j : Nat) t v, Try.f4.params[j]? = some t → args[j]? = some v → Value.okWide Try.prog W .any base t v := hval0
  have hW' := hW
  obtain ⟨p, q, hA0, hV, rfl, hfz, hnd⟩ := hW
  have hA : DataW.TrodAll enc Try.prog W 0 (fun _ => true) true Try.f4.params.toList args.toList ds p := hA0
  rw [Try.params4] at hA hval
  obtain ⟨v0, vs0, d0, ds0, p0, q0, hargs, rfl, rfl, h0, r0⟩ := trodAll_cons hA
  obtain ⟨v1, vs1, d1, ds1, p1, q1, rfl, rfl, rfl, h1, r1⟩ := trodAll_cons r0
  obtain ⟨v2, vs2, d2, ds2, p2, q2, rfl, rfl, rfl, h2, r2⟩ := trodAll_cons r1
  obtain ⟨rfl, rfl, rfl⟩ := trodAll_nil r2
  obtain rfl : args = #[v0, v1, v2] := by cases args; simp_all
  obtain ⟨rfl, rfl⟩ := trodVars_none hV
  have k0 := h0
  have lt0 : ∀ x ∈ p0, x.block < W.heap.size := by obtain ⟨m, hm⟩ := k0; exact DataW.trod_lt m _ _ _ hm
  have k1 := h1
  have lt1 : ∀ x ∈ p1, x.block < W.heap.size := by obtain ⟨m, hm⟩ := k1; exact DataW.trod_lt m _ _ _ hm
  have k2 := h2
  have lt2 : ∀ x ∈ p2, x.block < W.heap.size := by obtain ⟨m, hm⟩ := k2; exact DataW.trod_lt m _ _ _ hm
  obtain ⟨a0, rfl, rfl, rfl, w0⟩ := open_string Try.underlying9 (hval 0 9 v0 rfl rfl) h0
  obtain ⟨ao1, cap1, L1, rfl, w1, hF1⟩ := open_nums Try.underlying38 Try.underlying3 (by kernel_rfl) (hval 1 38 v1 rfl rfl) h1
  obtain ⟨a2, rfl, rfl, rfl, w2⟩ := open_int Try.underlying3 (hval 2 3 v2 rfl rfl) h2
  clear hA0 hval0
  refine (packOpens_walk a0 ao1 cap1 L1 a2 w0 w1 w2 W hF1).mono fun e W' ⟨he, bel⟩ => ?_
  subst he
  exact ⟨_, rfl, _, _, _, [], _, [], hW', trodAll_mk1 (shut_bool Try.underlying4 _), (trodAll_cons_mk (Below.trod laidOut (by kernel_rfl) (of_decide_eq_true (by kernel_rfl)) k0 bel lt0) (trodAll_cons_mk (Below.trod laidOut (by kernel_rfl) (of_decide_eq_true (by kernel_rfl)) k1 bel lt1) (trodAll_cons_mk (Below.trod laidOut (by kernel_rfl) (of_decide_eq_true (by kernel_rfl)) k2 bel lt2) trodAll_mk0))), rfl, bel.frame _, fun h => by cases h⟩

theorem packOpens_over : Rows.packOpensRow.holds Try.pinned (OpenSpec.ofChange Rows.packOpensSpec) :=
  OpenClaim.holds_of_wide 4 Try.f4 rfl rfl rfl rfl rfl rfl rfl ⟨rfl, rfl, rfl, rfl, rfl⟩ rfl rfl rfl rfl rfl (by kernel_rfl) Try.func4 (by kernel_rfl)
    (of_decide_eq_true (by kernel_rfl)) (by unfold Func.isWrapper; first | (rw [if_pos (by decide +kernel)]; kernel_rfl) | (rw [if_neg (by decide +kernel)]; exact ⟨rfl, rfl⟩))
    (fun os started H enc _ => packOpens_lifted os started H enc)

/-- THE STATEMENT -/
theorem packOpens_holds : Rows.PackOpensSaid := packOpens_over
end Go.Proofs.Ytddhdibcchoakaa
