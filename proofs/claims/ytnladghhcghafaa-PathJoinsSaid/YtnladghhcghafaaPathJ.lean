/- What Inside returns, of path; that the law's examples come out. Conditions: the texts are no longer than 2^40 bytes. -/
import Derived.Test.YtnladghhcghafaaPathI
namespace Go.Proofs.Ytnladghhcghafaa
open Go.RowKit

theorem good_names {p : ByteArray} (hg : goodR p = true) (hp : p ≠ slashB) : namesR p ≠ [] ∧ lof p = joinC (namesR p) := by
  have h := (good_fit p hg).2
  have hne : namesR p ≠ [] := by
    intro e
    rw [e] at h
    exact hp h.symm
  refine ⟨hne, ?_⟩
  rw [← pathL_eq _ hne, h]
theorem root_good (p : ByteArray) (hg : goodR p = true) : ∃ t, lof p = 47 :: t := by
  by_cases hp : p = slashB
  · subst hp; exact ⟨[], rfl⟩
  · obtain ⟨h1, h2⟩ := good_names hg hp
    rw [h2]
    cases hk : namesR p with
    | nil => exact absurd hk h1
    | cons s l => exact ⟨lof s ++ joinC l, rfl⟩
theorem prefix_parts {A B : List ByteArray} (h : A.take B.length = B) : ∃ R, A = B ++ R := ⟨A.drop B.length, by rw [← List.take_append_drop B.length A, h, List.drop_left' rfl]⟩
theorem inside_bytes {p q : ByteArray} (hg : goodR p = true) (hq : goodR q = true) (hr : q ≠ slashB) (h : (namesR p).take (namesR q).length = namesR q) : ∃ R, lof p = lof q ++ joinC R := by
  obtain ⟨R, hR⟩ := prefix_parts h
  obtain ⟨n1, e1⟩ := good_names hq hr
  have hp : p ≠ slashB := by
    intro e
    subst e
    rw [namesR_root] at hR
    cases hk : namesR q with
    | nil => exact n1 hk
    | cons s l => rw [hk] at hR; cases hR
  obtain ⟨_, e2⟩ := good_names hg hp
  exact ⟨R, by rw [e2, hR, joinC_app, ← e1]⟩
theorem insideR_of {p q : ByteArray} (hg : goodR p = true) (hq : goodR q = true) : insideR p q = decide ((namesR p).take (namesR q).length = namesR q) := by
  unfold insideR
  rw [hg, hq]
  rfl
theorem inside_root {p : ByteArray} (hg : goodR p = true) : insideR p slashB = true := by
  rw [insideR_of hg goodR_root, namesR_root]
  simp
theorem inside_same {p : ByteArray} (hg : goodR p = true) : insideR p p = true := by
  rw [insideR_of hg hg]
  simp
theorem inside_no {p q : ByteArray} (hg : goodR p = true) (hq : goodR q = true) (hr : q ≠ slashB) (h : Lib.hasPrefix (lof p) (lof q) = false) : insideR p q = false := by
  rw [insideR_of hg hq]
  apply decide_eq_false
  intro e
  obtain ⟨R, h2⟩ := inside_bytes hg hq hr e
  rw [h2] at h
  unfold Lib.hasPrefix at h
  rw [List.isPrefixOf_iff_prefix.2 (List.prefix_append _ _)] at h
  cases h
theorem inside_on {p q : ByteArray} (hg : goodR p = true) (hq : goodR q = true) (hr : q ≠ slashB) {c : UInt8} {t : List UInt8} (h : lof p = lof q ++ c :: t) : insideR p q = decide (c = 47) := by
  rw [insideR_of hg hq]
  obtain ⟨n1, e1⟩ := good_names hq hr
  by_cases hc : c = 47
  · subst hc
    have hp : p ≠ slashB := by
      intro e
      rw [e, lof_slash] at h
      cases hk : lof q with
      | nil => obtain ⟨u, hu⟩ := root_good q hq; rw [hk] at hu; cases hu
      | cons a b => rw [hk] at h; simp at h
    have hK := ((fit_iff _).1 (good_fit q hq).1).2
    rw [e1] at h
    have h2 := (good_pieces hp (namesR q) hK t h).2 hg
    rw [h2]
    simp
  · rw [decide_eq_false hc]
    apply decide_eq_false
    intro e
    obtain ⟨R, h2⟩ := inside_bytes hg hq hr e
    rw [h2] at h
    have h3 := List.append_cancel_left h
    cases R with
    | nil => cases h3
    | cons s l => exact hc (List.cons.inj h3).1.symm
theorem cutPrefix_no (p q : ByteArray) (h : Lib.hasPrefix (lof p) (lof q) = false) (w : World) :
    Calls Try.prog 28 #[.string p, .string q] w fun e w' => e = .returned (.tuple #[.string p, .bool false]) ∧ w = w' := by
  refine (Try.strings_CutPrefix p q w).mono ?_
  rintro e w' ⟨rfl, rfl⟩
  refine ⟨?_, rfl⟩
  have h' : Lib.hasPrefix p.data.toList q.data.toList = false := h
  unfold Lib.trimPrefix
  rw [h']
  rfl
theorem cutPrefix_yes (p q : ByteArray) (m : List UInt8) (h : lof p = lof q ++ m) (w : World) :
    Calls Try.prog 28 #[.string p, .string q] w fun e w' => e = .returned (.tuple #[.string (bof m), .bool true]) ∧ w = w' := by
  refine (Try.strings_CutPrefix p q w).mono ?_
  rintro e w' ⟨rfl, rfl⟩
  refine ⟨?_, rfl⟩
  have h' : Lib.hasPrefix p.data.toList q.data.toList = true := by
    show Lib.hasPrefix (lof p) (lof q) = true
    rw [h]
    exact List.isPrefixOf_iff_prefix.2 (List.prefix_append _ _)
  have h2 : p.data.toList.drop q.data.toList.length = m := by
    show (lof p).drop (lof q).length = m
    rw [h, List.drop_left]
  unfold Lib.trimPrefix
  rw [h', if_pos rfl, h2]
  rfl
theorem str_ne {p q : ByteArray} (h : p ≠ q) : (p.toList == q.toList) = false := by
  rw [beq_eq_false_iff_ne, Lib.toList_data, Lib.toList_data]
  intro e
  exact h (lof_inj e)
set_option maxHeartbeats 1000000 in
theorem inside_any (p q : ByteArray) (hp : p.size ≤ 1099511627776) (hq : q.size ≤ 1099511627776) (w : World) :
    Calls Try.prog 19 #[.string p, .string q] w fun e w' => e = .returned (.bool (insideR p q)) ∧ Below w.heap.size w w' := by
  have c := fun w => good_any p hp w
  have c' := fun w => good_any q hq w
  cases hg : goodR p
  · rw [show insideR p q = false by unfold insideR; rw [hg]; rfl]
    rw [hg] at c
    clear hg hp hq
    go_enter Try.func19, Try.ntmps19
    go_wp2_with (go_at_call 14; ((with_reducible refine (c _).mono ?_); rintro e w1 ⟨rfl, hb1⟩))
    go_ret
    exact ⟨rfl, hb1⟩
  cases hgq : goodR q
  · rw [show insideR p q = false by unfold insideR; rw [hg, hgq]; rfl]
    rw [hg] at c
    rw [hgq] at c'
    clear hg hgq hp hq
    go_enter Try.func19, Try.ntmps19
    go_wp2_with (first | (go_at_call 14; ((with_reducible refine (c _).mono ?_); rintro e w1 ⟨rfl, hb1⟩)) | (go_at_call 14; ((with_reducible refine (c' _).mono ?_); rintro e w2 ⟨rfl, hb2⟩)))
    go_ret
    exact ⟨rfl, hb1.trans (hb2.mono hb1.size)⟩
  rw [hg] at c
  rw [hgq] at c'
  by_cases hr : q = slashB
  · subst hr
    rw [inside_root hg]
    unfold slashB at *
    clear hg hgq hp hq
    go_enter Try.func19, Try.ntmps19
    go_wp2_with (first | (go_at_call 14; ((with_reducible refine (c _).mono ?_); rintro e w1 ⟨rfl, hb1⟩)) | (go_at_call 14; ((with_reducible refine (c' _).mono ?_); rintro e w2 ⟨rfl, hb2⟩)))
    go_ret
    exact ⟨rfl, hb1.trans (hb2.mono hb1.size)⟩
  have d0 := rootB hr
  by_cases hs : p = q
  · subst hs
    rw [inside_same hg]
    clear hg hgq hp hq hr
    have hb0 := Below.refl w.heap.size w
    go_enter Try.func19, Try.ntmps19
    go_wp2_with (go_at_call 14; ((with_reducible refine (c _).mono ?_); rintro e w1 ⟨rfl, hb1⟩; replace hb0 := hb0.trans (hb1.mono hb0.size); clear hb1))
    go_ret
    exact ⟨rfl, hb0⟩
  have d1 := str_ne hs
  cases hh : Lib.hasPrefix (lof p) (lof q)
  · rw [inside_no hg hgq hr hh]
    have cp := fun w => cutPrefix_no p q hh w
    clear hg hgq hp hq hr hs hh
    go_enter Try.func19, Try.ntmps19
    go_wp2_with (first | (go_at_call 14; ((with_reducible refine (c _).mono ?_); rintro e w1 ⟨rfl, hb1⟩)) | (go_at_call 14; ((with_reducible refine (c' _).mono ?_); rintro e w2 ⟨rfl, hb2⟩)) | (go_at_call 28; refine (cp _).mono ?_; rintro e w3 ⟨rfl, rfl⟩))
    go_ret
    exact ⟨rfl, hb1.trans (hb2.mono hb1.size)⟩
  · obtain ⟨m, hm⟩ := List.isPrefixOf_iff_prefix.1 hh
    cases m with
    | nil => exact absurd (lof_inj (by rw [← hm, List.append_nil])) (fun e => hs e)
    | cons x t =>
      rw [inside_on hg hgq hr hm.symm]
      have cp := fun w => cutPrefix_yes p q (x :: t) hm.symm w
      have h0 : 0 < (bof (x :: t)).size := by rw [bof_size]; simp
      have h1 : (bof (x :: t))[0] = x := rfl
      have h0' : (0 : Int) < ((bof (x :: t)).size : Int) := by omega
      generalize bof (x :: t) = M at *
      clear hg hgq hp hq hr hs hh hm
      by_cases hx : x = 47
      · have d2 : ((M[0].toNat : Int) == 47) = true := by rw [h1, hx]; rfl
        rw [decide_eq_true hx]
        clear hx h1
        go_enter Try.func19, Try.ntmps19
        go_wp2_with (first | (go_at_call 14; ((with_reducible refine (c _).mono ?_); rintro e w1 ⟨rfl, hb1⟩)) | (go_at_call 14; ((with_reducible refine (c' _).mono ?_); rintro e w2 ⟨rfl, hb2⟩)) | (go_at_call 28; refine (cp _).mono ?_; rintro e w3 ⟨rfl, rfl⟩))
        go_ret
        exact ⟨rfl, hb1.trans (hb2.mono hb1.size)⟩
      · have d2 : ((M[0].toNat : Int) == 47) = false := by rw [h1, beq_eq_false_iff_ne]; intro e; exact hx (byte_eq.1 (by omega))
        rw [decide_eq_false hx]
        clear hx h1
        go_enter Try.func19, Try.ntmps19
        go_wp2_with (first | (go_at_call 14; ((with_reducible refine (c _).mono ?_); rintro e w1 ⟨rfl, hb1⟩)) | (go_at_call 14; ((with_reducible refine (c' _).mono ?_); rintro e w2 ⟨rfl, hb2⟩)) | (go_at_call 28; refine (cp _).mono ?_; rintro e w3 ⟨rfl, rfl⟩))
        go_ret
        exact ⟨rfl, hb1.trans (hb2.mono hb1.size)⟩
theorem wk_up (w : World) : Calls Try.prog 10 #[.string ⟨#[47, 97, 47, 98]⟩] w fun e w' => e = .returned (.tuple #[.string ⟨#[47, 97]⟩, .string ⟨#[98]⟩, .bool true]) ∧ Below w.heap.size w w' := by
  have h := up_any ⟨#[47, 97, 47, 98]⟩ (by decide) w
  rw [show upR ⟨#[47, 97, 47, 98]⟩ = (⟨#[47, 97]⟩, ⟨#[98]⟩, true) by decide +kernel] at h
  exact h
theorem wk_in (w : World) : Calls Try.prog 19 #[.string ⟨#[47, 97, 47, 98]⟩, .string ⟨#[47, 97]⟩] w fun e w' => e = .returned (.bool true) ∧ Below w.heap.size w w' := by
  have h := inside_any ⟨#[47, 97, 47, 98]⟩ ⟨#[47, 97]⟩ (by decide) (by decide) w
  rw [show insideR ⟨#[47, 97, 47, 98]⟩ ⟨#[47, 97]⟩ = true by decide +kernel] at h
  exact h
theorem wk_out (w : World) : Calls Try.prog 19 #[.string ⟨#[47, 97, 98]⟩, .string ⟨#[47, 97]⟩] w fun e w' => e = .returned (.bool false) ∧ Below w.heap.size w w' := by
  have h := inside_any ⟨#[47, 97, 98]⟩ ⟨#[47, 97]⟩ (by decide) (by decide) w
  rw [show insideR ⟨#[47, 97, 98]⟩ ⟨#[47, 97]⟩ = false by decide +kernel] at h
  exact h
theorem wk_root (w : World) : Calls Try.prog 14 #[.string ⟨#[47]⟩] w fun e w' => e = .returned (.bool true) ∧ Below w.heap.size w w' := by
  have h := good_any ⟨#[47]⟩ (by decide) w
  rw [show goodR ⟨#[47]⟩ = true by decide +kernel] at h
  exact h
theorem wk_bad (w : World) : Calls Try.prog 14 #[.string ⟨#[47, 97, 47]⟩] w fun e w' => e = .returned (.bool false) ∧ Below w.heap.size w w' := by
  have h := good_any ⟨#[47, 97, 47]⟩ (by decide) w
  rw [show goodR ⟨#[47, 97, 47]⟩ = false by decide +kernel] at h
  exact h
theorem wk_name (w : World) : Calls Try.prog 12 #[.string ⟨#[97, 95, 49]⟩] w fun e w' => e = .returned (.bool true) ∧ w = w' := by
  have h := name_any ⟨#[97, 95, 49]⟩ w
  rw [show nameB ⟨#[97, 95, 49]⟩ = true by decide +kernel] at h
  exact h
set_option maxHeartbeats 400000 in
theorem wakes_any (w : World) : Calls Try.prog 7 #[] w fun e w' => e = .returned (.bool true) ∧ Below w.heap.size w w' := by
  have hb0 := Below.refl w.heap.size w
  go_enter Try.func7, Try.ntmps7
  go_wp2_with (first | (go_at_call 10; refine (wk_up _).mono ?_; rintro e w1 ⟨rfl, hb1⟩; replace hb0 := hb0.trans (hb1.mono hb0.size); clear hb1) | (go_at_call 19; ((with_reducible refine (wk_in _).mono ?_); rintro e w1 ⟨rfl, hb1⟩; replace hb0 := hb0.trans (hb1.mono hb0.size); clear hb1)) | (go_at_call 19; ((with_reducible refine (wk_out _).mono ?_); rintro e w1 ⟨rfl, hb1⟩; replace hb0 := hb0.trans (hb1.mono hb0.size); clear hb1)) | (go_at_call 14; ((with_reducible refine (wk_root _).mono ?_); rintro e w1 ⟨rfl, hb1⟩; replace hb0 := hb0.trans (hb1.mono hb0.size); clear hb1)) | (go_at_call 14; ((with_reducible refine (wk_bad _).mono ?_); rintro e w1 ⟨rfl, hb1⟩; replace hb0 := hb0.trans (hb1.mono hb0.size); clear hb1)) | (go_at_call 12; refine (wk_name _).mono ?_; rintro e w1 ⟨rfl, rfl⟩))
  go_ret
  exact ⟨rfl, hb0⟩
end Go.Proofs.Ytnladghhcghafaa
