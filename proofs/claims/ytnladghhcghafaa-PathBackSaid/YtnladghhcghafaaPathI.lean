/- What Up returns, of path. Conditions: the text is no longer than 2^40 bytes. -/
import Derived.Test.YtnladghhcghafaaPathH
import Derived.Deep.RegionWith
import Derived.IntWalk
namespace Go.Proofs.Ytnladghhcghafaa
open Go.RowKit

theorem last_slash {p s : ByteArray} {l : List UInt8} (h : lof p = l ++ 47 :: lof s) (hs : (47 : UInt8) ∉ lof s) : Lib.lastIndexByte p 47 = (l.length : Int) := by
  have hz : p.size = l.length + (lof s).length + 1 := by rw [lof_size, h]; simp; omega
  have at' : ∀ j, j < p.size → p.data[j]! = (lof p)[j]! := by
    intro j hj
    unfold lof
    simp only [getElem!_def, Array.getElem?_toList]
  have hl : (lof p)[l.length]! = 47 := by rw [h]; simp
  unfold Lib.lastIndexByte
  rcases Lib.lastIdx_spec p 47 p.size with ⟨_, h2⟩ | ⟨i, h1, h2, h3, h4⟩
  · have := h2 l.length (by omega)
    rw [at' _ (by omega), hl] at this
    exact absurd rfl this
  · rw [h2]
    rcases Nat.lt_trichotomy i l.length with h5 | h5 | h5
    · have := h4 l.length h5 (by omega)
      rw [at' _ (by omega), hl] at this
      exact absurd rfl this
    · rw [h5]
    · exfalso
      rw [at' _ h1] at h3
      have h6 : (lof p)[i]! = (lof s)[i - l.length - 1]! := by
        rw [h, List.getElem!_eq_getElem?_getD, List.getElem?_append_right (by omega), List.getElem!_eq_getElem?_getD, show i - l.length = (i - l.length - 1) + 1 by omega, List.getElem?_cons_succ]
        rfl
      rw [h6] at h3
      have h7 : (lof s)[i - l.length - 1]! ∈ lof s := by
        rw [List.getElem!_eq_getElem?_getD, List.getElem?_eq_getElem (by omega)]
        exact List.getElem_mem _
      rw [byte_eq.1 (by omega : ((lof s)[i - l.length - 1]!).toNat = 47)] at h7
      exact hs h7
theorem pathL_eq (I : List ByteArray) (h : I ≠ []) : lof (pathL I) = joinC I := by
  unfold pathL
  rw [if_neg h, joinL_list]
/-- a path's parts, as Up cuts them -/
theorem up_parts {p s : ByteArray} {I : List ByteArray} (hg : goodR p = true) (h : namesR p = I ++ [s]) :
    ∃ n : Nat, Lib.lastIndexByte p 47 = (n : Int) ∧ n < p.size ∧ p.extract (n + 1) p.size = s ∧ p.extract 0 (max n 1) = pathL I := by
  obtain ⟨hf, hp⟩ := good_fit p hg
  rw [h] at hf hp
  obtain ⟨hI, hs⟩ := fit_init hf
  have e : lof p = joinC I ++ 47 :: lof s := by
    rw [← hp, pathL_eq _ (by simp), joinC_app]
    simp [joinC]
  have hz : p.size = (joinC I).length + (lof s).length + 1 := by rw [lof_size, e]; simp; omega
  refine ⟨(joinC I).length, last_slash e (name_slash hs), by omega, ?_, ?_⟩
  · apply lof_inj
    rw [lof_rest, e, show (joinC I).length + 1 = (joinC I ++ [47]).length by simp, show joinC I ++ 47 :: lof s = (joinC I ++ [47]) ++ lof s by simp, List.drop_left]
  · apply lof_inj
    rw [lof_head, e]
    cases I with
    | nil => rfl
    | cons x l =>
      rw [pathL_eq _ (by simp), show max (joinC (x :: l)).length 1 = (joinC (x :: l)).length by simp [joinC], List.take_left]
set_option maxHeartbeats 1000000 in
theorem up_any (p : ByteArray) (hs : p.size ≤ 1099511627776) (w : World) :
    Calls Try.prog 10 #[.string p] w fun e w' => e = .returned (.tuple #[.string (upR p).1, .string (upR p).2.1, .bool (upR p).2.2]) ∧ Below w.heap.size w w' := by
  have c := fun w => good_any p hs w
  cases hg : goodR p
  · rw [hg] at c
    rw [upR_none (names_none hg)]
    clear hg
    go_enter Try.func10, Try.ntmps10
    go_wp2_with (go_at_call 14; refine (c _).mono ?_; rintro e w1 ⟨rfl, hb1⟩)
    go_ret3
    exact ⟨rfl, hb1⟩
  rw [hg] at c
  by_cases hp : p = slashB
  · subst hp
    rw [upR_none namesR_root]
    unfold slashB at *
    clear hg
    go_enter Try.func10, Try.ntmps10
    go_wp2_with (go_at_call 14; refine (c _).mono ?_; rintro e w1 ⟨rfl, hb1⟩)
    go_ret3
    exact ⟨rfl, hb1⟩
  have hne : namesR p ≠ [] := by
    intro e
    have := (good_fit p hg).2
    rw [e] at this
    exact hp this.symm
  obtain ⟨I, s, h⟩ := split_last _ hne
  obtain ⟨n, hn, hlt, e1, e2⟩ := up_parts hg h
  rw [upR_some I s h]
  have d0 := rootB hp
  have cl := fun w => Try.strings_LastIndexByte p 47 (by omega) w
  rw [hn] at cl
  have hz : (p.size : Int) ≤ 1099511627776 := by omega
  have hlt' : (n : Int) < (p.size : Int) := by omega
  have hm : max (n : Int) 1 = ((max n 1 : Nat) : Int) := by omega
  have hmp : max n 1 ≤ p.size := by omega
  have hm0 : (0 : Int) ≤ ((max n 1 : Nat) : Int) := by omega
  have hmp' : ((max n 1 : Nat) : Int) ≤ (p.size : Int) := by omega
  generalize max n 1 = m at *
  have c1 := fun w => clone_any (p.extract 0 m) w (by rw [ByteArray.size_extract]; omega)
  have c2 := fun w => clone_any (p.extract (n + 1) p.size) w (by rw [ByteArray.size_extract]; omega)
  have HM := Lib.hid hm
  have E1 := Lib.hid e1
  have E2 := Lib.hid e2
  have w1 : IntKind.i64.wrap ((n : Int) + 1) = (n : Int) + 1 := IntWalk.i64_in _ (by omega)
  have w2 : (0 : Int) ≤ (n : Int) + 1 := by omega
  have w3 : ((n : Int) + 1).toNat = n + 1 := by omega
  have w4 : (n : Int) + 1 ≤ (p.size : Int) := by omega
  clear hne h hn hp hg e1 e2 hm hs
  go_enter Try.func10, Try.ntmps10
  go_wp2_with (first | (go_at_call 14; refine (c _).mono ?_; rintro e w5 ⟨rfl, hb5⟩) | (go_at_call 23; refine (cl _).mono ?_; rintro e w6 ⟨rfl, rfl⟩))
  rw [HM.out]
  go_region_with (first | (go_at_call 22; ((with_reducible refine (c1 _).mono ?_); rintro e wa ⟨rfl, hba⟩)) | (go_at_call 22; ((with_reducible refine (c2 _).mono ?_); rintro e wb ⟨rfl, hbb⟩)))
  all_goals
    go_wp2_with fail
    go_ret3
    rw [E1.out, E2.out]
    have s1 := hb5.drew.size
    have b2 := hb5.drew.trans (hba.mono s1)
    exact ⟨rfl, b2.trans (hbb.mono b2.size)⟩
end Go.Proofs.Ytnladghhcghafaa
