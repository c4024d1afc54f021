/- What the statements' own small functions few and at return. Conditions: the parts lie where the call was told. -/
import Derived.Test.YtjdhbpgipoifkaaG22d
set_option linter.unusedVariables false
namespace Go.Proofs.Ytjdhbpgipoifkaa
open Go.RowKit Go.Sort
set_option linter.unusedVariables false
set_option maxRecDepth 20000
set_option maxHeartbeats 4000000 in
theorem lfew_any (ao : Option Addr) (cap : Nat) (l : List Pt) (w : World) (h : PaL w ao l) (hn : ao = none → cap = 0) (hc : l.length ≤ cap) (hl : l.length ≤ 100000) :
    Calls Try.prog 11 #[.slice ao l.length cap] w fun e w' => ∃ bo cb, e = .returned (.slice bo l.length cb) ∧ OPa w' w.heap.size (.slice bo l.length cb) l ∧ (bo = none → cb = 0) ∧ l.length ≤ cb ∧ Below w.heap.size w w' := by
  have HP := Lib.hid h
  have HM := Lib.hid (show OPa (w.alloc (.cells #[] 31)) w.heap.size (.slice (some ⟨w.heap.size, 0, none⟩) 0 0) [] from OR.made w rfl (Nat.le_refl _))
  have HB := Lib.hid (blwA w (.cells #[] 31))
  have HL := Lib.hid (show ([] : List Pt).length + l.length ≤ 1000000 from by simp; omega)
  have HNN := Lib.hid hn
  have hlI : (l.length : Int) ≤ 100000 := by omega
  clear h hn hl
  go_enter Try.func11, Try.ntmps11
  go_wp2_with (refine wpList_app_rows par_rows (o := ⟨some 5, _, _, _, _, _⟩) rfl (.tmp 3) (.tmp 4) rfl (B := w.heap.size) (D := []) rfl HM.out (ao := ao) (cap := cap) (l := l) (m := l.length) rfl rfl (HP.out.below HB.out) HNN.out hc HL.out HB.out.size ?_; intro v4 w4 hI hg _; have HO4 := Lib.hid (show OPa w4 w.heap.size v4 l from hI); have HB4 := Lib.hid (HB.out.grown hg HB.out.size (fun k e => (HM.out.lt k e).1)); clear hI hg)
  go_ret
  obtain ⟨bo, cb, hv, _, h1, h2, _⟩ := OR.form par_rows HO4.out
  subst hv
  exact ⟨bo, cb, rfl, HO4.out, h2, h1, HB4.out⟩
/-- where a byte lies; -1, 0: in a hole -/
def atP (l : List Pt) (i : Int) : Int × Int := match atE l i with | some x => x | none => (-1, 0)
theorem atP_some {l : List Pt} {i : Int} {x : Int × Int} (h : atE l i = some x) : atP l i = x := by unfold atP; rw [h]
theorem atP_none {l : List Pt} {i : Int} (h : atE l i = none) : atP l i = (-1, 0) := by unfold atP; rw [h]
theorem atE_drop {l : List Pt} {k : Nat} (hk : k < l.length) (i : Int) : atE (l.drop k) i = if l[k].off ≤ i ∧ i < l[k].off + l[k].len then some (l[k].addr, l[k].src + (i - l[k].off)) else atE (l.drop (k + 1)) i := by
  rw [List.drop_eq_getElem_cons hk]
  by_cases h : l[k].off ≤ i ∧ i < l[k].off + l[k].len
  · rw [if_pos h, atE_yes h]
  · rw [if_neg h, atE_no h]
set_option maxHeartbeats 4000000 in
theorem lat_any (ao : Option Addr) (cap : Nat) (l : List Pt) (i : Int) (hi : -100000 ≤ i ∧ i ≤ 100000) (w : World) (h : PaL w ao l) (hlen : l.length ≤ maxLen) (h1 : ∀ x ∈ l, oneB x = true) :
    Calls Try.prog 25 #[.slice ao l.length cap, .int .i64 i] w fun e w' => e = .returned (.tuple #[.int .i64 (atP l i).1, .int .i64 (atP l i).2]) ∧ Below w.heap.size w w' := by
  have HP := Lib.hid h
  have H1 := Lib.hid h1
  have HD := Lib.hid (fun k hk => @atE_drop l k hk i)
  have HY := Lib.hid (fun x => @atP_some l i x)
  have HN := Lib.hid (@atP_none l i)
  unfold maxLen at hlen
  have hlI : (l.length : Int) ≤ 9223372036854775807 := by omega
  generalize atP l i = R at *
  have HE := Lib.hid (show atE (l.drop 0) i = atE l i from rfl)
  generalize atE l i = A at *
  clear h h1
  go_enter Try.func25, Try.ntmps25
  go_wp2_with fail
  go_loopw [6] (fun s wr => ∃ k : Nat, s = .int .i64 k ∧ k ≤ l.length ∧ Hid (atE (l.drop k) i = A) ∧ Hid (Below w.heap.size w wr)) (fun s _ => l.length - (intOf s).toNat)
  case atStart => exact ⟨0, rfl, Nat.zero_le _, HE, Lib.hid (Below.refl _ _)⟩
  case round =>
    obtain ⟨k, rfl, hk, HA, HB⟩ := hrel
    by_cases hlt : k < l.length
    · have k0 : (k : Int) < (l.length : Int) := by omega
      obtain ⟨bk, bo, hao, b0, b1, b2, b3⟩ := (HP.out.below HB.out).at k hlt
      subst hao
      have HDK := Lib.hid (HD.out k hlt)
      have ob := H1.out _ (List.getElem_mem hlt)
      obtain ⟨x, hx⟩ : ∃ x, Hid (l[k] = x) := ⟨_, Lib.hid rfl⟩
      rw [hx.out] at b0 b1 b2 b3 HDK ob
      obtain ⟨o1, o2, o3, o4, o5, o6, o7⟩ := oneB_iff.1 ob
      rw [HA.out] at HDK
      clear ob
      by_cases h1 : x.off ≤ i
      · have q1 : decide (x.off ≤ i) = true := decide_eq_true h1
        by_cases h2 : i < x.off + x.len
        · have q2 : decide (i < x.off + x.len) = true := decide_eq_true h2
          rw [if_pos ⟨h1, h2⟩] at HDK
          have HR := Lib.hid (HY.out _ HDK.out)
          have HR2 := Lib.hid (show R.2 = x.src + i - x.off from by rw [HR.out]; show x.src + (i - x.off) = _; omega)
          have HR1 := Lib.hid (show R.1 = x.addr from by rw [HR.out])
          have hw1 : IntKind.i64.wrap (x.src + i) = x.src + i := IntWalk.i64_in _ (by omega)
          have hw2 : IntKind.i64.wrap (x.src + i - x.off) = x.src + i - x.off := IntWalk.i64_in _ (by omega)
          clear h1 h2
          go_wp2_with fail
          go_quiet (fail)
          go_wp2_with fail
          go_quiet (fail)
          go_wp2_with fail
          go_ret2
          rw [HR1.out, HR2.out]
          exact ⟨rfl, by first | exact below_drewN HB.out _ | exact below_drewN (below_drewN HB.out _) _⟩
        · have q2 : decide (i < x.off + x.len) = false := decide_eq_false h2
          rw [if_neg (fun h => h2 h.2)] at HDK
          have HA2 := Lib.hid HDK.out.symm
          clear h1 h2
          go_wp2_with fail
          go_quiet (fail)
          go_wp2_with fail
          go_roundw
          case rel => exact ⟨k + 1, by go_num, by omega, HA2, Lib.hid (below_drewN HB.out _)⟩
          case measure => simp [intOf]; omega
      · have q1 : decide (x.off ≤ i) = false := decide_eq_false h1
        rw [if_neg (fun h => h1 h.1)] at HDK
        have HA2 := Lib.hid HDK.out.symm
        clear h1
        go_wp2_with fail
        go_quiet (fail)
        go_wp2_with fail
        go_roundw
        case rel => exact ⟨k + 1, by go_num, by omega, HA2, Lib.hid (below_drewN HB.out _)⟩
        case measure => simp [intOf]; omega
    · obtain rfl : k = l.length := by omega
      have HR := Lib.hid (HN.out (by rw [← HA.out, List.drop_length]; rfl))
      go_wp2_with fail
      go_ret2
      rw [HR.out]
      exact ⟨rfl, HB.out⟩
end Go.Proofs.Ytjdhbpgipoifkaa
