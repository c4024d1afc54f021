/- What Good and Split return, of path. Conditions: the text is no longer than 2^40 bytes. -/
import Derived.Test.YtnladghhcghafaaPathC
import Derived.Test.YtnladghhcghafaaStrs
import Derived.Test.YtnladghhcghafaaClone
namespace Go.Proofs.Ytnladghhcghafaa
open Go.RowKit

theorem names_le (p : ByteArray) : (namesR p).length ≤ 8 ∧ (namesR p).all nameB = true := by
  cases h : goodR p
  · rw [names_none h]; exact ⟨by simp, rfl⟩
  · exact (fit_iff _).1 (good_fit p h).1
theorem cut_any (p : ByteArray) (hs : p.size ≤ 1099511627776) (w : World) :
    Calls Try.prog 21 #[.string p] w fun e w' => e = .returned (.tuple #[.agg (namesA (namesR p)), .bool (goodR p)]) ∧ Below w.heap.size w w' := by
  by_cases hp : p = slashB
  · subst hp
    rw [namesR_root, goodR_root]
    exact cut_root w
  · exact cut_in p hs hp w
theorem zeros_heap (w w1 : World) : ((w1.alloc (.cells #[.string ⟨#[]⟩, .string ⟨#[]⟩, .string ⟨#[]⟩, .string ⟨#[]⟩, .string ⟨#[]⟩, .string ⟨#[]⟩, .string ⟨#[]⟩, .string ⟨#[]⟩, .int .i64 0] 45))).heap[w1.heap.size]? = some (.cells (namesA []) 45 (0, 0)) := heap_alloc_new _ _
theorem good_any (p : ByteArray) (hs : p.size ≤ 1099511627776) (w : World) :
    Calls Try.prog 14 #[.string p] w fun e w' => e = .returned (.bool (goodR p)) ∧ Below w.heap.size w w' := by
  have c := fun w => cut_any p hs w
  have hl := (names_le p).1
  generalize namesR p = K at *
  generalize goodR p = B at *
  go_enter Try.func14, Try.ntmps14
  go_wp2_with (first | (go_at_call 21; refine (c _).mono ?_; rintro e w1 ⟨rfl, hb1⟩) | (refine wpList_store_row (o := ⟨none, _, _, _, _, _⟩) ?a1 45 (.tmp 3) (.tmp 8) ?a2 w1.heap.size (namesA K) ?a3 ?a4 45 (namesA []) (zeros_heap w w1) (names_info K hl) ((namesA_size [] (by simp)).trans (namesA_size K hl).symm) (names_one K) ?a5; (case a1 => rfl); (case a2 => rfl); (case a3 => rfl); (case a4 => rfl)))
  go_ret
  exact ⟨rfl, setRow_below (hb1.alloc hb1.size _) hb1.size _⟩
/-- the world of Split: the names' block, the row that is filled -/
def DW (w wr : World) (b g : Nat) (K : List ByteArray) (k : Nat) : Prop := NK wr b K ∧ wr.heap[g]? = some (.cells (fillS K k) 9 (0, 0)) ∧ Below w.heap.size w wr ∧ w.heap.size ≤ g ∧ b ≠ g
theorem DW.start {w w1 : World} (K : List ByteArray) (hK : K.length ≤ 8) (hb : Below w.heap.size w w1) :
    DW w (((w1.alloc (.cells #[.string ⟨#[]⟩, .string ⟨#[]⟩, .string ⟨#[]⟩, .string ⟨#[]⟩, .string ⟨#[]⟩, .string ⟨#[]⟩, .string ⟨#[]⟩, .string ⟨#[]⟩, .int .i64 0] 45)).setRow w1.heap.size (namesA K)).alloc (.cells (fillS K 0) 9)) w1.heap.size (w1.heap.size + 1) K 0 := by
  have hz : ((w1.alloc (.cells #[.string ⟨#[]⟩, .string ⟨#[]⟩, .string ⟨#[]⟩, .string ⟨#[]⟩, .string ⟨#[]⟩, .string ⟨#[]⟩, .string ⟨#[]⟩, .string ⟨#[]⟩, .int .i64 0] 45)).setRow w1.heap.size (namesA K)).heap.size = w1.heap.size + 1 := by simp
  have h1 := setRow_below (B := w.heap.size) (hb.alloc hb.size (.cells #[.string ⟨#[]⟩, .string ⟨#[]⟩, .string ⟨#[]⟩, .string ⟨#[]⟩, .string ⟨#[]⟩, .string ⟨#[]⟩, .string ⟨#[]⟩, .string ⟨#[]⟩, .int .i64 0] 45)) hb.size (namesA K)
  have hs := hb.size
  refine ⟨?_, ?_, h1.alloc (by rw [hz]; omega) _, by omega, by omega⟩
  · exact below_heap ((Below.refl _ _).alloc (Nat.le_refl _) _) (setRow_heap _ _ _ _ _ _ (heap_alloc_new _ _))
  · have := heap_alloc_new ((w1.alloc (.cells #[.string ⟨#[]⟩, .string ⟨#[]⟩, .string ⟨#[]⟩, .string ⟨#[]⟩, .string ⟨#[]⟩, .string ⟨#[]⟩, .string ⟨#[]⟩, .string ⟨#[]⟩, .int .i64 0] 45)).setRow w1.heap.size (namesA K)) (.cells (fillS K 0) 9)
    rw [hz] at this
    exact this
theorem DW.step {w wr w2 : World} {b g k : Nat} {K : List ByteArray} (h : DW w wr b g K k) (hb : Below wr.heap.size wr w2) (hk : k < K.length) : DW w (w2.setCell ⟨g, k, none⟩ (.string K[k])) b g K (k + 1) := by
  have h2 := below_heap hb h.2.1
  have e := heap_setCell_same w2 g k _ 9 (.string K[k]) h2
  rw [fillS_succ K k hk] at e
  have hs := h.2.2.1.size
  have hb2 : Below w.heap.size w w2 := h.2.2.1.trans (hb.mono hs)
  refine ⟨?_, e, hb2.setCell (p := ⟨g, k, none⟩) h.2.2.2.1 _, h.2.2.2⟩
  have h3 : w2.heap[b]? = some (.cells (namesA K) 45 (0, 0)) := below_heap hb h.1
  show (w2.setCell ⟨g, k, none⟩ _).heap[b]? = _
  rw [Below.heap_setCell _ _ _ _ h.2.2.2.2]
  exact h3
/-- what Split returns: the names in a row, and the error -/
def Splits (w : World) (L : List ByteArray) (x : Int) (e : Ending) (w' : World) : Prop := ∃ ao cap, e = .returned (.tuple #[.slice ao L.length cap, .int .i64 x]) ∧ SL w' ao L ∧ Below w.heap.size w w' ∧ L.length ≤ cap
set_option maxHeartbeats 1000000 in
theorem split_any (p : ByteArray) (hs : p.size ≤ 1099511627776) (w : World) :
    Calls Try.prog 8 #[.string p] w (Splits w (namesR p) (codeR p)) := by
  have c := fun w => cut_any p hs w
  have hl := (names_le p).1
  have hn := (names_le p).2
  cases hg : goodR p
  · have HX := Lib.hid (show codeR p = 11 by unfold codeR; rw [hg]; rfl)
    have HNN := Lib.hid (names_none hg)
    rw [hg] at c
    clear hg
    generalize namesR p = K at *
    generalize codeR p = x at *
    go_enter Try.func8, Try.ntmps8
    go_wp2_with (first | (go_at_call 21; refine (c _).mono ?_; rintro e w1 ⟨rfl, hb1⟩) | (refine wpList_store_row (o := ⟨none, _, _, _, _, _⟩) ?a1 45 (.tmp 4) (.tmp 11) ?a2 w1.heap.size (namesA K) ?a3 ?a4 45 (namesA []) (zeros_heap w w1) (names_info K hl) ((namesA_size [] (by simp)).trans (namesA_size K hl).symm) (names_one K) ?a5; (case a1 => rfl); (case a2 => rfl); (case a3 => rfl); (case a4 => rfl)))
    go_ret2
    obtain rfl := HNN.out
    rw [HX.out]
    exact ⟨none, 0, rfl, SL.nil _ _, setRow_below (hb1.alloc hb1.size _) hb1.size _, Nat.le_refl _⟩
  · have HX := Lib.hid (show codeR p = 0 by unfold codeR; rw [hg]; rfl)
    have HZ := Lib.hid (fun i (hi : i < (namesR p).length) => show (namesR p)[i].size ≤ 1099511627776 by
      have := ((nameB_iff _).1 (List.all_eq_true.1 hn _ (List.getElem_mem hi))).2.1
      omega)
    rw [hg] at c
    clear hg hn
    generalize namesR p = K at *
    generalize codeR p = x at *
    have HM := Lib.hid (fun w => make_strs K (by omega) w)
    have HDW := Lib.hid (fun (w1 : World) (hb : Below w.heap.size w w1) => DW.start K hl hb)
    go_enter Try.func8, Try.ntmps8
    go_wp2_with (first | (go_at_call 21; refine (c _).mono ?_; rintro e w1 ⟨rfl, hb1⟩; have hm := HM.out; have hcc := (show NK ((w1.alloc (.cells #[.string ⟨#[]⟩, .string ⟨#[]⟩, .string ⟨#[]⟩, .string ⟨#[]⟩, .string ⟨#[]⟩, .string ⟨#[]⟩, .string ⟨#[]⟩, .string ⟨#[]⟩, .int .i64 0] 45)).setRow w1.heap.size (namesA K)) w1.heap.size K from setRow_heap _ _ _ _ _ _ (heap_alloc_new _ _)).count hl) | (refine wpList_store_row (o := ⟨none, _, _, _, _, _⟩) ?b1 45 (.tmp 4) (.tmp 11) ?b2 w1.heap.size (namesA K) ?b3 ?b4 45 (namesA []) (zeros_heap w w1) (names_info K hl) ((namesA_size [] (by simp)).trans (namesA_size K hl).symm) (names_one K) ?b5; (case b1 => rfl); (case b2 => rfl); (case b3 => rfl); (case b4 => rfl)))
    have HS := Lib.hid (HDW.out w1 hb1)
    clear hm hcc HM HDW c
    generalize w1.heap.size = b at *
    go_loopw [20] (fun i wr => ∃ k : Nat, k ≤ K.length ∧ i = .int .i64 k ∧ Hid (DW w wr b (b + 1) K k)) (fun i _ => K.length - (intOf i).toNat)
    case atStart => exact ⟨0, Nat.zero_le _, rfl, HS⟩
    case round =>
      obtain ⟨k, hk, rfl, HR⟩ := hrel
      clear HS
      by_cases hlt : k < K.length
      · have c0 := HR.out.1.name k hlt
        go_wp2_with (go_at_call 22; refine (clone_any _ _ (HZ.out k hlt)).mono ?_; rintro e w3 ⟨rfl, hb3⟩; have HD := Lib.hid (HR.out.step hb3 hlt); have q1 := (cell_of (below_heap hb3 HR.out.2.1) k).trans (fillS_get K k k hlt); have q2 := free_of (below_heap hb3 HR.out.2.1) k)
        go_roundw
        case rel => exact ⟨k + 1, by omega, by go_num, HD⟩
        case measure => simp [intOf]; omega
      · obtain rfl : k = K.length := by omega
        go_wp2_with fail
        go_ret2
        rw [HX.out]
        exact ⟨_, _, rfl, SL.ofBlock HR.out.2.1 (fillS_all K), HR.out.2.2.1, Nat.le_refl _⟩
end Go.Proofs.Ytnladghhcghafaa
