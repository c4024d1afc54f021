/- A slice of texts: what its cells hold; one that was made, filled place by place; one that was handed over. No conditions. What a Split returns: the names in a row, and the error. No conditions. What Join and Split return, of the document's own answer. Conditions: the names lie where the call was told; the text is no longer than 1000000 bytes. What Good returns, of the document's own answer. Conditions: the texts are no longer than 1000000 bytes. -/
import Derived.Test.YthileemkiplodaaJFrame
import Derived.Test.YthileemkiplodaaJKept
import Derived.Laws.MakeOwn
import Derived.Laws.NewBlocks
import Derived.Test.YthileemkiplodaaGb
set_option linter.unusedVariables false
namespace Go.Proofs.Ythileemkiplodaa
open Go.ChangeShapes Go.WideShapes Go.ChangeAt Go.RowKit

/-- the row at ao holds the texts L -/
def SL (w : World) (ao : Option Addr) (L : List ByteArray) : Prop := ∀ i (h : i < L.length), ∃ bk off, ao = some ⟨bk, off, none⟩ ∧ w.cell? ⟨bk, off + i, none⟩ = some (.string L[i])
theorem SL.nil (w : World) (ao : Option Addr) : SL w ao [] := fun i h => absurd h (Nat.not_lt_zero i)
theorem SL.below {w w' : World} {ao : Option Addr} {L : List ByteArray} (h : SL w ao L) (hb : Below w.heap.size w w') : SL w' ao L := by
  intro i hi
  obtain ⟨bk, off, h1, h2⟩ := h i hi
  exact ⟨bk, off, h1, cellB hb (block_lt_of_cell h2) h2⟩
theorem SL.take {w : World} {ao : Option Addr} {L : List ByteArray} (h : SL w ao L) (k : Nat) : SL w ao (L.take k) := by
  intro i hi
  rw [List.length_take] at hi
  obtain ⟨bk, off, h1, h2⟩ := h i (by omega)
  exact ⟨bk, off, h1, by rw [List.getElem_take]; exact h2⟩
theorem SL.left {w : World} {ao : Option Addr} {L M : List ByteArray} (h : SL w ao (L ++ M)) : SL w ao L := by
  have := h.take L.length
  rwa [List.take_left] at this
theorem SL.last {w : World} {ao : Option Addr} {L : List ByteArray} {s : ByteArray} (h : SL w ao (L ++ [s])) : ∃ bk off, ao = some ⟨bk, off, none⟩ ∧ w.cell? ⟨bk, off + L.length, none⟩ = some (.string s) := by
  obtain ⟨bk, off, h1, h2⟩ := h L.length (by simp)
  exact ⟨bk, off, h1, by rw [h2]; simp⟩
theorem SL.ofBlock {w : World} {g : Nat} {L : List ByteArray} {cs : Array Value} {t : TypeId} {fr : Nat × Nat} (h : w.heap[g]? = some (.cells cs t fr)) (hc : ∀ i (hi : i < L.length), cs[i]? = some (.string L[i])) : SL w (some ⟨g, 0, none⟩) L := by
  intro i hi
  refine ⟨g, 0, rfl, ?_⟩
  rw [Nat.zero_add, ← hc i hi]
  simp [World.cell?, h]
theorem SL.ofOwn {w : World} {base n : Nat} {e : TypeId} {v : Value} {L : List ByteArray} (h : w.ownsRow base e 1 v n (L.map Value.string)) (hn : n = L.length) : ∃ ao cap, v = .slice ao L.length cap ∧ SL w ao L ∧ L.length ≤ cap := by
  subst hn
  rcases h.2 with ⟨rfl, h0⟩ | ⟨g, cap, cur, rfl, _, hh, hnc, _, hcs, ht⟩
  · have : L = [] := List.eq_nil_of_length_eq_zero (by simpa using h0)
    subst this
    exact ⟨none, 0, rfl, SL.nil _ _, Nat.le_refl _⟩
  · refine ⟨some ⟨g, 0, none⟩, cap, rfl, SL.ofBlock hh fun i hi => ?_, hnc⟩
    have h2 : (cur.toList.take (L.length * 1))[i]? = some (.string L[i]) := by
      rw [ht, List.getElem?_map, List.getElem?_eq_getElem hi]
      rfl
    rw [List.getElem?_take] at h2
    rw [if_pos (by omega)] at h2
    simpa using h2
/-- so many texts: below k those of L, above empty ones -/
def fillS (L : List ByteArray) (k : Nat) : Array Value := ((List.range L.length).map fun i => Value.string (if i < k then L.getD i ⟨#[]⟩ else ⟨#[]⟩)).toArray
theorem fillS_size (L : List ByteArray) (k : Nat) : (fillS L k).size = L.length := by simp [fillS]
theorem fillS_get (L : List ByteArray) (k i : Nat) (h : i < L.length) : (fillS L k)[i]? = some (.string (if i < k then L.getD i ⟨#[]⟩ else ⟨#[]⟩)) := by
  unfold fillS
  simp only [List.getElem?_toArray, List.getElem?_map]
  rw [List.getElem?_range h]
  rfl
theorem fillS_succ (L : List ByteArray) (k : Nat) (h : k < L.length) : (fillS L k).setIfInBounds k (.string L[k]) = fillS L (k + 1) := by
  apply Array.ext_getElem?
  intro i
  rw [Array.getElem?_setIfInBounds]
  by_cases hi : i < L.length
  · rw [fillS_get L (k + 1) i hi]
    by_cases e : k = i
    · subst e
      simp [fillS_size, h]
    · rw [if_neg e, fillS_get L k i hi]
      have : (i < k) ↔ (i < k + 1) := by omega
      simp [this]
  · have h1 : (fillS L k)[i]? = none := by simp [fillS_size]; omega
    have h2 : (fillS L (k + 1))[i]? = none := by simp [fillS_size]; omega
    rw [h1, h2]
    have : ¬ k = i := by omega
    simp [this]
theorem fillS_all (L : List ByteArray) (i : Nat) (h : i < L.length) : (fillS L L.length)[i]? = some (.string L[i]) := by
  rw [fillS_get L L.length i h, if_pos h]
  simp [h]
theorem madeS (L : List ByteArray) : madeCells (Value.string ⟨#[]⟩).cells (L.length * 1) = fillS L 0 := by
  apply Array.ext_getElem?
  intro i
  by_cases hi : i < L.length
  · rw [fillS_get L 0 i hi, if_neg (Nat.not_lt_zero i)]
    unfold madeCells
    rw [Nat.mul_one]
    simp [hi, Value.cells, Nat.mod_one]
  · rw [Array.getElem?_eq_none (by rw [size_madeCells]; omega), Array.getElem?_eq_none (by rw [fillS_size]; omega)]
theorem str_info : (Try.prog.info? 9).map (fun i => (i.zero, i.size, i.bytes)) = some (some (.string ⟨#[]⟩), 1, 16) := by kernel_rfl
theorem make_strs (L : List ByteArray) (h : L.length ≤ 1000000) (w : World) :
    (Instr.makeSlice 87 (.int .i64 (L.length : Int)) (.int .i64 (L.length : Int))).run Try.prog w = .ok (.slice (some ⟨w.heap.size, 0, none⟩) L.length L.length) (w.alloc (.cells (fillS L 0) 9)) := by
  cases hq : Try.prog.info? 9 with
  | none => have h0 := str_info; rw [hq] at h0; cases h0
  | some i =>
    have h0 := str_info
    rw [hq] at h0
    simp only [Option.map_some, Option.some.injEq, Prod.mk.injEq] at h0
    obtain ⟨hz, hs, hb⟩ := h0
    have hr := run_make (P := Try.prog) w 87 9 i (.string ⟨#[]⟩) Try.underlying87 hq hz .i64 .i64 L.length L.length (by omega) (Int.le_refl _) (by rw [hb]; omega) (by omega)
    simp only [Int.toNat_natCast] at hr
    rw [hr, hs, madeS L]
end Go.Proofs.Ythileemkiplodaa
namespace Go.Proofs.Ythileemkiplodaa
open Go.RowKit

/-- what Split returns: the names in a row, and the error -/
def Splits (w : World) (L : List ByteArray) (x : Int) (e : Ending) (w' : World) : Prop := ∃ ao cap, e = .returned (.tuple #[.slice ao L.length cap, .int .i64 x]) ∧ SL w' ao L ∧ Below w.heap.size w w' ∧ L.length ≤ cap
end Go.Proofs.Ythileemkiplodaa
namespace Go.Proofs.Ythileemkiplodaa
open Go.RowKit
set_option maxRecDepth 20000

set_option maxHeartbeats 1000000 in
theorem rjoin_any (L : List ByteArray) (ao : Option Addr) (cap : Nat) (w : World) (h : SL w ao L) (hL : L.length ≤ 2000000) :
    Calls Try.prog 69 #[.slice ao L.length cap] w fun e w' => e = .returned (.tuple #[.string (joinR L).1, .int .i64 (joinR L).2]) ∧ w = w' := by
  by_cases h8 : 8 < L.length
  · rw [joinR_no (fit_long h8)]
    have h8' : (8 : Int) < (L.length : Int) := by omega
    have hL' : (L.length : Int) ≤ 2000000 := by omega
    clear h8
    go_enter Try.func69, Try.ntmps69
    go_wp2
    go_ret2
    exact ⟨rfl, rfl⟩
  · have h8' : (L.length : Int) ≤ 8 := by omega
    have hl8 : L.length ≤ 8 := by omega
    have HL := Lib.hid h
    have HF := Lib.hid (show L.all nameB = true → fit L = true from fun e => (fit_iff L).2 ⟨hl8, e⟩)
    have HY := Lib.hid (@joinR_yes L)
    have HN := Lib.hid (@joinR_no L)
    generalize joinR L = J at *
    clear h h8 hL
    go_enter Try.func69, Try.ntmps69
    go_wp2_with fail
    go_loop [4, 5] (fun s i => ∃ k : Nat, k ≤ L.length ∧ i = .int .i64 k ∧ s = .string (joinL (L.take k)) ∧ Hid ((L.take k).all nameB = true)) (fun _ i => L.length - (intOf i).toNat)
    case atStart => exact ⟨0, Nat.zero_le _, rfl, rfl, Lib.hid (by simp)⟩
    case round =>
      obtain ⟨k, hk, rfl, rfl, HA⟩ := hrel
      have hjl := joinL_size_le _ HA.out
      rw [List.length_take] at hjl
      have hj : (joinL (L.take k)).size ≤ 100 := by omega
      clear hjl
      by_cases hlt : k < L.length
      · obtain ⟨bk, off, hao, c0⟩ := HL.out k hlt
        have c := fun w => rname_any L[k] w
        subst hao
        cases hn : nameB L[k]
        · rw [hn] at c
          have HX := Lib.hid (HN.out (fit_not hlt hn))
          clear hn hj
          go_wp2_with (go_at_call 73; refine (c _).mono ?_; rintro e w' ⟨rfl, rfl⟩)
          go_ret2
          rw [HX.out]
          exact ⟨rfl, rfl⟩
        · rw [hn] at c
          have hS : L[k].size ≤ 8 := ((nameB_iff _).1 hn).2.1
          have HT := Lib.hid (take_names hlt HA.out hn)
          have HJ := Lib.hid (joinL_take hlt)
          clear hn
          go_wp2_with (go_at_call 73; refine (c _).mono ?_; rintro e w' ⟨rfl, rfl⟩)
          go_round
          case rel => exact ⟨k + 1, by omega, by go_num, by rw [HJ.out], HT⟩
          case measure => simp [intOf]; omega
      · obtain rfl : k = L.length := by omega
        rw [List.take_of_length_le (Nat.le_refl _)] at HA
        have HX := Lib.hid (HY.out (HF.out HA.out))
        rw [List.take_of_length_le (Nat.le_refl _)]
        by_cases h0 : L = []
        · subst h0
          rw [show joinL [] = ⟨#[]⟩ from rfl]
          clear hlt hk hj
          go_wp2_with fail
          go_ret2
          rw [HX.out]
          exact ⟨rfl, rfl⟩
        · have d0 := isEmpty_of (joinL_ne h0)
          have HP := Lib.hid (show pathL L = joinL L from if_neg h0)
          clear hlt hk h0 hj
          go_wp2_with fail
          go_ret2
          rw [HX.out, HP.out]
          exact ⟨rfl, rfl⟩
/-- the pieces so far, where the next one begins, where the loop stands -/
def RI (p : ByteArray) (D : List ByteArray) (f k : Nat) : Prop :=
  (k ≤ p.size ∧ D ++ pieces ((lof p).drop f) = pieces ((lof p).drop 1) ∧ (47 : UInt8) ∉ ((lof p).drop f).take (k - f)) ∨ (k = p.size + 1 ∧ D = pieces ((lof p).drop 1))
theorem RI.start (p : ByteArray) (h : 1 ≤ p.size) : RI p [] 1 1 := .inl ⟨h, rfl, by simp⟩
theorem RI.at {p : ByteArray} {D : List ByteArray} {f k : Nat} (h : RI p D f k) (hk : k ≤ p.size) : D ++ pieces ((lof p).drop f) = pieces ((lof p).drop 1) ∧ (47 : UInt8) ∉ ((lof p).drop f).take (k - f) := by
  rcases h with h | h
  · exact h.2
  · omega
theorem RI.done {p : ByteArray} {D : List ByteArray} {f k : Nat} (h : RI p D f k) (hk : p.size < k) : D = pieces ((lof p).drop 1) := by
  rcases h with h | h
  · omega
  · exact h.2
theorem RI.on {p : ByteArray} {D : List ByteArray} {f k : Nat} (h : RI p D f k) (hf : f ≤ k) (hk : k < p.size) (h2 : p[k] ≠ 47) : RI p D f (k + 1) := by
  obtain ⟨h3, h4⟩ := h.at (by omega)
  refine .inl ⟨by omega, h3, ?_⟩
  have hl : k - f < ((lof p).drop f).length := by rw [List.length_drop, ← lof_size]; omega
  rw [show k + 1 - f = (k - f) + 1 by omega, List.take_succ_eq_append_getElem hl, List.mem_append]
  rintro (h5 | h5)
  · exact h4 h5
  · simp only [List.mem_singleton, List.getElem_drop] at h5
    have : (lof p)[f + (k - f)]? = some (47 : UInt8) := by rw [List.getElem?_eq_getElem (by rw [← lof_size]; omega), ← h5]
    rw [show f + (k - f) = k by omega, lof_get p k hk] at this
    exact h2 (Option.some.inj this)
theorem RI.cut {p : ByteArray} {D : List ByteArray} {f k : Nat} (h : RI p D f k) (hf : f ≤ k) (hk : k < p.size) (h2 : p[k] = 47) : RI p (D ++ [p.extract f k]) (k + 1) (k + 1) := by
  obtain ⟨h3, h4⟩ := h.at (by omega)
  refine .inl ⟨by omega, ?_, by simp⟩
  rw [← h3, List.append_assoc]
  have e2 : (lof p).drop k = 47 :: (lof p).drop (k + 1) := by rw [List.drop_eq_getElem_cons (by rw [← lof_size]; exact hk), lof_at p k hk, h2]
  have e : (lof p).drop f = lof (p.extract f k) ++ 47 :: (lof p).drop (k + 1) := by
    have h5 := List.take_append_drop (k - f) ((lof p).drop f)
    rw [List.drop_drop, show f + (k - f) = k by omega, e2] at h5
    rw [lof_ext]
    exact h5.symm
  rw [e, pieces_slash, pieces_plain (lof (p.extract f k)) (by rw [lof_ext]; exact h4)]
  rfl
theorem RI.end {p : ByteArray} {D : List ByteArray} {f : Nat} (h : RI p D f p.size) : RI p (D ++ [p.extract f p.size]) (p.size + 1) (p.size + 1) := by
  obtain ⟨h3, h4⟩ := h.at (Nat.le_refl _)
  refine .inr ⟨rfl, ?_⟩
  rw [List.take_of_length_le (by rw [List.length_drop, ← lof_size]; exact Nat.le_refl _)] at h4
  rw [← h3, pieces_plain _ h4, ← lof_rest]
  rfl
theorem made_one (wr : World) (x : Value) (t : TypeId) : ∀ (j : Nat) (u : Value), [x][j]? = some u → (wr.alloc (.cells #[x] t)).cell? ((⟨wr.heap.size, 0, none⟩ : Addr).add j) = some u := by
  intro j u hj
  match j, hj with
  | 0, hj => cases hj; rw [show ((⟨wr.heap.size, 0, none⟩ : Addr).add 0) = ⟨wr.heap.size, 0, none⟩ from rfl, World.cell?_alloc_new]; rfl
  | j + 1, hj => simp at hj
theorem one_cell (s : ByteArray) : ∀ u ∈ [Value.string s], u.oneCell' = true := by
  intro u hu
  rw [List.mem_singleton] at hu
  rw [hu]
  rfl
theorem base_ok {w wr : World} (hb : Below w.heap.size w wr) (o : Obj) : w.heap.size ≤ (wr.alloc o).heap.size := by have := hb.size; simp; omega
/-- the row of pieces behind one more -/
theorem own_next {w wr w1 : World} {v v' : Value} {D : List ByteArray} {X : ByteArray} {t : TypeId} (hown : wr.ownsRow w.heap.size t 1 v D.length (D.map Value.string)) (hb : Below w.heap.size w wr)
    (h : w1.ownsRow w.heap.size t 1 v' (D.length + 1) (D.map Value.string ++ [.string X])) (hg : (wr.alloc (.cells #[.string X] t)).grownBy w1 v.ownBlock) :
    w1.ownsRow w.heap.size t 1 v' (D ++ [X]).length ((D ++ [X]).map Value.string) ∧ Below w.heap.size w w1 := by
  refine ⟨by simpa using h, (hb.alloc hb.size _).grown hg (by have := hb.size; simp; omega) (fun k hk => (hown.lt k hk).1)⟩
set_option maxHeartbeats 2000000 in
theorem rsplit_in (p : ByteArray) (hs : p.size ≤ 1000000) (hp : p ≠ slashB) (hh : (lof p).head? = some 47) (w : World) :
    Calls Try.prog 47 #[.string p] w (Splits w (namesR p) (codeR p)) := by
  obtain ⟨i0, hi, hz0, hz1, hz2⟩ := info_parts str_info
  have d0 := rootB hp
  have h1 : 1 ≤ p.size := by rw [lof_size]; cases hl : lof p with
    | nil => rw [hl] at hh; cases hh
    | cons c t => simp
  have d1 := isEmpty_of (s := p) (by intro e; rw [e] at h1; exact absurd h1 (by decide))
  have d2 : p[0] = 47 := by
    have := lof_get p 0 (by omega)
    rw [List.head?_eq_getElem?] at hh
    rw [hh] at this
    exact (Option.some.inj this).symm
  have d3 : ((p[0].toNat : Int) != 47) = false := by rw [d2]; rfl
  have hs' : (p.size : Int) ≤ 1000000 := by omega
  have HG := Lib.hid (split_of hp hh)
  have HNN := Lib.hid (@names_none p)
  have HS := Lib.hid (RI.start p h1)
  have HX := Lib.hid (show codeR p = if goodR p then 0 else 11 from rfl)
  generalize codeR p = x at *
  generalize goodR p = B at *
  generalize namesR p = K at *
  clear hp hh d2
  go_enter Try.func47, Try.ntmps47
  go_wp2_with fail
  go_loopw [4, 5, 6] (fun v fr i wr => ∃ (D : List ByteArray) (f k : Nat), i = .int .i64 k ∧ fr = .int .i64 f ∧ f ≤ k ∧ 1 ≤ k ∧ k ≤ p.size + 1 ∧ D.length ≤ k ∧ Hid (RI p D f k) ∧ wr.ownsRow w.heap.size 9 1 v D.length (D.map Value.string) ∧ Below w.heap.size w wr) (fun _ _ i _ => p.size + 1 - (intOf i).toNat)
  case atStart => exact ⟨[], 1, 1, rfl, rfl, Nat.le_refl _, Nat.le_refl _, by omega, Nat.zero_le _, HS, World.ownsRow_nil _ _ _ _, Below.refl _ _⟩
  case round =>
    obtain ⟨D, f, k, rfl, rfl, hfk, hk1, hk, hDk, HR, hown, hb⟩ := hrel
    clear HS d0 d1 d3
    have HM := Lib.hid (show D.length + 1 ≤ maxLen ∧ (D.length + 1) * 16 ≤ 140737488355328 by unfold maxLen; omega)
    by_cases hlt : k < p.size
    · by_cases h47 : p[k] = 47
      · have d4 : ((p[k].toNat : Int) == 47) = true := by rw [h47]; rfl
        have d5 : ((k : Int) == (p.size : Int)) = false := beq_eq_false_iff_ne.2 (by omega)
        have HC := Lib.hid (HR.out.cut hfk hlt h47)
        clear h47
        go_wp2_with (at_builtin; refine wpList_append_own _ rfl _ _ 87 rfl w.heap.size 9 i0 (.string ⟨#[]⟩) 1 16 Try.underlying87 hi hz0 hz1 hz2 rfl (by decide) _ _ _ rfl (hown.alloc _) ⟨wr.heap.size, 0, none⟩ 1 1 [.string (p.extract f k)] rfl rfl (made_one wr _ _) (one_cell _) HM.out.1 HM.out.2 (base_ok hb _) ?_; intro v' w1 hown' hgrow _; obtain ⟨ho2, hb2⟩ := own_next hown hb hown' hgrow; clear hown' hgrow hown hb)
        go_roundw
        case rel => exact ⟨D ++ [p.extract f k], k + 1, k + 1, by go_num, by go_num, Nat.le_refl _, by omega, by omega, by simp; omega, HC, ho2, hb2⟩
        case measure => simp [intOf]; omega
      · have d4 : ((p[k].toNat : Int) == 47) = false := by rw [beq_eq_false_iff_ne]; intro e; exact h47 (byte_eq.1 (by omega))
        have d5 : ((k : Int) == (p.size : Int)) = false := beq_eq_false_iff_ne.2 (by omega)
        have HC := Lib.hid (HR.out.on hfk hlt h47)
        clear h47
        go_wp2_with fail
        go_roundw
        case rel => exact ⟨D, f, k + 1, by go_num, rfl, by omega, by omega, by omega, by omega, HC, hown, hb⟩
        case measure => simp [intOf]; omega
    · by_cases hend : k = p.size
      · subst hend
        have HC := Lib.hid HR.out.end
        go_wp2_with (at_builtin; refine wpList_append_own _ rfl _ _ 87 rfl w.heap.size 9 i0 (.string ⟨#[]⟩) 1 16 Try.underlying87 hi hz0 hz1 hz2 rfl (by decide) _ _ _ rfl (hown.alloc _) ⟨wr.heap.size, 0, none⟩ 1 1 [.string (p.extract f p.size)] rfl rfl (made_one wr _ _) (one_cell _) HM.out.1 HM.out.2 (base_ok hb _) ?_; intro v' w1 hown' hgrow _; obtain ⟨ho2, hb2⟩ := own_next hown hb hown' hgrow; clear hown' hgrow hown hb)
        go_roundw
        case rel => exact ⟨D ++ [p.extract f p.size], p.size + 1, p.size + 1, by go_num, by go_num, Nat.le_refl _, by omega, by omega, by simp; omega, HC, ho2, hb2⟩
        case measure => simp [intOf]
      · have hD := HR.out.done (by omega)
        obtain ⟨ao, cap, rfl, hsl, hcap⟩ := SL.ofOwn hown rfl
        have HCAP := Lib.hid hcap
        clear hcap
        have c := rjoin_any D ao cap wr hsl (by omega)
        have hk' : decide (k ≤ p.size) = false := decide_eq_false (by omega)
        have HB := Lib.hid hb
        have HSL := Lib.hid hsl
        rw [← hD] at HG
        cases hf : fit D
        · rw [joinR_no hf] at c
          have h2 := HG.out.1.trans hf
          have HK := Lib.hid (HNN.out h2)
          have HXX := Lib.hid (show x = 11 by have := HX.out; rw [h2] at this; exact this)
          clear hf h2 HG HX HNN hD hsl hown hb HM hlt hend
          go_wp2_with (go_at_call 69; refine c.mono ?_; rintro e w' ⟨rfl, rfl⟩)
          go_ret2
          obtain rfl := HK.out
          rw [HXX.out]
          exact ⟨none, 0, rfl, SL.nil _ _, HB.out, Nat.le_refl _⟩
        · rw [joinR_yes hf] at c
          have h2 := HG.out.1.trans hf
          have HK := Lib.hid (show K = D by rw [HG.out.2 h2, hD])
          have HXX := Lib.hid (show x = 0 by have := HX.out; rw [h2] at this; exact this)
          clear hf h2 HG HX HNN hD hsl hown hb HM hlt hend
          go_wp2_with (go_at_call 69; refine c.mono ?_; rintro e w' ⟨rfl, rfl⟩)
          go_ret2
          obtain rfl := HK.out
          rw [HXX.out]
          exact ⟨ao, cap, rfl, HSL.out, HB.out, HCAP.out⟩
theorem rsplit_any (p : ByteArray) (hs : p.size ≤ 1000000) (w : World) :
    Calls Try.prog 47 #[.string p] w (Splits w (namesR p) (codeR p)) := by
  by_cases hp : p = slashB
  · subst hp
    rw [namesR_root, show codeR slashB = 0 by unfold codeR; rw [goodR_root]; rfl]
    unfold slashB
    go_enter Try.func47, Try.ntmps47
    go_wp2_with fail
    go_ret2
    exact ⟨none, 0, rfl, SL.nil _ _, Below.refl _ _, Nat.le_refl _⟩
  · by_cases hh : (lof p).head? = some 47
    · exact rsplit_in p hs hp hh w
    · have hg := cut_none hp hh
      rw [names_none hg, show codeR p = 11 by unfold codeR; rw [hg]; rfl]
      have d0 := rootB hp
      by_cases h0 : p = ⟨#[]⟩
      · subst h0
        clear hp hh hg d0
        go_enter Try.func47, Try.ntmps47
        go_wp2_with fail
        go_ret2
        exact ⟨none, 0, rfl, SL.nil _ _, Below.refl _ _, Nat.le_refl _⟩
      · have d1 := isEmpty_of h0
        have h1 : 0 < p.size := by
          rcases Nat.eq_zero_or_pos p.size with e | e
          · exact absurd (ByteArray.ext (Array.eq_empty_of_size_eq_zero e)) h0
          · exact e
        have d3 : ((p[0].toNat : Int) != 47) = true := by
          rw [bne_iff_ne]
          intro e
          apply hh
          rw [List.head?_eq_getElem?, lof_get p 0 h1, byte_eq.1 (by omega : p[0].toNat = 47)]
        clear hp hh hg h0
        go_enter Try.func47, Try.ntmps47
        go_wp2_with fail
        go_ret2
        exact ⟨none, 0, rfl, SL.nil _ _, Below.refl _ _, Nat.le_refl _⟩
end Go.Proofs.Ythileemkiplodaa
namespace Go.Proofs.Ythileemkiplodaa
open Go.RowKit
set_option maxRecDepth 20000

theorem rgood_any (p : ByteArray) (hs : p.size ≤ 1000000) (w : World) :
    Calls Try.prog 30 #[.string p] w fun e w' => e = .returned (.bool (goodR p)) ∧ Below w.heap.size w w' := by
  have c := fun w => rsplit_any p hs w
  cases hg : goodR p
  · rw [show codeR p = 11 by unfold codeR; rw [hg]; rfl] at c
    clear hg hs
    generalize namesR p = K at *
    go_enter Try.func30, Try.ntmps30
    go_wp2_with (go_at_call 47; refine (c _).mono ?_; rintro e w1 ⟨ao, cap, rfl, _, hb1, _⟩)
    go_ret
    exact ⟨rfl, hb1⟩
  · rw [show codeR p = 0 by unfold codeR; rw [hg]; rfl] at c
    clear hg hs
    generalize namesR p = K at *
    go_enter Try.func30, Try.ntmps30
    go_wp2_with (go_at_call 47; refine (c _).mono ?_; rintro e w1 ⟨ao, cap, rfl, _, hb1, _⟩)
    go_ret
    exact ⟨rfl, hb1⟩
end Go.Proofs.Ythileemkiplodaa
