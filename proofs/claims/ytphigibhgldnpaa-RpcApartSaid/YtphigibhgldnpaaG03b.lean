/- strings.Clone hands back the same bytes, in memory of its own. Conditions: the text is no longer than 2^48 bytes. Keys of maps that are structs of whole numbers: what they read as; that two of them are one just if their numbers are. Conditions: the numbers are of 64 bits. -/
import Derived.Test.YtphigibhgldnpaaG02a
import Derived.Lib.Strings
import Derived.Lib.BufferWrite
import Derived.Lib.UnsafeStr
import Derived.Laws.MakeOwn
import Derived.WalkKit
import Derived.DeepKeys4
import Derived.Maps.Own
import Derived.Maps.OwnOps
import Derived.Maps.OwnSet
import Derived.Maps.Views
set_option linter.unusedVariables false
namespace Go.Proofs.Ytphigibhgldnpaa
open Go.RowKit
theorem infoU8c : (Try.prog.info? 5).map (fun i => (i.zero, i.size, i.bytes)) = some (some (.int .u8 0), 1, 1) := by kernel_rfl
/-- a row of bytes that was made, filled with a text, and read as a string -/
theorem clone_steps (s : ByteArray) (w : World) (hlim : s.size ≤ 1099511627776) (h0 : s.size ≠ 0) :
    ∃ (M Y : Array Value), (∀ W : World, (Instr.makeSlice 155 (.int .i64 (s.size : Int)) (.int .i64 (s.size : Int))).run Try.prog W = .ok (.slice (some ⟨W.heap.size, 0, none⟩) s.size s.size) (W.alloc (.cells M 5))) ∧
      (Builtin.copy_ #[155, 9] 3 #[.slice (some ⟨w.heap.size, 0, none⟩) s.size s.size, .string s]).run Try.prog (w.alloc (.cells M 5)) = .ok (goInt s.size) ((w.alloc (.cells M 5)).setRow w.heap.size Y) ∧
      (Builtin.unsafeString_ #[135, 3] 9 #[.pointer (some ⟨w.heap.size, 0, none⟩), .int .i64 (s.size : Int)]).run Try.prog ((w.alloc (.cells M 5)).setRow w.heap.size Y) = .ok (.string s) (((w.alloc (.cells M 5)).setRow w.heap.size Y).freeze ⟨w.heap.size, 0, none⟩ s.size) ∧
      Below w.heap.size w (((w.alloc (.cells M 5)).setRow w.heap.size Y).freeze ⟨w.heap.size, 0, none⟩ s.size) := by
  obtain ⟨i0, hi, hz0, hz1, hz2⟩ := info_parts infoU8c
  have hinfo : (Try.prog.info? 5).map (·.size) = some 1 := by rw [hi]; simp [hz1]
  have hM : (madeCells (Value.int .u8 0).cells (s.size * 1)).size = s.size := by rw [size_madeCells]; simp
  have hYl : ((madeCells (Value.int .u8 0).cells (s.size * 1)).toList.take 0 ++ Lib.byteCells s.data.toList ++ (madeCells (Value.int .u8 0).cells (s.size * 1)).toList.drop (0 + s.size)) = Lib.byteCells s.data.toList := by
    rw [List.take_zero, List.nil_append, List.drop_of_length_le (by rw [Array.length_toList, hM]; omega), List.append_nil]
  refine ⟨madeCells (Value.int .u8 0).cells (s.size * 1), (Lib.byteCells s.data.toList).toArray, fun W => ?_, ?_, ?_, ?_⟩
  · have h := run_make (P := Try.prog) W 155 5 i0 (.int .u8 0) Try.underlying155 hi hz0 .i64 .i64 (s.size : Int) (s.size : Int) (by omega) (by omega) (by rw [hz2]; omega) (by omega)
    simpa [hz1] using h
  · have h := Lib.run_copy_row_string (P := Try.prog) (w.alloc (.cells (madeCells (Value.int .u8 0).cells (s.size * 1)) 5)) 155 9 3 5 w.heap.size 0 s.size s.size s _ 5 Try.underlying155 hinfo (heap_alloc_new w _) (Nat.le_refl _) (by rw [hM]; omega)
    rw [hYl] at h
    exact h
  · have hg : ((w.alloc (.cells (madeCells (Value.int .u8 0).cells (s.size * 1)) 5)).setRow w.heap.size (Lib.byteCells s.data.toList).toArray).heap[w.heap.size]? = some (.cells (Lib.byteCells s.data.toList).toArray 5 (0, 0)) := setRow_heap _ _ _ _ 5 (0, 0) (heap_alloc_new w _)
    have hs : (Lib.byteCells s.data.toList).toArray.size = s.size := by rw [List.size_toArray, Lib.byteCells_length, ← Lib.size_eq]
    have h := Lib.run_unsafeString_row (P := Try.prog) _ 135 3 9 5 Try.underlying135 (by kernel_rfl) w.heap.size s.size (by unfold World.shape?; rw [hg]; show some (_, (Lib.byteCells s.data.toList).toArray.size) = _; rw [hs]) s.data.toList (fun e => h0 (by rw [Lib.size_eq, e]; rfl)) (by rw [← Lib.size_eq]; exact Nat.le_refl _) (by rw [← Lib.size_eq]; omega)
      (fun j x hx => Lib.cells_of_row hg s.size j _ (by rw [List.take_of_length_le (by rw [Array.length_toList, hs]; exact Nat.le_refl _)]; simp [Lib.byteCells, hx]))
    rw [← Lib.size_eq] at h
    exact h
  · have hb : Below w.heap.size (w.alloc (.cells (madeCells (Value.int .u8 0).cells (s.size * 1)) 5)) ((w.alloc (.cells (madeCells (Value.int .u8 0).cells (s.size * 1)) 5)).setRow w.heap.size (Lib.byteCells s.data.toList).toArray) := ⟨rfl, rfl, rfl, by simp, fun k hk => setRow_other _ _ _ _ (by omega)⟩
    exact Lib.below_freeze ((((Below.refl _ w).alloc (Nat.le_refl _) _)).trans hb) (p := ⟨w.heap.size, 0, none⟩) (Nat.le_refl _) _
set_option maxHeartbeats 1000000 in
theorem clone_in (s : ByteArray) (w : World) (hlim : s.size ≤ 1099511627776) :
    Calls Try.prog 101 #[.string s] w fun e w' => e = .returned (.string s) ∧ Below w.heap.size w w' := by
  by_cases h0 : s.size = 0
  · obtain rfl : s = ⟨#[]⟩ := ByteArray.ext (Array.eq_empty_of_size_eq_zero h0)
    go_enter Try.func101, Try.ntmps101
    go_wp2
    go_ret
    exact ⟨rfl, Below.refl _ _⟩
  · obtain ⟨M, Y, hmk, hcp, hus, hb⟩ := clone_steps s w hlim h0
    have d0 : ((s.size : Int) == 0) = false := by simpa [beq_eq_false_iff_ne] using h0
    go_enter Try.func101, Try.ntmps101
    go_wp2
    go_ret
    exact ⟨rfl, hb⟩
theorem clone_any (s : ByteArray) (w : World) (hlim : s.size ≤ 1099511627776) :
    Calls Try.prog 100 #[.string s] w fun e w' => e = .returned (.string s) ∧ Below w.heap.size w w' := by
  go_enter Try.func100, Try.ntmps100
  go_wp2_with (go_at_call 101; refine (clone_in s _ hlim).mono ?_; rintro e w1 ⟨rfl, hb1⟩)
  go_ret
  exact ⟨rfl, hb1⟩
end Go.Proofs.Ytphigibhgldnpaa
namespace Go.Proofs.Ytphigibhgldnpaa
open Go.RowKit Go.Maps

section
variable {P : Program}
theorem lits_int {d : Nat} {t : TypeId} (ht : P.underlying t = some (.int .i64)) {u : Int} (hu : (Lit.int .i64 u).wf = true) : P.keyLits (d + 1) t [.int .i64 u] = some [.int .i64 u] := by
  simp [Program.keyLits, ht, hu]
/-- a struct of one number as a key -/
theorem key_one {k ti : TypeId} {f0 : Field} (hk : P.underlying k = some (.struct #[f0])) (hc : P.cellsOf k = 1) (hn : (f0.name != "_") = true) (h0 : (f0.offset, f0.type) = (0, ti)) (ci : P.cellsOf ti = 1) (ui : P.underlying ti = some (.int .i64))
    (hkt : P.keyType k = true) {n : Nat} (hs : P.types.size = n + 1) {u : Int} (hu : (Lit.int .i64 u).wf = true) : keyOf P k (.agg #[.int .i64 u]) = some (.string (keyBytes [.int .i64 u])) := by
  have e0 : f0.offset = 0 := congrArg Prod.fst h0
  have e1 : f0.type = ti := congrArg Prod.snd h0
  unfold keyOf
  rw [hk]
  simp only [hkt, Value.formed, hk, hc, Bool.true_and]
  rw [if_pos (by rfl), hs]
  have : P.keyLits (n + 1 + 1) k [.int .i64 u] = some [.int .i64 u] := by
    unfold Program.keyLits
    rw [hk]
    simp [hc, hn, e0, e1, ci, lits_int ui hu]
  simp only [Value.cells]
  rw [this]
  rfl
/-- a struct of two numbers as a key -/
theorem key_two {k ti : TypeId} {f0 f1 : Field} (hk : P.underlying k = some (.struct #[f0, f1])) (hc : P.cellsOf k = 2) (hn0 : (f0.name != "_") = true) (hn1 : (f1.name != "_") = true) (h0 : (f0.offset, f0.type) = (0, ti)) (h1 : (f1.offset, f1.type) = (1, ti)) (ci : P.cellsOf ti = 1) (ui : P.underlying ti = some (.int .i64))
    (hkt : P.keyType k = true) {n : Nat} (hs : P.types.size = n + 1) {u v : Int} (hu : (Lit.int .i64 u).wf = true) (hv : (Lit.int .i64 v).wf = true) : keyOf P k (.agg #[.int .i64 u, .int .i64 v]) = some (.string (keyBytes [.int .i64 u, .int .i64 v])) := by
  have e0 : f0.offset = 0 := congrArg Prod.fst h0
  have e1 : f0.type = ti := congrArg Prod.snd h0
  have e2 : f1.offset = 1 := congrArg Prod.fst h1
  have e3 : f1.type = ti := congrArg Prod.snd h1
  unfold keyOf
  rw [hk]
  simp only [hkt, Value.formed, hk, hc, Bool.true_and]
  rw [if_pos (by rfl), hs]
  have : P.keyLits (n + 1 + 1) k [.int .i64 u, .int .i64 v] = some [.int .i64 u, .int .i64 v] := by
    unfold Program.keyLits
    rw [hk]
    simp [hc, hn0, hn1, e0, e1, e2, e3, ci, lits_int ui hu, lits_int ui hv]
  simp only [Value.cells]
  rw [this]
  rfl
/-- two keys of one number that read alike are one -/
theorem key_inj {k : TypeId} (K : Keyed P k) {a b : Value} {l : Lit} (ha : keyOf P k a = some l) (hb : keyOf P k b = some l) : a = b := K.inj ha hb
/-- a set of numbers, each under the key that it reads as -/
def setD (kl : Int → Lit) (S : List Int) : DataW Unit := setOf (.agg []) (S.map kl)
theorem setD_snoc (kl : Int → Lit) (S : List Int) (u : Int) : setD kl (S ++ [u]) = (setD kl S).put (kl u) (.agg []) := by
  unfold setD
  rw [List.map_append]
  exact setOf_snoc _ _ _
theorem setD_has {k : TypeId} (K : Keyed P k) {val : Int → Value} {kl : Int → Lit} (hkey : ∀ u, (Lit.int .i64 u).wf = true → keyOf P k (val u) = some (kl u)) (hinj : ∀ u v, val u = val v → u = v)
    {S : List Int} (hS : ∀ u ∈ S, (Lit.int .i64 u).wf = true) {u : Int} (hu : (Lit.int .i64 u).wf = true) : Maps.has (setD kl S) (kl u) = decide (u ∈ S) := by
  unfold setD
  rw [has_setOf]
  · rw [Bool.eq_iff_iff, List.any_eq_true, decide_eq_true_eq]
    constructor
    · rintro ⟨l, hl, hs⟩
      obtain ⟨v, hv, rfl⟩ := List.mem_map.1 hl
      have hl2 : kl v = kl u := WideAt.sameKey_eq hs
      have := K.inj (hkey v (hS v hv)) (hl2 ▸ hkey u hu)
      rw [← hinj v u this]
      exact hv
    · intro h
      exact ⟨kl u, List.mem_map.2 ⟨u, h, rfl⟩, WideAt.sameKey_self (K.key (hkey u hu))⟩
  · intro x hx
    obtain ⟨v, hv, rfl⟩ := List.mem_map.1 hx
    exact K.key (hkey v (hS v hv))
end
end Go.Proofs.Ytphigibhgldnpaa
