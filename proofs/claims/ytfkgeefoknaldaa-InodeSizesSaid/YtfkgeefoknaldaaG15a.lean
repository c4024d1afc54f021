/- What the library's IndexFunc and DeleteFunc return of parts, where holes are asked for. Conditions: the parts are a row of the caller's own, where they are written. -/
import Derived.Test.YtfkgeefoknaldaaG14a
set_option linter.unusedVariables false
namespace Go.Proofs.Ytfkgeefoknaldaa
open Go.RowKit Go.Sort
set_option linter.unusedVariables false
set_option maxRecDepth 20000
theorem nohole_next {l : List Pt} {k : Nat} (hk : k < l.length) (h : ∀ x ∈ l.take k, holeB x = false) (e : holeB l[k] = false) : ∀ x ∈ l.take (k + 1), holeB x = false := by
  rw [List.take_succ_eq_append_getElem hk]
  intro x hx
  rcases List.mem_append.1 hx with h1 | h1
  · exact h x h1
  · rw [List.mem_singleton.1 h1]
    exact e
/-- where the first hole is -/
def firstH (l : List Pt) (r : Int) : Prop := (r = -1 ∧ ∀ x ∈ l, holeB x = false) ∨ ∃ k : Nat, r = k ∧ ∃ h : k < l.length, holeB l[k] = true ∧ ∀ x ∈ l.take k, holeB x = false
set_option maxHeartbeats 4000000 in
theorem eindex_any (ao : Option Addr) (cap : Nat) (l : List Pt) (w : World) (h : PaL w ao l) (hl : l.length ≤ 1000000) :
    Calls Try.prog 84 #[.slice ao l.length cap, .func (.func 80) #[] #[]] w fun e w' => ∃ r : Int, e = .returned (.int .i64 r) ∧ firstH l r ∧ Below w.heap.size w w' := by
  have HP := Lib.hid h
  have hl' : (l.length : Int) ≤ 1000000 := by omega
  clear h
  go_enter Try.func84, Try.ntmps84
  go_wp2_with fail
  go_loopw [8] (fun i wr => ∃ k : Nat, i = .int .i64 k ∧ k ≤ l.length ∧ Hid (∀ x ∈ l.take k, holeB x = false) ∧ Hid (Below w.heap.size w wr)) (fun i _ => l.length - (intOf i).toNat)
  case atStart => exact ⟨0, rfl, Nat.zero_le _, Lib.hid (by simp), Lib.hid (Below.refl _ _)⟩
  case round =>
    obtain ⟨k, rfl, hk, HT, HB⟩ := hrel
    by_cases hlt : k < l.length
    · obtain ⟨bk, off, rfl, c0, c1, c2, c3⟩ := (HP.out.below HB.out).at k hlt
      have k0 : (k : Int) < (l.length : Int) := by omega
      have HNX := Lib.hid (fun h => nohole_next hlt HT.out h)
      have HFX := Lib.hid (show holeB l[k] = true → firstH l k from fun h => .inr ⟨k, rfl, hlt, h, HT.out⟩)
      obtain ⟨x, hx⟩ : ∃ x, Hid (l[k] = x) := ⟨_, Lib.hid rfl⟩
      rw [hx.out] at c0 c1 c2 c3 HNX HFX
      have CH := Lib.hid (fun W => ehole_any x W)
      cases hh : holeB x
      · rw [hh] at CH HNX
        have HN := Lib.hid (HNX.out rfl)
        clear hh
        go_wp2_with (go_at_call 80; refine (CH.out _).mono ?_; rintro e w1 ⟨rfl, hb1⟩; have HB1 := Lib.hid (blwO hb1 HB.out); clear hb1)
        go_roundw
        case rel => exact ⟨k + 1, by go_num, by omega, HN, HB1⟩
        case measure => simp [intOf]; omega
      · rw [hh] at CH HFX
        have HF := Lib.hid (HFX.out rfl)
        clear hh
        go_wp2_with (go_at_call 80; refine (CH.out _).mono ?_; rintro e w1 ⟨rfl, hb1⟩; have HB1 := Lib.hid (blwO hb1 HB.out); clear hb1)
        go_ret
        exact ⟨_, rfl, HF.out, HB1.out⟩
    · obtain rfl : k = l.length := by omega
      have HX := Lib.hid (show firstH l (-1) from .inl ⟨rfl, by have := HT.out; rwa [List.take_length] at this⟩)
      go_wp2_with fail
      go_ret
      exact ⟨_, rfl, HX.out, HB.out⟩
/-- a part is stored into a row of the call's own -/
theorem OPa.put {w : World} {B g cap N : Nat} {q r : List Pt} {y x : Pt} (h : OPa w B (.slice (some ⟨g, 0, none⟩) N cap) (q ++ y :: r)) (hN : (q ++ y :: r).length = N) :
    OPa ((((w.setCell ⟨g, q.length * 4, none⟩ (.int .i64 x.off)).setCell ⟨g, q.length * 4 + 1, none⟩ (.int .i64 x.len)).setCell ⟨g, q.length * 4 + 2, none⟩ (.int .i64 x.addr)).setCell ⟨g, q.length * 4 + 3, none⟩ (.int .i64 x.src)) B (.slice (some ⟨g, 0, none⟩) N cap) (q ++ x :: r) := by
  subst hN
  have hl : (q ++ x :: r).length = (q ++ y :: r).length := by simp
  unfold OPa OR at h ⊢
  rw [hl]
  have h1 := par_rows.flat_len q
  have e : (((((q ++ y :: r).flatMap parC).set (q.length * 4) (.int .i64 x.off)).set (q.length * 4 + 1) (.int .i64 x.len)).set (q.length * 4 + 2) (.int .i64 x.addr)).set (q.length * 4 + 3) (.int .i64 x.src) = (q ++ x :: r).flatMap parC := by
    rw [List.flatMap_append, List.flatMap_append, List.flatMap_cons, List.flatMap_cons]
    have s0 := set_mid (q.flatMap parC) (.int .i64 y.len :: .int .i64 y.addr :: .int .i64 y.src :: r.flatMap parC) (.int .i64 y.off) (.int .i64 x.off)
    have s1 := set_mid (q.flatMap parC ++ [.int .i64 x.off]) (.int .i64 y.addr :: .int .i64 y.src :: r.flatMap parC) (.int .i64 y.len) (.int .i64 x.len)
    have s2 := set_mid (q.flatMap parC ++ [.int .i64 x.off, .int .i64 x.len]) (.int .i64 y.src :: r.flatMap parC) (.int .i64 y.addr) (.int .i64 x.addr)
    have s3 := set_mid (q.flatMap parC ++ [.int .i64 x.off, .int .i64 x.len, .int .i64 x.addr]) (r.flatMap parC) (.int .i64 y.src) (.int .i64 x.src)
    rw [h1] at s0
    rw [List.length_append, h1] at s1 s2 s3
    simp only [List.append_assoc, List.cons_append, List.nil_append, List.length_cons, List.length_nil] at s0 s1 s2 s3
    show ((((q.flatMap parC ++ .int .i64 y.off :: .int .i64 y.len :: .int .i64 y.addr :: .int .i64 y.src :: r.flatMap parC).set (q.length * 4) (.int .i64 x.off)).set (q.length * 4 + 1) (.int .i64 x.len)).set (q.length * 4 + 2) (.int .i64 x.addr)).set (q.length * 4 + 3) (.int .i64 x.src) = q.flatMap parC ++ .int .i64 x.off :: .int .i64 x.len :: .int .i64 x.addr :: .int .i64 x.src :: r.flatMap parC
    rw [s0, s1, s2, s3]
  rw [← e]
  exact ((((h.stored (q.length * 4) _).1.stored (q.length * 4 + 1) _).1.stored (q.length * 4 + 2) _).1.stored (q.length * 4 + 3) _).1
theorem wpList_clear_run {P : Program} (w : World) {ops : Array Oper} {rest : List Oper} {o : Oper} {a : Act} {Q : Exit → Act → World → Prop} (hgd : o.guard = none) (x : Operand) (t : TypeId)
    (ho : o.op = .call { callee := .builtin .clear, args := #[x], argTypes := #[t] }) (vx : Value) (hx : a.eval x = vx)
    (v' : Value) (w' : World) (hr : (Builtin.clear_ #[t] o.type #[vx]).run P w = .ok v' w') (h : wpList P ops Q rest (a.put o.dst v') w') : wpList P ops Q (o :: rest) a w :=
  wpList_plain hgd fun _ hK => by
    unfold Oper.wp execOp
    simp only [ho, resolve, invoke, builtin, Sem.run_bind, Sem.run_pure, Result.andThen_ok, List.map_toArray, List.map_cons, List.map_nil, hx, hr]
    exact hK _ _ h
/-- what is behind the first parts of a row of the call's own is cleared -/
theorem OPa.cleared {w : World} {B g cap N : Nat} {q m : List Pt} (h : OPa w B (.slice (some ⟨g, 0, none⟩) N cap) (q ++ m)) (hN : (q ++ m).length = N) (hm : m ≠ []) (ty : TypeId) (c : Nat) {n : Nat} (hn : q.length + n = N) :
    ∃ w', (Builtin.clear_ #[48] ty #[.slice (some ⟨g, q.length * 4, none⟩) n c]).run Try.prog w = .ok (.tuple #[]) w' ∧ OPa w' B (.slice (some ⟨g, 0, none⟩) q.length cap) q ∧ w.grownBy w' (some g) := by
  subst hN
  have hml : 0 < m.length := List.length_pos_iff.2 hm
  obtain ⟨k, rfl⟩ : ∃ k, n = k + 1 := ⟨n - 1, by simp at hn; omega⟩
  rcases h.2 with ⟨h1, _⟩ | ⟨g2, cap2, cur, h1, hB, hh, hnc, hcm, hcs, ht⟩
  · cases h1
  cases h1
  rw [List.length_append] at hn hnc ht
  have hz : ∀ w, (zeroValue 52).run Try.prog w = .ok (.agg #[.int .i64 0, .int .i64 0, .int .i64 0, .int .i64 0]) w := fun w => by kernel_rfl
  obtain ⟨Z, hZ⟩ : ∃ Z, Z = (Builtin.zeroCells #[.int .i64 0, .int .i64 0, .int .i64 0, .int .i64 0] (k + 1)).toList := ⟨_, rfl⟩
  have hZl : Z.length = (k + 1) * 4 := by rw [hZ, Array.length_toList, size_zeroCells]; rfl
  have hZ1 : ∀ v ∈ Z, v.oneCell' = true := by
    intro v hv
    rw [hZ] at hv
    unfold Builtin.zeroCells at hv
    simp at hv
    obtain ⟨i, _, rfl⟩ := hv
    have : i % 4 = 0 ∨ i % 4 = 1 ∨ i % 4 = 2 ∨ i % 4 = 3 := by omega
    rcases this with e | e | e | e <;> (rw [e]; rfl)
  have hst := run_storeCells_at Try.prog g (q.length * 4) 52 Z 0 cur w hh (by rw [hZl, hcs]; have := Nat.mul_le_mul_right 4 hnc; rw [Nat.add_mul] at this; omega) hZ1
  simp only [Nat.add_zero] at hst
  obtain ⟨R, hR⟩ : ∃ R, R = (cur.toList.take (q.length * 4) ++ Z ++ cur.toList.drop (q.length * 4 + Z.length)).toArray := ⟨_, rfl⟩
  rw [← hR] at hst
  have hcl : cur.toList.length = cap * 4 := Array.length_toList.trans hcs
  have hle : q.length * 4 + Z.length ≤ cur.toList.length := by rw [hZl, hcl]; have := Nat.mul_le_mul_right 4 hnc; rw [Nat.add_mul] at this; omega
  have hRs : R.size = cap * 4 := by
    rw [hR, ← hcl]
    simp only [List.size_toArray, List.length_append, List.length_take, List.length_drop]
    omega
  have hRt : R.toList.take (q.length * 4) = q.flatMap parC := by
    rw [hR]
    show (cur.toList.take (q.length * 4) ++ Z ++ cur.toList.drop (q.length * 4 + Z.length)).take (q.length * 4) = _
    rw [List.append_assoc, List.take_append_of_le_length (by rw [List.length_take]; omega), List.take_of_length_le (by rw [List.length_take]; omega)]
    have h2 := congrArg (List.take (q.length * 4)) ht
    rw [List.take_take, Nat.min_eq_left (Nat.mul_le_mul_right 4 (by omega)), List.flatMap_append, List.take_append_of_le_length (by rw [par_rows.flat_len]; exact Nat.le_refl _)] at h2
    exact h2.trans (List.take_of_length_le (by rw [par_rows.flat_len]; exact Nat.le_refl _))
  refine ⟨w.setRow g R, ?_, ⟨par_rows.flat_len q, .inr ⟨g, cap, R, rfl, hB, setRow_heap w g cur R 52 (0, 0) hh, by omega, hcm, hRs, hRt⟩⟩, ⟨rfl, rfl, rfl, by simp, fun b _ hb => setRow_other w g b R (fun e => hb (by simp [e]))⟩⟩
  simp [Builtin.clear_, run_underlying (P := Try.prog) Try.underlying48, hz, Value.cells, ← hZ, hst]
end Go.Proofs.Ytfkgeefoknaldaa
