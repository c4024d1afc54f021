/- What the closures tell that make a kind's fields. Conditions: what they captured lies where they were told. What the closures tell that make a kind's fields, those that lean on others. Conditions: what they captured lies where they were told. What the closure tells that makes the fields of kind 7. Conditions: what they captured lies where they were told. -/
import Derived.Test.YthileemkiplodaaJFldC
import Derived.Test.YthileemkiplodaaGj
import Derived.Test.YthileemkiplodaaJFields
import Derived.Laws.AppendOwn
import Derived.Deep.RegionWith
import Derived.Test.YthileemkiplodaaGk
set_option linter.unusedVariables false
namespace Go.Proofs.Ythileemkiplodaa
open Go.RowKit
set_option maxRecDepth 20000

def pathF (b j : Nat) : Value := .iface 100 (.agg #[.pointer (some ⟨b, j, none⟩), .func (.func 56) #[] #[]])
def dataF (b j l : Nat) : Value := .iface 100 (.agg #[.pointer (some ⟨b, j, none⟩), .func (.func 54) #[] #[.pointer (some ⟨l, 0, none⟩)]])
def mvsF (b j : Nat) (d : Int) : Value := .iface 106 (.agg #[.pointer (some ⟨b, j, none⟩), .int .i64 d])
abbrev ptr (q : Nat) : Value := .pointer (some ⟨q, 0, none⟩)
/-- a list of fields in memory of the call's own -/
def OL (w : World) (base : Nat) (v : Value) (L : List Value) : Prop := w.ownsRow base 57 1 v L.length L
theorem handle_any (q b : Nat) (w : World) (h : w.cell? ⟨q, 0, none⟩ = some (ptr b)) :
    Calls Try.prog 52 #[ptr q] w fun e w' => e = .returned (numF b 6 4 0 16383) ∧ w' = w := by
  go_enter Try.func52, Try.ntmps52
  go_wp2_with (go_at_call 41; refine (within_any b 6 4 0 16383 _).mono ?_; rintro e w1 ⟨rfl, rfl⟩)
  go_ret
  exact ⟨rfl, rfl⟩
theorem data_any (q b : Nat) (least : Int) (w : World) (h : w.cell? ⟨q, 0, none⟩ = some (ptr b)) :
    Calls Try.prog 53 #[.int .i64 least, ptr q] w fun e w' => e = .returned (dataF b 8 w.heap.size) ∧ w' = w.alloc (.cells #[.int .i64 least] 3) := by
  have hc := fun x => cell_new h x
  clear h
  go_enter Try.func53, Try.ntmps53
  go_wp2
  go_ret
  exact ⟨rfl, rfl⟩
theorem one_any (q b : Nat) (w : World) (h : w.cell? ⟨q, 0, none⟩ = some (ptr b)) :
    Calls Try.prog 55 #[ptr q] w fun e w' => e = .returned (.slice (some ⟨w.heap.size, 0, none⟩) 1 1) ∧ w' = w.alloc (.cells #[pathF b 3] 57) := by
  go_enter Try.func55, Try.ntmps55
  go_wp2
  go_ret
  exact ⟨rfl, rfl⟩
theorem tick_any (q b : Nat) (w : World) (h : w.cell? ⟨q, 0, none⟩ = some (ptr b)) :
    Calls Try.prog 58 #[ptr q] w fun e w' => e = .returned (.slice (some ⟨w.heap.size, 0, none⟩) 1 1) ∧ w' = w.alloc (.cells #[tickF b 9 8 0 1099511627776] 57) := by
  have c := within64_any b 9 8 0 1099511627776
  unfold tickF at *
  go_enter Try.func58, Try.ntmps58
  go_wp2_with (go_at_call 59; refine (c _).mono ?_; rintro e w1 ⟨rfl, rfl⟩)
  go_ret
  exact ⟨rfl, rfl⟩
theorem close_any (q b h : Nat) (w : World) (hh : w.cell? ⟨h, 0, none⟩ = some (.func (.func 52) #[] #[ptr q])) (hq : w.cell? ⟨q, 0, none⟩ = some (ptr b)) :
    Calls Try.prog 61 #[ptr h] w fun e w' => e = .returned (.slice (some ⟨w.heap.size, 0, none⟩) 1 1) ∧ w' = w.alloc (.cells #[numF b 6 4 0 16383] 57) := by
  have c := fun w hq => handle_any q b w hq
  unfold numF at *
  go_enter Try.func61, Try.ntmps61
  go_wp2_with (go_at_call 52; refine (c _ hq).mono ?_; rintro e w1 ⟨rfl, rfl⟩)
  go_ret
  exact ⟨rfl, rfl⟩
theorem fld_info : (Try.prog.info? 57).map (fun i => (i.zero, i.size, i.bytes)) = some (some .nilIface, 1, 16) := by kernel_rfl
/-- append(l, m...) of fields -/
theorem wpList_append_fields {ops : Array Oper} {rest : List Oper} {o : Oper} {a : Act} {w : World} {Q : Exit → Act → World → Prop} (hgd : o.guard = none) (s x : Operand)
    (ho : o.op = .call { callee := .builtin .append, args := #[s, x], argTypes := #[41, 41] }) (base : Nat) (v : Value) (L M : List Value) (hs : a.eval s = v) (hown : OL w base v L)
    (ad : Addr) (cap : Nat) (hx : a.eval x = .slice (some ad) M.length cap) (hM : ∀ (j : Nat) (u : Value), M[j]? = some u → w.cell? (ad.add j) = some u) (h1 : ∀ u ∈ M, u.oneCell' = true) (hl : L.length + M.length ≤ 1000000) (hB : base ≤ w.heap.size)
    (h : ∀ v' w', OL w' base v' (L ++ M) → w.grownBy w' v.ownBlock → wpList Try.prog ops Q rest (a.put o.dst v') w') : wpList Try.prog ops Q (o :: rest) a w := by
  obtain ⟨i0, hi, hz0, hz1, hz2⟩ : ∃ i, Try.prog.info? 57 = some i ∧ i.zero = some .nilIface ∧ i.size = 1 ∧ i.bytes = 16 := by
    obtain ⟨i, h1, h2⟩ := Option.map_eq_some_iff.1 fld_info
    simp only [Prod.mk.injEq] at h2
    exact ⟨i, h1, h2.1, h2.2.1, h2.2.2⟩
  refine wpList_append_own w hgd s x 41 ho base 57 i0 _ 1 16 Try.underlying41 hi hz0 hz1 hz2 rfl (by decide) v L.length L hs hown ad M.length cap M hx (by simp) hM h1 (by unfold maxLen; omega) (by omega) hB ?_
  intro v' w' hown' hgrow _
  refine h v' w' ?_ hgrow
  unfold OL
  rw [List.length_append]
  exact hown'
theorem OL.new {w : World} {g base : Nat} {M : Array Value} (h : w.heap[g]? = some (.cells M 57 (0, 0))) (hb : base ≤ g) (hM : M.size ≤ 1000000) : OL w base (.slice (some ⟨g, 0, none⟩) M.size M.size) M.toList :=
  ⟨by simp, .inr ⟨g, M.size, M, by simp, hb, h, Nat.le_refl _, by unfold maxLen; omega, by simp, List.take_of_length_le (by simp)⟩⟩
theorem OL.cells {w : World} {g : Nat} {M : Array Value} (h : w.heap[g]? = some (.cells M 57 (0, 0))) : ∀ (j : Nat) (u : Value), M.toList[j]? = some u → w.cell? ((⟨g, 0, none⟩ : Addr).add j) = some u := by
  intro j u hj
  rw [addr_plus, cell_of h]
  simpa using hj
end Go.Proofs.Ythileemkiplodaa
namespace Go.Proofs.Ythileemkiplodaa
open Go.RowKit
set_option maxRecDepth 20000

theorem cut_bounds (w : World) (d need old : Nat) (e : TypeId) (h : need ≤ maxLen) : need ≤ (Question.appendCap need old e).cut (w.tape d (.appendCap need old e)) ∧ (Question.appendCap need old e).cut (w.tape d (.appendCap need old e)) ≤ maxLen :=
  ⟨grownCap_ge { w with drawn := d } need old e, grownCap_le_maxLen { w with drawn := d } need old e h⟩
theorem OL.made {w : World} {g c base : Nat} {M : Array Value} (h : w.heap[g]? = some (.cells (M ++ Builtin.zeroCells #[.nilIface] (c - M.size)) 57 (0, 0))) (hb : base ≤ g) (hc : M.size ≤ c ∧ c ≤ maxLen) : OL w base (.slice (some ⟨g, 0, none⟩) M.size c) M.toList := by
  refine ⟨by simp, .inr ⟨g, c, _, by simp, hb, h, by simpa using hc.1, hc.2, ?_, ?_⟩⟩
  · rw [Array.size_append, size_zeroCells]
    simp only [List.size_toArray, List.length_singleton]
    omega
  · simp
set_option maxHeartbeats 4000000 in
theorem two_any (q b r : Nat) (w : World) (hr : w.cell? ⟨r, 0, none⟩ = some (.func (.func 55) #[] #[ptr q])) (hq : w.cell? ⟨q, 0, none⟩ = some (ptr b)) :
    Calls Try.prog 57 #[ptr r, ptr q] w fun e w' => ∃ v, e = .returned v ∧ OL w' w.heap.size v [pathF b 3, pathF b 4] ∧ Below w.heap.size w w' := by
  have hr' := fun x => cell_new hr x
  have hq' := fun x => cell_new hq x
  have c := fun w hq => one_any q b w hq
  unfold pathF at *
  go_enter Try.func57, Try.ntmps57
  go_wp2
  go_region_with (go_at_call 55; refine (c _ (by first | exact hq | exact hq' _)).mono ?_; rintro e w1 ⟨rfl, rfl⟩)
  all_goals
    go_wp2_with fail
    go_ret
    exact ⟨_, rfl, OL.made (M := #[_, _]) (third_heap w _ _ _) (by omega) (cut_bounds w _ 2 1 _ (by decide)), (three_below w _ _ _).drew.drew⟩
end Go.Proofs.Ythileemkiplodaa
namespace Go.Proofs.Ythileemkiplodaa
open Go.RowKit
set_option maxRecDepth 20000

set_option maxHeartbeats 4000000 in
theorem trunc_any (q b r : Nat) (w : World) (hr : w.cell? ⟨r, 0, none⟩ = some (.func (.func 55) #[] #[ptr q])) (hq : w.cell? ⟨q, 0, none⟩ = some (ptr b)) :
    Calls Try.prog 60 #[ptr r, ptr q] w fun e w' => ∃ v, e = .returned v ∧ OL w' w.heap.size v [pathF b 3, numF b 5 4 0 8192] ∧ Below w.heap.size w w' := by
  have hr' := fun x => cell_new hr x
  have hq' := fun x => cell_new hq x
  have c := fun w hq => one_any q b w hq
  have c2 := within_any b 5 4 0 8192
  unfold pathF numF at *
  go_enter Try.func60, Try.ntmps60
  go_wp2
  go_region_with (first | (go_at_call 55; refine (c _ (by first | exact hq | exact hq' _)).mono ?_; rintro e w1 ⟨rfl, rfl⟩) | (go_at_call 41; refine (c2 _).mono ?_; rintro e w1 ⟨rfl, rfl⟩))
  all_goals
    go_wp2_with fail
    go_ret
    exact ⟨_, rfl, OL.made (M := #[_, _]) (third_heap w _ _ _) (by omega) (cut_bounds w _ 2 1 _ (by decide)), (three_below w _ _ _).drew.drew⟩
end Go.Proofs.Ythileemkiplodaa
