/- Stage 20: the document's Same of two lists that are the same. No conditions. Stage 20: a map of inodes as the program keeps it: which inodes it tells; what is looked up, put in, taken out. Conditions: numbers of 64 bits. -/
import Derived.Test.YtfkgeefoknaldaaG23a
import Derived.Test.YtfkgeefoknaldaaG22a
import Derived.Test.YtfkgeefoknaldaaG03a
import Derived.Test.YtfkgeefoknaldaaG02a
import Derived.Maps.Own
import Derived.Maps.OwnOps
import Derived.Maps.OwnSet
import Derived.Maps.Views
import Derived.DeepKeys4
set_option linter.unusedVariables false
namespace Go.Proofs.Ytfkgeefoknaldaa
open Go.RowKit
set_option linter.unusedVariables false
set_option maxRecDepth 20000
/-- a row of inodes that was told: each one's parts lie there -/
def IvL (w : World) (ao : Option Addr) (l : List Iv) : Prop := Row w ao 6 ivC l ∧ ∀ y ∈ l, PaL w y.ao y.x.parts ∧ y.x.parts.length ≤ maxLen
theorem IvL.below {w w' : World} {ao : Option Addr} {l : List Iv} (h : IvL w ao l) (hb : Below w.heap.size w w') : IvL w' ao l := ⟨Row.below h.1 hb, fun y hy => ⟨PaL.below (h.2 y hy).1 hb, (h.2 y hy).2⟩⟩
theorem IvL.at {w : World} {ao : Option Addr} {l : List Iv} (h : IvL w ao l) (k : Nat) (hk : k < l.length) : ∃ bk off, ao = some ⟨bk, off, none⟩ ∧ w.cell? ⟨bk, off + k * 6, none⟩ = some (.int .i64 l[k].x.ino) ∧ w.cell? ⟨bk, off + k * 6 + 1, none⟩ = some (.int .i64 l[k].x.kind) ∧ w.cell? ⟨bk, off + k * 6 + 2, none⟩ = some (.int .i64 l[k].x.links) ∧ w.cell? ⟨bk, off + k * 6 + 3, none⟩ = some (.int .i64 l[k].x.opens) ∧ w.cell? ⟨bk, off + k * 6 + 4, none⟩ = some (.int .i64 l[k].x.size) ∧ w.cell? ⟨bk, off + k * 6 + 5, none⟩ = some (.slice l[k].ao l[k].x.parts.length l[k].cap) ∧ PaL w l[k].ao l[k].x.parts ∧ l[k].x.parts.length ≤ maxLen := by
  obtain ⟨bk, off, e, h2⟩ := h.1 k hk
  exact ⟨bk, off, e, h2 0 _ rfl, h2 1 _ rfl, h2 2 _ rfl, h2 3 _ rfl, h2 4 _ rfl, h2 5 _ rfl, h.2 _ (List.getElem_mem hk)⟩
theorem two_new (w : World) (a b : Obj) : Below w.heap.size w ((w.alloc a).alloc b).drew ∧ ((w.alloc a).alloc b).drew.heap[w.heap.size]? = some a ∧ ((w.alloc a).alloc b).drew.heap[w.heap.size + 1]? = some b := by
  refine ⟨(blwO (blwA _ _) (blwA w _)).drew, below_heap (blwA _ _) (heap_alloc_new _ _), ?_⟩
  have h := heap_alloc_new (w.alloc a) b
  show ((w.alloc a).alloc b).heap[w.heap.size + 1]? = some b
  simpa using h
set_option maxHeartbeats 4000000 in
theorem rsameI_any (ao bo : Option Addr) (ca cb : Nat) (l m : List Iv) (w : World) (hA : IvL w ao l) (hB : IvL w bo m) (hs : l.map (·.x) = m.map (·.x)) (hl : l.length ≤ 1000) :
    Calls Try.prog 19 #[.slice ao l.length ca, .slice bo m.length cb] w fun e w' => e = .returned (.bool true) ∧ Below w.heap.size w w' := by
  have HA := Lib.hid hA
  have HB := Lib.hid hB
  have hlm : l.length = m.length := by have := congrArg List.length hs; simpa using this
  have HX := Lib.hid (show ∀ (k : Nat) (h : k < l.length) (h2 : k < m.length), l[k].x = m[k].x from fun k h h2 => by
    have e1 : (l.map (·.x))[k]'(by simpa using h) = l[k].x := by simp
    have e2 : (m.map (·.x))[k]'(by simpa using h2) = m[k].x := by simp
    rw [← e1, ← e2]
    simp only [hs])
  have HLM := Lib.hid hlm
  have hlI : (l.length : Int) ≤ 1000 := by omega
  have CP := Lib.hid kparts_same
  obtain ⟨N, hN⟩ : ∃ N, l.length = N := ⟨_, rfl⟩
  have hN2 : m.length = N := by omega
  have HN := Lib.hid hN
  have HN2 := Lib.hid hN2
  rw [hN] at hlI
  rw [hN, hN2]
  clear hA hB hs hlm hl hN hN2
  go_enter Try.func19, Try.ntmps19
  go_wp2_with fail
  go_loopw [5] (fun s wr => ∃ k : Nat, s = .int .i64 k ∧ k ≤ N ∧ Hid (Below w.heap.size w wr)) (fun s _ => N - (intOf s).toNat)
  case atStart => exact ⟨0, rfl, Nat.zero_le _, Lib.hid (Below.refl _ _)⟩
  case round =>
    obtain ⟨k, rfl, hk, HW⟩ := hrel
    by_cases hlt : k < N
    · have k0 : (k : Int) < (N : Int) := by omega
      have kl : k < l.length := by rw [HN.out]; exact hlt
      have km : k < m.length := by rw [HN2.out]; exact hlt
      obtain ⟨bk, bo1, hao, a0, a1, a2, a3, a4, a5, hpa, hpl⟩ := (HA.out.below HW.out).at k kl
      obtain ⟨bk2, bo2, hbo, b0, b1, b2, b3, b4, b5, hpb, _⟩ := (HB.out.below HW.out).at k km
      subst hao
      subst hbo
      have hxx := HX.out k kl km
      generalize l[k] = y at *
      generalize m[k] = z at *
      rw [← hxx] at b0 b1 b2 b3 b4 b5 hpb
      have HPA := Lib.hid hpa
      have HPB := Lib.hid hpb
      clear hpa hpb hxx
      have qa := block_lt_of_cell a0
      have qb := block_lt_of_cell b0
      go_wp2_with fail
      have K1 := Lib.hid (two_new wr (Obj.cells #[.int .i64 y.x.ino, .int .i64 y.x.kind, .int .i64 y.x.links, .int .i64 y.x.opens, .int .i64 y.x.size, .slice y.ao y.x.parts.length y.cap] 72) (Obj.cells #[.int .i64 y.x.ino, .int .i64 y.x.kind, .int .i64 y.x.links, .int .i64 y.x.opens, .int .i64 y.x.size, .slice z.ao y.x.parts.length z.cap] 72))
      have K2 := Lib.hid (two_new wr (Obj.cells #[.int .i64 y.x.ino, .int .i64 y.x.kind, .int .i64 y.x.links, .int .i64 y.x.opens, .int .i64 y.x.size, .slice z.ao y.x.parts.length z.cap] 72) (Obj.cells #[.int .i64 y.x.ino, .int .i64 y.x.kind, .int .i64 y.x.links, .int .i64 y.x.opens, .int .i64 y.x.size, .slice y.ao y.x.parts.length y.cap] 72))
      go_region
      all_goals
        clear a0 a1 a2 a3 a4 a5 b0 b1 b2 b3 b4 b5
        first
          | (obtain ⟨W, hW⟩ : ∃ W, W = ((wr.alloc (Obj.cells #[.int .i64 y.x.ino, .int .i64 y.x.kind, .int .i64 y.x.links, .int .i64 y.x.opens, .int .i64 y.x.size, .slice y.ao y.x.parts.length y.cap] 72)).alloc (Obj.cells #[.int .i64 y.x.ino, .int .i64 y.x.kind, .int .i64 y.x.links, .int .i64 y.x.opens, .int .i64 y.x.size, .slice z.ao y.x.parts.length z.cap] 72)).drew := ⟨_, rfl⟩; rw [← hW]; have KK := K1.out; rw [← hW] at KK; clear hW; obtain ⟨KB, KX, KY⟩ := KK)
          | (obtain ⟨W, hW⟩ : ∃ W, W = ((wr.alloc (Obj.cells #[.int .i64 y.x.ino, .int .i64 y.x.kind, .int .i64 y.x.links, .int .i64 y.x.opens, .int .i64 y.x.size, .slice z.ao y.x.parts.length z.cap] 72)).alloc (Obj.cells #[.int .i64 y.x.ino, .int .i64 y.x.kind, .int .i64 y.x.links, .int .i64 y.x.opens, .int .i64 y.x.size, .slice y.ao y.x.parts.length y.cap] 72)).drew := ⟨_, rfl⟩; rw [← hW]; have KK := K2.out; rw [← hW] at KK; clear hW; obtain ⟨KB, KY, KX⟩ := KK)
        clear K1 K2
        have x0 := cell_of KX 0
        have x1 := cell_of KX 1
        have x2 := cell_of KX 2
        have x3 := cell_of KX 3
        have x4 := cell_of KX 4
        have x5 := cell_of KX 5
        have y0 := cell_of KY 0
        have y1 := cell_of KY 1
        have y2 := cell_of KY 2
        have y3 := cell_of KY 3
        have y4 := cell_of KY 4
        have y5 := cell_of KY 5
        have HW1 := Lib.hid (blwO KB HW.out)
        have HPA1 := Lib.hid (PaL.below HPA.out KB)
        have HPB1 := Lib.hid (PaL.below HPB.out KB)
        clear KX KY KB
        go_wp2_with (go_at_call 43; refine (CP.out _ _ _ _ _ _ HPA1.out HPB1.out hpl).mono ?_; rintro e w5 ⟨rfl, hB5⟩; have HW5 := Lib.hid (blwO hB5 HW1.out); clear hB5)
        go_roundw
        case rel => exact ⟨k + 1, by go_num, by omega, HW5⟩
        case measure => simp [intOf]; omega
    · obtain rfl : k = N := by omega
      go_wp2_with fail
      go_ret
      exact ⟨rfl, HW.out⟩
end Go.Proofs.Ytfkgeefoknaldaa
namespace Go.Proofs.Ytfkgeefoknaldaa
open Go.RowKit Go.Maps
set_option linter.unusedVariables false
set_option maxRecDepth 20000
theorem nint_law : Keyed Try.prog 3 := int_keyed Try.underlying3
theorem nint_key {u : Int} (hu : (Lit.int .i64 u).wf = true) : keyOf Try.prog 3 (.int .i64 u) = some (.int .i64 u) := by
  simp [keyOf, Try.underlying3, mapKey, hu]
/-- an inode as a value -/
def ivV (y : Iv) : Value := .agg #[.int .i64 y.x.ino, .int .i64 y.x.kind, .int .i64 y.x.links, .int .i64 y.x.opens, .int .i64 y.x.size, .slice y.ao y.x.parts.length y.cap]
def noV : Iv := ⟨⟨0, 0, 0, 0, 0, []⟩, none, 0⟩
/-- a value reads as itself -/
def heldR (v : Value) : Option (DataW Value × List MemPlace) := some (.held v, [])
def getV (l : List Iv) (u : Int) : Option Iv := l.find? (fun y => decide (y.x.ino = u))
theorem getV_no {l : List Iv} {u : Int} (h : ∀ y ∈ l, y.x.ino ≠ u) : getV l u = none := List.find?_eq_none.2 (fun y hy => by simpa using h y hy)
theorem getV_is {l : List Iv} {u : Int} {y : Iv} (h : getV l u = some y) : y ∈ l ∧ y.x.ino = u :=
  ⟨List.mem_of_find?_eq_some h, by have := List.find?_some (p := fun y : Iv => decide (y.x.ino = u)) h; simpa using this⟩
theorem getV_none {l : List Iv} {u : Int} (h : getV l u = none) : ∀ y ∈ l, y.x.ino ≠ u := fun y hy => by simpa using List.find?_eq_none.1 h y hy
theorem getV_at {a r : List Iv} {y : Iv} (h : ∀ z ∈ a, z.x.ino ≠ y.x.ino) : getV (a ++ y :: r) y.x.ino = some y := by
  unfold getV
  rw [List.find?_append, List.find?_eq_none.2 (fun z hz => by simpa using h z hz), Option.none_or]
  exact List.find?_cons_of_pos (by simp)
/-- one turned: only its own number tells otherwise -/
theorem getV_turn {a r : List Iv} {y y' : Iv} (h : ∀ z ∈ a, z.x.ino ≠ y.x.ino) (e : y'.x.ino = y.x.ino) (v : Int) : getV (a ++ y' :: r) v = if v = y.x.ino then some y' else getV (a ++ y :: r) v := by
  by_cases c : v = y.x.ino
  · rw [if_pos c, c, ← e]
    exact getV_at (fun z hz => by rw [e]; exact h z hz)
  · rw [if_neg c]
    unfold getV
    rw [List.find?_append, List.find?_append, List.find?_cons_of_neg (by simp; omega), List.find?_cons_of_neg (by simp; omega)]
theorem getV_snoc {l : List Iv} {y : Iv} (h : getV l y.x.ino = none) (v : Int) : getV (l ++ [y]) v = if v = y.x.ino then some y else getV l v := by
  by_cases c : v = y.x.ino
  · rw [if_pos c, c]
    exact getV_at (getV_none h)
  · rw [if_neg c]
    unfold getV
    rw [List.find?_append, List.find?_cons_of_neg (by simp; omega)]
    simp
theorem getV_drop {a r : List Iv} {y : Iv} (h : ∀ z ∈ a, z.x.ino ≠ y.x.ino) (h2 : ∀ z ∈ r, z.x.ino ≠ y.x.ino) (v : Int) : getV (a ++ r) v = if v = y.x.ino then none else getV (a ++ y :: r) v := by
  by_cases c : v = y.x.ino
  · rw [if_pos c, c]
    exact getV_no (fun z hz => by
      rcases List.mem_append.1 hz with hz | hz
      · exact h z hz
      · exact h2 z hz)
  · rw [if_neg c]
    unfold getV
    rw [List.find?_append, List.find?_append, List.find?_cons_of_neg (by simp; omega)]
/-- the map's datum tells the inodes l -/
structure MI (D : DataW Value) (l : List Iv) : Prop where
  tidy : Tidy D
  hs : ∀ u, (Lit.int .i64 u).wf = true → Maps.has D (.int .i64 u) = (getV l u).isSome
  tells : ∀ u y, (Lit.int .i64 u).wf = true → getV l u = some y → ∀ z, D.atKey (.int .i64 u) z = .held (ivV y)
  size : Maps.size D = l.length
theorem MI.nil : MI (.map []) [] := ⟨tidy_empty, fun _ _ => rfl, fun _ _ _ h => (by cases h), rfl⟩
theorem MI.put {D : DataW Value} {l l' : List Iv} (h : MI D l) {u : Int} {y : Iv} (hu : (Lit.int .i64 u).wf = true) (hg : ∀ v, getV l' v = if v = u then some y else getV l v) (hl : l'.length = if (getV l u).isSome then l.length else l.length + 1) : MI (D.put (.int .i64 u) (.held (ivV y))) l' := by
  have hk : WideAt.IsKeyLit (.int .i64 u) := nint_law.key (nint_key hu)
  refine ⟨h.tidy.put hk _, fun v hv => ?_, fun v x hv e z => ?_, ?_⟩
  · rw [hg]
    by_cases c : v = u
    · subst c
      rw [has_put_same h.tidy.isMap hk, if_pos rfl]
      rfl
    · rw [has_put_other (fun e2 => c (by injection e2)), h.hs v hv, if_neg c]
  · rw [hg] at e
    by_cases c : v = u
    · subst c
      rw [if_pos rfl] at e
      cases e
      exact atKey_put_same h.tidy.isMap hk _ _
    · rw [if_neg c] at e
      rw [atKey_put_other (fun e2 => c (by injection e2))]
      exact h.tells v x hv e z
  · rw [size_put h.tidy, h.hs u hu, h.size, hl]
theorem MI.del {D : DataW Value} {l l' : List Iv} (h : MI D l) {u : Int} (hu : (Lit.int .i64 u).wf = true) (hg : ∀ v, getV l' v = if v = u then none else getV l v) (hl : l'.length + (if (getV l u).isSome then 1 else 0) = l.length) : MI (D.del (.int .i64 u)) l' := by
  have hk : WideAt.IsKeyLit (.int .i64 u) := nint_law.key (nint_key hu)
  refine ⟨h.tidy.del _, fun v hv => ?_, fun v x hv e z => ?_, ?_⟩
  · rw [hg]
    by_cases c : v = u
    · subst c
      rw [has_del_same, if_pos rfl]
      rfl
    · rw [has_del_other (fun e2 => c (by injection e2)), h.hs v hv, if_neg c]
  · rw [hg] at e
    by_cases c : v = u
    · rw [if_pos c] at e
      cases e
    · rw [if_neg c] at e
      rw [atKey_del_other (fun e2 => c (by injection e2))]
      exact h.tells v x hv e z
  · have := size_del (k := .int .i64 u) h.tidy
    rw [h.hs u hu, h.size] at this
    omega
/-- the map at block m tells the inodes l -/
def MM (w : World) (m : Nat) (l : List Iv) : Prop := ∃ D, w.ownsMap Try.prog 3 heldR m l.length D ∧ MI D l
theorem MM.of {w : World} {m n : Nat} {l : List Iv} {D : DataW Value} (h : w.ownsMap Try.prog 3 heldR m n D) (hm : MI D l) : MM w m l := by
  obtain ⟨es, clock, h1, F, hs, hD⟩ := h
  refine ⟨D, ⟨es, clock, h1, F, ?_, hD⟩, hm⟩
  rw [← hm.size, hD, size_eq, length_sorted]
  simp
theorem MM.made (w : World) : MM (w.alloc (.map #[] 0)) w.heap.size [] := ⟨_, World.ownsMap_made _ _ _ _, MI.nil⟩
theorem MM.keep {w w' : World} {m : Nat} {l : List Iv} (h : MM w m l) (e : w'.heap[m]? = w.heap[m]?) : MM w' m l := by
  obtain ⟨D, ⟨es, clock, h1, h2⟩, h3⟩ := h
  exact ⟨D, ⟨es, clock, e.trans h1, h2⟩, h3⟩
theorem MM.lt {w : World} {m : Nat} {l : List Iv} (h : MM w m l) : m < w.heap.size := by
  obtain ⟨D, h1, _⟩ := h
  exact h1.lt
theorem MM.below {w w' : World} {m : Nat} {l : List Iv} (h : MM w m l) (hb : Below w.heap.size w w') : MM w' m l := h.keep (hb.block m h.lt)
theorem zero_ino (w : World) : (zeroValue 50).run Try.prog w = .ok (ivV noV) w := by kernel_rfl
/-- x, there := m[u] -/
theorem MM.look {w : World} {m : Nat} {l : List Iv} (h : MM w m l) {u : Int} (hu : (Lit.int .i64 u).wf = true) : (Instr.lookup 69 (.map (some m)) (.int .i64 u) true).run Try.prog w = .ok (.tuple #[ivV ((getV l u).getD noV), .bool (getV l u).isSome]) w := by
  obtain ⟨D, h1, h2⟩ := h
  obtain ⟨v, ps, hr, hv⟩ := h1.look_ok nint_law Try.underlying69 (zero_ino w) (show heldR (ivV noV) = some (.held (ivV noV), []) from rfl) (nint_key hu)
  unfold heldR at hv
  simp only [Option.some.injEq, Prod.mk.injEq] at hv
  rw [hr, h2.hs u hu]
  congr 1
  have : v = ivV ((getV l u).getD noV) := by
    cases q : getV l u with
    | none =>
      rw [atKey_of_not_has (by rw [h2.hs u hu, q]; rfl)] at hv
      injection hv.1
    | some y =>
      rw [h2.tells u y hu q] at hv
      injection hv.1
  rw [this]
theorem MM.look1 {w : World} {m : Nat} {l : List Iv} (h : MM w m l) {u : Int} (hu : (Lit.int .i64 u).wf = true) : (Instr.lookup 69 (.map (some m)) (.int .i64 u) false).run Try.prog w = .ok (ivV ((getV l u).getD noV)) w := by
  obtain ⟨D, h1, h2⟩ := h
  obtain ⟨v, ps, hr, hv⟩ := h1.lookup nint_law Try.underlying69 (zero_ino w) (show heldR (ivV noV) = some (.held (ivV noV), []) from rfl) (nint_key hu)
  unfold heldR at hv
  simp only [Option.some.injEq, Prod.mk.injEq] at hv
  rw [hr]
  congr 1
  cases q : getV l u with
  | none =>
    rw [atKey_of_not_has (by rw [h2.hs u hu, q]; rfl)] at hv
    injection hv.1
  | some y =>
    rw [h2.tells u y hu q] at hv
    injection hv.1
/-- len(m) -/
theorem MM.len {w : World} {m : Nat} {l : List Iv} (h : MM w m l) (ty : TypeId) : (Builtin.len_ #[69] ty #[.map (some m)]).run Try.prog w = .ok (.int .i64 l.length) w := by
  obtain ⟨D, h1, h2⟩ := h
  rw [← h2.size]
  exact h1.len Try.underlying69 ty
/-- m[u] = y -/
theorem MM.put {w : World} {m : Nat} {l l' : List Iv} (h : MM w m l) (hn : l.length ≤ 1000000) {u : Int} {y : Iv} (hu : (Lit.int .i64 u).wf = true) (hg : ∀ v, getV l' v = if v = u then some y else getV l v) (hl : l'.length = if (getV l u).isSome then l.length else l.length + 1) :
    ∃ w', (Instr.mapUpdate 69 (.map (some m)) (.int .i64 u) (ivV y)).run Try.prog w = .ok () w' ∧ MM w' m l' ∧ w.grownBy w' (some m) := by
  obtain ⟨D, h1, h2⟩ := h
  obtain ⟨w', hr, h3, hgr⟩ := h1.update nint_law Try.underlying69 (by unfold maxLen; omega) (nint_key hu) (show heldR (ivV y) = some (.held (ivV y), []) from rfl)
  exact ⟨w', hr, MM.of h3 (h2.put hu hg hl), hgr⟩
/-- delete(m, u) -/
theorem MM.del {w : World} {m : Nat} {l l' : List Iv} (h : MM w m l) {u : Int} (hu : (Lit.int .i64 u).wf = true) (hg : ∀ v, getV l' v = if v = u then none else getV l v) (hl : l'.length + (if (getV l u).isSome then 1 else 0) = l.length) (ty : TypeId) :
    ∃ w', (Builtin.delete_ #[69, 3] ty #[.map (some m), .int .i64 u]).run Try.prog w = .ok (.tuple #[]) w' ∧ MM w' m l' ∧ w.grownBy w' (some m) := by
  obtain ⟨D, h1, h2⟩ := h
  obtain ⟨w', hr, h3, ht⟩ := h1.drop nint_law Try.underlying69 (nint_key hu) ty
  exact ⟨w', hr, MM.of h3 (h2.del hu hg hl), ht.grown⟩
end Go.Proofs.Ytfkgeefoknaldaa
