/- Stage 20: the document's table of inodes in memory; New, Find. No conditions. Parts and moves among a law's arguments: opened. No conditions. -/
import Derived.Test.YtfkgeefoknaldaaG08b
import Derived.Test.YtfkgeefoknaldaaG08a
import Derived.ChangeArms
set_option linter.unusedVariables false
namespace Go.Proofs.Ytfkgeefoknaldaa
open Go.RowKit
set_option linter.unusedVariables false
set_option maxRecDepth 20000
/-- an inode; where its parts lie -/
structure Iv where
  x : Ino
  ao : Option Addr
  cap : Nat
instance : Inhabited Iv := ⟨⟨default, none, 0⟩⟩
def ivC (v : Iv) : List Value := [.int .i64 v.x.ino, .int .i64 v.x.kind, .int .i64 v.x.links, .int .i64 v.x.opens, .int .i64 v.x.size, .slice v.ao v.x.parts.length v.cap]
theorem iv_rows : RowK Try.prog 46 72 6 ivC where
  under := Try.underlying46
  info := by
    have h : (Try.prog.info? 72).map (fun i => (i.zero, i.size, i.bytes)) = some (some (.agg #[.int .i64 0, .int .i64 0, .int .i64 0, .int .i64 0, .int .i64 0, .slice none 0 0]), 6, 64) := by kernel_rfl
    obtain ⟨i0, hi, hz0, hz1, hz2⟩ := info_parts h
    exact ⟨i0, _, 64, hi, hz0, hz1, hz2, rfl, by decide⟩
  pos := by decide
  len := fun x => rfl
  one := fun x u hu => by
    unfold ivC at hu
    simp at hu
    rcases hu with h | h | h | h | h | h <;> (rw [h]; rfl)
abbrev OIv (w : World) (B : Nat) (v : Value) (l : List Iv) : Prop := OR 72 6 ivC w B v l
/-- an inode's parts lie where no store of the table's goes -/
def IvIn (w : World) (q g : Nat) (y : Iv) : Prop := PaL w y.ao y.x.parts ∧ (y.ao = none → y.cap = 0) ∧ y.x.parts.length ≤ y.cap ∧ ∀ a, y.ao = some a → a.block < w.heap.size ∧ a.block ≠ q ∧ a.block ≠ g
theorem IvIn.below {w w' : World} {q g : Nat} {y : Iv} (h : IvIn w q g y) (hb : Below w.heap.size w w') : IvIn w' q g y :=
  ⟨PaL.below h.1 hb, h.2.1, h.2.2.1, fun a e => ⟨Nat.lt_of_lt_of_le (h.2.2.2 a e).1 hb.size, (h.2.2.2 a e).2⟩⟩
/-- the document's table at q: all its own blocks from B on -/
structure DTab (w : World) (B q g cap : Nat) (l : List Iv) (next : Int) : Prop where
  head : w.heap[q]? = some (.cells #[.slice (some ⟨g, 0, none⟩) l.length cap, .int .i64 next] 74 (0, 0))
  row : OIv w B (.slice (some ⟨g, 0, none⟩) l.length cap) l
  low : B ≤ q
  two : q ≠ g
  each : ∀ y ∈ l, IvIn w q g y
def DT (w : World) (B q : Nat) (t : Tb) : Prop := ∃ g cap l, l.map (·.x) = t.l ∧ DTab w B q g cap l t.next
theorem DTab.below {w w' : World} {B q g cap : Nat} {l : List Iv} {next : Int} (h : DTab w B q g cap l next) (hb : Below w.heap.size w w') : DTab w' B q g cap l next :=
  ⟨below_heap hb h.head, OR.below h.row hb, h.low, h.two, fun y hy => (h.each y hy).below hb⟩
theorem DT.below {w w' : World} {B q : Nat} {t : Tb} (h : DT w B q t) (hb : Below w.heap.size w w') : DT w' B q t := by
  obtain ⟨g, cap, l, h1, h2⟩ := h
  exact ⟨g, cap, l, h1, h2.below hb⟩
theorem DTab.cells {w : World} {B q g cap : Nat} {l : List Iv} {next : Int} (h : DTab w B q g cap l next) : w.cell? ⟨q, 0, none⟩ = some (.slice (some ⟨g, 0, none⟩) l.length cap) ∧ w.cell? ⟨q, 1, none⟩ = some (.int .i64 next) := ⟨cell_of h.head 0, cell_of h.head 1⟩
/-- the cells of the k-th -/
theorem DTab.at {w : World} {B q g cap : Nat} {l : List Iv} {next : Int} (h : DTab w B q g cap l next) (k : Nat) (hk : k < l.length) : w.cell? ⟨g, k * 6, none⟩ = some (.int .i64 l[k].x.ino) ∧ w.cell? ⟨g, k * 6 + 1, none⟩ = some (.int .i64 l[k].x.kind) ∧ w.cell? ⟨g, k * 6 + 2, none⟩ = some (.int .i64 l[k].x.links) ∧ w.cell? ⟨g, k * 6 + 3, none⟩ = some (.int .i64 l[k].x.opens) ∧ w.cell? ⟨g, k * 6 + 4, none⟩ = some (.int .i64 l[k].x.size) ∧ w.cell? ⟨g, k * 6 + 5, none⟩ = some (.slice l[k].ao l[k].x.parts.length l[k].cap) := by
  obtain ⟨a, c, hv, hr, _⟩ := OR.form iv_rows h.row
  obtain ⟨bk, off, e, h1⟩ := hr k hk
  cases hv
  cases e
  have z : ∀ j v, (ivC l[k])[j]? = some v → w.cell? ⟨g, k * 6 + j, none⟩ = some v := fun j v hj => by
    have := h1 j v hj
    rw [Nat.zero_add] at this
    exact this
  exact ⟨z 0 _ rfl, z 1 _ rfl, z 2 _ rfl, z 3 _ rfl, z 4 _ rfl, z 5 _ rfl⟩
def rootV : Iv := ⟨rootI, none, 0⟩
theorem root_tab {w W : World} {q g : Nat} (hg : W.heap[g]? = some (.cells (ivC rootV).toArray 72 (0, 0))) (hq : W.heap[q]? = some (.cells #[.slice (some ⟨g, 0, none⟩) 1 1, .int .i64 2] 74 (0, 0))) (h1 : w.heap.size ≤ g) (h2 : w.heap.size ≤ q) (h3 : q ≠ g) : DT W w.heap.size q newT :=
  ⟨g, 1, [rootV], rfl, hq, ⟨rfl, .inr ⟨g, 1, _, rfl, h1, hg, Nat.le_refl _, by decide, rfl, rfl⟩⟩, h2, h3, fun y hy => by
    rw [List.mem_singleton.1 hy]
    exact ⟨Row.nil _ _ _ _, fun _ => rfl, Nat.le_refl _, fun a e => by cases e⟩⟩
set_option maxHeartbeats 4000000 in
theorem rnewT_any (w : World) : Calls Try.prog 7 #[] w fun e w' => ∃ q, e = .returned (.pointer (some ⟨q, 0, none⟩)) ∧ DT w' w.heap.size q newT ∧ Below w.heap.size w w' := by
  go_enter Try.func7, Try.ntmps7
  go_wp2_with fail
  go_ret
  refine ⟨w.heap.size + 1, rfl, root_tab (g := w.heap.size) (below_heap (blwA _ _) (heap_alloc_new _ _)) ?_ (Nat.le_refl _) (Nat.le_succ _) (by omega), blwO (blwA _ _) (blwA w _)⟩
  have h := heap_alloc_new (w.alloc (.cells #[.int .i64 1, .int .i64 1, .int .i64 1, .int .i64 0, .int .i64 0, .slice none 0 0] 72)) (.cells #[.slice (some ⟨w.heap.size, 0, none⟩) 1 1, .int .i64 2] 74)
  simpa using h
set_option maxHeartbeats 4000000 in
/-- where a number stands: behind others that are not it -/
theorem rfind_any (w : World) (B q g cap : Nat) (l : List Iv) (next n : Int) (h : DTab w B q g cap l next) (hl : l.length ≤ 100) (r : Int)
    (hr : (r = -1 ∧ ∀ j (hj : j < l.length), l[j].x.ino ≠ n) ∨ ∃ k : Nat, r = (k : Int) ∧ ∃ hk : k < l.length, l[k].x.ino = n ∧ ∀ j (hj : j < k), l[j].x.ino ≠ n) :
    Calls Try.prog 35 #[.pointer (some ⟨q, 0, none⟩), .int .i64 n] w fun e w' => e = .returned (.int .i64 r) ∧ w = w' := by
  have HT := Lib.hid h
  have HR := Lib.hid hr
  have hlI : (l.length : Int) ≤ 100 := by omega
  obtain ⟨c0, c1⟩ := h.cells
  clear h hr
  go_enter Try.func35, Try.ntmps35
  go_wp2_with fail
  go_loopw [5] (fun s wr => ∃ k : Nat, s = .int .i64 k ∧ k ≤ l.length ∧ (∀ j (hj : j < l.length), j < k → l[j].x.ino ≠ n) ∧ Hid (wr = w)) (fun s _ => l.length - (intOf s).toNat)
  case atStart => exact ⟨0, rfl, Nat.zero_le _, fun j _ h => absurd h (Nat.not_lt_zero _), Lib.hid rfl⟩
  case round =>
    obtain ⟨k, rfl, hk, HN0, HW⟩ := hrel
    have HN := Lib.hid HN0
    clear HN0
    obtain rfl := HW.out
    by_cases hlt : k < l.length
    · have k0 : (k : Int) < (l.length : Int) := by omega
      obtain ⟨b0, _⟩ := HT.out.at k hlt
      by_cases hx : l[k].x.ino = n
      · have hrk : r = (k : Int) := by
          rcases HR.out with ⟨_, h1⟩ | ⟨m, h1, hm, h2, h3⟩
          · exact absurd hx (h1 k hlt)
          · rcases Nat.lt_trichotomy k m with c | c | c
            · exact absurd hx (h3 k c)
            · rw [h1, c]
            · exact absurd h2 (HN.out m hm c)
        generalize l[k].x.ino = z at *
        have e1 : (z == n) = true := beq_iff_eq.2 hx
        subst hrk
        go_wp2_with fail
        go_ret
        exact ⟨rfl, rfl⟩
      · have HNX := Lib.hid (show ∀ j (hj : j < l.length), j < k + 1 → l[j].x.ino ≠ n from fun j hj hjk => by
          by_cases c : j < k
          · exact HN.out j hj c
          · obtain rfl : j = k := by omega
            exact hx)
        generalize l[k].x.ino = z at *
        have e1 : (z == n) = false := beq_eq_false_iff_ne.2 hx
        go_wp2_with fail
        go_roundw
        case rel => exact ⟨k + 1, by go_num, by omega, HNX.out, by first | exact Lib.hid rfl | exact Lib.hid trivial⟩
        case measure => simp [intOf]; omega
    · obtain rfl : k = l.length := by omega
      have hrk : r = -1 := by
        rcases HR.out with ⟨h0, _⟩ | ⟨m, h1, hm, h2, h3⟩
        · exact h0
        · exact absurd h2 (HN.out m hm hm)
      subst hrk
      go_wp2_with fail
      go_ret
      exact ⟨rfl, rfl⟩
end Go.Proofs.Ytfkgeefoknaldaa
namespace Go.Proofs.Ytfkgeefoknaldaa
set_option linter.unusedVariables false
open Go.ChangeShapes Go.WideShapes Go.ChangeAt Go.RowKit
def PaIn (w : World) (x : Pt) : Prop := i64w x.off ∧ i64w x.len ∧ i64w x.addr ∧ i64w x.src
instance : Inhabited Pt := ⟨⟨0, 0, 0, 0⟩⟩
section
variable {H : Type} {enc : TypeId × Value → H} {P : Program} {w : World} {base : Nat} {spare : Nat → Bool} {held : Bool}
theorem four_ints {n : Nat} {cs : List Value} {y : DataW H × List MemPlace} {e ti : TypeId} {g0 g1 g2 g3 : Field} (he : P.underlying e = some (.struct #[g0, g1, g2, g3])) (h0 : (g0.offset, g0.type) = (0, ti)) (h1 : (g1.offset, g1.type) = (1, ti)) (h2 : (g2.offset, g2.type) = (2, ti)) (h3 : (g3.offset, g3.type) = (3, ti))
    (ui : P.underlying ti = some (.int .i64)) (ci : P.cellsOf ti = 1) (hl : cs.length = 4)
    (hf : DataW.trod enc P w base spare held n e cs = some y) : ∃ a b c d : Int, cs = [.int .i64 a, .int .i64 b, .int .i64 c, .int .i64 d] ∧ i64w a ∧ i64w b ∧ i64w c ∧ i64w d := by
  obtain ⟨xs, m, _, _, _, hxl, hg⟩ := DataW.trod_struct he hf
  have hxl2 : xs.length = 4 := hxl
  simp only [Prod.mk.injEq] at h0 h1 h2 h3
  have a0 := hg 0 g0 rfl
  have a1 := hg 1 g1 rfl
  have a2 := hg 2 g2 rfl
  have a3 := hg 3 g3 rfl
  rw [h0.1, h0.2, ci, List.getElem?_eq_getElem (by omega)] at a0
  rw [h1.1, h1.2, ci, List.getElem?_eq_getElem (by omega)] at a1
  rw [h2.1, h2.2, ci, List.getElem?_eq_getElem (by omega)] at a2
  rw [h3.1, h3.2, ci, List.getElem?_eq_getElem (by omega)] at a3
  obtain ⟨k0, e0, _, w0⟩ := DataW.trod_int ui a0
  obtain ⟨k1, e1, _, w1⟩ := DataW.trod_int ui a1
  obtain ⟨k2, e2, _, w2⟩ := DataW.trod_int ui a2
  obtain ⟨k3, e3, _, w3⟩ := DataW.trod_int ui a3
  refine ⟨k0, k1, k2, k3, ?_, w0, w1, w2, w3⟩
  match cs, hl with
  | [x0, x1, x2, x3], _ =>
    simp at e0 e1 e2 e3
    rw [e0, e1, e2, e3]
theorem par_cs {n : Nat} {cs : List Value} {y : DataW H × List MemPlace} {e ti : TypeId} {g0 g1 g2 g3 : Field} (he : P.underlying e = some (.struct #[g0, g1, g2, g3])) (h0 : (g0.offset, g0.type) = (0, ti)) (h1 : (g1.offset, g1.type) = (1, ti)) (h2 : (g2.offset, g2.type) = (2, ti)) (h3 : (g3.offset, g3.type) = (3, ti))
    (ui : P.underlying ti = some (.int .i64)) (ci : P.cellsOf ti = 1) (hl : cs.length = 4)
    (hf : DataW.trod enc P w base spare held n e cs = some y) : ∃ x : Pt, cs = parC x ∧ PaIn w x := by
  obtain ⟨a, b, c, d, e, w0, w1, w2, w3⟩ := four_ints he h0 h1 h2 h3 ui ci hl hf
  exact ⟨⟨a, b, c, d⟩, e, w0, w1, w2, w3⟩
/-- a struct of four numbers that was handed over by value -/
theorem open_four {r : Reach} {b0 : Nat} {t ti : TypeId} {g0 g1 g2 g3 : Field} {v : Value} {d : DataW H} {p : List MemPlace} (ht : P.underlying t = some (.struct #[g0, g1, g2, g3])) (hc : P.cellsOf t = 4)
    (h0 : (g0.offset, g0.type) = (0, ti)) (h1 : (g1.offset, g1.type) = (1, ti)) (h2 : (g2.offset, g2.type) = (2, ti)) (h3 : (g3.offset, g3.type) = (3, ti)) (ci : P.cellsOf ti = 1) (ui : P.underlying ti = some (.int .i64)) (hv : Value.okWide P w r b0 t v) (h : DataW.Trod enc P w base spare held t v d p) :
    ∃ x y z u, v = .agg #[.int .i64 x, .int .i64 y, .int .i64 z, .int .i64 u] ∧ i64w x ∧ i64w y ∧ i64w z ∧ i64w u := by
  obtain ⟨A, rfl, hsz⟩ := okWide_rec ht hv
  obtain ⟨fuel, hf⟩ := h
  have hA : A.toList.length = 4 := by rw [Array.length_toList, hsz, hc]
  obtain ⟨a, b, c, d, e, w0, w1, w2, w3⟩ := four_ints ht h0 h1 h2 h3 ui ci hA hf
  refine ⟨a, b, c, d, ?_, w0, w1, w2, w3⟩
  rw [← Array.toArray_toList (xs := A), e]
end
end Go.Proofs.Ytfkgeefoknaldaa
