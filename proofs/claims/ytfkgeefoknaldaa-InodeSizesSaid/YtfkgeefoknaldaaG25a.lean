/- Stage 20: the program's table in memory: a cell that holds the map of inodes, one that holds the next number; what a call leaves of its blocks. Conditions: numbers of 64 bits. -/
import Derived.Test.YtfkgeefoknaldaaG24a
import Derived.Laws.ResultCell
import Derived.Laws.Rows
set_option linter.unusedVariables false
namespace Go.Proofs.Ytfkgeefoknaldaa
open Go.RowKit Go.Maps
set_option linter.unusedVariables false
set_option maxRecDepth 20000
/-- a table's blocks lie in G: its own two, and those of its parts -/
def Zone (G : Nat → Prop) (w : World) (q g : Nat) (l : List Iv) : Prop := G q ∧ G g ∧ (∀ y ∈ l, ∀ a, y.ao = some a → G a.block) ∧ ∀ k, G k → k < w.heap.size
/-- what a call leaves of a table's blocks: its own two may be written, the second may be a new one; parts are the ones that were, or new ones -/
structure Went (w w' : World) (q g : Nat) (l : List Iv) (g' : Nat) (l' : List Iv) : Prop where
  kept : Kept (fun k => k ≠ q ∧ k ≠ g) w w'
  row : g' = g ∨ w.heap.size ≤ g'
  parts : ∀ y' ∈ l', (∃ y ∈ l, y'.ao = y.ao) ∨ ∀ a, y'.ao = some a → w.heap.size ≤ a.block
theorem Went.zone {G : Nat → Prop} {w w' : World} {q g g' : Nat} {l l' : List Iv} (h : Went w w' q g l g' l') (hz : Zone G w q g l) (hg : g' < w'.heap.size) (hp : ∀ y' ∈ l', ∀ a, y'.ao = some a → a.block < w'.heap.size) :
    ∃ G' : Nat → Prop, Zone G' w' q g' l' ∧ Kept (fun k => ¬ G k) w w' ∧ ∀ k, G' k → G k ∨ w.heap.size ≤ k := by
  obtain ⟨z1, z2, z3, z4⟩ := hz
  refine ⟨fun k => G k ∨ (w.heap.size ≤ k ∧ k < w'.heap.size), ⟨.inl z1, ?_, fun y' hy' a e => ?_, fun k hk => ?_⟩, h.kept.mono (fun k hk => ⟨fun e => hk (e ▸ z1), fun e => hk (e ▸ z2)⟩), fun k hk => hk.imp id (fun h => h.1)⟩
  · rcases h.row with e | e
    · rw [e]; exact .inl z2
    · exact .inr ⟨e, hg⟩
  · rcases h.parts y' hy' with ⟨y, hy, e2⟩ | e2
    · exact .inl (z3 y hy a (by rw [← e2]; exact e))
    · exact .inr ⟨e2 a e, hp y' hy' a e⟩
  · rcases hk with hk | hk
    · exact Nat.lt_of_lt_of_le (z4 k hk) h.kept.size
    · exact hk.2
theorem Went.same {w w' : World} {q g : Nat} {l : List Iv} (hb : Below w.heap.size w w') : Went w w' q g l g l := ⟨Kept.ofBelow hb _, .inl rfl, fun y hy => .inl ⟨y, hy, rfl⟩⟩
theorem Went.kept_to {w w' w2 : World} {q g g' : Nat} {l l' : List Iv} (h : Went w w' q g l g' l') (hb : Below w'.heap.size w' w2) : Went w w2 q g l g' l' := ⟨h.kept.below hb, h.row, h.parts⟩
/-- the program's table at b; its map at m -/
structure PTab (w : World) (b m : Nat) (l : List Iv) (next : Int) : Prop where
  head : w.heap[b]? = some (.cells #[.map (some m), .int .i64 next] 71 (0, 0))
  map : MM w m l
  two : b ≠ m
  each : ∀ y ∈ l, IvIn w b m y
theorem PTab.below {w w' : World} {b m : Nat} {l : List Iv} {next : Int} (h : PTab w b m l next) (hb : Below w.heap.size w w') : PTab w' b m l next :=
  ⟨below_heap hb h.head, h.map.below hb, h.two, fun y hy => (h.each y hy).below hb⟩
theorem PTab.cells {w : World} {b m : Nat} {l : List Iv} {next : Int} (h : PTab w b m l next) : w.cell? ⟨b, 0, none⟩ = some (.map (some m)) ∧ w.cell? ⟨b, 1, none⟩ = some (.int .i64 next) ∧ w.frozen? ⟨b, 0, none⟩ = false ∧ w.frozen? ⟨b, 1, none⟩ = false ∧ b < w.heap.size := ⟨cell_of h.head 0, cell_of h.head 1, free_of h.head 0, free_of h.head 1, lt_of_block h.head⟩
theorem IvIn.keptX {S : Nat → Prop} {w w' : World} {q g : Nat} {y : Iv} (h : IvIn w q g y) (hk : Kept S w w') (hS : ∀ a, y.ao = some a → S a.block) : IvIn w' q g y :=
  ⟨PaL.kept h.1 hk hS, h.2.1, h.2.2.1, fun a e => ⟨Nat.lt_of_lt_of_le (h.2.2.2 a e).1 hk.size, (h.2.2.2 a e).2⟩⟩
/-- the map was written -/
theorem PTab.turn {w w' : World} {b m : Nat} {l l' : List Iv} {next : Int} (h : PTab w b m l next) (hg : w.grownBy w' (some m)) (hm : MM w' m l') (he : ∀ y ∈ l', IvIn w b m y) : PTab w' b m l' next := by
  have hk : Kept (fun k => k ≠ m) w w' := (Kept.refl _ w).grown hg (fun k e hk => hk (Option.some.inj e).symm)
  exact ⟨hk.heap h.two h.head, hm, h.two, fun y hy => (he y hy).keptX hk (fun a e => ((he y hy).2.2.2 a e).2.2)⟩
/-- the next number was written -/
theorem PTab.next {w : World} {b m : Nat} {l : List Iv} {next n2 : Int} (h : PTab w b m l next) : PTab (w.setCell ⟨b, 1, none⟩ (.int .i64 n2)) b m l n2 := by
  have hk : Kept (fun k => k ≠ b) w (w.setCell ⟨b, 1, none⟩ (.int .i64 n2)) := (Kept.refl _ w).setCell (fun e => e rfl) _
  exact ⟨two_set1 h.head _, h.map.keep (hk.block m (Ne.symm h.two) h.map.lt), h.two, fun y hy => (h.each y hy).keptX hk (fun a e => ((h.each y hy).2.2.2 a e).2.1)⟩
/-- the program's table at b in state t, in the blocks of G -/
def PT (b : Nat) (G : Nat → Prop) (w : World) (t : Tb) : Prop := ∃ m l, l.map (·.x) = t.l ∧ PTab w b m l t.next ∧ Zone G w b m l
theorem PT.lt_ {b : Nat} {G : Nat → Prop} {w : World} {t : Tb} (h : PT b G w t) : ∀ k, G k → k < w.heap.size := by
  obtain ⟨m, l, h1, h2, z⟩ := h
  exact z.2.2.2
theorem Zone.kept {G : Nat → Prop} {w w' : World} {q g : Nat} {l : List Iv} (h : Zone G w q g l) (hs : w.heap.size ≤ w'.heap.size) : Zone G w' q g l := ⟨h.1, h.2.1, h.2.2.1, fun k hk => Nat.lt_of_lt_of_le (h.2.2.2 k hk) hs⟩
theorem pt_thing (b : Nat) : Thing (PT b) where
  lt := fun h => h.lt_
  keep := by
    rintro G S w w' t ⟨m, l, h1, h2, z⟩ hk hG
    exact ⟨m, l, h1, ⟨hk.heap (hG _ z.1) h2.head, h2.map.keep (hk.block m (hG _ z.2.1) h2.map.lt), h2.two, fun y hy => (h2.each y hy).keptX hk (fun a e => hG _ (z.2.2.1 y hy a e))⟩, z.kept hk.size⟩
theorem PTab.leaves {b m m' : Nat} {G : Nat → Prop} {w w' : World} {l l' : List Iv} {t' : Tb} (hz : Zone G w b m l) (h : PTab w' b m' l' t'.next) (hl : l'.map (·.x) = t'.l) (hs : Went w w' b m l m' l') : Leaves (PT b) G w w' t' := by
  obtain ⟨G', g1, g2, g3⟩ := hs.zone hz h.map.lt (fun y hy a e => ((h.each y hy).2.2.2 a e).1)
  exact ⟨G', ⟨m', l', hl, h, g1⟩, g2, g3⟩
/-- a result that is an inode and a number -/
theorem ino_ret {fn : Func} {p u : Tmp} (h : fn.results = #[.cell p 50, .tmp u]) {a : Act} {w : World} {g : Nat} {y : Iv} {x : Int} {R : Ending → World → Prop}
    (hg : w.heap[g]? = some (.cells (ivC y).toArray 50 (0, 0))) (hp : a.tmps.getD p undef = .pointer (some ⟨g, 0, none⟩)) (hx : a.tmps.getD u undef = .int .i64 x) (hd : a.defers = [])
    (hR : R (.returned (.tuple #[ivV y, .int .i64 x])) w) : bodyPost Try.prog fn R .ret a w := by
  have hp' : a.tmps[p]?.getD undef = .pointer (some ⟨g, 0, none⟩) := by simpa using hp
  have e : (results fn a.tmps).run Try.prog w = .ok (.tuple #[.agg (ivC y).toArray, a.tmps.getD u undef]) w := by
    rw [results_cell_tmp h, hp]
    simp [asAddr, Result.andThen, run_loadVar_row w g 50 50 (ivC y).toArray (0, 0) _ hg Try.underlying50 rfl (by kernel_rfl)]
  rw [hx] at e
  exact bodyPost_ret e hd hR
set_option maxHeartbeats 4000000 in
theorem pkind_any (k : Int) (w : World) : Calls Try.prog 30 #[.int .i64 k] w fun e w' => e = .returned (.bool (kindB k)) ∧ w = w' := by
  by_cases h1 : k = 1
  · subst h1
    rw [show kindB 1 = true from by decide]
    go_enter Try.func30, Try.ntmps30
    go_wp2_with fail
    go_ret
    exact ⟨rfl, rfl⟩
  · have e1 : (k == 1) = false := beq_eq_false_iff_ne.2 h1
    by_cases h2 : k = 2
    · subst h2
      rw [show kindB 2 = true from by decide]
      go_enter Try.func30, Try.ntmps30
      go_wp2_with fail
      go_ret
      exact ⟨rfl, rfl⟩
    · have e2 : (k == 2) = false := beq_eq_false_iff_ne.2 h2
      rw [show kindB k = false from by simp [kindB, h1, h2]]
      go_enter Try.func30, Try.ntmps30
      go_wp2_with fail
      go_ret
      exact ⟨rfl, rfl⟩
set_option maxHeartbeats 4000000 in
theorem pstep_any (k : Int) (w : World) : Calls Try.prog 32 #[.int .i64 k] w fun e w' => e = .returned (.bool (stepB k)) ∧ w = w' := by
  by_cases h1 : k = 1
  · subst h1
    rw [show stepB 1 = true from by decide]
    go_enter Try.func32, Try.ntmps32
    go_wp2_with fail
    go_ret
    exact ⟨rfl, rfl⟩
  · have e1 : (k == 1) = false := beq_eq_false_iff_ne.2 h1
    by_cases h2 : k = -1
    · subst h2
      rw [show stepB (-1) = true from by decide]
      go_enter Try.func32, Try.ntmps32
      go_wp2_with fail
      go_ret
      exact ⟨rfl, rfl⟩
    · have e2 : (k == -1) = false := beq_eq_false_iff_ne.2 h2
      rw [show stepB k = false from by simp [stepB, h1, h2]]
      go_enter Try.func32, Try.ntmps32
      go_wp2_with fail
      go_ret
      exact ⟨rfl, rfl⟩
set_option maxHeartbeats 4000000 in
theorem pwithin_any (v least most : Int) (w : World) : Calls Try.prog 33 #[.int .i64 v, .int .i64 least, .int .i64 most] w fun e w' => e = .returned (.bool (decide (least ≤ v) && decide (v ≤ most))) ∧ w = w' := by
  by_cases h1 : least ≤ v
  · by_cases h2 : v ≤ most
    · rw [decide_eq_true h1, decide_eq_true h2]
      go_enter Try.func33, Try.ntmps33
      go_wp2_with fail
      go_ret
      exact ⟨rfl, rfl⟩
    · rw [decide_eq_true h1, decide_eq_false h2]
      have h3 : most < v := by omega
      go_enter Try.func33, Try.ntmps33
      go_wp2_with fail
      go_ret
      exact ⟨rfl, rfl⟩
  · rw [decide_eq_false h1]
    have h3 : v < least := by omega
    go_enter Try.func33, Try.ntmps33
    go_wp2_with fail
    go_ret
    exact ⟨rfl, rfl⟩
set_option maxHeartbeats 4000000 in
theorem pspace_any (e : Int) (w : World) : Calls Try.prog 46 #[.int .i64 e] w fun r w' => r = .returned (.int .i64 (spaceI e)) ∧ w = w' := by
  by_cases h : e = 3
  · rw [show spaceI e = 67 from if_pos h]
    have e1 : (e == 3) = true := beq_iff_eq.2 h
    go_enter Try.func46, Try.ntmps46
    go_wp2_with fail
    go_ret
    exact ⟨rfl, rfl⟩
  · rw [show spaceI e = e from if_neg h]
    have e1 : (e == 3) = false := beq_eq_false_iff_ne.2 h
    go_enter Try.func46, Try.ntmps46
    go_wp2_with fail
    go_ret
    exact ⟨rfl, rfl⟩
/-- has an inode a name or a handle? -/
def heldB (x : Ino) : Bool := decide (0 < x.links) || decide (0 < x.opens)
set_option maxHeartbeats 4000000 in
theorem pheld_any (y : Iv) (w : World) : Calls Try.prog 51 #[.agg #[.int .i64 y.x.ino, .int .i64 y.x.kind, .int .i64 y.x.links, .int .i64 y.x.opens, .int .i64 y.x.size, .slice y.ao y.x.parts.length y.cap]] w fun e w' => e = .returned (.bool (heldB y.x)) ∧ Below w.heap.size w w' := by
  unfold heldB
  have HB := Lib.hid (blwA w (.cells (ivC y).toArray 50))
  unfold ivC at HB
  generalize y.x.parts.length = n at *
  by_cases h1 : 0 < y.x.links
  · rw [decide_eq_true h1]
    generalize y.x.links = k at *
    go_enter Try.func51, Try.ntmps51
    go_wp2_with fail
    go_ret
    exact ⟨rfl, HB.out⟩
  · rw [decide_eq_false h1]
    have h1' : y.x.links ≤ 0 := by omega
    by_cases h2 : 0 < y.x.opens
    · rw [decide_eq_true h2]
      generalize y.x.links = k at *
      generalize y.x.opens = o at *
      go_enter Try.func51, Try.ntmps51
      go_wp2_with fail
      go_ret
      exact ⟨rfl, HB.out⟩
    · rw [decide_eq_false h2]
      have h2' : y.x.opens ≤ 0 := by omega
      generalize y.x.links = k at *
      generalize y.x.opens = o at *
      go_enter Try.func51, Try.ntmps51
      go_wp2_with fail
      go_ret
      exact ⟨rfl, HB.out⟩
end Go.Proofs.Ytfkgeefoknaldaa
