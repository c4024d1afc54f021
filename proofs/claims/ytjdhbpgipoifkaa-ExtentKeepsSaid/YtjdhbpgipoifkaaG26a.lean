/- Plain facts for the laws ExtentHoles, ExtentKeeps and ExtentBytes. No conditions. -/
import Derived.Test.YtjdhbpgipoifkaaG25a
set_option linter.unusedVariables false
namespace Go.Proofs.Ytjdhbpgipoifkaa
open Go.RowKit Go.Sort
set_option linter.unusedVariables false
set_option maxRecDepth 20000
theorem hole_all {o m : Int} (h : planB o m = true) : planE [] o m = [⟨o, m, -1, 0⟩] := by
  obtain ⟨h0, h1, h2, h3, h4⟩ := planB_iff.1 h
  unfold planE
  rw [if_pos ⟨by kernel_rfl, h⟩]
  show (if o < o + m then [(⟨o, o + m - o, -1, 0⟩ : Pt)] else []) = _
  rw [if_pos (by omega), show o + m - o = m from by omega]
theorem cut_good {l : List Pt} (h : goodE l = true) (s : Int) : goodE (cutE l s) = true := by
  obtain ⟨h1, h2⟩ := goodE_iff.1 h
  rw [(cutE_few h).1, cut_is h2]
  exact goodE_iff.2 ⟨Nat.le_trans (cutL_len _ _) h1, (cutL_ok _ h2).1⟩
theorem cut_at {l : List Pt} (h : goodE l = true) {k : Int} (hk : 0 ≤ k) (i : Int) : atE (cutE l k) i = if i < k then atE l i else none := by
  obtain ⟨h1, h2⟩ := goodE_iff.1 h
  rw [(cutE_few h).1, cut_is h2, show max k 0 = k from by omega, (cutL_ok _ h2).2]
theorem cut_end {l : List Pt} (h : goodE l = true) {k : Int} (hk : 0 ≤ k) : 0 ≤ endE (cutE l k) ∧ endE (cutE l k) ≤ k := by
  have hg := cut_good h k
  unfold endE
  rw [if_pos hg]
  obtain ⟨⟨a, b⟩, c, d⟩ := rail_end (goodE_iff.1 hg).2
  refine ⟨a, ?_⟩
  by_cases q : 0 < endL (cutE l k)
  · have := d q
    rw [cut_at h hk] at this
    by_cases r : endL (cutE l k) - 1 < k
    · omega
    · rw [if_neg r] at this
      exact absurd rfl this
  · omega
theorem tile_mem {l : List Pt} {o e : Int} (h : tileE o l e) : ∀ x ∈ l, 1 ≤ x.len := by
  induction l generalizing o with
  | nil => intro x hx; cases hx
  | cons y l ih =>
    obtain ⟨_, h1, h2⟩ := h
    intro x hx
    rcases List.mem_cons.1 hx with rfl | hx
    · exact h1
    · exact ih h2 x hx
theorem rail_hit {l : List Pt} (h : railB l = true) {x : Pt} (hx : x ∈ l) {i : Int} (hi : x.off ≤ i ∧ i < x.off + x.len) : atE l i = some (x.addr, x.src + (i - x.off)) := by
  induction l with
  | nil => cases hx
  | cons y l ih =>
    rcases List.mem_cons.1 hx with rfl | hx
    · exact atE_yes hi
    · have h1 := railB_behind h x hx
      have h2 : y.stop = y.off + y.len := rfl
      rw [atE_no (by omega)]
      exact ih (railB_cons h).2.1 hx
theorem plan_mid {l : List Pt} (h : goodE l = true) {o m : Int} (g : planB o m = true) : (∀ x ∈ planE l o m, midP x ∧ 1 ≤ x.len ∧ saysP (spF l) x) ∧ tileE o (planE l o m) (o + m) := by
  obtain ⟨h0, h1, h2, h3, h4⟩ := planB_iff.1 g
  rw [planE_pcs h g]
  have ht := pcs_tile (spF l) o.toNat m.toNat
  rw [show ((o.toNat : Nat) : Int) = o from by omega, show ((o.toNat + m.toNat : Nat) : Int) = o + m from by omega] at ht
  refine ⟨fun x hx => ⟨?_, tile_mem ht.1 x hx, ht.2 x hx⟩, ht.1⟩
  have := (pcs_mid (rail_sound (goodE_iff.1 h).2) (o := o.toNat) (n := m.toNat) (by omega)).2
  rw [bytG_at] at this
  exact this x hx
theorem plan_hole {l : List Pt} (h : goodE l = true) {k : Int} (hk : 0 ≤ k) {o m : Int} (g : planB o m = true) : ∀ x ∈ planE (cutE l k) o m, midP x ∧ (x.off + x.len ≤ k ∨ x.addr < 0) := by
  intro x hx
  obtain ⟨h1, h2, h3, h4⟩ := (plan_mid (cut_good h k) g).1 x hx
  refine ⟨h1, ?_⟩
  by_cases q : x.off + x.len ≤ k
  · exact .inl q
  · obtain ⟨h5, _⟩ := h4 (x.len - 1).toNat (by omega)
    rw [spF_none (by rw [cut_at h hk, if_neg (by omega)])] at h5
    exact .inr (by rw [← h5]; decide)
theorem move_all {l : List Pt} {m : Mv} {to : Int} (h : goodE l = true) : ((moveE l m to).2 = 0 ∧ mayB m to = true ∧ goodE (moveE l m to).1 = true ∧ endE (moveE l m to).1 = endE l ∧ ∀ i, atE (moveE l m to).1 i = (atE l i).map (mv1 m to)) ∨ (∃ c, (c = 1 ∨ c = 3) ∧ (moveE l m to).2 = c ∧ (moveE l m to).1 = []) := by
  obtain ⟨h1, h2⟩ := goodE_iff.1 h
  unfold moveE
  rw [if_pos h]
  by_cases g : mayB m to = true
  · rw [if_pos g]
    obtain ⟨h3, h4⟩ := mov_tell h2 g
    have h5 := mov_end h2 g
    unfold fewE
    by_cases q : (gatE (mvF m to (spF l)) 8192).length ≤ 64
    · rw [if_pos q]
      have hg : goodE (gatE (mvF m to (spF l)) 8192) = true := goodE_iff.2 ⟨q, h3⟩
      refine .inl ⟨rfl, g, hg, ?_, h4⟩
      unfold endE
      show (if goodE (gatE (mvF m to (spF l)) 8192) = true then endL (gatE (mvF m to (spF l)) 8192) else 0) = _
      rw [if_pos hg, if_pos h, h5]
    · rw [if_neg q]
      exact .inr ⟨3, .inr rfl, rfl, rfl⟩
  · rw [if_neg g]
    exact .inr ⟨1, .inl rfl, rfl, rfl⟩
/-- now and done -/
structure PutI (N D : List Pt) : Prop where
  good : goodE N = true
  one : ∀ x ∈ D, oneB x = true
  tell : ∀ i, atE N i = laidE D i
theorem PutI.none : PutI [] [] := ⟨by kernel_rfl, (fun x hx => by cases hx), fun i => rfl⟩
theorem PutI.next {N D : List Pt} (h : PutI N D) (x : Pt) : ((putE N x).2 = 0 ∧ PutI (putE N x).1 (D ++ [x])) ∨ (putE N x).2 = 1 ∨ (putE N x).2 = 3 := by
  obtain ⟨h1, h2⟩ := goodE_iff.1 h.good
  unfold putE
  rw [if_pos h.good]
  by_cases g : oneB x = true
  · rw [if_pos g]
    obtain ⟨h3, h4⟩ := put_tell h2 g
    unfold fewE
    by_cases q : (gatE (putF (spF N) x) 8192).length ≤ 64
    · rw [if_pos q]
      refine .inl ⟨rfl, goodE_iff.2 ⟨q, h3⟩, fun y hy => ?_, fun i => ?_⟩
      · rcases List.mem_append.1 hy with hy | hy
        · exact h.one y hy
        · rw [List.mem_singleton.1 hy]; exact g
      · rw [h4, laidE_snoc, h.tell]
        rfl
    · rw [if_neg q]
      exact .inr (.inr rfl)
  · rw [if_neg g]
    exact .inr (.inl rfl)
/-- where the last one put it -/
def lastP (D : List Pt) (i : Int) : Int × Int := match laidE D i with | some x => x | none => (-1, 0)
theorem PutI.last {N D : List Pt} (h : PutI N D) (i : Int) : atP N i = lastP D i := by unfold atP lastP; rw [h.tell]; cases laidE D i <;> rfl
theorem last_nil (i : Int) : lastP [] i = (-1, 0) := rfl
theorem atP_one (x : Pt) (i : Int) : atP [x] i = if x.off ≤ i ∧ i < x.off + x.len then (x.addr, x.src + (i - x.off)) else (-1, 0) := by
  unfold atP
  rw [atE_one]
  by_cases h : x.off ≤ i ∧ i < x.off + x.len
  · rw [if_pos h, if_pos h]
  · rw [if_neg h, if_neg h]
theorem last_step {D : List Pt} {k : Nat} (hk : k < D.length) (h1 : oneB D[k] = true) (i : Int) :
    (0 ≤ (atP [D[k]] i).1 ∧ lastP (D.take (k + 1)) i = atP [D[k]] i) ∨ (atP [D[k]] i = (-1, 0) ∧ lastP (D.take (k + 1)) i = lastP (D.take k) i) := by
  unfold lastP
  rw [laid_step hk, atP_one]
  unfold layG
  obtain ⟨o1, o2, o3, o4, o5, o6, o7⟩ := oneB_iff.1 h1
  by_cases h : D[k].off ≤ i ∧ i < D[k].off + D[k].len
  · rw [if_pos h, if_pos h]
    exact .inl ⟨o4, rfl⟩
  · rw [if_neg h, if_neg h]
    exact .inr ⟨rfl, rfl⟩
theorem mv1_yes {m : Mv} {to a f : Int} (h : a = m.addr) (h1 : m.src ≤ f) (h2 : f < m.src + m.len) : mv1 m to (a, f) = (to, m.at_ + f - m.src) := by
  unfold mv1
  rw [if_pos (by show a = m.addr ∧ 0 ≤ f - m.src ∧ f - m.src < m.len; omega)]
  show (to, m.at_ + (f - m.src)) = _
  rw [show m.at_ + (f - m.src) = m.at_ + f - m.src from by omega]
theorem mv1_no {m : Mv} {to a f : Int} (h : ¬ (a = m.addr ∧ m.src ≤ f ∧ f < m.src + m.len)) : mv1 m to (a, f) = (a, f) := by
  unfold mv1
  rw [if_neg (by show ¬ (a = m.addr ∧ 0 ≤ f - m.src ∧ f - m.src < m.len); omega)]
theorem keep_at {l K : List Pt} {m : Mv} {to : Int} (hr : railB l = true) (h : ∀ i, atE K i = (atE l i).map (mv1 m to)) {x : Pt} (hx : x ∈ l) {j : Int} (h0 : 0 ≤ j) (h1 : j < x.len) : atP K (x.off + j) = mv1 m to (x.addr, x.src + j) := by
  unfold atP
  rw [h, rail_hit hr hx (by omega), show x.src + (x.off + j - x.off) = x.src + j from by omega]
  rfl
theorem four_keep {w0 W W' : World} {b : Nat} {x y z u : Value} (hlt : b < w0.heap.size) (hb : Below W.heap.size W W')
    (h : W.cell? ⟨b, 0, none⟩ = some x ∧ W.cell? ⟨b, 1, none⟩ = some y ∧ W.cell? ⟨b, 2, none⟩ = some z ∧ W.cell? ⟨b, 3, none⟩ = some u ∧ Below w0.heap.size w0 W ∧ w0.heap.size ≤ W.heap.size) :
    W'.cell? ⟨b, 0, none⟩ = some x ∧ W'.cell? ⟨b, 1, none⟩ = some y ∧ W'.cell? ⟨b, 2, none⟩ = some z ∧ W'.cell? ⟨b, 3, none⟩ = some u ∧ Below w0.heap.size w0 W' ∧ w0.heap.size ≤ W'.heap.size := by
  obtain ⟨h0, h1, h2, h3, h4, h5⟩ := h
  have hl := Nat.lt_of_lt_of_le hlt h5
  exact ⟨cellB hb hl h0, cellB hb hl h1, cellB hb hl h2, cellB hb hl h3, h4.trans (hb.mono h5), Nat.le_trans h5 hb.size⟩
theorem four_below {w0 W : World} {b : Nat} {x y z u : Value}
    (h : W.cell? ⟨b, 0, none⟩ = some x ∧ W.cell? ⟨b, 1, none⟩ = some y ∧ W.cell? ⟨b, 2, none⟩ = some z ∧ W.cell? ⟨b, 3, none⟩ = some u ∧ Below w0.heap.size w0 W ∧ w0.heap.size ≤ W.heap.size) : Below w0.heap.size w0 W := h.2.2.2.2.1
/-- one part of a row -/
theorem PaL.sub {w : World} {bk off : Nat} {l : List Pt} (h : PaL w (some ⟨bk, off, none⟩) l) {k : Nat} (hk : k < l.length) : PaL w (some ⟨bk, off + k * 4, none⟩) [l[k]] := by
  intro i hi
  obtain rfl : i = 0 := by simpa using hi
  obtain ⟨b2, o2, e, h2⟩ := h k hk
  cases e
  refine ⟨bk, off + k * 4, rfl, fun j v hv => ?_⟩
  rw [Nat.zero_mul, Nat.add_zero]
  exact h2 j v hv
theorem OPa.form {w : World} {B : Nat} {v : Value} {l : List Pt} (h : OPa w B v l) : ∃ a c, v = .slice a l.length c ∧ PaL w a l ∧ l.length ≤ c ∧ (a = none → c = 0) := by
  obtain ⟨a, c, h1, h2, h3, h4, _⟩ := OR.form par_rows h
  exact ⟨a, c, h1, h2, h3, h4⟩
/-- two rows in blocks of their own -/
def apartV (v u : Value) : Prop := ∀ k, v.ownBlock = some k → u.ownBlock ≠ some k
theorem apartV_new {w w' : World} {B : Nat} {v u : Value} {l m : List Pt} (h : OPa w B u m) (h2 : OPa w' w.heap.size v l) : apartV v u := fun k e1 e2 => by
  have a := (h2.lt k e1).1
  have b := (h.lt k e2).2
  omega
theorem apartV_app {w w' : World} {B : Nat} {v u u' : Value} {l : List Pt} (h : apartV v u) (ho : OPa w B v l) (hg : w.grownBy w' u.ownBlock) (hu : u'.ownBlock = u.ownBlock ∨ u'.ownBlock = some w.heap.size) : OPa w' B v l ∧ apartV v u' := by
  refine ⟨OR.keep ho (Kept.grown (Kept.refl (fun k => v.ownBlock = some k) w) hg (fun k e1 e2 => h k e2 e1)) (fun k e => e), fun k e1 e2 => ?_⟩
  rcases hu with e | e
  · exact h k e1 (e ▸ e2)
  · rw [e] at e2
    have b := (ho.lt k e1).2
    have := Option.some.inj e2
    omega
theorem plan_at {N : List Pt} {y : Pt} (h : saysP (spF N) y) {t : Nat} (ht : (t : Int) < y.len) : (atP N (y.off + (t : Int))).1 = y.addr ∧ (0 ≤ y.addr → (atP N (y.off + (t : Int))).2 = y.src + (t : Int)) := by
  obtain ⟨h0, h1⟩ := h
  have e : atP N (y.off + (t : Int)) = spF N (y.off.toNat + t) := by
    unfold atP spF
    rw [show ((y.off.toNat + t : Nat) : Int) = y.off + (t : Int) from by omega]
    cases atE N (y.off + (t : Int)) <;> rfl
  rw [e]
  exact h1 t ht
theorem tile_at {Q : List Pt} {k e : Int} {j : Nat} (hj : j < Q.length) (h : tileE k (Q.drop j) e) : Q[j].off = k ∧ 1 ≤ Q[j].len ∧ tileE (Q[j].off + Q[j].len) (Q.drop (j + 1)) e := by
  rw [List.drop_eq_getElem_cons hj] at h
  exact h
theorem tile_done {Q : List Pt} {k e : Int} (h : tileE k (Q.drop Q.length) e) : k = e := by
  rw [List.drop_length] at h
  exact h
end Go.Proofs.Ytjdhbpgipoifkaa
