/- What the program's own Copy makes: slices and numbers in new memory, each in a place of its own. Conditions: the projection lies where the call was told, and is not too large. -/
import Derived.Test.YtbiihcoobknmjaaGl
import Derived.Test.YtbiihcoobknmjaaGi
import Derived.Deep.RegionLaw
set_option linter.unusedVariables false
namespace Go.Proofs.Ytbiihcoobknmjaa
open Go.RowKit
set_option maxRecDepth 20000
/-- v is a row of the call's own that holds the slices vs, of its own too, whose rows hold the lists of L; no two of all these rows in one block -/
def CP (w : World) (B : Nat) (v : Value) (vs : List Value) (L : List (List Int)) : Prop :=
  w.ownsRow B 28 1 v L.length vs ∧ vs.length = L.length ∧ (∀ i (h : i < L.length) x, vs[i]? = some x → OI w B x L[i] ∧ ∀ k, x.ownBlock = some k → v.ownBlock ≠ some k) ∧
  ∀ (i j : Nat) (x y : Value) (k : Nat), i < j → vs[i]? = some x → vs[j]? = some y → x.ownBlock = some k → y.ownBlock ≠ some k
theorem CP.nil (w : World) (B : Nat) : CP w B (.slice none 0 0) [] [] := ⟨World.ownsRow_nil _ _ _ _, rfl, fun i h => absurd h (Nat.not_lt_zero i), fun i j x y k _ hx => by cases i <;> cases hx⟩
theorem CP.keep {S : Nat → Prop} {w w' : World} {B : Nat} {v : Value} {vs : List Value} {L : List (List Int)} (h : CP w B v vs L) (hk : Kept S w w') (hS : ∀ k, B ≤ k → k < w.heap.size → S k) : CP w' B v vs L := by
  obtain ⟨h1, h2, h3, h4⟩ := h
  exact ⟨hk.owns h1 (fun k e => hS k (h1.lt k e).1 (h1.lt k e).2), h2, fun i hi x hx => ⟨(h3 i hi x hx).1.keep hk hS, (h3 i hi x hx).2⟩, h4⟩
theorem CP.below {w w' : World} {B : Nat} {v : Value} {vs : List Value} {L : List (List Int)} (h : CP w B v vs L) (hb : Below w.heap.size w w') : CP w' B v vs L := h.keep (Kept.ofBelow hb (fun _ => True)) (fun _ _ _ => trivial)
theorem CP.form {w : World} {B : Nat} {v : Value} {vs : List Value} {L : List (List Int)} (h : CP w B v vs L) : ∃ bo cb, v = .slice bo L.length cb := by
  rcases h.1.2 with ⟨rfl, h0⟩ | ⟨g, cap, cur, rfl, _⟩
  · exact ⟨none, 0, by rw [h0]⟩
  · exact ⟨_, _, rfl⟩
theorem run_app_copy (w : World) (ty : TypeId) {B : Nat} {v : Value} {vs : List Value} {L : List (List Int)} (h : CP w B v vs L) {x : Value} {l : List Int} (hO : OI w B x l) (hf : ∀ k, x.ownBlock = some k → v.ownBlock ≠ some k ∧ ∀ (i : Nat) (y : Value), vs[i]? = some y → y.ownBlock ≠ some k) (hz : L.length + 1 ≤ 1000000) (hB : B ≤ w.heap.size) :
    ∃ v' w', (Builtin.append_ #[22, 22] ty #[v, .slice (some ⟨w.heap.size, 0, none⟩) 1 1]).run Try.prog (w.alloc (.cells #[x] 28)) = .ok v' w' ∧ CP w' B v' (vs ++ [x]) (L ++ [l]) ∧ Below B w w' := by
  obtain ⟨i0, hi, hz0, hz1, hz2⟩ := info_parts ints_info
  have hb1 : Below w.heap.size w (w.alloc (.cells #[x] 28)) := (Below.refl _ _).alloc (Nat.le_refl _) _
  obtain ⟨h1, h2, h3, h4⟩ := h.below hb1
  obtain ⟨ax, cx, hx, _, _, _⟩ := hO.form
  obtain ⟨v', w', hr, h5, hg, _, hat⟩ := run_append_own_at (P := Try.prog) (w.alloc (.cells #[x] 28)) B 22 ty 28 i0 (.slice none 0 0) 1 24 Try.underlying22 hi hz0 hz1 hz2 rfl (by decide) v L.length vs h1 ⟨w.heap.size, 0, none⟩ 1 1 [x] rfl (made_slice w _ _) (fun u hu => by rw [List.mem_singleton.1 hu, hx]; rfl) (by unfold maxLen; omega) (by omega) (Nat.le_trans hB hb1.size)
  have far : ∀ k, k < w.heap.size → v.ownBlock ≠ some k → v'.ownBlock ≠ some k := by
    intro k hl hne
    rcases hat with e | e
    · rw [e]; exact hne
    · rw [e]
      intro e2
      have e3 := Option.some.inj e2
      have := hb1.size
      omega
  refine ⟨v', w', hr, ⟨by rw [List.length_append]; exact h5, by rw [List.length_append, List.length_append, h2]; rfl, fun i hi y hy => ?_, fun i j y z k hij hy hz hk => ?_⟩, (hb1.mono hB).grown hg (Nat.le_trans hB hb1.size) (fun k hk => (h.1.lt k hk).1)⟩
  · by_cases hil : i < L.length
    · rw [List.getElem?_append_left (by omega)] at hy
      have e : (L ++ [l])[i] = L[i] := List.getElem_append_left hil
      rw [e]
      obtain ⟨h6, h7⟩ := h3 i hil y hy
      refine ⟨h6.kept hg ?_, fun k hk => far k ((h.2.2.1 i hil y hy).1.1.lt k hk).2 (h7 k hk)⟩
      cases e : y.ownBlock with
      | none => exact .inl rfl
      | some k => exact .inr (fun e2 => h7 k e e2.symm)
    · obtain rfl : i = L.length := by rw [List.length_append] at hi; simp at hi; omega
      rw [List.getElem?_append_right (by omega), h2, Nat.sub_self] at hy
      obtain rfl : x = y := by simpa using hy
      have e : (L ++ [l])[L.length] = l := by simp
      rw [e]
      refine ⟨(hO.alloc _).kept hg ?_, fun k hk => far k (hO.1.lt k hk).2 (hf k hk).1⟩
      cases e : x.ownBlock with
      | none => exact .inl rfl
      | some k => exact .inr (fun e2 => (hf k e).1 e2.symm)
  · by_cases hjl : j < L.length
    · rw [List.getElem?_append_left (by omega)] at hy hz
      exact h4 i j y z k hij hy hz hk
    · have hjx : j = L.length := by
        have := List.getElem?_eq_some_iff.1 hz
        obtain ⟨hj, _⟩ := this
        rw [List.length_append, h2] at hj
        simp at hj
        omega
      subst hjx
      rw [List.getElem?_append_left (by omega)] at hy
      rw [List.getElem?_append_right (by omega), h2, Nat.sub_self] at hz
      obtain rfl : x = z := by simpa using hz
      intro e
      exact (hf k e).2 i y hy hk
theorem step_app_copy {ops : Array Oper} {o : Oper} {a : Act} {w : World} {K : Act → World → Prop} {Q : Exit → Act → World → Prop} {E : Prop} (hgd : o.guard = none) (s x : Operand)
    (ho : o.op = Op.call { callee := Callee.builtin Builtin.append, args := #[s, x], argTypes := #[22, 22] }) {B : Nat} {v : Value} {vs : List Value} {L : List (List Int)} (hs : a.eval s = v) (h : CP w B v vs L)
    {y : Value} {l : List Int} (hx : a.eval x = .slice (some ⟨w.heap.size, 0, none⟩) 1 1) (hO : OI w B y l) (hf : ∀ k, y.ownBlock = some k → v.ownBlock ≠ some k ∧ ∀ (i : Nat) (z : Value), vs[i]? = some z → z.ownBlock ≠ some k) (hz : L.length + 1 ≤ 1000000) (hB : B ≤ w.heap.size)
    (hK : ∀ v' w', CP w' B v' (vs ++ [y]) (L ++ [l]) → Below B w w' → K (a.put o.dst v') w') :
    if Region.wanted o (yielded ops a.tmps) = true then Oper.wp Try.prog o a (w.alloc (.cells #[y] 28)) K Q else E := by
  have hw : Region.wanted o (yielded ops a.tmps) = true := by simp [Region.wanted, hgd]
  rw [if_pos hw]
  obtain ⟨v', w', hr, h2, h3⟩ := run_app_copy w o.type h hO hf hz hB
  unfold Oper.wp
  simp [execOp, ho, resolve, invoke, builtin, hs, hx, hr, Result.andThen]
  exact hK v' w' h2 h3
/-- a number of a row of the call's own -/
theorem OI.spot {w : World} {B : Nat} {x : Value} {l : List Int} (h : OI w B x l) {k : Nat} (hk : k < l.length) : ∃ g cap, x = .slice (some ⟨g, 0, none⟩) l.length cap ∧ B ≤ g ∧ g < w.heap.size ∧ w.frozen? ⟨g, 0 + k, none⟩ = false ∧ w.cell? ⟨g, 0 + k, none⟩ = some (.int .i64 l[k]) := by
  obtain ⟨ao, cap, hx, hN, hA, _⟩ := h.form
  rcases h.1.2 with ⟨rfl, h0⟩ | ⟨g, cap2, cur, rfl, hbg, hh, hnc, _, hcs, ht⟩
  · omega
  · obtain ⟨bk, off, e1, e2⟩ := hN.at k hk
    have e3 := Value.slice.inj hx
    rw [e1] at e3
    obtain ⟨e4, _, _⟩ := e3
    have e5 := Option.some.inj e4
    injection e5 with e6 e7 e8
    subst e6 e7
    exact ⟨g, cap2, rfl, hbg, lt_of_block hh, by simp [World.frozen?, hh], e2⟩
def sliceA : Value → Option Addr
  | .slice a _ _ => a
  | _ => none
def sliceC : Value → Nat
  | .slice _ _ c => c
  | _ => 0
/-- the copy that lies there -/
theorem CP.lay {w : World} {B : Nat} {v : Value} {vs : List Value} {L : List (List Int)} (h : CP w B v vs L) : ∃ bo cb bk off g o c ai, v = .slice bo L.length cb ∧ Lay w B bo L bk off g o c ai (fun _ _ => True) := by
  obtain ⟨h1, h2, h3, h4⟩ := h
  have hv : ∀ i, i < L.length → ∃ x, vs[i]? = some x := fun i hi => ⟨vs[i], List.getElem?_eq_getElem (by omega)⟩
  have hoff : ∀ i (hi : i < L.length) k (hk : k < L[i].length) x, vs[i]? = some x → ∃ gg cap, x = .slice (some ⟨gg, 0, none⟩) L[i].length cap ∧ B ≤ gg ∧ gg < w.heap.size ∧ w.frozen? ⟨gg, 0 + k, none⟩ = false ∧ w.cell? ⟨gg, 0 + k, none⟩ = some (.int .i64 L[i][k]) ∧ v.ownBlock ≠ some gg := by
    intro i hi k hk x hx
    obtain ⟨gg, cap, e, h5, h6, h7, h8⟩ := (h3 i hi x hx).1.spot hk
    exact ⟨gg, cap, e, h5, h6, h7, h8, (h3 i hi x hx).2 gg (by rw [e]; rfl)⟩
  rcases h1.2 with ⟨rfl, h0⟩ | ⟨g, cap, cur, rfl, hbg, hh, hnc, _, hcs, ht⟩
  · have : L = [] := List.eq_nil_of_length_eq_zero h0
    subst this
    exact ⟨none, 0, 0, 0, fun _ => 0, fun _ => 0, fun _ => 0, fun _ => none, rfl, ⟨fun i hi => absurd hi (Nat.not_lt_zero i), fun i hi => absurd hi (Nat.not_lt_zero i), fun i hi => absurd hi (Nat.not_lt_zero i), fun i hi => absurd hi (Nat.not_lt_zero i)⟩⟩
  · refine ⟨some ⟨g, 0, none⟩, cap, g, 0, fun i => ((sliceA (vs.getD i undef)).map (·.block)).getD 0, fun _ => 0, fun i => sliceC (vs.getD i undef), fun i => sliceA (vs.getD i undef), rfl, ⟨fun i hi => ?_, fun i hi k hk => ?_, fun i hi k hk j hj m hm e1 e2 => ?_, fun i hi k hk j hj e => ?_⟩⟩
    · obtain ⟨x, hx⟩ := hv i hi
      have hd : vs.getD i undef = x := by simp [List.getD, hx]
      refine ⟨rfl, hbg, ?_⟩
      obtain ⟨ao, cx, e, _, _, _⟩ := (h3 i hi x hx).1.form
      have h5 : (cur.toList.take (L.length * 1))[i]? = some x := by rw [ht]; exact hx
      rw [List.getElem?_take, if_pos (by omega)] at h5
      show w.cell? ⟨g, 0 + i, none⟩ = some (.slice (sliceA (vs.getD i undef)) L[i].length (sliceC (vs.getD i undef)))
      rw [hd, Nat.zero_add, e]
      show w.cell? ⟨g, i, none⟩ = some (Value.slice ao L[i].length cx)
      rw [← e, ← (by simpa using h5 : cur[i]? = some x)]
      simp [World.cell?, hh]
    · obtain ⟨x, hx⟩ := hv i hi
      have hd : vs.getD i undef = x := by simp [List.getD, hx]
      obtain ⟨gg, cc, e, h5, h6, h7, h8, _⟩ := hoff i hi k hk x hx
      simp only [hd, e]
      exact ⟨rfl, h5, h6, h7, fun _ => h8⟩
    · obtain ⟨x, hx⟩ := hv i hi
      obtain ⟨y, hy⟩ := hv j hj
      have hd : vs.getD i undef = x := by simp [List.getD, hx]
      have hd2 : vs.getD j undef = y := by simp [List.getD, hy]
      obtain ⟨gg, cc, e, _⟩ := hoff i hi k hk x hx
      obtain ⟨gh, ch, f, _⟩ := hoff j hj m hm y hy
      simp only [hd, hd2, e, f] at e1
      have e3 : gg = gh := e1
      subst e3
      have hij : i = j := by
        rcases Nat.lt_trichotomy i j with h5 | h5 | h5
        · exact absurd (show y.ownBlock = some gg by rw [f]; rfl) (h4 i j x y gg h5 hx hy (by rw [e]; rfl))
        · exact h5
        · exact absurd (show x.ownBlock = some gg by rw [e]; rfl) (h4 j i y x gg h5 hy hx (by rw [f]; rfl))
      exact ⟨hij, by omega⟩
    · obtain ⟨x, hx⟩ := hv i hi
      have hd : vs.getD i undef = x := by simp [List.getD, hx]
      obtain ⟨gg, cc, e2, _, _, _, _, h9⟩ := hoff i hi k hk x hx
      simp only [hd, e2] at e
      exact h9 (congrArg some (e.1 : gg = g)).symm
end Go.Proofs.Ytbiihcoobknmjaa
