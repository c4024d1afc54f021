/- Plain facts on a unit that pages are written to: they are read as they were written. A slice of bytes that was handed over. No conditions. -/
import Derived.Test.YtaodmdoagngdnaaUniV
namespace Go.Proofs.Ytaodmdoagngdnaa
set_option linter.unusedVariables false
open Go.ChangeShapes Go.WideShapes Go.ChangeAt Go.RowKit
def byteC (x : Int) : List Value := [.int .u8 x]
def byteOk (_ : World) (x : Int) : Prop := 0 ≤ x ∧ x < 256
section
variable {H : Type} {enc : TypeId × Value → H} {P : Program} {w : World} {base : Nat} {spare : Nat → Bool} {held : Bool}
theorem byte_cs {n : Nat} {cs : List Value} {y : DataW H × List MemPlace} {e : TypeId} (he : P.underlying e = some (.int .u8)) (hl : cs.length = 1) (hf : DataW.trod enc P w base spare held n e cs = some y) : ∃ x, cs = byteC x ∧ byteOk w x := by
  obtain ⟨x, e0, _, wf⟩ := DataW.trod_int he hf
  refine ⟨x, e0, ?_⟩
  have h := wf
  simp [Lit.wf] at h
  have e1 : IntKind.u8.min = 0 := by decide
  have e2 : IntKind.u8.max = 255 := by decide
  unfold byteOk
  omega
end
/-- some pages were written with the text s, k of them at most; they are all there is -/
structure Wrote (u : Us) (s : ByteArray) (V : List Int) (k : Nat) : Prop where
  ok : u.p.Ok
  room : u.p.room = 300
  edge : u.p.edge = 0
  ep : u.epoch = 0
  few : u.p.l.length ≤ k
  all : ∀ x ∈ u.p.l, x.kind = 1 ∧ x.s = s
  there : ∀ v ∈ V, (0 ≤ v ∧ v < 256) ∧ ∃ x ∈ u.p.l, x.at_ = v
theorem Wrote.start (s : ByteArray) : Wrote (newU 300) s [] 0 := ⟨newP_ok (by decide), rfl, rfl, rfl, Nat.le_refl _, (fun x hx => by cases hx), fun v hv => by cases hv⟩
theorem Wrote.find {u : Us} {s : ByteArray} {V : List Int} {k : Nat} (h : Wrote u s V k) {v : Int} (hv : v ∈ V) : ∃ x, findP u.p.l v = some x ∧ x.kind = 1 ∧ x.s = s := by
  obtain ⟨_, x, hx, e⟩ := h.there v hv
  cases hf : findP u.p.l v with
  | none => exact absurd e (findP_none.1 hf x hx)
  | some y =>
    obtain ⟨h1, _⟩ := findP_some hf
    exact ⟨y, rfl, h.all y h1⟩
theorem Wrote.read {u : Us} {s : ByteArray} {V : List Int} {k : Nat} (h : Wrote u s V k) (hd : u.down = false) {v : Int} (hv : v ∈ V) : (u.ans (akP 3 0 v ⟨#[]⟩)).code = 0 ∧ (u.ans (akP 3 0 v ⟨#[]⟩)).data = s ∧ u.done (akP 3 0 v ⟨#[]⟩) = u := by
  obtain ⟨x, hx, hk, hs⟩ := h.find hv
  obtain ⟨hr, _⟩ := h.there v hv
  have hth : thereB v = true := thereB_iff.2 (by omega)
  have hkd : u.p.kind v = 1 := by
    unfold Ps.kind
    rw [if_pos hth, if_neg (by rw [h.edge]; omega), hx]
    exact hk
  have hE : u.p.readE v = 0 := by
    unfold Ps.readE
    rw [hth, hkd]
    rfl
  have hT : u.p.readS v = s := by
    unfold Ps.readS Ps.text
    rw [if_pos hE, hx]
    exact hs
  have ha : u.ans (akP 3 0 v ⟨#[]⟩) = anP 0 0 s u.epoch := by
    unfold Us.ans
    rw [if_neg (by rw [hd]; decide), if_neg (by show ¬ ((3 : Int) < 1 ∨ (5 : Int) < 3); omega), if_neg (by show ¬ (0 : Int) < u.epoch; rw [h.ep]; omega), if_neg (by show ¬ (3 : Int) = 5; omega), if_pos (by show (3 : Int) = 3; rfl)]
    show anP (u.p.readE v) 0 (u.p.readS v) u.epoch = _
    rw [hE, hT]
  refine ⟨by rw [ha]; rfl, by rw [ha]; rfl, ?_⟩
  unfold Us.done
  rw [if_neg (by show ¬ (u.down = true ∨ ((3 : Int) < 1 ∨ (5 : Int) < 3) ∨ (0 : Int) < u.epoch); rw [hd, h.ep]; simp), if_neg (by show ¬ (3 : Int) = 5; omega)]
  rfl
theorem Wrote.crashed {u : Us} {v : Int} (hd : u.down = true) : (u.ans (akP 3 0 v ⟨#[]⟩)).code = 45 ∧ (u.ans (akP 3 0 v ⟨#[]⟩)).data = ⟨#[]⟩ ∧ u.done (akP 3 0 v ⟨#[]⟩) = u := by
  have ha : u.ans (akP 3 0 v ⟨#[]⟩) = anP 45 0 noS 0 := if_pos hd
  exact ⟨by rw [ha]; rfl, by rw [ha]; rfl, if_pos (.inl hd)⟩
theorem Wrote.turn {u : Us} {s : ByteArray} {V : List Int} {k : Nat} (h : Wrote u s V k) (d : Bool) : Wrote ⟨u.p, u.epoch, d⟩ s V k := ⟨h.ok, h.room, h.edge, h.ep, h.few, h.all, h.there⟩
theorem Wrote.write {u : Us} {s : ByteArray} {V : List Int} {k : Nat} (h : Wrote u s V k) (hd : u.down = false) {v : Int} (hv : 0 ≤ v ∧ v < 256) (hs : s.size ≤ 2000) (hk : k ≤ 200) :
    Wrote (u.done (akP 1 0 v s)) s (V ++ [v]) (k + 1) ∧ (u.done (akP 1 0 v s)).down = false := by
  have hdn : u.done (akP 1 0 v s) = ⟨u.p.write v s, u.epoch, u.down⟩ := by
    unfold Us.done
    rw [if_neg (by show ¬ (u.down = true ∨ ((1 : Int) < 1 ∨ (5 : Int) < 1) ∨ (0 : Int) < u.epoch); rw [hd, h.ep]; simp), if_neg (by show ¬ (1 : Int) = 5; omega)]
    rfl
  rw [hdn]
  refine ⟨?_, hd⟩
  have hth : thereB v = true := thereB_iff.2 (by omega)
  cases hf : findP u.p.l v with
  | some x =>
    obtain ⟨h1, h2⟩ := findP_some hf
    have hkd : u.p.kind v = 1 := by
      unfold Ps.kind
      rw [if_pos hth, if_neg (by rw [h.edge]; omega), hf]
      exact (h.all x h1).1
    have hw : u.p.write v s = u.p := by
      unfold Ps.write
      rw [if_neg]
      intro e
      have := (writeE_zero e).2.2.1
      omega
    rw [hw]
    refine ⟨h.ok, h.room, h.edge, h.ep, Nat.le_succ_of_le h.few, h.all, fun y hy => ?_⟩
    rcases List.mem_append.1 hy with hy | hy
    · exact h.there y hy
    · rw [List.mem_singleton.1 hy]; exact ⟨hv, x, h1, h2⟩
  | none =>
    have hkd : u.p.kind v = 0 := by
      unfold Ps.kind
      rw [if_pos hth, if_neg (by rw [h.edge]; omega), hf]
    have hE : u.p.writeE v s = 0 := by
      unfold Ps.writeE
      rw [hth, hkd, if_neg (by decide), if_neg (by omega), if_neg (by decide), if_neg (by decide), if_neg (by rw [h.room]; have := h.few; omega)]
    have hw : u.p.write v s = u.p.add ⟨v, 1, s⟩ := if_pos hE
    have hok := h.ok.write v s
    rw [hw] at hok ⊢
    refine ⟨hok, h.room, h.edge, h.ep, ?_, fun x hx => ?_, fun y hy => ?_⟩
    · show (u.p.l ++ [_]).length ≤ k + 1
      rw [List.length_append]
      have := h.few
      simp
      omega
    · rcases List.mem_append.1 hx with hx | hx
      · exact h.all x hx
      · rw [List.mem_singleton.1 hx]; exact ⟨rfl, rfl⟩
    · rcases List.mem_append.1 hy with hy | hy
      · obtain ⟨h1, x, h2, h3⟩ := h.there y hy
        exact ⟨h1, x, List.mem_append_left _ h2, h3⟩
      · rw [List.mem_singleton.1 hy]
        exact ⟨hv, ⟨v, 1, s⟩, List.mem_append_right _ (List.mem_singleton.2 rfl), rfl⟩
theorem byte_at {w : World} {ao : Option Addr} {l : List Int} (h : Row w ao 1 byteC l) {i : Nat} (hi : i < l.length) : ∃ bk off, ao = some ⟨bk, off, none⟩ ∧ w.cell? ⟨bk, off + i, none⟩ = some (.int .u8 l[i]) := by
  obtain ⟨bk, off, h1, h2⟩ := h i hi
  have := h2 0 _ rfl
  simp at this
  exact ⟨bk, off, h1, this⟩
end Go.Proofs.Ytaodmdoagngdnaa
