/- What add makes of a packer. Conditions: the packer is as PK says; what is added is no longer than a string may be, and 2^40 bytes. -/
import Derived.Test.YtddhdibcchoakaaPackA
namespace Go.Proofs.Ytddhdibcchoakaa
open Go.RowKit

theorem infoU8 : (Try.prog.info? 5).map (fun i => (i.zero, i.size, i.bytes)) = some (some (.int .u8 0), 1, 1) := by kernel_rfl

def addM (m : ByteArray) (c : Int) (x : ByteArray) : ByteArray := if c ≠ 0 then m else if 65536 < m.size + x.size then ⟨#[]⟩ else m ++ x
def addC (m : ByteArray) (c : Int) (x : ByteArray) : Int := if c ≠ 0 then c else if 65536 < m.size + x.size then 2 else 0

theorem add_stopped (S : Nat → Prop) (w : World) (b : Nat) (m x : ByteArray) (c : Int) (h : PK S w b m c) (hc : c ≠ 0) :
    Calls Try.prog 28 #[.pointer (some ⟨b, 0, none⟩), .string x] w fun r w' => r = .returned (.tuple #[]) ∧ w = w' := by
  obtain ⟨h1, h2, v, h3, h4, h5⟩ := h
  obtain ⟨c0, c1, f0, f1⟩ := two_cells h3
  have hb : (c != 0) = true := by simpa using hc
  go_enter Try.func28, Try.ntmps28
  go_wp2
  exact bodyPost_ret (results_none rfl _ _ _) rfl ⟨rfl, rfl⟩

theorem add_long (S : Nat → Prop) (w : World) (b : Nat) (m x : ByteArray) (h : PK S w b m 0) (hm : m.size ≤ 65536) (hx : x.size ≤ 1099511627776) (hl : 65536 < m.size + x.size) :
    Calls Try.prog 28 #[.pointer (some ⟨b, 0, none⟩), .string x] w fun r w' => r = .returned (.tuple #[]) ∧ PK S w' b ⟨#[]⟩ 2 ∧ Kept S w w' := by
  have h' := h
  obtain ⟨h1, h2, v, h3, h4, h5⟩ := h'
  obtain ⟨c0, c1, f0, f1⟩ := two_cells h3
  have hl' : (65536 : Int) < (m.size : Int) + (x.size : Int) := by omega
  rcases h4.2 with ⟨rfl, hz⟩ | ⟨g, cap, cur, rfl, hg, hh, hn, hcap, _⟩
  · have hz' : 65536 < x.size := by omega
    clear hz
    go_enter Try.func28, Try.ntmps28
    go_wp2_with (go_at_call 31; refine (stop_any S _ b m 0 2 h).mono ?_; rintro e w' ⟨rfl, hp, hk⟩)
    exact bodyPost_ret (results_none rfl _ _ _) rfl ⟨rfl, hp, hk⟩
  · go_enter Try.func28, Try.ntmps28
    go_wp2_with (go_at_call 31; refine (stop_any S _ b m 0 2 h).mono ?_; rintro e w' ⟨rfl, hp, hk⟩)
    exact bodyPost_ret (results_none rfl _ _ _) rfl ⟨rfl, hp, hk⟩

/-- what an append to a packer's row and the store behind it leave -/
theorem add_rest {S : Nat → Prop} {w w1 : World} {b : Nat} {m x : ByteArray} {v v' : Value} (h1 : ∀ k, S k → k < w.heap.size) (h2 : ¬ S b) (h3 : w.heap[b]? = some (.cells #[v, .int .i64 0] 52 (0, 0)))
    (h5 : ∀ k, v.ownBlock = some k → ¬ S k ∧ k ≠ b) (ho : w1.ownsRow 0 5 1 v' (m.size + x.size) (Lib.strCells m ++ Lib.strCells x)) (hg : w.grownBy w1 v.ownBlock)
    (hf : ∀ k, v'.ownBlock = some k → v.ownBlock = some k ∨ w.heap.size ≤ k) :
    w1.heap[b]? = some (.cells #[v, .int .i64 0] 52 (0, 0)) ∧ PK S (w1.setCell ⟨b, 0, none⟩ v') b (m ++ x) 0 ∧ Kept S w (w1.setCell ⟨b, 0, none⟩ v') := by
  have hb : b < w.heap.size := lt_of_block h3
  have h3' : w1.heap[b]? = some (.cells #[v, .int .i64 0] 52 (0, 0)) := by
    rw [hg.block b hb (fun e => (h5 b e.symm).2 rfl)]; exact h3
  have h5' : ∀ k, v'.ownBlock = some k → ¬ S k ∧ k ≠ b := fun k hk => by
    rcases hf k hk with h | h
    · exact h5 k h
    · exact ⟨fun hs => by have := h1 k hs; omega, by omega⟩
  have hk : Kept S w w1 := (Kept.refl _ _).grown hg (fun k hk => (h5 k hk).1)
  refine ⟨h3', ⟨fun k hs => by have := Nat.lt_of_lt_of_le (h1 k hs) hg.size; simpa [World.setCell] using this, h2, v', two_set0 h3' _, ?_, h5'⟩, hk.setCell h2 _⟩
  rw [ByteArray.size_append, strCells_append]
  exact ownsRow_setCell_other ho (fun e => (h5' b e).2 rfl) _

set_option maxHeartbeats 400000 in
theorem add_room (S : Nat → Prop) (w : World) (b : Nat) (m x : ByteArray) (h : PK S w b m 0) (hm : m.size + x.size ≤ 65536) :
    Calls Try.prog 28 #[.pointer (some ⟨b, 0, none⟩), .string x] w fun r w' => r = .returned (.tuple #[]) ∧ PK S w' b (m ++ x) 0 ∧ Kept S w w' := by
  obtain ⟨i0, hi, hz0, hz1, hz2⟩ := info_parts infoU8
  obtain ⟨h1, h2, v, h3, h4, h5⟩ := h
  obtain ⟨c0, c1, f0, f1⟩ := two_cells h3
  have hm' : (m.size : Int) + (x.size : Int) ≤ 65536 := by omega
  have done : ∀ v' w', w'.ownsRow 0 5 1 v' (m.size + x.size) (Lib.strCells m ++ Lib.strCells x) → w.grownBy w' v.ownBlock → (∀ k, v'.ownBlock = some k → v.ownBlock = some k ∨ w.heap.size ≤ k) → _ := fun v' w' ho hg hf => add_rest h1 h2 h3 h5 ho hg hf
  rcases h4.2 with ⟨rfl, hz⟩ | ⟨g, cap, cur, rfl, hg, hh, hn, hcap, _⟩
  · have hz' : x.size ≤ 65536 := by omega
    have _HZ := Lib.hid hz
    clear hm' hz
    go_enter Try.func28, Try.ntmps28
    go_wp2_with (at_builtin; refine wpList_append_text _ rfl (.tmp 24) (.tmp 25) 50 9 rfl 5 i0 Try.underlying50 Try.underlying9 hi hz0 hz1 hz2 _ _ _ rfl h4 x rfl ?c1 ?c2)
    case c1 => omega
    case c2 =>
      intro v' w' ho hg hf
      obtain ⟨k3, hp, hk⟩ := done v' w' ho hg hf
      obtain ⟨d0, d1, g0, g1⟩ := two_cells k3
      rcases ho.2 with ⟨rfl, _⟩ | ⟨g', cap', cur', rfl, _⟩
      · go_wp2
        go_end0
        exact ⟨rfl, hp, hk⟩
      · go_wp2
        go_end0
        exact ⟨rfl, hp, hk⟩
  · go_enter Try.func28, Try.ntmps28
    go_wp2_with (at_builtin; refine wpList_append_text _ rfl (.tmp 24) (.tmp 25) 50 9 rfl 5 i0 Try.underlying50 Try.underlying9 hi hz0 hz1 hz2 _ _ _ rfl h4 x rfl ?d1 ?d2)
    case d1 => omega
    case d2 =>
      intro v' w' ho hg hf
      obtain ⟨k3, hp, hk⟩ := done v' w' ho hg hf
      obtain ⟨d0, d1, g0, g1⟩ := two_cells k3
      rcases ho.2 with ⟨rfl, _⟩ | ⟨g', cap', cur', rfl, _⟩
      · go_wp2
        go_end0
        exact ⟨rfl, hp, hk⟩
      · go_wp2
        go_end0
        exact ⟨rfl, hp, hk⟩

theorem add_any (S : Nat → Prop) (w : World) (b : Nat) (m x : ByteArray) (c : Int) (h : PK S w b m c) (hm : m.size ≤ 65536) (hx : x.size ≤ 1099511627776) :
    Calls Try.prog 28 #[.pointer (some ⟨b, 0, none⟩), .string x] w fun r w' => r = .returned (.tuple #[]) ∧ PK S w' b (addM m c x) (addC m c x) ∧ Kept S w w' := by
  by_cases hc : c = 0
  · subst hc
    by_cases hl : 65536 < m.size + x.size
    · have e1 : addM m 0 x = ⟨#[]⟩ := by simp [addM, hl]
      have e2 : addC m 0 x = 2 := by simp [addC, hl]
      rw [e1, e2]
      exact add_long S w b m x h hm hx hl
    · have e1 : addM m 0 x = m ++ x := by simp [addM, hl]
      have e2 : addC m 0 x = 0 := by simp [addC, hl]
      rw [e1, e2]
      exact add_room S w b m x h (by omega)
  · have e1 : addM m c x = m := by simp [addM, hc]
    have e2 : addC m c x = c := by simp [addC, hc]
    rw [e1, e2]
    refine (add_stopped S w b m x c h hc).mono ?_
    rintro r w' ⟨rfl, rfl⟩
    exact ⟨rfl, h, Kept.refl _ _⟩
end Go.Proofs.Ytddhdibcchoakaa
