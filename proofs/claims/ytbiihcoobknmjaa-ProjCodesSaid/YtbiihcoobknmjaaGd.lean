/- Plain facts on the bytes that Put makes and that Get reads. Conditions: the numbers' bounds, as each lemma states them. What a packer is in memory; what New and stop make of it. Conditions: the packer is as PK says. What add makes of a packer. Conditions: the packer is as PK says; what is added is no longer than a string may be, and 2^40 bytes. -/
import Derived.Test.YtbiihcoobknmjaaJShiftC
import Derived.Test.YtbiihcoobknmjaaJShiftD
import Derived.Test.YtbiihcoobknmjaaGb
set_option linter.unusedVariables false
namespace Go.Proofs.Ytbiihcoobknmjaa
open Go.RowKit

/-- the n lowest bytes of a number, as bytes -/
def bl (x : Nat) : Nat → List UInt8
  | 0 => []
  | n + 1 => UInt8.ofNat (x / 256 ^ n % 256) :: bl x n
theorem bl_length (x n : Nat) : (bl x n).length = n := by
  induction n with
  | zero => rfl
  | succ n ih => simp [bl, ih]
theorem putI_nat (x n : Nat) : (putI (x : Int) n).map (fun k => UInt8.ofNat k.toNat) = bl x n := by
  induction n with
  | zero => rfl
  | succ n ih =>
    have e : ((x : Int) / 256 ^ n % 256).toNat = x / 256 ^ n % 256 := by
      have : ((x : Int) / 256 ^ n % 256) = ((x / 256 ^ n % 256 : Nat) : Int) := by simp
      rw [this, Int.toNat_natCast]
    simp [putI, bl, ih, e]
theorem putS_list (x n : Nat) : (putS (x : Int) n).data.toList = bl x n := by
  rw [putS, strOfNums_data, putI_nat]
theorem putS_eq (x n : Nat) : putS (x : Int) n = ⟨(bl x n).toArray⟩ := by
  unfold putS strOfNums
  rw [putI_nat]
theorem bl_add (x a b : Nat) : bl x (a + b) = bl (x / 256 ^ b) a ++ bl x b := by
  induction a with
  | zero => simp [bl]
  | succ a ih =>
    rw [show a + 1 + b = (a + b) + 1 by omega]
    simp only [bl, List.cons_append, ih]
    rw [Nat.div_div_eq_div_mul, ← Nat.pow_add, Nat.add_comm b a]
theorem digit_mod (x n k : Nat) (h : n < k) : x % 256 ^ k / 256 ^ n % 256 = x / 256 ^ n % 256 := by
  obtain ⟨t, rfl⟩ : ∃ t, k = n + (1 + t) := ⟨k - n - 1, by omega⟩
  rw [Nat.pow_add, Nat.mod_mul_right_div_self]
  exact Nat.mod_mod_of_dvd _ ⟨256 ^ t, by rw [Nat.pow_add]⟩
theorem bl_mod (x n k : Nat) (h : n ≤ k) : bl (x % 256 ^ k) n = bl x n := by
  induction n with
  | zero => rfl
  | succ n ih => simp only [bl]; rw [ih (by omega), digit_mod x n k (by omega)]
theorem getI_from (l : List UInt8) (a : Int) : l.foldl (fun a c => a * 256 + (c.toNat : Int)) a = a * 256 ^ l.length + getI l := by
  induction l generalizing a with
  | nil => simp [getI]
  | cons c l ih =>
    have g : getI (c :: l) = (c.toNat : Int) * 256 ^ l.length + getI l := by
      show l.foldl (fun a c => a * 256 + (c.toNat : Int)) (0 * 256 + (c.toNat : Int)) = _
      rw [ih, Int.zero_mul, Int.zero_add]
    rw [List.foldl_cons, ih, g, List.length_cons, Int.pow_succ, Int.add_mul, Int.mul_assoc, Int.mul_comm 256 (256 ^ l.length), Int.add_assoc]
theorem getI_cons (c : UInt8) (l : List UInt8) : getI (c :: l) = (c.toNat : Int) * 256 ^ l.length + getI l := by
  show l.foldl (fun a c => a * 256 + (c.toNat : Int)) (0 * 256 + (c.toNat : Int)) = _
  rw [getI_from, Int.zero_mul, Int.zero_add]
theorem getI_bl (x n : Nat) : getI (bl x n) = ((x % 256 ^ n : Nat) : Int) := by
  induction n with
  | zero => simp [bl, getI, Nat.mod_one]
  | succ n ih =>
    rw [bl, getI_cons, ih, bl_length]
    have e : (UInt8.ofNat (x / 256 ^ n % 256)).toNat = x / 256 ^ n % 256 := by
      simp
    have m : x % 256 ^ (n + 1) = x % 256 ^ n + 256 ^ n * (x / 256 ^ n % 256) := by rw [Nat.pow_succ, Nat.mod_mul]
    rw [e, m]
    simp only [Int.natCast_add, Int.natCast_mul, Int.natCast_pow]
    rw [Int.mul_comm, Int.add_comm]
    rfl
theorem putR_eq {v n : Int} (h0 : 0 ≤ n) (h1 : n ≤ 8) : putR v n = putS v n.toNat := if_pos ⟨h0, h1⟩
theorem str_append (a b : List UInt8) : (⟨a.toArray⟩ : ByteArray) ++ ⟨b.toArray⟩ = ⟨(a ++ b).toArray⟩ := by
  apply ByteArray.ext
  rw [ByteArray.data_append]
  exact Array.toList_inj.1 (by simp)
theorem size_str (l : List UInt8) : (⟨l.toArray⟩ : ByteArray).size = l.length := by simp [ByteArray.size]
theorem putR_len (v : Int) (n : Nat) (h : n ≤ 8) : (putR v n).size = n := by
  rw [putR_eq (by omega) (by omega), Int.toNat_natCast]
  unfold putS
  rw [strOfNums_size]
  have : ∀ k, (putI v k).length = k := by
    intro k
    induction k with
    | zero => rfl
    | succ k ih => simp [putI, ih]
  exact this _
end Go.Proofs.Ytbiihcoobknmjaa
namespace Go.Proofs.Ytbiihcoobknmjaa
open Go.RowKit

/-- in world w block b is a packer that has put the bytes m, with the error c; it lies outside the blocks of S, and so does the row that holds its bytes -/
def PK (S : Nat → Prop) (w : World) (b : Nat) (m : ByteArray) (c : Int) : Prop :=
  (∀ k, S k → k < w.heap.size) ∧ ¬ S b ∧ ∃ v, w.heap[b]? = some (.cells #[v, .int .i64 c] 75 (0, 0)) ∧ w.ownsRow 0 5 1 v m.size (Lib.strCells m) ∧ ∀ k, v.ownBlock = some k → ¬ S k ∧ k ≠ b
theorem PK.keep {S T : Nat → Prop} {w w' : World} {b : Nat} {m : ByteArray} {c : Int} (h : PK S w b m c) (hk : Kept T w w') (ht : ∀ k, ¬ S k → T k) : PK S w' b m c := by
  obtain ⟨h1, h2, v, h3, h4, h5⟩ := h
  exact ⟨fun k hs => Nat.lt_of_lt_of_le (h1 k hs) hk.size, h2, v, hk.heap (ht b h2) h3, hk.owns h4 (fun k hv => ht k (h5 k hv).1), h5⟩
theorem PK.lt {S : Nat → Prop} {w : World} {b : Nat} {m : ByteArray} {c : Int} (h : PK S w b m c) : b < w.heap.size := by
  obtain ⟨_, _, v, h3, _⟩ := h
  exact lt_of_block h3
theorem strCells_nil : Lib.strCells ⟨#[]⟩ = [] := rfl

theorem new_any (S : Nat → Prop) (w : World) (hs : ∀ k, S k → k < w.heap.size) :
    Calls Try.prog 31 #[] w fun e w' => e = .returned (.pointer (some ⟨w.heap.size, 0, none⟩)) ∧ PK S w' w.heap.size ⟨#[]⟩ 0 ∧ Below w.heap.size w w' := by
  go_enter Try.func31, Try.ntmps31
  go_wp2
  go_ret
  refine ⟨rfl, ⟨fun k hk => by have := hs k hk; simp; omega, fun hk => absurd (hs _ hk) (Nat.lt_irrefl _), .slice none 0 0, heap_alloc_new _ _, World.ownsRow_nil _ _ _ _, fun k hk => by cases hk⟩, (Below.refl _ _).alloc (Nat.le_refl _) _⟩

theorem stop_any (S : Nat → Prop) (w : World) (b : Nat) (m : ByteArray) (c e : Int) (h : PK S w b m c) :
    Calls Try.prog 47 #[.pointer (some ⟨b, 0, none⟩), .int .i64 e] w fun r w' => r = .returned (.tuple #[]) ∧ PK S w' b ⟨#[]⟩ e ∧ Kept S w w' := by
  obtain ⟨h1, h2, v, h3, h4, h5⟩ := h
  obtain ⟨c0, c1, f0, f1⟩ := two_cells h3
  go_enter Try.func47, Try.ntmps47
  go_wp2
  go_end0
  refine ⟨rfl, ⟨fun k hk => by have := h1 k hk; simpa [World.setCell] using this, h2, .slice none 0 0, two_set1 (two_set0 h3 _) _, World.ownsRow_nil _ _ _ _, fun k hk => by cases hk⟩, ((Kept.refl _ _).setCell h2 _).setCell h2 _⟩
end Go.Proofs.Ytbiihcoobknmjaa
namespace Go.Proofs.Ytbiihcoobknmjaa
open Go.RowKit
set_option maxRecDepth 20000

theorem infoU8 : (Try.prog.info? 5).map (fun i => (i.zero, i.size, i.bytes)) = some (some (.int .u8 0), 1, 1) := by kernel_rfl

def addM (m : ByteArray) (c : Int) (x : ByteArray) : ByteArray := if c ≠ 0 then m else if 65536 < m.size + x.size then ⟨#[]⟩ else m ++ x
def addC (m : ByteArray) (c : Int) (x : ByteArray) : Int := if c ≠ 0 then c else if 65536 < m.size + x.size then 2 else 0

theorem add_stopped (S : Nat → Prop) (w : World) (b : Nat) (m x : ByteArray) (c : Int) (h : PK S w b m c) (hc : c ≠ 0) :
    Calls Try.prog 48 #[.pointer (some ⟨b, 0, none⟩), .string x] w fun r w' => r = .returned (.tuple #[]) ∧ w = w' := by
  obtain ⟨h1, h2, v, h3, h4, h5⟩ := h
  obtain ⟨c0, c1, f0, f1⟩ := two_cells h3
  have hb : (c != 0) = true := by simpa using hc
  go_enter Try.func48, Try.ntmps48
  go_wp2
  exact bodyPost_ret (results_none rfl _ _ _) rfl ⟨rfl, rfl⟩

theorem add_long (S : Nat → Prop) (w : World) (b : Nat) (m x : ByteArray) (h : PK S w b m 0) (hm : m.size ≤ 65536) (hx : x.size ≤ 1099511627776) (hl : 65536 < m.size + x.size) :
    Calls Try.prog 48 #[.pointer (some ⟨b, 0, none⟩), .string x] w fun r w' => r = .returned (.tuple #[]) ∧ PK S w' b ⟨#[]⟩ 2 ∧ Kept S w w' := by
  have h' := h
  obtain ⟨h1, h2, v, h3, h4, h5⟩ := h'
  obtain ⟨c0, c1, f0, f1⟩ := two_cells h3
  have hl' : (65536 : Int) < (m.size : Int) + (x.size : Int) := by omega
  rcases h4.2 with ⟨rfl, hz⟩ | ⟨g, cap, cur, rfl, hg, hh, hn, hcap, _⟩
  · have hz' : 65536 < x.size := by omega
    clear hz
    go_enter Try.func48, Try.ntmps48
    go_wp2_with (go_at_call 47; refine (stop_any S _ b m 0 2 h).mono ?_; rintro e w' ⟨rfl, hp, hk⟩)
    exact bodyPost_ret (results_none rfl _ _ _) rfl ⟨rfl, hp, hk⟩
  · go_enter Try.func48, Try.ntmps48
    go_wp2_with (go_at_call 47; refine (stop_any S _ b m 0 2 h).mono ?_; rintro e w' ⟨rfl, hp, hk⟩)
    exact bodyPost_ret (results_none rfl _ _ _) rfl ⟨rfl, hp, hk⟩

/-- what an append to a packer's row and the store behind it leave -/
theorem add_rest {S : Nat → Prop} {w w1 : World} {b : Nat} {m x : ByteArray} {v v' : Value} (h1 : ∀ k, S k → k < w.heap.size) (h2 : ¬ S b) (h3 : w.heap[b]? = some (.cells #[v, .int .i64 0] 75 (0, 0)))
    (h5 : ∀ k, v.ownBlock = some k → ¬ S k ∧ k ≠ b) (ho : w1.ownsRow 0 5 1 v' (m.size + x.size) (Lib.strCells m ++ Lib.strCells x)) (hg : w.grownBy w1 v.ownBlock)
    (hf : ∀ k, v'.ownBlock = some k → v.ownBlock = some k ∨ w.heap.size ≤ k) :
    w1.heap[b]? = some (.cells #[v, .int .i64 0] 75 (0, 0)) ∧ PK S (w1.setCell ⟨b, 0, none⟩ v') b (m ++ x) 0 ∧ Kept S w (w1.setCell ⟨b, 0, none⟩ v') := by
  have hb : b < w.heap.size := lt_of_block h3
  have h3' : w1.heap[b]? = some (.cells #[v, .int .i64 0] 75 (0, 0)) := by
    rw [hg.block b hb (fun e => (h5 b e.symm).2 rfl)]; exact h3
  have h5' : ∀ k, v'.ownBlock = some k → ¬ S k ∧ k ≠ b := fun k hk => by
    rcases hf k hk with h | h
    · exact h5 k h
    · exact ⟨fun hs => by have := h1 k hs; omega, by omega⟩
  have hk : Kept S w w1 := (Kept.refl _ _).grown hg (fun k hk => (h5 k hk).1)
  refine ⟨h3', ⟨fun k hs => by have := Nat.lt_of_lt_of_le (h1 k hs) hg.size; simpa [World.setCell] using this, h2, v', two_set0 h3' _, ?_, h5'⟩, hk.setCell h2 _⟩
  rw [ByteArray.size_append, strCells_append]
  exact ownsRow_setCell_other ho (fun e => (h5' b e).2 rfl) _

set_option maxHeartbeats 400000 in
theorem add_room (S : Nat → Prop) (w : World) (b : Nat) (m x : ByteArray) (h : PK S w b m 0) (hm : m.size + x.size ≤ 65536) :
    Calls Try.prog 48 #[.pointer (some ⟨b, 0, none⟩), .string x] w fun r w' => r = .returned (.tuple #[]) ∧ PK S w' b (m ++ x) 0 ∧ Kept S w w' := by
  obtain ⟨i0, hi, hz0, hz1, hz2⟩ := info_parts infoU8
  obtain ⟨h1, h2, v, h3, h4, h5⟩ := h
  obtain ⟨c0, c1, f0, f1⟩ := two_cells h3
  have hm' : (m.size : Int) + (x.size : Int) ≤ 65536 := by omega
  have done : ∀ v' w', w'.ownsRow 0 5 1 v' (m.size + x.size) (Lib.strCells m ++ Lib.strCells x) → w.grownBy w' v.ownBlock → (∀ k, v'.ownBlock = some k → v.ownBlock = some k ∨ w.heap.size ≤ k) → _ := fun v' w' ho hg hf => add_rest h1 h2 h3 h5 ho hg hf
  rcases h4.2 with ⟨rfl, hz⟩ | ⟨g, cap, cur, rfl, hg, hh, hn, hcap, _⟩
  · have hz' : x.size ≤ 65536 := by omega
    have _HZ := Lib.hid hz
    clear hm' hz
    go_enter Try.func48, Try.ntmps48
    go_wp2_with (at_builtin; refine wpList_append_text _ rfl (.tmp 24) (.tmp 25) 73 9 rfl 5 i0 Try.underlying73 Try.underlying9 hi hz0 hz1 hz2 _ _ _ rfl h4 x rfl ?c1 ?c2)
    case c1 => omega
    case c2 =>
      intro v' w' ho hg hf
      obtain ⟨k3, hp, hk⟩ := done v' w' ho hg hf
      obtain ⟨d0, d1, g0, g1⟩ := two_cells k3
      rcases ho.2 with ⟨rfl, _⟩ | ⟨g', cap', cur', rfl, _⟩
      · go_wp2
        go_end0
        exact ⟨rfl, hp, hk⟩
      · go_wp2
        go_end0
        exact ⟨rfl, hp, hk⟩
  · go_enter Try.func48, Try.ntmps48
    go_wp2_with (at_builtin; refine wpList_append_text _ rfl (.tmp 24) (.tmp 25) 73 9 rfl 5 i0 Try.underlying73 Try.underlying9 hi hz0 hz1 hz2 _ _ _ rfl h4 x rfl ?d1 ?d2)
    case d1 => omega
    case d2 =>
      intro v' w' ho hg hf
      obtain ⟨k3, hp, hk⟩ := done v' w' ho hg hf
      obtain ⟨d0, d1, g0, g1⟩ := two_cells k3
      rcases ho.2 with ⟨rfl, _⟩ | ⟨g', cap', cur', rfl, _⟩
      · go_wp2
        go_end0
        exact ⟨rfl, hp, hk⟩
      · go_wp2
        go_end0
        exact ⟨rfl, hp, hk⟩

theorem add_any (S : Nat → Prop) (w : World) (b : Nat) (m x : ByteArray) (c : Int) (h : PK S w b m c) (hm : m.size ≤ 65536) (hx : x.size ≤ 1099511627776) :
    Calls Try.prog 48 #[.pointer (some ⟨b, 0, none⟩), .string x] w fun r w' => r = .returned (.tuple #[]) ∧ PK S w' b (addM m c x) (addC m c x) ∧ Kept S w w' := by
  by_cases hc : c = 0
  · subst hc
    by_cases hl : 65536 < m.size + x.size
    · have e1 : addM m 0 x = ⟨#[]⟩ := by simp [addM, hl]
      have e2 : addC m 0 x = 2 := by simp [addC, hl]
      rw [e1, e2]
      exact add_long S w b m x h hm hx hl
    · have e1 : addM m 0 x = m ++ x := by simp [addM, hl]
      have e2 : addC m 0 x = 0 := by simp [addC, hl]
      rw [e1, e2]
      exact add_room S w b m x h (by omega)
  · have e1 : addM m c x = m := by simp [addM, hc]
    have e2 : addC m c x = c := by simp [addC, hc]
    rw [e1, e2]
    refine (add_stopped S w b m x c h hc).mono ?_
    rintro r w' ⟨rfl, rfl⟩
    exact ⟨rfl, h, Kept.refl _ _⟩
end Go.Proofs.Ytbiihcoobknmjaa
