/- Plain facts on a page that was written: it stays till it is trimmed; and one object of pages in memory while other blocks stay. Conditions: the program's functions return what PageSays says. -/
import Derived.Test.YtlphffgdnacnkaaPagU
namespace Go.Proofs.Ytlphffgdnacnkaa
open Go.RowKit
set_option linter.unusedVariables false
set_option maxRecDepth 20000
/-- page k was written with the text s; g: it is trimmed -/
structure Stay (p : Ps) (k : Int) (s : ByteArray) (g : Bool) : Prop where
  inn : 0 ≤ k ∧ k < 4096
  gone : g = true → k < p.edge
  here : g = false → p.edge ≤ k ∧ findP p.l k = some ⟨k, 1, s⟩
theorem stay_start {k : Int} {s : ByteArray} (hk : 0 ≤ k ∧ k < 40) (hs : s.size ≤ 4096) : (newP 100).writeE k s = 0 ∧ Stay ((newP 100).write k s) k s false := by
  have e : (newP 100).writeE k s = 0 := by
    have ht : thereB k = true := thereB_iff.2 (by omega)
    have hk0 : (newP 100).kind k = 0 := by
      unfold Ps.kind
      rw [if_pos ht, if_neg (show ¬ k < (newP 100).edge from by show ¬ k < 0; omega)]
      rfl
    unfold Ps.writeE
    rw [ht, hk0, if_neg (by decide), if_neg (by omega), if_neg (by decide), if_neg (by decide), if_neg (by decide)]
  refine ⟨e, ⟨by omega, fun h => (by cases h), fun _ => ?_⟩⟩
  unfold Ps.write
  rw [if_pos e]
  refine ⟨by show (0 : Int) ≤ k; omega, ?_⟩
  show List.find? (fun x : Pg => decide (x.at_ = k)) ([] ++ [(⟨k, 1, s⟩ : Pg)]) = _
  simp
theorem findP_add {l : List Pg} {k : Int} {x y : Pg} (h : findP l k = some x) : findP (l ++ [y]) k = some x := by
  unfold findP at h ⊢
  rw [List.find?_append, h]
  rfl
theorem findP_kept {l : List Pg} {k c : Int} {x : Pg} (h : findP l k = some x) (hc : c ≤ k) : findP (l.filter (fun x => decide (c ≤ x.at_))) k = some x := by
  induction l with
  | nil => cases h
  | cons y l ih =>
    unfold findP at h ih ⊢
    by_cases e : y.at_ = k
    · rw [List.find?_cons_of_pos (by simpa using e)] at h
      rw [List.filter_cons_of_pos (by simp; omega), List.find?_cons_of_pos (by simpa using e)]
      exact h
    · rw [List.find?_cons_of_neg (by simpa using e)] at h
      by_cases q : c ≤ y.at_
      · rw [List.filter_cons_of_pos (by simpa using q), List.find?_cons_of_neg (by simpa using e)]
        exact ih h
      · rw [List.filter_cons_of_neg (by simpa using q)]
        exact ih h
section
variable {p : Ps} {k : Int} {s : ByteArray} {g : Bool}
theorem Stay.add (h : Stay p k s g) (x : Pg) : Stay (p.add x) k s g := ⟨h.inn, h.gone, fun e => ⟨(h.here e).1, findP_add (h.here e).2⟩⟩
theorem Stay.write (h : Stay p k s g) (a : Int) (t : ByteArray) : Stay (p.write a t) k s g := by
  unfold Ps.write
  split
  · exact h.add _
  · exact h
theorem Stay.fill (h : Stay p k s g) (a : Int) : Stay (p.fill a) k s g := by
  unfold Ps.fill
  split
  · exact h.add _
  · exact h
theorem Stay.trim (h : Stay p k s g) (a : Int) (e : Ps.trimE a = 0) : Stay (p.trim a) k s (g || decide (k < a)) := by
  unfold Ps.trim
  rw [if_pos e]
  refine ⟨h.inn, fun q => ?_, fun q => ?_⟩
  · show k < max p.edge a
    rcases Bool.or_eq_true _ _ ▸ q with q | q
    · have := h.gone q
      omega
    · have := of_decide_eq_true q
      omega
  · rw [Bool.or_eq_false_iff] at q
    have q2 := of_decide_eq_false q.2
    obtain ⟨h1, h2⟩ := h.here q.1
    have hm : max p.edge a ≤ k := by omega
    exact ⟨hm, findP_kept h2 hm⟩
theorem Stay.trim_no (h : Stay p k s g) (a : Int) (e : Ps.trimE a ≠ 0) : Stay (p.trim a) k s g := by
  unfold Ps.trim
  rw [if_neg e]
  exact h
theorem Stay.read (h : Stay p k s g) : (g = true → p.readE k = 43) ∧ (g = false → p.readE k = 0 ∧ p.readS k = s) := by
  have ht : thereB k = true := thereB_iff.2 h.inn
  refine ⟨fun e => ?_, fun e => ?_⟩
  · have h1 := h.gone e
    have hk : p.kind k = 3 := by unfold Ps.kind; rw [if_pos ht, if_pos h1]
    unfold Ps.readE
    rw [ht, hk, if_neg (by decide), if_pos rfl]
  · obtain ⟨h1, h2⟩ := h.here e
    have hk : p.kind k = 1 := by unfold Ps.kind; rw [if_pos ht, if_neg (by omega), h2]
    have hE : p.readE k = 0 := by
      unfold Ps.readE
      rw [ht, hk, if_neg (by decide), if_neg (by decide), if_neg (by decide), if_neg (by decide)]
    refine ⟨hE, ?_⟩
    unfold Ps.readS Ps.text
    rw [if_pos hE, h2]
end
/-- block b is the program's object of the pages p; none of X is of it -/
def Solo (PG : (Nat → Prop) → World → Nat → Ps → Prop) (X : Nat → Prop) (w : World) (b : Nat) (p : Ps) : Prop :=
  p.Ok ∧ (∀ k, X k → k < w.heap.size) ∧ ∃ F : Nat → Prop, PG F w b p ∧ ∀ k, X k → ¬ F k
section
variable {PG : (Nat → Prop) → World → Nat → Ps → Prop} {X Y : Nat → Prop} {w w' : World} {b : Nat} {p : Ps}
theorem Solo.below (HS : PageSays PG) (h : Solo PG X w b p) (hb : Below w.heap.size w w') : Solo PG X w' b p := by
  obtain ⟨h1, h2, F, h4, h6⟩ := h
  exact ⟨h1, fun k hk => Nat.lt_of_lt_of_le (h2 k hk) hb.size, F, HS.keep h4 (Kept.ofBelow hb (fun _ => True)) (fun _ _ => trivial), h6⟩
theorem Solo.less (h : Solo PG X w b p) (hy : ∀ k, Y k → X k) : Solo PG Y w b p := by
  obtain ⟨h1, h2, F, h4, h6⟩ := h
  exact ⟨h1, fun k hk => h2 k (hy k hk), F, h4, fun k hk => h6 k (hy k hk)⟩
theorem Solo.beside (HS : PageSays PG) (h : Solo PG X w b p) (x : Obj) : Solo PG (fun k => X k ∨ k = w.heap.size) (w.alloc x) b p := by
  obtain ⟨h1, h2, F, h4, h6⟩ := h
  have hb : Below w.heap.size w (w.alloc x) := (Below.refl _ _).alloc (Nat.le_refl _) x
  refine ⟨h1, fun k hk => ?_, F, HS.keep h4 (Kept.ofBelow hb (fun _ => True)) (fun _ _ => trivial), fun k hk => ?_⟩
  · rcases hk with hk | hk
    · exact Nat.lt_of_lt_of_le (h2 k hk) hb.size
    · rw [hk]; simp
  · rcases hk with hk | hk
    · exact h6 k hk
    · rw [hk]
      exact fun hf => Nat.lt_irrefl _ (HS.lt h4 _ hf)
theorem solo_left {p' : Ps} {F : Nat → Prop} (hok : p'.Ok) (h2 : ∀ k, X k → k < w.heap.size) (h6 : ∀ k, X k → ¬ F k) (hl : Left PG F w w' b p') : Solo PG X w' b p' ∧ Kept X w w' := by
  obtain ⟨F', r1, r2, r3⟩ := hl
  refine ⟨⟨hok, fun k hk => Nat.lt_of_lt_of_le (h2 k hk) r2.size, F', r1, fun k hk hf => ?_⟩, r2.mono h6⟩
  rcases r3 k hf with h | h
  · exact h6 k hk h
  · have := h2 k hk
    omega
theorem solo_write (HS : PageSays PG) (h : Solo PG X w b p) {a : Int} {s : ByteArray} (ha : wide a) (hs : s.size ≤ 1000000) : Calls Try.prog 11 #[ptrP b, .int .i64 a, .string s] w fun e w' => e = .returned (.int .i64 (p.writeE a s)) ∧ Solo PG X w' b (p.write a s) ∧ Kept X w w' := by
  obtain ⟨h1, h2, F, h4, h6⟩ := h
  exact (HS.write F w b p a s h4 h1 ha hs).mono fun e w' ⟨he, hl⟩ => ⟨he, solo_left (h1.write a s) h2 h6 hl⟩
theorem solo_fill (HS : PageSays PG) (h : Solo PG X w b p) {a : Int} (ha : wide a) : Calls Try.prog 13 #[ptrP b, .int .i64 a] w fun e w' => e = .returned (.int .i64 (p.fillE a)) ∧ Solo PG X w' b (p.fill a) ∧ Kept X w w' := by
  obtain ⟨h1, h2, F, h4, h6⟩ := h
  exact (HS.fill F w b p a h4 h1 ha).mono fun e w' ⟨he, hl⟩ => ⟨he, solo_left (h1.fill a) h2 h6 hl⟩
theorem solo_trim (HS : PageSays PG) (h : Solo PG X w b p) {a : Int} (ha : wide a) : Calls Try.prog 15 #[ptrP b, .int .i64 a] w fun e w' => e = .returned (.int .i64 (Ps.trimE a)) ∧ Solo PG X w' b (p.trim a) ∧ Kept X w w' := by
  obtain ⟨h1, h2, F, h4, h6⟩ := h
  exact (HS.trim F w b p a h4 h1 ha).mono fun e w' ⟨he, hl⟩ => ⟨he, solo_left (h1.trim a) h2 h6 hl⟩
theorem solo_read (HS : PageSays PG) (h : Solo PG X w b p) {a : Int} (ha : wide a) : Calls Try.prog 17 #[ptrP b, .int .i64 a] w fun e w' => e = .returned (.tuple #[.string (p.readS a), .int .i64 (p.readE a)]) ∧ Solo PG X w' b p ∧ Kept X w w' := by
  have h' := h
  obtain ⟨h1, h2, F, h4, h6⟩ := h
  exact (HS.read F w b p a h4 h1 ha).mono fun e w' ⟨he, hl⟩ => ⟨he, h'.below HS hl, Kept.ofBelow hl X⟩
theorem solo_used (HS : PageSays PG) (h : Solo PG X w b p) : Calls Try.prog 23 #[ptrP b] w fun e w' => e = .returned (.int .i64 p.l.length) ∧ Solo PG X w' b p ∧ Kept X w w' := by
  have h' := h
  obtain ⟨h1, h2, F, h4, h6⟩ := h
  exact (HS.used F w b p h4 h1).mono fun e w' ⟨he, hl⟩ => ⟨he, h'.below HS hl, Kept.ofBelow hl X⟩
theorem solo_tail (HS : PageSays PG) (h : Solo PG X w b p) : Calls Try.prog 21 #[ptrP b] w fun e w' => e = .returned (.int .i64 p.tail) ∧ Solo PG X w' b p ∧ Kept X w w' := by
  have h' := h
  obtain ⟨h1, h2, F, h4, h6⟩ := h
  exact (HS.tail F w b p h4 h1).mono fun e w' ⟨he, hl⟩ => ⟨he, h'.below HS hl, Kept.ofBelow hl X⟩
theorem solo_new (HS : PageSays PG) (w : World) {room : Int} (hr : 1 ≤ room ∧ room ≤ 4096) : Calls Try.prog 7 #[.int .i64 room] w fun e w' => ∃ b, e = .returned (.tuple #[ptrP b, .int .i64 0]) ∧ Solo PG (fun k => k < w.heap.size) w' b (newP room) ∧ Below w.heap.size w w' := by
  refine (HS.new_yes room w hr).mono ?_
  rintro e w' ⟨b, G, he, h1, h2, h3⟩
  refine ⟨b, he, ⟨newP_ok hr, fun k hk => Nat.lt_of_lt_of_le hk h3.size, G, h1, fun k hk hg => ?_⟩, h3⟩
  have := h2 k hg
  have hk' : k < w.heap.size := hk
  omega
end
end Go.Proofs.Ytlphffgdnacnkaa
