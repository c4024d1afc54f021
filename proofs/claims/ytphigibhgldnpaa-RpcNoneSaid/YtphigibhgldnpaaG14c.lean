/- What the program's own Tail returns; all that the laws of pages ask of the program. Conditions: the object lies where the call was told; its pages are as the calls make them. Many things in memory, each of them in blocks of its own: what a call of the one leaves of the others. Conditions: as each statement says. -/
import Derived.Test.YtphigibhgldnpaaG13b
import Derived.Test.YtphigibhgldnpaaG13c
import Derived.Maps.RangeWalk
set_option linter.unusedVariables false
namespace Go.Proofs.Ytphigibhgldnpaa
open Go.RowKit Go.Maps
set_option linter.unusedVariables false
set_option maxRecDepth 20000
theorem below_grew {w w' : World} (h : Below w.heap.size w w') : w.grownBy w' none := ⟨h.os, h.tape, h.output, h.size, fun k hk _ => h.block k hk⟩
/-- t is the greatest of what lies just behind the pages that were met, and the edge -/
def Grp (l : List Pg) (ed : Int) (left : Lit → Bool) (t : Int) : Prop := (t = ed ∨ ∃ x ∈ l, t = x.at_ + 1) ∧ ed ≤ t ∧ ∀ x ∈ l, left (klA x.at_) = false → x.at_ + 1 ≤ t
theorem Grp.start {D : DataW Unit} {l : List Pg} (h : Mp D l) (ed : Int) : Grp l ed (Maps.has D) ed := by
  refine ⟨.inl rfl, Int.le_refl _, fun x hx hl => ?_⟩
  rw [h.hs _ (h.wf x hx), decide_eq_true (List.mem_map.2 ⟨x, hx, rfl⟩)] at hl
  cases hl
theorem Mp.met {D : DataW Unit} {l : List Pg} (h : Mp D l) {u : Int} (hu : (Lit.int .i64 u).wf = true) {y : DataW Unit} (hat : ∀ z, D.atKey (klA u) z = y) : ∃ x ∈ l, x.at_ = u := by
  have h1 := has_true_of_atKey hat
  rw [h.hs u hu] at h1
  obtain ⟨x, hx, e⟩ := List.mem_map.1 (of_decide_eq_true h1)
  exact ⟨x, hx, e⟩
theorem Grp.step {D : DataW Unit} {l : List Pg} {ed t u : Int} {left : Lit → Bool} (h : Grp l ed left t) (hM : Mp D l) (hu : ∃ x ∈ l, x.at_ = u) : Grp l ed (fun z => left z && !z.sameKey (klA u)) (max t (u + 1)) := by
  obtain ⟨x, hx, rfl⟩ := hu
  refine ⟨?_, by have := h.2.1; omega, fun y hy hl => ?_⟩
  · rcases Int.le_total t (x.at_ + 1) with h4 | h4
    · exact .inr ⟨x, hx, by omega⟩
    · rw [show max t (x.at_ + 1) = t by omega]; exact h.1
  · by_cases e : y.at_ = x.at_
    · rw [e]; omega
    · have h1 : (left (klA y.at_) && !(klA y.at_).sameKey (klA x.at_)) = false := hl
      rw [sameKey_ne (fun e2 => e (klA_inj (hM.wf y hy) (hM.wf x hx) e2))] at h1
      have := h.2.2 y hy (by simpa using h1)
      omega
theorem Grp.done {l : List Pg} {ed t : Int} {left : Lit → Bool} (h : Grp l ed left t) (h0 : ∀ z, left z = false) : t = tailP l ed := tailP_of h.1 h.2.1 (fun x hx => h.2.2 x hx (h0 _))
set_option maxHeartbeats 8000000 in
theorem ptail_any (G : Nat → Prop) (w : World) (b : Nat) (p : Ps) (h : PGm G w b p) (hok : p.Ok) :
    Calls Try.prog 96 #[.pointer (some ⟨b, 0, none⟩)] w fun e w' => e = .returned (.int .i64 p.tail) ∧ Below w.heap.size w w' := by
  obtain ⟨mb, h1, ⟨D, hD, hM⟩, _⟩ := h
  obtain ⟨c0, c1, c2, _⟩ := three_cells h1
  have HD := Lib.hid hD
  have HM := Lib.hid hM
  have HBL := Lib.hid hD.lt
  have HOK := Lib.hid hok.each
  have HED := Lib.hid hok.edge
  have HT := Lib.hid (show tailP p.l p.edge = p.tail from rfl)
  generalize p.tail = tl at *
  generalize p.edge = ed at *
  clear h1 hD hM hok
  go_enter Try.func96, Try.ntmps96
  go_wp2_with (at_range; refine wpList_range_own _ rfl _ 65 rfl 154 152 pspot_law Try.underlying65 sheetR mb _ _ rfl HD.out ?_; intro w3 hrg0 hg0 hs0)
  go_frame
  have hbr := HBL.out
  have HX3 := Lib.hid (show Below w.heap.size w w3 from (Below.refl _ _).grown hg0 (Nat.le_refl _) (fun j hj => by cases hj))
  have hed := HED.out
  clear hg0 c0 c1 c2
  go_loopw [3] (fun v wr => ∃ (left : Lit → Bool) (cnt : Nat) (t : Int), v = .int .i64 t ∧ Hid (wr.ranges Try.prog 154 sheetR mb w.heap.size p.l.length D left cnt) ∧ Hid (Grp p.l ed left t) ∧ 0 ≤ t ∧ t ≤ 4096 ∧ Hid (Below w.heap.size w wr)) (fun _ wr => wr.rangeLeft mb w.heap.size)
  case atStart => exact ⟨_, _, ed, rfl, Lib.hid hrg0, Lib.hid (Grp.start HM.out ed), by omega, by omega, HX3⟩
  case round =>
    obtain ⟨left, cnt, t, rfl, HR, HG, t0, t1, HX⟩ := hrel
    clear hrg0
    go_wp2_with (at_next; refine wpList_next_ranges (α := Int) (β := Int × ByteArray) _ rfl _ rfl 154 pspot_law sheetR (fun x => .agg #[.int .i64 x]) (fun c => .agg #[.int .i64 c.1, .string c.2]) (fun key kl hkey => by obtain ⟨u, e, _⟩ := pspot_inv hkey; exact ⟨u, e⟩) (fun v y hv => by obtain ⟨k, s, e, _⟩ := sheetR_inv hv; exact ⟨(k, s), e⟩) mb w.heap.size _ _ _ _ rfl HR.out ?_ ?_)
    · intro hc0 hl0
      have HF := Lib.hid (HG.out.done hl0)
      go_wp2_with fail
      go_ret
      rw [← HT.out, ← HF.out]
      exact ⟨rfl, HX.out⟩
    · intro x y1 y2 kl z1 z2 w4 cnt4 hkey hlk hv hat hrg4 hlt hg4 hs4 hen
      obtain ⟨u, e, hwf⟩ := pspot_inv hkey
      obtain rfl : x = u := agg1_inj e
      obtain rfl : kl = klA x := Option.some.inj (hkey.symm.trans (pspot_key x hwf))
      have hin := HM.out.met hwf hat
      have hxb : 0 ≤ x ∧ x < 4096 := by
        obtain ⟨q, hq, rfl⟩ := hin
        have := (HOK.out q hq).1
        omega
      have hg5 := HG.out.step HM.out hin
      have HG5 := Lib.hid hg5
      have HB4 := HX.out.grown hg4 HX.out.size (fun j hj => by cases hj; exact Nat.le_refl _)
      have HX4 := Lib.hid (HB4.alloc HB4.size (.cells #[.int .i64 x] 154))
      have HR4 := Lib.hid (hrg4.alloc (.cells #[.int .i64 x] 154))
      obtain ⟨x0, x1⟩ := hxb
      clear e hkey hlk hv hat hrg4 hg4 hwf hin hg5 HB4
      obtain ⟨t2, ht2⟩ : ∃ t2, (if t < x + 1 then x + 1 else t) = t2 := ⟨_, rfl⟩
      have h5 : max t (x + 1) = t2 := by rw [← ht2]; split <;> omega
      rw [h5] at HG5
      have t20 : 0 ≤ t2 := by omega
      have t21 : t2 ≤ 4096 := by omega
      clear h5
      go_wp2_with fail
      go_roundw
      case rel => exact ⟨_, cnt4, t2, rfl, HR4, HG5, t20, t21, HX4⟩
      case measure => rw [HR4.out.left_eq, HR.out.left_eq]; exact hlt
theorem ptail_nil (w : World) : Calls Try.prog 96 #[.pointer none] w fun e w' => e = .returned (.int .i64 0) ∧ w = w' := by
  go_enter Try.func96, Try.ntmps96
  go_wp2_with fail
  go_ret
  exact ⟨rfl, rfl⟩
theorem calls_same {f : FuncId} {a : Array Value} {w : World} {v : Value} (h : Calls Try.prog f a w fun e w' => e = .returned v ∧ w = w') : Calls Try.prog f a w fun e w' => e = .returned v ∧ Below w.heap.size w w' := h.mono fun e w' ⟨h1, h2⟩ => ⟨h1, h2 ▸ Below.refl _ _⟩
theorem pageSays : PageSays PGm where
  lt := fun h => h.lt
  keep := fun h hk hG => h.keep hk hG
  new_yes := fun room w hr => pnew_yes room w hr
  new_no := fun room w hr _ => pnew_no room w hr
  write := fun G w b p a s h hok _ hs => pwrite_any G w b p a s h hok hs
  fill := fun G w b p a h hok _ => pfill_any G w b p a h hok
  trim := fun G w b p a h hok ha => ptrim_any G w b p a h hok ha
  read := fun G w b p a h hok _ => pread_any G w b p a h hok
  kind := fun G w b p a h _ _ => calls_same (kind_any G w b p a h)
  tail := fun G w b p h hok => ptail_any G w b p h hok
  used := fun G w b p h _ => calls_same (used_any G w b p h)
  nil_write := fun a s w hs => calls_same (pwrite_nil a s w hs)
  nil_fill := fun a w => calls_same (pfill_nil a w)
  nil_trim := fun a w => calls_same (ptrim_nil a w)
  nil_read := fun a w => calls_same (pread_nil a w)
  nil_kind := fun a w => calls_same (kind_nil a w)
  nil_tail := fun w => calls_same (ptail_nil w)
  nil_used := fun w => calls_same (used_nil w)
end Go.Proofs.Ytphigibhgldnpaa
namespace Go.Proofs.Ytphigibhgldnpaa
set_option linter.unusedVariables false
open Go.RowKit
set_option maxRecDepth 20000
/-- T F w: in world w a thing (of some state) lies in the blocks of F -/
structure Part (T : (Nat → Prop) → World → Prop) : Prop where
  lt : ∀ {F : Nat → Prop} {w : World}, T F w → ∀ k, F k → k < w.heap.size
  keep : ∀ {F S : Nat → Prop} {w w' : World}, T F w → Kept S w w' → (∀ k, F k → S k) → T F w'
theorem Thing.part {α : Type} {T : (Nat → Prop) → World → α → Prop} (h : Thing T) (a : α) : Part (fun F w => T F w a) := ⟨fun h1 => h.lt h1, fun h1 h2 h3 => h.keep h1 h2 h3⟩
/-- the things T 0 .. T (n - 1), in no block of X, and in none of each other's -/
def Bund (n : Nat) (T : Nat → (Nat → Prop) → World → Prop) (X : Nat → Prop) (w : World) : Prop :=
  (∀ k, X k → k < w.heap.size) ∧ ∃ F : Nat → Nat → Prop, (∀ i, i < n → T i (F i) w) ∧ (∀ i, i < n → ∀ k, X k → ¬ F i k) ∧ ∀ i j, i < n → j < n → i ≠ j → ∀ k, F i k → ¬ F j k
/-- the i-th one is another then -/
def swapP (T : Nat → (Nat → Prop) → World → Prop) (i : Nat) (U : (Nat → Prop) → World → Prop) : Nat → (Nat → Prop) → World → Prop := fun j => if j = i then U else T j
section
variable {n i : Nat} {T : Nat → (Nat → Prop) → World → Prop} {U : (Nat → Prop) → World → Prop} {X Y : Nat → Prop} {w w' : World}
theorem Bund.less (h : Bund n T X w) (hy : ∀ k, Y k → X k) : Bund n T Y w := by
  obtain ⟨h1, F, h2, h3, h4⟩ := h
  exact ⟨fun k hk => h1 k (hy k hk), F, h2, fun i hi k hk => h3 i hi k (hy k hk), h4⟩
theorem Bund.kept (hT : ∀ i, i < n → Part (T i)) (h : Bund n T X w) {S : Nat → Prop} (hk : Kept S w w') (hS : ∀ k, ¬ S k → X k) : Bund n T X w' := by
  obtain ⟨h1, F, h2, h3, h4⟩ := h
  refine ⟨fun k hx => Nat.lt_of_lt_of_le (h1 k hx) hk.size, F, fun i hi => (hT i hi).keep (h2 i hi) hk (fun k hf => ?_), h3, h4⟩
  exact Classical.byContradiction fun hn => h3 i hi k (hS k hn) hf
theorem Bund.below (hT : ∀ i, i < n → Part (T i)) (h : Bund n T X w) (hb : Below w.heap.size w w') : Bund n T X w' :=
  h.kept hT (Kept.ofBelow hb (fun _ => True)) (fun k hn => absurd trivial hn)
theorem Bund.wider (hT : ∀ i, i < n → Part (T i)) (h : Bund n T X w) (hb : Below w.heap.size w w') : Bund n T (fun k => X k ∨ (w.heap.size ≤ k ∧ k < w'.heap.size)) w' := by
  have hb2 := h.below hT hb
  obtain ⟨h1, F, h2, h3, h4⟩ := h
  refine ⟨fun k hk => ?_, F, fun i hi => (hT i hi).keep (h2 i hi) (Kept.ofBelow hb (fun _ => True)) (fun _ _ => trivial), fun i hi k hk hf => ?_, h4⟩
  · rcases hk with hk | hk
    · exact Nat.lt_of_lt_of_le (h1 k hk) hb.size
    · exact hk.2
  · rcases hk with hk | hk
    · exact h3 i hi k hk hf
    · have := (hT i hi).lt (h2 i hi) k hf; omega
/-- one of them is looked at -/
theorem Bund.look (h : Bund n T X w) (hi : i < n) : ∃ F, T i F w ∧ ∀ k, X k → ¬ F k := by
  obtain ⟨h1, F, h2, h3, h4⟩ := h
  exact ⟨F i, h2 i hi, h3 i hi⟩
/-- one of them has turned, in its own blocks and new ones; C: new memory that was handed out besides -/
theorem Bund.turn (hT : ∀ i, i < n → Part (T i)) (h : Bund n T X w) (hi : i < n) {C : Nat → Prop} (hC : ∀ k, C k → w.heap.size ≤ k ∧ k < w'.heap.size)
    (hc : ∀ F : Nat → Prop, T i F w → (∀ k, X k → ¬ F k) → ∃ F' : Nat → Prop, U F' w' ∧ (∀ k, C k → ¬ F' k) ∧ Kept (fun k => ¬ F k) w w' ∧ ∀ k, F' k → F k ∨ w.heap.size ≤ k) :
    Bund n (swapP T i U) (fun k => X k ∨ C k) w' ∧ Kept X w w' := by
  obtain ⟨h1, F, h2, h3, h4⟩ := h
  obtain ⟨F', r1, r2, r3, r4⟩ := hc (F i) (h2 i hi) (h3 i hi)
  refine ⟨⟨fun k hk => ?_, fun j => if j = i then F' else F j, fun j hj => ?_, fun j hj k hk hf => ?_, fun j l hj hl hne k hf hg => ?_⟩, r3.mono (h3 i hi)⟩
  · rcases hk with hk | hk
    · exact Nat.lt_of_lt_of_le (h1 k hk) r3.size
    · exact (hC k hk).2
  · unfold swapP
    by_cases e : j = i
    · simp only [e, if_true]
      exact r1
    · simp only [e, if_false]
      exact (hT j hj).keep (h2 j hj) r3 (fun k hf hg => h4 j i hj hi e k hf hg)
  · by_cases e : j = i
    · simp only [e, if_true] at hf
      rcases hk with hk | hk
      · rcases r4 k hf with h | h
        · exact h3 i hi k hk h
        · have := h1 k hk; omega
      · exact r2 k hk hf
    · simp only [e, if_false] at hf
      rcases hk with hk | hk
      · exact h3 j hj k hk hf
      · have := (hT j hj).lt (h2 j hj) k hf
        have := (hC k hk).1
        omega
  · by_cases e : j = i
    · have e2 : l ≠ i := fun h => hne (e.trans h.symm)
      simp only [e, if_true] at hf
      simp only [e2, if_false] at hg
      rcases r4 k hf with h | h
      · exact h4 i l hi hl (fun h => e2 h.symm) k h hg
      · have := (hT l hl).lt (h2 l hl) k hg; omega
    · simp only [e, if_false] at hf
      by_cases e2 : l = i
      · simp only [e2, if_true] at hg
        rcases r4 k hg with h | h
        · exact h4 j i hj hi e k hf h
        · have := (hT j hj).lt (h2 j hj) k hf; omega
      · simp only [e2, if_false] at hg
        exact h4 j l hj hl hne k hf hg
/-- one more is made, in new memory -/
theorem Bund.more (hT : ∀ i, i < n → Part (T i)) (h : Bund n T X w) (hb : Below w.heap.size w w') {G : Nat → Prop} (hu : U G w') (hG : ∀ k, G k → w.heap.size ≤ k) : Bund (n + 1) (swapP T n U) X w' := by
  obtain ⟨h1, F, h2, h3, h4⟩ := h
  have hold : ∀ j, j < n → T j (F j) w' := fun j hj => (hT j hj).keep (h2 j hj) (Kept.ofBelow hb (fun _ => True)) (fun _ _ => trivial)
  refine ⟨fun k hk => Nat.lt_of_lt_of_le (h1 k hk) hb.size, fun j => if j = n then G else F j, fun j hj => ?_, fun j hj k hk hf => ?_, fun j l hj hl hne k hf hg => ?_⟩
  · unfold swapP
    by_cases e : j = n
    · simp only [e, if_true]
      exact hu
    · simp only [e, if_false]
      exact hold j (by omega)
  · by_cases e : j = n
    · simp only [e, if_true] at hf
      have := h1 k hk
      have := hG k hf
      omega
    · simp only [e, if_false] at hf
      exact h3 j (by omega) k hk hf
  · by_cases e : j = n
    · have e2 : l ≠ n := fun h => hne (e.trans h.symm)
      simp only [e, if_true] at hf
      simp only [e2, if_false] at hg
      have := (hT l (by omega)).lt (h2 l (by omega)) k hg
      have := hG k hf
      omega
    · simp only [e, if_false] at hf
      by_cases e2 : l = n
      · simp only [e2, if_true] at hg
        have := (hT j (by omega)).lt (h2 j (by omega)) k hf
        have := hG k hg
        omega
      · simp only [e2, if_false] at hg
        exact h4 j l (by omega) (by omega) hne k hf hg
theorem Bund.none (hX : ∀ k, X k → k < w.heap.size) : Bund 0 T X w := ⟨hX, fun _ _ => False, fun i hi => absurd hi (Nat.not_lt_zero i), fun i hi => absurd hi (Nat.not_lt_zero i), fun i j hi => absurd hi (Nat.not_lt_zero i)⟩
/-- all of them together are a thing again -/
theorem Bund.same {T2 : Nat → (Nat → Prop) → World → Prop} (h : Bund n T X w) (e : ∀ i, i < n → ∀ F W, T i F W → T2 i F W) : Bund n T2 X w := by
  obtain ⟨h1, F, h2, h3, h4⟩ := h
  exact ⟨h1, F, fun i hi => e i hi _ _ (h2 i hi), h3, h4⟩
end
end Go.Proofs.Ytphigibhgldnpaa
