/- What the small functions of the program's layout return, and what the library's Contains does on numbers. Conditions: as each statement says. What the program's unit answers a question to its pages. Conditions: it and the question lie where the call was told; the question's data are not too long. (Written by gen/genunpb.py.) The world in which a call has boxed its question and laid out its result (of any make), beside a thing that lies in blocks of its own. No conditions. -/
import Derived.Test.YtchhmfdalghgcaaGreatG16a
import Derived.Test.YtchhmfdalghgcaaGreatG14a
import Derived.Deep.RegionHeld3
set_option linter.unusedVariables false
namespace Go.Proofs.YtchhmfdalghgcaaGreat
set_option linter.unusedVariables false
open Go.RowKit Go.Maps
set_option maxRecDepth 20000
theorem lwithin_any (v a b : Int) (w : World) :
    Calls Tryz.prog 148 #[.int .i64 v, .int .i64 a, .int .i64 b] w fun e w' => e = .returned (.bool (inB v a b)) ∧ w = w' := by
  by_cases h1 : a ≤ v
  · by_cases h2 : v ≤ b
    · rw [show inB v a b = true from decide_eq_true ⟨h1, h2⟩]
      go_enter Tryz.func148, Tryz.ntmps148
      go_wp2_with fail
      go_ret
      exact ⟨rfl, rfl⟩
    · rw [show inB v a b = false from decide_eq_false (fun h => h2 h.2)]
      have h3 : decide (v ≤ b) = false := decide_eq_false h2
      clear h2
      go_enter Tryz.func148, Tryz.ntmps148
      go_wp2_with fail
      go_ret
      exact ⟨rfl, rfl⟩
  · rw [show inB v a b = false from decide_eq_false (fun h => h1 h.1)]
    have h3 : decide (a ≤ v) = false := decide_eq_false h1
    clear h1
    go_enter Tryz.func148, Tryz.ntmps148
    go_wp2_with fail
    go_ret
    exact ⟨rfl, rfl⟩
/-- is an image within its bounds? -/
def goodI (p s n : Int) : Bool := inB p 0 16383 && inB s 1 65536 && inB n 0 16384
theorem goodI_no {a : Ak} (h : badM a) : goodI a.page a.size a.n = false := by
  unfold badM at h
  unfold goodI inB
  by_cases h1 : 0 ≤ a.page ∧ a.page ≤ 16383
  · by_cases h2 : 1 ≤ a.size ∧ a.size ≤ 65536
    · have h3 : ¬ (0 ≤ a.n ∧ a.n ≤ 16384) := by omega
      rw [decide_eq_false h3, Bool.and_false]
    · rw [decide_eq_false h2, Bool.and_false, Bool.false_and]
  · rw [decide_eq_false h1, Bool.false_and, Bool.false_and]
theorem goodI_yes {a : Ak} (h : ¬ badM a) : goodI a.page a.size a.n = true := by
  unfold badM at h
  unfold goodI inB
  rw [decide_eq_true (by omega : 0 ≤ a.page ∧ a.page ≤ 16383), decide_eq_true (by omega : 1 ≤ a.size ∧ a.size ≤ 65536), decide_eq_true (by omega : 0 ≤ a.n ∧ a.n ≤ 16384)]
  rfl
theorem lgood_any (p s n : Int) (w : World) :
    Calls Tryz.prog 146 #[.agg #[.int .i64 p, .int .i64 s, .int .i64 n]] w fun e w' => e = .returned (.bool (goodI p s n)) ∧ Below w.heap.size w w' := by
  have C0 := Lib.hid (fun w => lwithin_any p 0 16383 w)
  have C1 := Lib.hid (fun w => lwithin_any s 1 65536 w)
  have C2 := Lib.hid (fun w => lwithin_any n 0 16384 w)
  have HB := Lib.hid (below_new w (.cells #[.int .i64 p, .int .i64 s, .int .i64 n] 116))
  unfold goodI
  generalize inB p 0 16383 = g0 at *
  generalize inB s 1 65536 = g1 at *
  generalize inB n 0 16384 = g2 at *
  cases g0 <;> cases g1 <;> cases g2
  all_goals
    go_enter Tryz.func146, Tryz.ntmps146
    go_wp2_with (go_at_call 148; first | (with_reducible refine (C0.out _).mono ?_; rintro e w1 ⟨rfl, rfl⟩) | (with_reducible refine (C1.out _).mono ?_; rintro e w1 ⟨rfl, rfl⟩) | (with_reducible refine (C2.out _).mono ?_; rintro e w1 ⟨rfl, rfl⟩))
    go_ret
    exact ⟨rfl, HB.out⟩
theorem ltold_any (p s n : Int) (w : World) :
    Calls Tryz.prog 142 #[.agg #[.int .i64 p, .int .i64 s, .int .i64 n]] w fun e w' => e = .returned (.agg #[.int .i64 0, .int .i64 n, .string ⟨#[]⟩, .int .i64 0, .slice none 0 0, .int .i64 p, .int .i64 s, .int .i64 0]) ∧ Below w.heap.size w w' := by
  have H := two_blocks w #[.int .i64 p, .int .i64 s, .int .i64 n] #[.int .i64 0, .int .i64 n, .string ⟨#[]⟩, .int .i64 0, .slice none 0 0, .int .i64 p, .int .i64 s, .int .i64 0] 116 33
  go_enter Tryz.func142, Tryz.ntmps142
  go_wp2_with fail
  exact ans_ret (x := anM n p s) (ao := none) (cap := 0) rfl H.2 rfl rfl ⟨rfl, (below_new _ _).alloc (by simp) _⟩
theorem lcoded_any (c : Int) (w : World) : Calls Tryz.prog 141 #[.int .i64 c] w fun e w' => e = .returned (.agg #[.int .i64 c, .int .i64 0, .string ⟨#[]⟩, .int .i64 0, .slice none 0 0, .int .i64 0, .int .i64 0, .int .i64 0]) ∧ Below w.heap.size w w' := by
  go_enter Tryz.func141, Tryz.ntmps141
  go_wp2
  exact ans_ret (x := anP c 0 noL 0) (ao := none) (cap := 0) rfl (heap_alloc_new _ _) rfl rfl ⟨rfl, (Below.refl _ _).alloc (Nat.le_refl _) _⟩
theorem lindex_any (l : List Int) (u : Int) (ao : Option Addr) (cap : Nat) (w : World) (h : NLI w ao cap l) (hl : l.length ≤ 1000000) :
    Calls Tryz.prog 59 #[.slice ao l.length cap, .int .i64 u] w fun e w' => ∃ r : Int, e = .returned (.int .i64 r) ∧ w = w' ∧ ((0 ≤ r ∧ hasB l u = true) ∨ (r < 0 ∧ hasB l u = false)) := by
  have HY := Lib.hid (fun k (hk : k < l.length) => show u = l[k] → hasB l u = true from fun e => decide_eq_true (by rw [e]; exact List.getElem_mem hk))
  have HN := Lib.hid (show u ∉ l.take l.length → hasB l u = false from fun e => by rw [List.take_of_length_le (Nat.le_refl _)] at e; exact decide_eq_false e)
  generalize hasB l u = R at *
  have HA := Lib.hid h
  have hl' : (l.length : Int) ≤ 1000000 := by omega
  clear h
  go_enter Tryz.func59, Tryz.ntmps59
  go_wp2_with fail
  go_loop [8] (fun i => ∃ k : Nat, i = .int .i64 k ∧ k ≤ l.length ∧ Hid (u ∉ l.take k)) (fun i => l.length - (intOf i).toNat)
  case atStart => exact ⟨0, rfl, Nat.zero_le _, Lib.hid (by simp)⟩
  case round =>
    obtain ⟨k, rfl, hk, HT⟩ := hrel
    by_cases hlt : k < l.length
    · obtain ⟨bk, off, rfl, c0⟩ := HA.out.at k hlt
      have k0 : (k : Int) < (l.length : Int) := by omega
      by_cases he : u = l[k]
      · have HX := Lib.hid (HY.out k hlt he)
        have d0 : (u == l[k]) = true := beq_iff_eq.2 he
        clear he
        generalize l[k] = z at *
        go_wp2_with fail
        go_ret
        exact ⟨_, rfl, rfl, .inl ⟨by omega, HX.out⟩⟩
      · have HT2 := Lib.hid (show u ∉ l.take (k + 1) from by
          rw [List.take_succ_eq_append_getElem hlt, List.mem_append, List.mem_singleton]
          exact fun h => h.elim HT.out he)
        have d0 : (u == l[k]) = false := beq_eq_false_iff_ne.2 he
        clear he
        generalize l[k] = z at *
        go_wp2_with fail
        go_round
        case rel => exact ⟨k + 1, by go_num, by omega, HT2⟩
        case measure => simp [intOf]; omega
    · obtain rfl : k = l.length := by omega
      have HX := Lib.hid (HN.out HT.out)
      go_wp2_with fail
      go_ret
      exact ⟨_, rfl, rfl, .inr ⟨by decide, HX.out⟩⟩
theorem lcontains_any (l : List Int) (u : Int) (ao : Option Addr) (cap : Nat) (w : World) (h : NLI w ao cap l) (hl : l.length ≤ 1000000) :
    Calls Tryz.prog 47 #[.slice ao l.length cap, .int .i64 u] w fun e w' => e = .returned (.bool (hasB l u)) ∧ w = w' := by
  have CI := Lib.hid (lindex_any l u ao cap w h hl)
  clear h hl
  cases hb : hasB l u
  · rw [hb] at CI
    clear hb
    go_enter Tryz.func47, Tryz.ntmps47
    go_wp2_with (go_at_call 59; refine CI.out.mono ?_; rintro e w1 ⟨r, rfl, rfl, hr⟩; have hr0 : decide (0 ≤ r) = false := decide_eq_false (Int.not_le.2 (hr.elim (fun h => by cases h.2) (fun h => h.1))); clear hr)
    go_ret
    exact ⟨rfl, rfl⟩
  · rw [hb] at CI
    clear hb
    go_enter Tryz.func47, Tryz.ntmps47
    go_wp2_with (go_at_call 59; refine CI.out.mono ?_; rintro e w1 ⟨r, rfl, rfl, hr⟩; have hr0 : decide (0 ≤ r) = true := decide_eq_true (hr.elim (fun h => h.1) (fun h => by cases h.2)); clear hr)
    go_ret
    exact ⟨rfl, rfl⟩
end Go.Proofs.YtchhmfdalghgcaaGreat
namespace Go.Proofs.YtchhmfdalghgcaaGreat
set_option linter.unusedVariables false
open Go.RowKit
set_option maxRecDepth 20000
set_option maxHeartbeats 8000000 in
theorem un_read (b q : Nat) (G : Nat → Prop) (w : World) (u : Us) (a : Ak) (h : UM b q G w u) :
    Calls Tryz.prog 128 #[ptrV b, askV a] w fun e w' => e = .returned (anV (u.p.readE a.page) 0 (u.p.readS a.page) 0) ∧ Leaves (UM b q) G w w' ⟨u.p, u.epoch, u.down⟩ := by
  obtain ⟨k, un, ep, pg, sz, n, s, pe, L, ao, cap⟩ := a
  obtain ⟨p, ue, dn⟩ := u
  simp only at *
  have CC := Lib.hid coded_ag
  have HS := Lib.hid (boxed_start (um_thing b q) h #[.int .i64 k, .int .i64 un, .int .i64 ep, .int .i64 pg, .int .i64 sz, .int .i64 n, .string s, .int .i64 pe, .slice ao L.length cap])
  unfold zeroAn at HS
  have hbw := h.small
  clear h
  show Calls _ _ #[.pointer (some ⟨b, 0, none⟩), .agg #[.int .i64 k, .int .i64 un, .int .i64 ep, .int .i64 pg, .int .i64 sz, .int .i64 n, .string s, .int .i64 pe, .slice ao L.length cap]] w _
  go_enter Tryz.func128, Tryz.ntmps128
  go_wp2_with fail
  generalize hW0 : ((w.alloc (.cells #[.int .i64 k, .int .i64 un, .int .i64 ep, .int .i64 pg, .int .i64 sz, .int .i64 n, .string s, .int .i64 pe, .slice ao L.length cap] 37)).alloc (.cells #[.int .i64 0, .int .i64 0, .string ⟨#[]⟩, .int .i64 0, .slice none 0 0, .int .i64 0, .int .i64 0, .int .i64 0] 33)) = W0 at *
  clear hW0
  obtain ⟨l1, l2⟩ := HS.out.small
  have HD := Lib.hid (HS.out.drewN (um_thing b q) 1)
  obtain ⟨H, hH, hU⟩ := (HS.out.drewN (um_thing b q) 1).use
  have x3 : W0.cell? ⟨w.heap.size, 3, none⟩ = some (.int .i64 pg) := cell_of HS.out.ask 3
  have x6 : W0.cell? ⟨w.heap.size, 6, none⟩ = some (.string s) := cell_of HS.out.ask 6
  have c0 : W0.cell? ⟨b, 0, none⟩ = some (.pointer (some ⟨q, 0, none⟩)) := (three_cells hH.cells).1
  have hb : b < W0.heap.size := hH.small
  obtain ⟨F, hF, hok, hnx⟩ := hH.ready
  have HNX := Lib.hid (fun W2 p' h1 h2 => hU W2 _ (hnx W2 p' h1 h2))
  clear hnx hU hH
  go_region_held3 (fun W => W.cell? ⟨w.heap.size, 3, none⟩ = some (.int .i64 pg) ∧ W.cell? ⟨b, 0, none⟩ = some (.pointer (some ⟨q, 0, none⟩)))
    (first | assumption | exact ⟨x3, c0⟩)
    (first | (go_at_call 133; refine (pread_any F _ q p pg hF hok).mono ?_; rintro e w2 ⟨rfl, hb2⟩; have HT2 := Lib.hid (HD.out.below (um_thing b q) hb2); clear hb2; obtain ⟨K2, hK2, _⟩ := HT2.out.th; have S2 : w2.cell? ⟨w.heap.size, 3, none⟩ = some (.int .i64 pg) ∧ w2.cell? ⟨b, 0, none⟩ = some (.pointer (some ⟨q, 0, none⟩)) := ⟨cell_of HT2.out.ask 3, (three_cells hK2.cells).1⟩; clear hK2))
  go_wp2_with (go_at_call 123; refine (CC.out _ _).mono ?_; rintro e w3 ⟨rfl, hb3⟩; have HT3 := Lib.hid (HT2.out.below (um_thing b q) hb3); clear hb3; obtain ⟨nl1, nl2⟩ := HT3.out.small; obtain ⟨⟨ny0, ny1, ny2, ny3, ny4, ny5, ny6, ny7⟩, nfy0, nfy1, nfy2, nfy3, nfy4, nfy5, nfy6, nfy7⟩ := eight_cells HT3.out.ans)
  exact ans_ret (x := anP (p.readE pg) 0 (p.readS pg) 0) (ao := none) (cap := 0) rfl (below_heap ((Below.refl _ _).alloc (Nat.le_refl _) _) (HT3.out.fin (um_thing b q)).1) rfl rfl ⟨rfl, (HT3.out.fin (um_thing b q)).2.below (um_thing b q) ((Below.refl _ _).alloc (Nat.le_refl _) _)⟩
end Go.Proofs.YtchhmfdalghgcaaGreat
namespace Go.Proofs.YtchhmfdalghgcaaGreat
set_option linter.unusedVariables false
open Go.RowKit
set_option maxRecDepth 20000
/-- the call began in w; it is in W now -/
structure BoxZ {α : Type} (tz : TypeId) (Z : Array Value) (T : (Nat → Prop) → World → α → Prop) (w W : World) (G : Nat → Prop) (s : α) (A : Array Value) : Prop where
  ask : W.heap[w.heap.size]? = some (.cells A 37 (0, 0))
  ans : W.heap[w.heap.size + 1]? = some (.cells Z tz (0, 0))
  th : ∃ H : Nat → Prop, T H W s ∧ ∀ k, H k → G k ∨ w.heap.size + 1 < k
  kp : Kept (fun k => ¬ G k) w W
  lt : ∀ k, G k → k < w.heap.size
section
variable {α : Type} {tz : TypeId} {Z : Array Value} {T : (Nat → Prop) → World → α → Prop} {w W : World} {G : Nat → Prop} {s s' : α} {A : Array Value}
theorem boxz_start (hT : Thing T) (h : T G w s) (A : Array Value) : BoxZ tz Z T w ((w.alloc (.cells A 37)).alloc (.cells Z tz)) G s A := by
  have hb : Below w.heap.size w ((w.alloc (.cells A 37)).alloc (.cells Z tz)) := ((Below.refl _ _).alloc (Nat.le_refl _) _).alloc (by simp) _
  obtain ⟨h1, h2⟩ := two_blocks w A Z 37 tz
  exact ⟨h1, h2, ⟨G, hT.keep h (Kept.ofBelow hb (fun _ => True)) (fun _ _ => trivial), fun k hk => .inl hk⟩, Kept.ofBelow hb _, fun k hk => hT.lt h k hk⟩
theorem BoxZ.below (hT : Thing T) (h : BoxZ tz Z T w W G s A) {W2 : World} (hb : Below W.heap.size W W2) : BoxZ tz Z T w W2 G s A := by
  obtain ⟨H, h1, h2⟩ := h.th
  exact ⟨below_heap hb h.ask, below_heap hb h.ans, ⟨H, hT.keep h1 (Kept.ofBelow hb (fun _ => True)) (fun _ _ => trivial), h2⟩, h.kp.below hb, h.lt⟩
theorem BoxZ.drewN (hT : Thing T) (h : BoxZ tz Z T w W G s A) (n : Nat) : BoxZ tz Z T w (W.drewN n) G s A := h.below hT (below_drewN (Below.refl _ _) n)
theorem BoxZ.small (h : BoxZ tz Z T w W G s A) : w.heap.size < W.heap.size ∧ w.heap.size + 1 < W.heap.size := ⟨lt_of_block h.ask, lt_of_block h.ans⟩
theorem BoxZ.leaves (h : BoxZ tz Z T w W G s A) : Leaves T G w W s := by
  obtain ⟨H, h1, h2⟩ := h.th
  exact ⟨H, h1, h.kp, fun k hk => (h2 k hk).imp id (fun h => by omega)⟩
/-- a call, or a store, on the thing; what it leaves may be told as another thing -/
theorem BoxZ.use2 (h : BoxZ tz Z T w W G s A) : ∃ H : Nat → Prop, T H W s ∧ (∀ W2, Kept (fun k => ¬ H k) W W2 → Kept (fun k => ¬ G k) w W2) ∧ ∀ {β : Type} (U : (Nat → Prop) → World → β → Prop) W2 (s' : β), Leaves U H W W2 s' → BoxZ tz Z U w W2 G s' A := by
  obtain ⟨H, h1, h2⟩ := h.th
  obtain ⟨s1, s2⟩ := h.small
  have off : ∀ k, k < W.heap.size → ¬ G k → k ≤ w.heap.size + 1 → ¬ H k := fun k _ hg hk hf => by
    rcases h2 k hf with h3 | h3
    · exact hg h3
    · omega
  have ng : ∀ k, w.heap.size ≤ k → ¬ G k := fun k hk hg => by have := h.lt k hg; omega
  have kk : ∀ W2, Kept (fun k => ¬ H k) W W2 → Kept (fun k => ¬ G k) w W2 := fun W2 r2 => by
    have hk := h.kp
    refine ⟨r2.os.trans hk.os, r2.tape.trans hk.tape, r2.output.trans hk.output, Nat.le_trans hk.size r2.size, fun k hg hkl => ?_⟩
    rw [r2.block k (off k (Nat.lt_of_lt_of_le hkl hk.size) hg (by omega)) (Nat.lt_of_lt_of_le hkl hk.size)]
    exact hk.block k hg hkl
  refine ⟨H, h1, kk, fun U W2 s' hl => ?_⟩
  obtain ⟨H', r1, r2, r3⟩ := hl
  refine ⟨r2.heap (off _ s1 (ng _ (by omega)) (by omega)) h.ask, r2.heap (off _ s2 (ng _ (by omega)) (by omega)) h.ans, ⟨H', r1, fun k hk => ?_⟩, kk W2 r2, h.lt⟩
  rcases r3 k hk with h3 | h3
  · exact h2 k h3
  · exact .inr (by omega)
/-- a call, or a store, on the thing -/
theorem BoxZ.use (h : BoxZ tz Z T w W G s A) : ∃ H : Nat → Prop, T H W s ∧ ∀ W2 s', Leaves T H W W2 s' → BoxZ tz Z T w W2 G s' A := by
  obtain ⟨H, h1, _, h3⟩ := h.use2
  exact ⟨H, h1, fun W2 s' hl => h3 T W2 s' hl⟩
/-- the result is another then -/
theorem BoxZ.fin (hT : Thing T) (h : BoxZ tz Z T w W G s A) {W2 : World} (hk : Kept (fun k => k ≠ w.heap.size + 1) W W2) : Leaves T G w W2 s := by
  obtain ⟨H, h1, h2⟩ := h.th
  have hw := h.small
  refine ⟨H, hT.keep h1 hk (fun k hk e => ?_), ?_, fun k hk => (h2 k hk).imp id (fun h => by omega)⟩
  · rcases h2 k hk with h3 | h3
    · have := h.lt k h3; omega
    · omega
  · have hp := h.kp
    refine ⟨hk.os.trans hp.os, hk.tape.trans hp.tape, hk.output.trans hp.output, Nat.le_trans hp.size hk.size, fun k hg hkl => ?_⟩
    have := hp.size
    rw [hk.block k (by omega) (by omega)]
    exact hp.block k hg hkl
end
end Go.Proofs.YtchhmfdalghgcaaGreat
