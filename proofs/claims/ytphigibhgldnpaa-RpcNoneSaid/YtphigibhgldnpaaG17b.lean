/- What the program's unit answers a question to its pages. Conditions: it and the question lie where the call was told; the question's data are not too long. (Written by gen/genunpb.py.) What the small functions of the program's layout return, and what the library's Contains does on numbers. Conditions: as each statement says. -/
import Derived.Test.YtphigibhgldnpaaG16a
import Derived.Deep.RegionHeld3
import Derived.Test.YtphigibhgldnpaaG16b
import Derived.Test.YtphigibhgldnpaaG14a
set_option linter.unusedVariables false
namespace Go.Proofs.Ytphigibhgldnpaa
set_option linter.unusedVariables false
open Go.RowKit
set_option maxRecDepth 20000
set_option maxHeartbeats 8000000 in
theorem un_seal (b q : Nat) (G : Nat → Prop) (w : World) (u : Us) (a : Ak) (h : UM b q G w u) (hw : i64w a.epoch) :
    Calls Try.prog 91 #[ptrV b, askV a] w fun e w' => e = .returned (anV 0 u.p.tail noS 0) ∧ Leaves (UM b q) G w w' ⟨u.p, a.epoch, u.down⟩ := by
  obtain ⟨k, un, ep, pg, sz, n, s, pe, L, ao, cap⟩ := a
  obtain ⟨p, ue, dn⟩ := u
  simp only at *
  have HS := Lib.hid (boxed_start (um_thing b q) h #[.int .i64 k, .int .i64 un, .int .i64 ep, .int .i64 pg, .int .i64 sz, .int .i64 n, .string s, .int .i64 pe, .slice ao L.length cap])
  unfold zeroAn at HS
  have hbw := h.small
  obtain ⟨c0, c1, c2, f0, f1, f2⟩ := three_cells h.cells
  obtain ⟨H, hH, hU⟩ := HS.out.use
  have HE := hU _ _ (hH.seal hw)
  rw [World.setCell_alloc_past (hn := by simp; omega), World.setCell_alloc_past (hn := hbw)] at HE
  replace HE := Lib.hid HE
  obtain ⟨H2, hH2, _⟩ := HE.out.use
  obtain ⟨F, hF, hok, _⟩ := hH2.ready
  clear h hU hH hH2
  show Calls _ _ #[.pointer (some ⟨b, 0, none⟩), .agg #[.int .i64 k, .int .i64 un, .int .i64 ep, .int .i64 pg, .int .i64 sz, .int .i64 n, .string s, .int .i64 pe, .slice ao L.length cap]] w _
  go_enter Try.func91, Try.ntmps91
  go_wp2_with (first | (go_at_call 96; refine (ptail_any F _ q p hF hok).mono ?_; rintro e w2 ⟨rfl, hb2⟩; have HT3 := Lib.hid (HE.out.below (um_thing b q) hb2); clear hb2; obtain ⟨nl1, nl2⟩ := HT3.out.small; obtain ⟨⟨ny0, ny1, ny2, ny3, ny4, ny5, ny6, ny7⟩, nfy0, nfy1, nfy2, nfy3, nfy4, nfy5, nfy6, nfy7⟩ := eight_cells HT3.out.ans))
  exact ans_ret (x := anP 0 p.tail noS 0) (ao := none) (cap := 0) rfl (HT3.out.fin (um_thing b q)).1 rfl rfl ⟨rfl, (HT3.out.fin (um_thing b q)).2⟩
end Go.Proofs.Ytphigibhgldnpaa
namespace Go.Proofs.Ytphigibhgldnpaa
set_option linter.unusedVariables false
open Go.RowKit Go.Maps
set_option maxRecDepth 20000
theorem lwithin_any (v a b : Int) (w : World) :
    Calls Try.prog 112 #[.int .i64 v, .int .i64 a, .int .i64 b] w fun e w' => e = .returned (.bool (inB v a b)) ∧ w = w' := by
  by_cases h1 : a ≤ v
  · by_cases h2 : v ≤ b
    · rw [show inB v a b = true from decide_eq_true ⟨h1, h2⟩]
      go_enter Try.func112, Try.ntmps112
      go_wp2_with fail
      go_ret
      exact ⟨rfl, rfl⟩
    · rw [show inB v a b = false from decide_eq_false (fun h => h2 h.2)]
      have h3 : decide (v ≤ b) = false := decide_eq_false h2
      clear h2
      go_enter Try.func112, Try.ntmps112
      go_wp2_with fail
      go_ret
      exact ⟨rfl, rfl⟩
  · rw [show inB v a b = false from decide_eq_false (fun h => h1 h.1)]
    have h3 : decide (a ≤ v) = false := decide_eq_false h1
    clear h1
    go_enter Try.func112, Try.ntmps112
    go_wp2_with fail
    go_ret
    exact ⟨rfl, rfl⟩
/-- is an image within its bounds? -/
def goodI (p s n : Int) : Bool := inB p 0 16383 && inB s 1 65536 && inB n 0 16384
theorem goodI_no {a : Ak} (h : badM a) : goodI a.page a.size a.n = false := by
  unfold badM at h
  unfold goodI inB
  by_cases h1 : 0 ≤ a.page ∧ a.page ≤ 16383
  · by_cases h2 : 1 ≤ a.size ∧ a.size ≤ 65536
    · have h3 : ¬ (0 ≤ a.n ∧ a.n ≤ 16384) := by omega
      rw [decide_eq_false h3, Bool.and_false]
    · rw [decide_eq_false h2, Bool.and_false, Bool.false_and]
  · rw [decide_eq_false h1, Bool.false_and, Bool.false_and]
theorem goodI_yes {a : Ak} (h : ¬ badM a) : goodI a.page a.size a.n = true := by
  unfold badM at h
  unfold goodI inB
  rw [decide_eq_true (by omega : 0 ≤ a.page ∧ a.page ≤ 16383), decide_eq_true (by omega : 1 ≤ a.size ∧ a.size ≤ 65536), decide_eq_true (by omega : 0 ≤ a.n ∧ a.n ≤ 16384)]
  rfl
theorem lgood_any (p s n : Int) (w : World) :
    Calls Try.prog 110 #[.agg #[.int .i64 p, .int .i64 s, .int .i64 n]] w fun e w' => e = .returned (.bool (goodI p s n)) ∧ Below w.heap.size w w' := by
  have C0 := Lib.hid (fun w => lwithin_any p 0 16383 w)
  have C1 := Lib.hid (fun w => lwithin_any s 1 65536 w)
  have C2 := Lib.hid (fun w => lwithin_any n 0 16384 w)
  have HB := Lib.hid (below_new w (.cells #[.int .i64 p, .int .i64 s, .int .i64 n] 73))
  unfold goodI
  generalize inB p 0 16383 = g0 at *
  generalize inB s 1 65536 = g1 at *
  generalize inB n 0 16384 = g2 at *
  cases g0 <;> cases g1 <;> cases g2
  all_goals
    go_enter Try.func110, Try.ntmps110
    go_wp2_with (go_at_call 112; first | (with_reducible refine (C0.out _).mono ?_; rintro e w1 ⟨rfl, rfl⟩) | (with_reducible refine (C1.out _).mono ?_; rintro e w1 ⟨rfl, rfl⟩) | (with_reducible refine (C2.out _).mono ?_; rintro e w1 ⟨rfl, rfl⟩))
    go_ret
    exact ⟨rfl, HB.out⟩
theorem ltold_any (p s n : Int) (w : World) :
    Calls Try.prog 106 #[.agg #[.int .i64 p, .int .i64 s, .int .i64 n]] w fun e w' => e = .returned (.agg #[.int .i64 0, .int .i64 n, .string ⟨#[]⟩, .int .i64 0, .slice none 0 0, .int .i64 p, .int .i64 s, .int .i64 0]) ∧ Below w.heap.size w w' := by
  have H := two_blocks w #[.int .i64 p, .int .i64 s, .int .i64 n] #[.int .i64 0, .int .i64 n, .string ⟨#[]⟩, .int .i64 0, .slice none 0 0, .int .i64 p, .int .i64 s, .int .i64 0] 73 34
  go_enter Try.func106, Try.ntmps106
  go_wp2_with fail
  exact ans_ret (x := anM n p s) (ao := none) (cap := 0) rfl H.2 rfl rfl ⟨rfl, (below_new _ _).alloc (by simp) _⟩
theorem lcoded_any (c : Int) (w : World) : Calls Try.prog 105 #[.int .i64 c] w fun e w' => e = .returned (.agg #[.int .i64 c, .int .i64 0, .string ⟨#[]⟩, .int .i64 0, .slice none 0 0, .int .i64 0, .int .i64 0, .int .i64 0]) ∧ Below w.heap.size w w' := by
  go_enter Try.func105, Try.ntmps105
  go_wp2
  exact ans_ret (x := anP c 0 noL 0) (ao := none) (cap := 0) rfl (heap_alloc_new _ _) rfl rfl ⟨rfl, (Below.refl _ _).alloc (Nat.le_refl _) _⟩
theorem lindex_any (l : List Int) (u : Int) (ao : Option Addr) (cap : Nat) (w : World) (h : NLI w ao cap l) (hl : l.length ≤ 1000000) :
    Calls Try.prog 33 #[.slice ao l.length cap, .int .i64 u] w fun e w' => ∃ r : Int, e = .returned (.int .i64 r) ∧ w = w' ∧ ((0 ≤ r ∧ hasB l u = true) ∨ (r < 0 ∧ hasB l u = false)) := by
  have HY := Lib.hid (fun k (hk : k < l.length) => show u = l[k] → hasB l u = true from fun e => decide_eq_true (by rw [e]; exact List.getElem_mem hk))
  have HN := Lib.hid (show u ∉ l.take l.length → hasB l u = false from fun e => by rw [List.take_of_length_le (Nat.le_refl _)] at e; exact decide_eq_false e)
  generalize hasB l u = R at *
  have HA := Lib.hid h
  have hl' : (l.length : Int) ≤ 1000000 := by omega
  clear h
  go_enter Try.func33, Try.ntmps33
  go_wp2_with fail
  go_loop [8] (fun i => ∃ k : Nat, i = .int .i64 k ∧ k ≤ l.length ∧ Hid (u ∉ l.take k)) (fun i => l.length - (intOf i).toNat)
  case atStart => exact ⟨0, rfl, Nat.zero_le _, Lib.hid (by simp)⟩
  case round =>
    obtain ⟨k, rfl, hk, HT⟩ := hrel
    by_cases hlt : k < l.length
    · obtain ⟨bk, off, rfl, c0⟩ := HA.out.at k hlt
      have k0 : (k : Int) < (l.length : Int) := by omega
      by_cases he : u = l[k]
      · have HX := Lib.hid (HY.out k hlt he)
        have d0 : (u == l[k]) = true := beq_iff_eq.2 he
        clear he
        generalize l[k] = z at *
        go_wp2_with fail
        go_ret
        exact ⟨_, rfl, rfl, .inl ⟨by omega, HX.out⟩⟩
      · have HT2 := Lib.hid (show u ∉ l.take (k + 1) from by
          rw [List.take_succ_eq_append_getElem hlt, List.mem_append, List.mem_singleton]
          exact fun h => h.elim HT.out he)
        have d0 : (u == l[k]) = false := beq_eq_false_iff_ne.2 he
        clear he
        generalize l[k] = z at *
        go_wp2_with fail
        go_round
        case rel => exact ⟨k + 1, by go_num, by omega, HT2⟩
        case measure => simp [intOf]; omega
    · obtain rfl : k = l.length := by omega
      have HX := Lib.hid (HN.out HT.out)
      go_wp2_with fail
      go_ret
      exact ⟨_, rfl, rfl, .inr ⟨by decide, HX.out⟩⟩
theorem lcontains_any (l : List Int) (u : Int) (ao : Option Addr) (cap : Nat) (w : World) (h : NLI w ao cap l) (hl : l.length ≤ 1000000) :
    Calls Try.prog 23 #[.slice ao l.length cap, .int .i64 u] w fun e w' => e = .returned (.bool (hasB l u)) ∧ w = w' := by
  have CI := Lib.hid (lindex_any l u ao cap w h hl)
  clear h hl
  cases hb : hasB l u
  · rw [hb] at CI
    clear hb
    go_enter Try.func23, Try.ntmps23
    go_wp2_with (go_at_call 33; refine CI.out.mono ?_; rintro e w1 ⟨r, rfl, rfl, hr⟩; have hr0 : decide (0 ≤ r) = false := decide_eq_false (Int.not_le.2 (hr.elim (fun h => by cases h.2) (fun h => h.1))); clear hr)
    go_ret
    exact ⟨rfl, rfl⟩
  · rw [hb] at CI
    clear hb
    go_enter Try.func23, Try.ntmps23
    go_wp2_with (go_at_call 33; refine CI.out.mono ?_; rintro e w1 ⟨r, rfl, rfl, hr⟩; have hr0 : decide (0 ≤ r) = true := decide_eq_true (hr.elim (fun h => h.1) (fun h => by cases h.2)); clear hr)
    go_ret
    exact ⟨rfl, rfl⟩
end Go.Proofs.Ytphigibhgldnpaa
