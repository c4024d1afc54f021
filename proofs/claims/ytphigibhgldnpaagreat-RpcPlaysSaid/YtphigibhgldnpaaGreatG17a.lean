/- What the document's own layout answers, asked for the projection that counts. Conditions: it and the question lie where the call was told. What the small functions of the program's layout return, and what the library's Contains does on numbers. Conditions: as each statement says. -/
import Derived.Test.YtphigibhgldnpaaGreatG16a
import Derived.Test.YtphigibhgldnpaaGreatG14a
set_option linter.unusedVariables false
namespace Go.Proofs.YtphigibhgldnpaaGreat
set_option linter.unusedVariables false
open Go.RowKit
set_option maxRecDepth 20000
section
variable {w W W2 : World} {r : Nat} {G H : Nat → Prop} {y : Ly} {a : Ak} {X : Option (Array Value)} {v0 v1 v3 v4 v5 : Value}
theorem s5_on (h : W.cell? ⟨r, 0, none⟩ = some v0 ∧ W.cell? ⟨r, 1, none⟩ = some v1 ∧ W.cell? ⟨r, 3, none⟩ = some v3 ∧ W.cell? ⟨r, 4, none⟩ = some v4 ∧ W.cell? ⟨r, 5, none⟩ = some v5 ∧ LdE w W r G H y a X) (hb : Below W.heap.size W W2) : W2.cell? ⟨r, 0, none⟩ = some v0 ∧ W2.cell? ⟨r, 1, none⟩ = some v1 ∧ W2.cell? ⟨r, 3, none⟩ = some v3 ∧ W2.cell? ⟨r, 4, none⟩ = some v4 ∧ W2.cell? ⟨r, 5, none⟩ = some v5 ∧ LdE w W2 r G H y a X :=
  ⟨cellB hb (block_lt_of_cell h.1) h.1, cellB hb (block_lt_of_cell h.2.1) h.2.1, cellB hb (block_lt_of_cell h.2.2.1) h.2.2.1, cellB hb (block_lt_of_cell h.2.2.2.1) h.2.2.2.1, cellB hb (block_lt_of_cell h.2.2.2.2.1) h.2.2.2.2.1, h.2.2.2.2.2.below hb⟩
theorem s5_ld (h : W.cell? ⟨r, 0, none⟩ = some v0 ∧ W.cell? ⟨r, 1, none⟩ = some v1 ∧ W.cell? ⟨r, 3, none⟩ = some v3 ∧ W.cell? ⟨r, 4, none⟩ = some v4 ∧ W.cell? ⟨r, 5, none⟩ = some v5 ∧ LdE w W r G H y a X) : LdE w W r G H y a X := h.2.2.2.2.2
theorem s5_cl {ao : Option Addr} {n cap : Nat} (h : W.cell? ⟨r, 0, none⟩ = some v0 ∧ W.cell? ⟨r, 1, none⟩ = some (.slice ao n cap) ∧ W.cell? ⟨r, 3, none⟩ = some v3 ∧ W.cell? ⟨r, 4, none⟩ = some v4 ∧ W.cell? ⟨r, 5, none⟩ = some v5 ∧ LdE w W r G H y a X) : CL W ao y.L := h.2.2.2.2.2.rl.cl h.2.1
theorem s5_lt (h : W.cell? ⟨r, 0, none⟩ = some v0 ∧ W.cell? ⟨r, 1, none⟩ = some v1 ∧ W.cell? ⟨r, 3, none⟩ = some v3 ∧ W.cell? ⟨r, 4, none⟩ = some v4 ∧ W.cell? ⟨r, 5, none⟩ = some v5 ∧ LdE w W r G H y a X) : ∀ k, H k → k < W.heap.size := fun k hk => (rl_thing r).lt h.2.2.2.2.2.rl k hk
theorem s5_small (h : W.cell? ⟨r, 0, none⟩ = some v0 ∧ W.cell? ⟨r, 1, none⟩ = some v1 ∧ W.cell? ⟨r, 3, none⟩ = some v3 ∧ W.cell? ⟨r, 4, none⟩ = some v4 ∧ W.cell? ⟨r, 5, none⟩ = some v5 ∧ LdE w W r G H y a X) : w.heap.size + 1 < W.heap.size := h.2.2.2.2.2.small.2.1
theorem s5_eight (h : W.cell? ⟨r, 0, none⟩ = some v0 ∧ W.cell? ⟨r, 1, none⟩ = some v1 ∧ W.cell? ⟨r, 3, none⟩ = some v3 ∧ W.cell? ⟨r, 4, none⟩ = some v4 ∧ W.cell? ⟨r, 5, none⟩ = some v5 ∧ LdE w W r G H y a X) (x0 x1 x2 x3 x4 x5 x6 x7 : Value) : ((((((((W.setCell ⟨w.heap.size + 1, 0, none⟩ x0).setCell ⟨w.heap.size + 1, 1, none⟩ x1).setCell ⟨w.heap.size + 1, 2, none⟩ x2).setCell ⟨w.heap.size + 1, 3, none⟩ x3).setCell ⟨w.heap.size + 1, 4, none⟩ x4).setCell ⟨w.heap.size + 1, 5, none⟩ x5).setCell ⟨w.heap.size + 1, 6, none⟩ x6).setCell ⟨w.heap.size + 1, 7, none⟩ x7).cell? ⟨r, 0, none⟩ = some v0 ∧ ((((((((W.setCell ⟨w.heap.size + 1, 0, none⟩ x0).setCell ⟨w.heap.size + 1, 1, none⟩ x1).setCell ⟨w.heap.size + 1, 2, none⟩ x2).setCell ⟨w.heap.size + 1, 3, none⟩ x3).setCell ⟨w.heap.size + 1, 4, none⟩ x4).setCell ⟨w.heap.size + 1, 5, none⟩ x5).setCell ⟨w.heap.size + 1, 6, none⟩ x6).setCell ⟨w.heap.size + 1, 7, none⟩ x7).cell? ⟨r, 1, none⟩ = some v1 ∧ ((((((((W.setCell ⟨w.heap.size + 1, 0, none⟩ x0).setCell ⟨w.heap.size + 1, 1, none⟩ x1).setCell ⟨w.heap.size + 1, 2, none⟩ x2).setCell ⟨w.heap.size + 1, 3, none⟩ x3).setCell ⟨w.heap.size + 1, 4, none⟩ x4).setCell ⟨w.heap.size + 1, 5, none⟩ x5).setCell ⟨w.heap.size + 1, 6, none⟩ x6).setCell ⟨w.heap.size + 1, 7, none⟩ x7).cell? ⟨r, 3, none⟩ = some v3 ∧ ((((((((W.setCell ⟨w.heap.size + 1, 0, none⟩ x0).setCell ⟨w.heap.size + 1, 1, none⟩ x1).setCell ⟨w.heap.size + 1, 2, none⟩ x2).setCell ⟨w.heap.size + 1, 3, none⟩ x3).setCell ⟨w.heap.size + 1, 4, none⟩ x4).setCell ⟨w.heap.size + 1, 5, none⟩ x5).setCell ⟨w.heap.size + 1, 6, none⟩ x6).setCell ⟨w.heap.size + 1, 7, none⟩ x7).cell? ⟨r, 4, none⟩ = some v4 ∧ ((((((((W.setCell ⟨w.heap.size + 1, 0, none⟩ x0).setCell ⟨w.heap.size + 1, 1, none⟩ x1).setCell ⟨w.heap.size + 1, 2, none⟩ x2).setCell ⟨w.heap.size + 1, 3, none⟩ x3).setCell ⟨w.heap.size + 1, 4, none⟩ x4).setCell ⟨w.heap.size + 1, 5, none⟩ x5).setCell ⟨w.heap.size + 1, 6, none⟩ x6).setCell ⟨w.heap.size + 1, 7, none⟩ x7).cell? ⟨r, 5, none⟩ = some v5 ∧ LdE w ((((((((W.setCell ⟨w.heap.size + 1, 0, none⟩ x0).setCell ⟨w.heap.size + 1, 1, none⟩ x1).setCell ⟨w.heap.size + 1, 2, none⟩ x2).setCell ⟨w.heap.size + 1, 3, none⟩ x3).setCell ⟨w.heap.size + 1, 4, none⟩ x4).setCell ⟨w.heap.size + 1, 5, none⟩ x5).setCell ⟨w.heap.size + 1, 6, none⟩ x6).setCell ⟨w.heap.size + 1, 7, none⟩ x7) r G H y a X := by
  have hne : r ≠ w.heap.size + 1 := by have := h.2.2.2.2.2.small; omega
  have hk := eight_kept W (w.heap.size + 1) x0 x1 x2 x3 x4 x5 x6 x7
  exact ⟨cellK hk hne h.1, cellK hk hne h.2.1, cellK hk hne h.2.2.1, cellK hk hne h.2.2.2.1, cellK hk hne h.2.2.2.2.1, ⟨_, _, _, _, _, _, _, _, h.2.2.2.2.2.eight x0 x1 x2 x3 x4 x5 x6 x7⟩⟩
end
set_option maxHeartbeats 8000000 in
theorem ldo_tell (r : Nat) (G : Nat → Prop) (w : World) (y : Ly) (a : Ak) (h : RL r G w y) (hk : a.kind = 9) :
    Calls Tryz.prog 32 #[ptrL r, askV a] w fun e w' => Tells (RL r) G w (y.done a) (y.ans a) e w' := by
  have ha : y.ans a = ⟨0, y.n, noL, y.ep, y.L, y.mark, y.size, 0⟩ := if_pos hk
  have hd : y.done a = y := by
    unfold Ly.done
    rw [if_neg (by omega), if_neg (by rintro ⟨h, _⟩; omega)]
  rw [ha, hd]
  clear ha hd
  obtain ⟨k, un, ep, pg, sz, n, s, pe, L, ao, cap⟩ := a
  simp only at hk
  have HS := Lib.hid (show LdW w ((w.alloc (.cells #[.int .i64 k, .int .i64 un, .int .i64 ep, .int .i64 pg, .int .i64 sz, .int .i64 n, .string s, .int .i64 pe, .slice ao L.length cap] 42)).alloc (.cells #[.int .i64 0, .int .i64 0, .string ⟨#[]⟩, .int .i64 0, .slice none 0 0, .int .i64 0, .int .i64 0, .int .i64 0] 39)) r G G y ⟨k, un, ep, pg, sz, n, s, pe, L, ao, cap⟩ zeroA none from ld_start h ⟨k, un, ep, pg, sz, n, s, pe, L, ao, cap⟩)
  have d9 : (k == 9) = true := by rw [hk]; rfl
  clear hk h
  show Calls _ _ #[.pointer (some ⟨r, 0, none⟩), .agg #[.int .i64 k, .int .i64 un, .int .i64 ep, .int .i64 pg, .int .i64 sz, .int .i64 n, .string s, .int .i64 pe, .slice ao L.length cap]] w _
  go_enter Tryz.func32, Tryz.ntmps32
  go_wp2_with fail
  generalize hW0 : ((w.alloc (.cells #[.int .i64 k, .int .i64 un, .int .i64 ep, .int .i64 pg, .int .i64 sz, .int .i64 n, .string s, .int .i64 pe, .slice ao L.length cap] 42)).alloc (.cells #[.int .i64 0, .int .i64 0, .string ⟨#[]⟩, .int .i64 0, .slice none 0 0, .int .i64 0, .int .i64 0, .int .i64 0] 39)) = W0 at *
  clear hW0
  obtain ⟨l1, l2, l3⟩ := HS.out.small
  obtain ⟨lo, lc, bo, cb, h1, h2, h3, h4⟩ := HS.out.rl.open
  obtain ⟨⟨c0, c1, c2, c3, c4, c5⟩, _⟩ := six_cells h1
  have HM := Lib.hid (show y.L.length ≤ 1000 ∧ ∀ c ∈ y.L, c.length ≤ 1000 from ⟨by have := (good_small h4).1; omega, fun c hc => by have := (good_small h4).2 c hc; omega⟩)
  have C0 := Lib.hid (show W0.drew.cell? ⟨r, 0, none⟩ = some (.int .i64 y.ep) ∧ W0.drew.cell? ⟨r, 1, none⟩ = some (.slice lo y.L.length lc) ∧ W0.drew.cell? ⟨r, 3, none⟩ = some (.int .i64 y.mark) ∧ W0.drew.cell? ⟨r, 4, none⟩ = some (.int .i64 y.size) ∧ W0.drew.cell? ⟨r, 5, none⟩ = some (.int .i64 y.n) ∧ LdE w W0.drew r G G y ⟨k, un, ep, pg, sz, n, s, pe, L, ao, cap⟩ none from ⟨c0, c1, c3, c4, c5, HS.out.drew.any⟩)
  clear c0 c1 c2 c3 c4 c5 h1 h2 h3 h4 HS l1 l2 l3
  go_region_held3 (fun W => W.cell? ⟨r, 0, none⟩ = some (.int .i64 y.ep) ∧ W.cell? ⟨r, 1, none⟩ = some (.slice lo y.L.length lc) ∧ W.cell? ⟨r, 3, none⟩ = some (.int .i64 y.mark) ∧ W.cell? ⟨r, 4, none⟩ = some (.int .i64 y.size) ∧ W.cell? ⟨r, 5, none⟩ = some (.int .i64 y.n) ∧ LdE w W r G G y ⟨k, un, ep, pg, sz, n, s, pe, L, ao, cap⟩ none)
    (first | with_reducible exact C0.out | with_reducible exact HS2.out | with_reducible exact s5_eight HS2.out _ _ _ _ _ _ _ _)
    (first | (go_at_call 8; refine (keepCopyO_any y.ep lo lc y.L _ (s5_cl (by assumption)) HM.out).mono ?_; rintro e w2 ⟨v, rfl, hO, hb2⟩; have HO := Lib.hid hO; obtain ⟨go, gc, hv, _⟩ := hO.form; subst hv; have HLT := Lib.hid (s5_lt (by assumption)); have HSM := Lib.hid (s5_small (by assumption)); have HS2 := Lib.hid (s5_on (by assumption) hb2); obtain ⟨nl1, nl2, nl3⟩ := (s5_ld HS2.out).small; obtain ⟨u0, u1, u2, u3, u4, u5, u6, u7, ⟨nz0, nz1, nz2, nz3, nz4, nz5, nz6, nz7⟩, nfz0, nfz1, nfz2, nfz3, nfz4, nfz5, nfz6, nfz7⟩ := (s5_ld HS2.out).cells; clear hO))
  all_goals
    go_wp2_with fail
    have H3 := (s5_ld HS2.out).eight (.int .i64 0) (.int .i64 y.n) (.string ⟨#[]⟩) (.int .i64 y.ep) (.slice go y.L.length gc) (.int .i64 y.mark) (.int .i64 y.size) (.int .i64 0)
    exact ans_ret (x := ⟨0, y.n, noL, y.ep, y.L, y.mark, y.size, 0⟩) (ao := go) (cap := gc) rfl H3.zero rfl rfl (H3.tells (x := ⟨0, y.n, noL, y.ep, y.L, y.mark, y.size, 0⟩) (Nat.le_of_lt (Nat.lt_of_succ_lt HSM.out)) HLT.out (CG.behind HO.out (eight_kept _ _ _ _ _ _ _ _ _ _) (fun k hk => by have := HSM.out; omega) (eight_size _ _ _ _ _ _ _ _ _ _)))
end Go.Proofs.YtphigibhgldnpaaGreat
namespace Go.Proofs.YtphigibhgldnpaaGreat
set_option linter.unusedVariables false
open Go.RowKit Go.Maps
set_option maxRecDepth 20000
theorem lwithin_any (v a b : Int) (w : World) :
    Calls Tryz.prog 138 #[.int .i64 v, .int .i64 a, .int .i64 b] w fun e w' => e = .returned (.bool (inB v a b)) ∧ w = w' := by
  by_cases h1 : a ≤ v
  · by_cases h2 : v ≤ b
    · rw [show inB v a b = true from decide_eq_true ⟨h1, h2⟩]
      go_enter Tryz.func138, Tryz.ntmps138
      go_wp2_with fail
      go_ret
      exact ⟨rfl, rfl⟩
    · rw [show inB v a b = false from decide_eq_false (fun h => h2 h.2)]
      have h3 : decide (v ≤ b) = false := decide_eq_false h2
      clear h2
      go_enter Tryz.func138, Tryz.ntmps138
      go_wp2_with fail
      go_ret
      exact ⟨rfl, rfl⟩
  · rw [show inB v a b = false from decide_eq_false (fun h => h1 h.1)]
    have h3 : decide (a ≤ v) = false := decide_eq_false h1
    clear h1
    go_enter Tryz.func138, Tryz.ntmps138
    go_wp2_with fail
    go_ret
    exact ⟨rfl, rfl⟩
/-- is an image within its bounds? -/
def goodI (p s n : Int) : Bool := inB p 0 16383 && inB s 1 65536 && inB n 0 16384
theorem goodI_no {a : Ak} (h : badM a) : goodI a.page a.size a.n = false := by
  unfold badM at h
  unfold goodI inB
  by_cases h1 : 0 ≤ a.page ∧ a.page ≤ 16383
  · by_cases h2 : 1 ≤ a.size ∧ a.size ≤ 65536
    · have h3 : ¬ (0 ≤ a.n ∧ a.n ≤ 16384) := by omega
      rw [decide_eq_false h3, Bool.and_false]
    · rw [decide_eq_false h2, Bool.and_false, Bool.false_and]
  · rw [decide_eq_false h1, Bool.false_and, Bool.false_and]
theorem goodI_yes {a : Ak} (h : ¬ badM a) : goodI a.page a.size a.n = true := by
  unfold badM at h
  unfold goodI inB
  rw [decide_eq_true (by omega : 0 ≤ a.page ∧ a.page ≤ 16383), decide_eq_true (by omega : 1 ≤ a.size ∧ a.size ≤ 65536), decide_eq_true (by omega : 0 ≤ a.n ∧ a.n ≤ 16384)]
  rfl
theorem lgood_any (p s n : Int) (w : World) :
    Calls Tryz.prog 136 #[.agg #[.int .i64 p, .int .i64 s, .int .i64 n]] w fun e w' => e = .returned (.bool (goodI p s n)) ∧ Below w.heap.size w w' := by
  have C0 := Lib.hid (fun w => lwithin_any p 0 16383 w)
  have C1 := Lib.hid (fun w => lwithin_any s 1 65536 w)
  have C2 := Lib.hid (fun w => lwithin_any n 0 16384 w)
  have HB := Lib.hid (below_new w (.cells #[.int .i64 p, .int .i64 s, .int .i64 n] 95))
  unfold goodI
  generalize inB p 0 16383 = g0 at *
  generalize inB s 1 65536 = g1 at *
  generalize inB n 0 16384 = g2 at *
  cases g0 <;> cases g1 <;> cases g2
  all_goals
    go_enter Tryz.func136, Tryz.ntmps136
    go_wp2_with (go_at_call 138; first | (with_reducible refine (C0.out _).mono ?_; rintro e w1 ⟨rfl, rfl⟩) | (with_reducible refine (C1.out _).mono ?_; rintro e w1 ⟨rfl, rfl⟩) | (with_reducible refine (C2.out _).mono ?_; rintro e w1 ⟨rfl, rfl⟩))
    go_ret
    exact ⟨rfl, HB.out⟩
theorem ltold_any (p s n : Int) (w : World) :
    Calls Tryz.prog 132 #[.agg #[.int .i64 p, .int .i64 s, .int .i64 n]] w fun e w' => e = .returned (.agg #[.int .i64 0, .int .i64 n, .string ⟨#[]⟩, .int .i64 0, .slice none 0 0, .int .i64 p, .int .i64 s, .int .i64 0]) ∧ Below w.heap.size w w' := by
  have H := two_blocks w #[.int .i64 p, .int .i64 s, .int .i64 n] #[.int .i64 0, .int .i64 n, .string ⟨#[]⟩, .int .i64 0, .slice none 0 0, .int .i64 p, .int .i64 s, .int .i64 0] 95 39
  go_enter Tryz.func132, Tryz.ntmps132
  go_wp2_with fail
  exact ans_ret (x := anM n p s) (ao := none) (cap := 0) rfl H.2 rfl rfl ⟨rfl, (below_new _ _).alloc (by simp) _⟩
theorem lcoded_any (c : Int) (w : World) : Calls Tryz.prog 131 #[.int .i64 c] w fun e w' => e = .returned (.agg #[.int .i64 c, .int .i64 0, .string ⟨#[]⟩, .int .i64 0, .slice none 0 0, .int .i64 0, .int .i64 0, .int .i64 0]) ∧ Below w.heap.size w w' := by
  go_enter Tryz.func131, Tryz.ntmps131
  go_wp2
  exact ans_ret (x := anP c 0 noL 0) (ao := none) (cap := 0) rfl (heap_alloc_new _ _) rfl rfl ⟨rfl, (Below.refl _ _).alloc (Nat.le_refl _) _⟩
theorem lindex_any (l : List Int) (u : Int) (ao : Option Addr) (cap : Nat) (w : World) (h : NLI w ao cap l) (hl : l.length ≤ 1000000) :
    Calls Tryz.prog 52 #[.slice ao l.length cap, .int .i64 u] w fun e w' => ∃ r : Int, e = .returned (.int .i64 r) ∧ w = w' ∧ ((0 ≤ r ∧ hasB l u = true) ∨ (r < 0 ∧ hasB l u = false)) := by
  have HY := Lib.hid (fun k (hk : k < l.length) => show u = l[k] → hasB l u = true from fun e => decide_eq_true (by rw [e]; exact List.getElem_mem hk))
  have HN := Lib.hid (show u ∉ l.take l.length → hasB l u = false from fun e => by rw [List.take_of_length_le (Nat.le_refl _)] at e; exact decide_eq_false e)
  generalize hasB l u = R at *
  have HA := Lib.hid h
  have hl' : (l.length : Int) ≤ 1000000 := by omega
  clear h
  go_enter Tryz.func52, Tryz.ntmps52
  go_wp2_with fail
  go_loop [8] (fun i => ∃ k : Nat, i = .int .i64 k ∧ k ≤ l.length ∧ Hid (u ∉ l.take k)) (fun i => l.length - (intOf i).toNat)
  case atStart => exact ⟨0, rfl, Nat.zero_le _, Lib.hid (by simp)⟩
  case round =>
    obtain ⟨k, rfl, hk, HT⟩ := hrel
    by_cases hlt : k < l.length
    · obtain ⟨bk, off, rfl, c0⟩ := HA.out.at k hlt
      have k0 : (k : Int) < (l.length : Int) := by omega
      by_cases he : u = l[k]
      · have HX := Lib.hid (HY.out k hlt he)
        have d0 : (u == l[k]) = true := beq_iff_eq.2 he
        clear he
        generalize l[k] = z at *
        go_wp2_with fail
        go_ret
        exact ⟨_, rfl, rfl, .inl ⟨by omega, HX.out⟩⟩
      · have HT2 := Lib.hid (show u ∉ l.take (k + 1) from by
          rw [List.take_succ_eq_append_getElem hlt, List.mem_append, List.mem_singleton]
          exact fun h => h.elim HT.out he)
        have d0 : (u == l[k]) = false := beq_eq_false_iff_ne.2 he
        clear he
        generalize l[k] = z at *
        go_wp2_with fail
        go_round
        case rel => exact ⟨k + 1, by go_num, by omega, HT2⟩
        case measure => simp [intOf]; omega
    · obtain rfl : k = l.length := by omega
      have HX := Lib.hid (HN.out HT.out)
      go_wp2_with fail
      go_ret
      exact ⟨_, rfl, rfl, .inr ⟨by decide, HX.out⟩⟩
theorem lcontains_any (l : List Int) (u : Int) (ao : Option Addr) (cap : Nat) (w : World) (h : NLI w ao cap l) (hl : l.length ≤ 1000000) :
    Calls Tryz.prog 29 #[.slice ao l.length cap, .int .i64 u] w fun e w' => e = .returned (.bool (hasB l u)) ∧ w = w' := by
  have CI := Lib.hid (lindex_any l u ao cap w h hl)
  clear h hl
  cases hb : hasB l u
  · rw [hb] at CI
    clear hb
    go_enter Tryz.func29, Tryz.ntmps29
    go_wp2_with (go_at_call 52; refine CI.out.mono ?_; rintro e w1 ⟨r, rfl, rfl, hr⟩; have hr0 : decide (0 ≤ r) = false := decide_eq_false (Int.not_le.2 (hr.elim (fun h => by cases h.2) (fun h => h.1))); clear hr)
    go_ret
    exact ⟨rfl, rfl⟩
  · rw [hb] at CI
    clear hb
    go_enter Tryz.func29, Tryz.ntmps29
    go_wp2_with (go_at_call 52; refine CI.out.mono ?_; rintro e w1 ⟨r, rfl, rfl, hr⟩; have hr0 : decide (0 ≤ r) = true := decide_eq_true (hr.elim (fun h => h.1) (fun h => by cases h.2)); clear hr)
    go_ret
    exact ⟨rfl, rfl⟩
end Go.Proofs.YtphigibhgldnpaaGreat
