/- What the document's own layout answers, asked for the projection that counts. Conditions: it and the question lie where the call was told. -/
import Derived.Test.YthfbefkddnbbcaaLayD
namespace Go.Proofs.Ythfbefkddnbbcaa
set_option linter.unusedVariables false
open Go.RowKit
set_option maxRecDepth 20000
section
variable {w W W2 : World} {r : Nat} {G H : Nat → Prop} {y : Ly} {a : Ak} {X : Option (Array Value)} {v0 v1 v3 v4 v5 : Value}
theorem s5_on (h : W.cell? ⟨r, 0, none⟩ = some v0 ∧ W.cell? ⟨r, 1, none⟩ = some v1 ∧ W.cell? ⟨r, 3, none⟩ = some v3 ∧ W.cell? ⟨r, 4, none⟩ = some v4 ∧ W.cell? ⟨r, 5, none⟩ = some v5 ∧ LdE w W r G H y a X) (hb : Below W.heap.size W W2) : W2.cell? ⟨r, 0, none⟩ = some v0 ∧ W2.cell? ⟨r, 1, none⟩ = some v1 ∧ W2.cell? ⟨r, 3, none⟩ = some v3 ∧ W2.cell? ⟨r, 4, none⟩ = some v4 ∧ W2.cell? ⟨r, 5, none⟩ = some v5 ∧ LdE w W2 r G H y a X :=
  ⟨cellB hb (block_lt_of_cell h.1) h.1, cellB hb (block_lt_of_cell h.2.1) h.2.1, cellB hb (block_lt_of_cell h.2.2.1) h.2.2.1, cellB hb (block_lt_of_cell h.2.2.2.1) h.2.2.2.1, cellB hb (block_lt_of_cell h.2.2.2.2.1) h.2.2.2.2.1, h.2.2.2.2.2.below hb⟩
theorem s5_ld (h : W.cell? ⟨r, 0, none⟩ = some v0 ∧ W.cell? ⟨r, 1, none⟩ = some v1 ∧ W.cell? ⟨r, 3, none⟩ = some v3 ∧ W.cell? ⟨r, 4, none⟩ = some v4 ∧ W.cell? ⟨r, 5, none⟩ = some v5 ∧ LdE w W r G H y a X) : LdE w W r G H y a X := h.2.2.2.2.2
theorem s5_cl {ao : Option Addr} {n cap : Nat} (h : W.cell? ⟨r, 0, none⟩ = some v0 ∧ W.cell? ⟨r, 1, none⟩ = some (.slice ao n cap) ∧ W.cell? ⟨r, 3, none⟩ = some v3 ∧ W.cell? ⟨r, 4, none⟩ = some v4 ∧ W.cell? ⟨r, 5, none⟩ = some v5 ∧ LdE w W r G H y a X) : CL W ao y.L := h.2.2.2.2.2.rl.cl h.2.1
theorem s5_lt (h : W.cell? ⟨r, 0, none⟩ = some v0 ∧ W.cell? ⟨r, 1, none⟩ = some v1 ∧ W.cell? ⟨r, 3, none⟩ = some v3 ∧ W.cell? ⟨r, 4, none⟩ = some v4 ∧ W.cell? ⟨r, 5, none⟩ = some v5 ∧ LdE w W r G H y a X) : ∀ k, H k → k < W.heap.size := fun k hk => (rl_thing r).lt h.2.2.2.2.2.rl k hk
theorem s5_small (h : W.cell? ⟨r, 0, none⟩ = some v0 ∧ W.cell? ⟨r, 1, none⟩ = some v1 ∧ W.cell? ⟨r, 3, none⟩ = some v3 ∧ W.cell? ⟨r, 4, none⟩ = some v4 ∧ W.cell? ⟨r, 5, none⟩ = some v5 ∧ LdE w W r G H y a X) : w.heap.size + 1 < W.heap.size := h.2.2.2.2.2.small.2.1
theorem s5_eight (h : W.cell? ⟨r, 0, none⟩ = some v0 ∧ W.cell? ⟨r, 1, none⟩ = some v1 ∧ W.cell? ⟨r, 3, none⟩ = some v3 ∧ W.cell? ⟨r, 4, none⟩ = some v4 ∧ W.cell? ⟨r, 5, none⟩ = some v5 ∧ LdE w W r G H y a X) (x0 x1 x2 x3 x4 x5 x6 x7 : Value) : ((((((((W.setCell ⟨w.heap.size + 1, 0, none⟩ x0).setCell ⟨w.heap.size + 1, 1, none⟩ x1).setCell ⟨w.heap.size + 1, 2, none⟩ x2).setCell ⟨w.heap.size + 1, 3, none⟩ x3).setCell ⟨w.heap.size + 1, 4, none⟩ x4).setCell ⟨w.heap.size + 1, 5, none⟩ x5).setCell ⟨w.heap.size + 1, 6, none⟩ x6).setCell ⟨w.heap.size + 1, 7, none⟩ x7).cell? ⟨r, 0, none⟩ = some v0 ∧ ((((((((W.setCell ⟨w.heap.size + 1, 0, none⟩ x0).setCell ⟨w.heap.size + 1, 1, none⟩ x1).setCell ⟨w.heap.size + 1, 2, none⟩ x2).setCell ⟨w.heap.size + 1, 3, none⟩ x3).setCell ⟨w.heap.size + 1, 4, none⟩ x4).setCell ⟨w.heap.size + 1, 5, none⟩ x5).setCell ⟨w.heap.size + 1, 6, none⟩ x6).setCell ⟨w.heap.size + 1, 7, none⟩ x7).cell? ⟨r, 1, none⟩ = some v1 ∧ ((((((((W.setCell ⟨w.heap.size + 1, 0, none⟩ x0).setCell ⟨w.heap.size + 1, 1, none⟩ x1).setCell ⟨w.heap.size + 1, 2, none⟩ x2).setCell ⟨w.heap.size + 1, 3, none⟩ x3).setCell ⟨w.heap.size + 1, 4, none⟩ x4).setCell ⟨w.heap.size + 1, 5, none⟩ x5).setCell ⟨w.heap.size + 1, 6, none⟩ x6).setCell ⟨w.heap.size + 1, 7, none⟩ x7).cell? ⟨r, 3, none⟩ = some v3 ∧ ((((((((W.setCell ⟨w.heap.size + 1, 0, none⟩ x0).setCell ⟨w.heap.size + 1, 1, none⟩ x1).setCell ⟨w.heap.size + 1, 2, none⟩ x2).setCell ⟨w.heap.size + 1, 3, none⟩ x3).setCell ⟨w.heap.size + 1, 4, none⟩ x4).setCell ⟨w.heap.size + 1, 5, none⟩ x5).setCell ⟨w.heap.size + 1, 6, none⟩ x6).setCell ⟨w.heap.size + 1, 7, none⟩ x7).cell? ⟨r, 4, none⟩ = some v4 ∧ ((((((((W.setCell ⟨w.heap.size + 1, 0, none⟩ x0).setCell ⟨w.heap.size + 1, 1, none⟩ x1).setCell ⟨w.heap.size + 1, 2, none⟩ x2).setCell ⟨w.heap.size + 1, 3, none⟩ x3).setCell ⟨w.heap.size + 1, 4, none⟩ x4).setCell ⟨w.heap.size + 1, 5, none⟩ x5).setCell ⟨w.heap.size + 1, 6, none⟩ x6).setCell ⟨w.heap.size + 1, 7, none⟩ x7).cell? ⟨r, 5, none⟩ = some v5 ∧ LdE w ((((((((W.setCell ⟨w.heap.size + 1, 0, none⟩ x0).setCell ⟨w.heap.size + 1, 1, none⟩ x1).setCell ⟨w.heap.size + 1, 2, none⟩ x2).setCell ⟨w.heap.size + 1, 3, none⟩ x3).setCell ⟨w.heap.size + 1, 4, none⟩ x4).setCell ⟨w.heap.size + 1, 5, none⟩ x5).setCell ⟨w.heap.size + 1, 6, none⟩ x6).setCell ⟨w.heap.size + 1, 7, none⟩ x7) r G H y a X := by
  have hne : r ≠ w.heap.size + 1 := by have := h.2.2.2.2.2.small; omega
  have hk := eight_kept W (w.heap.size + 1) x0 x1 x2 x3 x4 x5 x6 x7
  exact ⟨cellK hk hne h.1, cellK hk hne h.2.1, cellK hk hne h.2.2.1, cellK hk hne h.2.2.2.1, cellK hk hne h.2.2.2.2.1, ⟨_, _, _, _, _, _, _, _, h.2.2.2.2.2.eight x0 x1 x2 x3 x4 x5 x6 x7⟩⟩
end
set_option maxHeartbeats 8000000 in
theorem ldo_tell (r : Nat) (G : Nat → Prop) (w : World) (y : Ly) (a : Ak) (h : RL r G w y) (hk : a.kind = 9) :
    Calls Try.prog 14 #[ptrL r, askV a] w fun e w' => Tells (RL r) G w (y.done a) (y.ans a) e w' := by
  have ha : y.ans a = ⟨0, y.n, noL, y.ep, y.L, y.mark, y.size, 0⟩ := if_pos hk
  have hd : y.done a = y := by
    unfold Ly.done
    rw [if_neg (by omega), if_neg (by rintro ⟨h, _⟩; omega)]
  rw [ha, hd]
  clear ha hd
  obtain ⟨k, un, ep, pg, sz, n, s, pe, L, ao, cap⟩ := a
  simp only at hk
  have HS := Lib.hid (show LdW w ((w.alloc (.cells #[.int .i64 k, .int .i64 un, .int .i64 ep, .int .i64 pg, .int .i64 sz, .int .i64 n, .string s, .int .i64 pe, .slice ao L.length cap] 38)).alloc (.cells #[.int .i64 0, .int .i64 0, .string ⟨#[]⟩, .int .i64 0, .slice none 0 0, .int .i64 0, .int .i64 0, .int .i64 0] 41)) r G G y ⟨k, un, ep, pg, sz, n, s, pe, L, ao, cap⟩ zeroA none from ld_start h ⟨k, un, ep, pg, sz, n, s, pe, L, ao, cap⟩)
  have d9 : (k == 9) = true := by rw [hk]; rfl
  clear hk h
  show Calls _ _ #[.pointer (some ⟨r, 0, none⟩), .agg #[.int .i64 k, .int .i64 un, .int .i64 ep, .int .i64 pg, .int .i64 sz, .int .i64 n, .string s, .int .i64 pe, .slice ao L.length cap]] w _
  go_enter Try.func14, Try.ntmps14
  go_wp2_with fail
  generalize hW0 : ((w.alloc (.cells #[.int .i64 k, .int .i64 un, .int .i64 ep, .int .i64 pg, .int .i64 sz, .int .i64 n, .string s, .int .i64 pe, .slice ao L.length cap] 38)).alloc (.cells #[.int .i64 0, .int .i64 0, .string ⟨#[]⟩, .int .i64 0, .slice none 0 0, .int .i64 0, .int .i64 0, .int .i64 0] 41)) = W0 at *
  clear hW0
  obtain ⟨l1, l2, l3⟩ := HS.out.small
  obtain ⟨lo, lc, bo, cb, h1, h2, h3, h4⟩ := HS.out.rl.open
  obtain ⟨⟨c0, c1, c2, c3, c4, c5⟩, _⟩ := six_cells h1
  have HM := Lib.hid (show y.L.length ≤ 1000 ∧ ∀ c ∈ y.L, c.length ≤ 1000 from ⟨by have := (good_small h4).1; omega, fun c hc => by have := (good_small h4).2 c hc; omega⟩)
  have C0 := Lib.hid (show W0.drew.cell? ⟨r, 0, none⟩ = some (.int .i64 y.ep) ∧ W0.drew.cell? ⟨r, 1, none⟩ = some (.slice lo y.L.length lc) ∧ W0.drew.cell? ⟨r, 3, none⟩ = some (.int .i64 y.mark) ∧ W0.drew.cell? ⟨r, 4, none⟩ = some (.int .i64 y.size) ∧ W0.drew.cell? ⟨r, 5, none⟩ = some (.int .i64 y.n) ∧ LdE w W0.drew r G G y ⟨k, un, ep, pg, sz, n, s, pe, L, ao, cap⟩ none from ⟨c0, c1, c3, c4, c5, HS.out.drew.any⟩)
  clear c0 c1 c2 c3 c4 c5 h1 h2 h3 h4 HS l1 l2 l3
  go_region_held3 (fun W => W.cell? ⟨r, 0, none⟩ = some (.int .i64 y.ep) ∧ W.cell? ⟨r, 1, none⟩ = some (.slice lo y.L.length lc) ∧ W.cell? ⟨r, 3, none⟩ = some (.int .i64 y.mark) ∧ W.cell? ⟨r, 4, none⟩ = some (.int .i64 y.size) ∧ W.cell? ⟨r, 5, none⟩ = some (.int .i64 y.n) ∧ LdE w W r G G y ⟨k, un, ep, pg, sz, n, s, pe, L, ao, cap⟩ none)
    (first | with_reducible exact C0.out | with_reducible exact HS2.out | with_reducible exact s5_eight HS2.out _ _ _ _ _ _ _ _)
    (first | (go_at_call 10; refine (keepCopyO_any y.ep lo lc y.L _ (s5_cl (by assumption)) HM.out).mono ?_; rintro e w2 ⟨v, rfl, hO, hb2⟩; have HO := Lib.hid hO; obtain ⟨go, gc, hv, _⟩ := hO.form; subst hv; have HLT := Lib.hid (s5_lt (by assumption)); have HSM := Lib.hid (s5_small (by assumption)); have HS2 := Lib.hid (s5_on (by assumption) hb2); obtain ⟨nl1, nl2, nl3⟩ := (s5_ld HS2.out).small; obtain ⟨u0, u1, u2, u3, u4, u5, u6, u7, ⟨nz0, nz1, nz2, nz3, nz4, nz5, nz6, nz7⟩, nfz0, nfz1, nfz2, nfz3, nfz4, nfz5, nfz6, nfz7⟩ := (s5_ld HS2.out).cells; clear hO))
  all_goals
    go_wp2_with fail
    have H3 := (s5_ld HS2.out).eight (.int .i64 0) (.int .i64 y.n) (.string ⟨#[]⟩) (.int .i64 y.ep) (.slice go y.L.length gc) (.int .i64 y.mark) (.int .i64 y.size) (.int .i64 0)
    exact ans_ret (x := ⟨0, y.n, noL, y.ep, y.L, y.mark, y.size, 0⟩) (ao := go) (cap := gc) rfl H3.zero rfl rfl (H3.tells (x := ⟨0, y.n, noL, y.ep, y.L, y.mark, y.size, 0⟩) (Nat.le_of_lt (Nat.lt_of_succ_lt HSM.out)) HLT.out (CG.behind HO.out (eight_kept _ _ _ _ _ _ _ _ _ _) (fun k hk => by have := HSM.out; omega) (eight_size _ _ _ _ _ _ _ _ _ _)))
end Go.Proofs.Ythfbefkddnbbcaa
