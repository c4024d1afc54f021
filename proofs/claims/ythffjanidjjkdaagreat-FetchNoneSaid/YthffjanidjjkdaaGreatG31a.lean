/- What the program's fetch makes of what a unit answers. Conditions: it lies where the call was told. (Written by gen/genfmp.py.) The program's hand keeps all that the laws of a hand ask: the nodes are the program's own. No conditions. The chains that the laws of a fetch lay out: three units, two, one; two things in a row: a hand, and memory that is none of its own. Conditions: as each statement says. -/
import Derived.Test.YthffjanidjjkdaaGreatG30a
import Derived.Test.YthffjanidjjkdaaGreatG28b
import Derived.Test.YthffjanidjjkdaaGreatG28a
set_option linter.unusedVariables false
namespace Go.Proofs.YthffjanidjjkdaaGreat
set_option linter.unusedVariables false
open Go.RowKit
set_option maxRecDepth 20000
set_option maxHeartbeats 2000000 in
theorem fs_trim (b : Nat) (G : Nat → Prop) (w : World) (q : Qf) (xc xn : Int) (xd : ByteArray) (xe : Int) (xL : List (List Int)) (xm xs xy : Int) (xo : Option Addr) (xp : Nat) (h : FQ b G w q)  :
    Calls Tryz.prog 43 #[ptrP b, .agg #[.int .i64 43, .int .i64 xn, .string xd, .int .i64 xe, .slice xo xL.length xp, .int .i64 xm, .int .i64 xs, .int .i64 xy]] w fun e w' => e = .returned (.tuple #[]) ∧ Leaves (FQ b) G w w' (q.ends 3 noS 0) := by
  obtain ⟨HG, HB, HX, HA, ⟨x0, x1, x2, x3, x4, x5, x6, x7⟩, ao, cap, ⟨c0, c1, c2, c3, c4, c5, c6, c7, c8, c9⟩, ⟨f0, f1, f2, f3, f4, f5, f6, f7, f8, f9⟩, hb, HC1, H1, H3⟩ := fns_start h 43 xn xd xe xo xL.length xp xm xs xy rfl
  clear h
  unfold ptrP at *
  go_enter Tryz.func43, Tryz.ntmps43
  go_wp2_with fail
  generalize w.alloc _ = w1 at *
  refine wp_scope_one 0 rfl ?_
  generalize hQ : Exit.jump _ _ _ = QJ
  go_wp2_with fail
  go_step3
  show QJ (.goto 0) _ _
  rw [← hQ]
  refine jump_one ?_
  go_wp2_with (go_at_call 48; refine (fp_end b _ _ q 3 ⟨#[]⟩ 0 HA.out).mono ?_; rintro e w9 ⟨rfl, hl⟩; have HL9 := Lib.hid hl; clear hl)
  rw [Exit.noGoto_ret]
  exact bodyPost_ret (results_none rfl _ _ _) rfl ⟨rfl, HL9.out.ahead HG.out HB.out⟩
set_option maxHeartbeats 2000000 in
theorem fs_over_r (b : Nat) (G : Nat → Prop) (w : World) (q : Qf) (xc xn : Int) (xd : ByteArray) (xe : Int) (xL : List (List Int)) (xm xs xy : Int) (xo : Option Addr) (xp : Nat) (h : FQ b G w q) (ha : q.at_ = 2 ∨ q.at_ = 3) (n43 : ¬ xc = 43) (n0 : ¬ xc = 0) (n46 : ¬ xc = 46) (n42 : ¬ xc = 42) :
    Calls Tryz.prog 43 #[ptrP b, .agg #[.int .i64 xc, .int .i64 xn, .string xd, .int .i64 xe, .slice xo xL.length xp, .int .i64 xm, .int .i64 xs, .int .i64 xy]] w fun e w' => e = .returned (.tuple #[]) ∧ Leaves (FQ b) G w w' (q.ends 0 noS xc) := by
  obtain ⟨HG, HB, HX, HA, ⟨x0, x1, x2, x3, x4, x5, x6, x7⟩, ao, cap, ⟨c0, c1, c2, c3, c4, c5, c6, c7, c8, c9⟩, ⟨f0, f1, f2, f3, f4, f5, f6, f7, f8, f9⟩, hb, HC1, H1, H3⟩ := fns_start h xc xn xd xe xo xL.length xp xm xs xy rfl
  have e43 : (xc == 43) = false := by simpa using n43
  have e0 : (xc == 0) = false := by simpa using n0
  have e46 : (xc == 46) = false := by simpa using n46
  have e42 : (xc == 42) = false := by simpa using n42
  rcases ha with ha | ha
  all_goals
    rw [ha] at c4
    clear h
    unfold ptrP at *
    go_enter Tryz.func43, Tryz.ntmps43
    go_wp2_with fail
    generalize w.alloc _ = w1 at *
    refine wp_scope_straight ?_
    go_wp2_with (go_at_call 48; refine (fp_end b _ _ q 0 ⟨#[]⟩ xc HA.out).mono ?_; rintro e w9 ⟨rfl, hl⟩; have HL9 := Lib.hid hl; clear hl)
    rw [Exit.noGoto_ret]
    exact bodyPost_ret (results_none rfl _ _ _) rfl ⟨rfl, HL9.out.ahead HG.out HB.out⟩
set_option maxHeartbeats 2000000 in
theorem fs_over_w (b : Nat) (G : Nat → Prop) (w : World) (q : Qf) (xc xn : Int) (xd : ByteArray) (xe : Int) (xL : List (List Int)) (xm xs xy : Int) (xo : Option Addr) (xp : Nat) (h : FQ b G w q) (ha : q.at_ = 4 ∨ q.at_ = 5) (n43 : ¬ xc = 43) (n0 : ¬ xc = 0) (n41 : ¬ xc = 41) :
    Calls Tryz.prog 43 #[ptrP b, .agg #[.int .i64 xc, .int .i64 xn, .string xd, .int .i64 xe, .slice xo xL.length xp, .int .i64 xm, .int .i64 xs, .int .i64 xy]] w fun e w' => e = .returned (.tuple #[]) ∧ Leaves (FQ b) G w w' (q.ends 0 noS xc) := by
  obtain ⟨HG, HB, HX, HA, ⟨x0, x1, x2, x3, x4, x5, x6, x7⟩, ao, cap, ⟨c0, c1, c2, c3, c4, c5, c6, c7, c8, c9⟩, ⟨f0, f1, f2, f3, f4, f5, f6, f7, f8, f9⟩, hb, HC1, H1, H3⟩ := fns_start h xc xn xd xe xo xL.length xp xm xs xy rfl
  have e43 : (xc == 43) = false := by simpa using n43
  have e0 : (xc == 0) = false := by simpa using n0
  have e41 : (xc == 41) = false := by simpa using n41
  rcases ha with ha | ha
  all_goals
    rw [ha] at c4
    clear h
    unfold ptrP at *
    go_enter Tryz.func43, Tryz.ntmps43
    go_wp2_with fail
    generalize w.alloc _ = w1 at *
    refine wp_scope_straight ?_
    go_wp2_with (go_at_call 48; refine (fp_end b _ _ q 0 ⟨#[]⟩ xc HA.out).mono ?_; rintro e w9 ⟨rfl, hl⟩; have HL9 := Lib.hid hl; clear hl)
    rw [Exit.noGoto_ret]
    exact bodyPost_ret (results_none rfl _ _ _) rfl ⟨rfl, HL9.out.ahead HG.out HB.out⟩
set_option maxHeartbeats 2000000 in
theorem fs_first_r (b : Nat) (G : Nat → Prop) (w : World) (q : Qf) (xc xn : Int) (xd : ByteArray) (xe : Int) (xL : List (List Int)) (xm xs xy : Int) (xo : Option Addr) (xp : Nat) (h : FQ b G w q) (ha : q.at_ = 2 ∨ q.at_ = 3) (hu : 0 < q.unit) :
    Calls Tryz.prog 43 #[ptrP b, .agg #[.int .i64 42, .int .i64 xn, .string xd, .int .i64 xe, .slice xo xL.length xp, .int .i64 xm, .int .i64 xs, .int .i64 xy]] w fun e w' => e = .returned (.tuple #[]) ∧ Leaves (FQ b) G w w' (q.first) := by
  obtain ⟨HG, HB, HX, HA, ⟨x0, x1, x2, x3, x4, x5, x6, x7⟩, ao, cap, ⟨c0, c1, c2, c3, c4, c5, c6, c7, c8, c9⟩, ⟨f0, f1, f2, f3, f4, f5, f6, f7, f8, f9⟩, hb, HC1, H1, H3⟩ := fns_start h 42 xn xd xe xo xL.length xp xm xs xy rfl
  rcases ha with ha | ha
  all_goals
    rw [ha] at c4
    clear h
    unfold ptrP at *
    go_enter Tryz.func43, Tryz.ntmps43
    go_wp2_with fail
    generalize w.alloc _ = w1 at *
    refine wp_scope_one 3 rfl ?_
    generalize hQ : Exit.jump _ _ _ = QJ
    go_wp2_with fail
    go_step3
    show QJ (.goto 3) _ _
    rw [← hQ]
    refine jump_one ?_
    go_wp2_with fail
    rw [Exit.noGoto_ret]
    exact bodyPost_ret (results_none rfl _ _ _) rfl ⟨rfl, (H3.out _ q.first (((Kept.refl _ w1).setCell (p := ⟨b, 4, none⟩) (fun h => h rfl) _).setCell (p := ⟨b, 6, none⟩) (fun h => h rfl) _) rfl (tset6 (tset4 H1.out _) _)).ahead HG.out HB.out⟩
set_option maxHeartbeats 2000000 in
theorem fs_first_j (b : Nat) (G : Nat → Prop) (w : World) (q : Qf) (xc xn : Int) (xd : ByteArray) (xe : Int) (xL : List (List Int)) (xm xs xy : Int) (xo : Option Addr) (xp : Nat) (h : FQ b G w q) (ha : q.at_ = 4) :
    Calls Tryz.prog 43 #[ptrP b, .agg #[.int .i64 41, .int .i64 xn, .string xd, .int .i64 xe, .slice xo xL.length xp, .int .i64 xm, .int .i64 xs, .int .i64 xy]] w fun e w' => e = .returned (.tuple #[]) ∧ Leaves (FQ b) G w w' (q.first) := by
  obtain ⟨HG, HB, HX, HA, ⟨x0, x1, x2, x3, x4, x5, x6, x7⟩, ao, cap, ⟨c0, c1, c2, c3, c4, c5, c6, c7, c8, c9⟩, ⟨f0, f1, f2, f3, f4, f5, f6, f7, f8, f9⟩, hb, HC1, H1, H3⟩ := fns_start h 41 xn xd xe xo xL.length xp xm xs xy rfl
  rw [ha] at c4
  clear h
  unfold ptrP at *
  go_enter Tryz.func43, Tryz.ntmps43
  go_wp2_with fail
  generalize w.alloc _ = w1 at *
  refine wp_scope_one 3 rfl ?_
  generalize hQ : Exit.jump _ _ _ = QJ
  go_wp2_with fail
  go_step3
  show QJ (.goto 3) _ _
  rw [← hQ]
  refine jump_one ?_
  go_wp2_with fail
  rw [Exit.noGoto_ret]
  exact bodyPost_ret (results_none rfl _ _ _) rfl ⟨rfl, (H3.out _ q.first (((Kept.refl _ w1).setCell (p := ⟨b, 4, none⟩) (fun h => h rfl) _).setCell (p := ⟨b, 6, none⟩) (fun h => h rfl) _) rfl (tset6 (tset4 H1.out _) _)).ahead HG.out HB.out⟩
set_option maxHeartbeats 2000000 in
theorem fs_unwr_t (b : Nat) (G : Nat → Prop) (w : World) (q : Qf) (xc xn : Int) (xd : ByteArray) (xe : Int) (xL : List (List Int)) (xm xs xy : Int) (xo : Option Addr) (xp : Nat) (h : FQ b G w q) (ha : q.at_ = 2 ∨ q.at_ = 3) (hu : q.unit = 0) (hl : q.fill = true) :
    Calls Tryz.prog 43 #[ptrP b, .agg #[.int .i64 42, .int .i64 xn, .string xd, .int .i64 xe, .slice xo xL.length xp, .int .i64 xm, .int .i64 xs, .int .i64 xy]] w fun e w' => e = .returned (.tuple #[]) ∧ Leaves (FQ b) G w w' (q.to 4) := by
  obtain ⟨HG, HB, HX, HA, ⟨x0, x1, x2, x3, x4, x5, x6, x7⟩, ao, cap, ⟨c0, c1, c2, c3, c4, c5, c6, c7, c8, c9⟩, ⟨f0, f1, f2, f3, f4, f5, f6, f7, f8, f9⟩, hb, HC1, H1, H3⟩ := fns_start h 42 xn xd xe xo xL.length xp xm xs xy rfl
  rw [hu] at c6
  rw [hl] at c3
  rcases ha with ha | ha
  all_goals
    rw [ha] at c4
    clear h
    unfold ptrP at *
    go_enter Tryz.func43, Tryz.ntmps43
    go_wp2_with fail
    generalize w.alloc _ = w1 at *
    refine wp_scope_one 4 rfl ?_
    generalize hQ : Exit.jump _ _ _ = QJ
    go_wp2_with fail
    go_step3
    show QJ (.goto 4) _ _
    rw [← hQ]
    refine jump_one ?_
    go_wp2_with fail
    rw [Exit.noGoto_ret]
    exact bodyPost_ret (results_none rfl _ _ _) rfl ⟨rfl, (H3.out _ (q.to 4) ((Kept.refl _ w1).setCell (p := ⟨b, 4, none⟩) (fun h => h rfl) _) rfl (tset4 H1.out _)).ahead HG.out HB.out⟩
set_option maxHeartbeats 2000000 in
theorem fs_unwr_f (b : Nat) (G : Nat → Prop) (w : World) (q : Qf) (xc xn : Int) (xd : ByteArray) (xe : Int) (xL : List (List Int)) (xm xs xy : Int) (xo : Option Addr) (xp : Nat) (h : FQ b G w q) (ha : q.at_ = 2 ∨ q.at_ = 3) (hu : q.unit = 0) (hl : q.fill = false) :
    Calls Tryz.prog 43 #[ptrP b, .agg #[.int .i64 42, .int .i64 xn, .string xd, .int .i64 xe, .slice xo xL.length xp, .int .i64 xm, .int .i64 xs, .int .i64 xy]] w fun e w' => e = .returned (.tuple #[]) ∧ Leaves (FQ b) G w w' (q.ends 0 noS 0) := by
  obtain ⟨HG, HB, HX, HA, ⟨x0, x1, x2, x3, x4, x5, x6, x7⟩, ao, cap, ⟨c0, c1, c2, c3, c4, c5, c6, c7, c8, c9⟩, ⟨f0, f1, f2, f3, f4, f5, f6, f7, f8, f9⟩, hb, HC1, H1, H3⟩ := fns_start h 42 xn xd xe xo xL.length xp xm xs xy rfl
  rw [hu] at c6
  rw [hl] at c3
  rcases ha with ha | ha
  all_goals
    rw [ha] at c4
    clear h
    unfold ptrP at *
    go_enter Tryz.func43, Tryz.ntmps43
    go_wp2_with fail
    generalize w.alloc _ = w1 at *
    refine wp_scope_one 4 rfl ?_
    generalize hQ : Exit.jump _ _ _ = QJ
    go_wp2_with fail
    go_step3
    show QJ (.goto 4) _ _
    rw [← hQ]
    refine jump_one ?_
    go_wp2_with (go_at_call 48; refine (fp_end b _ _ q 0 ⟨#[]⟩ 0 HA.out).mono ?_; rintro e w9 ⟨rfl, hl⟩; have HL9 := Lib.hid hl; clear hl)
    rw [Exit.noGoto_ret]
    exact bodyPost_ret (results_none rfl _ _ _) rfl ⟨rfl, HL9.out.ahead HG.out HB.out⟩
end Go.Proofs.YthffjanidjjkdaaGreat
namespace Go.Proofs.YthffjanidjjkdaaGreat
set_option linter.unusedVariables false
open Go.RowKit
set_option maxRecDepth 20000
section
variable {UG : Nat → Nat → (Nat → Prop) → World → Us → Prop} {OG : Nat → (Nat → Prop) → World → Od → Prop} {LG : Nat → (Nat → Prop) → World → Ly → Prop} {NG : Nat → (Nat → Prop) → World → Nd → Prop}
theorem handSays_of (S : RpcSays UG OG LG NG) : HandSays UG OG LG NG (HM NG) where
  rpc := S
  thing := fun b nb => hmz_thing S.thing [] b nb
  nodes_in := by
    rintro b nb G w h ⟨_, v, l, F, C, _, _, _, h4, _, _, h7, _⟩
    exact ⟨F, h4, fun k hk => (h7 k hk).1⟩
  few := fun h => h.1
  new := fun nb F w n hF => hnew_any NG S.thing nb F w n hF
  new_no := fun w => (hnew_no w).mono fun e w' ⟨b, he, hn, hb⟩ => ⟨some ⟨b, 0, none⟩, he, hb, fun w2 hb2 =>
    ⟨fun a fate _ _ => ask_none _ a fate w2 (fun W hW => nodes_noh (below_heap hW (below_heap hb2 hn))), fun k _ => do_noh (below_heap hb2 hn) k⟩⟩
  ask := fun b nb G w h a fate hh ok hL hs hu hf hA => by
    by_cases h0 : fate = 0
    · subst h0
      exact hask_heard S b nb G w h a hh ok hL hs hu hA
    by_cases h2 : fate = 2
    · subst h2
      exact hask_deaf S b nb G w h a hh ok hL hs hu hA
    by_cases h3 : fate = 3
    · subst h3
      by_cases hl : h.held.length < 64
      · have e1 : h.heard a 3 = zeroX := if_neg h0
        have e2 : h.asked a.plain 3 = ⟨h.n, h.held ++ [a.plain]⟩ := by
          unfold Hd.asked
          rw [if_neg (by omega), if_pos ⟨rfl, hl⟩]
        rw [e1, e2]
        exact hask_held S b nb G w h a hh ok hL hs hA hl
      · have e1 : h.heard a 3 = zeroX := if_neg h0
        have e2 : h.asked a.plain 3 = h := by
          unfold Hd.asked
          rw [if_neg (by omega), if_neg (fun h5 => hl h5.2)]
        rw [e1, e2]
        exact hask_full S b nb G w h a hh hl
    · have e1 : h.heard a fate = zeroX := if_neg h0
      have e2 : h.asked a.plain fate = h := by
        unfold Hd.asked
        rw [if_neg (by omega), if_neg (fun h5 => h3 h5.1)]
      rw [e1, e2, decide_eq_false h0]
      exact hask_lost S b nb G w h a hh fate h0 h2 h3
  does := fun b nb G w h k hh hu hk => by
    by_cases h1 : 0 ≤ k ∧ k < h.held.length
    · obtain ⟨n, rfl⟩ := Int.eq_ofNat_of_zero_le h1.1
      have hn : n < h.held.length := by omega
      refine (do_yes S b nb G w h n hh hn hu).mono ?_
      rintro e w' ⟨he, hl⟩
      unfold Hd.does Hd.has
      rw [dif_pos h1]
      exact ⟨by rw [he, decide_eq_true h1.1, decide_eq_true h1.2]; rfl, hl⟩
    · refine (do_no b nb G w h k hh h1).mono ?_
      rintro e w' ⟨he, hb⟩
      unfold Hd.does Hd.has
      rw [dif_neg h1]
      refine ⟨?_, Leaves.same (hmz_thing S.thing [] b nb) hh hb⟩
      rw [he]
      by_cases h2 : 0 ≤ k
      · rw [decide_eq_true h2, decide_eq_false (fun h3 => h1 ⟨h2, h3⟩)]; rfl
      · rw [decide_eq_false h2]; rfl
  nodes := fun b nb G w h hh => (hnodes_any b nb G w h hh).mono fun e w' ⟨he, hw⟩ => ⟨he, hw ▸ Below.refl _ _⟩
  nil_ask := fun a fate w _ _ => ask_none none a fate w (fun W _ => hnodes_nil W)
  nil_do := fun k w _ => do_nil_hand k w
  nil_nodes := fun w => (hnodes_nil w).mono fun e w' ⟨he, hw⟩ => ⟨he, hw ▸ Below.refl _ _⟩
end
theorem handSays : HandSays UM OM LM (RM UM OM LM) (HM (RM UM OM LM)) := handSays_of rpcSays
end Go.Proofs.YthffjanidjjkdaaGreat
namespace Go.Proofs.YthffjanidjjkdaaGreat
set_option linter.unusedVariables false
open Go.RowKit
set_option maxRecDepth 20000
theorem new_at {w : World} {n k : Nat} (hn : w.heap.size = n) (x : Obj) (h : n = k) : (w.alloc x).heap[k]? = some x := by
  subst h
  rw [← hn]
  exact heap_alloc_new w x
theorem new_past {w : World} {k : Nat} {o : Obj} (h : w.heap[k]? = some o) (x : Obj) : (w.alloc x).heap[k]? = some o := by
  rw [(below_new w x).block k (by
    obtain ⟨h1, _⟩ := Array.getElem?_eq_some_iff.1 h
    exact h1)]
  exact h
theorem size_new (w : World) (x : Obj) : (w.alloc x).heap.size = w.heap.size + 1 := by simp
theorem five_new (w : World) (x0 x1 x2 x3 x4 : Obj) : let W := ((((w.alloc x0).alloc x1).alloc x2).alloc x3).alloc x4
    W.heap[w.heap.size]? = some x0 ∧ W.heap[w.heap.size + 1]? = some x1 ∧ W.heap[w.heap.size + 1 + 1]? = some x2 ∧ W.heap[w.heap.size + 1 + 1 + 1]? = some x3 ∧ W.heap[w.heap.size + 1 + 1 + 1 + 1]? = some x4 ∧ W.heap.size = w.heap.size + 1 + 1 + 1 + 1 + 1 ∧ Below w.heap.size w W := by
  intro W
  refine ⟨?_, ?_, ?_, ?_, ?_, ?_, ?_⟩
  · exact new_past (new_past (new_past (new_past (heap_alloc_new w x0) x1) x2) x3) x4
  · exact new_past (new_past (new_past (new_at (n := w.heap.size + 1) (size_new _ _) x1 rfl) x2) x3) x4
  · exact new_past (new_past (new_at (n := w.heap.size + 1 + 1) (by rw [size_new, size_new]) x2 rfl) x3) x4
  · exact new_past (new_at (n := w.heap.size + 1 + 1 + 1) (by rw [size_new, size_new, size_new]) x3 rfl) x4
  · exact new_at (n := w.heap.size + 1 + 1 + 1 + 1) (by rw [size_new, size_new, size_new, size_new]) x4 rfl
  · show (((((w.alloc x0).alloc x1).alloc x2).alloc x3).alloc x4).heap.size = _
    rw [size_new, size_new, size_new, size_new, size_new]
  · exact (((((Below.refl _ w).alloc (Nat.le_refl _) _).alloc (by simp) _).alloc (by simp; omega) _).alloc (by simp; omega) _).alloc (by simp; omega) _
theorem three_cg {W : World} {B b0 b1 b2 br : Nat} (hB : B ≤ b0 ∧ B ≤ b1 ∧ B ≤ b2 ∧ B ≤ br) (h0 : W.heap[b0]? = some (.cells #[.int .i64 0, .int .i64 1, .int .i64 2] 3 (0, 0))) (h1 : W.heap[b1]? = some (.cells #[.int .i64 3, .int .i64 4] 3 (0, 0))) (h2 : W.heap[b2]? = some (.cells #[.int .i64 5] 3 (0, 0)))
    (hr : W.heap[br]? = some (.cells #[.slice (some ⟨b0, 0, none⟩) 3 3, .slice (some ⟨b1, 0, none⟩) 2 2, .slice (some ⟨b2, 0, none⟩) 1 1] 36 (0, 0))) : CG (fun k => B ≤ k ∧ k < W.heap.size) W (.slice (some ⟨br, 0, none⟩) 3 3) thL := by
  have i64s : ∀ l : List Int, (∀ v ∈ l, 0 ≤ v ∧ v ≤ 100) → ∀ v ∈ l, i64w v := fun l h v hv => i64w_small (by have := h v hv; omega)
  refine ⟨some ⟨br, 0, none⟩, 3, rfl, fun e => (by cases e), Nat.le_refl _, fun a e => ?_, fun i hi => ?_⟩
  · cases e
    exact ⟨⟨hB.2.2.2, lt_of_block hr⟩, lt_of_block hr⟩
  · match i, hi with
    | 0, _ =>
      refine ⟨br, 0, some ⟨b0, 0, none⟩, 3, rfl, cell_of hr 0, lit_nums (l := [0, 1, 2]) h0 (i64s _ (by simp)), fun a e => ?_⟩
      cases e
      exact ⟨⟨hB.1, lt_of_block h0⟩, lt_of_block h0⟩
    | 1, _ =>
      refine ⟨br, 0, some ⟨b1, 0, none⟩, 2, rfl, cell_of hr 1, lit_nums (l := [3, 4]) h1 (i64s _ (by simp)), fun a e => ?_⟩
      cases e
      exact ⟨⟨hB.2.1, lt_of_block h1⟩, lt_of_block h1⟩
    | 2, _ =>
      refine ⟨br, 0, some ⟨b2, 0, none⟩, 1, rfl, cell_of hr 2, lit_nums (l := [5]) h2 (i64s _ (by simp)), fun a e => ?_⟩
      cases e
      exact ⟨⟨hB.2.2.1, lt_of_block h2⟩, lt_of_block h2⟩
theorem cg_cl {F : Nat → Prop} {W : World} {ao : Option Addr} {n cap : Nat} {L : List (List Int)} (h : CG F W (.slice ao n cap) L) : CL W ao L := by
  obtain ⟨a2, c2, hv, h2, _⟩ := h.cl
  rw [(Value.slice.inj hv).1]
  exact h2
/-- what three tells: chains in new memory -/
theorem three16_any (w : World) : Calls Tryz.prog 8 #[] w fun e w' => ∃ ao : Option Addr, e = .returned (.agg #[.int .i64 0, .slice ao 3 3]) ∧ CG (fun k => w.heap.size ≤ k ∧ k < w'.heap.size) w' (.slice ao 3 3) thL ∧ Below w.heap.size w w' := by
  obtain ⟨h0, h1, h2, h3, h4, hs, hb⟩ := five_new w (.cells #[.int .i64 0, .slice (some ⟨w.heap.size + 1 + 1 + 1 + 1, 0, none⟩) 3 3] 30) (.cells #[.int .i64 0, .int .i64 1, .int .i64 2] 3) (.cells #[.int .i64 3, .int .i64 4] 3) (.cells #[.int .i64 5] 3) (.cells #[.slice (some ⟨w.heap.size + 1, 0, none⟩) 3 3, .slice (some ⟨w.heap.size + 1 + 1, 0, none⟩) 2 2, .slice (some ⟨w.heap.size + 1 + 1 + 1, 0, none⟩) 1 1] 36)
  have HC := Lib.hid (three_cg (B := w.heap.size) ⟨by omega, by omega, by omega, by omega⟩ h1 h2 h3 h4)
  have HB := Lib.hid hb
  have HP := Lib.hid h0
  clear h0 h1 h2 h3 h4 hs hb
  go_enter Tryz.func8, Tryz.ntmps8
  go_wp2_with fail
  exact proj_ret rfl HP.out rfl rfl ⟨_, rfl, HC.out, HB.out⟩
end Go.Proofs.YthffjanidjjkdaaGreat
