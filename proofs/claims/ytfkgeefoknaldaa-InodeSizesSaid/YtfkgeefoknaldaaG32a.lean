/- Stage 20: what the program's own good and isRoot of an inode return where it is good. Conditions: the parts lie where the call was told. Stage 20: the document's Link. No conditions. -/
import Derived.Test.YtfkgeefoknaldaaG31a
import Derived.Lib.QuietBelow
import Derived.Test.YtfkgeefoknaldaaG26a
set_option linter.unusedVariables false
namespace Go.Proofs.Ytfkgeefoknaldaa
open Go.RowKit Go.Maps Go.Sort
set_option linter.unusedVariables false
set_option maxRecDepth 20000
theorem Calls.toBelow {P : Program} {f : FuncId} {args : Array Value} {w : World} {R : Ending → Prop} (h : Calls P f args w fun e w' => R e ∧ w = w') : Calls P f args w fun e w' => R e ∧ Below w.heap.size w w' :=
  h.mono (fun e w' ⟨h1, h2⟩ => ⟨h1, h2 ▸ Below.refl _ _⟩)
set_option maxHeartbeats 400000 in
theorem proot_any (y : Iv) (h1 : y.x.ino = 1) (h2 : y.x.kind = 1) (h3 : y.x.links = 1) (w : World) : Calls Try.prog 57 #[.agg #[.int .i64 y.x.ino, .int .i64 y.x.kind, .int .i64 y.x.links, .int .i64 y.x.opens, .int .i64 y.x.size, .slice y.ao y.x.parts.length y.cap]] w fun e w' => e = .returned (.bool true) ∧ Below w.heap.size w w' := by
  have HB := Lib.hid (blwA w (inoO y))
  have e1 : (y.x.ino == 1) = true := beq_iff_eq.2 h1
  have e2 : (y.x.kind == 1) = true := beq_iff_eq.2 h2
  have e3 : (y.x.links == 1) = true := beq_iff_eq.2 h3
  clear h1 h2 h3
  unfold inoO at HB
  generalize y.x.ino = a at *
  generalize y.x.kind = b at *
  generalize y.x.links = c at *
  go_enter Try.func57, Try.ntmps57
  go_wp2_with fail
  go_ret
  exact ⟨rfl, HB.out⟩
set_option maxHeartbeats 400000 in
theorem pigood_dir (y : Iv) (hl : 0 ≤ y.x.links ∧ y.x.links ≤ 8) (hh : heldB y.x = true) (hk : y.x.kind = 1) (ho : y.x.opens = 0) (hs : y.x.size = 0) (hp : y.x.parts = []) (w : World) :
    Calls Try.prog 58 #[.agg #[.int .i64 y.x.ino, .int .i64 y.x.kind, .int .i64 y.x.links, .int .i64 y.x.opens, .int .i64 y.x.size, .slice y.ao y.x.parts.length y.cap]] w fun e w' => e = .returned (.bool true) ∧ Below w.heap.size w w' := by
  have CW1 := Lib.hid (fun W => pwithin_yes hl W)
  have CW2 := Lib.hid (fun W => pwithin_yes (show 0 ≤ y.x.opens ∧ y.x.opens ≤ 128 from by omega) W)
  have CH := Lib.hid (pheld_any y (w.alloc (inoO y)))
  rw [hh] at CH
  have HB0 := Lib.hid (blwA w (inoO y))
  have HX := Lib.hid (fun (W : World) (hb : Below (w.alloc (inoO y)).heap.size (w.alloc (inoO y)) W) => ino_cells (below_heap hb (heap_alloc_new w (inoO y))))
  have e1 : (y.x.kind == 1) = true := beq_iff_eq.2 hk
  have e2 : (y.x.opens == 0) = true := beq_iff_eq.2 ho
  have e3 : (y.x.size == 0) = true := beq_iff_eq.2 hs
  have e5 : y.x.parts.length = 0 := by rw [hp]; rfl
  clear hl hh hk ho hs hp
  unfold inoO at CH HB0 HX
  rw [e5] at CH HB0 HX ⊢
  clear e5
  go_enter Try.func58, Try.ntmps58
  go_wp2_with (first
    | (go_at_call 33; with_reducible refine (CW1.out _).mono ?_; rintro e w' ⟨rfl, rfl⟩)
    | (go_at_call 33; with_reducible refine (CW2.out _).mono ?_; rintro e w' ⟨rfl, rfl⟩)
    | (go_at_call 51; refine CH.out.mono ?_; rintro e w1 ⟨rfl, hb1⟩; have HB1 := Lib.hid (blwO hb1 HB0.out); obtain ⟨d0, d1, d2, d3, d4, d5⟩ := HX.out _ hb1; clear hb1))
  go_ret
  exact ⟨rfl, HB1.out⟩
set_option maxHeartbeats 400000 in
theorem pigood_file (y : Iv) (hl : 0 ≤ y.x.links ∧ y.x.links ≤ 8) (ho : 0 ≤ y.x.opens ∧ y.x.opens ≤ 128) (hh : heldB y.x = true) (hk : y.x.kind = 2) (hs : 0 ≤ y.x.size ∧ y.x.size ≤ 8192) (hg : goodE y.x.parts = true) (he : endE y.x.parts ≤ y.x.size) (w : World) (hp : PaL w y.ao y.x.parts) :
    Calls Try.prog 58 #[.agg #[.int .i64 y.x.ino, .int .i64 y.x.kind, .int .i64 y.x.links, .int .i64 y.x.opens, .int .i64 y.x.size, .slice y.ao y.x.parts.length y.cap]] w fun e w' => e = .returned (.bool true) ∧ Below w.heap.size w w' := by
  have CW1 := Lib.hid (fun W => pwithin_yes hl W)
  have CW2 := Lib.hid (fun W => pwithin_yes ho W)
  have CW3 := Lib.hid (fun (W : World) (d : Nat) (os : Array Obj) => Calls.regrown_of (Calls.toBelow (pwithin_yes hs (grow (redrawn W d) os))))
  have CH := Lib.hid (pheld_any y (w.alloc (inoO y)))
  rw [hh] at CH
  have hlen : y.x.parts.length ≤ maxLen := by
    have := (goodE_iff.1 hg).1
    unfold maxLen
    omega
  have CG := Lib.hid (fun (W : World) (hb : Below w.heap.size w W) (d : Nat) (os : Array Obj) => Calls.regrown_of (hg ▸ egood_any y.ao y.cap y.x.parts (grow (redrawn W d) os) (PaL.below hp (blwO (below_regrown W d os) hb)) hlen))
  have CE := Lib.hid (fun (W : World) (hb : Below w.heap.size w W) (d : Nat) (os : Array Obj) => Calls.regrown_of (eEnd_any y.ao y.cap y.x.parts (grow (redrawn W d) os) (PaL.below hp (blwO (below_regrown W d os) hb)) hlen))
  have HB0 := Lib.hid (blwA w (inoO y))
  have HX := Lib.hid (fun (W : World) (hb : Below (w.alloc (inoO y)).heap.size (w.alloc (inoO y)) W) => show W.heap[w.heap.size]? = some (inoO y) from below_heap hb (heap_alloc_new _ _))
  have e1 : (y.x.kind == 1) = false := beq_eq_false_iff_ne.2 (by omega)
  have e2 : (y.x.kind == 2) = true := beq_iff_eq.2 hk
  have e3 : decide (endE y.x.parts ≤ y.x.size) = true := decide_eq_true he
  generalize endE y.x.parts = en at *
  clear hl hh hk ho hs hp hg he hlen
  go_enter Try.func58, Try.ntmps58
  go_wp2_with (first
    | (go_at_call 33; with_reducible refine (CW1.out _).mono ?_; rintro e w' ⟨rfl, rfl⟩)
    | (go_at_call 33; with_reducible refine (CW2.out _).mono ?_; rintro e w' ⟨rfl, rfl⟩)
    | (go_at_call 51; refine CH.out.mono ?_; rintro e w1 ⟨rfl, hb1⟩; have HB1 := Lib.hid (blwO hb1 HB0.out); obtain ⟨d0, d1, d2, d3, d4, d5⟩ := ino_cells (HX.out _ hb1); clear hb1))
  have q4 := cell_regrown d4
  have q5 := cell_regrown d5
  have CQ3 := Lib.hid (CW3.out w1)
  have CQG := Lib.hid (CG.out w1 HB1.out)
  have CQE := Lib.hid (CE.out w1 HB1.out)
  clear CW3 CG CE
  refine wp_region_quiet_below (by kernel_rfl) (by kernel_rfl) ?_
  repeat (go_big_quiet_step (first | with_reducible exact CQ3.out _ _ | with_reducible exact CQG.out _ _ | with_reducible exact CQE.out _ _))
  refine wpQuiet_nil ?_
  intro _ hw'
  obtain ⟨⟨dq, osq⟩, hw''⟩ := hw'
  subst hw''
  have HB3 := Lib.hid (blwO (below_regrown w1 dq osq) HB1.out)
  generalize grow _ _ = W2 at *
  go_wp2_with fail
  go_ret
  exact ⟨rfl, HB3.out⟩
theorem pigood_any {next : Int} (y : Iv) (hy : inoB next y.x) (hh : 1 ≤ y.x.links + y.x.opens) (w : World) (hp : PaL w y.ao y.x.parts) :
    Calls Try.prog 58 #[.agg #[.int .i64 y.x.ino, .int .i64 y.x.kind, .int .i64 y.x.links, .int .i64 y.x.opens, .int .i64 y.x.size, .slice y.ao y.x.parts.length y.cap]] w fun e w' => e = .returned (.bool true) ∧ Below w.heap.size w w' := by
  obtain ⟨_, h2, h3, h4, h5, h6, h7, h8⟩ := hy
  have hb : heldB y.x = true := by
    unfold heldB
    rw [Bool.or_eq_true, decide_eq_true_eq, decide_eq_true_eq]
    omega
  rcases h2 with e | e
  · obtain ⟨a, b, c⟩ := h5 e
    exact pigood_dir y h3 hb e a b c w
  · exact pigood_file y h3 h4 hb e h6 h7 h8 w hp
end Go.Proofs.Ytfkgeefoknaldaa
namespace Go.Proofs.Ytfkgeefoknaldaa
open Go.RowKit
set_option linter.unusedVariables false
set_option maxRecDepth 20000
theorem not_first {a r : List Iv} {y : Iv} {t : Tb} (hm : (a ++ y :: r).map (·.x) = t.l) (ht : TbI t) (hy : y.x ≠ rootI) : a ≠ [] := fun e => by
  obtain ⟨m, hr⟩ := ht.root
  rw [e, hr] at hm
  exact hy (by have := congrArg (fun l => l.head?) hm; simpa using this)
theorem Gone.leaves {G : Nat → Prop} {w W w' : World} {q g : Nat} {a r : List Iv} {y : Iv} {t' : Tb} (hz : Zone G w q g (a ++ y :: r)) (hk : Kept (fun k => k ≠ q ∧ k ≠ g) w W) (h : Gone W w' q (a ++ r) t'.next) (hl : (a ++ r).map (·.x) = t'.l) : Leaves (RT q) G w w' t' := by
  obtain ⟨g', cap', h1, h2, h3⟩ := h
  refine DTab.leaves hz h1 hl ⟨hk.trans (h2.mono (fun k hk => hk.1)), .inr (Nat.le_trans hk.size h3), fun z hz2 => .inl ?_⟩
  rcases List.mem_append.1 hz2 with hz2 | hz2
  · exact ⟨z, List.mem_append_left _ hz2, rfl⟩
  · exact ⟨z, List.mem_append_right _ (List.mem_cons_of_mem _ hz2), rfl⟩
set_option maxHeartbeats 1000000 in
theorem rlink_any {G : Nat → Prop} (w : World) (q : Nat) (t : Tb) (n k : Int) (h : RT q G w t) (ht : TbI t) :
    Calls Try.prog 13 #[.pointer (some ⟨q, 0, none⟩), .int .i64 n, .int .i64 k] w fun e w' => e = .returned (.int .i64 (linkI t n k).2) ∧ Leaves (RT q) G w w' (linkI t n k).1 := by
  have HRT := Lib.hid h
  have HS := Lib.hid (fun (W : World) (hb : Below w.heap.size w W) => Leaves.same (rt_thing q) HRT.out hb)
  obtain ⟨g, cap, l, hm, hd, hz⟩ := h
  have HZ := Lib.hid hz
  clear hz
  have hl := DTab.few (w := w) (B := 0) (q := q) (g := g) (cap := cap) ht hm
  rcases iv_cases l n with ⟨h1, h2⟩ | ⟨a, y, r, h1, h2, h3, h4⟩
  · rw [hm] at h2
    rw [link_none h2]
    have CF := Lib.hid (rfind_any w 0 q g cap l t.next n hd (by omega) (-1) (.inl ⟨rfl, h1⟩))
    clear h1 h2 hd
    go_enter Try.func13, Try.ntmps13
    go_wp2_with (go_at_call 35; with_reducible refine CF.out.mono ?_; rintro e w' ⟨rfl, rfl⟩)
    go_ret
    exact ⟨rfl, HS.out _ (Below.refl _ _)⟩
  subst h1
  rw [hm] at h4
  have hka : a.length < (a ++ y :: r).length := by simp
  have CF := Lib.hid (rfind_any w 0 q g cap (a ++ y :: r) t.next n hd (by omega) (a.length : Int) (.inr ⟨a.length, rfl, hka, by rw [iv_at]; exact h2, iv_before h3⟩))
  obtain ⟨c0, c1⟩ := hd.cells
  have hat := hd.at a.length hka
  rw [iv_at] at hat
  obtain ⟨_, b1, b2, b3, _, _⟩ := hat
  have hql := block_lt_of_cell c0
  have hgl := block_lt_of_cell b2
  obtain ⟨K, hK⟩ : ∃ K, a.length = K := ⟨_, rfl⟩
  obtain ⟨N, hN⟩ : ∃ N, (a ++ y :: r).length = N := ⟨_, rfl⟩
  have HK := Lib.hid hK
  have HN := Lib.hid hN
  rw [hK] at CF b1 b2 b3 hka
  rw [hN] at c0 hka hl
  have hkI : (K : Int) < (N : Int) := by omega
  have hNI : (N : Int) ≤ 64 := by omega
  have hk0 : (0 : Int) ≤ (K : Int) := by omega
  by_cases hs : stepB k = true
  rotate_left
  · rw [link_arg h4 (fun e => hs e.1)]
    have hns : ¬ k = 1 ∧ ¬ k = -1 := by
      have h5 : ¬ (k = 1 ∨ k = -1) := fun e => hs (decide_eq_true e)
      exact ⟨fun e => h5 (.inl e), fun e => h5 (.inr e)⟩
    have e1 : (k != 1) = true := bne_iff_ne.2 hns.1
    have e2 : (k != -1) = true := bne_iff_ne.2 hns.2
    have e3 : ¬ k = 1 := hns.1
    have e4 : ¬ k = -1 := hns.2
    clear hd h4 h2 h3 hs hns hK hN
    go_enter Try.func13, Try.ntmps13
    go_wp2_with (go_at_call 35; with_reducible refine CF.out.mono ?_; rintro e w' ⟨rfl, rfl⟩)
    go_ret
    exact ⟨rfl, HS.out _ (Below.refl _ _)⟩
  by_cases h5 : n = 1
  · rw [link_arg h4 (fun e => e.2 h5)]
    have e5 : (n == 1) = true := beq_iff_eq.2 h5
    rcases step_two hs with rfl | rfl
    all_goals
      clear hd h4 h2 h3 hs hK hN h5
      go_enter Try.func13, Try.ntmps13
      go_wp2_with (go_at_call 35; with_reducible refine CF.out.mono ?_; rintro e w' ⟨rfl, rfl⟩)
      go_ret
      exact ⟨rfl, HS.out _ (Below.refl _ _)⟩
  have e5 : (n == 1) = false := beq_eq_false_iff_ne.2 h5
  have hnr : y.x ≠ rootI := fun e => h5 (by rw [← h2, e]; rfl)
  have hne := not_first hm ht hnr
  have hin := ht.each y.x (by rw [← hm]; exact List.mem_map.2 ⟨y, List.mem_append_right _ List.mem_cons_self, rfl⟩)
  have hq : 0 ≤ y.x.links ∧ y.x.links ≤ 8 := hin.2.2.1
  have hq2 : 0 ≤ y.x.opens := hin.2.2.2.1.1
  have hw0 : IntKind.i64.wrap (y.x.links + k) = y.x.links + k := IntWalk.i64_in _ (by rcases step_two hs with e | e <;> omega)
  obtain ⟨sm, hsm⟩ : ∃ sm, y.x.links + k = sm := ⟨_, rfl⟩
  have hw := hw0.trans hsm
  by_cases hb : 0 ≤ y.x.links + k ∧ y.x.links + k ≤ 8
  rotate_left
  · rw [link_many h4 ⟨hs, h5⟩ hb]
    rw [hsm] at hb
    rcases (show sm < 0 ∨ (0 ≤ sm ∧ 8 < sm) from by omega) with c | c
    all_goals
      rcases step_two hs with rfl | rfl
      all_goals
        clear hd h4 h2 h3 hs hK hN h5 hin hq hsm hw0 hb hnr hne
        go_enter Try.func13, Try.ntmps13
        go_wp2_with (go_at_call 35; with_reducible refine CF.out.mono ?_; rintro e w' ⟨rfl, rfl⟩)
        go_ret
        exact ⟨rfl, HS.out _ (Below.refl _ _)⟩
  have hb2 := hb
  rw [link_at hm ht h2 h3 hs h5 hb]
  rw [hsm] at hb2 ⊢
  have hyI := hd.each y (List.mem_append_right _ List.mem_cons_self)
  have HP2 := Lib.hid (DTab.put (N := K) (y' := ⟨{ y.x with links := sm }, y.ao, y.cap⟩) hd 2 (.int .i64 sm) (by decide) rfl (hyI.turn _ rfl) hK.symm)
  have HKP := Lib.hid ((Kept.refl (fun k => k ≠ q ∧ k ≠ g) w).setCell (p := ⟨g, K * 6 + 2, none⟩) (fun e => e.2 rfl) (.int .i64 sm))
  have f2 := (hd.free (K * 6 + 2)).1
  have HL := Lib.hid (show (a ++ (⟨{ y.x with links := sm }, y.ao, y.cap⟩ : Iv) :: r).length ≤ 64 from by rw [← hN] at hl; simpa using hl)
  have HNE := Lib.hid hne
  have hl1 : ¬ sm < 0 := by omega
  have hl2 : ¬ 8 < sm := by omega
  have hl3 : 0 ≤ sm := hb2.1
  have hl4 : sm ≤ 8 := hb2.2
  cases hh : heldB { y.x with links := sm }
  · rw [if_neg (by decide)]
    obtain ⟨z1, z2⟩ := (heldB_no (x := { y.x with links := sm }) hl3 hq2).1 hh
    have hkm : k = -1 := by
      rcases step_two hs with e | e
      · exact absurd (show y.x.links + k = 0 from by rw [hsm]; exact z1) (by omega)
      · exact e
    subst hkm
    have CE := Lib.hid (rends_go HP2.out HL.out hK hne z1 z2)
    have HG := Lib.hid (fun w' (h : Gone _ w' q (a ++ r) t.next) => Gone.leaves (t' := ⟨(a ++ r).map (·.x), t.next⟩) HZ.out HKP.out h rfl)
    clear hd h4 h2 h3 hs hK hN h5 hin hq hq2 hsm hw0 hb hb2 hnr hne hyI hh z1 z2 hl
    go_enter Try.func13, Try.ntmps13
    go_wp2_with (first
      | (go_at_call 35; with_reducible refine CF.out.mono ?_; rintro e w' ⟨rfl, rfl⟩)
      | (go_at_call 36; refine CE.out.mono ?_; rintro e w3 ⟨rfl, hg⟩; have HG3 := Lib.hid (HG.out _ hg); clear hg))
    go_ret
    exact ⟨rfl, HG3.out⟩
  · rw [if_pos rfl]
    have HF := Lib.hid (DTab.leaves (t' := ⟨(a ++ (⟨{ y.x with links := sm }, y.ao, y.cap⟩ : Iv) :: r).map (·.x), t.next⟩) HZ.out HP2.out rfl (Went.put HKP.out (.inl rfl)))
    have hnz : ¬ ((⟨{ y.x with links := sm }, y.ao, y.cap⟩ : Iv).x.links = 0 ∧ (⟨{ y.x with links := sm }, y.ao, y.cap⟩ : Iv).x.opens = 0) := fun e => by
      rw [(heldB_no (x := { y.x with links := sm }) hl3 hq2).2 e] at hh
      cases hh
    have CE := Lib.hid (rends_stay HP2.out HL.out hK hnz)
    rcases step_two hs with rfl | rfl
    all_goals
      clear hd h4 h2 h3 hs hK hN h5 hin hq hq2 hsm hw0 hb hb2 hnr hne hyI hh hnz hl
      go_enter Try.func13, Try.ntmps13
      go_wp2_with (first
        | (go_at_call 35; with_reducible refine CF.out.mono ?_; rintro e w' ⟨rfl, rfl⟩)
        | (go_at_call 36; refine CE.out.mono ?_; rintro e w3 ⟨rfl, rfl⟩))
      go_ret
      exact ⟨rfl, HF.out⟩
end Go.Proofs.Ytfkgeefoknaldaa
