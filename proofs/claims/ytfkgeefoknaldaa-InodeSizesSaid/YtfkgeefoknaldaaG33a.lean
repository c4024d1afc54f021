/- Stage 20: the document's Open. No conditions. Stage 20: what the program's own good returns of a good table's inodes. Conditions: the inodes and their parts lie where the call was told. -/
import Derived.Test.YtfkgeefoknaldaaG32a
import Derived.Test.YtfkgeefoknaldaaG26a
set_option linter.unusedVariables false
namespace Go.Proofs.Ytfkgeefoknaldaa
open Go.RowKit
set_option linter.unusedVariables false
set_option maxRecDepth 20000
set_option maxHeartbeats 1000000 in
theorem ropen_any {G : Nat → Prop} (w : World) (q : Nat) (t : Tb) (n k : Int) (h : RT q G w t) (ht : TbI t) :
    Calls Try.prog 37 #[.pointer (some ⟨q, 0, none⟩), .int .i64 n, .int .i64 k] w fun e w' => e = .returned (.int .i64 (openI t n k).2) ∧ Leaves (RT q) G w w' (openI t n k).1 := by
  have HRT := Lib.hid h
  have HS := Lib.hid (fun (W : World) (hb : Below w.heap.size w W) => Leaves.same (rt_thing q) HRT.out hb)
  obtain ⟨g, cap, l, hm, hd, hz⟩ := h
  have HZ := Lib.hid hz
  clear hz
  have hl := DTab.few (w := w) (B := 0) (q := q) (g := g) (cap := cap) ht hm
  rcases iv_cases l n with ⟨h1, h2⟩ | ⟨a, y, r, h1, h2, h3, h4⟩
  · rw [hm] at h2
    rw [open_none h2]
    have CF := Lib.hid (rfind_any w 0 q g cap l t.next n hd (by omega) (-1) (.inl ⟨rfl, h1⟩))
    clear h1 h2 hd
    go_enter Try.func37, Try.ntmps37
    go_wp2_with (go_at_call 35; with_reducible refine CF.out.mono ?_; rintro e w' ⟨rfl, rfl⟩)
    go_ret
    exact ⟨rfl, HS.out _ (Below.refl _ _)⟩
  subst h1
  rw [hm] at h4
  have hka : a.length < (a ++ y :: r).length := by simp
  have CF := Lib.hid (rfind_any w 0 q g cap (a ++ y :: r) t.next n hd (by omega) (a.length : Int) (.inr ⟨a.length, rfl, hka, by rw [iv_at]; exact h2, iv_before h3⟩))
  obtain ⟨c0, c1⟩ := hd.cells
  have hat := hd.at a.length hka
  rw [iv_at] at hat
  obtain ⟨_, b1, b2, b3, _, _⟩ := hat
  have hql := block_lt_of_cell c0
  have hgl := block_lt_of_cell b2
  obtain ⟨K, hK⟩ : ∃ K, a.length = K := ⟨_, rfl⟩
  obtain ⟨N, hN⟩ : ∃ N, (a ++ y :: r).length = N := ⟨_, rfl⟩
  have HK := Lib.hid hK
  have HN := Lib.hid hN
  rw [hK] at CF b1 b2 b3 hka
  rw [hN] at c0 hka hl
  have hkI : (K : Int) < (N : Int) := by omega
  have hNI : (N : Int) ≤ 64 := by omega
  have hk0 : (0 : Int) ≤ (K : Int) := by omega
  by_cases hs : stepB k = true
  rotate_left
  · rw [open_arg h4 hs]
    have hns : ¬ k = 1 ∧ ¬ k = -1 := by
      have h5 : ¬ (k = 1 ∨ k = -1) := fun e => hs (decide_eq_true e)
      exact ⟨fun e => h5 (.inl e), fun e => h5 (.inr e)⟩
    have e1 : (k != 1) = true := bne_iff_ne.2 hns.1
    have e2 : (k != -1) = true := bne_iff_ne.2 hns.2
    have e3 : ¬ k = 1 := hns.1
    have e4 : ¬ k = -1 := hns.2
    clear hd h4 h2 h3 hs hns hK hN
    go_enter Try.func37, Try.ntmps37
    go_wp2_with (go_at_call 35; with_reducible refine CF.out.mono ?_; rintro e w' ⟨rfl, rfl⟩)
    go_ret
    exact ⟨rfl, HS.out _ (Below.refl _ _)⟩
  by_cases h5 : y.x.kind = 1
  · rw [open_dir h4 hs h5]
    have e5 : (y.x.kind == 1) = true := beq_iff_eq.2 h5
    rcases step_two hs with rfl | rfl
    all_goals
      clear hd h4 h2 h3 hs hK hN h5
      go_enter Try.func37, Try.ntmps37
      go_wp2_with (go_at_call 35; with_reducible refine CF.out.mono ?_; rintro e w' ⟨rfl, rfl⟩)
      go_ret
      exact ⟨rfl, HS.out _ (Below.refl _ _)⟩
  have e5 : (y.x.kind == 1) = false := beq_eq_false_iff_ne.2 h5
  have hnr : y.x ≠ rootI := fun e => h5 (by rw [e]; rfl)
  have hne := not_first hm ht hnr
  have hin := ht.each y.x (by rw [← hm]; exact List.mem_map.2 ⟨y, List.mem_append_right _ List.mem_cons_self, rfl⟩)
  have hq : 0 ≤ y.x.opens ∧ y.x.opens ≤ 128 := hin.2.2.2.1
  have hq2 : 0 ≤ y.x.links := hin.2.2.1.1
  have hw0 : IntKind.i64.wrap (y.x.opens + k) = y.x.opens + k := IntWalk.i64_in _ (by rcases step_two hs with e | e <;> omega)
  obtain ⟨sm, hsm⟩ : ∃ sm, y.x.opens + k = sm := ⟨_, rfl⟩
  have hw := hw0.trans hsm
  by_cases hb : 0 ≤ y.x.opens + k ∧ y.x.opens + k ≤ 128
  rotate_left
  · rw [open_many h4 hs h5 hb]
    rw [hsm] at hb
    rcases (show sm < 0 ∨ (0 ≤ sm ∧ 128 < sm) from by omega) with c | c
    all_goals
      rcases step_two hs with rfl | rfl
      all_goals
        clear hd h4 h2 h3 hs hK hN h5 hin hq hsm hw0 hb hnr hne
        go_enter Try.func37, Try.ntmps37
        go_wp2_with (go_at_call 35; with_reducible refine CF.out.mono ?_; rintro e w' ⟨rfl, rfl⟩)
        go_ret
        exact ⟨rfl, HS.out _ (Below.refl _ _)⟩
  have hb2 := hb
  rw [open_at hm ht h2 h3 hs h5 hb]
  rw [hsm] at hb2 ⊢
  have hyI := hd.each y (List.mem_append_right _ List.mem_cons_self)
  have HP2 := Lib.hid (DTab.put (N := K) (y' := ⟨{ y.x with opens := sm }, y.ao, y.cap⟩) hd 3 (.int .i64 sm) (by decide) rfl (hyI.turn _ rfl) hK.symm)
  have HKP := Lib.hid ((Kept.refl (fun k => k ≠ q ∧ k ≠ g) w).setCell (p := ⟨g, K * 6 + 3, none⟩) (fun e => e.2 rfl) (.int .i64 sm))
  have f2 := (hd.free (K * 6 + 3)).1
  have HL := Lib.hid (show (a ++ (⟨{ y.x with opens := sm }, y.ao, y.cap⟩ : Iv) :: r).length ≤ 64 from by rw [← hN] at hl; simpa using hl)
  have HNE := Lib.hid hne
  have hl1 : ¬ sm < 0 := by omega
  have hl2 : ¬ 128 < sm := by omega
  have hl3 : 0 ≤ sm := hb2.1
  have hl4 : sm ≤ 128 := hb2.2
  cases hh : heldB { y.x with opens := sm }
  · rw [if_neg (by decide)]
    obtain ⟨z1, z2⟩ := (heldB_no (x := { y.x with opens := sm }) hq2 hl3).1 hh
    have hkm : k = -1 := by
      rcases step_two hs with e | e
      · exact absurd (show y.x.opens + k = 0 from by rw [hsm]; exact z2) (by omega)
      · exact e
    subst hkm
    have CE := Lib.hid (rends_go HP2.out HL.out hK hne z1 z2)
    have HG := Lib.hid (fun w' (h : Gone _ w' q (a ++ r) t.next) => Gone.leaves (t' := ⟨(a ++ r).map (·.x), t.next⟩) HZ.out HKP.out h rfl)
    clear hd h4 h2 h3 hs hK hN h5 hin hq hq2 hsm hw0 hb hb2 hnr hne hyI hh z1 z2 hl
    go_enter Try.func37, Try.ntmps37
    go_wp2_with (first
      | (go_at_call 35; with_reducible refine CF.out.mono ?_; rintro e w' ⟨rfl, rfl⟩)
      | (go_at_call 36; refine CE.out.mono ?_; rintro e w3 ⟨rfl, hg⟩; have HG3 := Lib.hid (HG.out _ hg); clear hg))
    go_ret
    exact ⟨rfl, HG3.out⟩
  · rw [if_pos rfl]
    have HF := Lib.hid (DTab.leaves (t' := ⟨(a ++ (⟨{ y.x with opens := sm }, y.ao, y.cap⟩ : Iv) :: r).map (·.x), t.next⟩) HZ.out HP2.out rfl (Went.put HKP.out (.inl rfl)))
    have hnz : ¬ ((⟨{ y.x with opens := sm }, y.ao, y.cap⟩ : Iv).x.links = 0 ∧ (⟨{ y.x with opens := sm }, y.ao, y.cap⟩ : Iv).x.opens = 0) := fun e => by
      rw [(heldB_no (x := { y.x with opens := sm }) hq2 hl3).2 e] at hh
      cases hh
    have CE := Lib.hid (rends_stay HP2.out HL.out hK hnz)
    rcases step_two hs with rfl | rfl
    all_goals
      clear hd h4 h2 h3 hs hK hN h5 hin hq hq2 hsm hw0 hb hb2 hnr hne hyI hh hnz hl
      go_enter Try.func37, Try.ntmps37
      go_wp2_with (first
        | (go_at_call 35; with_reducible refine CF.out.mono ?_; rintro e w' ⟨rfl, rfl⟩)
        | (go_at_call 36; refine CE.out.mono ?_; rintro e w3 ⟨rfl, rfl⟩))
      go_ret
      exact ⟨rfl, HF.out⟩
end Go.Proofs.Ytfkgeefoknaldaa
namespace Go.Proofs.Ytfkgeefoknaldaa
open Go.RowKit Go.Maps Go.Sort
set_option linter.unusedVariables false
set_option maxRecDepth 20000
/-- the inodes l lie at lo, their parts where each says -/
structure IvQ (w : World) (lo : Option Addr) (l : List Iv) : Prop where
  row : Row w lo 6 ivC l
  parts : ∀ y ∈ l, PaL w y.ao y.x.parts ∧ (y.ao = none → y.cap = 0) ∧ y.x.parts.length ≤ y.cap
theorem IvQ.below {w w' : World} {lo : Option Addr} {l : List Iv} (h : IvQ w lo l) (hb : Below w.heap.size w w') : IvQ w' lo l := ⟨Row.below h.row hb, fun y hy => ⟨PaL.below (h.parts y hy).1 hb, (h.parts y hy).2⟩⟩
theorem IvQ.at {w : World} {lo : Option Addr} {l : List Iv} (h : IvQ w lo l) (k : Nat) (hk : k < l.length) : ∃ bk off, lo = some ⟨bk, off, none⟩ ∧ w.cell? ⟨bk, off + k * 6, none⟩ = some (.int .i64 l[k].x.ino) ∧ w.cell? ⟨bk, off + k * 6 + 1, none⟩ = some (.int .i64 l[k].x.kind) ∧ w.cell? ⟨bk, off + k * 6 + 2, none⟩ = some (.int .i64 l[k].x.links) ∧ w.cell? ⟨bk, off + k * 6 + 3, none⟩ = some (.int .i64 l[k].x.opens) ∧ w.cell? ⟨bk, off + k * 6 + 4, none⟩ = some (.int .i64 l[k].x.size) ∧ w.cell? ⟨bk, off + k * 6 + 5, none⟩ = some (.slice l[k].ao l[k].x.parts.length l[k].cap) := by
  obtain ⟨bk, off, e, h2⟩ := h.row k hk
  exact ⟨bk, off, e, h2 0 _ rfl, h2 1 _ rfl, h2 2 _ rfl, h2 3 _ rfl, h2 4 _ rfl, h2 5 _ rfl⟩
set_option maxHeartbeats 400000 in
theorem pgood_yes (lo : Option Addr) (cap : Nat) (l : List Iv) (next : Int) (w : World) (h : IvQ w lo l) (ht : TbI ⟨l.map (·.x), next⟩) (hf : fedI ⟨l.map (·.x), next⟩) (hn : next ≤ 2147483647) :
    Calls Try.prog 42 #[.slice lo l.length cap, .int .i64 next] w fun e w' => e = .returned (.bool true) ∧ Below w.heap.size w w' := by
  have hlen : l.length ≤ 64 := by
    have := ht.most
    rw [List.length_map] at this
    exact this
  obtain ⟨mr, hmr⟩ := ht.root
  have hl1 : 1 ≤ l.length := by
    have := congrArg List.length hmr
    simp at this
    omega
  have hroot : l[0].x = rootI := by
    have := congrArg (fun x => x[0]?) hmr
    simp only [List.getElem?_map, List.getElem?_cons_zero] at this
    rw [List.getElem?_eq_getElem (by omega)] at this
    simpa using this
  have h2 := ht.next
  have CW1 := Lib.hid (fun W => pwithin_yes (show 1 ≤ (l.length : Int) ∧ (l.length : Int) ≤ 64 from by omega) W)
  have CW2 := Lib.hid (fun W => pwithin_yes (show 2 ≤ next ∧ next ≤ 2147483647 from ⟨h2, hn⟩) W)
  have HP := Lib.hid h
  obtain ⟨bk, off, hlo, z0, z1, z2, z3, z4, z5⟩ := h.at 0 (by omega)
  subst hlo
  have CR := Lib.hid (proot_any l[0] (by rw [hroot]; rfl) (by rw [hroot]; rfl) (by rw [hroot]; rfl) w)
  generalize l[0] = y0 at *
  have z0' : w.cell? ⟨bk, off, none⟩ = some (.int .i64 y0.x.ino) := by simpa using z0
  have z1' : w.cell? ⟨bk, off + 1, none⟩ = some (.int .i64 y0.x.kind) := by simpa using z1
  have z2' : w.cell? ⟨bk, off + 2, none⟩ = some (.int .i64 y0.x.links) := by simpa using z2
  have z3' : w.cell? ⟨bk, off + 3, none⟩ = some (.int .i64 y0.x.opens) := by simpa using z3
  have z4' : w.cell? ⟨bk, off + 4, none⟩ = some (.int .i64 y0.x.size) := by simpa using z4
  have z5' : w.cell? ⟨bk, off + 5, none⟩ = some (.slice y0.ao y0.x.parts.length y0.cap) := by simpa using z5
  have HE := Lib.hid (show ∀ k (hk : k < l.length), inoB next l[k].x ∧ 1 ≤ l[k].x.links + l[k].x.opens from fun k hk => ⟨ht.each _ (List.mem_map.2 ⟨_, List.getElem_mem hk, rfl⟩), hf _ (List.mem_map.2 ⟨_, List.getElem_mem hk, rfl⟩)⟩)
  have HR := Lib.hid (show ∀ k (hk : k < l.length), 0 < k → l[k - 1].x.ino < l[k].x.ino from fun k hk h0 => by
    have h9 := List.pairwise_iff_getElem.1 ht.rise (k - 1) k (by simp; omega) (by simpa using hk) (by omega)
    simpa using h9)
  have hlI : (l.length : Int) ≤ 64 := by omega
  have hl0 : (0 : Int) < (l.length : Int) := by omega
  clear h ht hf hmr hroot z0 z1 z2 z3 z4 z5
  go_enter Try.func42, Try.ntmps42
  go_wp2_with (first
    | (go_at_call 33; with_reducible refine (CW1.out _).mono ?_; rintro e w' ⟨rfl, rfl⟩)
    | (go_at_call 33; with_reducible refine (CW2.out _).mono ?_; rintro e w' ⟨rfl, rfl⟩)
    | (go_at_call 57; refine CR.out.mono ?_; rintro e w1 ⟨rfl, hb1⟩; have HB1 := Lib.hid hb1; clear hb1 z0' z1' z2' z3' z4' z5'))
  go_loopw [25] (fun x wr => ∃ k : Nat, x = .int .i64 k ∧ k ≤ l.length ∧ Hid (Below w.heap.size w wr)) (fun x _ => l.length - (intOf x).toNat)
  case atStart => exact ⟨0, rfl, Nat.zero_le _, HB1⟩
  case round =>
    obtain ⟨k, rfl, hk, HB⟩ := hrel
    by_cases hlt : k < l.length
    · have k0 : (k : Int) < (l.length : Int) := by omega
      have HPr := Lib.hid (HP.out.below HB.out)
      obtain ⟨bk2, off2, hlo2, c0, c1, c2, c3, c4, c5⟩ := HPr.out.at k hlt
      cases hlo2
      obtain ⟨hiB, hfed⟩ := HE.out k hlt
      have hpr := (HP.out.parts _ (List.getElem_mem hlt)).1
      have CI := Lib.hid (fun (W : World) (hb : Below w.heap.size w W) (d : Nat) (os : Array Obj) => Calls.regrown_of (pigood_any l[k] hiB hfed (grow (redrawn W d) os) (PaL.below hpr (blwO (below_regrown W d os) hb))))
      have HRk := Lib.hid (HR.out k hlt)
      obtain ⟨y, hy⟩ : ∃ y, Hid (l[k] = y) := ⟨_, Lib.hid rfl⟩
      rw [hy.out] at c0 c1 c2 c3 c4 c5 CI HRk hiB
      have g1 : decide (next ≤ y.x.ino) = false := decide_eq_false (by have := hiB.1.2; omega)
      have HBA := Lib.hid (blwO (blwA wr (inoO y)) HB.out)
      obtain ⟨d0, d1, d2, d3, d4, d5⟩ := ino_cells (w := wr.alloc (inoO y)) (g := wr.heap.size) (y := y) (heap_alloc_new _ _)
      have CIr := Lib.hid (CI.out (wr.alloc (inoO y)) HBA.out)
      have q0 := cell_regrown d0
      have q1 := cell_regrown d1
      have q2 := cell_regrown d2
      have q3 := cell_regrown d3
      have q4 := cell_regrown d4
      have q5 := cell_regrown d5
      by_cases hk0 : k = 0
      · have g0 : decide (0 < k) = false := decide_eq_false (by omega)
        clear hiB hfed hpr CI hk0
        go_wp2_with fail
        refine wp_region_quiet_below (by kernel_rfl) (by kernel_rfl) ?_
        repeat (go_big_quiet_step (with_reducible exact CIr.out _ _))
        refine wpQuiet_nil ?_
        intro _ hw'
        obtain ⟨⟨dq, osq⟩, hw''⟩ := hw'
        subst hw''
        have HB3 := Lib.hid (blwO (below_regrown _ dq osq) HBA.out)
        generalize grow _ _ = W2 at *
        go_wp2_with fail
        go_roundw
        case rel => exact ⟨k + 1, by go_num, by omega, HB3⟩
        case measure => simp [intOf]; omega
      · have g0 : decide (0 < k) = true := decide_eq_true (by omega)
        have hjl : k - 1 < l.length := by omega
        have i1 : (0 : Int) ≤ (k : Int) - 1 := by omega
        have i2 : (k : Int) - 1 < (l.length : Int) := by omega
        obtain ⟨_, _, he2, r0, _⟩ := (HPr.out.below (blwA wr (inoO y))).at (k - 1) hjl
        cases he2
        obtain ⟨x, hx⟩ : ∃ x, Hid (l[k - 1] = x) := ⟨_, Lib.hid rfl⟩
        have hlt2 := HRk.out (by omega)
        rw [hx.out] at r0 hlt2
        have g2 : decide (y.x.ino ≤ x.x.ino) = false := decide_eq_false (by omega)
        have p0 := cell_regrown r0
        have hw1 : IntKind.i64.wrap ((k : Int) - 1) = (k : Int) - 1 := IntWalk.i64_in _ (by omega)
        clear hiB hfed hpr CI hk0 hlt2
        go_wp2_with fail
        refine wp_region_quiet_below (by kernel_rfl) (by kernel_rfl) ?_
        repeat (go_big_quiet_step (with_reducible exact CIr.out _ _))
        refine wpQuiet_nil ?_
        intro _ hw'
        obtain ⟨⟨dq, osq⟩, hw''⟩ := hw'
        subst hw''
        have HB3 := Lib.hid (blwO (below_regrown _ dq osq) HBA.out)
        generalize grow _ _ = W2 at *
        go_wp2_with fail
        go_roundw
        case rel => exact ⟨k + 1, by go_num, by omega, HB3⟩
        case measure => simp [intOf]; omega
    · obtain rfl : k = l.length := by omega
      go_wp2_with fail
      go_ret
      exact ⟨rfl, HB.out⟩
end Go.Proofs.Ytfkgeefoknaldaa
