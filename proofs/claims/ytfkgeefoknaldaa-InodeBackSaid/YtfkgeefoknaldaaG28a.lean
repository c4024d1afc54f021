/- Stage 20: what the program's own Link returns. Conditions: the table lies where the call was told; numbers of 64 bits. Stage 20: the document's Write. No conditions. Stage 20: the document's Move. No conditions. Stage 20: the document's Make where it makes none (no kind, or no room). No conditions. -/
import Derived.Test.YtfkgeefoknaldaaG27a
import Derived.Test.YtfkgeefoknaldaaG26a
import Derived.Test.YtfkgeefoknaldaaG21a
import Derived.Lib.MinMax
import Derived.Test.YtfkgeefoknaldaaG22a
import Derived.Test.YtfkgeefoknaldaaG10a
set_option linter.unusedVariables false
namespace Go.Proofs.Ytfkgeefoknaldaa
open Go.RowKit Go.Maps
set_option linter.unusedVariables false
set_option maxRecDepth 20000
theorem PT.open_ {b : Nat} {G : Nat → Prop} {w : World} {t : Tb} (h : PT b G w t) : ∃ m l, l.map (·.x) = t.l ∧ PTab w b m l t.next ∧ Zone G w b m l := h
theorem pwithin_yes {v lo hi : Int} (h : lo ≤ v ∧ v ≤ hi) (w : World) : Calls Try.prog 33 #[.int .i64 v, .int .i64 lo, .int .i64 hi] w fun e w' => e = .returned (.bool true) ∧ w = w' := by
  have := pwithin_any v lo hi w
  rw [decide_eq_true h.1, decide_eq_true h.2] at this
  exact this
theorem pwithin_no {v lo hi : Int} (h : ¬ (lo ≤ v ∧ v ≤ hi)) (w : World) : Calls Try.prog 33 #[.int .i64 v, .int .i64 lo, .int .i64 hi] w fun e w' => e = .returned (.bool false) ∧ w = w' := by
  have h1 := pwithin_any v lo hi w
  have h2 : (decide (lo ≤ v) && decide (v ≤ hi)) = false := by
    rw [Bool.eq_false_iff]
    intro e
    rw [Bool.and_eq_true, decide_eq_true_eq, decide_eq_true_eq] at e
    exact h e
  rw [h2] at h1
  exact h1
theorem pstep_is {k : Int} {c : Bool} (h : stepB k = c) (w : World) : Calls Try.prog 32 #[.int .i64 k] w fun e w' => e = .returned (.bool c) ∧ w = w' := h ▸ pstep_any k w
/-- an inode turned but for its parts -/
theorem Went.turned {w w' : World} {b m : Nat} {a r : List Iv} {y y' : Iv} (hk : Kept (fun k => k ≠ m) w w') (e : y'.ao = y.ao) : Went w w' b m (a ++ y :: r) m (a ++ y' :: r) :=
  ⟨hk.mono (fun k h => h.2), .inl rfl, fun z hz => .inl (by
    rcases List.mem_append.1 hz with hz | hz
    · exact ⟨z, List.mem_append_left _ hz, rfl⟩
    · rcases List.mem_cons.1 hz with rfl | hz
      · exact ⟨y, List.mem_append_right _ List.mem_cons_self, e⟩
      · exact ⟨z, List.mem_append_right _ (List.mem_cons_of_mem _ hz), rfl⟩)⟩
theorem Went.gone {w w' : World} {b m : Nat} {a r : List Iv} {y : Iv} (hk : Kept (fun k => k ≠ m) w w') : Went w w' b m (a ++ y :: r) m (a ++ r) :=
  ⟨hk.mono (fun k h => h.2), .inl rfl, fun z hz => .inl (by
    rcases List.mem_append.1 hz with hz | hz
    · exact ⟨z, List.mem_append_left _ hz, rfl⟩
    · exact ⟨z, List.mem_append_right _ (List.mem_cons_of_mem _ hz), rfl⟩)⟩
theorem TbI.ino_wf {t : Tb} (h : TbI t) (hn : t.next ≤ 9000000000000000000) {x : Ino} (hx : x ∈ t.l) : (Lit.int .i64 x.ino).wf = true := by
  have := (h.each x hx).1
  exact WalkArith.wf_i64 (by omega)
set_option maxHeartbeats 1000000 in
theorem plink_nil (n k : Int) (w : World) : Calls Try.prog 11 #[.pointer none, .int .i64 n, .int .i64 k] w fun e w' => e = .returned (.int .i64 1) ∧ Below w.heap.size w w' := by
  have CF := Lib.hid (pfind_nil n w)
  have HA := Lib.hid (fun (W : World) (hb : Below w.heap.size w W) => show Below w.heap.size w (W.alloc (inoO noV)) from blwO (blwA _ _) hb)
  go_enter Try.func11, Try.ntmps11
  go_wp2_with (go_at_call 31; refine CF.out.mono ?_; rintro e w1 ⟨rfl, hb1⟩; have HB1 := Lib.hid hb1; clear hb1)
  go_ret
  exact ⟨rfl, HA.out _ HB1.out⟩
set_option maxHeartbeats 4000000 in
theorem plink_any {b : Nat} {G : Nat → Prop} {w : World} {t : Tb} {n k : Int} (h : PT b G w t) (ht : TbI t) (hnx : t.next ≤ 9000000000000000000) (hn : (Lit.int .i64 n).wf = true) :
    Calls Try.prog 11 #[.pointer (some ⟨b, 0, none⟩), .int .i64 n, .int .i64 k] w fun e w' => e = .returned (.int .i64 (linkI t n k).2) ∧ Leaves (PT b) G w w' (linkI t n k).1 := by
  have HPT := Lib.hid h
  obtain ⟨m, l, hm, hp, hz⟩ := h
  have HS := Lib.hid (fun (W : World) (hb : Below w.heap.size w W) => Leaves.same (pt_thing b) HPT.out hb)
  rcases vi_cases l n with ⟨g1, g2⟩ | ⟨a, y, r, hl, hy, ha, g1, g2⟩
  · rw [hm] at g2
    rw [link_none g2]
    have CF := Lib.hid (pfind_none hp hn g1)
    have HA := Lib.hid (fun (W : World) (hb : Below w.heap.size w W) => show Below w.heap.size w (W.alloc (inoO noV)) from blwO (blwA _ _) hb)
    clear hp g1 g2 hz hm
    go_enter Try.func11, Try.ntmps11
    go_wp2_with (go_at_call 31; refine CF.out.mono ?_; rintro e w1 ⟨rfl, hb1⟩; have HB1 := Lib.hid hb1; clear hb1)
    go_ret
    exact ⟨rfl, HS.out _ (HA.out _ HB1.out)⟩
  have CF := Lib.hid (pfind_some hp hn g1)
  rw [hm] at g2
  have HA := Lib.hid (fun (W : World) (hb : Below w.heap.size w W) => show Below w.heap.size w (W.alloc (inoO y)) from blwO (blwA _ _) hb)
  by_cases hs : stepB k = true
  rotate_left
  · rw [link_arg g2 (fun e => hs e.1)]
    have CS := Lib.hid (fun W => pstep_is (show stepB k = false from by simpa using hs) W)
    clear hp g1 g2 hz hm hs hn hnx hy
    go_enter Try.func11, Try.ntmps11
    go_wp2_with (first
      | (go_at_call 31; refine CF.out.mono ?_; rintro e w1 ⟨rfl, hb1⟩; have HB1 := Lib.hid hb1; clear hb1)
      | (go_at_call 32; with_reducible refine (CS.out _).mono ?_; rintro e w' ⟨rfl, rfl⟩))
    go_ret
    exact ⟨rfl, HS.out _ (HA.out _ HB1.out)⟩
  have CS := Lib.hid (fun W => pstep_is hs W)
  by_cases h1 : n = 1
  · rw [link_arg g2 (fun e => e.2 h1)]
    have e1 : (n == 1) = true := beq_iff_eq.2 h1
    clear hp g1 g2 hz hm hs hn hnx h1 hy
    go_enter Try.func11, Try.ntmps11
    go_wp2_with (first
      | (go_at_call 31; refine CF.out.mono ?_; rintro e w1 ⟨rfl, hb1⟩; have HB1 := Lib.hid hb1; clear hb1)
      | (go_at_call 32; with_reducible refine (CS.out _).mono ?_; rintro e w' ⟨rfl, rfl⟩))
    go_ret
    exact ⟨rfl, HS.out _ (HA.out _ HB1.out)⟩
  have e1 : (n == 1) = false := beq_eq_false_iff_ne.2 h1
  have hin := ht.each y.x (by rw [← hm, hl]; exact List.mem_map.2 ⟨y, List.mem_append_right _ List.mem_cons_self, rfl⟩)
  have hq : 0 ≤ y.x.links ∧ y.x.links ≤ 8 := hin.2.2.1
  have hw0 : IntKind.i64.wrap (y.x.links + k) = y.x.links + k := IntWalk.i64_in _ (by rcases step_two hs with e | e <;> omega)
  by_cases hb : 0 ≤ y.x.links + k ∧ y.x.links + k ≤ 8
  rotate_left
  · rw [link_many g2 ⟨hs, h1⟩ hb]
    have CW := Lib.hid (fun W => pwithin_no hb W)
    clear hp g1 g2 hz hm hs hn hnx h1 hb hq hin hy
    obtain ⟨sm, hsm⟩ : ∃ sm, y.x.links + k = sm := ⟨_, rfl⟩
    have hw := hw0.trans hsm
    rw [hsm] at CW
    clear hsm hw0
    go_enter Try.func11, Try.ntmps11
    go_wp2_with (first
      | (go_at_call 31; refine CF.out.mono ?_; rintro e w1 ⟨rfl, hb1⟩; have HB1 := Lib.hid hb1; clear hb1)
      | (go_at_call 32; with_reducible refine (CS.out _).mono ?_; rintro e w' ⟨rfl, rfl⟩)
      | (go_at_call 33; with_reducible refine (CW.out _).mono ?_; rintro e w' ⟨rfl, rfl⟩))
    go_ret
    exact ⟨rfl, HS.out _ (HA.out _ HB1.out)⟩
  have CW := Lib.hid (fun W => pwithin_yes hb W)
  subst hl
  rw [link_at hm ht hy ha hs h1 hb]
  have hwf : (Lit.int .i64 y.x.ino).wf = true := hy ▸ hn
  have hlen : (a ++ y :: r).length ≤ 1000000 := by
    have := ht.most
    rw [← hm, List.length_map] at this
    omega
  have hrise := ht.rise
  rw [← hm] at hrise
  have hr := iv_after hrise
  have ha2 : ∀ z ∈ a, z.x.ino ≠ y.x.ino := by rw [hy]; exact ha
  have hyI := hp.each y (List.mem_append_right _ List.mem_cons_self)
  obtain ⟨sm, hsm⟩ : ∃ sm, y.x.links + k = sm := ⟨_, rfl⟩
  have hw := hw0.trans hsm
  rw [hsm] at CW ⊢
  have HY := Lib.hid (hyI.turn { y.x with links := sm } rfl)
  have HA2 := Lib.hid (fun (W : World) (hb : Below w.heap.size w W) => show Below w.heap.size w (W.alloc (inoO ⟨{ y.x with links := sm }, y.ao, y.cap⟩)) from blwO (blwA _ _) hb)
  have HZ := Lib.hid hz
  cases hh : heldB { y.x with links := sm }
  · rw [if_neg (by decide)]
    have CH := Lib.hid (fun (W : World) (hb : Below w.heap.size w W) => phold_drop (y' := ⟨{ y.x with links := sm }, y.ao, y.cap⟩) (hp.below hb) rfl hwf ha2 hr hh)
    have HL := Lib.hid (fun (W w' : World) (hb : Below w.heap.size w W) (h1 : PTab w' b m (a ++ r) t.next) (hk : Kept (fun k => k ≠ m) W w') => PTab.leaves (t' := ⟨(a ++ r).map (·.x), t.next⟩) HZ.out h1 rfl (Went.gone ((Kept.ofBelow hb _).trans hk)))
    clear hp g1 g2 hz hm hs hn hnx h1 hb hq hin hsm hw0 hrise hr ha ha2 hyI hwf hlen hy hh
    go_enter Try.func11, Try.ntmps11
    go_wp2_with (first
      | (go_at_call 31; refine CF.out.mono ?_; rintro e w1 ⟨rfl, hb1⟩; have HB1 := Lib.hid hb1; have HB2 := Lib.hid (HA2.out _ hb1); clear hb1)
      | (go_at_call 32; with_reducible refine (CS.out _).mono ?_; rintro e w' ⟨rfl, rfl⟩)
      | (go_at_call 33; with_reducible refine (CW.out _).mono ?_; rintro e w' ⟨rfl, rfl⟩)
      | (go_at_call 34; refine (CH.out _ HB2.out).mono ?_; rintro e w3 ⟨rfl, hp3, hk3⟩; have HL3 := Lib.hid (HL.out _ _ HB2.out hp3 hk3); clear hp3 hk3))
    go_ret
    exact ⟨rfl, HL3.out⟩
  · rw [if_pos rfl]
    have CH := Lib.hid (fun (W : World) (hb : Below w.heap.size w W) => phold_keep (y' := ⟨{ y.x with links := sm }, y.ao, y.cap⟩) (hp.below hb) hlen (HY.out.below hb) rfl hwf ha2 hh)
    have HL := Lib.hid (fun (W w' : World) (hb : Below w.heap.size w W) (h1 : PTab w' b m (a ++ (⟨{ y.x with links := sm }, y.ao, y.cap⟩ : Iv) :: r) t.next) (hk : Kept (fun k => k ≠ m) W w') => PTab.leaves (t' := ⟨(a ++ (⟨{ y.x with links := sm }, y.ao, y.cap⟩ : Iv) :: r).map (·.x), t.next⟩) HZ.out h1 rfl (Went.turned ((Kept.ofBelow hb _).trans hk) rfl))
    clear hp g1 g2 hz hm hs hn hnx h1 hb hq hin hsm hw0 hrise hr ha ha2 hyI hwf hlen hy hh
    go_enter Try.func11, Try.ntmps11
    go_wp2_with (first
      | (go_at_call 31; refine CF.out.mono ?_; rintro e w1 ⟨rfl, hb1⟩; have HB1 := Lib.hid hb1; have HB2 := Lib.hid (HA2.out _ hb1); clear hb1)
      | (go_at_call 32; with_reducible refine (CS.out _).mono ?_; rintro e w' ⟨rfl, rfl⟩)
      | (go_at_call 33; with_reducible refine (CW.out _).mono ?_; rintro e w' ⟨rfl, rfl⟩)
      | (go_at_call 34; refine (CH.out _ HB2.out).mono ?_; rintro e w3 ⟨rfl, hp3, hk3⟩; have HL3 := Lib.hid (HL.out _ _ HB2.out hp3 hk3); clear hp3 hk3))
    go_ret
    exact ⟨rfl, HL3.out⟩
end Go.Proofs.Ytfkgeefoknaldaa
namespace Go.Proofs.Ytfkgeefoknaldaa
open Go.RowKit
set_option linter.unusedVariables false
set_option maxRecDepth 20000
set_option maxHeartbeats 4000000 in
theorem rwrite_any {G : Nat → Prop} (w : World) (q : Nat) (t : Tb) (n off k ad : Int) (h : RT q G w t) (ht : TbI t) (ho : -9223372036854775808 ≤ off ∧ off ≤ 9223372036854775807) (hkk : -9223372036854775808 ≤ k ∧ k ≤ 9223372036854775807) :
    Calls Try.prog 38 #[.pointer (some ⟨q, 0, none⟩), .int .i64 n, .int .i64 off, .int .i64 k, .int .i64 ad] w fun e w' => e = .returned (.int .i64 (writeI t n off k ad).2) ∧ Leaves (RT q) G w w' (writeI t n off k ad).1 := by
  have HRT := Lib.hid h
  have HS := Lib.hid (fun (W : World) (hb : Below w.heap.size w W) => Leaves.same (rt_thing q) HRT.out hb)
  obtain ⟨g, cap, l, hm, hd, hz⟩ := h
  have HZ := Lib.hid hz
  clear hz
  have hl := DTab.few (w := w) (B := 0) (q := q) (g := g) (cap := cap) ht hm
  have HD := Lib.hid hd
  unfold writeI
  rcases iv_cases l n with ⟨h1, h2⟩ | ⟨a, y, r, h1, h2, h3, h4⟩
  · rw [hm] at h2
    rw [fileI_none h2]
    have CF := Lib.hid (rfile_none w 0 q g cap l t.next n hd (by omega) h1)
    clear h1 h2 hd
    go_enter Try.func38, Try.ntmps38
    go_wp2_with (go_at_call 52; refine CF.out.mono ?_; rintro e w' ⟨rfl, rfl⟩)
    go_ret
    exact ⟨rfl, HS.out _ (Below.refl _ _)⟩
  subst h1
  rw [hm] at h4
  have hka : a.length < (a ++ y :: r).length := by simp
  have CF := Lib.hid (fun rr => rfile_some w 0 q g cap (a ++ y :: r) t.next n hd (by omega) a.length hka (by rw [iv_at]; exact h2) (iv_before h3) rr)
  rw [iv_at] at CF
  by_cases hk : y.x.kind = 1
  · rw [fileI_dir h4 hk]
    have CG := Lib.hid (CF.out 63 (.inl ⟨hk, rfl⟩))
    clear CF h4 hd hk h3
    go_enter Try.func38, Try.ntmps38
    go_wp2_with (go_at_call 52; refine CG.out.mono ?_; rintro e w' ⟨rfl, rfl⟩)
    go_ret
    exact ⟨rfl, HS.out _ (Below.refl _ _)⟩
  rw [fileI_yes h4 hk]
  have CG := Lib.hid (CF.out 0 (.inr ⟨hk, rfl⟩))
  clear CF
  by_cases hb : 0 ≤ off ∧ off ≤ 8192 ∧ 1 ≤ k ∧ k ≤ 1024 ∧ off + k ≤ 8192
  rotate_left
  · have hf : ∀ x, writeF off k ad x = (x, 67) := fun x => if_neg hb
    simp only [hf]
    rw [turnI_same]
    rcases (show off < 0 ∨ (0 ≤ off ∧ 8192 < off) ∨ (0 ≤ off ∧ off ≤ 8192 ∧ k < 1) ∨ (0 ≤ off ∧ off ≤ 8192 ∧ 1 ≤ k ∧ 1024 < k) ∨ (0 ≤ off ∧ off ≤ 8192 ∧ 1 ≤ k ∧ k ≤ 1024 ∧ 8192 < off + k) from by omega) with c | c | c | c | c
    all_goals
      clear hb hf h4 hd hk h3
      go_enter Try.func38, Try.ntmps38
      go_wp2_with (go_at_call 52; refine CG.out.mono ?_; rintro e w' ⟨rfl, rfl⟩)
      go_ret
      exact ⟨rfl, HS.out _ (Below.refl _ _)⟩
  obtain ⟨s0, s1, s2, s3, s4⟩ := hb
  have hI := hd.each y (List.mem_append_right _ List.mem_cons_self)
  have hplen : y.x.parts.length ≤ maxLen := by
    have := (goodE_iff.1 (ht.each y.x (by rw [← hm]; exact List.mem_map.2 ⟨y, List.mem_append_right _ List.mem_cons_self, rfl⟩)).2.2.2.2.2.2.1).1
    unfold maxLen
    omega
  have hsz : 0 ≤ y.x.size ∧ y.x.size ≤ 8192 := (ht.each y.x (by rw [← hm]; exact List.mem_map.2 ⟨y, List.mem_append_right _ List.mem_cons_self, rfl⟩)).2.2.2.2.2.1
  have CC := Lib.hid (rput_any y.ao y.cap y.x.parts ⟨off, k, ad, 0⟩ w hI.1 hplen)
  obtain ⟨c0, c1⟩ := hd.cells
  have hat := hd.at a.length hka
  rw [iv_at] at hat
  obtain ⟨_, _, _, _, b4, b5⟩ := hat
  have hgl : g < w.heap.size := block_lt_of_cell b5
  have hql : q < w.heap.size := block_lt_of_cell c0
  obtain ⟨N, hN⟩ : ∃ N, (a ++ y :: r).length = N := ⟨_, rfl⟩
  have hkN : (a.length : Int) < (N : Int) := by omega
  have hNl : (N : Int) ≤ 64 := by omega
  rw [hN] at c0
  have HN := Lib.hid (show a.length + (r.length + 1) = N from by rw [← hN]; simp)
  obtain ⟨K, hK⟩ : ∃ K, a.length = K := ⟨_, rfl⟩
  have HK := Lib.hid hK
  rw [hK] at CG hkN b4 b5
  have hw1 : IntKind.i64.wrap (off + k) = off + k := IntWalk.i64_in _ (by omega)
  by_cases hp : (putE y.x.parts ⟨off, k, ad, 0⟩).2 = 0
  rotate_left
  · have hp2 : ((putE y.x.parts ⟨off, k, ad, 0⟩).2 == 0) = false := beq_eq_false_iff_ne.2 hp
    have hf : writeF off k ad y.x = (y.x, spaceI (putE y.x.parts ⟨off, k, ad, 0⟩).2) := by
      unfold writeF
      rw [if_pos ⟨s0, s1, s2, s3, s4⟩, if_neg hp]
    have hft : turnI t.l n (fun x => (writeF off k ad x).1) = t.l := by
      have h5 := iv_turn (a := a) (r := r) (y := y) (n := n) (f := fun x => (writeF off k ad x).1) (y' := y) (by rw [hm]; exact ht.rise) h2 h3 (by rw [hf])
      rw [hm] at h5
      exact h5.symm
    rw [hft, hf]
    have CS := Lib.hid (rspace_any (putE y.x.parts ⟨off, k, ad, 0⟩).2)
    generalize (putE y.x.parts ⟨off, k, ad, 0⟩).2 = ec at *
    clear hf hft h4 hk h3 hd hka hI HD hN hK
    go_enter Try.func38, Try.ntmps38
    go_wp2_with (first
      | (go_at_call 52; refine CG.out.mono ?_; rintro e w' ⟨rfl, rfl⟩)
      | (go_at_call 53; refine CC.out.mono ?_; rintro e w2 ⟨v2, rfl, hO, hB2⟩; obtain ⟨ao2, cp2, hv2, _⟩ := OR.form par_rows hO; subst hv2; have HB2 := Lib.hid hB2; clear hO hB2)
      | (go_at_call 54; refine (CS.out _).mono ?_; rintro e w' ⟨rfl, rfl⟩))
    go_ret
    exact ⟨rfl, HS.out _ HB2.out⟩
  · have hp2 : ((putE y.x.parts ⟨off, k, ad, 0⟩).2 == 0) = true := beq_iff_eq.2 hp
    have hf : writeF off k ad y.x = ({ y.x with parts := (putE y.x.parts ⟨off, k, ad, 0⟩).1, size := max y.x.size (off + k) }, 0) := by
      unfold writeF
      rw [if_pos ⟨s0, s1, s2, s3, s4⟩, if_pos hp]
    rw [hf]
    have HTN := Lib.hid (fun (ao : Option Addr) (cp : Nat) => iv_turn (a := a) (r := r) (y := y) (n := n) (f := fun x => (writeF off k ad x).1) (y' := ⟨{ y.x with parts := (putE y.x.parts ⟨off, k, ad, 0⟩).1, size := max y.x.size (off + k) }, ao, cp⟩) (by rw [hm]; exact ht.rise) h2 h3 (by rw [hf]))
    rw [hm] at HTN
    rw [hp] at CC
    generalize (putE y.x.parts ⟨off, k, ad, 0⟩).1 = P2 at *
    have HDD := Lib.hid hd
    clear hf h4 hk h3 hd hka hI HD hN hK hp hp2
    go_enter Try.func38, Try.ntmps38
    go_wp2_with (first
      | (go_at_call 52; refine CG.out.mono ?_; rintro e w' ⟨rfl, rfl⟩)
      | (go_at_call 53; refine CC.out.mono ?_; rintro e w2 ⟨v2, rfl, hO, hB2⟩; have hdx := DTab.below HDD.out hB2; obtain ⟨ao2, cp2, hv2, hI2, hn2⟩ := IvIn.fresh3 (x := { y.x with parts := P2 }) hO rfl hql hgl; subst hv2; have cq2 := hdx.cells.1; simp only [List.length_append, List.length_cons, HN.out] at cq2; have qf2 := (hdx.free (K * 6 + 5)).1; have qb2 := lt_of_block hdx.head; have qg2 := Nat.lt_of_lt_of_le hgl hB2.size; have HP2 := Lib.hid (DTab.put (y' := ⟨{ y.x with parts := P2 }, ao2, cp2⟩) hdx 5 (.slice ao2 P2.length cp2) (by decide) rfl hI2 HK.out.symm); have b52 := cellB hB2 hgl b5; have HN2 := Lib.hid hn2; have HBB := Lib.hid ((Kept.ofBelow hB2 (fun k => k ≠ q ∧ k ≠ g)).setCell (p := ⟨g, K * 6 + 5, none⟩) (fun e => e.2 rfl) (.slice ao2 P2.length cp2)); clear hO hB2 hdx hn2))
    generalize w2.setCell _ _ = W3 at *
    have hd3 := HP2.out
    obtain ⟨c0', _⟩ := hd3.cells
    simp only [List.length_append, List.length_cons, HN.out] at c0'
    obtain ⟨_, _, _, _, b4', _⟩ := hd3.at a.length (by simp)
    rw [iv_at, HK.out] at b4'
    have qf4 := (hd3.free (K * 6 + 4)).1
    have qb4 := block_lt_of_cell b4'
    have qb5 := block_lt_of_cell c0'
    have HP3 := Lib.hid (DTab.put (y' := ⟨{ y.x with parts := P2, size := max y.x.size (off + k) }, ao2, cp2⟩) hd3 4 (.int .i64 (max y.x.size (off + k))) (by decide) rfl ((hd3.each _ (List.mem_append_right _ List.mem_cons_self)).turn _ rfl) HK.out.symm)
    have cq3 := HP3.out.cells.1
    simp only [List.length_append, List.length_cons, HN.out] at cq3
    clear hd3
    clear b52 b4 b5 cq2 qf2 qg2 c0 c1 qb2
    go_wp2_with fail
    rw [show Op.load 3 (.tmp 83) = laterOp (Op.load 3 (.tmp 83)) from rfl]
    go_region_held3 (fun W => W.cell? ⟨q, 0, none⟩ = some (.slice (some ⟨g, 0, none⟩) N cap))
      (first | with_reducible exact c0' | with_reducible exact cq3 | exact c0' | exact cq3)
      (fail)
    all_goals
      go_wp2_with fail
      go_ret
      exact ⟨rfl, DTab.leaves (t' := ⟨_, t.next⟩) HZ.out (DTab.below HP3.out (Below.refl _ _).drew) (HTN.out ao2 cp2) (Went.put (HBB.out.setCell (p := ⟨g, K * 6 + 4, none⟩) (fun e => e.2 rfl) _).drew (.inr (fun a e => HN2.out a e)))⟩
end Go.Proofs.Ytfkgeefoknaldaa
namespace Go.Proofs.Ytfkgeefoknaldaa
open Go.RowKit
set_option linter.unusedVariables false
set_option maxRecDepth 20000
theorem moves_step {to : Int} {P : List Pt} {ms : List Mv} {i : Nat} (hi : i < ms.length) : movesE to P (ms.drop i) = if (moveE P ms[i] to).2 = 0 then movesE to (moveE P ms[i] to).1 (ms.drop (i + 1)) else ([], (moveE P ms[i] to).2) := by
  rw [List.drop_eq_getElem_cons hi]
  rfl
set_option maxHeartbeats 4000000 in
theorem rmov_any {G : Nat → Prop} (w : World) (q : Nat) (t : Tb) (n to : Int) (mo : Option Addr) (mc : Nat) (ms : List Mv) (h : RT q G w t) (ht : TbI t) (hmv : MvL w mo ms) (hml : ms.length ≤ 1000) :
    Calls Try.prog 40 #[.pointer (some ⟨q, 0, none⟩), .int .i64 n, .slice mo ms.length mc, .int .i64 to] w fun e w' => e = .returned (.int .i64 (movI t n ms to).2) ∧ Leaves (RT q) G w w' (movI t n ms to).1 := by
  have HRT := Lib.hid h
  have HS := Lib.hid (fun (W : World) (hb : Below w.heap.size w W) => Leaves.same (rt_thing q) HRT.out hb)
  obtain ⟨g, cap, l, hm, hd, hz⟩ := h
  have HZ := Lib.hid hz
  clear hz
  have hl := DTab.few (w := w) (B := 0) (q := q) (g := g) (cap := cap) ht hm
  have HD := Lib.hid hd
  unfold movI
  rcases iv_cases l n with ⟨h1, h2⟩ | ⟨a, y, r, h1, h2, h3, h4⟩
  · rw [hm] at h2
    rw [fileI_none h2]
    have CF := Lib.hid (rfile_none w 0 q g cap l t.next n hd (by omega) h1)
    clear h1 h2 hd
    go_enter Try.func40, Try.ntmps40
    go_wp2_with (go_at_call 52; refine CF.out.mono ?_; rintro e w' ⟨rfl, rfl⟩)
    go_ret
    exact ⟨rfl, HS.out _ (Below.refl _ _)⟩
  subst h1
  rw [hm] at h4
  have hka : a.length < (a ++ y :: r).length := by simp
  have CF := Lib.hid (fun rr => rfile_some w 0 q g cap (a ++ y :: r) t.next n hd (by omega) a.length hka (by rw [iv_at]; exact h2) (iv_before h3) rr)
  rw [iv_at] at CF
  by_cases hk : y.x.kind = 1
  · rw [fileI_dir h4 hk]
    have CG := Lib.hid (CF.out 63 (.inl ⟨hk, rfl⟩))
    clear CF h4 hd hk h3
    go_enter Try.func40, Try.ntmps40
    go_wp2_with (go_at_call 52; refine CG.out.mono ?_; rintro e w' ⟨rfl, rfl⟩)
    go_ret
    exact ⟨rfl, HS.out _ (Below.refl _ _)⟩
  rw [fileI_yes h4 hk]
  have CG := Lib.hid (CF.out 0 (.inr ⟨hk, rfl⟩))
  clear CF
  have hI := hd.each y (List.mem_append_right _ List.mem_cons_self)
  have hgd := (ht.each y.x (by rw [← hm]; exact List.mem_map.2 ⟨y, List.mem_append_right _ List.mem_cons_self, rfl⟩)).2.2.2.2.2.2.1
  obtain ⟨c0, c1⟩ := hd.cells
  have hat := hd.at a.length hka
  rw [iv_at] at hat
  obtain ⟨_, _, _, _, b4, b5⟩ := hat
  have hgl : g < w.heap.size := block_lt_of_cell b5
  have hql : q < w.heap.size := block_lt_of_cell c0
  obtain ⟨N, hN⟩ : ∃ N, (a ++ y :: r).length = N := ⟨_, rfl⟩
  have hkN : (a.length : Int) < (N : Int) := by omega
  have hNl : (N : Int) ≤ 64 := by omega
  rw [hN] at c0
  have HN := Lib.hid (show a.length + (r.length + 1) = N from by rw [← hN]; simp)
  obtain ⟨K, hK⟩ : ∃ K, a.length = K := ⟨_, rfl⟩
  have HK := Lib.hid hK
  rw [hK] at CG hkN b4 b5
  have hmI : (ms.length : Int) ≤ 1000 := by omega
  have HMV := Lib.hid hmv
  have HG := Lib.hid hgd
  have HI := Lib.hid hI
  have HDD := Lib.hid hd
  have HBAD := Lib.hid (fun (c : Int) (hc : ¬ c = 0) (he : movesE to y.x.parts ms = ([], c)) => show (moveF ms to y.x) = (y.x, spaceI c) from by unfold moveF; rw [he, if_neg hc])
  have HSAME := Lib.hid (fun (c : Int) (hf : moveF ms to y.x = (y.x, c)) => show turnI t.l n (fun x => (moveF ms to x).1) = t.l from by
    have h5 := iv_turn (a := a) (r := r) (y := y) (n := n) (f := fun x => (moveF ms to x).1) (y' := y) (by rw [hm]; exact ht.rise) h2 h3 (by rw [hf])
    rw [hm] at h5
    exact h5.symm)
  have HTN := Lib.hid (fun (P : List Pt) (ao : Option Addr) (cp : Nat) (he : movesE to y.x.parts ms = (P, 0)) => show moveF ms to y.x = ({ y.x with parts := P }, 0) ∧ (a ++ (⟨{ y.x with parts := P }, ao, cp⟩ : Iv) :: r).map (·.x) = turnI t.l n (fun x => (moveF ms to x).1) from by
    have hf : moveF ms to y.x = ({ y.x with parts := P }, 0) := by
      unfold moveF
      rw [he]
      exact if_pos rfl
    have h5 := iv_turn (a := a) (r := r) (y := y) (n := n) (f := fun x => (moveF ms to x).1) (y' := ⟨{ y.x with parts := P }, ao, cp⟩) (by rw [hm]; exact ht.rise) h2 h3 (by rw [hf])
    rw [hm] at h5
    exact ⟨hf, h5⟩)
  have CS := Lib.hid rspace_any
  clear h4 hk h3 hd hka hI HD hN hK hgd hmv hm
  generalize moveF ms to y.x = MF at *
  generalize (turnI t.l n fun x => (moveF ms to x).1) = TL at *
  go_enter Try.func40, Try.ntmps40
  go_wp2_with (go_at_call 52; refine CG.out.mono ?_; rintro e w' ⟨rfl, rfl⟩)
  go_loopw [11, 12] (fun v x wr => ∃ (i : Nat) (P : List Pt) (ao : Option Addr) (cp : Nat), v = .slice ao P.length cp ∧ x = .int .i64 i ∧ i ≤ ms.length ∧ P.length ≤ 64 ∧ Hid (goodE P = true) ∧ Hid (movesE to y.x.parts ms = movesE to P (ms.drop i)) ∧ Hid (IvIn wr q g ⟨{ y.x with parts := P }, ao, cp⟩) ∧ Hid (ao = y.ao ∨ ∀ a, ao = some a → w.heap.size ≤ a.block) ∧ Hid (Below w.heap.size w wr)) (fun _ x _ => ms.length - (intOf x).toNat)
  case atStart => exact ⟨0, y.x.parts, y.ao, y.cap, rfl, rfl, Nat.zero_le _, (goodE_iff.1 HG.out).1, HG, Lib.hid rfl, Lib.hid (HI.out.turn _ rfl), Lib.hid (.inl rfl), Lib.hid (Below.refl _ _)⟩
  case round =>
    obtain ⟨i, P, ao, cp, rfl, rfl, hi, hPl, HGP, HME, HIP, HNP, HBW⟩ := hrel
    by_cases hlt : i < ms.length
    · have i0 : (i : Int) < (ms.length : Int) := by omega
      obtain ⟨bk, bo, hao, m0, m1, m2, m3⟩ := (MvL.below HMV.out HBW.out).at i hlt
      subst hao
      have hst := moves_step (to := to) (P := P) hlt
      rw [← HME.out] at hst
      generalize ms[i] = mm at *
      have CM := Lib.hid (rmove_any ao cp P mm to wr HIP.out.1 (by unfold maxLen; omega))
      by_cases hc : (moveE P mm to).2 = 0
      · rw [if_pos hc] at hst
        obtain ⟨h5, h6⟩ := moveI_is HGP.out hc
        have HG2 := Lib.hid h5
        have hl2 := (goodE_iff.1 h5).1
        have HM2 := Lib.hid hst
        rw [hc] at CM
        generalize (moveE P mm to).1 = P2 at *
        clear hst h5 h6 hc
        go_wp2_with (go_at_call 56; refine CM.out.mono ?_; rintro e w2 ⟨v2, rfl, hO, hB2⟩; obtain ⟨ao2, cp2, hv2, hI2, hn2⟩ := IvIn.fresh3 (x := { y.x with parts := P2 }) hO rfl (Nat.lt_of_lt_of_le hql HBW.out.size) (Nat.lt_of_lt_of_le hgl HBW.out.size); subst hv2; have HI2 := Lib.hid hI2; have HN2 := Lib.hid (show ao2 = y.ao ∨ ∀ a, ao2 = some a → w.heap.size ≤ a.block from .inr (fun a e => Nat.le_trans HBW.out.size (hn2 a e))); have HB2 := Lib.hid (blwO hB2 HBW.out); clear hO hB2 hI2 hn2)
        go_roundw
        case rel => exact ⟨i + 1, P2, ao2, cp2, rfl, by go_num, by omega, hl2, HG2, HM2, HI2, HN2, HB2⟩
        case measure => simp [intOf]; omega
      · have hc2 : ((moveE P mm to).2 == 0) = false := beq_eq_false_iff_ne.2 hc
        rw [if_neg hc] at hst
        have hf := HBAD.out _ hc hst
        have hsm := HSAME.out _ hf
        subst hf
        subst hsm
        obtain ⟨ec, hec⟩ : ∃ ec, (moveE P mm to).2 = ec := ⟨_, rfl⟩
        have HEC := Lib.hid hec
        rw [hec] at CM hc2
        clear hst hec hc
        go_wp2_with (first
          | (go_at_call 56; refine CM.out.mono ?_; rintro e w2 ⟨v2, rfl, hO, hB2⟩; obtain ⟨ao2, cp2, hv2, _⟩ := OR.form par_rows hO; subst hv2; have HB2 := Lib.hid (blwO hB2 HBW.out); clear hO hB2)
          | (go_at_call 54; refine (CS.out _ _).mono ?_; rintro e w' ⟨rfl, rfl⟩))
        go_ret
        exact ⟨by rw [HEC.out]; rfl, HS.out _ HB2.out⟩
    · obtain rfl : i = ms.length := by omega
      have he := HME.out
      rw [List.drop_length] at he
      obtain ⟨hf, htl⟩ := HTN.out P ao cp he
      have hdx := DTab.below HDD.out HBW.out
      have cq2 := hdx.cells.1
      simp only [List.length_append, List.length_cons, HN.out] at cq2
      have qf2 := (hdx.free (K * 6 + 5)).1
      have qb2 := lt_of_block hdx.head
      have qg2 := Nat.lt_of_lt_of_le hgl HBW.out.size
      have b52 := cellB HBW.out hgl b5
      have HP2 := Lib.hid (DTab.put (y' := ⟨{ y.x with parts := P }, ao, cp⟩) hdx 5 (.slice ao P.length cp) (by decide) rfl HIP.out HK.out.symm)
      have HBB := Lib.hid ((Kept.ofBelow HBW.out (fun k => k ≠ q ∧ k ≠ g)).setCell (p := ⟨g, K * 6 + 5, none⟩) (fun e => e.2 rfl) (.slice ao P.length cp))
      have HTL := Lib.hid htl
      clear hdx he htl
      subst hf
      go_wp2_with fail
      go_ret
      exact ⟨rfl, DTab.leaves (t' := ⟨TL, t.next⟩) HZ.out HP2.out HTL.out (Went.put HBB.out HNP.out)⟩
end Go.Proofs.Ytfkgeefoknaldaa
namespace Go.Proofs.Ytfkgeefoknaldaa
open Go.RowKit
set_option linter.unusedVariables false
set_option maxRecDepth 20000
set_option maxHeartbeats 1000000 in
theorem rmakeI_no {G : Nat → Prop} (w : World) (q : Nat) (t : Tb) (kd : Int) (h : RT q G w t) (ht : TbI t) (hno : ¬ (kindB kd = true ∧ t.l.length < 64)) :
    Calls Try.prog 12 #[.pointer (some ⟨q, 0, none⟩), .int .i64 kd] w fun e w' => e = .returned (.tuple #[.int .i64 (makeI t kd).2.1, .int .i64 (makeI t kd).2.2]) ∧ Leaves (RT q) G w w' (makeI t kd).1 := by
  have HRT := Lib.hid h
  have HS := Lib.hid (fun (W : World) (hb : Below w.heap.size w W) => Leaves.same (rt_thing q) HRT.out hb)
  obtain ⟨g, cap, l, hm, hd, hz⟩ := h
  have HZ := Lib.hid hz
  clear hz
  have hl := DTab.few (w := w) (B := 0) (q := q) (g := g) (cap := cap) ht hm
  have hll : l.length = t.l.length := by rw [← hm, List.length_map]
  obtain ⟨c0, c1⟩ := hd.cells
  have hql := lt_of_block hd.head
  unfold makeI
  by_cases hk : kindB kd = true
  rotate_left
  · have hk2 : ¬ kd = 1 ∧ ¬ kd = 2 := by
      have := of_decide_eq_false (Bool.eq_false_iff.2 hk)
      exact ⟨fun e => this (.inl e), fun e => this (.inr e)⟩
    rw [if_neg hk]
    have e1 : (kd != 1) = true := bne_iff_ne.2 hk2.1
    have e3 : ¬ kd = 1 := hk2.1
    have e4 : ¬ kd = 2 := hk2.2
    have e2 : (kd != 2) = true := bne_iff_ne.2 hk2.2
    clear hk hk2 hd hno
    go_enter Try.func12, Try.ntmps12
    go_wp2_with fail
    go_ret2
    exact ⟨rfl, HS.out _ (Below.refl _ _)⟩
  rw [if_pos hk]
  have hk2 : kd = 1 ∨ kd = 2 := of_decide_eq_true hk
  have h64 : ¬ t.l.length < 64 := fun e => hno ⟨hk, e⟩
  rw [if_neg h64]
  have l64 : (64 : Int) ≤ (l.length : Int) := by omega
  rcases hk2 with rfl | rfl
  all_goals
    clear hk hd h64 hll hno
    go_enter Try.func12, Try.ntmps12
    go_wp2_with fail
    go_ret2
    exact ⟨rfl, HS.out _ (Below.refl _ _)⟩
end Go.Proofs.Ytfkgeefoknaldaa
