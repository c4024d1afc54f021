/- Stage 20: the program's hold: an inode is put back, or goes. Conditions: the table lies where the call was told; numbers of 64 bits. Stage 20: the document's Truncate. No conditions. Stage 20: how many parts a write leaves; the table of a root and one file: what writing and cutting make of it. No conditions. -/
import Derived.Test.YtfkgeefoknaldaaG26a
import Derived.Test.YtfkgeefoknaldaaG22a
set_option linter.unusedVariables false
namespace Go.Proofs.Ytfkgeefoknaldaa
open Go.RowKit Go.Maps
set_option linter.unusedVariables false
set_option maxRecDepth 20000
/-- m[k] = y, in a walk -/
theorem wpList_set_ino {ops : Array Oper} {rest : List Oper} {o : Oper} {x : Act} {w : World} {Q : Exit → Act → World → Prop} (hg : o.guard = none) (m k v : Operand) (hop : o.op = Op.mapUpdate 69 m k v)
    {b : Nat} {l l' : List Iv} (hm : x.eval m = .map (some b)) (h : MM w b l) (hn : l.length ≤ 1000000) {u : Int} {y : Iv} (hu : (Lit.int .i64 u).wf = true) (hk : x.eval k = .int .i64 u)
    (hv : x.eval v = .agg #[.int .i64 y.x.ino, .int .i64 y.x.kind, .int .i64 y.x.links, .int .i64 y.x.opens, .int .i64 y.x.size, .slice y.ao y.x.parts.length y.cap])
    (hgv : ∀ v, getV l' v = if v = u then some y else getV l v) (hl : l'.length = if (getV l u).isSome then l.length else l.length + 1)
    (hK : ∀ w', MM w' b l' → w.grownBy w' (some b) → wpList Try.prog ops Q rest (x.put o.dst undef) w') : wpList Try.prog ops Q (o :: rest) x w := by
  obtain ⟨D, h1, h2⟩ := h
  exact wpList_mapUpdate_own w hg m k v _ hop 3 50 nint_law Try.underlying69 heldR b _ D hm h1 (by unfold maxLen; omega) _ _ _ hk hv (nint_key hu) (.held (ivV y)) [] rfl
    (fun w' r1 r2 => hK w' (MM.of r1 (h2.put hu hgv hl)) r2)
/-- delete(m, k), in a walk -/
theorem wpList_del_ino {ops : Array Oper} {rest : List Oper} {o : Oper} {x : Act} {w : World} {Q : Exit → Act → World → Prop} (hg : o.guard = none) (m k : Operand) (hop : o.op = Op.call { callee := Callee.builtin Builtin.delete, args := #[m, k], argTypes := #[69, 3] })
    {b : Nat} {l l' : List Iv} (hm : x.eval m = .map (some b)) (h : MM w b l) {u : Int} (hu : (Lit.int .i64 u).wf = true) (hk : x.eval k = .int .i64 u)
    (hgv : ∀ v, getV l' v = if v = u then none else getV l v) (hl : l'.length + (if (getV l u).isSome then 1 else 0) = l.length)
    (hK : ∀ w', MM w' b l' → w.grownBy w' (some b) → wpList Try.prog ops Q rest (x.put o.dst (.tuple #[])) w') : wpList Try.prog ops Q (o :: rest) x w := by
  obtain ⟨D, h1, h2⟩ := h
  exact wpList_delete_own w hg m k 69 3 hop 50 nint_law Try.underlying69 heldR b _ D hm h1 _ _ hk (nint_key hu)
    (fun w' r1 r2 => hK w' (MM.of r1 (h2.del hu hgv hl)) r2.grown)
theorem ino_cells {w : World} {g : Nat} {y : Iv} (h : w.heap[g]? = some (inoO y)) : w.cell? ⟨g, 0, none⟩ = some (.int .i64 y.x.ino) ∧ w.cell? ⟨g, 1, none⟩ = some (.int .i64 y.x.kind) ∧ w.cell? ⟨g, 2, none⟩ = some (.int .i64 y.x.links) ∧ w.cell? ⟨g, 3, none⟩ = some (.int .i64 y.x.opens) ∧ w.cell? ⟨g, 4, none⟩ = some (.int .i64 y.x.size) ∧ w.cell? ⟨g, 5, none⟩ = some (.slice y.ao y.x.parts.length y.cap) := ⟨cell_of h 0, cell_of h 1, cell_of h 2, cell_of h 3, cell_of h 4, cell_of h 5⟩
/-- one turned in the table -/
theorem PTab.set {w w' : World} {b m : Nat} {a r : List Iv} {y y' : Iv} {next : Int} (h : PTab w b m (a ++ y :: r) next) (hy : IvIn w b m y') (hg : w.grownBy w' (some m)) (hm : MM w' m (a ++ y' :: r)) : PTab w' b m (a ++ y' :: r) next :=
  h.turn hg hm (fun z hz => by
    rcases List.mem_append.1 hz with hz | hz
    · exact h.each z (List.mem_append_left _ hz)
    · rcases List.mem_cons.1 hz with rfl | hz
      · exact hy
      · exact h.each z (List.mem_append_right _ (List.mem_cons_of_mem _ hz)))
theorem PTab.gone {w w' : World} {b m : Nat} {a r : List Iv} {y : Iv} {next : Int} (h : PTab w b m (a ++ y :: r) next) (hg : w.grownBy w' (some m)) (hm : MM w' m (a ++ r)) : PTab w' b m (a ++ r) next :=
  h.turn hg hm (fun z hz => by
    rcases List.mem_append.1 hz with hz | hz
    · exact h.each z (List.mem_append_left _ hz)
    · exact h.each z (List.mem_append_right _ (List.mem_cons_of_mem _ hz)))
set_option maxHeartbeats 4000000 in
theorem phold_keep {w : World} {b m : Nat} {a r : List Iv} {y y' : Iv} {next : Int} (h : PTab w b m (a ++ y :: r) next) (hn : (a ++ y :: r).length ≤ 1000000) (hy : IvIn w b m y') (he : y'.x.ino = y.x.ino) (hu : (Lit.int .i64 y.x.ino).wf = true) (ha : ∀ z ∈ a, z.x.ino ≠ y.x.ino) (hh : heldB y'.x = true) :
    Calls Try.prog 34 #[.pointer (some ⟨b, 0, none⟩), .agg #[.int .i64 y'.x.ino, .int .i64 y'.x.kind, .int .i64 y'.x.links, .int .i64 y'.x.opens, .int .i64 y'.x.size, .slice y'.ao y'.x.parts.length y'.cap]] w fun e w' => e = .returned (.tuple #[]) ∧ PTab w' b m (a ++ y' :: r) next ∧ Kept (fun k => k ≠ m) w w' := by
  have CH := Lib.hid (pheld_any y' (w.alloc (inoO y')))
  rw [hh] at CH
  have HB0 := Lib.hid (blwA w (inoO y'))
  have HG := Lib.hid (fun v => getV_turn (r := r) ha he v)
  have HL := Lib.hid (show (a ++ y' :: r).length = if (getV (a ++ y :: r) y.x.ino).isSome then (a ++ y :: r).length else (a ++ y :: r).length + 1 from by rw [getV_at ha]; simp)
  have HT := Lib.hid h
  have HY := Lib.hid hy
  have HN := Lib.hid hn
  have HU := Lib.hid hu
  have HE := Lib.hid he
  clear h hy hn hu ha hh he
  go_enter Try.func34, Try.ntmps34
  go_wp2_with (go_at_call 51; refine CH.out.mono ?_; rintro e w1 ⟨rfl, hb1⟩; have HB1 := Lib.hid (blwO hb1 HB0.out); have HT1 := Lib.hid ((HT.out.below (blwO hb1 HB0.out)).below (Below.refl _ w1).drew); have HY1 := Lib.hid ((HY.out.below (blwO hb1 HB0.out)).below (Below.refl _ w1).drew); obtain ⟨c0, c1, f0, f1, hbl⟩ := HT1.out.cells; obtain ⟨d0, d1, d2, d3, d4, d5⟩ := ino_cells (w := w1.drew) (g := w.heap.size) (y := y') (below_heap (hb1.drew) (heap_alloc_new _ _)); clear hb1)
  go_still_tail 7, (by kernel_rfl)
  change wpList _ _ _ _ _ w1.drew
  go_wp2_with (at_mapUpdate; refine wpList_set_ino (y := y') (l' := a ++ y' :: r) rfl _ _ _ rfl rfl HT1.out.map HN.out HU.out (by rw [← HE.out]; rfl) rfl HG.out HL.out ?_; intro w2 hm2 hg2; have HP2 := Lib.hid (HT1.out.set HY1.out hg2 hm2); have HK2 := Lib.hid (((Kept.ofBelow HB1.out (fun k => k ≠ m)).drew).grown hg2 (fun k e hk => hk (Option.some.inj e).symm)); clear hm2 hg2)
  refine bodyPost_ret (results_none rfl _ _ _) rfl ?_
  exact ⟨rfl, HP2.out, HK2.out⟩
set_option maxHeartbeats 4000000 in
theorem phold_drop {w : World} {b m : Nat} {a r : List Iv} {y y' : Iv} {next : Int} (h : PTab w b m (a ++ y :: r) next) (he : y'.x.ino = y.x.ino) (hu : (Lit.int .i64 y.x.ino).wf = true) (ha : ∀ z ∈ a, z.x.ino ≠ y.x.ino) (hr : ∀ z ∈ r, z.x.ino ≠ y.x.ino) (hh : heldB y'.x = false) :
    Calls Try.prog 34 #[.pointer (some ⟨b, 0, none⟩), .agg #[.int .i64 y'.x.ino, .int .i64 y'.x.kind, .int .i64 y'.x.links, .int .i64 y'.x.opens, .int .i64 y'.x.size, .slice y'.ao y'.x.parts.length y'.cap]] w fun e w' => e = .returned (.tuple #[]) ∧ PTab w' b m (a ++ r) next ∧ Kept (fun k => k ≠ m) w w' := by
  have CH := Lib.hid (pheld_any y' (w.alloc (inoO y')))
  rw [hh] at CH
  have HB0 := Lib.hid (blwA w (inoO y'))
  have HG := Lib.hid (fun v => getV_drop ha hr v)
  have HL := Lib.hid (show (a ++ r).length + (if (getV (a ++ y :: r) y.x.ino).isSome then 1 else 0) = (a ++ y :: r).length from by rw [getV_at ha]; simp; omega)
  have HT := Lib.hid h
  have HU := Lib.hid hu
  have HE := Lib.hid he
  clear h hu ha hh hr he
  go_enter Try.func34, Try.ntmps34
  go_wp2_with (go_at_call 51; refine CH.out.mono ?_; rintro e w1 ⟨rfl, hb1⟩; have HB1 := Lib.hid (blwO hb1 HB0.out); have HT1 := Lib.hid ((HT.out.below (blwO hb1 HB0.out)).below (Below.refl _ w1).drew); obtain ⟨c0, c1, f0, f1, hbl⟩ := HT1.out.cells; obtain ⟨d0, d1, d2, d3, d4, d5⟩ := ino_cells (w := w1.drew) (g := w.heap.size) (y := y') (below_heap (hb1.drew) (heap_alloc_new _ _)); clear hb1)
  go_still_tail 6, (by kernel_rfl)
  change wpList _ _ _ _ _ w1.drew
  go_wp2_with (at_delete; refine wpList_del_ino (l' := a ++ r) rfl _ _ rfl rfl HT1.out.map HU.out (by rw [← HE.out]; rfl) HG.out HL.out ?_; intro w2 hm2 hg2; have HP2 := Lib.hid (HT1.out.gone hg2 hm2); have HK2 := Lib.hid (((Kept.ofBelow HB1.out (fun k => k ≠ m)).drew).grown hg2 (fun k e hk => hk (Option.some.inj e).symm)); clear hm2 hg2)
  go_end0
  exact ⟨rfl, HP2.out, HK2.out⟩
end Go.Proofs.Ytfkgeefoknaldaa
namespace Go.Proofs.Ytfkgeefoknaldaa
open Go.RowKit
set_option linter.unusedVariables false
set_option maxRecDepth 20000
set_option maxHeartbeats 4000000 in
theorem rtrunc_any {G : Nat → Prop} (w : World) (q : Nat) (t : Tb) (n s : Int) (h : RT q G w t) (ht : TbI t) (hs : -9223372036854775808 ≤ s ∧ s ≤ 9223372036854775807) :
    Calls Try.prog 39 #[.pointer (some ⟨q, 0, none⟩), .int .i64 n, .int .i64 s] w fun e w' => e = .returned (.int .i64 (truncI t n s).2) ∧ Leaves (RT q) G w w' (truncI t n s).1 := by
  have HRT := Lib.hid h
  have HS := Lib.hid (fun (W : World) (hb : Below w.heap.size w W) => Leaves.same (rt_thing q) HRT.out hb)
  obtain ⟨g, cap, l, hm, hd, hz⟩ := h
  have HZ := Lib.hid hz
  clear hz
  have hl := DTab.few (w := w) (B := 0) (q := q) (g := g) (cap := cap) ht hm
  have HD := Lib.hid hd
  unfold truncI
  rcases iv_cases l n with ⟨h1, h2⟩ | ⟨a, y, r, h1, h2, h3, h4⟩
  · rw [hm] at h2
    rw [fileI_none h2]
    have CF := Lib.hid (rfile_none w 0 q g cap l t.next n hd (by omega) h1)
    clear h1 h2 hd
    go_enter Try.func39, Try.ntmps39
    go_wp2_with (go_at_call 52; refine CF.out.mono ?_; rintro e w' ⟨rfl, rfl⟩)
    go_ret
    exact ⟨rfl, HS.out _ (Below.refl _ _)⟩
  subst h1
  rw [hm] at h4
  have hka : a.length < (a ++ y :: r).length := by simp
  have CF := Lib.hid (fun rr => rfile_some w 0 q g cap (a ++ y :: r) t.next n hd (by omega) a.length hka (by rw [iv_at]; exact h2) (iv_before h3) rr)
  rw [iv_at] at CF
  by_cases hk : y.x.kind = 1
  · rw [fileI_dir h4 hk]
    have CG := Lib.hid (CF.out 63 (.inl ⟨hk, rfl⟩))
    clear CF h4 hd hk h3
    go_enter Try.func39, Try.ntmps39
    go_wp2_with (go_at_call 52; refine CG.out.mono ?_; rintro e w' ⟨rfl, rfl⟩)
    go_ret
    exact ⟨rfl, HS.out _ (Below.refl _ _)⟩
  rw [fileI_yes h4 hk]
  have CG := Lib.hid (CF.out 0 (.inr ⟨hk, rfl⟩))
  clear CF
  by_cases hb : 0 ≤ s ∧ s ≤ 8192
  rotate_left
  · have hf : ∀ x, truncF s x = (x, 67) := fun x => if_neg hb
    simp only [hf]
    rw [turnI_same]
    rcases (show s < 0 ∨ (0 ≤ s ∧ 8192 < s) from by omega) with c | c
    all_goals
      clear hb hf h4 hd hk h3
      go_enter Try.func39, Try.ntmps39
      go_wp2_with (go_at_call 52; refine CG.out.mono ?_; rintro e w' ⟨rfl, rfl⟩)
      go_ret
      exact ⟨rfl, HS.out _ (Below.refl _ _)⟩
  · have hf : ∀ x, truncF s x = ({ x with parts := cutE x.parts s, size := s }, 0) := fun x => if_pos hb
    simp only [hf]
    have hI := hd.each y (List.mem_append_right _ List.mem_cons_self)
    have HTN := Lib.hid (fun (ao : Option Addr) (cp : Nat) => iv_turn (a := a) (r := r) (y := y) (n := n) (f := fun x => { x with parts := cutE x.parts s, size := s }) (y' := ⟨{ y.x with parts := cutE y.x.parts s, size := s }, ao, cp⟩) (by rw [hm]; exact ht.rise) h2 h3 rfl)
    rw [hm] at HTN
    have hplen : y.x.parts.length ≤ maxLen := by
      have := (goodE_iff.1 (ht.each y.x (by rw [← hm]; exact List.mem_map.2 ⟨y, List.mem_append_right _ List.mem_cons_self, rfl⟩)).2.2.2.2.2.2.1).1
      unfold maxLen
      omega
    have CC := Lib.hid (rcut_any y.ao y.cap y.x.parts s hs w.drew (PaL.below hI.1 (Below.refl _ _).drew) hplen)
    obtain ⟨c0, c1⟩ := hd.cells
    have hat := hd.at a.length hka
    rw [iv_at] at hat
    obtain ⟨_, _, _, _, b4, b5⟩ := hat
    have hdd := DTab.below hd (Below.refl _ _).drew
    have HDD := Lib.hid hdd
    have hgl : g < w.drew.heap.size := block_lt_of_cell b5
    have hql : q < w.drew.heap.size := block_lt_of_cell c0
    obtain ⟨N, hN⟩ : ∃ N, (a ++ y :: r).length = N := ⟨_, rfl⟩
    have hkN : (a.length : Int) < (N : Int) := by omega
    have hNl : (N : Int) ≤ 64 := by omega
    rw [hN] at c0
    have HN := Lib.hid (show a.length + (r.length + 1) = N from by rw [← hN]; simp)
    obtain ⟨K, hK⟩ : ∃ K, a.length = K := ⟨_, rfl⟩
    have HK := Lib.hid hK
    rw [hK] at CG hkN b4 b5
    obtain ⟨s0, s1⟩ := hb
    clear hf h4 hk h3 hd hka hdd hI HD hN hK
    go_enter Try.func39, Try.ntmps39
    go_wp2_with (go_at_call 52; refine CG.out.mono ?_; rintro e w' ⟨rfl, rfl⟩)
    rw [show Op.load 48 (.tmp 35) = laterOp (Op.load 48 (.tmp 35)) from rfl]
    go_region_held3 (fun W => W.cell? ⟨q, 0, none⟩ = some (.slice (some ⟨g, 0, none⟩) N cap))
      (first | with_reducible exact c0 | with_reducible exact cq2 | with_reducible exact cq3 | exact c0)
      (first
        | (go_at_call 55; refine CC.out.mono ?_; rintro e w2 ⟨v2, rfl, hO, hB2⟩; have hdx := DTab.below HDD.out hB2; obtain ⟨ao2, cp2, hv2, hI2, hn2⟩ := IvIn.fresh3 (x := { y.x with parts := cutE y.x.parts s }) hO rfl hql hgl; subst hv2; have cq2 := hdx.cells.1; simp only [List.length_append, List.length_cons, HN.out] at cq2; have qf2 := (hdx.free (K * 6 + 5)).1; have qb2 := lt_of_block hdx.head; have qg2 := Nat.lt_of_lt_of_le hgl hB2.size; have HP2 := Lib.hid (DTab.put (y' := ⟨{ y.x with parts := cutE y.x.parts s }, ao2, cp2⟩) hdx 5 (.slice ao2 (cutE y.x.parts s).length cp2) (by decide) rfl hI2 HK.out.symm); have cq3 := HP2.out.cells.1; simp only [List.length_append, List.length_cons, HN.out] at cq3; have HN2 := Lib.hid hn2; have HBB := Lib.hid hB2; have b52 := cellB hB2 hgl (show w.drew.cell? ⟨g, K * 6 + 5, none⟩ = some (.slice y.ao y.x.parts.length y.cap) from b5); clear hO hB2 hdx hn2))
    all_goals
      clear b52 b4 b5 cq2 qf2 qg2
      have HB3 := Lib.hid (((Kept.refl (fun k => k ≠ q ∧ k ≠ g) w).drew.below HBB.out).setCell (p := ⟨g, K * 6 + 5, none⟩) (fun e => e.2 rfl) (.slice ao2 (cutE y.x.parts s).length cp2))
      generalize w2.setCell _ _ = W3 at *
      have hd3 := HP2.out
      obtain ⟨_, _, _, _, b4, _⟩ := hd3.at a.length (by simp)
      rw [iv_at, HK.out] at b4
      have qf4 := (hd3.free (K * 6 + 4)).1
      have qb4 := block_lt_of_cell b4
      have HP3 := Lib.hid (DTab.put (y' := ⟨{ y.x with parts := cutE y.x.parts s, size := s }, ao2, cp2⟩) hd3 4 (.int .i64 s) (by decide) rfl ((hd3.each _ (List.mem_append_right _ List.mem_cons_self)).turn _ rfl) HK.out.symm)
      clear hd3
      go_wp2_with fail
      go_ret
      exact ⟨rfl, DTab.leaves (t' := ⟨_, t.next⟩) HZ.out HP3.out (HTN.out ao2 cp2) (Went.put (HB3.out.setCell (p := ⟨g, K * 6 + 4, none⟩) (fun e => e.2 rfl) _) (.inr (fun a e => HN2.out a e)))⟩
end Go.Proofs.Ytfkgeefoknaldaa
namespace Go.Proofs.Ytfkgeefoknaldaa
set_option linter.unusedVariables false
set_option maxRecDepth 20000
theorem rail_behind {x : Pt} {l : List Pt} (h : railB (x :: l) = true) : ∀ y ∈ l, x.stop ≤ y.off := by
  induction l generalizing x with
  | nil => intro y hy; cases hy
  | cons z l ih =>
    obtain ⟨h1, h2, h3⟩ := railB_cons h
    have hz := (fitB_iff.1 (h3 z l rfl)).1
    intro y hy
    rcases List.mem_cons.1 hy with rfl | hy
    · exact hz
    · have h5 := ih h2 y hy
      have h6 := oneB_iff.1 (railB_cons h2).1
      have : z.stop = z.off + z.len := rfl
      omega
/-- a part begins where no part goes on -/
theorem rail_start {l : List Pt} (h : railB l = true) : ∀ y ∈ l, atE l y.off = some (y.addr, y.src) ∧ atE l (y.off - 1) ≠ some (y.addr, y.src - 1) := by
  induction l with
  | nil => intro y hy; cases hy
  | cons x l ih =>
    obtain ⟨h1, h2, h3⟩ := railB_cons h
    have hb := rail_behind h
    have o := oneB_iff.1 h1
    have hs : x.stop = x.off + x.len := rfl
    intro y hy
    rcases List.mem_cons.1 hy with rfl | hy
    · refine ⟨by rw [atE_yes (by omega)]; congr 2; omega, ?_⟩
      rw [atE_no (by omega), atE_ahead (fun z hz => by have := hb z hz; omega)]
      exact fun e => by cases e
    · obtain ⟨i1, i2⟩ := ih h2 y hy
      have hy2 := hb y hy
      refine ⟨by rw [atE_no (by omega)]; exact i1, ?_⟩
      by_cases c : x.off ≤ y.off - 1 ∧ y.off - 1 < x.off + x.len
      · rw [atE_yes c]
        intro e
        cases l with
        | nil => cases hy
        | cons z m =>
          have hf := fitB_iff.1 (h3 z m rfl)
          rcases List.mem_cons.1 hy with rfl | hy3
          · simp only [Option.some.injEq, Prod.mk.injEq] at e
            exact hf.2 ⟨by omega, e.1, by omega⟩
          · have := rail_behind h2 y hy3
            have o2 := oneB_iff.1 (railB_cons h2).1
            have : z.stop = z.off + z.len := rfl
            omega
      · rw [atE_no c]
        exact i2
theorem start_is {l : List Pt} (h : railB l = true) {i a s : Int} (h1 : atE l i = some (a, s)) (h2 : atE l (i - 1) ≠ some (a, s - 1)) : ∃ y ∈ l, y.off = i := by
  induction l with
  | nil => cases h1
  | cons x l ih =>
    obtain ⟨g1, g2, g3⟩ := railB_cons h
    have hb := rail_behind h
    have hs : x.stop = x.off + x.len := rfl
    by_cases c : x.off ≤ i ∧ i < x.off + x.len
    · rw [atE_yes c] at h1
      simp only [Option.some.injEq, Prod.mk.injEq] at h1
      by_cases d : x.off = i
      · exact ⟨x, List.mem_cons_self, d⟩
      · exact absurd (by rw [atE_yes (by omega)]; congr 2 <;> omega) h2
    · rw [atE_no c] at h1
      have : ∃ y ∈ l, y.off = i := by
        refine ih g2 h1 ?_
        by_cases d : x.off ≤ i - 1 ∧ i - 1 < x.off + x.len
        · rw [atE_ahead (fun z hz => by have := hb z hz; omega)]
          exact fun e => by cases e
        · rw [atE_no d] at h2
          exact h2
      obtain ⟨y, hy, e⟩ := this
      exact ⟨y, List.mem_cons_of_mem _ hy, e⟩
theorem len_sub {l m : List Int} (hn : l.Nodup) (h : ∀ x ∈ l, x ∈ m) : l.length ≤ m.length := by
  induction l generalizing m with
  | nil => exact Nat.zero_le _
  | cons x l ih =>
    have hx := h x List.mem_cons_self
    rw [List.nodup_cons] at hn
    have := ih (m := m.erase x) hn.2 (fun y hy => (List.mem_erase_of_ne (fun e => hn.1 (by rw [← e]; exact hy))).2 (h y (List.mem_cons_of_mem _ hy)))
    rw [List.length_erase_of_mem hx] at this
    have := List.length_pos_of_mem hx
    simp
    omega
theorem rail_nodup {l : List Pt} (h : railB l = true) : (l.map (·.off)).Nodup := by
  induction l with
  | nil => exact List.nodup_nil
  | cons x l ih =>
    obtain ⟨g1, g2, g3⟩ := railB_cons h
    have o := oneB_iff.1 g1
    rw [List.map_cons, List.nodup_cons]
    refine ⟨fun e => ?_, ih g2⟩
    obtain ⟨y, hy, e2⟩ := List.mem_map.1 e
    have := rail_behind h y hy
    have : x.stop = x.off + x.len := rfl
    omega
theorem put_few {l : List Pt} (hl : railB l = true) {x : Pt} (hx : oneB x = true) : (gatE (putF (spF l) x) 8192).length ≤ l.length + 2 := by
  obtain ⟨hr, ht⟩ := put_tell hl hx
  generalize gatE (putF (spF l) x) 8192 = r at *
  have h := len_sub (l := r.map (·.off)) (m := x.off :: (x.off + x.len) :: l.map (·.off)) (rail_nodup hr) (fun i hi => by
    obtain ⟨y, hy, rfl⟩ := List.mem_map.1 hi
    obtain ⟨s1, s2⟩ := rail_start hr y hy
    by_cases c1 : y.off = x.off
    · rw [c1]; exact List.mem_cons_self
    by_cases c2 : y.off = x.off + x.len
    · rw [c2]; exact List.mem_cons_of_mem _ List.mem_cons_self
    rw [ht] at s1 s2
    by_cases c : x.off ≤ y.off ∧ y.off < x.off + x.len
    · rw [if_pos c] at s1
      simp only [Option.some.injEq, Prod.mk.injEq] at s1
      exact absurd (by rw [if_pos (by omega)]; congr 2 <;> omega) s2
    · rw [if_neg c] at s1
      rw [if_neg (by omega)] at s2
      obtain ⟨z, hz, e⟩ := start_is hl s1 s2
      exact List.mem_cons_of_mem _ (List.mem_cons_of_mem _ (List.mem_map.2 ⟨z, hz, e⟩)))
  simpa using h
theorem putI_few {l : List Pt} (hl : goodE l = true) {x : Pt} (hx : oneB x = true) (h62 : l.length ≤ 62) : (putE l x).2 = 0 ∧ (putE l x).1.length ≤ l.length + 2 := by
  have h := put_few (goodE_iff.1 hl).2 hx
  unfold putE
  rw [if_pos hl, if_pos hx]
  unfold fewE
  rw [if_pos (by omega)]
  exact ⟨rfl, h⟩
/-- the root, and one file with a name -/
def fileT (P : List Pt) (s : Int) : Tb := ⟨[rootI, ⟨2, 2, 1, 0, s, P⟩], 3⟩
theorem ft_make : makeI newT 2 = (⟨[rootI, ⟨2, 2, 0, 0, 0, []⟩], 3⟩, 2, 0) := rfl
theorem ft_link : linkI ⟨[rootI, ⟨2, 2, 0, 0, 0, []⟩], 3⟩ 2 1 = (fileT [] 0, 0) := rfl
theorem ft_get (P : List Pt) (s : Int) : getI (fileT P s).l 2 = some ⟨2, 2, 1, 0, s, P⟩ := rfl
theorem ft_tb {P : List Pt} {s : Int} (h : TbI (fileT P s)) : goodE P = true ∧ endE P ≤ s ∧ 0 ≤ s ∧ s ≤ 8192 := by
  have := h.each ⟨2, 2, 1, 0, s, P⟩ (List.mem_cons_of_mem _ List.mem_cons_self)
  obtain ⟨_, _, _, _, _, h6, h7, h8⟩ := this
  exact ⟨h7, h8, h6.1, h6.2⟩
theorem ft_file {P : List Pt} {s : Int} {f : Ino → Ino × Int} {P2 : List Pt} {s2 e : Int} (h : f ⟨2, 2, 1, 0, s, P⟩ = (⟨2, 2, 1, 0, s2, P2⟩, e)) : fileI (fileT P s) 2 f = (fileT P2 s2, e) := by
  rw [fileI_yes (ft_get P s) (show ¬ (2 : Int) = 1 by decide), h]
  show ((⟨[(if rootI.ino = 2 then (f rootI).1 else rootI), (if (2 : Int) = 2 then (f ⟨2, 2, 1, 0, s, P⟩).1 else ⟨2, 2, 1, 0, s, P⟩)], 3⟩ : Tb), e) = _
  rw [if_neg (by decide), if_pos rfl, h]
  rfl
theorem ft_write {P : List Pt} {s off k ad : Int} (h : TbI (fileT P s)) (h62 : P.length ≤ 62) (ho : 0 ≤ off ∧ off ≤ 4000) (hk : 1 ≤ k ∧ k ≤ 1024) (ha : 0 ≤ ad ∧ ad < 16384) :
    ∃ P2, writeI (fileT P s) 2 off k ad = (fileT P2 (max s (off + k)), 0) ∧ P2.length ≤ P.length + 2 ∧ TbI (fileT P2 (max s (off + k))) := by
  have hx : oneB ⟨off, k, ad, 0⟩ = true := oneB_iff.2 ⟨ho.1, hk.1, by show off + k ≤ 8192; omega, ha.1, ha.2, Int.le_refl 0, by show 0 + k ≤ 1024; omega⟩
  obtain ⟨h1, h2⟩ := putI_few (ft_tb h).1 hx h62
  have hw : writeI (fileT P s) 2 off k ad = (fileT (putE P ⟨off, k, ad, 0⟩).1 (max s (off + k)), 0) := by
    refine ft_file ?_
    unfold writeF
    rw [if_pos ⟨ho.1, by omega, hk.1, hk.2, by omega⟩, if_pos h1]
  refine ⟨_, hw, h2, ?_⟩
  have := h.write 2 off k ad
  rw [hw] at this
  exact this
theorem ft_trunc {P : List Pt} {s c : Int} (h : TbI (fileT P s)) (hc : 0 ≤ c ∧ c ≤ 8192) : truncI (fileT P s) 2 c = (fileT (cutE P c) c, 0) ∧ TbI (fileT (cutE P c) c) := by
  have hw : truncI (fileT P s) 2 c = (fileT (cutE P c) c, 0) := by
    refine ft_file ?_
    unfold truncF
    rw [if_pos hc]
  refine ⟨hw, ?_⟩
  have := h.trunc 2 c
  rw [hw] at this
  exact this
/-- what was cut off stays away -/
theorem cut_twice {P : List Pt} (h : goodE P = true) {c : Int} (hc : 0 ≤ c) : ∀ x ∈ cutE (cutE P c) 8192, x.off + x.len ≤ c := fun x hx => by
  have g1 := cutI_good h hc
  have g2 := cutI_good g1 (show (0 : Int) ≤ 8192 by decide)
  have h1 := part_end g2 hx
  have h2 := end_le g2 hc (fun i hi => by
    rw [cutI_at g1 (by decide), cutI_at h hc]
    by_cases a : i < 8192
    · rw [if_pos a, if_neg (by omega)]
    · rw [if_neg a])
  omega
theorem cut_len {P : List Pt} (h : goodE P = true) {c : Int} (hc : 0 ≤ c) : (cutE P c).length ≤ 64 := (goodE_iff.1 (cutI_good h hc)).1
theorem wk20_put : putE [] ⟨5, 3, 7, 0⟩ = ([⟨5, 3, 7, 0⟩], 0) := by
  have hx : oneB ⟨5, 3, 7, 0⟩ = true := by kernel_rfl
  have hl : railB [⟨5, 3, 7, 0⟩] = true := by kernel_rfl
  have hr : railB [] = true := rfl
  unfold putE
  rw [if_pos (by kernel_rfl), if_pos hx, gat_is (l := [⟨5, 3, 7, 0⟩]) (putF_sound (spF_sound hr _) hx) hl (fun i => ?_)]
  · rfl
  · rw [tell_put hx, spF_tell hr]
    by_cases h : (5 : Int) ≤ i ∧ i < 5 + 3
    · rw [if_pos h, atE_yes (x := ⟨5, 3, 7, 0⟩) h]
    · rw [if_neg h, atE_no (x := ⟨5, 3, 7, 0⟩) h]
theorem wk20_write : writeI (fileT [] 0) 2 5 3 7 = (fileT [⟨5, 3, 7, 0⟩] 8, 0) := by
  refine ft_file ?_
  unfold writeF
  rw [if_pos (by decide)]
  show (if (putE [] ⟨5, 3, 7, 0⟩).2 = 0 then _ else _) = _
  rw [wk20_put, if_pos rfl]
  rfl
theorem wk20_gone : linkI (fileT [⟨5, 3, 7, 0⟩] 8) 2 (-1) = (⟨[rootI], 3⟩, 0) := rfl
theorem ft_tb0 : TbI (fileT [] 0) := by
  have := (TbI.new.make 2).link 2 1
  rw [ft_make] at this
  exact this
end Go.Proofs.Ytfkgeefoknaldaa
