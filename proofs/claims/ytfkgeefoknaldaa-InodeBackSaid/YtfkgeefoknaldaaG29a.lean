/- Stage 20: an inode in a box, turned there and put back; what the program's own Truncate returns. Conditions: the table lies where the call was told; numbers of 64 bits. Stage 20: what the program's own Open returns. Conditions: the table lies where the call was told; numbers of 64 bits. Stage 20: what the program's own Make returns. Conditions: the table lies where the call was told; numbers of 64 bits. Stage 20: what the document's Make leaves: a longer row in new memory, the next number. No conditions. -/
import Derived.Test.YtfkgeefoknaldaaG28a
import Derived.Test.YtfkgeefoknaldaaG19a
import Derived.Test.YtfkgeefoknaldaaG26a
import Derived.Test.YtfkgeefoknaldaaG24a
set_option linter.unusedVariables false
namespace Go.Proofs.Ytfkgeefoknaldaa
open Go.RowKit Go.Maps
set_option linter.unusedVariables false
set_option maxRecDepth 20000
theorem IvIn.fresh2 {w W : World} {q g : Nat} {v : Value} {l : List Pt} {x : Ino} (h : OPa w W.heap.size v l) (hx : x.parts = l) (hq : q < W.heap.size) (hg : g < W.heap.size) : ∃ ao cap, v = .slice ao l.length cap ∧ IvIn w q g ⟨x, ao, cap⟩ ∧ ∀ a, ao = some a → W.heap.size ≤ a.block := by
  obtain ⟨ao, cap, h1, h2, h3, h4, h5, _⟩ := OR.form par_rows h
  refine ⟨ao, cap, h1, ?_, fun a e => (h5 a e).1⟩
  show PaL w ao x.parts ∧ (ao = none → cap = 0) ∧ x.parts.length ≤ cap ∧ ∀ a, ao = some a → _
  rw [hx]
  exact ⟨h2, h4, h3, fun a e => ⟨(h5 a e).2, by have := (h5 a e).1; omega, by have := (h5 a e).1; omega⟩⟩
theorem pfile_none {w : World} {b m : Nat} {l : List Iv} {next n : Int} (h : PTab w b m l next) (hn : (Lit.int .i64 n).wf = true) (hg : getV l n = none) :
    Calls Try.prog 44 #[.pointer (some ⟨b, 0, none⟩), .int .i64 n] w fun e w' => e = .returned (.tuple #[.agg #[.int .i64 0, .int .i64 0, .int .i64 0, .int .i64 0, .int .i64 0, .slice none 0 0], .int .i64 60]) ∧ Below w.heap.size w w' :=
  pfile_of (y := noV) (c := 60) (fun W hb => pfind_none (h.below hb) hn hg) (by decide)
theorem pfile_nil (n : Int) (w : World) :
    Calls Try.prog 44 #[.pointer none, .int .i64 n] w fun e w' => e = .returned (.tuple #[.agg #[.int .i64 0, .int .i64 0, .int .i64 0, .int .i64 0, .int .i64 0, .slice none 0 0], .int .i64 1]) ∧ Below w.heap.size w w' :=
  pfile_of (y := noV) (c := 1) (fun W hb => pfind_nil n W) (by decide)
theorem pfile_isdir {w : World} {b m : Nat} {l : List Iv} {next n : Int} (h : PTab w b m l next) (hn : (Lit.int .i64 n).wf = true) {y : Iv} (hg : getV l n = some y) (hk : y.x.kind = 1) :
    Calls Try.prog 44 #[.pointer (some ⟨b, 0, none⟩), .int .i64 n] w fun e w' => e = .returned (.tuple #[.agg #[.int .i64 0, .int .i64 0, .int .i64 0, .int .i64 0, .int .i64 0, .slice none 0 0], .int .i64 63]) ∧ Below w.heap.size w w' :=
  pfile_dir (c := 0) (fun W hb => pfind_some (h.below hb) hn hg) hk
theorem pfile_some {w : World} {b m : Nat} {l : List Iv} {next n : Int} (h : PTab w b m l next) (hn : (Lit.int .i64 n).wf = true) {y : Iv} (hg : getV l n = some y) (hk : ¬ y.x.kind = 1) :
    Calls Try.prog 44 #[.pointer (some ⟨b, 0, none⟩), .int .i64 n] w fun e w' => e = .returned (.tuple #[.agg #[.int .i64 y.x.ino, .int .i64 y.x.kind, .int .i64 y.x.links, .int .i64 y.x.opens, .int .i64 y.x.size, .slice y.ao y.x.parts.length y.cap], .int .i64 0]) ∧ Below w.heap.size w w' :=
  pfile_of (c := 0) (fun W hb => pfind_some (h.below hb) hn hg) hk
/-- an inode of the table, in a box beyond it -/
structure Bxd (w W : World) (b m g : Nat) (y y' : Iv) : Prop where
  at_ : W.heap[g]? = some (inoO y')
  below : Below w.heap.size w W
  in_ : IvIn W b m y'
  beyond : w.heap.size ≤ g
  off : ∀ a, y'.ao = some a → a.block ≠ g
  new : y'.ao = y.ao ∨ ∀ a, y'.ao = some a → w.heap.size ≤ a.block
theorem Bxd.start {w w1 : World} {b m : Nat} {y : Iv} (hb : Below w.heap.size w w1) (hy : IvIn w b m y) : Bxd w (w1.alloc (inoO y)) b m w1.heap.size y y :=
  ⟨heap_alloc_new _ _, blwO (blwA _ _) hb, hy.below (blwO (blwA _ _) hb), hb.size, fun a e => by have := (hy.2.2.2 a e).1; have := hb.size; omega, .inl rfl⟩
theorem Bxd.on {w W W' : World} {b m g : Nat} {y y' : Iv} (h : Bxd w W b m g y y') (hb : Below W.heap.size W W') : Bxd w W' b m g y y' :=
  ⟨below_heap hb h.at_, blwO hb h.below, h.in_.below hb, h.beyond, h.off, h.new⟩
theorem Bxd.cells {w W : World} {b m g : Nat} {y y' : Iv} (h : Bxd w W b m g y y') : W.cell? ⟨g, 0, none⟩ = some (.int .i64 y'.x.ino) ∧ W.cell? ⟨g, 1, none⟩ = some (.int .i64 y'.x.kind) ∧ W.cell? ⟨g, 2, none⟩ = some (.int .i64 y'.x.links) ∧ W.cell? ⟨g, 3, none⟩ = some (.int .i64 y'.x.opens) ∧ W.cell? ⟨g, 4, none⟩ = some (.int .i64 y'.x.size) ∧ W.cell? ⟨g, 5, none⟩ = some (.slice y'.ao y'.x.parts.length y'.cap) := ino_cells h.at_
theorem Bxd.free {w W : World} {b m g : Nat} {y y' : Iv} (h : Bxd w W b m g y y') (j : Nat) : W.frozen? ⟨g, j, none⟩ = false := free_of h.at_ j
theorem Bxd.lt {w W : World} {b m g : Nat} {y y' : Iv} (h : Bxd w W b m g y y') : g < W.heap.size := lt_of_block h.at_
/-- new parts in the box -/
theorem Bxd.set5 {w W : World} {b m g : Nat} {y y' : Iv} (h : Bxd w W b m g y y') {P : List Pt} {ao : Option Addr} {cap : Nat} (hi : IvIn W b m ⟨{ y'.x with parts := P }, ao, cap⟩) (hn : ∀ a, ao = some a → w.heap.size ≤ a.block) (ho : ∀ a, ao = some a → a.block ≠ g) : Bxd w (W.setCell ⟨g, 5, none⟩ (.slice ao P.length cap)) b m g y ⟨{ y'.x with parts := P }, ao, cap⟩ := by
  have hk : Kept (fun k => k ≠ g) W (W.setCell ⟨g, 5, none⟩ (.slice ao P.length cap)) := (Kept.refl _ W).setCell (fun e => e rfl) _
  refine ⟨?_, h.below.setCell (p := ⟨g, 5, none⟩) h.beyond _, hi.keptX hk ho, h.beyond, ho, .inr hn⟩
  exact heap_setCell_same W g 5 _ 50 (.slice ao P.length cap) h.at_
theorem Bxd.set4 {w W : World} {b m g : Nat} {y y' : Iv} (h : Bxd w W b m g y y') (s : Int) : Bxd w (W.setCell ⟨g, 4, none⟩ (.int .i64 s)) b m g y ⟨{ y'.x with size := s }, y'.ao, y'.cap⟩ := by
  have hk : Kept (fun k => k ≠ g) W (W.setCell ⟨g, 4, none⟩ (.int .i64 s)) := (Kept.refl _ W).setCell (fun e => e rfl) _
  refine ⟨?_, h.below.setCell (p := ⟨g, 4, none⟩) h.beyond _, (h.in_.turn _ rfl).keptX hk h.off, h.beyond, h.off, h.new⟩
  exact heap_setCell_same W g 4 _ 50 (.int .i64 s) h.at_
theorem Bxd.leaves {G : Nat → Prop} {w W w2 : World} {b m g : Nat} {a r : List Iv} {y y' : Iv} {t' : Tb} (h : Bxd w W b m g y y') (hz : Zone G w b m (a ++ y :: r)) (hp : PTab w b m (a ++ y :: r) t'.next) (hg : W.grownBy w2 (some m)) (hm : MM w2 m (a ++ y' :: r)) (hl : (a ++ y' :: r).map (·.x) = t'.l) : Leaves (PT b) G w w2 t' :=
  PTab.leaves hz ((hp.below h.below).set h.in_ hg hm) hl ⟨(Kept.ofBelow h.below _).grown hg (fun k e hk => hk.2 (Option.some.inj e).symm), .inl rfl, fun z hz => by
    rcases List.mem_append.1 hz with hz | hz
    · exact .inl ⟨z, List.mem_append_left _ hz, rfl⟩
    · rcases List.mem_cons.1 hz with rfl | hz
      · rcases h.new with e | e
        · exact .inl ⟨y, List.mem_append_right _ List.mem_cons_self, e⟩
        · exact .inr e
      · exact .inl ⟨z, List.mem_append_right _ (List.mem_cons_of_mem _ hz), rfl⟩⟩
theorem fileI_no {t : Tb} {n : Int} {f : Ino → Ino × Int} {x : Ino} {e : Int} (h : getI t.l n = some x) (hk : ¬ x.kind = 1) (hu : ∀ y ∈ t.l, y.ino = n → y = x) (hf : f x = (x, e)) : fileI t n f = (t, e) := by
  rw [fileI_yes h hk, hf]
  have : turnI t.l n (fun y => (f y).1) = t.l := by
    unfold turnI
    conv => rhs; rw [← List.map_id t.l]
    refine List.map_congr_left (fun y hy => ?_)
    by_cases c : y.ino = n
    · rw [if_pos c, hu y hy c]
      show (f x).1 = x
      rw [hf]
    · rw [if_neg c]; rfl
  rw [this]
theorem TbI.one {t : Tb} (h : TbI t) {n : Int} {x : Ino} (hx : getI t.l n = some x) : ∀ y ∈ t.l, y.ino = n → y = x := fun y hy e => by
  obtain ⟨h1, h2⟩ := getI_some hx
  exact h.only hy h1 (by omega)
set_option maxHeartbeats 1000000 in
theorem ptrunc_nil (n k : Int) (w : World) : Calls Try.prog 26 #[.pointer none, .int .i64 n, .int .i64 k] w fun e w' => e = .returned (.int .i64 1) ∧ Below w.heap.size w w' := by
  have CF := Lib.hid (pfile_nil n w)
  have HA := Lib.hid (fun (W : World) (hb : Below w.heap.size w W) => show Below w.heap.size w (W.alloc (inoO noV)) from blwO (blwA _ _) hb)
  go_enter Try.func26, Try.ntmps26
  go_wp2_with (go_at_call 44; refine CF.out.mono ?_; rintro e w1 ⟨rfl, hb1⟩; have HB1 := Lib.hid hb1; clear hb1)
  go_ret
  exact ⟨rfl, HA.out _ HB1.out⟩
set_option maxHeartbeats 4000000 in
theorem ptrunc_any {b : Nat} {G : Nat → Prop} {w : World} {t : Tb} {n s : Int} (h : PT b G w t) (ht : TbI t) (hn : (Lit.int .i64 n).wf = true) (hs : -9223372036854775808 ≤ s ∧ s ≤ 9223372036854775807) :
    Calls Try.prog 26 #[.pointer (some ⟨b, 0, none⟩), .int .i64 n, .int .i64 s] w fun e w' => e = .returned (.int .i64 (truncI t n s).2) ∧ Leaves (PT b) G w w' (truncI t n s).1 := by
  have HPT := Lib.hid h
  obtain ⟨m, l, hm, hp, hz⟩ := h
  have HS := Lib.hid (fun (W : World) (hb : Below w.heap.size w W) => Leaves.same (pt_thing b) HPT.out hb)
  unfold truncI
  rcases vi_cases l n with ⟨g1, g2⟩ | ⟨a, y, r, hl, hy, ha, g1, g2⟩
  · rw [hm] at g2
    rw [fileI_none g2]
    have CF := Lib.hid (pfile_none hp hn g1)
    have HA := Lib.hid (fun (W : World) (hb : Below w.heap.size w W) => show Below w.heap.size w (W.alloc (inoO noV)) from blwO (blwA _ _) hb)
    clear hp g1 g2 hz hm ht
    go_enter Try.func26, Try.ntmps26
    go_wp2_with (go_at_call 44; refine CF.out.mono ?_; rintro e w1 ⟨rfl, hb1⟩; have HB1 := Lib.hid hb1; clear hb1)
    go_ret
    exact ⟨rfl, HS.out _ (HA.out _ HB1.out)⟩
  rw [hm] at g2
  by_cases hk : y.x.kind = 1
  · rw [fileI_dir g2 hk]
    have CF := Lib.hid (pfile_isdir hp hn g1 hk)
    have HA := Lib.hid (fun (W : World) (hb : Below w.heap.size w W) => show Below w.heap.size w (W.alloc (inoO noV)) from blwO (blwA _ _) hb)
    clear hp g1 g2 hz hm ht hk hy
    go_enter Try.func26, Try.ntmps26
    go_wp2_with (go_at_call 44; refine CF.out.mono ?_; rintro e w1 ⟨rfl, hb1⟩; have HB1 := Lib.hid hb1; clear hb1)
    go_ret
    exact ⟨rfl, HS.out _ (HA.out _ HB1.out)⟩
  have CF := Lib.hid (pfile_some hp hn g1 hk)
  have HA := Lib.hid (fun (W : World) (hb : Below w.heap.size w W) => show Below w.heap.size w (W.alloc (inoO y)) from blwO (blwA _ _) hb)
  by_cases hb : 0 ≤ s ∧ s ≤ 8192
  rotate_left
  · rw [fileI_no (e := 67) g2 hk (ht.one g2) (by unfold truncF; exact if_neg hb)]
    have CW := Lib.hid (fun W => pwithin_no hb W)
    clear hp g1 g2 hz hm ht hk hy hb
    go_enter Try.func26, Try.ntmps26
    go_wp2_with (first
      | (go_at_call 44; refine CF.out.mono ?_; rintro e w1 ⟨rfl, hb1⟩; have HB1 := Lib.hid hb1; clear hb1)
      | (go_at_call 33; with_reducible refine (CW.out _).mono ?_; rintro e w' ⟨rfl, rfl⟩))
    go_ret
    exact ⟨rfl, HS.out _ (HA.out _ HB1.out)⟩
  subst hl
  have CW := Lib.hid (fun W => pwithin_yes hb W)
  rw [fileI_yes g2 hk]
  have hf : ∀ x, truncF s x = ({ x with parts := cutE x.parts s, size := s }, 0) := fun x => if_pos hb
  simp only [hf]
  have hyI := hp.each y (List.mem_append_right _ List.mem_cons_self)
  have hin := ht.each y.x (by rw [← hm]; exact List.mem_map.2 ⟨y, List.mem_append_right _ List.mem_cons_self, rfl⟩)
  have hplen : y.x.parts.length ≤ maxLen := by
    have := (goodE_iff.1 hin.2.2.2.2.2.2.1).1
    unfold maxLen
    omega
  have hrise := ht.rise
  rw [← hm] at hrise
  have HTN := Lib.hid (fun (ao : Option Addr) (cp : Nat) => iv_turn (a := a) (r := r) (y := y) (n := n) (f := fun x => { x with parts := cutE x.parts s, size := s }) (y' := ⟨{ y.x with parts := cutE y.x.parts s, size := s }, ao, cp⟩) hrise hy ha rfl)
  rw [hm] at HTN
  have CC := Lib.hid (fun (W : World) (hb : Below w.heap.size w W) => ecut_any y.ao y.cap y.x.parts s hs W (PaL.below hyI.1 hb) hplen)
  have ha2 : ∀ z ∈ a, z.x.ino ≠ y.x.ino := by rw [hy]; exact ha
  have HG := Lib.hid (fun (y' : Iv) (e : y'.x.ino = y.x.ino) v => (show getV (a ++ y' :: r) v = if v = n then some y' else getV (a ++ y :: r) v from hy ▸ getV_turn (r := r) ha2 e v))
  have HL := Lib.hid (fun (y' : Iv) => show (a ++ y' :: r).length = if (getV (a ++ y :: r) n).isSome then (a ++ y :: r).length else (a ++ y :: r).length + 1 from by rw [g1]; simp)
  have HN := Lib.hid (show (a ++ y :: r).length ≤ 1000000 from by
    have := ht.most
    rw [← hm, List.length_map] at this
    omega)
  have HT := Lib.hid hp
  have HZ := Lib.hid hz
  have HY := Lib.hid hyI
  have HU := Lib.hid hn
  have hbw := lt_of_block hp.head
  have hmw := hp.map.lt
  have HBW := Lib.hid hbw
  have HMW := Lib.hid hmw
  generalize hP2 : cutE y.x.parts s = P2 at *
  clear hp g1 g2 hz hm ht hk hy hb hf hyI hin hplen hrise ha2 ha hn hbw hmw hP2 hs
  go_enter Try.func26, Try.ntmps26
  go_wp2_with (first
    | (go_at_call 44; refine CF.out.mono ?_; rintro e w1 ⟨rfl, hb1⟩; have HX1 := Lib.hid (Bxd.start hb1 HY.out); clear hb1)
    | (go_at_call 33; with_reducible refine (CW.out _).mono ?_; rintro e w' ⟨rfl, rfl⟩)
    | (go_at_call 47; refine (CC.out _ HX1.out.below).mono ?_; rintro e w2 ⟨v2, rfl, hO, hB2⟩; obtain ⟨ao2, cp2, hv2, hI2, hn2⟩ := IvIn.fresh2 (x := { y.x with parts := P2 }) hO rfl (Nat.lt_of_lt_of_le HBW.out HX1.out.below.size) (Nat.lt_of_lt_of_le HMW.out HX1.out.below.size); subst hv2; have HX2 := Lib.hid (HX1.out.on hB2); obtain ⟨_, _, _, _, d4, d5⟩ := HX2.out.cells; have e4 := HX2.out.free 4; have e5 := HX2.out.free 5; have HX3 := Lib.hid ((HX2.out.set5 hI2 (fun a e => Nat.le_trans HX1.out.below.size (hn2 a e)) (fun a e => by have := hn2 a e; have := HX1.out.lt; omega)).set4 s); clear hO hB2 hI2 hn2))
  generalize hW3 : World.setCell (World.setCell w2 _ _) _ _ = W3 at *
  clear d4 d5 e4 e5 hW3
  have HX4 := Lib.hid (HX3.out.on (Below.refl _ W3).drew)
  have HP4 := Lib.hid (HT.out.below HX4.out.below)
  obtain ⟨c0, c1, f0, f1, hbl⟩ := HP4.out.cells
  obtain ⟨d0, d1, d2, d3, d4, d5⟩ := HX4.out.cells
  go_still_tail 6, (by kernel_rfl)
  change wpList _ _ _ _ _ W3.drew
  go_wp2_with (at_mapUpdate; refine wpList_set_ino (y := ⟨{ y.x with parts := P2, size := s }, ao2, cp2⟩) (l' := a ++ (⟨{ y.x with parts := P2, size := s }, ao2, cp2⟩ : Iv) :: r) rfl _ _ _ rfl rfl HP4.out.map HN.out HU.out rfl rfl (HG.out _ rfl) (HL.out _) ?_; intro w5 hm5 hg5; have HM5 := Lib.hid hm5; have HG5 := Lib.hid hg5; clear hm5 hg5)
  go_ret
  exact ⟨rfl, Bxd.leaves (t' := ⟨_, t.next⟩) HX4.out HZ.out HT.out HG5.out HM5.out (HTN.out ao2 cp2)⟩
end Go.Proofs.Ytfkgeefoknaldaa
namespace Go.Proofs.Ytfkgeefoknaldaa
open Go.RowKit Go.Maps
set_option linter.unusedVariables false
set_option maxRecDepth 20000
set_option maxHeartbeats 1000000 in
theorem popen_nil (n k : Int) (w : World) : Calls Try.prog 24 #[.pointer none, .int .i64 n, .int .i64 k] w fun e w' => e = .returned (.int .i64 1) ∧ Below w.heap.size w w' := by
  have CF := Lib.hid (pfind_nil n w)
  have HA := Lib.hid (fun (W : World) (hb : Below w.heap.size w W) => show Below w.heap.size w (W.alloc (inoO noV)) from blwO (blwA _ _) hb)
  go_enter Try.func24, Try.ntmps24
  go_wp2_with (go_at_call 31; refine CF.out.mono ?_; rintro e w1 ⟨rfl, hb1⟩; have HB1 := Lib.hid hb1; clear hb1)
  go_ret
  exact ⟨rfl, HA.out _ HB1.out⟩
set_option maxHeartbeats 4000000 in
theorem popen_any {b : Nat} {G : Nat → Prop} {w : World} {t : Tb} {n k : Int} (h : PT b G w t) (ht : TbI t) (hnx : t.next ≤ 9000000000000000000) (hn : (Lit.int .i64 n).wf = true) :
    Calls Try.prog 24 #[.pointer (some ⟨b, 0, none⟩), .int .i64 n, .int .i64 k] w fun e w' => e = .returned (.int .i64 (openI t n k).2) ∧ Leaves (PT b) G w w' (openI t n k).1 := by
  have HPT := Lib.hid h
  obtain ⟨m, l, hm, hp, hz⟩ := h
  have HS := Lib.hid (fun (W : World) (hb : Below w.heap.size w W) => Leaves.same (pt_thing b) HPT.out hb)
  rcases vi_cases l n with ⟨g1, g2⟩ | ⟨a, y, r, hl, hy, ha, g1, g2⟩
  · rw [hm] at g2
    rw [open_none g2]
    have CF := Lib.hid (pfind_none hp hn g1)
    have HA := Lib.hid (fun (W : World) (hb : Below w.heap.size w W) => show Below w.heap.size w (W.alloc (inoO noV)) from blwO (blwA _ _) hb)
    clear hp g1 g2 hz hm
    go_enter Try.func24, Try.ntmps24
    go_wp2_with (go_at_call 31; refine CF.out.mono ?_; rintro e w1 ⟨rfl, hb1⟩; have HB1 := Lib.hid hb1; clear hb1)
    go_ret
    exact ⟨rfl, HS.out _ (HA.out _ HB1.out)⟩
  have CF := Lib.hid (pfind_some hp hn g1)
  rw [hm] at g2
  have HA := Lib.hid (fun (W : World) (hb : Below w.heap.size w W) => show Below w.heap.size w (W.alloc (inoO y)) from blwO (blwA _ _) hb)
  by_cases hs : stepB k = true
  rotate_left
  · rw [open_arg g2 hs]
    have CS := Lib.hid (fun W => pstep_is (show stepB k = false from by simpa using hs) W)
    clear hp g1 g2 hz hm hs hn hnx hy
    go_enter Try.func24, Try.ntmps24
    go_wp2_with (first
      | (go_at_call 31; refine CF.out.mono ?_; rintro e w1 ⟨rfl, hb1⟩; have HB1 := Lib.hid hb1; clear hb1)
      | (go_at_call 32; with_reducible refine (CS.out _).mono ?_; rintro e w' ⟨rfl, rfl⟩))
    go_ret
    exact ⟨rfl, HS.out _ (HA.out _ HB1.out)⟩
  have CS := Lib.hid (fun W => pstep_is hs W)
  by_cases h1 : y.x.kind = 1
  · rw [open_dir g2 hs h1]
    have e1 : (y.x.kind == 1) = true := beq_iff_eq.2 h1
    clear hp g1 g2 hz hm hs hn hnx h1 hy
    go_enter Try.func24, Try.ntmps24
    go_wp2_with (first
      | (go_at_call 31; refine CF.out.mono ?_; rintro e w1 ⟨rfl, hb1⟩; have HB1 := Lib.hid hb1; clear hb1)
      | (go_at_call 32; with_reducible refine (CS.out _).mono ?_; rintro e w' ⟨rfl, rfl⟩))
    go_ret
    exact ⟨rfl, HS.out _ (HA.out _ HB1.out)⟩
  have e1 : (y.x.kind == 1) = false := beq_eq_false_iff_ne.2 h1
  have hin := ht.each y.x (by rw [← hm, hl]; exact List.mem_map.2 ⟨y, List.mem_append_right _ List.mem_cons_self, rfl⟩)
  have hq : 0 ≤ y.x.opens ∧ y.x.opens ≤ 128 := hin.2.2.2.1
  have hw0 : IntKind.i64.wrap (y.x.opens + k) = y.x.opens + k := IntWalk.i64_in _ (by rcases step_two hs with e | e <;> omega)
  by_cases hb : 0 ≤ y.x.opens + k ∧ y.x.opens + k ≤ 128
  rotate_left
  · rw [open_many g2 hs h1 hb]
    have CW := Lib.hid (fun W => pwithin_no hb W)
    clear hp g1 g2 hz hm hs hn hnx h1 hb hq hin hy
    obtain ⟨sm, hsm⟩ : ∃ sm, y.x.opens + k = sm := ⟨_, rfl⟩
    have hw := hw0.trans hsm
    rw [hsm] at CW
    clear hsm hw0
    go_enter Try.func24, Try.ntmps24
    go_wp2_with (first
      | (go_at_call 31; refine CF.out.mono ?_; rintro e w1 ⟨rfl, hb1⟩; have HB1 := Lib.hid hb1; clear hb1)
      | (go_at_call 32; with_reducible refine (CS.out _).mono ?_; rintro e w' ⟨rfl, rfl⟩)
      | (go_at_call 33; with_reducible refine (CW.out _).mono ?_; rintro e w' ⟨rfl, rfl⟩))
    go_ret
    exact ⟨rfl, HS.out _ (HA.out _ HB1.out)⟩
  have CW := Lib.hid (fun W => pwithin_yes hb W)
  subst hl
  rw [open_at hm ht hy ha hs h1 hb]
  have hwf : (Lit.int .i64 y.x.ino).wf = true := hy ▸ hn
  have hlen : (a ++ y :: r).length ≤ 1000000 := by
    have := ht.most
    rw [← hm, List.length_map] at this
    omega
  have hrise := ht.rise
  rw [← hm] at hrise
  have hr := iv_after hrise
  have ha2 : ∀ z ∈ a, z.x.ino ≠ y.x.ino := by rw [hy]; exact ha
  have hyI := hp.each y (List.mem_append_right _ List.mem_cons_self)
  obtain ⟨sm, hsm⟩ : ∃ sm, y.x.opens + k = sm := ⟨_, rfl⟩
  have hw := hw0.trans hsm
  rw [hsm] at CW ⊢
  have HY := Lib.hid (hyI.turn { y.x with opens := sm } rfl)
  have HA2 := Lib.hid (fun (W : World) (hb : Below w.heap.size w W) => show Below w.heap.size w (W.alloc (inoO ⟨{ y.x with opens := sm }, y.ao, y.cap⟩)) from blwO (blwA _ _) hb)
  have HZ := Lib.hid hz
  cases hh : heldB { y.x with opens := sm }
  · rw [if_neg (by decide)]
    have CH := Lib.hid (fun (W : World) (hb : Below w.heap.size w W) => phold_drop (y' := ⟨{ y.x with opens := sm }, y.ao, y.cap⟩) (hp.below hb) rfl hwf ha2 hr hh)
    have HL := Lib.hid (fun (W w' : World) (hb : Below w.heap.size w W) (h1 : PTab w' b m (a ++ r) t.next) (hk : Kept (fun k => k ≠ m) W w') => PTab.leaves (t' := ⟨(a ++ r).map (·.x), t.next⟩) HZ.out h1 rfl (Went.gone ((Kept.ofBelow hb _).trans hk)))
    clear hp g1 g2 hz hm hs hn hnx h1 hb hq hin hsm hw0 hrise hr ha ha2 hyI hwf hlen hy hh
    go_enter Try.func24, Try.ntmps24
    go_wp2_with (first
      | (go_at_call 31; refine CF.out.mono ?_; rintro e w1 ⟨rfl, hb1⟩; have HB1 := Lib.hid hb1; have HB2 := Lib.hid (HA2.out _ hb1); clear hb1)
      | (go_at_call 32; with_reducible refine (CS.out _).mono ?_; rintro e w' ⟨rfl, rfl⟩)
      | (go_at_call 33; with_reducible refine (CW.out _).mono ?_; rintro e w' ⟨rfl, rfl⟩)
      | (go_at_call 34; refine (CH.out _ HB2.out).mono ?_; rintro e w3 ⟨rfl, hp3, hk3⟩; have HL3 := Lib.hid (HL.out _ _ HB2.out hp3 hk3); clear hp3 hk3))
    go_ret
    exact ⟨rfl, HL3.out⟩
  · rw [if_pos rfl]
    have CH := Lib.hid (fun (W : World) (hb : Below w.heap.size w W) => phold_keep (y' := ⟨{ y.x with opens := sm }, y.ao, y.cap⟩) (hp.below hb) hlen (HY.out.below hb) rfl hwf ha2 hh)
    have HL := Lib.hid (fun (W w' : World) (hb : Below w.heap.size w W) (h1 : PTab w' b m (a ++ (⟨{ y.x with opens := sm }, y.ao, y.cap⟩ : Iv) :: r) t.next) (hk : Kept (fun k => k ≠ m) W w') => PTab.leaves (t' := ⟨(a ++ (⟨{ y.x with opens := sm }, y.ao, y.cap⟩ : Iv) :: r).map (·.x), t.next⟩) HZ.out h1 rfl (Went.turned ((Kept.ofBelow hb _).trans hk) rfl))
    clear hp g1 g2 hz hm hs hn hnx h1 hb hq hin hsm hw0 hrise hr ha ha2 hyI hwf hlen hy hh
    go_enter Try.func24, Try.ntmps24
    go_wp2_with (first
      | (go_at_call 31; refine CF.out.mono ?_; rintro e w1 ⟨rfl, hb1⟩; have HB1 := Lib.hid hb1; have HB2 := Lib.hid (HA2.out _ hb1); clear hb1)
      | (go_at_call 32; with_reducible refine (CS.out _).mono ?_; rintro e w' ⟨rfl, rfl⟩)
      | (go_at_call 33; with_reducible refine (CW.out _).mono ?_; rintro e w' ⟨rfl, rfl⟩)
      | (go_at_call 34; refine (CH.out _ HB2.out).mono ?_; rintro e w3 ⟨rfl, hp3, hk3⟩; have HL3 := Lib.hid (HL.out _ _ HB2.out hp3 hk3); clear hp3 hk3))
    go_ret
    exact ⟨rfl, HL3.out⟩
end Go.Proofs.Ytfkgeefoknaldaa
namespace Go.Proofs.Ytfkgeefoknaldaa
open Go.RowKit Go.Maps
set_option linter.unusedVariables false
set_option maxRecDepth 20000
theorem pkind_is {k : Int} {c : Bool} (h : kindB k = c) (w : World) : Calls Try.prog 30 #[.int .i64 k] w fun e w' => e = .returned (.bool c) ∧ w = w' := h ▸ pkind_any k w
set_option maxHeartbeats 1000000 in
theorem pmake_nil (k : Int) (w : World) : Calls Try.prog 10 #[.pointer none, .int .i64 k] w fun e w' => e = .returned (.tuple #[.int .i64 0, .int .i64 1]) ∧ w = w' := by
  go_enter Try.func10, Try.ntmps10
  go_wp2_with fail
  go_ret2
  exact ⟨rfl, rfl⟩
theorem make_no {t : Tb} {k : Int} (h : kindB k = false) : makeI t k = (t, 0, 1) := by unfold makeI; rw [if_neg (by rw [h]; decide)]
theorem make_full {t : Tb} {k : Int} (h : kindB k = true) (hl : ¬ t.l.length < 64) : makeI t k = (t, 0, 67) := by unfold makeI; rw [if_pos h, if_neg hl]
theorem make_yes {t : Tb} {k : Int} (h : kindB k = true) (hl : t.l.length < 64) : makeI t k = (⟨t.l ++ [⟨t.next, k, 0, 0, 0, []⟩], t.next + 1⟩, t.next, 0) := by unfold makeI; rw [if_pos h, if_pos hl]
set_option maxHeartbeats 4000000 in
theorem pmake_any {b : Nat} {G : Nat → Prop} {w : World} {t : Tb} {k : Int} (h : PT b G w t) (ht : TbI t) (hnx : t.next ≤ 9000000000000000000) :
    Calls Try.prog 10 #[.pointer (some ⟨b, 0, none⟩), .int .i64 k] w fun e w' => e = .returned (.tuple #[.int .i64 (makeI t k).2.1, .int .i64 (makeI t k).2.2]) ∧ Leaves (PT b) G w w' (makeI t k).1 := by
  have HPT := Lib.hid h
  have HS := Lib.hid (fun (W : World) (hb : Below w.heap.size w W) => Leaves.same (pt_thing b) HPT.out hb)
  obtain ⟨m, l, hm, hp, hz⟩ := h
  obtain ⟨c0, c1, f0, f1, hbl⟩ := hp.cells
  have hlen : l.length = t.l.length := by rw [← hm, List.length_map]
  cases hk : kindB k
  · rw [make_no hk]
    have CK := Lib.hid (fun W => pkind_is hk W)
    clear hp hz hm hk ht hlen
    go_enter Try.func10, Try.ntmps10
    go_wp2_with (go_at_call 30; with_reducible refine (CK.out _).mono ?_; rintro e w' ⟨rfl, rfl⟩)
    go_ret2
    exact ⟨rfl, HS.out _ (Below.refl _ _)⟩
  have CK := Lib.hid (fun W => pkind_is hk W)
  have hML := hp.map.len 3
  by_cases hl : t.l.length < 64
  rotate_left
  · rw [make_full hk hl]
    have g1 : (64 : Int) ≤ (l.length : Int) := by omega
    clear hp hz hm hk ht hlen hl
    go_enter Try.func10, Try.ntmps10
    go_wp2_with (go_at_call 30; with_reducible refine (CK.out _).mono ?_; rintro e w' ⟨rfl, rfl⟩)
    go_ret2
    exact ⟨rfl, HS.out _ (Below.refl _ _)⟩
  rw [make_yes hk hl]
  have g1 : (l.length : Int) < 64 := by omega
  have hno : getV l t.next = none := getV_no (fun y hy e => by
    have := (ht.each y.x (by rw [← hm]; exact List.mem_map.2 ⟨y, hy, rfl⟩)).1.2
    omega)
  have hn2 := ht.next
  have HU := Lib.hid (show (Lit.int .i64 t.next).wf = true from WalkArith.wf_i64 (by omega))
  have HG := Lib.hid (fun v => getV_snoc (y := ⟨⟨t.next, k, 0, 0, 0, []⟩, none, 0⟩) hno v)
  have HL := Lib.hid (show (l ++ [(⟨⟨t.next, k, 0, 0, 0, []⟩, none, 0⟩ : Iv)]).length = if (getV l t.next).isSome then l.length else l.length + 1 from by rw [hno]; simp)
  have hw1 : IntKind.i64.wrap (t.next + 1) = t.next + 1 := IntWalk.i64_in _ (by omega)
  have HT := Lib.hid hp
  have HZ := Lib.hid hz
  have HN := Lib.hid (show l.length ≤ 1000000 from by omega)
  have HM := Lib.hid hm
  have HX := Lib.hid (show ∀ y' ∈ l ++ [(⟨⟨t.next, k, 0, 0, 0, []⟩, none, 0⟩ : Iv)], (∃ y ∈ l, y'.ao = y.ao) ∨ ∀ a, y'.ao = some a → w.heap.size ≤ a.block from fun y' hy' => by
    rcases List.mem_append.1 hy' with hy | hy
    · exact .inl ⟨y', hy, rfl⟩
    · rw [List.mem_singleton.1 hy]
      exact .inr (fun a e => by cases e))
  have HI := Lib.hid (show ∀ y ∈ l ++ [(⟨⟨t.next, k, 0, 0, 0, []⟩, none, 0⟩ : Iv)], IvIn w b m y from fun y hy => by
    rcases List.mem_append.1 hy with hy | hy
    · exact hp.each y hy
    · rw [List.mem_singleton.1 hy]
      exact ⟨Row.nil _ _ _ _, fun _ => rfl, Nat.le_refl _, fun a e => by cases e⟩)
  have hb0 := hp.two
  have HBM := Lib.hid hb0
  obtain ⟨nx, hx⟩ : ∃ nx, t.next = nx := ⟨_, rfl⟩
  have HXX := Lib.hid hx
  rw [hx] at c1 HU HG HL hw1 HX HI HT
  clear hp hz hm hk ht hlen hl hno hn2 hnx hx hb0
  go_enter Try.func10, Try.ntmps10
  go_wp2_with (first
    | (go_at_call 30; with_reducible refine (CK.out _).mono ?_; rintro e w' ⟨rfl, rfl⟩)
    | (at_mapUpdate; refine wpList_set_ino (y := ⟨⟨nx, k, 0, 0, 0, []⟩, none, 0⟩) (l' := l ++ [(⟨⟨nx, k, 0, 0, 0, []⟩, none, 0⟩ : Iv)]) rfl _ _ _ rfl rfl HT.out.map HN.out HU.out rfl rfl HG.out HL.out ?_; intro w2 hm2 hg2; have HP2 := Lib.hid (HT.out.turn hg2 hm2 HI.out); have HK2 := Lib.hid ((Kept.refl (fun k => k ≠ b ∧ k ≠ m) w).grown hg2 (fun k e hk => hk.2 (Option.some.inj e).symm)); obtain ⟨d0, d1, e0, e1, hbl2⟩ := HP2.out.cells; clear hm2 hg2))
  go_ret2
  refine ⟨by rw [HXX.out]; rfl, ?_⟩
  rw [HXX.out]
  exact PTab.leaves (t' := ⟨t.l ++ [⟨nx, k, 0, 0, 0, []⟩], nx + 1⟩) HZ.out HP2.out.next (by rw [List.map_append, HM.out]; rfl) ⟨HK2.out.setCell (p := ⟨b, 1, none⟩) (fun e => e.1 rfl) _, .inl rfl, HX.out⟩
end Go.Proofs.Ytfkgeefoknaldaa
namespace Go.Proofs.Ytfkgeefoknaldaa
open Go.RowKit
set_option linter.unusedVariables false
set_option maxRecDepth 20000
theorem OIv.head {w : World} {B : Nat} {v : Value} {l : List Iv} (h : OIv w B v l) (hl : l ≠ []) : ∃ g cap, v = .slice (some ⟨g, 0, none⟩) l.length cap ∧ B ≤ g := by
  rcases h.2 with ⟨_, h0⟩ | ⟨g, cap, cur, rfl, hb, _, hc, _⟩
  · exact absurd (List.eq_nil_of_length_eq_zero h0) hl
  · exact ⟨g, cap, rfl, hb⟩
/-- a longer row in memory of its own; the next number -/
theorem DTab.longer {w w5 : World} {B q g cap g5 cap5 : Nat} {l : List Iv} {nx nx2 : Int} {x : Ino} {v : Value} (h : DTab w B q g cap l nx) (hb : Below w.heap.size w w5) (hx : x.parts = []) (ho : OIv w5 w.heap.size v (l ++ [⟨x, none, 0⟩])) (hv : v = .slice (some ⟨g5, 0, none⟩) (l.length + 1) cap5) (hg : w.heap.size ≤ g5) (hB : B ≤ w.heap.size) :
    DTab ((w5.setCell ⟨q, 0, none⟩ v).setCell ⟨q, 1, none⟩ (.int .i64 nx2)) B q g5 cap5 (l ++ [⟨x, none, 0⟩]) nx2 := by
  subst hv
  have hq := lt_of_block h.head
  have hqg : q ≠ g5 := by omega
  have hk : Kept (fun k => k ≠ q) w5 ((w5.setCell ⟨q, 0, none⟩ (.slice (some ⟨g5, 0, none⟩) (l.length + 1) cap5)).setCell ⟨q, 1, none⟩ (.int .i64 nx2)) := ((Kept.refl _ w5).setCell (fun e => e rfl) _).setCell (fun e => e rfl) _
  have hl : (l ++ [(⟨x, none, 0⟩ : Iv)]).length = l.length + 1 := by simp
  refine ⟨?_, ?_, h.low, hqg, fun y hy => ?_⟩
  · rw [hl]
    exact two_set1 (two_set0 (below_heap hb h.head) _) _
  · rw [hl]
    exact OR.lower (OR.keep ho hk (fun k e => by cases e; exact Ne.symm hqg)) hB
  · rcases List.mem_append.1 hy with hy | hy
    · obtain ⟨i1, i2, i3, i4⟩ := h.each y hy
      exact ⟨PaL.kept (PaL.below i1 hb) hk (fun a e => (i4 a e).2.1), i2, i3, fun a e => ⟨Nat.lt_of_lt_of_le (i4 a e).1 (Nat.le_trans hb.size hk.size), (i4 a e).2.1, by have := (i4 a e).1; omega⟩⟩
    · rw [List.mem_singleton.1 hy]
      show PaL _ none x.parts ∧ (none = none → 0 = 0) ∧ x.parts.length ≤ 0 ∧ _
      rw [hx]
      exact ⟨Row.nil _ _ _ _, fun _ => rfl, Nat.le_refl _, fun a e => by cases e⟩
theorem c_alloc {w : World} {b o : Nat} {v : Value} {x : Obj} (h : w.cell? ⟨b, o, none⟩ = some v) : (w.alloc x).cell? ⟨b, o, none⟩ = some v := cellB (blwA w x) (block_lt_of_cell h) h
theorem c_drew {w : World} {b o : Nat} {v : Value} (h : w.cell? ⟨b, o, none⟩ = some v) : w.drew.cell? ⟨b, o, none⟩ = some v := h
end Go.Proofs.Ytfkgeefoknaldaa
