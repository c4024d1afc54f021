/- Stage 20: what the program's own apart, Stat, Parts, Opens, Dump return. Conditions: the table lies where the call was told; numbers of 64 bits. Stage 20: what the program's own Write returns. Conditions: the table lies where the call was told; numbers of 64 bits. Stage 20: the document's Make. No conditions. -/
import Derived.Test.YtfkgeefoknaldaaG29a
import Derived.Test.YtfkgeefoknaldaaG27b
import Derived.Test.YtfkgeefoknaldaaG18a
import Derived.Lib.MinMax
import Derived.Test.YtfkgeefoknaldaaG26a
set_option linter.unusedVariables false
namespace Go.Proofs.Ytfkgeefoknaldaa
open Go.RowKit Go.Maps
set_option linter.unusedVariables false
set_option maxRecDepth 20000
set_option maxHeartbeats 1000000 in
theorem papart_any (ao : Option Addr) (cap : Nat) (l : List Pt) (w : World) (h : PaL w ao l) (hn : ao = none → cap = 0) (hc : l.length ≤ cap) (hl : l.length ≤ 100000) :
    Calls Try.prog 41 #[.slice ao l.length cap] w fun e w' => ∃ v, e = .returned v ∧ OPa w' w.heap.size v l ∧ Below w.heap.size w w' := by
  have HP := Lib.hid h
  have HM := Lib.hid (show OPa w w.heap.size (.slice none 0 0) [] from OR.nil _ _)
  have HL := Lib.hid (show ([] : List Pt).length + l.length ≤ 1000000 from by simp; omega)
  have HNN := Lib.hid hn
  clear h hn
  go_enter Try.func41, Try.ntmps41
  go_wp2_with (refine wpList_app_rows par_rows (o := ⟨some 4, _, _, _, _, _⟩) rfl (.const (.slice none 0 0)) (.tmp 3) rfl (B := w.heap.size) (v := .slice none 0 0) (D := []) rfl HM.out (ao := ao) (cap := cap) (l := l) (m := l.length) rfl rfl HP.out HNN.out hc HL.out (Nat.le_refl _) ?_; intro v4 w4 hI hg _; have HO4 := Lib.hid (show OPa w4 w.heap.size v4 l from hI); have HB4 := Lib.hid ((Below.refl w.heap.size w).grown hg (Nat.le_refl _) (fun k e => by cases e)); clear hI hg)
  go_ret
  exact ⟨_, rfl, HO4.out, HB4.out⟩
/-- a result that is what is told of an inode, and whether it is there -/
abbrev staA (y : Iv) : Array Value := #[.int .i64 y.x.ino, .int .i64 y.x.kind, .int .i64 y.x.links, .int .i64 y.x.size]
theorem staA_info (y : Iv) : (Try.prog.info? 56).map (·.size) = some (staA y).size := by
  show _ = some 4
  kernel_rfl
theorem staA_one (y : Iv) : (staA y).all (·.oneCell') = true := by simp [Value.oneCell']
theorem sta_ret {fn : Func} {p u : Tmp} (h : fn.results = #[.cell p 56, .tmp u]) {a : Act} {w : World} {g : Nat} {y : Iv} {x : Bool} {R : Ending → World → Prop}
    (hg : w.heap[g]? = some (.cells (staA y) 56 (0, 0))) (hp : a.tmps.getD p undef = .pointer (some ⟨g, 0, none⟩)) (hx : a.tmps.getD u undef = .bool x) (hd : a.defers = [])
    (hR : R (.returned (.tuple #[.agg (staA y), .bool x])) w) : bodyPost Try.prog fn R .ret a w := by
  have e : (results fn a.tmps).run Try.prog w = .ok (.tuple #[.agg (staA y), a.tmps.getD u undef]) w := by
    rw [results_cell_tmp h, hp]
    simp [asAddr, Result.andThen, run_loadVar_row w g 56 56 (staA y) (0, 0) _ hg Try.underlying56 rfl (by kernel_rfl)]
  rw [hx] at e
  exact bodyPost_ret e hd hR
set_option maxHeartbeats 4000000 in
theorem pstat_of {p : Value} {n c : Int} {w : World} {y : Iv} (hc : ∀ W, Below w.heap.size w W → Calls Try.prog 31 #[p, .int .i64 n] W fun e w' => e = .returned (.tuple #[.agg #[.int .i64 y.x.ino, .int .i64 y.x.kind, .int .i64 y.x.links, .int .i64 y.x.opens, .int .i64 y.x.size, .slice y.ao y.x.parts.length y.cap], .int .i64 c]) ∧ Below W.heap.size W w') :
    Calls Try.prog 23 #[p, .int .i64 n] w fun e w' => e = .returned (.tuple #[.agg #[.int .i64 y.x.ino, .int .i64 y.x.kind, .int .i64 y.x.links, .int .i64 y.x.size], .bool (c == 0)]) ∧ Below w.heap.size w w' := by
  have HC := Lib.hid (hc _ (blwA w (.cells #[.int .i64 0, .int .i64 0, .int .i64 0, .int .i64 0] 56 (0, 0))))
  have HN := Lib.hid (fun (W : World) (hb : Below (w.alloc (.cells #[.int .i64 0, .int .i64 0, .int .i64 0, .int .i64 0] 56 (0, 0))).heap.size (w.alloc (.cells #[.int .i64 0, .int .i64 0, .int .i64 0, .int .i64 0] 56 (0, 0))) W) => show (W.alloc (inoO y)).heap[w.heap.size]? = some (.cells #[.int .i64 0, .int .i64 0, .int .i64 0, .int .i64 0] 56 (0, 0)) ∧ Below w.heap.size w (W.alloc (inoO y)) from ⟨below_heap (blwO (blwA _ _) hb) (heap_alloc_new _ _), blwO (blwO (blwA _ _) hb) (blwA w _)⟩)
  have HF := Lib.hid (fun (W : World) (h1 : W.heap[w.heap.size]? = some (.cells #[.int .i64 0, .int .i64 0, .int .i64 0, .int .i64 0] 56 (0, 0))) (hb : Below w.heap.size w W) => show (W.setRow w.heap.size (staA y)).heap[w.heap.size]? = some (.cells (staA y) 56 (0, 0)) ∧ Below w.heap.size w (W.setRow w.heap.size (staA y)) from ⟨setRow_heap _ _ _ _ _ _ h1, below_setRow hb (Nat.le_refl _) _⟩)
  clear hc
  generalize hcc : (c == 0) = cc at *
  go_enter Try.func23, Try.ntmps23
  go_wp2_with (first
    | (go_at_call 31; refine HC.out.mono ?_; rintro e w1 ⟨rfl, hb1⟩; obtain ⟨hn1, hbb⟩ := HN.out _ hb1; have HZ1 := Lib.hid hn1; have HF1 := Lib.hid (HF.out _ hn1 hbb); clear hb1 hn1 hbb)
    | (refine wpList_store_row (o := ⟨none, _, _, _, _, _⟩) ?d1 56 (.tmp 4) (.tmp 22) ?d2 w.heap.size (staA y) ?d3 ?d4 56 _ HZ1.out (staA_info y) rfl (staA_one y) ?d5; (case d1 => rfl); (case d2 => rfl); (case d3 => rfl); (case d4 => rfl)))
  exact sta_ret (y := y) rfl HF1.out.1 rfl rfl rfl ⟨rfl, HF1.out.2⟩
set_option maxHeartbeats 4000000 in
theorem pparts_of {p : Value} {n c : Int} {w : World} {y : Iv} (hc : Calls Try.prog 31 #[p, .int .i64 n] w fun e w' => e = .returned (.tuple #[.agg #[.int .i64 y.x.ino, .int .i64 y.x.kind, .int .i64 y.x.links, .int .i64 y.x.opens, .int .i64 y.x.size, .slice y.ao y.x.parts.length y.cap], .int .i64 c]) ∧ Below w.heap.size w w')
    (hp : PaL w y.ao y.x.parts) (hn : y.ao = none → y.cap = 0) (hk : y.x.parts.length ≤ y.cap) (hl : y.x.parts.length ≤ 100000) :
    Calls Try.prog 21 #[p, .int .i64 n] w fun e w' => ∃ v, e = .returned v ∧ OPa w' w.heap.size v y.x.parts ∧ Below w.heap.size w w' := by
  have HC := Lib.hid hc
  have CA := Lib.hid (fun (W : World) (hb : Below w.heap.size w W) => papart_any y.ao y.cap y.x.parts W (PaL.below hp hb) hn hk hl)
  have HA := Lib.hid (fun (W : World) (hb : Below w.heap.size w W) => show Below w.heap.size w (W.alloc (inoO y)) from blwO (blwA _ _) hb)
  clear hc hp hn hk hl
  go_enter Try.func21, Try.ntmps21
  go_wp2_with (first
    | (go_at_call 31; refine HC.out.mono ?_; rintro e w1 ⟨rfl, hb1⟩; have HB1 := Lib.hid (HA.out _ hb1); clear hb1)
    | (go_at_call 41; refine (CA.out _ HB1.out).mono ?_; rintro e w2 ⟨v, rfl, hO, hb2⟩; have HO2 := Lib.hid (hO.lower HB1.out.size); have HB2 := Lib.hid (blwO hb2 HB1.out); clear hO hb2))
  go_ret
  exact ⟨_, rfl, HO2.out, HB2.out⟩
set_option maxHeartbeats 1000000 in
theorem popens_nil (n : Int) (w : World) : Calls Try.prog 28 #[.pointer none, .int .i64 n] w fun e w' => e = .returned (.int .i64 0) ∧ Below w.heap.size w w' := by
  have HC := Lib.hid (pfind_nil n w)
  have HA := Lib.hid (fun (W : World) (hb : Below w.heap.size w W) => show Below w.heap.size w (W.alloc (inoO noV)) from blwO (blwA _ _) hb)
  go_enter Try.func28, Try.ntmps28
  go_wp2_with (go_at_call 31; refine HC.out.mono ?_; rintro e w1 ⟨rfl, hb1⟩; have HB1 := Lib.hid hb1; clear hb1)
  go_ret
  exact ⟨rfl, HA.out _ HB1.out⟩
end Go.Proofs.Ytfkgeefoknaldaa
namespace Go.Proofs.Ytfkgeefoknaldaa
open Go.RowKit Go.Maps
set_option linter.unusedVariables false
set_option maxRecDepth 20000
set_option maxHeartbeats 1000000 in
theorem pwrite_nil (n off k ad : Int) (w : World) : Calls Try.prog 25 #[.pointer none, .int .i64 n, .int .i64 off, .int .i64 k, .int .i64 ad] w fun e w' => e = .returned (.int .i64 1) ∧ Below w.heap.size w w' := by
  have CF := Lib.hid (pfile_nil n w)
  have HA := Lib.hid (fun (W : World) (hb : Below w.heap.size w W) => show Below w.heap.size w (W.alloc (inoO noV)) from blwO (blwA _ _) hb)
  go_enter Try.func25, Try.ntmps25
  go_wp2_with (go_at_call 44; refine CF.out.mono ?_; rintro e w1 ⟨rfl, hb1⟩; have HB1 := Lib.hid hb1; clear hb1)
  go_ret
  exact ⟨rfl, HA.out _ HB1.out⟩
set_option maxHeartbeats 4000000 in
theorem pwrite_any {b : Nat} {G : Nat → Prop} {w : World} {t : Tb} {n off k ad : Int} (h : PT b G w t) (ht : TbI t) (hn : (Lit.int .i64 n).wf = true) (hs : -9223372036854775808 ≤ off ∧ off ≤ 9223372036854775807) :
    Calls Try.prog 25 #[.pointer (some ⟨b, 0, none⟩), .int .i64 n, .int .i64 off, .int .i64 k, .int .i64 ad] w fun e w' => e = .returned (.int .i64 (writeI t n off k ad).2) ∧ Leaves (PT b) G w w' (writeI t n off k ad).1 := by
  have HPT := Lib.hid h
  obtain ⟨m, l, hm, hp, hz⟩ := h
  have HS := Lib.hid (fun (W : World) (hb : Below w.heap.size w W) => Leaves.same (pt_thing b) HPT.out hb)
  unfold writeI
  rcases vi_cases l n with ⟨g1, g2⟩ | ⟨a, y, r, hl, hy, ha, g1, g2⟩
  · rw [hm] at g2
    rw [fileI_none g2]
    have CF := Lib.hid (pfile_none hp hn g1)
    have HA := Lib.hid (fun (W : World) (hb : Below w.heap.size w W) => show Below w.heap.size w (W.alloc (inoO noV)) from blwO (blwA _ _) hb)
    clear hp g1 g2 hz hm ht
    go_enter Try.func25, Try.ntmps25
    go_wp2_with (go_at_call 44; refine CF.out.mono ?_; rintro e w1 ⟨rfl, hb1⟩; have HB1 := Lib.hid hb1; clear hb1)
    go_ret
    exact ⟨rfl, HS.out _ (HA.out _ HB1.out)⟩
  rw [hm] at g2
  by_cases hk : y.x.kind = 1
  · rw [fileI_dir g2 hk]
    have CF := Lib.hid (pfile_isdir hp hn g1 hk)
    have HA := Lib.hid (fun (W : World) (hb : Below w.heap.size w W) => show Below w.heap.size w (W.alloc (inoO noV)) from blwO (blwA _ _) hb)
    clear hp g1 g2 hz hm ht hk hy
    go_enter Try.func25, Try.ntmps25
    go_wp2_with (go_at_call 44; refine CF.out.mono ?_; rintro e w1 ⟨rfl, hb1⟩; have HB1 := Lib.hid hb1; clear hb1)
    go_ret
    exact ⟨rfl, HS.out _ (HA.out _ HB1.out)⟩
  have CF := Lib.hid (pfile_some hp hn g1 hk)
  have HA := Lib.hid (fun (W : World) (hb : Below w.heap.size w W) => show Below w.heap.size w (W.alloc (inoO y)) from blwO (blwA _ _) hb)
  by_cases hb1 : 1 ≤ k ∧ k ≤ 1024
  rotate_left
  · rw [fileI_no (e := 67) g2 hk (ht.one g2) (by unfold writeF; exact if_neg (fun e => hb1 ⟨e.2.2.1, e.2.2.2.1⟩))]
    have CW := Lib.hid (fun W => pwithin_no hb1 W)
    clear hp g1 g2 hz hm ht hk hy hb1
    go_enter Try.func25, Try.ntmps25
    go_wp2_with (first
      | (go_at_call 44; refine CF.out.mono ?_; rintro e w1 ⟨rfl, hb1⟩; have HB1 := Lib.hid hb1; clear hb1)
      | (go_at_call 33; with_reducible refine (CW.out _).mono ?_; rintro e w' ⟨rfl, rfl⟩))
    go_ret
    exact ⟨rfl, HS.out _ (HA.out _ HB1.out)⟩
  have CW1 := Lib.hid (fun W => pwithin_yes hb1 W)
  have hw2 : IntKind.i64.wrap (8192 - k) = 8192 - k := IntWalk.i64_in _ (by omega)
  by_cases hb2 : 0 ≤ off ∧ off ≤ 8192 - k
  rotate_left
  · rw [fileI_no (e := 67) g2 hk (ht.one g2) (by unfold writeF; exact if_neg (fun e => hb2 ⟨e.1, by omega⟩))]
    have CW2 := Lib.hid (fun W => pwithin_no hb2 W)
    clear hp g1 g2 hz hm ht hk hy hb1 hb2
    go_enter Try.func25, Try.ntmps25
    go_wp2_with (first
      | (go_at_call 44; refine CF.out.mono ?_; rintro e w1 ⟨rfl, hb1⟩; have HB1 := Lib.hid hb1; clear hb1)
      | (go_at_call 33; with_reducible refine (CW1.out _).mono ?_; rintro e w' ⟨rfl, rfl⟩)
      | (go_at_call 33; with_reducible refine (CW2.out _).mono ?_; rintro e w' ⟨rfl, rfl⟩))
    go_ret
    exact ⟨rfl, HS.out _ (HA.out _ HB1.out)⟩
  subst hl
  have CW2 := Lib.hid (fun W => pwithin_yes hb2 W)
  have hw1 : IntKind.i64.wrap (off + k) = off + k := IntWalk.i64_in _ (by omega)
  have hcond : 0 ≤ off ∧ off ≤ 8192 ∧ 1 ≤ k ∧ k ≤ 1024 ∧ off + k ≤ 8192 := ⟨hb2.1, by omega, hb1.1, hb1.2, by omega⟩
  have hyI := hp.each y (List.mem_append_right _ List.mem_cons_self)
  have hin := ht.each y.x (by rw [← hm]; exact List.mem_map.2 ⟨y, List.mem_append_right _ List.mem_cons_self, rfl⟩)
  have hplen : y.x.parts.length ≤ maxLen := by
    have := (goodE_iff.1 hin.2.2.2.2.2.2.1).1
    unfold maxLen
    omega
  have CC := Lib.hid (fun (W : World) (hb : Below w.heap.size w W) => eput_any y.ao y.cap y.x.parts ⟨off, k, ad, 0⟩ W (PaL.below hyI.1 hb) hyI.2.1 hyI.2.2.1 hplen)
  have HY := Lib.hid hyI
  have hbw := lt_of_block hp.head
  have hmw := hp.map.lt
  have HBW := Lib.hid hbw
  have HMW := Lib.hid hmw
  by_cases hq : (putE y.x.parts ⟨off, k, ad, 0⟩).2 = 0
  rotate_left
  · have e1 : ((putE y.x.parts ⟨off, k, ad, 0⟩).2 == 0) = false := beq_eq_false_iff_ne.2 hq
    rw [fileI_no (e := spaceI (putE y.x.parts ⟨off, k, ad, 0⟩).2) g2 hk (ht.one g2) (by unfold writeF; rw [if_pos hcond, if_neg hq])]
    have CS := Lib.hid (fun W => pspace_any (putE y.x.parts ⟨off, k, ad, 0⟩).2 W)
    generalize (putE y.x.parts ⟨off, k, ad, 0⟩).2 = ec at *
    generalize (putE y.x.parts ⟨off, k, ad, 0⟩).1 = P2 at *
    clear hp g1 g2 hz hm ht hk hy hb1 hb2 hcond hyI hin hplen hq hbw hmw ha hn hs
    go_enter Try.func25, Try.ntmps25
    go_wp2_with (first
      | (go_at_call 44; refine CF.out.mono ?_; rintro e w1 ⟨rfl, hb1⟩; have HX1 := Lib.hid (Bxd.start hb1 HY.out); clear hb1)
      | (go_at_call 33; with_reducible refine (CW1.out _).mono ?_; rintro e w' ⟨rfl, rfl⟩)
      | (go_at_call 33; with_reducible refine (CW2.out _).mono ?_; rintro e w' ⟨rfl, rfl⟩)
      | (go_at_call 46; with_reducible refine (CS.out _).mono ?_; rintro e w' ⟨rfl, rfl⟩)
      | (go_at_call 45; refine (CC.out _ HX1.out.below).mono ?_; rintro e w2 ⟨v2, rfl, hO, hB2⟩; obtain ⟨ao2, cp2, hv2, hI2, hn2⟩ := IvIn.fresh2 (x := { y.x with parts := P2 }) hO rfl (Nat.lt_of_lt_of_le HBW.out HX1.out.below.size) (Nat.lt_of_lt_of_le HMW.out HX1.out.below.size); subst hv2; have HX2 := Lib.hid (HX1.out.on hB2); obtain ⟨_, _, _, _, d4, d5⟩ := HX2.out.cells; have e4 := HX2.out.free 4; have e5 := HX2.out.free 5; have HX3 := Lib.hid (HX2.out.set5 hI2 (fun a e => Nat.le_trans HX1.out.below.size (hn2 a e)) (fun a e => by have := hn2 a e; have := HX1.out.lt; omega)); clear hO hB2 hI2 hn2))
    go_ret
    exact ⟨rfl, HS.out _ HX3.out.below⟩
  have e1 : ((putE y.x.parts ⟨off, k, ad, 0⟩).2 == 0) = true := beq_iff_eq.2 hq
  rw [fileI_yes g2 hk]
  have hrise := ht.rise
  rw [← hm] at hrise
  have hf : writeF off k ad y.x = ({ y.x with parts := (putE y.x.parts ⟨off, k, ad, 0⟩).1, size := max y.x.size (off + k) }, 0) := by
    unfold writeF
    rw [if_pos hcond, if_pos hq]
  have HTN := Lib.hid (fun (ao : Option Addr) (cp : Nat) => iv_turn (a := a) (r := r) (y := y) (n := n) (f := fun x => (writeF off k ad x).1) (y' := ⟨{ y.x with parts := (putE y.x.parts ⟨off, k, ad, 0⟩).1, size := max y.x.size (off + k) }, ao, cp⟩) hrise hy ha (by rw [hf]))
  rw [hm] at HTN
  rw [hf]
  have ha2 : ∀ z ∈ a, z.x.ino ≠ y.x.ino := by rw [hy]; exact ha
  have HG := Lib.hid (fun (y' : Iv) (e : y'.x.ino = y.x.ino) v => (show getV (a ++ y' :: r) v = if v = n then some y' else getV (a ++ y :: r) v from hy ▸ getV_turn (r := r) ha2 e v))
  have HL := Lib.hid (fun (y' : Iv) => show (a ++ y' :: r).length = if (getV (a ++ y :: r) n).isSome then (a ++ y :: r).length else (a ++ y :: r).length + 1 from by rw [g1]; simp)
  have HN := Lib.hid (show (a ++ y :: r).length ≤ 1000000 from by
    have := ht.most
    rw [← hm, List.length_map] at this
    omega)
  have HT := Lib.hid hp
  have HZ := Lib.hid hz
  have HU := Lib.hid hn
  rw [hq] at CC e1
  generalize hP2 : (putE y.x.parts ⟨off, k, ad, 0⟩).1 = P2 at *
  clear hp g1 g2 hz hm ht hk hy hb1 hb2 hcond hyI hin hplen hq hbw hmw ha hn hs hf hrise ha2 hP2
  go_enter Try.func25, Try.ntmps25
  go_wp2_with (first
    | (go_at_call 44; refine CF.out.mono ?_; rintro e w1 ⟨rfl, hb1⟩; have HX1 := Lib.hid (Bxd.start hb1 HY.out); clear hb1)
    | (go_at_call 33; with_reducible refine (CW1.out _).mono ?_; rintro e w' ⟨rfl, rfl⟩)
    | (go_at_call 33; with_reducible refine (CW2.out _).mono ?_; rintro e w' ⟨rfl, rfl⟩)
    | (go_at_call 45; refine (CC.out _ HX1.out.below).mono ?_; rintro e w2 ⟨v2, rfl, hO, hB2⟩; obtain ⟨ao2, cp2, hv2, hI2, hn2⟩ := IvIn.fresh2 (x := { y.x with parts := P2 }) hO rfl (Nat.lt_of_lt_of_le HBW.out HX1.out.below.size) (Nat.lt_of_lt_of_le HMW.out HX1.out.below.size); subst hv2; have HX2 := Lib.hid (HX1.out.on hB2); obtain ⟨_, _, _, _, d4, d5⟩ := HX2.out.cells; have e4 := HX2.out.free 4; have e5 := HX2.out.free 5; have HX3 := Lib.hid ((HX2.out.set5 hI2 (fun a e => Nat.le_trans HX1.out.below.size (hn2 a e)) (fun a e => by have := hn2 a e; have := HX1.out.lt; omega)).set4 (max y.x.size (off + k))); clear hO hB2 hI2 hn2))
  generalize hW3 : World.setCell (World.setCell w2 _ _) _ _ = W3 at *
  clear d4 d5 e4 e5 hW3
  have HX4 := Lib.hid (HX3.out.on (Below.refl _ W3).drew)
  have HP4 := Lib.hid (HT.out.below HX4.out.below)
  obtain ⟨c0, c1, f0, f1, hbl⟩ := HP4.out.cells
  obtain ⟨d0, d1, d2, d3, d4, d5⟩ := HX4.out.cells
  go_still_tail 6, (by kernel_rfl)
  change wpList _ _ _ _ _ W3.drew
  go_wp2_with (at_mapUpdate; refine wpList_set_ino (y := ⟨{ y.x with parts := P2, size := max y.x.size (off + k) }, ao2, cp2⟩) (l' := a ++ (⟨{ y.x with parts := P2, size := max y.x.size (off + k) }, ao2, cp2⟩ : Iv) :: r) rfl _ _ _ rfl rfl HP4.out.map HN.out HU.out rfl rfl (HG.out _ rfl) (HL.out _) ?_; intro w5 hm5 hg5; have HM5 := Lib.hid hm5; have HG5 := Lib.hid hg5; clear hm5 hg5)
  go_ret
  exact ⟨rfl, Bxd.leaves (t' := ⟨_, t.next⟩) HX4.out HZ.out HT.out HG5.out HM5.out (HTN.out ao2 cp2)⟩
end Go.Proofs.Ytfkgeefoknaldaa
namespace Go.Proofs.Ytfkgeefoknaldaa
open Go.RowKit
set_option linter.unusedVariables false
set_option maxRecDepth 20000
/-- three ways to come to the first append: what holds there -/
structure Mk1 (w W : World) (g e : Nat) (l : List Iv) : Prop where
  row : OIv W w.heap.size (.slice (some ⟨e, 0, none⟩) 0 0) []
  old : Row W (some ⟨g, 0, none⟩) 6 ivC l
  below : Below w.heap.size w W
  size : w.heap.size ≤ W.heap.size
theorem mk_a {w : World} {g : Nat} {l : List Iv} (h : Row w (some ⟨g, 0, none⟩) 6 ivC l) : Mk1 w (w.alloc (.cells #[] 72 (0, 0))).drew g w.heap.size l :=
  ⟨OR.below (OR.made w rfl (Nat.le_refl _)) (Below.refl _ _).drew, Row.below h (blwA w _).drew, (blwA w _).drew, by simp⟩
theorem mk_b {w : World} {g : Nat} {l : List Iv} (h : Row w (some ⟨g, 0, none⟩) 6 ivC l) (o : Obj) : Mk1 w ((w.alloc (.cells #[] 72 (0, 0))).alloc o).drew g w.heap.size l :=
  ⟨OR.below (OR.made w rfl (Nat.le_refl _)) (blwA _ o).drew, Row.below h (blwO (blwA _ o) (blwA w _)).drew, (blwO (blwA _ o) (blwA w _)).drew, by simp; omega⟩
theorem mk_c {w : World} {g : Nat} {l : List Iv} (h : Row w (some ⟨g, 0, none⟩) 6 ivC l) (o : Obj) : Mk1 w ((w.alloc o).alloc (.cells #[] 72 (0, 0))).drew g (w.heap.size + 1) l :=
  ⟨OR.below (OR.made (w.alloc o) (by simp) (by omega)) (Below.refl _ _).drew, Row.below h (blwO (blwA _ _) (blwA w _)).drew, (blwO (blwA _ _) (blwA w _)).drew, by simp; omega⟩
/-- behind the first append -/
structure Mk3 (w W : World) (v : Value) (l : List Iv) : Prop where
  row : OIv W w.heap.size v l
  below : Below w.heap.size w W
theorem Mk1.on {w W W3 : World} {g e : Nat} {l : List Iv} {v3 : Value} (h : Mk1 w W g e l) (he : w.heap.size ≤ e) (hI : OIv W3 w.heap.size v3 ([] ++ l)) (hg : W.grownBy W3 (Value.slice (some ⟨e, 0, none⟩) 0 0).ownBlock) : Mk3 w W3 v3 l :=
  ⟨by rw [List.nil_append] at hI; exact hI, h.below.grown hg h.size (fun k e2 => by cases e2; exact he)⟩
/-- behind the second -/
structure Mk5 (w W : World) (q N g5 cap5 : Nat) (l : List Iv) (y : Iv) : Prop where
  row : OIv W w.heap.size (.slice (some ⟨g5, 0, none⟩) (N + 1) cap5) (l ++ [y])
  below : Below w.heap.size w W
  beyond : w.heap.size ≤ g5
theorem Mk3.on {w W W5 : World} {q N : Nat} {l : List Iv} {v3 v5 : Value} {y : Iv} (h : Mk3 w W v3 l) (hN : l.length = N) (hI : OIv W5 w.heap.size v5 (l ++ [y])) (hg : W.grownBy W5 v3.ownBlock) : ∃ g5 cap5, v5 = .slice (some ⟨g5, 0, none⟩) (N + 1) cap5 ∧ Mk5 w W5 q N g5 cap5 l y := by
  obtain ⟨g5, cap5, hv, hg5⟩ := OIv.head hI (by simp)
  rw [show (l ++ [y]).length = N + 1 from by simp [hN]] at hv
  subst hv
  exact ⟨g5, cap5, rfl, hI, h.below.grown hg h.below.size (fun k e => (h.row.lt k e).1), hg5⟩
theorem Mk3.more {w W : World} {v : Value} {l : List Iv} (h : Mk3 w W v l) (o : Obj) : Mk3 w (W.alloc o) v l := ⟨OR.below h.row (blwA W o), blwO (blwA W o) h.below⟩
theorem Mk5.leaves {G : Nat → Prop} {w W : World} {q g cap N g5 cap5 : Nat} {l : List Iv} {kd nx : Int} {t : Tb} (h : Mk5 w W q N g5 cap5 l ⟨⟨nx, kd, 0, 0, 0, []⟩, none, 0⟩) (hz : Zone G w q g l) (hd : DTab w 0 q g cap l t.next) (hN : l.length = N) (hx : t.next = nx) (hm : l.map (·.x) = t.l) :
    Leaves (RT q) G w ((W.setCell ⟨q, 0, none⟩ (.slice (some ⟨g5, 0, none⟩) (N + 1) cap5)).setCell ⟨q, 1, none⟩ (.int .i64 (nx + 1))) ⟨t.l ++ [⟨t.next, kd, 0, 0, 0, []⟩], t.next + 1⟩ := by
  subst hx
  refine DTab.leaves (t' := ⟨t.l ++ [⟨t.next, kd, 0, 0, 0, []⟩], t.next + 1⟩) hz (DTab.longer (x := ⟨t.next, kd, 0, 0, 0, []⟩) hd h.below rfl h.row (by rw [hN]) h.beyond (Nat.zero_le _)) (by rw [List.map_append, hm]; rfl) ⟨((Kept.ofBelow h.below _).setCell (fun e => e.1 rfl) _).setCell (fun e => e.1 rfl) _, .inr h.beyond, fun z hz2 => ?_⟩
  rcases List.mem_append.1 hz2 with hy | hy
  · exact .inl ⟨z, hy, rfl⟩
  · rw [List.mem_singleton.1 hy]
    exact .inr (fun a e => by cases e)
set_option maxHeartbeats 1000000 in
theorem rmakeI_yes {G : Nat → Prop} (w : World) (q : Nat) (t : Tb) (kd : Int) (h : RT q G w t) (ht : TbI t) (hn : t.next ≤ 9000000000) (hyes : kindB kd = true ∧ t.l.length < 64) :
    Calls Try.prog 12 #[.pointer (some ⟨q, 0, none⟩), .int .i64 kd] w fun e w' => e = .returned (.tuple #[.int .i64 (makeI t kd).2.1, .int .i64 (makeI t kd).2.2]) ∧ Leaves (RT q) G w w' (makeI t kd).1 := by
  obtain ⟨g, cap, l, hm, hd, hz⟩ := h
  have HZ := Lib.hid hz
  have hl := DTab.few (w := w) (B := 0) (q := q) (g := g) (cap := cap) ht hm
  have hll : l.length = t.l.length := by rw [← hm, List.length_map]
  obtain ⟨c0, c1⟩ := hd.cells
  have hql := lt_of_block hd.head
  obtain ⟨hk, h64⟩ := hyes
  unfold makeI
  rw [if_pos hk, if_pos h64]
  have hk2 : kd = 1 ∨ kd = 2 := of_decide_eq_true hk
  have l64 : (l.length : Int) < 64 := by omega
  have hnx : 2 ≤ t.next := ht.next
  have HD := Lib.hid hd
  obtain ⟨ra, rc, hrv, hrow, hrl, hro⟩ := OR.form iv_rows hd.row
  clear hro
  cases hrv
  have HROW := Lib.hid hrow
  have HL64 := Lib.hid hl
  have HM := Lib.hid hm
  obtain ⟨N, hN⟩ : ∃ N, l.length = N := ⟨_, rfl⟩
  have HN := Lib.hid hN
  have HNC := Lib.hid (show l.length ≤ cap from by rw [hN]; rw [hN] at hrl; exact hrl)
  have HLL := Lib.hid (show ([] : List Iv).length + l.length ≤ 1000000 from by simp; omega)
  have HLM := Lib.hid (show l.length + 1 ≤ 1000000 from by omega)
  rw [hN] at c0 l64
  obtain ⟨nx, hx⟩ : ∃ nx, t.next = nx := ⟨_, rfl⟩
  rw [hx] at c1 hnx hn
  have HX := Lib.hid hx
  have w1 : IntKind.i64.wrap (nx + 1) = nx + 1 := IntWalk.i64_in _ (by omega)
  have w2 : IntKind.i64.wrap (nx + 1 - 1) = nx := by rw [show nx + 1 - 1 = nx from by omega]; exact IntWalk.i64_in _ (by omega)
  clear hd hrow hrl hl hll hm hN hx h64 hk hz
  rcases hk2 with rfl | rfl
  · go_enter Try.func12, Try.ntmps12
    go_wp2_with fail
    rw [show Op.load 46 (.tmp 22) = laterOp (Op.load 46 (.tmp 22)) from rfl]
    go_region_held3 (fun W => W.cell? ⟨q, 1, none⟩ = some (.int .i64 nx))
      (first | with_reducible exact c_drew c1 | with_reducible exact c1 | with_reducible exact c_alloc c1 | with_reducible exact c_drew (c_alloc c1) | with_reducible exact c_drew (c_alloc (c_alloc c1)) | with_reducible exact c3 | with_reducible exact c_alloc c3 | with_reducible exact c_drew (c_alloc c3) | (have e5 := c5; with_reducible exact e5) | (have e6 := c6; first | with_reducible exact e6 | exact e6) | (trace "KEEP"; trace_state; fail))
      (first
        | (refine step_app_rows iv_rows rfl (.tmp 24) (.tmp 31) rfl (B := w.heap.size) (v := .slice v3o N v3c) (D := l) rfl (H3.out.more (.cells #[.int .i64 nx, .int .i64 1, .int .i64 0, .int .i64 0, .int .i64 0, .slice none 0 0] 72 (0, 0))).row (ao := some ⟨w3.heap.size, 0, none⟩) (cap := 1) (l := [⟨⟨nx, 1, 0, 0, 0, []⟩, none, 0⟩]) (m := 1) rfl rfl (Row.one (f := ivC) (heap_alloc_new _ _)) (fun e => by cases e) (Nat.le_refl _) HLM.out (H3.out.more (.cells #[.int .i64 nx, .int .i64 1, .int .i64 0, .int .i64 0, .int .i64 0, .slice none 0 0] 72 (0, 0))).below.size ?_; intro v5 w5 hI hg _; obtain ⟨g5, v5c, hv5, h5⟩ := Mk3.on (q := q) (H3.out.more (.cells #[.int .i64 nx, .int .i64 1, .int .i64 0, .int .i64 0, .int .i64 0, .slice none 0 0] 72 (0, 0))) HN.out hI hg; subst hv5; have M5 := Lib.hid h5; have c5 := cellB h5.below hql c1; have c50 := cellB h5.below hql c0; have f50 := free_of (below_heap h5.below HD.out.head) 0; have q50 := Nat.lt_of_lt_of_le hql h5.below.size; have c6 : (w5.setCell ⟨q, 0, none⟩ (.slice (some ⟨g5, 0, none⟩) (N + 1) v5c)).cell? ⟨q, 1, none⟩ = some (.int .i64 nx) := (by have h9 := cell_of (two_set0 (below_heap h5.below HD.out.head) (.slice (some ⟨g5, 0, none⟩) (N + 1) v5c)) 1; rw [HX.out] at h9; exact h9); have f6 : (w5.setCell ⟨q, 0, none⟩ (.slice (some ⟨g5, 0, none⟩) (N + 1) v5c)).frozen? ⟨q, 1, none⟩ = false := free_of (two_set0 (below_heap h5.below HD.out.head) (.slice (some ⟨g5, 0, none⟩) (N + 1) v5c)) 1; have q6 : q < (w5.setCell ⟨q, 0, none⟩ (.slice (some ⟨g5, 0, none⟩) (N + 1) v5c)).heap.size := lt_of_block (two_set0 (below_heap h5.below HD.out.head) (.slice (some ⟨g5, 0, none⟩) (N + 1) v5c)); clear hI hg h5)
        | (refine step_app_rows iv_rows rfl (.tmp 24) (.tmp 31) rfl (B := w.heap.size) (v := .slice v3o N v3c) (D := l) rfl H3.out.row (ao := some ⟨w.heap.size + 1, 0, none⟩) (cap := 1) (l := [⟨⟨nx, 1, 0, 0, 0, []⟩, none, 0⟩]) (m := 1) rfl rfl (Row.one (f := ivC) HX3.out) (fun e => by cases e) (Nat.le_refl _) HLM.out H3.out.below.size ?_; intro v5 w5 hI hg _; obtain ⟨g5, v5c, hv5, h5⟩ := Mk3.on (q := q) H3.out HN.out hI hg; subst hv5; have M5 := Lib.hid h5; have c5 := cellB h5.below hql c1; have c50 := cellB h5.below hql c0; have f50 := free_of (below_heap h5.below HD.out.head) 0; have q50 := Nat.lt_of_lt_of_le hql h5.below.size; have c6 : (w5.setCell ⟨q, 0, none⟩ (.slice (some ⟨g5, 0, none⟩) (N + 1) v5c)).cell? ⟨q, 1, none⟩ = some (.int .i64 nx) := (by have h9 := cell_of (two_set0 (below_heap h5.below HD.out.head) (.slice (some ⟨g5, 0, none⟩) (N + 1) v5c)) 1; rw [HX.out] at h9; exact h9); have f6 : (w5.setCell ⟨q, 0, none⟩ (.slice (some ⟨g5, 0, none⟩) (N + 1) v5c)).frozen? ⟨q, 1, none⟩ = false := free_of (two_set0 (below_heap h5.below HD.out.head) (.slice (some ⟨g5, 0, none⟩) (N + 1) v5c)) 1; have q6 : q < (w5.setCell ⟨q, 0, none⟩ (.slice (some ⟨g5, 0, none⟩) (N + 1) v5c)).heap.size := lt_of_block (two_set0 (below_heap h5.below HD.out.head) (.slice (some ⟨g5, 0, none⟩) (N + 1) v5c)); clear hI hg h5)
        | (refine step_app_rows iv_rows rfl (.tmp 24) (.tmp 31) rfl (B := w.heap.size) (v := .slice v3o N v3c) (D := l) rfl H3.out.row (ao := some ⟨w.heap.size, 0, none⟩) (cap := 1) (l := [⟨⟨nx, 1, 0, 0, 0, []⟩, none, 0⟩]) (m := 1) rfl rfl (Row.one (f := ivC) HX3.out) (fun e => by cases e) (Nat.le_refl _) HLM.out H3.out.below.size ?_; intro v5 w5 hI hg _; obtain ⟨g5, v5c, hv5, h5⟩ := Mk3.on (q := q) H3.out HN.out hI hg; subst hv5; have M5 := Lib.hid h5; have c5 := cellB h5.below hql c1; have c50 := cellB h5.below hql c0; have f50 := free_of (below_heap h5.below HD.out.head) 0; have q50 := Nat.lt_of_lt_of_le hql h5.below.size; have c6 : (w5.setCell ⟨q, 0, none⟩ (.slice (some ⟨g5, 0, none⟩) (N + 1) v5c)).cell? ⟨q, 1, none⟩ = some (.int .i64 nx) := (by have h9 := cell_of (two_set0 (below_heap h5.below HD.out.head) (.slice (some ⟨g5, 0, none⟩) (N + 1) v5c)) 1; rw [HX.out] at h9; exact h9); have f6 : (w5.setCell ⟨q, 0, none⟩ (.slice (some ⟨g5, 0, none⟩) (N + 1) v5c)).frozen? ⟨q, 1, none⟩ = false := free_of (two_set0 (below_heap h5.below HD.out.head) (.slice (some ⟨g5, 0, none⟩) (N + 1) v5c)) 1; have q6 : q < (w5.setCell ⟨q, 0, none⟩ (.slice (some ⟨g5, 0, none⟩) (N + 1) v5c)).heap.size := lt_of_block (two_set0 (below_heap h5.below HD.out.head) (.slice (some ⟨g5, 0, none⟩) (N + 1) v5c)); clear hI hg h5)
        | (have M1 := mk_a HROW.out; refine step_app_rows iv_rows rfl (.tmp 19) (.tmp 23) rfl (B := w.heap.size) (v := .slice (some ⟨w.heap.size, 0, none⟩) 0 0) (D := []) rfl M1.row (ao := some ⟨g, 0, none⟩) (cap := cap) (l := l) (m := N) HN.out rfl M1.old (fun e => by cases e) HNC.out HLL.out M1.size ?_; intro v3 w3 hI hg _; have H3 := Lib.hid (M1.on (Nat.le_refl _) hI hg); obtain ⟨v3o, v3c, hv3, hr3⟩ := OR.form iv_rows H3.out.row; clear hr3; rw [HN.out] at hv3; subst hv3; have c3 := cellB H3.out.below hql c1; clear hI hg M1)
        | (have M1 := mk_b HROW.out (.cells #[.int .i64 nx, .int .i64 1, .int .i64 0, .int .i64 0, .int .i64 0, .slice none 0 0] 72 (0, 0)); refine step_app_rows iv_rows rfl (.tmp 19) (.tmp 23) rfl (B := w.heap.size) (v := .slice (some ⟨w.heap.size, 0, none⟩) 0 0) (D := []) rfl M1.row (ao := some ⟨g, 0, none⟩) (cap := cap) (l := l) (m := N) HN.out rfl M1.old (fun e => by cases e) HNC.out HLL.out M1.size ?_; intro v3 w3 hI hg _; have H3 := Lib.hid (M1.on (Nat.le_refl _) hI hg); have HX3 := Lib.hid (show w3.heap[w.heap.size + 1]? = some (.cells #[.int .i64 nx, .int .i64 1, .int .i64 0, .int .i64 0, .int .i64 0, .slice none 0 0] 72 (0, 0)) from (hg.block (w.heap.size + 1) (by simp; try omega) (fun e => by have h9 : w.heap.size + 1 = w.heap.size := Option.some.inj e; omega)).trans (two_new w (.cells #[] 72 (0, 0)) (.cells #[.int .i64 nx, .int .i64 1, .int .i64 0, .int .i64 0, .int .i64 0, .slice none 0 0] 72 (0, 0))).2.2); obtain ⟨v3o, v3c, hv3, hr3⟩ := OR.form iv_rows H3.out.row; clear hr3; rw [HN.out] at hv3; subst hv3; have c3 := cellB H3.out.below hql c1; clear hI hg M1)
        | (have M1 := mk_c HROW.out (.cells #[.int .i64 nx, .int .i64 1, .int .i64 0, .int .i64 0, .int .i64 0, .slice none 0 0] 72 (0, 0)); refine step_app_rows iv_rows rfl (.tmp 19) (.tmp 23) rfl (B := w.heap.size) (v := .slice (some ⟨w.heap.size + 1, 0, none⟩) 0 0) (D := []) rfl M1.row (ao := some ⟨g, 0, none⟩) (cap := cap) (l := l) (m := N) HN.out rfl M1.old (fun e => by cases e) HNC.out HLL.out M1.size ?_; intro v3 w3 hI hg _; have H3 := Lib.hid (M1.on (Nat.le_succ _) hI hg); have HX3 := Lib.hid (show w3.heap[w.heap.size]? = some (.cells #[.int .i64 nx, .int .i64 1, .int .i64 0, .int .i64 0, .int .i64 0, .slice none 0 0] 72 (0, 0)) from (hg.block (w.heap.size) (by simp; try omega) (fun e => by have h9 : w.heap.size = w.heap.size + 1 := Option.some.inj e; omega)).trans (two_new w (.cells #[.int .i64 nx, .int .i64 1, .int .i64 0, .int .i64 0, .int .i64 0, .slice none 0 0] 72 (0, 0)) (.cells #[] 72 (0, 0))).2.1); obtain ⟨v3o, v3c, hv3, hr3⟩ := OR.form iv_rows H3.out.row; clear hr3; rw [HN.out] at hv3; subst hv3; have c3 := cellB H3.out.below hql c1; clear hI hg M1))
    all_goals
      clear c50 f50 q50
      go_wp2_with fail
      go_ret2
      exact ⟨by rw [HX.out]; rfl, Mk5.leaves M5.out HZ.out HD.out HN.out HX.out HM.out⟩
  · go_enter Try.func12, Try.ntmps12
    go_wp2_with fail
    rw [show Op.load 46 (.tmp 22) = laterOp (Op.load 46 (.tmp 22)) from rfl]
    go_region_held3 (fun W => W.cell? ⟨q, 1, none⟩ = some (.int .i64 nx))
      (first | with_reducible exact c_drew c1 | with_reducible exact c1 | with_reducible exact c_alloc c1 | with_reducible exact c_drew (c_alloc c1) | with_reducible exact c_drew (c_alloc (c_alloc c1)) | with_reducible exact c3 | with_reducible exact c_alloc c3 | with_reducible exact c_drew (c_alloc c3) | (have e5 := c5; with_reducible exact e5) | (have e6 := c6; first | with_reducible exact e6 | exact e6) | (trace "KEEP"; trace_state; fail))
      (first
        | (refine step_app_rows iv_rows rfl (.tmp 24) (.tmp 31) rfl (B := w.heap.size) (v := .slice v3o N v3c) (D := l) rfl (H3.out.more (.cells #[.int .i64 nx, .int .i64 2, .int .i64 0, .int .i64 0, .int .i64 0, .slice none 0 0] 72 (0, 0))).row (ao := some ⟨w3.heap.size, 0, none⟩) (cap := 1) (l := [⟨⟨nx, 2, 0, 0, 0, []⟩, none, 0⟩]) (m := 1) rfl rfl (Row.one (f := ivC) (heap_alloc_new _ _)) (fun e => by cases e) (Nat.le_refl _) HLM.out (H3.out.more (.cells #[.int .i64 nx, .int .i64 2, .int .i64 0, .int .i64 0, .int .i64 0, .slice none 0 0] 72 (0, 0))).below.size ?_; intro v5 w5 hI hg _; obtain ⟨g5, v5c, hv5, h5⟩ := Mk3.on (q := q) (H3.out.more (.cells #[.int .i64 nx, .int .i64 2, .int .i64 0, .int .i64 0, .int .i64 0, .slice none 0 0] 72 (0, 0))) HN.out hI hg; subst hv5; have M5 := Lib.hid h5; have c5 := cellB h5.below hql c1; have c50 := cellB h5.below hql c0; have f50 := free_of (below_heap h5.below HD.out.head) 0; have q50 := Nat.lt_of_lt_of_le hql h5.below.size; have c6 : (w5.setCell ⟨q, 0, none⟩ (.slice (some ⟨g5, 0, none⟩) (N + 1) v5c)).cell? ⟨q, 1, none⟩ = some (.int .i64 nx) := (by have h9 := cell_of (two_set0 (below_heap h5.below HD.out.head) (.slice (some ⟨g5, 0, none⟩) (N + 1) v5c)) 1; rw [HX.out] at h9; exact h9); have f6 : (w5.setCell ⟨q, 0, none⟩ (.slice (some ⟨g5, 0, none⟩) (N + 1) v5c)).frozen? ⟨q, 1, none⟩ = false := free_of (two_set0 (below_heap h5.below HD.out.head) (.slice (some ⟨g5, 0, none⟩) (N + 1) v5c)) 1; have q6 : q < (w5.setCell ⟨q, 0, none⟩ (.slice (some ⟨g5, 0, none⟩) (N + 1) v5c)).heap.size := lt_of_block (two_set0 (below_heap h5.below HD.out.head) (.slice (some ⟨g5, 0, none⟩) (N + 1) v5c)); clear hI hg h5)
        | (refine step_app_rows iv_rows rfl (.tmp 24) (.tmp 31) rfl (B := w.heap.size) (v := .slice v3o N v3c) (D := l) rfl H3.out.row (ao := some ⟨w.heap.size + 1, 0, none⟩) (cap := 1) (l := [⟨⟨nx, 2, 0, 0, 0, []⟩, none, 0⟩]) (m := 1) rfl rfl (Row.one (f := ivC) HX3.out) (fun e => by cases e) (Nat.le_refl _) HLM.out H3.out.below.size ?_; intro v5 w5 hI hg _; obtain ⟨g5, v5c, hv5, h5⟩ := Mk3.on (q := q) H3.out HN.out hI hg; subst hv5; have M5 := Lib.hid h5; have c5 := cellB h5.below hql c1; have c50 := cellB h5.below hql c0; have f50 := free_of (below_heap h5.below HD.out.head) 0; have q50 := Nat.lt_of_lt_of_le hql h5.below.size; have c6 : (w5.setCell ⟨q, 0, none⟩ (.slice (some ⟨g5, 0, none⟩) (N + 1) v5c)).cell? ⟨q, 1, none⟩ = some (.int .i64 nx) := (by have h9 := cell_of (two_set0 (below_heap h5.below HD.out.head) (.slice (some ⟨g5, 0, none⟩) (N + 1) v5c)) 1; rw [HX.out] at h9; exact h9); have f6 : (w5.setCell ⟨q, 0, none⟩ (.slice (some ⟨g5, 0, none⟩) (N + 1) v5c)).frozen? ⟨q, 1, none⟩ = false := free_of (two_set0 (below_heap h5.below HD.out.head) (.slice (some ⟨g5, 0, none⟩) (N + 1) v5c)) 1; have q6 : q < (w5.setCell ⟨q, 0, none⟩ (.slice (some ⟨g5, 0, none⟩) (N + 1) v5c)).heap.size := lt_of_block (two_set0 (below_heap h5.below HD.out.head) (.slice (some ⟨g5, 0, none⟩) (N + 1) v5c)); clear hI hg h5)
        | (refine step_app_rows iv_rows rfl (.tmp 24) (.tmp 31) rfl (B := w.heap.size) (v := .slice v3o N v3c) (D := l) rfl H3.out.row (ao := some ⟨w.heap.size, 0, none⟩) (cap := 1) (l := [⟨⟨nx, 2, 0, 0, 0, []⟩, none, 0⟩]) (m := 1) rfl rfl (Row.one (f := ivC) HX3.out) (fun e => by cases e) (Nat.le_refl _) HLM.out H3.out.below.size ?_; intro v5 w5 hI hg _; obtain ⟨g5, v5c, hv5, h5⟩ := Mk3.on (q := q) H3.out HN.out hI hg; subst hv5; have M5 := Lib.hid h5; have c5 := cellB h5.below hql c1; have c50 := cellB h5.below hql c0; have f50 := free_of (below_heap h5.below HD.out.head) 0; have q50 := Nat.lt_of_lt_of_le hql h5.below.size; have c6 : (w5.setCell ⟨q, 0, none⟩ (.slice (some ⟨g5, 0, none⟩) (N + 1) v5c)).cell? ⟨q, 1, none⟩ = some (.int .i64 nx) := (by have h9 := cell_of (two_set0 (below_heap h5.below HD.out.head) (.slice (some ⟨g5, 0, none⟩) (N + 1) v5c)) 1; rw [HX.out] at h9; exact h9); have f6 : (w5.setCell ⟨q, 0, none⟩ (.slice (some ⟨g5, 0, none⟩) (N + 1) v5c)).frozen? ⟨q, 1, none⟩ = false := free_of (two_set0 (below_heap h5.below HD.out.head) (.slice (some ⟨g5, 0, none⟩) (N + 1) v5c)) 1; have q6 : q < (w5.setCell ⟨q, 0, none⟩ (.slice (some ⟨g5, 0, none⟩) (N + 1) v5c)).heap.size := lt_of_block (two_set0 (below_heap h5.below HD.out.head) (.slice (some ⟨g5, 0, none⟩) (N + 1) v5c)); clear hI hg h5)
        | (have M1 := mk_a HROW.out; refine step_app_rows iv_rows rfl (.tmp 19) (.tmp 23) rfl (B := w.heap.size) (v := .slice (some ⟨w.heap.size, 0, none⟩) 0 0) (D := []) rfl M1.row (ao := some ⟨g, 0, none⟩) (cap := cap) (l := l) (m := N) HN.out rfl M1.old (fun e => by cases e) HNC.out HLL.out M1.size ?_; intro v3 w3 hI hg _; have H3 := Lib.hid (M1.on (Nat.le_refl _) hI hg); obtain ⟨v3o, v3c, hv3, hr3⟩ := OR.form iv_rows H3.out.row; clear hr3; rw [HN.out] at hv3; subst hv3; have c3 := cellB H3.out.below hql c1; clear hI hg M1)
        | (have M1 := mk_b HROW.out (.cells #[.int .i64 nx, .int .i64 2, .int .i64 0, .int .i64 0, .int .i64 0, .slice none 0 0] 72 (0, 0)); refine step_app_rows iv_rows rfl (.tmp 19) (.tmp 23) rfl (B := w.heap.size) (v := .slice (some ⟨w.heap.size, 0, none⟩) 0 0) (D := []) rfl M1.row (ao := some ⟨g, 0, none⟩) (cap := cap) (l := l) (m := N) HN.out rfl M1.old (fun e => by cases e) HNC.out HLL.out M1.size ?_; intro v3 w3 hI hg _; have H3 := Lib.hid (M1.on (Nat.le_refl _) hI hg); have HX3 := Lib.hid (show w3.heap[w.heap.size + 1]? = some (.cells #[.int .i64 nx, .int .i64 2, .int .i64 0, .int .i64 0, .int .i64 0, .slice none 0 0] 72 (0, 0)) from (hg.block (w.heap.size + 1) (by simp; try omega) (fun e => by have h9 : w.heap.size + 1 = w.heap.size := Option.some.inj e; omega)).trans (two_new w (.cells #[] 72 (0, 0)) (.cells #[.int .i64 nx, .int .i64 2, .int .i64 0, .int .i64 0, .int .i64 0, .slice none 0 0] 72 (0, 0))).2.2); obtain ⟨v3o, v3c, hv3, hr3⟩ := OR.form iv_rows H3.out.row; clear hr3; rw [HN.out] at hv3; subst hv3; have c3 := cellB H3.out.below hql c1; clear hI hg M1)
        | (have M1 := mk_c HROW.out (.cells #[.int .i64 nx, .int .i64 2, .int .i64 0, .int .i64 0, .int .i64 0, .slice none 0 0] 72 (0, 0)); refine step_app_rows iv_rows rfl (.tmp 19) (.tmp 23) rfl (B := w.heap.size) (v := .slice (some ⟨w.heap.size + 1, 0, none⟩) 0 0) (D := []) rfl M1.row (ao := some ⟨g, 0, none⟩) (cap := cap) (l := l) (m := N) HN.out rfl M1.old (fun e => by cases e) HNC.out HLL.out M1.size ?_; intro v3 w3 hI hg _; have H3 := Lib.hid (M1.on (Nat.le_succ _) hI hg); have HX3 := Lib.hid (show w3.heap[w.heap.size]? = some (.cells #[.int .i64 nx, .int .i64 2, .int .i64 0, .int .i64 0, .int .i64 0, .slice none 0 0] 72 (0, 0)) from (hg.block (w.heap.size) (by simp; try omega) (fun e => by have h9 : w.heap.size = w.heap.size + 1 := Option.some.inj e; omega)).trans (two_new w (.cells #[.int .i64 nx, .int .i64 2, .int .i64 0, .int .i64 0, .int .i64 0, .slice none 0 0] 72 (0, 0)) (.cells #[] 72 (0, 0))).2.1); obtain ⟨v3o, v3c, hv3, hr3⟩ := OR.form iv_rows H3.out.row; clear hr3; rw [HN.out] at hv3; subst hv3; have c3 := cellB H3.out.below hql c1; clear hI hg M1))
    all_goals
      clear c50 f50 q50
      go_wp2_with fail
      go_ret2
      exact ⟨by rw [HX.out]; rfl, Mk5.leaves M5.out HZ.out HD.out HN.out HX.out HM.out⟩
end Go.Proofs.Ytfkgeefoknaldaa
