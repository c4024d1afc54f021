/- Stage 20: what the program's own Move returns. Conditions: the table and the moves lie where the call was told; numbers of 64 bits. Stage 20: what the program's own Dump returns: the inodes by rising numbers, in memory of their own. Conditions: the table lies where the call was told; numbers of 64 bits. Stage 20: the document's ends: one that has neither links nor opens goes. No conditions. -/
import Derived.Test.YtfkgeefoknaldaaG30a
import Derived.Test.YtfkgeefoknaldaaG20a
import Derived.Test.YtfkgeefoknaldaaG10a
set_option linter.unusedVariables false
namespace Go.Proofs.Ytfkgeefoknaldaa
open Go.RowKit Go.Maps
set_option linter.unusedVariables false
set_option maxRecDepth 20000
theorem pmoves_step {to : Int} {P : List Pt} {ms : List Mv} {i : Nat} (hi : i < ms.length) : movesE to P (ms.drop i) = if (moveE P ms[i] to).2 = 0 then movesE to (moveE P ms[i] to).1 (ms.drop (i + 1)) else ([], (moveE P ms[i] to).2) := by
  rw [List.drop_eq_getElem_cons hi]
  rfl
set_option maxHeartbeats 1000000 in
theorem pmov_nil (n to : Int) (mo : Option Addr) (ml mc : Nat) (w : World) : Calls Try.prog 27 #[.pointer none, .int .i64 n, .slice mo ml mc, .int .i64 to] w fun e w' => e = .returned (.int .i64 1) ∧ Below w.heap.size w w' := by
  have CF := Lib.hid (pfile_nil n w)
  have HA := Lib.hid (fun (W : World) (hb : Below w.heap.size w W) => show Below w.heap.size w (W.alloc (inoO noV)) from blwO (blwA _ _) hb)
  go_enter Try.func27, Try.ntmps27
  go_wp2_with (go_at_call 44; refine CF.out.mono ?_; rintro e w1 ⟨rfl, hb1⟩; have HB1 := Lib.hid hb1; clear hb1)
  go_ret
  exact ⟨rfl, HA.out _ HB1.out⟩
set_option maxHeartbeats 4000000 in
theorem pmov_any {b : Nat} {G : Nat → Prop} {w : World} {t : Tb} {n to : Int} {mo : Option Addr} {mc : Nat} {ms : List Mv} (h : PT b G w t) (ht : TbI t) (hn : (Lit.int .i64 n).wf = true) (hmv : MvL w mo ms) (hml : ms.length ≤ 1000) :
    Calls Try.prog 27 #[.pointer (some ⟨b, 0, none⟩), .int .i64 n, .slice mo ms.length mc, .int .i64 to] w fun e w' => e = .returned (.int .i64 (movI t n ms to).2) ∧ Leaves (PT b) G w w' (movI t n ms to).1 := by
  have HPT := Lib.hid h
  obtain ⟨m, l, hm, hp, hz⟩ := h
  have HS := Lib.hid (fun (W : World) (hb : Below w.heap.size w W) => Leaves.same (pt_thing b) HPT.out hb)
  unfold movI
  rcases vi_cases l n with ⟨g1, g2⟩ | ⟨a, y, r, hl, hy, ha, g1, g2⟩
  · rw [hm] at g2
    rw [fileI_none g2]
    have CF := Lib.hid (pfile_none hp hn g1)
    have HA := Lib.hid (fun (W : World) (hb : Below w.heap.size w W) => show Below w.heap.size w (W.alloc (inoO noV)) from blwO (blwA _ _) hb)
    clear hp g1 g2 hz hm ht
    go_enter Try.func27, Try.ntmps27
    go_wp2_with (go_at_call 44; refine CF.out.mono ?_; rintro e w1 ⟨rfl, hb1⟩; have HB1 := Lib.hid hb1; clear hb1)
    go_ret
    exact ⟨rfl, HS.out _ (HA.out _ HB1.out)⟩
  rw [hm] at g2
  by_cases hk : y.x.kind = 1
  · rw [fileI_dir g2 hk]
    have CF := Lib.hid (pfile_isdir hp hn g1 hk)
    have HA := Lib.hid (fun (W : World) (hb : Below w.heap.size w W) => show Below w.heap.size w (W.alloc (inoO noV)) from blwO (blwA _ _) hb)
    clear hp g1 g2 hz hm ht hk hy
    go_enter Try.func27, Try.ntmps27
    go_wp2_with (go_at_call 44; refine CF.out.mono ?_; rintro e w1 ⟨rfl, hb1⟩; have HB1 := Lib.hid hb1; clear hb1)
    go_ret
    exact ⟨rfl, HS.out _ (HA.out _ HB1.out)⟩
  have CF := Lib.hid (pfile_some hp hn g1 hk)
  have HA := Lib.hid (fun (W : World) (hb : Below w.heap.size w W) => show Below w.heap.size w (W.alloc (inoO y)) from blwO (blwA _ _) hb)
  subst hl
  have hyI := hp.each y (List.mem_append_right _ List.mem_cons_self)
  have hgd := (ht.each y.x (by rw [← hm]; exact List.mem_map.2 ⟨y, List.mem_append_right _ List.mem_cons_self, rfl⟩)).2.2.2.2.2.2.1
  have hrise := ht.rise
  rw [← hm] at hrise
  have HBAD := Lib.hid (fun (c : Int) (hc : ¬ c = 0) (he : movesE to y.x.parts ms = ([], c)) => show fileI t n (moveF ms to) = (t, spaceI c) from fileI_no (e := spaceI c) g2 hk (ht.one g2) (by unfold moveF; rw [he, if_neg hc]))
  have HOK := Lib.hid (fun (P : List Pt) (ao : Option Addr) (cp : Nat) (he : movesE to y.x.parts ms = (P, 0)) => show fileI t n (moveF ms to) = (⟨turnI t.l n (fun x => (moveF ms to x).1), t.next⟩, 0) ∧ (a ++ (⟨{ y.x with parts := P }, ao, cp⟩ : Iv) :: r).map (·.x) = turnI t.l n (fun x => (moveF ms to x).1) from by
    have hf : moveF ms to y.x = ({ y.x with parts := P }, 0) := by
      unfold moveF
      rw [he]
      exact if_pos rfl
    have h5 := iv_turn (a := a) (r := r) (y := y) (n := n) (f := fun x => (moveF ms to x).1) (y' := ⟨{ y.x with parts := P }, ao, cp⟩) hrise hy ha (by rw [hf])
    rw [hm] at h5
    exact ⟨by rw [fileI_yes g2 hk, hf], h5⟩)
  have ha2 : ∀ z ∈ a, z.x.ino ≠ y.x.ino := by rw [hy]; exact ha
  have HG := Lib.hid (fun (y' : Iv) (e : y'.x.ino = y.x.ino) v => (show getV (a ++ y' :: r) v = if v = n then some y' else getV (a ++ y :: r) v from hy ▸ getV_turn (r := r) ha2 e v))
  have HL := Lib.hid (fun (y' : Iv) => show (a ++ y' :: r).length = if (getV (a ++ y :: r) n).isSome then (a ++ y :: r).length else (a ++ y :: r).length + 1 from by rw [g1]; simp)
  have HN := Lib.hid (show (a ++ y :: r).length ≤ 1000000 from by
    have := ht.most
    rw [← hm, List.length_map] at this
    omega)
  have HT := Lib.hid hp
  have HZ := Lib.hid hz
  have HY := Lib.hid hyI
  have HU := Lib.hid hn
  have HGD := Lib.hid hgd
  have HMV := Lib.hid hmv
  have HBW := Lib.hid (lt_of_block hp.head)
  have HMW := Lib.hid hp.map.lt
  have hmI : (ms.length : Int) ≤ 1000 := by omega
  have CS := Lib.hid pspace_any
  obtain ⟨TL, hTL⟩ : ∃ TL, turnI t.l n (fun x => (moveF ms to x).1) = TL := ⟨_, rfl⟩
  rw [hTL] at HOK
  generalize fileI t n (moveF ms to) = FI at *
  clear hp g1 g2 hz hm ht hk hy hyI hgd hrise ha2 ha hn hmv hTL
  go_enter Try.func27, Try.ntmps27
  go_wp2_with (go_at_call 44; refine CF.out.mono ?_; rintro e w1 ⟨rfl, hb1⟩; have HX1 := Lib.hid (Bxd.start hb1 HY.out); clear hb1)
  go_loopw [24] (fun x wr => ∃ (i : Nat) (P : List Pt) (ao : Option Addr) (cp : Nat), x = .int .i64 i ∧ i ≤ ms.length ∧ P.length ≤ 64 ∧ Hid (goodE P = true) ∧ Hid (movesE to y.x.parts ms = movesE to P (ms.drop i)) ∧ Hid (Bxd w wr b m w1.heap.size y ⟨{ y.x with parts := P }, ao, cp⟩)) (fun x _ => ms.length - (intOf x).toNat)
  case atStart => exact ⟨0, y.x.parts, y.ao, y.cap, rfl, Nat.zero_le _, (goodE_iff.1 HGD.out).1, HGD, Lib.hid rfl, HX1⟩
  case round =>
    obtain ⟨i, P, ao, cp, rfl, hi, hPl, HGP, HME, HX⟩ := hrel
    by_cases hlt : i < ms.length
    · have i0 : (i : Int) < (ms.length : Int) := by omega
      obtain ⟨bk, bo, hao, m0, m1, m2, m3⟩ := (MvL.below HMV.out HX.out.below).at i hlt
      subst hao
      have hst := pmoves_step (to := to) (P := P) hlt
      rw [← HME.out] at hst
      generalize ms[i] = mm at *
      have HXA := Lib.hid (HX.out.on (blwA wr (.cells #[.int .i64 mm.addr, .int .i64 mm.src, .int .i64 mm.len, .int .i64 mm.at_] 91)))
      have CM := Lib.hid (emove_any ao cp P mm to _ HXA.out.in_.1 (by unfold maxLen; omega))
      obtain ⟨_, _, _, _, _, d5⟩ := HXA.out.cells
      by_cases hc : (moveE P mm to).2 = 0
      · rw [if_pos hc] at hst
        obtain ⟨h5, h6⟩ := moveI_is HGP.out hc
        have HG2 := Lib.hid h5
        have hl2 := (goodE_iff.1 h5).1
        have HM2 := Lib.hid hst
        rw [hc] at CM
        generalize (moveE P mm to).1 = P2 at *
        clear hst h5 h6 hc
        go_wp2_with (go_at_call 48; refine CM.out.mono ?_; rintro e w2 ⟨v2, rfl, hO, hB2⟩; obtain ⟨ao2, cp2, hv2, hI2, hn2⟩ := IvIn.fresh2 (x := { y.x with parts := P2 }) hO rfl (Nat.lt_of_lt_of_le HBW.out HXA.out.below.size) (Nat.lt_of_lt_of_le HMW.out HXA.out.below.size); subst hv2; have HX2 := Lib.hid (HXA.out.on hB2); obtain ⟨_, _, _, _, _, d52⟩ := HX2.out.cells; have e52 := HX2.out.free 5; have HX3 := Lib.hid (HX2.out.set5 hI2 (fun a e => Nat.le_trans HXA.out.below.size (hn2 a e)) (fun a e => by have := hn2 a e; have := HXA.out.lt; omega)); clear hO hB2 hI2 hn2)
        go_roundw
        case rel => exact ⟨i + 1, P2, ao2, cp2, by go_num, by omega, hl2, HG2, HM2, HX3⟩
        case measure => simp [intOf]; omega
      · have hc2 : ((moveE P mm to).2 == 0) = false := beq_eq_false_iff_ne.2 hc
        rw [if_neg hc] at hst
        have hf := HBAD.out _ hc hst
        subst hf
        obtain ⟨ec, hec⟩ : ∃ ec, (moveE P mm to).2 = ec := ⟨_, rfl⟩
        have HEC := Lib.hid hec
        rw [hec] at CM hc2
        generalize (moveE P mm to).1 = P2 at *
        clear hst hec hc
        go_wp2_with (first
          | (go_at_call 48; refine CM.out.mono ?_; rintro e w2 ⟨v2, rfl, hO, hB2⟩; obtain ⟨ao2, cp2, hv2, hI2, hn2⟩ := IvIn.fresh2 (x := { y.x with parts := P2 }) hO rfl (Nat.lt_of_lt_of_le HBW.out HXA.out.below.size) (Nat.lt_of_lt_of_le HMW.out HXA.out.below.size); subst hv2; have HX2 := Lib.hid (HXA.out.on hB2); obtain ⟨_, _, _, _, _, d52⟩ := HX2.out.cells; have e52 := HX2.out.free 5; have HX3 := Lib.hid (HX2.out.set5 hI2 (fun a e => Nat.le_trans HXA.out.below.size (hn2 a e)) (fun a e => by have := hn2 a e; have := HXA.out.lt; omega)); clear hO hB2 hI2 hn2)
          | (go_at_call 46; refine (CS.out _ _).mono ?_; rintro e w' ⟨rfl, rfl⟩))
        go_ret
        exact ⟨by rw [HEC.out]; rfl, HS.out _ HX3.out.below⟩
    · obtain rfl : i = ms.length := by omega
      have he := HME.out
      rw [List.drop_length] at he
      obtain ⟨hf, htl⟩ := HOK.out P ao cp he
      have HTL := Lib.hid htl
      clear he htl
      subst hf
      have HX4 := Lib.hid (HX.out.on (Below.refl _ wr).drew)
      have HP4 := Lib.hid (HT.out.below HX4.out.below)
      obtain ⟨c0, c1, f0, f1, hbl⟩ := HP4.out.cells
      obtain ⟨d0, d1, d2, d3, d4, d5⟩ := HX4.out.cells
      go_wp2_with fail
      go_still_tail 6, (by kernel_rfl)
      change wpList _ _ _ _ _ wr.drew
      go_wp2_with (at_mapUpdate; refine wpList_set_ino (y := ⟨{ y.x with parts := P }, ao, cp⟩) (l' := a ++ (⟨{ y.x with parts := P }, ao, cp⟩ : Iv) :: r) rfl _ _ _ rfl rfl HP4.out.map HN.out HU.out rfl rfl (HG.out _ rfl) (HL.out _) ?_; intro w5 hm5 hg5; have HM5 := Lib.hid hm5; have HG5 := Lib.hid hg5; clear hm5 hg5)
      go_ret
      exact ⟨rfl, Bxd.leaves (t' := ⟨TL, t.next⟩) HX4.out HZ.out HT.out HG5.out HM5.out HTL.out⟩
end Go.Proofs.Ytfkgeefoknaldaa
namespace Go.Proofs.Ytfkgeefoknaldaa
open Go.RowKit Go.Maps
set_option linter.unusedVariables false
set_option maxRecDepth 20000
theorem piv_rows : RowK Try.prog 40 50 6 ivC where
  under := Try.underlying40
  info := by
    have h : (Try.prog.info? 50).map (fun i => (i.zero, i.size, i.bytes)) = some (some (.agg #[.int .i64 0, .int .i64 0, .int .i64 0, .int .i64 0, .int .i64 0, .slice none 0 0]), 6, 64) := by kernel_rfl
    obtain ⟨i0, hi, hz0, hz1, hz2⟩ := info_parts h
    exact ⟨i0, _, 64, hi, hz0, hz1, hz2, rfl, by decide⟩
  pos := by decide
  len := fun x => rfl
  one := fun x u hu => by
    unfold ivC at hu
    simp at hu
    rcases hu with h | h | h | h | h | h <;> (rw [h]; rfl)
/-- inodes in a row of the call's own, each one's parts in a row of its own -/
structure DRow (W : World) (B : Nat) (v : Value) (l : List Iv) : Prop where
  row : OR 50 6 ivC W B v l
  parts : ∀ y ∈ l, OPa W B (.slice y.ao y.x.parts.length y.cap) y.x.parts
  off : ∀ y ∈ l, ∀ a, y.ao = some a → v.ownBlock ≠ some a.block
theorem DRow.nil (W : World) (B : Nat) : DRow W B (.slice none 0 0) [] := ⟨OR.nil _ _, fun _ h => (by cases h), fun _ h => (by cases h)⟩
theorem DRow.below {W W' : World} {B : Nat} {v : Value} {l : List Iv} (h : DRow W B v l) (hb : Below W.heap.size W W') : DRow W' B v l := ⟨h.row.below hb, fun y hy => OR.below (h.parts y hy) hb, h.off⟩
theorem DRow.lower {W : World} {B C : Nat} {v : Value} {l : List Iv} (h : DRow W B v l) (hb : C ≤ B) : DRow W C v l := ⟨h.row.lower hb, fun y hy => OR.lower (h.parts y hy) hb, h.off⟩
theorem opa_own {w : World} {B n c : Nat} {ao : Option Addr} {l : List Pt} (h : OPa w B (.slice ao n c) l) : ∀ k, (Value.slice ao n c).ownBlock = some k → (∃ a, ao = some a ∧ a.block = k) ∧ B ≤ k ∧ k < w.heap.size := fun k e => by
  obtain ⟨a2, c2, hv, _, _, _, h5, h6⟩ := OR.form par_rows h
  cases hv
  rw [h6.1] at e
  cases ha : ao with
  | none => rw [ha] at e; cases e
  | some a =>
    rw [ha] at e
    have e2 : a.block = k := by simpa using e
    have := h5 a ha
    exact ⟨⟨a, rfl, e2⟩, by omega, by omega⟩
theorem DRow.snoc {W w' : World} {B : Nat} {v v' : Value} {l : List Iv} {y : Iv} (h : DRow W B v l) (hp : OPa W B (.slice y.ao y.x.parts.length y.cap) y.x.parts) (hne : ∀ a, y.ao = some a → v.ownBlock ≠ some a.block) (hI : OR 50 6 ivC w' B v' (l ++ [y])) (hg : W.grownBy w' v.ownBlock) (hv : v'.ownBlock = v.ownBlock ∨ v'.ownBlock = some W.heap.size) : DRow w' B v' (l ++ [y]) := by
  have hk : Kept (fun k => v.ownBlock ≠ some k) W w' := (Kept.refl _ W).grown hg (fun k e hk => hk e)
  have all : ∀ z ∈ l ++ [y], OPa W B (.slice z.ao z.x.parts.length z.cap) z.x.parts ∧ ∀ a, z.ao = some a → v.ownBlock ≠ some a.block := fun z hz => by
    rcases List.mem_append.1 hz with hz | hz
    · exact ⟨h.parts z hz, h.off z hz⟩
    · rw [List.mem_singleton.1 hz]
      exact ⟨hp, hne⟩
  refine ⟨hI, fun z hz => OR.keep (all z hz).1 hk (fun k e => ?_), fun z hz a e => ?_⟩
  · obtain ⟨⟨a, ha, e2⟩, _⟩ := opa_own (all z hz).1 k e
    rw [← e2]
    exact (all z hz).2 a ha
  · rcases hv with e2 | e2
    · rw [e2]; exact (all z hz).2 a e
    · rw [e2]
      intro e3
      obtain ⟨_, _, hv3, _, _, _, h5, _⟩ := OR.form par_rows (all z hz).1
      cases hv3
      have := (h5 a e).2
      have := Option.some.inj e3
      omega
theorem box_new (w : World) (a : Addr) (u : Value) (o : Obj) : ((w.setCell a u).alloc o).heap[w.heap.size]? = some o := by
  have h := heap_alloc_new (w.setCell a u) o
  have e : (w.setCell a u).heap.size = w.heap.size := by simp [World.setCell]
  rw [e] at h
  exact h
theorem pdump_nil (w : World) : Calls Try.prog 15 #[.pointer none] w fun e w' => e = .returned (.slice none 0 0) ∧ w = w' := by
  have CA := Lib.hid (pall_nil w)
  go_enter Try.func15, Try.ntmps15
  go_wp2_with (go_at_call 29; refine CA.out.mono ?_; rintro e w' ⟨rfl, rfl⟩)
  go_loopw [3, 10] (fun v x wr => v = .slice none 0 0 ∧ x = .int .i64 0 ∧ Hid (wr = w)) (fun _ _ _ => 0)
  case atStart => exact ⟨rfl, rfl, Lib.hid rfl⟩
  case round =>
    obtain ⟨rfl, rfl, HW⟩ := hrel
    obtain rfl := HW.out
    go_wp2_with fail
    go_ret
    exact ⟨rfl, rfl⟩
set_option maxHeartbeats 4000000 in
theorem pdump_any {w : World} {b m : Nat} {l : List Iv} {next : Int} (h : PTab w b m l next) (hl : l.length ≤ 100000) (hp : (l.map (·.x)).Pairwise (fun x y => x.ino < y.ino)) (hw : ∀ y ∈ l, (Lit.int .i64 y.x.ino).wf = true) (hq : ∀ y ∈ l, y.x.parts.length ≤ 100000) :
    Calls Try.prog 15 #[.pointer (some ⟨b, 0, none⟩)] w fun e w' => ∃ v l', e = .returned v ∧ l'.map (·.x) = l.map (·.x) ∧ DRow w' w.heap.size v l' ∧ Below w.heap.size w w' := by
  have CA := Lib.hid (pall_any h (by omega) hp hw)
  have HT := Lib.hid h
  have HW := Lib.hid hw
  have HQ := Lib.hid hq
  have HG := Lib.hid (show ∀ k (hk : k < l.length), getV l l[k].x.ino = some l[k] from fun k hk => by
    obtain ⟨a, r, e, ea⟩ : ∃ a r, l = a ++ l[k] :: r ∧ a = l.take k := ⟨l.take k, l.drop (k + 1), by rw [← List.drop_eq_getElem_cons hk, List.take_append_drop], rfl⟩
    generalize hz : l[k] = z at *
    rw [e]
    refine getV_at (fun u hu => ?_)
    rw [e, List.map_append, List.map_cons, List.pairwise_append] at hp
    have := hp.2.2 u.x (List.mem_map.2 ⟨u, hu, rfl⟩) z.x List.mem_cons_self
    omega)
  have hlI : (l.length : Int) ≤ 100000 := by omega
  clear h hp hw hq
  go_enter Try.func15, Try.ntmps15
  go_wp2_with (go_at_call 29; refine CA.out.mono ?_; rintro e w1 ⟨va, rfl, hO, hb1⟩; obtain ⟨ao1, cp1, hv1, hN1, _⟩ := hO.form; rw [List.length_map] at hv1; subst hv1; have HN1 := Lib.hid hN1; have HB1 := Lib.hid hb1; have HT1 := Lib.hid (HT.out.below hb1); clear hO hb1 hN1)
  go_loopw [3, 10] (fun v x wr => ∃ (k : Nat) (l' : List Iv), x = .int .i64 k ∧ k ≤ l.length ∧ l'.map (·.x) = (l.take k).map (·.x) ∧ Hid (DRow wr w1.heap.size v l') ∧ Hid (Below w1.heap.size w1 wr)) (fun _ x _ => l.length - (intOf x).toNat)
  case atStart => exact ⟨0, [], rfl, Nat.zero_le _, rfl, Lib.hid (DRow.nil _ _), Lib.hid (Below.refl _ _)⟩
  case round =>
    obtain ⟨k, l', rfl, hk, hm0, HR, HB⟩ := hrel
    have HM := Lib.hid hm0
    have hlen' : l'.length = k := by
      have := congrArg List.length hm0
      rw [List.length_map, List.length_map, List.length_take] at this
      omega
    clear hm0
    by_cases hlt : k < l.length
    · have k0 : (k : Int) < (l.length : Int) := by omega
      have n0 := (HN1.out.below HB.out).at k (by rw [List.length_map]; exact hlt)
      obtain ⟨bk, off, hao, n1⟩ := n0
      rw [List.getElem_map] at n1
      subst hao
      have hTr := HT1.out.below HB.out
      obtain ⟨c0, c1, f0, f1, hbl⟩ := hTr.cells
      have hmem : l[k] ∈ l := List.getElem_mem hlt
      have hlook := hTr.map.look1 (HW.out _ hmem)
      rw [HG.out k hlt] at hlook
      have HS := Lib.hid (show (l' ++ [l[k]]).map (·.x) = (l.take (k + 1)).map (·.x) from by
        rw [List.map_append, HM.out, List.take_succ_eq_append_getElem hlt, List.map_append])
      have HX0 := Lib.hid (Bxd.start HB.out (HT1.out.each _ hmem))
      have hyI := HT1.out.each _ hmem
      have CP := Lib.hid (papart_any l[k].ao l[k].cap l[k].x.parts (wr.alloc (inoO l[k])) HX0.out.in_.1 hyI.2.1 hyI.2.2.1 (HQ.out _ hmem))
      have HBM := Lib.hid (show b < w1.heap.size ∧ m < w1.heap.size from ⟨lt_of_block HT1.out.head, HT1.out.map.lt⟩)
      generalize l[k] = y at *
      have hlook2 : (Instr.lookup 69 (.map (some m)) (.int .i64 y.x.ino) false).run Try.prog wr = .ok (.agg #[.int .i64 y.x.ino, .int .i64 y.x.kind, .int .i64 y.x.links, .int .i64 y.x.opens, .int .i64 y.x.size, .slice y.ao y.x.parts.length y.cap]) wr := hlook
      have HL0 := Lib.hid (show l'.length + 1 ≤ 1000000 from by omega)
      clear hlook hTr hyI hmem
      go_wp2_with (first
        | (go_at_call 41; refine CP.out.mono ?_; rintro e w2 ⟨v2, rfl, hO, hB2⟩; obtain ⟨ao2, cp2, hv2, hI2, hn2⟩ := IvIn.fresh2 (x := y.x) hO rfl (Nat.lt_of_lt_of_le HBM.out.1 HX0.out.below.size) (Nat.lt_of_lt_of_le HBM.out.2 HX0.out.below.size); subst hv2; have HX2 := Lib.hid (HX0.out.on hB2); obtain ⟨d0, d1, d2, d3, d4, d5⟩ := HX2.out.cells; have e5 := HX2.out.free 5; have HB3 := Lib.hid ((blwO hB2 (blwA wr (inoO y))).setCell (p := ⟨wr.heap.size, 5, none⟩) (Nat.le_refl _) (.slice ao2 y.x.parts.length cp2)); have HD3 := Lib.hid (HR.out.below HB3.out); have HO3 := Lib.hid (OR.keep (hO.lower (show w1.heap.size ≤ _ from Nat.le_trans HB.out.size (by simp))) ((Kept.refl (fun k => k ≠ wr.heap.size) w2).setCell (p := ⟨wr.heap.size, 5, none⟩) (fun e => e rfl) (.slice ao2 y.x.parts.length cp2)) (fun k e => by have := (opa_own hO k e).2.1; simp at this; omega)); have HN3 := Lib.hid (show ∀ a, ao2 = some a → u3.ownBlock ≠ some a.block from fun a e e2 => by have h7 := hn2 a e; simp at h7; have h8 := (HR.out.row.lt _ e2).2; omega); clear hO hB2 hI2 hn2)
        | (refine wpList_app_rows piv_rows (o := ⟨some 27, _, _, _, _, _⟩) rfl (.tmp 24) (.tmp 26) rfl (B := w1.heap.size) (v := u3) (D := l') rfl (OR.below HD3.out.row (blwA _ (inoO ⟨y.x, ao2, cp2⟩))) (ao := some ⟨w2.heap.size, 0, none⟩) (cap := 1) (l := [⟨y.x, ao2, cp2⟩]) (m := 1) rfl rfl (Row.one (f := ivC) (box_new _ _ _ _)) (fun e => by cases e) (Nat.le_refl _) HL0.out (by have := HB.out.size; have := HB3.out.size; simp at *; omega) ?_; intro v5 w5 hI hg hv; have HD5 := Lib.hid (DRow.snoc (y := ⟨y.x, ao2, cp2⟩) (HD3.out.below (blwA _ (inoO ⟨y.x, ao2, cp2⟩))) (OR.below HO3.out (blwA _ (inoO ⟨y.x, ao2, cp2⟩))) HN3.out hI hg hv); have HB5 := Lib.hid (((blwO (blwA _ (inoO ⟨y.x, ao2, cp2⟩)) (blwO HB3.out HB.out)).grown hg (by have := HB.out.size; have := HB3.out.size; simp at *; omega) (fun k e => (HD3.out.row.lt k e).1))); clear hI hg hv))
      go_roundw
      case rel => exact ⟨k + 1, l' ++ [⟨y.x, ao2, cp2⟩], by go_num, by omega, by rw [← HS.out, List.map_append, List.map_append]; rfl, HD5, HB5⟩
      case measure => simp [intOf]; omega
    · obtain rfl : k = l.length := by omega
      go_wp2_with fail
      go_ret
      have hm := HM.out
      rw [List.take_length] at hm
      exact ⟨_, rfl, l', hm, HR.out.lower HB1.out.size, blwO HB.out HB1.out⟩
end Go.Proofs.Ytfkgeefoknaldaa
namespace Go.Proofs.Ytfkgeefoknaldaa
open Go.RowKit
set_option linter.unusedVariables false
set_option maxRecDepth 20000
theorem rmakeI_any {G : Nat → Prop} (w : World) (q : Nat) (t : Tb) (kd : Int) (h : RT q G w t) (ht : TbI t) (hn : t.next ≤ 9000000000) :
    Calls Try.prog 12 #[.pointer (some ⟨q, 0, none⟩), .int .i64 kd] w fun e w' => e = .returned (.tuple #[.int .i64 (makeI t kd).2.1, .int .i64 (makeI t kd).2.2]) ∧ Leaves (RT q) G w w' (makeI t kd).1 := by
  by_cases hy : kindB kd = true ∧ t.l.length < 64
  · exact rmakeI_yes w q t kd h ht hn hy
  · exact rmakeI_no w q t kd h ht hy
theorem row_head {w : World} {g : Nat} {a r : List Iv} (h : Row w (some ⟨g, 0, none⟩) 6 ivC (a ++ r)) : Row w (some ⟨g, 0, none⟩) 6 ivC a := fun i hi => by
  obtain ⟨bk, off, e, h1⟩ := h i (by simp; omega)
  refine ⟨bk, off, e, fun j v hv => h1 j v ?_⟩
  rw [List.getElem_append_left hi]
  exact hv
theorem row_tail {w : World} {g K : Nat} {a r : List Iv} {y : Iv} (h : Row w (some ⟨g, 0, none⟩) 6 ivC (a ++ y :: r)) (hK : a.length = K) : Row w (some ⟨g, (K + 1) * 6, none⟩) 6 ivC r := fun i hi => by
  subst hK
  obtain ⟨bk, off, e, h1⟩ := h (a.length + 1 + i) (by simp; omega)
  cases e
  refine ⟨g, (a.length + 1) * 6, rfl, fun j v hv => ?_⟩
  have h2 := h1 j v (by
    rw [List.getElem_append_right (by omega)]
    simp only [show a.length + 1 + i - a.length = i + 1 from by omega, List.getElem_cons_succ]
    exact hv)
  rw [show 0 + (a.length + 1 + i) * 6 + j = (a.length + 1) * 6 + i * 6 + j from by omega] at h2
  exact h2
set_option maxHeartbeats 400000 in
theorem rends_stay {w : World} {q g cap K : Nat} {a r : List Iv} {y : Iv} {next : Int} (h : DTab w 0 q g cap (a ++ y :: r) next) (hl : (a ++ y :: r).length ≤ 64) (hK : a.length = K) (hs : ¬ (y.x.links = 0 ∧ y.x.opens = 0)) :
    Calls Try.prog 36 #[.pointer (some ⟨q, 0, none⟩), .int .i64 K] w fun e w' => e = .returned (.tuple #[]) ∧ w = w' := by
  obtain ⟨c0, c1⟩ := h.cells
  have hat := h.at a.length (by simp)
  rw [iv_at] at hat
  obtain ⟨_, _, b2, b3, _, _⟩ := hat
  have hq := block_lt_of_cell c0
  have hg := block_lt_of_cell b2
  obtain ⟨N, hN⟩ : ∃ N, (a ++ y :: r).length = N := ⟨_, rfl⟩
  rw [hN] at c0 hl
  have hKN : K < N := by rw [← hN, ← hK]; simp
  rw [hK] at b2 b3
  have hkI : (K : Int) < (N : Int) := by omega
  have hNI : (N : Int) ≤ 64 := by omega
  clear h hN hK
  by_cases e1 : y.x.links = 0
  · have e2 : (y.x.links == 0) = true := beq_iff_eq.2 e1
    have e3 : (y.x.opens == 0) = false := beq_eq_false_iff_ne.2 (fun e => hs ⟨e1, e⟩)
    clear hs e1
    go_enter Try.func36, Try.ntmps36
    go_wp2_with fail
    go_end0
    exact ⟨rfl, rfl⟩
  · have e2 : (y.x.links == 0) = false := beq_eq_false_iff_ne.2 e1
    clear hs e1
    go_enter Try.func36, Try.ntmps36
    go_wp2_with fail
    go_end0
    exact ⟨rfl, rfl⟩
/-- a shorter row in memory of its own -/
theorem DTab.shorter {w w5 : World} {q g cap g5 cap5 : Nat} {l l' : List Iv} {nx : Int} (h : DTab w 0 q g cap l nx) (hb : Below w.heap.size w w5) (ho : OIv w5 w.heap.size (.slice (some ⟨g5, 0, none⟩) l'.length cap5) l') (hs : ∀ y ∈ l', y ∈ l) (hg : w.heap.size ≤ g5) :
    DTab (w5.setCell ⟨q, 0, none⟩ (.slice (some ⟨g5, 0, none⟩) l'.length cap5)) 0 q g5 cap5 l' nx := by
  have hq := lt_of_block h.head
  have hqg : q ≠ g5 := by omega
  have hk : Kept (fun k => k ≠ q) w5 (w5.setCell ⟨q, 0, none⟩ (.slice (some ⟨g5, 0, none⟩) l'.length cap5)) := (Kept.refl _ w5).setCell (fun e => e rfl) _
  refine ⟨two_set0 (below_heap hb h.head) _, OR.lower (OR.keep ho hk (fun k e => by cases e; exact Ne.symm hqg)) (Nat.zero_le _), h.low, hqg, fun y hy => ?_⟩
  obtain ⟨i1, i2, i3, i4⟩ := h.each y (hs y hy)
  exact ⟨PaL.kept (PaL.below i1 hb) hk (fun a e => (i4 a e).2.1), i2, i3, fun a e => ⟨Nat.lt_of_lt_of_le (i4 a e).1 (Nat.le_trans hb.size hk.size), (i4 a e).2.1, by have := (i4 a e).1; omega⟩⟩
/-- what is left: a table of l in a new row -/
def Gone (w w' : World) (q : Nat) (l : List Iv) (next : Int) : Prop := ∃ g' cap', DTab w' 0 q g' cap' l next ∧ Kept (fun k => k ≠ q) w w' ∧ w.heap.size ≤ g'
set_option maxHeartbeats 400000 in
theorem rends_go {w : World} {q g cap K : Nat} {a r : List Iv} {y : Iv} {next : Int} (h : DTab w 0 q g cap (a ++ y :: r) next) (hl : (a ++ y :: r).length ≤ 64) (hK : a.length = K) (ha : a ≠ []) (h1 : y.x.links = 0) (h2 : y.x.opens = 0) :
    Calls Try.prog 36 #[.pointer (some ⟨q, 0, none⟩), .int .i64 K] w fun e w' => e = .returned (.tuple #[]) ∧ Gone w w' q (a ++ r) next := by
  have HD := Lib.hid h
  obtain ⟨c0, c1⟩ := h.cells
  have hat := h.at a.length (by simp)
  rw [iv_at] at hat
  obtain ⟨_, _, b2, b3, _, _⟩ := hat
  have hq := block_lt_of_cell c0
  have hg := block_lt_of_cell b2
  obtain ⟨ra, rc, hrv, hrow, hrl, hro⟩ := OR.form iv_rows h.row
  clear hro
  cases hrv
  obtain ⟨N, hN⟩ : ∃ N, (a ++ y :: r).length = N := ⟨_, rfl⟩
  have HRA := Lib.hid (row_head hrow)
  have HRB := Lib.hid (row_tail hrow hK)
  rw [hN] at c0 hl hrl
  have hrN : r.length = N - (K + 1) := by rw [← hN, ← hK]; simp; omega
  have hKN : K < N := by rw [← hN, ← hK]; simp
  rw [hK] at b2 b3
  have hkI : (K : Int) < (N : Int) := by omega
  have hNI : (N : Int) ≤ 64 := by omega
  have hcI : (N : Int) ≤ (cap : Int) := by omega
  have HKK := Lib.hid hK
  have HRN := Lib.hid hrN
  have HAN := Lib.hid ha
  have HCA := Lib.hid (show a.length ≤ cap from by omega)
  have HLA := Lib.hid (show ([] : List Iv).length + a.length ≤ 1000000 from by simp; omega)
  have HLB := Lib.hid (show a.length + r.length ≤ 1000000 from by omega)
  have HLE := Lib.hid (show a.length + ([] : List Iv).length ≤ 1000000 from by simp; omega)
  have HCB := Lib.hid (show r.length ≤ cap - (K + 1) from by omega)
  have w1 : IntKind.i64.wrap ((K : Int) + 1) = (K : Int) + 1 := IntWalk.i64_in _ (by omega)
  have e2 : (y.x.links == 0) = true := beq_iff_eq.2 h1
  have e3 : (y.x.opens == 0) = true := beq_iff_eq.2 h2
  have i1 : (K : Int) + 1 ≤ (N : Int) := by omega
  have i2 : (0 : Int) ≤ (K : Int) + 1 := by omega
  have i3 : (K : Int) ≤ (cap : Int) := by omega
  clear h hN hK ha h1 h2 hrow hrN
  have HRC := Lib.hid (show Row w (if cap = K + 1 then some ⟨g, 0, none⟩ else some ⟨g, (K + 1) * 6, none⟩) 6 ivC r from by
    by_cases hc : cap = K + 1
    · rw [if_pos hc, List.eq_nil_of_length_eq_zero (show r.length = 0 from by have := HCB.out; omega)]
      exact Row.nil _ _ _ _
    · rw [if_neg hc]; exact HRB.out)
  have HNX := Lib.hid (show (if cap = K + 1 then some ⟨g, 0, none⟩ else some ⟨g, (K + 1) * 6, none⟩) = (none : Option Addr) → cap - (K + 1) = 0 from fun e => by split at e <;> cases e)
  obtain ⟨l', hl'⟩ : ∃ l', a ++ r = l' := ⟨_, rfl⟩
  have HNE := Lib.hid (show l' ≠ [] from fun e => HAN.out (List.append_eq_nil_iff.1 (hl'.trans e)).1)
  have HSB := Lib.hid (show ∀ z ∈ l', z ∈ a ++ y :: r from fun z hz => by
    rw [← hl'] at hz
    rcases List.mem_append.1 hz with hz | hz
    · exact List.mem_append_left _ hz
    · exact List.mem_append_right _ (List.mem_cons_of_mem _ hz))
  have HLP := Lib.hid hl'
  rw [hl']
  clear hl'
  go_enter Try.func36, Try.ntmps36
  go_wp2_with fail
  rw [show Op.load 46 (.tmp 28) = laterOp (Op.load 46 (.tmp 28)) from rfl, show Op.load 46 (.tmp 35) = laterOp (Op.load 46 (.tmp 35)) from rfl]
  go_region_held3 (fun _ => True) (trivial)
    (first
      | (have H3' := H3.out; refine step_app_rows iv_rows rfl (.tmp 32) (.tmp 39) rfl (B := w.heap.size) (v := .slice v3o K v3c) (D := a) rfl H3.out.row (ao := (if cap = K + 1 then some ⟨g, 0, none⟩ else some ⟨g, (K + 1) * 6, none⟩)) (cap := cap - (K + 1)) (l := r) (m := N - (K + 1)) HRN.out rfl (Row.below HRC.out H3.out.below) HNX.out HCB.out HLB.out H3.out.below.size ?_; intro v5 w5 hI hg _; rw [HLP.out] at hI; obtain ⟨g5, v5c, hv5, hg5⟩ := OIv.head hI HNE.out; subst hv5; have hb5 := H3.out.below.grown hg H3.out.below.size (fun k e => (H3.out.row.lt k e).1); have HI5 := Lib.hid hI; have HB5 := Lib.hid hb5; have HG5 := Lib.hid hg5; have c50 := cellB hb5 hq c0; have f50 := free_of (below_heap hb5 HD.out.head) 0; have q50 := Nat.lt_of_lt_of_le hq hb5.size; clear hI hg hb5 hg5 H3')
      | (have M1 := mk_a HRA.out; refine step_app_rows iv_rows rfl (.tmp 25) (.tmp 31) rfl (B := w.heap.size) (v := .slice (some ⟨w.heap.size, 0, none⟩) 0 0) (D := []) rfl M1.row (ao := some ⟨g, 0, none⟩) (cap := cap) (l := a) (m := K) HKK.out rfl M1.old (fun e => by cases e) HCA.out HLA.out M1.size ?_; intro v3 w3 hI hg _; have H3 := Lib.hid (M1.on (Nat.le_refl _) hI hg); obtain ⟨v3o, v3c, hv3, hr3⟩ := OR.form iv_rows H3.out.row; clear hr3; rw [HKK.out] at hv3; subst hv3; have c3 := cellB H3.out.below hq c0; clear hI hg M1))
  all_goals
    go_wp2_with fail
    all_goals
      go_end0
      exact ⟨rfl, g5, v5c, DTab.shorter HD.out HB5.out HI5.out HSB.out HG5.out, (Kept.ofBelow HB5.out _).setCell (p := ⟨q, 0, none⟩) (fun e => e rfl) _, HG5.out⟩
end Go.Proofs.Ytfkgeefoknaldaa
