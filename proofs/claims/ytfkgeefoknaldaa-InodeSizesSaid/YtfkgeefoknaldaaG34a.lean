/- Stage 20: what the program's own Load returns of a good table's inodes. Conditions: the inodes and their parts lie where the call was told, apart from the table. -/
import Derived.Test.YtfkgeefoknaldaaG33a
set_option linter.unusedVariables false
namespace Go.Proofs.Ytfkgeefoknaldaa
open Go.RowKit Go.Maps Go.Sort
set_option linter.unusedVariables false
set_option maxRecDepth 20000
theorem pload_nil (lo : Option Addr) (n c : Nat) (next : Int) (w : World) : Calls Try.prog 16 #[.pointer none, .slice lo n c, .int .i64 next] w fun e w' => e = .returned (.int .i64 1) ∧ w = w' := by
  go_enter Try.func16, Try.ntmps16
  go_wp2_with fail
  go_ret
  exact ⟨rfl, rfl⟩
theorem Kept.cut {S : Nat → Prop} {w w' : World} (h : Kept (fun k => S k ∧ k < w.heap.size) w w') : Kept S w w' := ⟨h.os, h.tape, h.output, h.size, fun k hk hl => h.block k ⟨hk, hl⟩ hl⟩
theorem IvQ.kept {S : Nat → Prop} {w w' : World} {lo : Option Addr} {l : List Iv} (h : IvQ w lo l) (hk : Kept S w w') (h1 : ∀ a, lo = some a → S a.block) (h2 : ∀ y ∈ l, ∀ a, y.ao = some a → S a.block) : IvQ w' lo l := by
  refine ⟨fun i hi => ?_, fun y hy => ⟨PaL.kept (h.parts y hy).1 hk (h2 y hy), (h.parts y hy).2⟩⟩
  obtain ⟨bk, off, e, h3⟩ := h.row i hi
  refine ⟨bk, off, e, fun j v hv => ?_⟩
  have h4 := h3 j v hv
  have hb := hk.block bk (h1 _ e) (block_lt_of_cell h4)
  rw [← h4]
  simp [World.cell?, hb]
/-- the two cells of the table are written, a new map stands for the old one -/
theorem load_start {w w1 : World} {b m : Nat} {l0 : List Iv} {n0 next : Int} (h : PTab w b m l0 n0) (hb : Below w.heap.size w w1) :
    PTab (((w1.setCell ⟨b, 0, none⟩ (.map (some w1.heap.size))).setCell ⟨b, 1, none⟩ (.int .i64 next)).alloc (.map #[] 0)) b w1.heap.size [] next ∧ Kept (fun k => k ≠ b ∧ k < w.heap.size) w (((w1.setCell ⟨b, 0, none⟩ (.map (some w1.heap.size))).setCell ⟨b, 1, none⟩ (.int .i64 next)).alloc (.map #[] 0)) := by
  have h1 := h.below hb
  have hbl := lt_of_block h.head
  have hbw := Nat.lt_of_lt_of_le hbl hb.size
  have hsz : ((w1.setCell ⟨b, 0, none⟩ (.map (some w1.heap.size))).setCell ⟨b, 1, none⟩ (.int .i64 next)).heap.size = w1.heap.size := by simp [World.setCell]
  have hh := two_set1 (two_set0 h1.head (.map (some w1.heap.size))) (.int .i64 next)
  have hm := MM.made ((w1.setCell ⟨b, 0, none⟩ (.map (some w1.heap.size))).setCell ⟨b, 1, none⟩ (.int .i64 next))
  rw [hsz] at hm
  refine ⟨⟨below_heap (blwA _ _) hh, hm, by omega, fun y hy => by cases hy⟩, ?_⟩
  exact (((Kept.ofBelow hb _).setCell (fun e => e.1 rfl) _).setCell (fun e => e.1 rfl) _).alloc _
set_option maxHeartbeats 400000 in
theorem pload_yes {b : Nat} {G : Nat → Prop} {w : World} {t : Tb} (lo : Option Addr) (cap : Nat) (l : List Iv) (next : Int) (h : PT b G w t) (hl : IvQ w lo l) (ht : TbI ⟨l.map (·.x), next⟩) (hf : fedI ⟨l.map (·.x), next⟩) (hn : next ≤ 2147483647)
    (h1 : ∀ a, lo = some a → a.block ≠ b ∧ a.block < w.heap.size) (h2 : ∀ y ∈ l, ∀ a, y.ao = some a → a.block ≠ b ∧ a.block < w.heap.size) :
    Calls Try.prog 16 #[.pointer (some ⟨b, 0, none⟩), .slice lo l.length cap, .int .i64 next] w fun e w' => e = .returned (.int .i64 0) ∧ Leaves (PT b) G w w' ⟨l.map (·.x), next⟩ := by
  obtain ⟨m, l0, hm0, hp, hz⟩ := h
  have CG := Lib.hid (pgood_yes lo cap l next w hl ht hf hn)
  have HS := Lib.hid (fun (w1 : World) (hb : Below w.heap.size w w1) => @load_start w w1 b m l0 t.next next hp hb)
  have HZ := Lib.hid hz
  have HL := Lib.hid (fun (W : World) (hk : Kept (fun k => k ≠ b ∧ k < w.heap.size) w W) => IvQ.kept hl hk h1 h2)
  have H2 := Lib.hid h2
  have HC := Lib.hid (fun (w1 : World) (hb : Below w.heap.size w w1) => (hp.below hb).cells)
  have hlen : l.length ≤ 64 := by
    have := ht.most
    rw [List.length_map] at this
    exact this
  have HE := Lib.hid (show ∀ k (hk : k < l.length), inoB next l[k].x from fun k hk => ht.each _ (List.mem_map.2 ⟨_, List.getElem_mem hk, rfl⟩))
  have HR := Lib.hid (show ∀ i k (hi : i < l.length) (hk : k < l.length), i < k → l[i].x.ino < l[k].x.ino from fun i k hi hk h0 => by
    have h9 := List.pairwise_iff_getElem.1 ht.rise i k (by simpa using hi) (by simpa using hk) h0
    simpa using h9)
  have hlI : (l.length : Int) ≤ 64 := by omega
  have HBL := Lib.hid (lt_of_block hp.head)
  clear hp hz hl ht hf h1 h2 hm0
  go_enter Try.func16, Try.ntmps16
  have hmm := @run_makeMap Try.prog
  go_wp2_with (go_at_call 42; refine CG.out.mono ?_; rintro e w1 ⟨rfl, hb1⟩; have HS1 := Lib.hid (HS.out _ hb1); have HB1 := Lib.hid hb1; obtain ⟨c0, c1, f0, f1, hbl⟩ := HC.out _ hb1; clear hb1)
  generalize World.alloc _ _ = W5 at *
  clear c0 c1 f0 f1 hbl
  have hw1 := HB1.out.size
  go_loopw [27] (fun x wr => ∃ (k : Nat) (l' : List Iv), x = .int .i64 k ∧ k ≤ l.length ∧ l'.map (·.x) = (l.take k).map (·.x) ∧ Hid (PTab wr b w1.heap.size l' next) ∧ Hid (Kept (fun k => k ≠ b ∧ k < w.heap.size) w wr) ∧ Hid (∀ y ∈ l', ∀ a, y.ao = some a → w.heap.size ≤ a.block)) (fun x _ => l.length - (intOf x).toNat)
  case atStart => exact ⟨0, [], rfl, Nat.zero_le _, rfl, Lib.hid HS1.out.1, Lib.hid HS1.out.2, Lib.hid (fun y hy => by cases hy)⟩
  case round =>
    obtain ⟨k, l', rfl, hk, hm0, HP, HK, HN⟩ := hrel
    have HM := Lib.hid hm0
    have hlen' : l'.length = k := by
      have := congrArg List.length hm0
      rw [List.length_map, List.length_map, List.length_take] at this
      omega
    clear hm0
    by_cases hlt : k < l.length
    · have k0 : (k : Int) < (l.length : Int) := by omega
      have HLr := Lib.hid (HL.out wr HK.out)
      obtain ⟨bk, off, hlo, z0, z1, z2, z3, z4, z5⟩ := HLr.out.at k hlt
      subst hlo
      have hmem : l[k] ∈ l := List.getElem_mem hlt
      have HS2 := Lib.hid (show (l' ++ [l[k]]).map (·.x) = (l.take (k + 1)).map (·.x) from by
        rw [List.map_append, HM.out, List.take_succ_eq_append_getElem hlt, List.map_append])
      have HNO := Lib.hid (show getV l' l[k].x.ino = none from getV_no (fun y hy e => by
        have h5 : y.x ∈ (l.take k).map (·.x) := by rw [← HM.out]; exact List.mem_map.2 ⟨y, hy, rfl⟩
        obtain ⟨u, hu, hux⟩ := List.mem_map.1 h5
        obtain ⟨i, hi, hui⟩ := List.getElem_of_mem hu
        rw [List.getElem_take] at hui
        have hi2 : i < k := by rw [List.length_take] at hi; omega
        have := HR.out i k (by omega) hlt hi2
        rw [hui, hux] at this
        omega))
      have hin := HE.out k hlt
      have HU := Lib.hid (show (Lit.int .i64 l[k].x.ino).wf = true from WalkArith.wf_i64 (by have := hin.1; omega))
      have hyP := HLr.out.parts _ hmem
      have hpl : l[k].x.parts.length ≤ 100000 := by
        have := (goodE_iff.1 hin.2.2.2.2.2.2.1).1
        omega
      have hyI : IvIn wr b w1.heap.size l[k] := ⟨hyP.1, hyP.2.1, hyP.2.2, fun a e => by
        have h6 := H2.out _ hmem a e
        have h7 := HK.out.size
        exact ⟨by omega, h6.1, by omega⟩⟩
      have HX0 := Lib.hid (Bxd.start (Below.refl _ wr) hyI)
      have CP := Lib.hid (papart_any l[k].ao l[k].cap l[k].x.parts (wr.alloc (inoO l[k])) HX0.out.in_.1 hyP.2.1 hyP.2.2 hpl)
      have HBM := Lib.hid (show b < wr.heap.size ∧ w1.heap.size < wr.heap.size from ⟨lt_of_block HP.out.head, HP.out.map.lt⟩)
      generalize l[k] = y at *
      have HL0 := Lib.hid (show l'.length ≤ 1000000 from by omega)
      have HGV := Lib.hid (fun (y' : Iv) (e : y'.x.ino = y.x.ino) v => (show getV (l' ++ [y']) v = if v = y.x.ino then some y' else getV l' v from e ▸ getV_snoc (y := y') (e ▸ HNO.out) v))
      have HGL := Lib.hid (fun (y' : Iv) => show (l' ++ [y']).length = if (getV l' y.x.ino).isSome then l'.length else l'.length + 1 from by rw [HNO.out]; simp)
      clear hin hyP hpl hyI hmem
      go_wp2_with (go_at_call 41; refine CP.out.mono ?_; rintro e w2 ⟨v2, rfl, hO, hB2⟩; obtain ⟨ao2, cp2, hv2, hI2, hn2⟩ := IvIn.fresh2 (x := y.x) hO rfl (Nat.lt_of_lt_of_le HBM.out.1 HX0.out.below.size) (Nat.lt_of_lt_of_le HBM.out.2 HX0.out.below.size); subst hv2; have HX2 := Lib.hid (HX0.out.on hB2); obtain ⟨d0, d1, d2, d3, d4, d5⟩ := HX2.out.cells; have e5 := HX2.out.free 5; have HX3 := Lib.hid (HX2.out.set5 hI2 (fun a e => Nat.le_trans HX0.out.below.size (hn2 a e)) (fun a e => by have := hn2 a e; have := HX0.out.lt; omega)); have HN3 := Lib.hid (show ∀ a, ao2 = some a → w.heap.size ≤ a.block from fun a e => by have := hn2 a e; have := HX0.out.below.size; have := HK.out.size; omega); clear hO hB2 hI2 hn2)
      generalize hW3 : World.setCell w2 _ _ = W3 at *
      clear d0 d1 d2 d3 d4 d5 e5 hW3
      have HX4 := Lib.hid (HX3.out.on (Below.refl _ W3).drew)
      have HP4 := Lib.hid (HP.out.below HX4.out.below)
      obtain ⟨c0, c1, f0, f1, hbl⟩ := HP4.out.cells
      obtain ⟨d0, d1, d2, d3, d4, d5⟩ := HX4.out.cells
      have HI4 := Lib.hid (show ∀ z ∈ l' ++ [(⟨y.x, ao2, cp2⟩ : Iv)], IvIn W3.drew b w1.heap.size z from fun z hz => by
        rcases List.mem_append.1 hz with hz | hz
        · exact HP4.out.each z hz
        · rw [List.mem_singleton.1 hz]; exact HX4.out.in_)
      have HN4 := Lib.hid (show ∀ z ∈ l' ++ [(⟨y.x, ao2, cp2⟩ : Iv)], ∀ a, z.ao = some a → w.heap.size ≤ a.block from fun z hz => by
        rcases List.mem_append.1 hz with hz | hz
        · exact HN.out z hz
        · rw [List.mem_singleton.1 hz]; exact HN3.out)
      go_still_tail 7, (by kernel_rfl)
      change wpList _ _ _ _ _ W3.drew
      go_wp2_with (at_mapUpdate; refine wpList_set_ino (y := ⟨y.x, ao2, cp2⟩) (l' := l' ++ [(⟨y.x, ao2, cp2⟩ : Iv)]) rfl _ _ _ rfl rfl HP4.out.map HL0.out HU.out rfl rfl (HGV.out _ rfl) (HGL.out _) ?_; intro w5 hm5 hg5; have HP5 := Lib.hid (HP4.out.turn hg5 hm5 HI4.out); have HK5 := Lib.hid ((HK.out.below HX4.out.below).grown hg5 (fun k e hk => by have := Option.some.inj e; have := hk.2; omega)); clear hm5 hg5)
      go_roundw
      case rel => exact ⟨k + 1, l' ++ [⟨y.x, ao2, cp2⟩], by go_num, by omega, by rw [← HS2.out, List.map_append, List.map_append]; rfl, HP5, HK5, HN4⟩
      case measure => simp [intOf]; omega
    · obtain rfl : k = l.length := by omega
      go_wp2_with fail
      go_ret
      have hm := HM.out
      rw [List.take_length] at hm
      exact ⟨rfl, PTab.leaves (t' := ⟨l.map (·.x), next⟩) HZ.out HP.out hm ⟨(Kept.cut HK.out).mono (fun k hk => hk.1), .inr hw1, fun y hy => .inr (HN.out y hy)⟩⟩
end Go.Proofs.Ytfkgeefoknaldaa
