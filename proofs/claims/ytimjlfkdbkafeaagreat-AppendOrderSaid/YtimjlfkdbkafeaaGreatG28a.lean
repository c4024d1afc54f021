/- The program's own take, where there is a k-th. Conditions: as each statement says. (Written by gen/genhmpf.py.) The program's nodes keep all that the laws of all nodes ask: units, sequencer, layout are the program's own. No conditions. Many appends in memory, each of them in blocks of its own, beside anything. Conditions: the program's functions return what AppSays says. -/
import Derived.Test.YtimjlfkdbkafeaaGreatG27a
import Derived.Deep.AppendSrc
import Derived.Deep.Upon
import Derived.Deep.CutRange
import Derived.Deep.CutBlock
import Derived.Test.YtimjlfkdbkafeaaGreatG20a
import Derived.Test.YtimjlfkdbkafeaaGreatG13a
import Derived.Test.YtimjlfkdbkafeaaGreatG24a
import Derived.Test.YtimjlfkdbkafeaaGreatG12b
set_option linter.unusedVariables false
namespace Go.Proofs.YtimjlfkdbkafeaaGreat
set_option linter.unusedVariables false
open Go.RowKit
set_option maxRecDepth 20000
/-- none is appended -/
theorem step_app_none {ops : Array Oper} {o : Oper} {a : Act} {w : World} {K' : Act → World → Prop} {Q : Exit → Act → World → Prop} {E : Prop} (hgd : o.guard = none) (s x : Operand)
    (ho : o.op = Op.call { callee := Callee.builtin Builtin.append, args := #[s, x], argTypes := #[80, 80] }) {ao : Option Addr} {n c : Nat} (hs : a.eval s = .slice ao n c) (hc : n ≤ c) {ad : Addr} {m c2 : Nat} (hx : a.eval x = .slice (some ad) m c2) (hm : m = 0)
    (hQ : K' (a.put o.dst (.slice ao n c)) w) : if Region.wanted o (yielded ops a.tmps) = true then Oper.wp Tryz.prog o a w K' Q else E := by
  have hw : Region.wanted o (yielded ops a.tmps) = true := by simp [Region.wanted, hgd]
  rw [if_pos hw]
  subst hm
  obtain ⟨i0, z, bytes, hi, hz0, hz1, hz2, hz3, hz4⟩ := ask_rows.info
  have hr := run_append_nothing (P := Tryz.prog) w 80 80 o.type 35 i0 ask_rows.under hi ao n c hc (.slice (some ad) 0 c2) (Src.ofSlice w ask_rows.under ad 0 c2 [] (by simp) (fun j u hj => by cases hj) (fun u hu => by cases hu))
  unfold Oper.wp
  simp [execOp, ho, resolve, invoke, builtin, hs, hx, hr, Result.andThen]
  exact hQ
section
variable {NG : Nat → (Nat → Prop) → World → Nd → Prop} {Z : List Ak} {b nb : Nat} {G : Nat → Prop} {w : World} {h : Hd}
/-- the same is made in both worlds -/
theorem Kept.both {S : Nat → Prop} {w w' : World} (h : Kept S w w') (hs : w'.heap.size = w.heap.size) (x : Obj) : Kept S (w.alloc x) (w'.alloc x) := by
  refine ⟨h.os, h.tape, h.output, by simp [hs], fun k hk hl => ?_⟩
  by_cases e : k = w.heap.size
  · subst e
    rw [heap_alloc_new w x]
    have := heap_alloc_new w' x
    rwa [hs] at this
  · have hl2 : k < w.heap.size := by simp at hl; omega
    rw [heap_alloc_old w x hl2, heap_alloc_old w' x (by omega)]
    exact h.block k hk hl2
/-- the result lies in a box that the call made -/
theorem leaves_box {α : Type} {T : (Nat → Prop) → World → α → Prop} {G : Nat → Prop} {w W2 w5 w6 : World} {s : α} (hT : Thing T) (hlt : ∀ k, G k → k < w.heap.size) (hb : Below w.heap.size w W2) (h : Leaves T G W2 w5 s) {q : Nat} (hq : w.heap.size ≤ q) (hq2 : q < W2.heap.size) (hk : Kept (fun k => k ≠ q) w5 w6) : Leaves T G w w6 s := by
  obtain ⟨G', t1, k1, s1⟩ := h
  have K5 : Kept (fun k => ¬ G k) w w5 := (Kept.ofBelow hb _).trans k1
  refine ⟨G', hT.keep t1 hk (fun k hg e => ?_), ⟨hk.os.trans K5.os, hk.tape.trans K5.tape, hk.output.trans K5.output, Nat.le_trans K5.size hk.size, fun k hg hl => ?_⟩, fun k hg => ?_⟩
  · rcases s1 k hg with h | h
    · have := hlt k h; omega
    · omega
  · rw [hk.block k (by omega) (Nat.lt_of_lt_of_le hl K5.size)]
    exact K5.block k hg hl
  · exact (s1 k hg).imp id (fun h => Nat.le_trans hb.size h)
set_option maxHeartbeats 6400000 in
theorem take_yes (hN : ∀ b, Thing (NG b)) (b nb : Nat) (G : Nat → Prop) (w : World) (h : Hd) (k : Nat) (hh : HMz NG [] b nb G w h) (hk : k < h.held.length) :
    Calls Tryz.prog 43 #[.pointer (some ⟨b, 0, none⟩), .int .i64 k] w fun e w' => ∃ a : Ak, e = .returned (.tuple #[askV a, .bool true]) ∧ a.plain = h.held[k] ∧ Leaves (HMz NG [a] b nb) G w w' ⟨h.n, lessK h.held k⟩ := by
  have hlt := (hmz_thing hN [] b nb).lt hh
  have hbs := hh.small
  have h64 := hh.1
  obtain ⟨v, l, hc, hR, hm, hok, hGv, hlay⟩ := hh.opened hN
  have hkl : k < l.length := by rw [← hm, List.length_map] at hk; exact hk
  have hl64 : l.length ≤ 64 := by rw [← hm, List.length_map] at h64; exact h64
  have epl : (l[k]).plain = h.held[k] := by simp only [← hm, List.getElem_map]
  have HLK := Lib.hid (show (lessK l k).map Ak.plain = lessK h.held k from by rw [plain_less, hm])
  obtain ⟨vo, vc, hv, _, hcap, hno, _, hblk⟩ := hR.form
  obtain ⟨va, rfl⟩ : ∃ va, vo = some va := by
    cases vo with
    | none => have := hno rfl; omega
    | some a => exact ⟨a, rfl⟩
  obtain ⟨eva, cur, hcur, hsz, htk⟩ := hblk va rfl
  obtain ⟨g, rfl⟩ : ∃ g, va = ⟨g, 0, none⟩ := ⟨va.block, eva⟩
  subst hv
  have hcur' : w.heap[g]? = some (.cells cur 35 (0, 0)) := hcur
  obtain ⟨hgG, hgb⟩ := hGv g rfl
  have hgl := hlt g hgG
  -- what lies in the hand, where the row stood over which the k-th is wiped
  have HLY := Lib.hid (fun (W w4 : World) (v4 : Value) (hW : Below w.heap.size w W) (hk4 : Kept (fun j => j ≠ g) W w4) (hR4 : HR w4 v4 (lessK l k)) (hv4 : ∀ j, v4.ownBlock = some j → some g = some j ∨ W.heap.size ≤ j) =>
    show Leaves (HMz NG [l[k]] b nb) G W (w4.setCell ⟨b, 1, none⟩ v4) ⟨h.n, lessK h.held k⟩ from by
      rw [← HLK.out]
      refine hlay W hW w4 v4 (lessK l k) [l[k]] (fun _ => False) (hk4.mono (fun j hj e => hj (by rw [e]; rfl))) hR4 hv4 (fun j hj => hj.elim) (by have := lessK_length hkl; omega) (fun x hx => ?_)
      rcases hx with hx | hx
      · exact .inl (lessK_mem hx)
      · rw [List.mem_singleton.1 hx]
        exact .inl (List.getElem_mem hkl))
  have HBX := Lib.hid (fun (W w5 w6 : World) (hb : Below w.heap.size w W) (hl : Leaves (HMz NG [l[k]] b nb) G W w5 ⟨h.n, lessK h.held k⟩) (hq : w.heap.size < W.heap.size) (hk6 : Kept (fun j => j ≠ w.heap.size) w5 w6) => leaves_box (hmz_thing hN [l[k]] b nb) hlt hb hl (Nat.le_refl _) hq hk6)
  obtain ⟨_, c1, _, _⟩ := two_cells hc
  have hx := fun j hj => row_at hcur' htk hkl j hj
  have HC := Lib.hid hc
  have HCU := Lib.hid hcur'
  have HHD := Lib.hid (fun cur2 he => over_head (cur2 := cur2) htk hkl he)
  have HTL := Lib.hid (fun W W' cur2 h1 h2 he => over_tail (w := W) (w' := W') (g := g) (cur2 := cur2) (k := k) (t := 35) h1 h2 htk he)
  have HYY := Lib.hid (fun W h1 j hj => row_at (w := W) (g := g) (t := 35) h1 htk hkl j hj)
  have HLT := Lib.hid (show (l.take k).length = k from by rw [List.length_take]; omega)
  have HLD := Lib.hid (show (l.drop (k + 1)).length = l.length - (k + 1) from List.length_drop)
  have HDL := Lib.hid (show l.take k ++ l.drop (k + 1) = lessK l k from rfl)
  have HPL := Lib.hid epl
  clear hh hc hR hm hok hGv hlay hcur hno hblk h64 eva epl hcur' htk HLK
  generalize l[k] = a at *
  obtain ⟨k0, un, ep, pg, sz, nn, s, pe, L, ao, cap⟩ := a
  have x0 := hx 0 (by omega)
  have x1 := hx 1 (by omega)
  have x2 := hx 2 (by omega)
  have x3 := hx 3 (by omega)
  have x4 := hx 4 (by omega)
  have x5 := hx 5 (by omega)
  have x6 := hx 6 (by omega)
  have x7 := hx 7 (by omega)
  have x8 := hx 8 (by omega)
  simp only [askC, Nat.add_zero, List.getElem?_cons_zero, List.getElem?_cons_succ] at x0 x1 x2 x3 x4 x5 x6 x7 x8
  have i0 : IntKind.i64.wrap ((k : Int) + 1) = (k : Int) + 1 := IntWalk.i64_in _ (by omega)
  have i9 : (0 : Int) ≤ (k : Int) + 1 := by omega
  have i1 : (0 : Int) ≤ (k : Int) := by omega
  have i2 : (k : Int) < (l.length : Int) := by omega
  have i3 : (k : Int) ≤ (vc : Int) := by omega
  have i4 : (l.length : Int) ≤ (vc : Int) := by omega
  have i5 : (k : Int) + 1 ≤ (l.length : Int) := by omega
  have i6 : (l.length : Int) ≤ 64 := by omega
  have i7 : l.length ≤ vc := by omega
  have f0 := free_of HCU.out (k * 9)
  have f1 := free_of HCU.out (k * 9 + 1)
  have f2 := free_of HCU.out (k * 9 + 2)
  have f3 := free_of HCU.out (k * 9 + 3)
  have f4 := free_of HCU.out (k * 9 + 4)
  have f5 := free_of HCU.out (k * 9 + 5)
  have f6 := free_of HCU.out (k * 9 + 6)
  have f7 := free_of HCU.out (k * 9 + 7)
  have f8 := free_of HCU.out (k * 9 + 8)
  clear hx
  go_enter Tryz.func43, Tryz.ntmps43
  go_wp2_with fail
  obtain ⟨cur3, o1, o2, o3⟩ := over_heap (w := w) (o := k * 9) HCU.out (.int .i64 0) (.int .i64 0) (.int .i64 0) (.int .i64 0) (.int .i64 0) (.int .i64 0) (.string ⟨#[]⟩) (.int .i64 0) (.slice none 0 0)
  have oK := over_kept w g (k * 9) (.int .i64 0) (.int .i64 0) (.int .i64 0) (.int .i64 0) (.int .i64 0) (.int .i64 0) (.string ⟨#[]⟩) (.int .i64 0) (.slice none 0 0)
  have oS : (World.setCell (World.setCell (World.setCell (World.setCell (World.setCell (World.setCell (World.setCell (World.setCell (World.setCell (w) ⟨g, k * 9, none⟩ (.int .i64 0)) ⟨g, k * 9 + 1, none⟩ (.int .i64 0)) ⟨g, k * 9 + 2, none⟩ (.int .i64 0)) ⟨g, k * 9 + 3, none⟩ (.int .i64 0)) ⟨g, k * 9 + 4, none⟩ (.int .i64 0)) ⟨g, k * 9 + 5, none⟩ (.int .i64 0)) ⟨g, k * 9 + 6, none⟩ (.string ⟨#[]⟩)) ⟨g, k * 9 + 7, none⟩ (.int .i64 0)) ⟨g, k * 9 + 8, none⟩ (.slice none 0 0)).heap.size = w.heap.size := by simp [World.setCell]
  generalize (World.setCell (World.setCell (World.setCell (World.setCell (World.setCell (World.setCell (World.setCell (World.setCell (World.setCell (w) ⟨g, k * 9, none⟩ (.int .i64 0)) ⟨g, k * 9 + 1, none⟩ (.int .i64 0)) ⟨g, k * 9 + 2, none⟩ (.int .i64 0)) ⟨g, k * 9 + 3, none⟩ (.int .i64 0)) ⟨g, k * 9 + 4, none⟩ (.int .i64 0)) ⟨g, k * 9 + 5, none⟩ (.int .i64 0)) ⟨g, k * 9 + 6, none⟩ (.string ⟨#[]⟩)) ⟨g, k * 9 + 7, none⟩ (.int .i64 0)) ⟨g, k * 9 + 8, none⟩ (.slice none 0 0)) = Wo at *
  obtain ⟨p1, p2⟩ := two_blocks Wo #[.int .i64 0, .int .i64 0, .int .i64 0, .int .i64 0, .int .i64 0, .int .i64 0, .string ⟨#[]⟩, .int .i64 0, .slice none 0 0] #[.int .i64 k0, .int .i64 un, .int .i64 ep, .int .i64 pg, .int .i64 sz, .int .i64 nn, .string s, .int .i64 pe, .slice ao L.length cap] 35 35
  rw [oS] at p1 p2
  have b3 : Below Wo.heap.size Wo ((Wo.alloc (.cells #[.int .i64 0, .int .i64 0, .int .i64 0, .int .i64 0, .int .i64 0, .int .i64 0, .string ⟨#[]⟩, .int .i64 0, .slice none 0 0] 35)).alloc (.cells #[.int .i64 k0, .int .i64 un, .int .i64 ep, .int .i64 pg, .int .i64 sz, .int .i64 nn, .string s, .int .i64 pe, .slice ao L.length cap] 35)) := ((Below.refl _ _).alloc (Nat.le_refl _) _).alloc (by simp) _
  have HB2 : Below w.heap.size w ((w.alloc (.cells #[.int .i64 0, .int .i64 0, .int .i64 0, .int .i64 0, .int .i64 0, .int .i64 0, .string ⟨#[]⟩, .int .i64 0, .slice none 0 0] 35)).alloc (.cells #[.int .i64 k0, .int .i64 un, .int .i64 ep, .int .i64 pg, .int .i64 sz, .int .i64 nn, .string s, .int .i64 pe, .slice ao L.length cap] 35)) := ((Below.refl _ _).alloc (Nat.le_refl _) _).alloc (by simp) _
  have HK3 := (oK.both oS (.cells #[.int .i64 0, .int .i64 0, .int .i64 0, .int .i64 0, .int .i64 0, .int .i64 0, .string ⟨#[]⟩, .int .i64 0, .slice none 0 0] 35)).both (by simp [oS]) (.cells #[.int .i64 k0, .int .i64 un, .int .i64 ep, .int .i64 pg, .int .i64 sz, .int .i64 nn, .string s, .int .i64 pe, .slice ao L.length cap] 35)
  have HG3 := below_heap b3 o1
  have HH3 := below_heap b3 (oK.heap (b := b) (fun e => hgb e.symm) HC.out)
  have s2 : ((w.alloc (.cells #[.int .i64 0, .int .i64 0, .int .i64 0, .int .i64 0, .int .i64 0, .int .i64 0, .string ⟨#[]⟩, .int .i64 0, .slice none 0 0] 35)).alloc (.cells #[.int .i64 k0, .int .i64 un, .int .i64 ep, .int .i64 pg, .int .i64 sz, .int .i64 nn, .string s, .int .i64 pe, .slice ao L.length cap] 35)).heap.size = w.heap.size + 2 := by simp
  have s3 : ((Wo.alloc (.cells #[.int .i64 0, .int .i64 0, .int .i64 0, .int .i64 0, .int .i64 0, .int .i64 0, .string ⟨#[]⟩, .int .i64 0, .slice none 0 0] 35)).alloc (.cells #[.int .i64 k0, .int .i64 un, .int .i64 ep, .int .i64 pg, .int .i64 sz, .int .i64 nn, .string s, .int .i64 pe, .slice ao L.length cap] 35)).heap.size = w.heap.size + 2 := by simp [oS]
  generalize hW2 : ((w.alloc (.cells #[.int .i64 0, .int .i64 0, .int .i64 0, .int .i64 0, .int .i64 0, .int .i64 0, .string ⟨#[]⟩, .int .i64 0, .slice none 0 0] 35)).alloc (.cells #[.int .i64 k0, .int .i64 un, .int .i64 ep, .int .i64 pg, .int .i64 sz, .int .i64 nn, .string s, .int .i64 pe, .slice ao L.length cap] 35)) = W2 at *
  generalize hW3 : ((Wo.alloc (.cells #[.int .i64 0, .int .i64 0, .int .i64 0, .int .i64 0, .int .i64 0, .int .i64 0, .string ⟨#[]⟩, .int .i64 0, .slice none 0 0] 35)).alloc (.cells #[.int .i64 k0, .int .i64 un, .int .i64 ep, .int .i64 pg, .int .i64 sz, .int .i64 nn, .string s, .int .i64 pe, .slice ao L.length cap] 35)) = W3 at *
  have HTAIL := Lib.hid (HTL.out w W3 cur3 HCU.out HG3 o3)
  have HROW := Lib.hid (show HR W3.drew (.slice (some ⟨g, 0, none⟩) k k) (l.take k) from .inr ⟨g, cur3, by rw [HLT.out], HG3, by rw [HLT.out, o2]; omega, by rw [HLT.out]; exact HHD.out cur3 o3⟩)
  have HP3 := Lib.hid p1
  have HQ3 := Lib.hid p2
  have HK4 := Lib.hid HK3
  have HB4 := Lib.hid HB2
  have HH4 := Lib.hid HH3
  have hb3 : b < W3.heap.size := by omega
  obtain ⟨_, d1, _, df⟩ := two_cells HH3
  clear hW2 hW3 p1 p2 b3 HK3 HB2 HG3 HH3 oK oS o1 o2 o3 x0 x1 x2 x3 x4 x5 x6 x7 x8 f0 f1 f2 f3 f4 f5 f6 f7 f8 c1 hlt HHD HTL HYY HC HCU hsz
  by_cases hlast : k + 1 = l.length
  · obtain ⟨qa, hqa⟩ : ∃ qa : Addr, (if vc = k + 1 then some (⟨g, 0, none⟩ : Addr) else some ⟨g, (k + 1) * 9, none⟩) = some qa := by
      by_cases e : vc = k + 1
      · exact ⟨_, if_pos e⟩
      · exact ⟨_, if_neg e⟩
    have hm0 := Lib.hid (show l.length - (k + 1) = 0 from by omega)
    have HL := Lib.hid (show Leaves (HMz NG [⟨k0, un, ep, pg, sz, nn, s, pe, L, ao, cap⟩] b nb) G W2 (W3.setCell ⟨b, 1, none⟩ (.slice (some ⟨g, 0, none⟩) k k)).drew ⟨h.n, lessK h.held k⟩ from HLY.out W2 W3.drew (.slice (some ⟨g, 0, none⟩) k k) HB4.out HK4.out.drew (by rw [← HDL.out, List.drop_eq_nil_of_le (by omega), List.append_nil]; exact HROW.out) (fun j e => .inl e))
    clear hlast
    have HP5 := Lib.hid ((((Kept.refl (fun j => j ≠ b) W3).setCell (p := ⟨b, 1, none⟩) (fun h => h rfl) (Value.slice (some ⟨g, 0, none⟩) k k)).drew).heap (b := w.heap.size) (by omega) HP3.out)
    have HQ5 := Lib.hid ((((Kept.refl (fun j => j ≠ b) W3).setCell (p := ⟨b, 1, none⟩) (fun h => h rfl) (Value.slice (some ⟨g, 0, none⟩) k k)).drew).heap (b := w.heap.size + 1) (by omega) HQ3.out)
    go_region_law (first | (refine step_app_none rfl (.tmp 44) (.tmp 51) rfl (ao := some ⟨g, 0, none⟩) (n := k) (c := k) rfl (Nat.le_refl _) (ad := qa) (m := l.length - (k + 1)) (c2 := vc - (k + 1)) rfl hm0.out ?_))
    all_goals
      generalize hW5 : World.drew (World.setCell _ _ _) = W5 at *
      clear hW5
      obtain ⟨⟨y0, y1, y2, y3, y4, y5, y6, y7, y8⟩, z0, z1, z2, z3, z4, z5, z6, z7, z8⟩ := nine_of HP5.out
      obtain ⟨⟨t0, t1, t2, t3, t4, t5, t6, t7, t8⟩, _⟩ := nine_of HQ5.out
      have l0 := lt_of_block HP5.out
      have l1 := lt_of_block HQ5.out
      go_wp2_with fail
      exact ask_ret2 (x := ⟨k0, un, ep, pg, sz, nn, s, pe, L, ao, cap⟩) (c := true) rfl (nine_put HP5.out (.int .i64 k0) (.int .i64 un) (.int .i64 ep) (.int .i64 pg) (.int .i64 sz) (.int .i64 nn) (.string s) (.int .i64 pe) (.slice ao L.length cap)) rfl rfl rfl ⟨_, rfl, HPL.out, HBX.out W2 W5 _ HB4.out HL.out (by omega) (nine_set W5 w.heap.size (.int .i64 k0) (.int .i64 un) (.int .i64 ep) (.int .i64 pg) (.int .i64 sz) (.int .i64 nn) (.string s) (.int .i64 pe) (.slice ao L.length cap))⟩
  · have hne : ¬ vc = k + 1 := by omega
    go_region_law (first
      | (refine step_app_held rfl (.tmp 44) (.tmp 51) rfl rfl HROW.out (N := l.drop (k + 1)) (m := l.length - (k + 1)) (ad := ⟨g, (k + 1) * 9, none⟩) (cap := vc - (k + 1)) HLD.out rfl (Row.keep HTAIL.out (Kept.refl (fun _ => True) W3).drew (fun _ _ => trivial)) (by omega) (by omega) (by rw [HLT.out]; omega) ?_; intro v2 w2 hI hg2 hv2; rw [HDL.out] at hI; obtain ⟨a2, n2, hw2, _, _, _, _, _, _⟩ := hI.form ask_rows; subst hw2; have HL := Lib.hid (HLY.out W2 w2 _ HB4.out (HK4.out.drew.grown hg2 (fun j e h => h (Option.some.inj e).symm)) (.inl hI) (fun j e => (hv2 j e).imp id (fun h => by have h5 : W3.heap.size ≤ j := h; omega))); have K24 : Kept (fun j => j ≠ g) W3 w2 := ((Kept.refl _ W3).drew).grown hg2 (fun j e h => h (Option.some.inj e).symm); have HB5 := Lib.hid (K24.heap (b := b) (fun e => hgb e.symm) HH4.out); have qc := (two_cells HB5.out).2.1; have qf := (two_cells HB5.out).2.2.2; have qr := lt_of_block HB5.out; have HP5 := Lib.hid (((Kept.refl (fun j => j ≠ b) w2).setCell (p := ⟨b, 1, none⟩) (fun h => h rfl) (Value.slice a2 (lessK l k).length n2)).heap (b := w.heap.size) (by omega) (K24.heap (b := w.heap.size) (by omega) HP3.out)); have HQ5 := Lib.hid (((Kept.refl (fun j => j ≠ b) w2).setCell (p := ⟨b, 1, none⟩) (fun h => h rfl) (Value.slice a2 (lessK l k).length n2)).heap (b := w.heap.size + 1) (by omega) (K24.heap (b := w.heap.size + 1) (by omega) HQ3.out)); clear K24; clear hI hg2 hv2))
    all_goals
      generalize hW5 : World.setCell _ _ _ = W5 at *
      clear hW5
      obtain ⟨⟨y0, y1, y2, y3, y4, y5, y6, y7, y8⟩, z0, z1, z2, z3, z4, z5, z6, z7, z8⟩ := nine_of HP5.out
      obtain ⟨⟨t0, t1, t2, t3, t4, t5, t6, t7, t8⟩, _⟩ := nine_of HQ5.out
      have l0 := lt_of_block HP5.out
      have l1 := lt_of_block HQ5.out
      go_wp2_with fail
      exact ask_ret2 (x := ⟨k0, un, ep, pg, sz, nn, s, pe, L, ao, cap⟩) (c := true) rfl (nine_put HP5.out (.int .i64 k0) (.int .i64 un) (.int .i64 ep) (.int .i64 pg) (.int .i64 sz) (.int .i64 nn) (.string s) (.int .i64 pe) (.slice ao L.length cap)) rfl rfl rfl ⟨_, rfl, HPL.out, HBX.out W2 W5 _ HB4.out HL.out (by omega) (nine_set W5 w.heap.size (.int .i64 k0) (.int .i64 un) (.int .i64 ep) (.int .i64 pg) (.int .i64 sz) (.int .i64 nn) (.string s) (.int .i64 pe) (.slice ao L.length cap))⟩
end
end Go.Proofs.YtimjlfkdbkafeaaGreat
namespace Go.Proofs.YtimjlfkdbkafeaaGreat
set_option linter.unusedVariables false
open Go.RowKit
theorem rpcSays : RpcSays UM OM LM (RM UM OM LM) := rpcSays_of ⟨unitSays, orderSays, laySays⟩ (fun w a h => do_nil w a h)
end Go.Proofs.YtimjlfkdbkafeaaGreat
namespace Go.Proofs.YtimjlfkdbkafeaaGreat
set_option linter.unusedVariables false
open Go.RowKit
set_option maxRecDepth 20000
/-- the appends A 0 .. A (m - 1), the i-th of them at block B i -/
def MA (AG : Nat → (Nat → Prop) → World → Ap → Prop) (B : Nat → Nat) (m : Nat) (G : Nat → Prop) (w : World) (A : Nat → Ap) : Prop := BundG m (fun i F W => AG (B i) F W (A i)) G w
section
variable {AG : Nat → (Nat → Prop) → World → Ap → Prop} {B : Nat → Nat} {m i : Nat}
variable {α : Type} {T : (Nat → Prop) → World → α → Prop} {X : Nat → Prop} {w w' : World} {A : Nat → Ap} {t : α} {P : Program} {fn : FuncId} {args : Array Value}
theorem ma_part (AS : AppSays AG) (A : Nat → Ap) : ∀ i, i < m → Part (fun F W => AG (B i) F W (A i)) := fun i _ => ⟨fun h => (AS.thing (B i)).lt h, fun h hk hS => (AS.thing (B i)).keep h hk hS⟩
theorem ma_thing (AS : AppSays AG) (B : Nat → Nat) (m : Nat) : Thing (MA AG B m) where
  lt := fun h => BundG.lt (ma_part AS _) h
  keep := fun h hk hS => BundG.keep (ma_part AS _) h hk hS
/-- a call on one of them -/
theorem ma_one (AS : AppSays AG) {R : Ending → Prop} {a' : Ap} (hi : i < m) {G : Nat → Prop} (h : MA AG B m G w A) (hc : ∀ F : Nat → Prop, AG (B i) F w (A i) → Calls P fn args w fun e w' => R e ∧ Leaves (AG (B i)) F w w' a') :
    Calls P fn args w fun e w' => R e ∧ Leaves (MA AG B m) G w w' (putA A i a') := by
  obtain ⟨F, hF, _, hN⟩ := BundG.use (ma_part AS A) h hi
  refine (hc F hF).mono ?_
  rintro e w' ⟨he, hl⟩
  refine ⟨he, hN (AG (B i)) (MA AG B m) w' a' (putA A i a') (fun G' W hb => hb.same (fun j hj F W h => ?_)) hl⟩
  unfold swapP at h
  by_cases e : j = i
  · subst e
    simp only [if_true] at h
    show AG (B j) F W (putA A j a' j)
    rw [putA_at]
    exact h
  · simp only [e, if_false] at h
    show AG (B j) F W (putA A i a' j)
    rw [putA_off A a' e]
    exact h
theorem putA_same (A : Nat → Ap) (i : Nat) : putA A i (A i) = A := by
  funext j
  unfold putA
  split
  · next e => rw [e]
  · rfl
theorem ma_ask (AS : AppSays AG) (hT : Thing T) (hi : i < m) (hs : Side T (MA AG B m) X w t A) :
    Calls Tryz.prog 10 #[.pointer (some ⟨B i, 0, none⟩)] w fun e w' => ∃ (kd un ep pg : Int) (s : ByteArray), (A i).ask = akN kd un ep pg s ∧ e = .returned (.tuple #[.agg #[.int .i64 kd, .int .i64 un, .int .i64 ep, .int .i64 pg, .int .i64 0, .int .i64 0, .string s, .int .i64 0, .slice none 0 0], .bool (A i).asks]) ∧ Side T (MA AG B m) X w' t A ∧ Kept X w w' := by
  refine (side_right (R := fun e => e = .returned (.tuple #[askV (A i).ask, .bool (A i).asks])) (b' := putA A i (A i)) hT (ma_thing AS B m) hs (fun G hG => ma_one AS hi hG (fun F hF => AS.ask (B i) F w (A i) hF))).mono ?_
  rintro e w' ⟨he, h1, h2⟩
  rw [putA_same] at h1
  exact ⟨_, _, _, _, _, ask_akN (A i), by rw [he, ask_akN (A i)]; rfl, h1, h2⟩
theorem ma_hear (AS : AppSays AG) (hT : Thing T) (hi : i < m) (hs : Side T (MA AG B m) X w t A) {xc xn xm xz xe : Int} {xd : ByteArray} {vo : Option Addr} {vc : Nat} {c : Bool} :
    Calls Tryz.prog 11 #[.pointer (some ⟨B i, 0, none⟩), .agg #[.int .i64 xc, .int .i64 xn, .string xd, .int .i64 0, .slice vo 0 vc, .int .i64 xm, .int .i64 xz, .int .i64 xe], .bool c] w fun e w' => e = .returned (.tuple #[]) ∧ Side T (MA AG B m) X w' t (putA A i ((A i).hear ⟨xc, xn, xd, 0, [], xm, xz, xe⟩ c)) ∧ Kept X w w' :=
  side_right (R := fun e => e = .returned (.tuple #[])) hT (ma_thing AS B m) hs (fun G hG => ma_one AS hi hG (fun F hF => AS.hear (B i) F w (A i) ⟨xc, xn, xd, 0, [], xm, xz, xe⟩ vo vc c hF few_nil (i64w_small (x := 0) (by omega)) (fun W _ => CL.nil _ _)))
theorem ma_over (AS : AppSays AG) (hT : Thing T) (hi : i < m) (hs : Side T (MA AG B m) X w t A) :
    Calls Tryz.prog 14 #[.pointer (some ⟨B i, 0, none⟩)] w fun e w' => e = .returned (.tuple #[.int .i64 (A i).overA, .int .i64 (A i).overE, .bool (A i).overB]) ∧ Side T (MA AG B m) X w' t A ∧ Below w.heap.size w w' := by
  obtain ⟨_, F, G, _, hG, _⟩ := id hs
  obtain ⟨F2, hF2, _⟩ := BundG.look hG hi
  exact (AS.over (B i) F2 w (A i) hF2).mono fun e w' ⟨he, hb⟩ => ⟨he, hs.below hT (ma_thing AS B m) hb, hb⟩
/-- none of them yet -/
theorem ma_start (AS : AppSays AG) (B : Nat → Nat) (A : Nat → Ap) (hs : Solo T X w t) : Side T (MA AG B 0) X w t A := by
  obtain ⟨h1, F, h2, h3⟩ := hs
  exact ⟨h1, F, fun _ => False, h2, ⟨fun _ _ => False, fun i hi => absurd hi (Nat.not_lt_zero i), fun i j hi => absurd hi (Nat.not_lt_zero i), fun k => ⟨False.elim, fun ⟨i, hi, _⟩ => absurd hi (Nat.not_lt_zero i)⟩⟩, fun k hk => ⟨h3 k hk, id⟩, fun k _ => id⟩
/-- one more is made -/
theorem ma_new (AS : AppSays AG) (hT : Thing T) (hs : Side T (MA AG B m) X w t A) {ep : Int} {ao : Option Addr} {cap : Nat} {L : List (List Int)} {rec_ : ByteArray} (hC : CL w ao L) (hf : fewL L) (hn : ao = none → cap = 0) (hc : L.length ≤ cap) (he : i64w ep) (hr : rec_.size ≤ 1000000) (hA : A m = newAp ep L rec_) :
    Calls Tryz.prog 9 #[.agg #[.int .i64 ep, .slice ao L.length cap], .string rec_] w fun e w' => ∃ ba : Nat, e = .returned (.pointer (some ⟨ba, 0, none⟩)) ∧ Side T (MA AG (fun j => if j = m then ba else B j) (m + 1)) X w' t A ∧ Below w.heap.size w w' := by
  refine (AS.new ep ao cap L rec_ w hC hf hn hc he hr).mono ?_
  rintro e w' ⟨ba, G9, h1, h2, h3, h4⟩
  refine ⟨ba, h1, ?_, h4⟩
  obtain ⟨k1, F, G, k2, ⟨V, v1, v2, v3⟩, k4, k5⟩ := hs
  have hlt := fun j (hj : j < m) k (hk : V j k) => (AS.thing (B j)).lt (v1 j hj) k hk
  have hkp : Kept (fun _ => True) w w' := Kept.ofBelow h4 _
  refine ⟨fun k hk => Nat.lt_of_lt_of_le (k1 k hk) h4.size, F, fun k => G k ∨ G9 k, hT.keep k2 hkp (fun _ _ => trivial), ⟨fun j => if j = m then G9 else V j, fun j hj => ?_, fun i j hi hj hij k hk1 hk2 => ?_, fun k => ⟨fun hk => ?_, fun hk => ?_⟩⟩, fun k hk => ⟨(k4 k hk).1, fun hg => ?_⟩, fun k hk hg => ?_⟩
  · by_cases e : j = m
    · subst e
      simp only [if_true]
      rw [hA]
      exact h2
    · simp only [e, if_false]
      exact (AS.thing (B j)).keep (v1 j (by omega)) hkp (fun _ _ => trivial)
  · by_cases e1 : i = m
    · have e2 : j ≠ m := fun e => hij (e1.trans e.symm)
      simp only [e1, if_true] at hk1
      simp only [e2, if_false] at hk2
      have := hlt j (by omega) k hk2
      have := h3 k hk1
      omega
    · simp only [e1, if_false] at hk1
      by_cases e2 : j = m
      · simp only [e2, if_true] at hk2
        have := hlt i (by omega) k hk1
        have := h3 k hk2
        omega
      · simp only [e2, if_false] at hk2
        exact v2 i j (by omega) (by omega) hij k hk1 hk2
  · rcases hk with hk | hk
    · obtain ⟨i, hi, hv⟩ := (v3 k).1 hk
      exact ⟨i, by omega, by simp only [show ¬ i = m by omega, if_false]; exact hv⟩
    · exact ⟨m, by omega, by simp only [if_true]; exact hk⟩
  · obtain ⟨i, hi, hv⟩ := hk
    by_cases e : i = m
    · simp only [e, if_true] at hv
      exact .inr hv
    · simp only [e, if_false] at hv
      exact .inl ((v3 k).2 ⟨i, by omega, hv⟩)
  · rcases hg with hg | hg
    · exact (k4 k hk).2 hg
    · have := k1 k hk; have := h3 k hg; omega
  · rcases hg with hg | hg
    · exact k5 k hk hg
    · have := hT.lt k2 k hk; have := h3 k hg; omega
end
end Go.Proofs.YtimjlfkdbkafeaaGreat
