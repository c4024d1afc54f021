/- The program's own take, where there is a k-th. Conditions: as each statement says. (Written by gen/genhmpf.py.) The program's nodes keep all that the laws of all nodes ask: units, sequencer, layout are the program's own. No conditions. The document's own hand, of any question and fate; the program's and the document's hand side by side, step by step. Conditions: as each statement says; of the program's functions what HandSays says. -/
import Derived.Test.YtkicjgaejieinaaGreatG27b
import Derived.Deep.AppendSrc
import Derived.Deep.Upon
import Derived.Deep.CutRange
import Derived.Deep.CutBlock
import Derived.Test.YtkicjgaejieinaaGreatG20a
import Derived.Test.YtkicjgaejieinaaGreatG13a
import Derived.Test.YtkicjgaejieinaaGreatG24b
import Derived.Test.YtkicjgaejieinaaGreatG27a
import Derived.Test.YtkicjgaejieinaaGreatG25a
import Derived.Test.YtkicjgaejieinaaGreatG26b
import Derived.Test.YtkicjgaejieinaaGreatG24a
import Derived.Test.YtkicjgaejieinaaGreatG21a
set_option linter.unusedVariables false
namespace Go.Proofs.YtkicjgaejieinaaGreat
set_option linter.unusedVariables false
open Go.RowKit
set_option maxRecDepth 20000
/-- none is appended -/
theorem step_app_none {ops : Array Oper} {o : Oper} {a : Act} {w : World} {K' : Act → World → Prop} {Q : Exit → Act → World → Prop} {E : Prop} (hgd : o.guard = none) (s x : Operand)
    (ho : o.op = Op.call { callee := Callee.builtin Builtin.append, args := #[s, x], argTypes := #[46, 46] }) {ao : Option Addr} {n c : Nat} (hs : a.eval s = .slice ao n c) (hc : n ≤ c) {ad : Addr} {m c2 : Nat} (hx : a.eval x = .slice (some ad) m c2) (hm : m = 0)
    (hQ : K' (a.put o.dst (.slice ao n c)) w) : if Region.wanted o (yielded ops a.tmps) = true then Oper.wp Tryz.prog o a w K' Q else E := by
  have hw : Region.wanted o (yielded ops a.tmps) = true := by simp [Region.wanted, hgd]
  rw [if_pos hw]
  subst hm
  obtain ⟨i0, z, bytes, hi, hz0, hz1, hz2, hz3, hz4⟩ := ask_rows.info
  have hr := run_append_nothing (P := Tryz.prog) w 46 46 o.type 34 i0 ask_rows.under hi ao n c hc (.slice (some ad) 0 c2) (Src.ofSlice w ask_rows.under ad 0 c2 [] (by simp) (fun j u hj => by cases hj) (fun u hu => by cases hu))
  unfold Oper.wp
  simp [execOp, ho, resolve, invoke, builtin, hs, hx, hr, Result.andThen]
  exact hQ
section
variable {NG : Nat → (Nat → Prop) → World → Nd → Prop} {Z : List Ak} {b nb : Nat} {G : Nat → Prop} {w : World} {h : Hd}
/-- the same is made in both worlds -/
theorem Kept.both {S : Nat → Prop} {w w' : World} (h : Kept S w w') (hs : w'.heap.size = w.heap.size) (x : Obj) : Kept S (w.alloc x) (w'.alloc x) := by
  refine ⟨h.os, h.tape, h.output, by simp [hs], fun k hk hl => ?_⟩
  by_cases e : k = w.heap.size
  · subst e
    rw [heap_alloc_new w x]
    have := heap_alloc_new w' x
    rwa [hs] at this
  · have hl2 : k < w.heap.size := by simp at hl; omega
    rw [heap_alloc_old w x hl2, heap_alloc_old w' x (by omega)]
    exact h.block k hk hl2
/-- the result lies in a box that the call made -/
theorem leaves_box {α : Type} {T : (Nat → Prop) → World → α → Prop} {G : Nat → Prop} {w W2 w5 w6 : World} {s : α} (hT : Thing T) (hlt : ∀ k, G k → k < w.heap.size) (hb : Below w.heap.size w W2) (h : Leaves T G W2 w5 s) {q : Nat} (hq : w.heap.size ≤ q) (hq2 : q < W2.heap.size) (hk : Kept (fun k => k ≠ q) w5 w6) : Leaves T G w w6 s := by
  obtain ⟨G', t1, k1, s1⟩ := h
  have K5 : Kept (fun k => ¬ G k) w w5 := (Kept.ofBelow hb _).trans k1
  refine ⟨G', hT.keep t1 hk (fun k hg e => ?_), ⟨hk.os.trans K5.os, hk.tape.trans K5.tape, hk.output.trans K5.output, Nat.le_trans K5.size hk.size, fun k hg hl => ?_⟩, fun k hg => ?_⟩
  · rcases s1 k hg with h | h
    · have := hlt k h; omega
    · omega
  · rw [hk.block k (by omega) (Nat.lt_of_lt_of_le hl K5.size)]
    exact K5.block k hg hl
  · exact (s1 k hg).imp id (fun h => Nat.le_trans hb.size h)
set_option maxHeartbeats 6400000 in
theorem take_yes (hN : ∀ b, Thing (NG b)) (b nb : Nat) (G : Nat → Prop) (w : World) (h : Hd) (k : Nat) (hh : HMz NG [] b nb G w h) (hk : k < h.held.length) :
    Calls Tryz.prog 31 #[.pointer (some ⟨b, 0, none⟩), .int .i64 k] w fun e w' => ∃ a : Ak, e = .returned (.tuple #[askV a, .bool true]) ∧ a.plain = h.held[k] ∧ Leaves (HMz NG [a] b nb) G w w' ⟨h.n, lessK h.held k⟩ := by
  have hlt := (hmz_thing hN [] b nb).lt hh
  have hbs := hh.small
  have h64 := hh.1
  obtain ⟨v, l, hc, hR, hm, hok, hGv, hlay⟩ := hh.opened hN
  have hkl : k < l.length := by rw [← hm, List.length_map] at hk; exact hk
  have hl64 : l.length ≤ 64 := by rw [← hm, List.length_map] at h64; exact h64
  have epl : (l[k]).plain = h.held[k] := by simp only [← hm, List.getElem_map]
  have HLK := Lib.hid (show (lessK l k).map Ak.plain = lessK h.held k from by rw [plain_less, hm])
  obtain ⟨vo, vc, hv, _, hcap, hno, _, hblk⟩ := hR.form
  obtain ⟨va, rfl⟩ : ∃ va, vo = some va := by
    cases vo with
    | none => have := hno rfl; omega
    | some a => exact ⟨a, rfl⟩
  obtain ⟨eva, cur, hcur, hsz, htk⟩ := hblk va rfl
  obtain ⟨g, rfl⟩ : ∃ g, va = ⟨g, 0, none⟩ := ⟨va.block, eva⟩
  subst hv
  have hcur' : w.heap[g]? = some (.cells cur 34 (0, 0)) := hcur
  obtain ⟨hgG, hgb⟩ := hGv g rfl
  have hgl := hlt g hgG
  -- what lies in the hand, where the row stood over which the k-th is wiped
  have HLY := Lib.hid (fun (W w4 : World) (v4 : Value) (hW : Below w.heap.size w W) (hk4 : Kept (fun j => j ≠ g) W w4) (hR4 : HR w4 v4 (lessK l k)) (hv4 : ∀ j, v4.ownBlock = some j → some g = some j ∨ W.heap.size ≤ j) =>
    show Leaves (HMz NG [l[k]] b nb) G W (w4.setCell ⟨b, 1, none⟩ v4) ⟨h.n, lessK h.held k⟩ from by
      rw [← HLK.out]
      refine hlay W hW w4 v4 (lessK l k) [l[k]] (fun _ => False) (hk4.mono (fun j hj e => hj (by rw [e]; rfl))) hR4 hv4 (fun j hj => hj.elim) (by have := lessK_length hkl; omega) (fun x hx => ?_)
      rcases hx with hx | hx
      · exact .inl (lessK_mem hx)
      · rw [List.mem_singleton.1 hx]
        exact .inl (List.getElem_mem hkl))
  have HBX := Lib.hid (fun (W w5 w6 : World) (hb : Below w.heap.size w W) (hl : Leaves (HMz NG [l[k]] b nb) G W w5 ⟨h.n, lessK h.held k⟩) (hq : w.heap.size < W.heap.size) (hk6 : Kept (fun j => j ≠ w.heap.size) w5 w6) => leaves_box (hmz_thing hN [l[k]] b nb) hlt hb hl (Nat.le_refl _) hq hk6)
  obtain ⟨_, c1, _, _⟩ := two_cells hc
  have hx := fun j hj => row_at hcur' htk hkl j hj
  have HC := Lib.hid hc
  have HCU := Lib.hid hcur'
  have HHD := Lib.hid (fun cur2 he => over_head (cur2 := cur2) htk hkl he)
  have HTL := Lib.hid (fun W W' cur2 h1 h2 he => over_tail (w := W) (w' := W') (g := g) (cur2 := cur2) (k := k) (t := 34) h1 h2 htk he)
  have HYY := Lib.hid (fun W h1 j hj => row_at (w := W) (g := g) (t := 34) h1 htk hkl j hj)
  have HLT := Lib.hid (show (l.take k).length = k from by rw [List.length_take]; omega)
  have HLD := Lib.hid (show (l.drop (k + 1)).length = l.length - (k + 1) from List.length_drop)
  have HDL := Lib.hid (show l.take k ++ l.drop (k + 1) = lessK l k from rfl)
  have HPL := Lib.hid epl
  clear hh hc hR hm hok hGv hlay hcur hno hblk h64 eva epl hcur' htk HLK
  generalize l[k] = a at *
  obtain ⟨k0, un, ep, pg, sz, nn, s, pe, L, ao, cap⟩ := a
  have x0 := hx 0 (by omega)
  have x1 := hx 1 (by omega)
  have x2 := hx 2 (by omega)
  have x3 := hx 3 (by omega)
  have x4 := hx 4 (by omega)
  have x5 := hx 5 (by omega)
  have x6 := hx 6 (by omega)
  have x7 := hx 7 (by omega)
  have x8 := hx 8 (by omega)
  simp only [askC, Nat.add_zero, List.getElem?_cons_zero, List.getElem?_cons_succ] at x0 x1 x2 x3 x4 x5 x6 x7 x8
  have i0 : IntKind.i64.wrap ((k : Int) + 1) = (k : Int) + 1 := IntWalk.i64_in _ (by omega)
  have i9 : (0 : Int) ≤ (k : Int) + 1 := by omega
  have i1 : (0 : Int) ≤ (k : Int) := by omega
  have i2 : (k : Int) < (l.length : Int) := by omega
  have i3 : (k : Int) ≤ (vc : Int) := by omega
  have i4 : (l.length : Int) ≤ (vc : Int) := by omega
  have i5 : (k : Int) + 1 ≤ (l.length : Int) := by omega
  have i6 : (l.length : Int) ≤ 64 := by omega
  have i7 : l.length ≤ vc := by omega
  have f0 := free_of HCU.out (k * 9)
  have f1 := free_of HCU.out (k * 9 + 1)
  have f2 := free_of HCU.out (k * 9 + 2)
  have f3 := free_of HCU.out (k * 9 + 3)
  have f4 := free_of HCU.out (k * 9 + 4)
  have f5 := free_of HCU.out (k * 9 + 5)
  have f6 := free_of HCU.out (k * 9 + 6)
  have f7 := free_of HCU.out (k * 9 + 7)
  have f8 := free_of HCU.out (k * 9 + 8)
  clear hx
  go_enter Tryz.func31, Tryz.ntmps31
  go_wp2_with fail
  obtain ⟨cur3, o1, o2, o3⟩ := over_heap (w := w) (o := k * 9) HCU.out (.int .i64 0) (.int .i64 0) (.int .i64 0) (.int .i64 0) (.int .i64 0) (.int .i64 0) (.string ⟨#[]⟩) (.int .i64 0) (.slice none 0 0)
  have oK := over_kept w g (k * 9) (.int .i64 0) (.int .i64 0) (.int .i64 0) (.int .i64 0) (.int .i64 0) (.int .i64 0) (.string ⟨#[]⟩) (.int .i64 0) (.slice none 0 0)
  have oS : (World.setCell (World.setCell (World.setCell (World.setCell (World.setCell (World.setCell (World.setCell (World.setCell (World.setCell (w) ⟨g, k * 9, none⟩ (.int .i64 0)) ⟨g, k * 9 + 1, none⟩ (.int .i64 0)) ⟨g, k * 9 + 2, none⟩ (.int .i64 0)) ⟨g, k * 9 + 3, none⟩ (.int .i64 0)) ⟨g, k * 9 + 4, none⟩ (.int .i64 0)) ⟨g, k * 9 + 5, none⟩ (.int .i64 0)) ⟨g, k * 9 + 6, none⟩ (.string ⟨#[]⟩)) ⟨g, k * 9 + 7, none⟩ (.int .i64 0)) ⟨g, k * 9 + 8, none⟩ (.slice none 0 0)).heap.size = w.heap.size := by simp [World.setCell]
  generalize (World.setCell (World.setCell (World.setCell (World.setCell (World.setCell (World.setCell (World.setCell (World.setCell (World.setCell (w) ⟨g, k * 9, none⟩ (.int .i64 0)) ⟨g, k * 9 + 1, none⟩ (.int .i64 0)) ⟨g, k * 9 + 2, none⟩ (.int .i64 0)) ⟨g, k * 9 + 3, none⟩ (.int .i64 0)) ⟨g, k * 9 + 4, none⟩ (.int .i64 0)) ⟨g, k * 9 + 5, none⟩ (.int .i64 0)) ⟨g, k * 9 + 6, none⟩ (.string ⟨#[]⟩)) ⟨g, k * 9 + 7, none⟩ (.int .i64 0)) ⟨g, k * 9 + 8, none⟩ (.slice none 0 0)) = Wo at *
  obtain ⟨p1, p2⟩ := two_blocks Wo #[.int .i64 0, .int .i64 0, .int .i64 0, .int .i64 0, .int .i64 0, .int .i64 0, .string ⟨#[]⟩, .int .i64 0, .slice none 0 0] #[.int .i64 k0, .int .i64 un, .int .i64 ep, .int .i64 pg, .int .i64 sz, .int .i64 nn, .string s, .int .i64 pe, .slice ao L.length cap] 34 34
  rw [oS] at p1 p2
  have b3 : Below Wo.heap.size Wo ((Wo.alloc (.cells #[.int .i64 0, .int .i64 0, .int .i64 0, .int .i64 0, .int .i64 0, .int .i64 0, .string ⟨#[]⟩, .int .i64 0, .slice none 0 0] 34)).alloc (.cells #[.int .i64 k0, .int .i64 un, .int .i64 ep, .int .i64 pg, .int .i64 sz, .int .i64 nn, .string s, .int .i64 pe, .slice ao L.length cap] 34)) := ((Below.refl _ _).alloc (Nat.le_refl _) _).alloc (by simp) _
  have HB2 : Below w.heap.size w ((w.alloc (.cells #[.int .i64 0, .int .i64 0, .int .i64 0, .int .i64 0, .int .i64 0, .int .i64 0, .string ⟨#[]⟩, .int .i64 0, .slice none 0 0] 34)).alloc (.cells #[.int .i64 k0, .int .i64 un, .int .i64 ep, .int .i64 pg, .int .i64 sz, .int .i64 nn, .string s, .int .i64 pe, .slice ao L.length cap] 34)) := ((Below.refl _ _).alloc (Nat.le_refl _) _).alloc (by simp) _
  have HK3 := (oK.both oS (.cells #[.int .i64 0, .int .i64 0, .int .i64 0, .int .i64 0, .int .i64 0, .int .i64 0, .string ⟨#[]⟩, .int .i64 0, .slice none 0 0] 34)).both (by simp [oS]) (.cells #[.int .i64 k0, .int .i64 un, .int .i64 ep, .int .i64 pg, .int .i64 sz, .int .i64 nn, .string s, .int .i64 pe, .slice ao L.length cap] 34)
  have HG3 := below_heap b3 o1
  have HH3 := below_heap b3 (oK.heap (b := b) (fun e => hgb e.symm) HC.out)
  have s2 : ((w.alloc (.cells #[.int .i64 0, .int .i64 0, .int .i64 0, .int .i64 0, .int .i64 0, .int .i64 0, .string ⟨#[]⟩, .int .i64 0, .slice none 0 0] 34)).alloc (.cells #[.int .i64 k0, .int .i64 un, .int .i64 ep, .int .i64 pg, .int .i64 sz, .int .i64 nn, .string s, .int .i64 pe, .slice ao L.length cap] 34)).heap.size = w.heap.size + 2 := by simp
  have s3 : ((Wo.alloc (.cells #[.int .i64 0, .int .i64 0, .int .i64 0, .int .i64 0, .int .i64 0, .int .i64 0, .string ⟨#[]⟩, .int .i64 0, .slice none 0 0] 34)).alloc (.cells #[.int .i64 k0, .int .i64 un, .int .i64 ep, .int .i64 pg, .int .i64 sz, .int .i64 nn, .string s, .int .i64 pe, .slice ao L.length cap] 34)).heap.size = w.heap.size + 2 := by simp [oS]
  generalize hW2 : ((w.alloc (.cells #[.int .i64 0, .int .i64 0, .int .i64 0, .int .i64 0, .int .i64 0, .int .i64 0, .string ⟨#[]⟩, .int .i64 0, .slice none 0 0] 34)).alloc (.cells #[.int .i64 k0, .int .i64 un, .int .i64 ep, .int .i64 pg, .int .i64 sz, .int .i64 nn, .string s, .int .i64 pe, .slice ao L.length cap] 34)) = W2 at *
  generalize hW3 : ((Wo.alloc (.cells #[.int .i64 0, .int .i64 0, .int .i64 0, .int .i64 0, .int .i64 0, .int .i64 0, .string ⟨#[]⟩, .int .i64 0, .slice none 0 0] 34)).alloc (.cells #[.int .i64 k0, .int .i64 un, .int .i64 ep, .int .i64 pg, .int .i64 sz, .int .i64 nn, .string s, .int .i64 pe, .slice ao L.length cap] 34)) = W3 at *
  have HTAIL := Lib.hid (HTL.out w W3 cur3 HCU.out HG3 o3)
  have HROW := Lib.hid (show HR W3.drew (.slice (some ⟨g, 0, none⟩) k k) (l.take k) from .inr ⟨g, cur3, by rw [HLT.out], HG3, by rw [HLT.out, o2]; omega, by rw [HLT.out]; exact HHD.out cur3 o3⟩)
  have HP3 := Lib.hid p1
  have HQ3 := Lib.hid p2
  have HK4 := Lib.hid HK3
  have HB4 := Lib.hid HB2
  have HH4 := Lib.hid HH3
  have hb3 : b < W3.heap.size := by omega
  obtain ⟨_, d1, _, df⟩ := two_cells HH3
  clear hW2 hW3 p1 p2 b3 HK3 HB2 HG3 HH3 oK oS o1 o2 o3 x0 x1 x2 x3 x4 x5 x6 x7 x8 f0 f1 f2 f3 f4 f5 f6 f7 f8 c1 hlt HHD HTL HYY HC HCU hsz
  by_cases hlast : k + 1 = l.length
  · obtain ⟨qa, hqa⟩ : ∃ qa : Addr, (if vc = k + 1 then some (⟨g, 0, none⟩ : Addr) else some ⟨g, (k + 1) * 9, none⟩) = some qa := by
      by_cases e : vc = k + 1
      · exact ⟨_, if_pos e⟩
      · exact ⟨_, if_neg e⟩
    have hm0 := Lib.hid (show l.length - (k + 1) = 0 from by omega)
    have HL := Lib.hid (show Leaves (HMz NG [⟨k0, un, ep, pg, sz, nn, s, pe, L, ao, cap⟩] b nb) G W2 (W3.setCell ⟨b, 1, none⟩ (.slice (some ⟨g, 0, none⟩) k k)).drew ⟨h.n, lessK h.held k⟩ from HLY.out W2 W3.drew (.slice (some ⟨g, 0, none⟩) k k) HB4.out HK4.out.drew (by rw [← HDL.out, List.drop_eq_nil_of_le (by omega), List.append_nil]; exact HROW.out) (fun j e => .inl e))
    clear hlast
    have HP5 := Lib.hid ((((Kept.refl (fun j => j ≠ b) W3).setCell (p := ⟨b, 1, none⟩) (fun h => h rfl) (Value.slice (some ⟨g, 0, none⟩) k k)).drew).heap (b := w.heap.size) (by omega) HP3.out)
    have HQ5 := Lib.hid ((((Kept.refl (fun j => j ≠ b) W3).setCell (p := ⟨b, 1, none⟩) (fun h => h rfl) (Value.slice (some ⟨g, 0, none⟩) k k)).drew).heap (b := w.heap.size + 1) (by omega) HQ3.out)
    go_region_law (first | (refine step_app_none rfl (.tmp 44) (.tmp 51) rfl (ao := some ⟨g, 0, none⟩) (n := k) (c := k) rfl (Nat.le_refl _) (ad := qa) (m := l.length - (k + 1)) (c2 := vc - (k + 1)) rfl hm0.out ?_))
    all_goals
      generalize hW5 : World.drew (World.setCell _ _ _) = W5 at *
      clear hW5
      obtain ⟨⟨y0, y1, y2, y3, y4, y5, y6, y7, y8⟩, z0, z1, z2, z3, z4, z5, z6, z7, z8⟩ := nine_of HP5.out
      obtain ⟨⟨t0, t1, t2, t3, t4, t5, t6, t7, t8⟩, _⟩ := nine_of HQ5.out
      have l0 := lt_of_block HP5.out
      have l1 := lt_of_block HQ5.out
      go_wp2_with fail
      exact ask_ret2 (x := ⟨k0, un, ep, pg, sz, nn, s, pe, L, ao, cap⟩) (c := true) rfl (nine_put HP5.out (.int .i64 k0) (.int .i64 un) (.int .i64 ep) (.int .i64 pg) (.int .i64 sz) (.int .i64 nn) (.string s) (.int .i64 pe) (.slice ao L.length cap)) rfl rfl rfl ⟨_, rfl, HPL.out, HBX.out W2 W5 _ HB4.out HL.out (by omega) (nine_set W5 w.heap.size (.int .i64 k0) (.int .i64 un) (.int .i64 ep) (.int .i64 pg) (.int .i64 sz) (.int .i64 nn) (.string s) (.int .i64 pe) (.slice ao L.length cap))⟩
  · have hne : ¬ vc = k + 1 := by omega
    go_region_law (first
      | (refine step_app_held rfl (.tmp 44) (.tmp 51) rfl rfl HROW.out (N := l.drop (k + 1)) (m := l.length - (k + 1)) (ad := ⟨g, (k + 1) * 9, none⟩) (cap := vc - (k + 1)) HLD.out rfl (Row.keep HTAIL.out (Kept.refl (fun _ => True) W3).drew (fun _ _ => trivial)) (by omega) (by omega) (by rw [HLT.out]; omega) ?_; intro v2 w2 hI hg2 hv2; rw [HDL.out] at hI; obtain ⟨a2, n2, hw2, _, _, _, _, _, _⟩ := hI.form ask_rows; subst hw2; have HL := Lib.hid (HLY.out W2 w2 _ HB4.out (HK4.out.drew.grown hg2 (fun j e h => h (Option.some.inj e).symm)) (.inl hI) (fun j e => (hv2 j e).imp id (fun h => by have h5 : W3.heap.size ≤ j := h; omega))); have K24 : Kept (fun j => j ≠ g) W3 w2 := ((Kept.refl _ W3).drew).grown hg2 (fun j e h => h (Option.some.inj e).symm); have HB5 := Lib.hid (K24.heap (b := b) (fun e => hgb e.symm) HH4.out); have qc := (two_cells HB5.out).2.1; have qf := (two_cells HB5.out).2.2.2; have qr := lt_of_block HB5.out; have HP5 := Lib.hid (((Kept.refl (fun j => j ≠ b) w2).setCell (p := ⟨b, 1, none⟩) (fun h => h rfl) (Value.slice a2 (lessK l k).length n2)).heap (b := w.heap.size) (by omega) (K24.heap (b := w.heap.size) (by omega) HP3.out)); have HQ5 := Lib.hid (((Kept.refl (fun j => j ≠ b) w2).setCell (p := ⟨b, 1, none⟩) (fun h => h rfl) (Value.slice a2 (lessK l k).length n2)).heap (b := w.heap.size + 1) (by omega) (K24.heap (b := w.heap.size + 1) (by omega) HQ3.out)); clear K24; clear hI hg2 hv2))
    all_goals
      generalize hW5 : World.setCell _ _ _ = W5 at *
      clear hW5
      obtain ⟨⟨y0, y1, y2, y3, y4, y5, y6, y7, y8⟩, z0, z1, z2, z3, z4, z5, z6, z7, z8⟩ := nine_of HP5.out
      obtain ⟨⟨t0, t1, t2, t3, t4, t5, t6, t7, t8⟩, _⟩ := nine_of HQ5.out
      have l0 := lt_of_block HP5.out
      have l1 := lt_of_block HQ5.out
      go_wp2_with fail
      exact ask_ret2 (x := ⟨k0, un, ep, pg, sz, nn, s, pe, L, ao, cap⟩) (c := true) rfl (nine_put HP5.out (.int .i64 k0) (.int .i64 un) (.int .i64 ep) (.int .i64 pg) (.int .i64 sz) (.int .i64 nn) (.string s) (.int .i64 pe) (.slice ao L.length cap)) rfl rfl rfl ⟨_, rfl, HPL.out, HBX.out W2 W5 _ HB4.out HL.out (by omega) (nine_set W5 w.heap.size (.int .i64 k0) (.int .i64 un) (.int .i64 ep) (.int .i64 pg) (.int .i64 sz) (.int .i64 nn) (.string s) (.int .i64 pe) (.slice ao L.length cap))⟩
end
end Go.Proofs.YtkicjgaejieinaaGreat
namespace Go.Proofs.YtkicjgaejieinaaGreat
set_option linter.unusedVariables false
open Go.RowKit
theorem rpcSays : RpcSays UM OM LM (RM UM OM LM) := rpcSays_of ⟨unitSays, orderSays, laySays⟩ (fun w a h => do_nil w a h)
end Go.Proofs.YtkicjgaejieinaaGreat
namespace Go.Proofs.YtkicjgaejieinaaGreat
set_option linter.unusedVariables false
open Go.RowKit
set_option maxRecDepth 20000
theorem rh_ask_any (r rn : Nat) (G : Nat → Prop) (w : World) (h : Hd) (a : Ak) (fate : Int) (hh : RH r rn G w h) (hw : i64w a.epoch) (hs : a.data.size ≤ 1000000) (hu : h.n.l.used.length ≤ 100000) (hA : ∀ W, Kept (fun k => ¬ G k) w W → CL W a.ao a.L) (hL : a.L.length ≤ 255 ∧ ∀ c ∈ a.L, c.length ≤ 255) :
    Calls Tryz.prog 12 #[.pointer (some ⟨r, 0, none⟩), askV a, .int .i64 fate] w fun e w' => ToldBy (heardV (h.heard a fate) (decide (fate = 0))) (RH r rn) G w (h.asked a fate) (h.heard a fate) e w' := by
  unfold Hd.asked Hd.heard
  by_cases h0 : fate = 0
  · subst h0
    rw [if_pos rfl, if_pos (.inl rfl), decide_eq_true rfl]
    exact rh_heard r rn G w h a hh hw hs hu hA hL
  rw [if_neg h0, decide_eq_false h0]
  by_cases h2 : fate = 2
  · subst h2
    rw [if_pos (.inr rfl)]
    exact rh_deaf r rn G w h a hh hw hs hu hA hL
  rw [if_neg (fun h => h.elim h0 h2)]
  by_cases h3 : fate = 3
  · by_cases hf : h.held.length < 64
    · rw [if_pos ⟨h3, hf⟩]
      exact rh_held r rn G w h a fate hh h3 hf
    · rw [if_neg (fun h => hf h.2)]
      exact rh_full r rn G w h a fate hh h3 (by omega)
  · rw [if_neg (fun h => h3 h.1)]
    exact rh_lost r rn G w h a fate hh h0 h2 h3
theorem rh_drop_any (r rn : Nat) (G : Nat → Prop) (w : World) (h : Hd) (k : Int) (hh : RH r rn G w h) :
    Calls Tryz.prog 17 #[.pointer (some ⟨r, 0, none⟩), .int .i64 k] w fun e w' => e = .returned (.bool (h.has k)) ∧ Leaves (RH r rn) G w w' (h.drops k) := by
  unfold Hd.drops Hd.has
  by_cases hk : 0 ≤ k ∧ k < h.held.length
  · rw [if_pos hk, decide_eq_true hk.1, decide_eq_true hk.2]
    obtain ⟨n, rfl⟩ : ∃ n : Nat, k = n := ⟨k.toNat, by omega⟩
    exact rh_drop_yes r rn G w h n hh (by omega)
  · rw [if_neg hk, show (decide (0 ≤ k) && decide (k < (h.held.length : Int))) = false from by
      by_cases h0 : 0 ≤ k
      · rw [decide_eq_false (fun h1 => hk ⟨h0, h1⟩), Bool.and_false]
      · rw [decide_eq_false h0, Bool.false_and]]
    refine (rh_drop_no r rn G w h k hh hk).mono ?_
    rintro e w' ⟨he, rfl⟩
    exact ⟨he, Leaves.same (rh_thing r rn) hh (Below.refl _ _)⟩
theorem rh_do_any (r rn : Nat) (G : Nat → Prop) (w : World) (h : Hd) (k : Int) (hh : RH r rn G w h) (hu : h.n.l.used.length ≤ 100000) (hA : ∀ a ∈ h.held, i64w a.epoch ∧ a.data.size ≤ 1000000 ∧ (∀ W, Kept (fun k => ¬ G k) w W → CL W a.ao a.L) ∧ a.L.length ≤ 255 ∧ ∀ c ∈ a.L, c.length ≤ 255) :
    Calls Tryz.prog 15 #[.pointer (some ⟨r, 0, none⟩), .int .i64 k] w fun e w' => e = .returned (.bool (h.has k)) ∧ Leaves (RH r rn) G w w' (h.does k) := by
  unfold Hd.does Hd.has
  by_cases hk : 0 ≤ k ∧ k < h.held.length
  · rw [dif_pos hk, decide_eq_true hk.1, decide_eq_true hk.2]
    obtain ⟨n, rfl⟩ : ∃ n : Nat, k = n := ⟨k.toNat, by omega⟩
    have hn : n < h.held.length := by omega
    obtain ⟨h1, h2, h3, h4⟩ := hA _ (List.getElem_mem hn)
    exact rh_do_yes r rn G w h n hh hn h1 h2 hu h3 h4
  · rw [dif_neg hk, show (decide (0 ≤ k) && decide (k < (h.held.length : Int))) = false from by
      by_cases h0 : 0 ≤ k
      · rw [decide_eq_false (fun h1 => hk ⟨h0, h1⟩), Bool.and_false]
      · rw [decide_eq_false h0, Bool.false_and]]
    refine (rh_do_no r rn G w h k hh hk).mono ?_
    rintro e w' ⟨he, rfl⟩
    exact ⟨he, Leaves.same (rh_thing r rn) hh (Below.refl _ _)⟩
section
variable {UG : Nat → Nat → (Nat → Prop) → World → Us → Prop} {OG : Nat → (Nat → Prop) → World → Od → Prop} {LG : Nat → (Nat → Prop) → World → Ly → Prop} {NG : Nat → (Nat → Prop) → World → Nd → Prop} {HG : Nat → Nat → (Nat → Prop) → World → Hd → Prop} {X : Nat → Prop} {w W : World} {b nb r rn B : Nat} {h h2 : Hd}
theorem RH.nodes {G : Nat → Prop} (hh : RH r rn G w h) : ∃ F : Nat → Prop, RN rn F w h.n ∧ ∀ k, F k → G k := by
  obtain ⟨h0, v, F, h1, h2, h3, h4, h5, h6, _⟩ := hh
  exact ⟨F, h3, h6⟩
/-- both hands are in the state h, above a bound -/
def LookH (HG : Nat → Nat → (Nat → Prop) → World → Hd → Prop) (B : Nat) (w : World) (b nb r rn : Nat) (h : Hd) (W : World) : Prop := Side (HG b nb) (RH r rn) (fun k => k < B) W h.plain h ∧ Below B w W ∧ B ≤ W.heap.size
/-- what is held is of the list's questions -/
def HeldIn (w : World) (h : Hd) : Prop := ∀ a ∈ h.held, AkIn w a ∧ largeA a = false
theorem HeldIn.asked {a : Ak} {fate : Int} (hh : HeldIn w h) (ha : AkIn w a) (hl : largeA a = false) : HeldIn w (h.asked a fate) := by
  intro x hx
  rcases (asked_held h a fate).2 x hx with h1 | h1
  · exact hh x h1
  · subst h1; exact ⟨ha, hl⟩
theorem HeldIn.less (hh : HeldIn w h) {n : Nd} {k : Nat} : HeldIn w ⟨n, lessK h.held k⟩ := fun x hx => hh x (lessK_mem hx)
theorem HeldIn.drops (hh : HeldIn w h) (k : Int) : HeldIn w (h.drops k) := by
  unfold Hd.drops
  split
  · exact hh.less
  · exact hh
theorem HeldIn.does (hh : HeldIn w h) (k : Int) : HeldIn w (h.does k) := by
  unfold Hd.does
  split
  · exact hh.less
  · exact hh
theorem does_used (h : Hd) (k : Int) : (h.does k).n.l.used.length ≤ h.n.l.used.length + 16 := by
  unfold Hd.does
  split
  · exact nd_used h.n _
  · exact Nat.le_add_right _ _
theorem drops_n (h : Hd) (k : Int) : (h.drops k).n = h.n := by
  unfold Hd.drops
  split <;> rfl
theorem LookH.below (HS : HandSays UG OG LG NG HG) (hl : LookH HG B w b nb r rn h W) {W2 : World} (hb : Below W.heap.size W W2) : LookH HG B w b nb r rn h W2 :=
  ⟨hl.1.below (HS.thing b nb) (rh_thing r rn) hb, hl.2.1.trans (hb.mono hl.2.2), Nat.le_trans hl.2.2 hb.size⟩
theorem LookH.kept (hl : LookH HG B w b nb r rn h W) {W2 : World} (hs : Side (HG b nb) (RH r rn) (fun k => k < B) W2 h2.plain h2) (hk : Kept (fun k => k < B) W W2) : LookH HG B w b nb r rn h2 W2 :=
  ⟨hs, hl.2.1.trans (hk.toBelow hl.2.2 (fun k h => h)), Nat.le_trans hl.2.2 hk.size⟩
theorem LookH.doc (hl : LookH HG B w b nb r rn h W) : ∃ (ho : Option Addr) (hc : Nat), W.cell? ⟨r, 0, none⟩ = some (.pointer (some ⟨rn, 0, none⟩)) ∧ W.cell? ⟨r, 1, none⟩ = some (.slice ho h.held.length hc) ∧ Row W ho 9 askC h.held ∧ h.held.length ≤ 64 ∧ r < W.heap.size := by
  obtain ⟨_, F, G, _, hh, _⟩ := hl.1
  obtain ⟨v, hc, hO⟩ := hh.cells
  obtain ⟨ho, hcp, hv, hrow, _⟩ := hO.form ask_rows
  subst hv
  exact ⟨ho, hcp, cell_of hc 0, cell_of hc 1, hrow, hh.1, lt_of_block hc⟩
theorem LookH.solos (HS : HandSays UG OG LG NG HG) (hl : LookH HG B w b nb r rn h W) : Solo (NG nb) (fun k => k < B) W h.n ∧ Solo (RN rn) (fun k => k < B) W h.n := by
  obtain ⟨h1, F, G, h2, h3, h4, h5⟩ := hl.1
  obtain ⟨F2, k1, k2⟩ := HS.nodes_in h2
  obtain ⟨G2, k3, k4⟩ := h3.nodes
  exact ⟨⟨h1, F2, k1, fun k hk hf => (h4 k hk).1 (k2 k hf)⟩, ⟨h1, G2, k3, fun k hk hf => (h4 k hk).2 (k4 k hf)⟩⟩
end
end Go.Proofs.YtkicjgaejieinaaGreat
