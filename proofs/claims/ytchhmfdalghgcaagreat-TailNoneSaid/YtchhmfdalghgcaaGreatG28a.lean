/- The program's own take, where there is a k-th. Conditions: as each statement says. (Written by gen/genhmpf.py.) What the program's tail makes of an answer that it hears, or of none. Conditions: it lies where the call was told; the answer's chains lie there too. (Written by gen/gentmp.py.) The program's nodes keep all that the laws of all nodes ask: units, sequencer, layout are the program's own. No conditions. Questions to a hand that are answered with chains, or bring some. Conditions: the program's functions return what HandSays says. -/
import Derived.Test.YtchhmfdalghgcaaGreatG27b
import Derived.Deep.AppendSrc
import Derived.Deep.Upon
import Derived.Deep.CutRange
import Derived.Deep.CutBlock
import Derived.Test.YtchhmfdalghgcaaGreatG27a
import Derived.Test.YtchhmfdalghgcaaGreatG20a
import Derived.Test.YtchhmfdalghgcaaGreatG13a
import Derived.Test.YtchhmfdalghgcaaGreatG24a
set_option linter.unusedVariables false
namespace Go.Proofs.YtchhmfdalghgcaaGreat
set_option linter.unusedVariables false
open Go.RowKit
set_option maxRecDepth 20000
/-- none is appended -/
theorem step_app_none {ops : Array Oper} {o : Oper} {a : Act} {w : World} {K' : Act → World → Prop} {Q : Exit → Act → World → Prop} {E : Prop} (hgd : o.guard = none) (s x : Operand)
    (ho : o.op = Op.call { callee := Callee.builtin Builtin.append, args := #[s, x], argTypes := #[67, 67] }) {ao : Option Addr} {n c : Nat} (hs : a.eval s = .slice ao n c) (hc : n ≤ c) {ad : Addr} {m c2 : Nat} (hx : a.eval x = .slice (some ad) m c2) (hm : m = 0)
    (hQ : K' (a.put o.dst (.slice ao n c)) w) : if Region.wanted o (yielded ops a.tmps) = true then Oper.wp Tryz.prog o a w K' Q else E := by
  have hw : Region.wanted o (yielded ops a.tmps) = true := by simp [Region.wanted, hgd]
  rw [if_pos hw]
  subst hm
  obtain ⟨i0, z, bytes, hi, hz0, hz1, hz2, hz3, hz4⟩ := ask_rows.info
  have hr := run_append_nothing (P := Tryz.prog) w 67 67 o.type 37 i0 ask_rows.under hi ao n c hc (.slice (some ad) 0 c2) (Src.ofSlice w ask_rows.under ad 0 c2 [] (by simp) (fun j u hj => by cases hj) (fun u hu => by cases hu))
  unfold Oper.wp
  simp [execOp, ho, resolve, invoke, builtin, hs, hx, hr, Result.andThen]
  exact hQ
section
variable {NG : Nat → (Nat → Prop) → World → Nd → Prop} {Z : List Ak} {b nb : Nat} {G : Nat → Prop} {w : World} {h : Hd}
/-- the same is made in both worlds -/
theorem Kept.both {S : Nat → Prop} {w w' : World} (h : Kept S w w') (hs : w'.heap.size = w.heap.size) (x : Obj) : Kept S (w.alloc x) (w'.alloc x) := by
  refine ⟨h.os, h.tape, h.output, by simp [hs], fun k hk hl => ?_⟩
  by_cases e : k = w.heap.size
  · subst e
    rw [heap_alloc_new w x]
    have := heap_alloc_new w' x
    rwa [hs] at this
  · have hl2 : k < w.heap.size := by simp at hl; omega
    rw [heap_alloc_old w x hl2, heap_alloc_old w' x (by omega)]
    exact h.block k hk hl2
/-- the result lies in a box that the call made -/
theorem leaves_box {α : Type} {T : (Nat → Prop) → World → α → Prop} {G : Nat → Prop} {w W2 w5 w6 : World} {s : α} (hT : Thing T) (hlt : ∀ k, G k → k < w.heap.size) (hb : Below w.heap.size w W2) (h : Leaves T G W2 w5 s) {q : Nat} (hq : w.heap.size ≤ q) (hq2 : q < W2.heap.size) (hk : Kept (fun k => k ≠ q) w5 w6) : Leaves T G w w6 s := by
  obtain ⟨G', t1, k1, s1⟩ := h
  have K5 : Kept (fun k => ¬ G k) w w5 := (Kept.ofBelow hb _).trans k1
  refine ⟨G', hT.keep t1 hk (fun k hg e => ?_), ⟨hk.os.trans K5.os, hk.tape.trans K5.tape, hk.output.trans K5.output, Nat.le_trans K5.size hk.size, fun k hg hl => ?_⟩, fun k hg => ?_⟩
  · rcases s1 k hg with h | h
    · have := hlt k h; omega
    · omega
  · rw [hk.block k (by omega) (Nat.lt_of_lt_of_le hl K5.size)]
    exact K5.block k hg hl
  · exact (s1 k hg).imp id (fun h => Nat.le_trans hb.size h)
set_option maxHeartbeats 6400000 in
theorem take_yes (hN : ∀ b, Thing (NG b)) (b nb : Nat) (G : Nat → Prop) (w : World) (h : Hd) (k : Nat) (hh : HMz NG [] b nb G w h) (hk : k < h.held.length) :
    Calls Tryz.prog 30 #[.pointer (some ⟨b, 0, none⟩), .int .i64 k] w fun e w' => ∃ a : Ak, e = .returned (.tuple #[askV a, .bool true]) ∧ a.plain = h.held[k] ∧ Leaves (HMz NG [a] b nb) G w w' ⟨h.n, lessK h.held k⟩ := by
  have hlt := (hmz_thing hN [] b nb).lt hh
  have hbs := hh.small
  have h64 := hh.1
  obtain ⟨v, l, hc, hR, hm, hok, hGv, hlay⟩ := hh.opened hN
  have hkl : k < l.length := by rw [← hm, List.length_map] at hk; exact hk
  have hl64 : l.length ≤ 64 := by rw [← hm, List.length_map] at h64; exact h64
  have epl : (l[k]).plain = h.held[k] := by simp only [← hm, List.getElem_map]
  have HLK := Lib.hid (show (lessK l k).map Ak.plain = lessK h.held k from by rw [plain_less, hm])
  obtain ⟨vo, vc, hv, _, hcap, hno, _, hblk⟩ := hR.form
  obtain ⟨va, rfl⟩ : ∃ va, vo = some va := by
    cases vo with
    | none => have := hno rfl; omega
    | some a => exact ⟨a, rfl⟩
  obtain ⟨eva, cur, hcur, hsz, htk⟩ := hblk va rfl
  obtain ⟨g, rfl⟩ : ∃ g, va = ⟨g, 0, none⟩ := ⟨va.block, eva⟩
  subst hv
  have hcur' : w.heap[g]? = some (.cells cur 37 (0, 0)) := hcur
  obtain ⟨hgG, hgb⟩ := hGv g rfl
  have hgl := hlt g hgG
  -- what lies in the hand, where the row stood over which the k-th is wiped
  have HLY := Lib.hid (fun (W w4 : World) (v4 : Value) (hW : Below w.heap.size w W) (hk4 : Kept (fun j => j ≠ g) W w4) (hR4 : HR w4 v4 (lessK l k)) (hv4 : ∀ j, v4.ownBlock = some j → some g = some j ∨ W.heap.size ≤ j) =>
    show Leaves (HMz NG [l[k]] b nb) G W (w4.setCell ⟨b, 1, none⟩ v4) ⟨h.n, lessK h.held k⟩ from by
      rw [← HLK.out]
      refine hlay W hW w4 v4 (lessK l k) [l[k]] (fun _ => False) (hk4.mono (fun j hj e => hj (by rw [e]; rfl))) hR4 hv4 (fun j hj => hj.elim) (by have := lessK_length hkl; omega) (fun x hx => ?_)
      rcases hx with hx | hx
      · exact .inl (lessK_mem hx)
      · rw [List.mem_singleton.1 hx]
        exact .inl (List.getElem_mem hkl))
  have HBX := Lib.hid (fun (W w5 w6 : World) (hb : Below w.heap.size w W) (hl : Leaves (HMz NG [l[k]] b nb) G W w5 ⟨h.n, lessK h.held k⟩) (hq : w.heap.size < W.heap.size) (hk6 : Kept (fun j => j ≠ w.heap.size) w5 w6) => leaves_box (hmz_thing hN [l[k]] b nb) hlt hb hl (Nat.le_refl _) hq hk6)
  obtain ⟨_, c1, _, _⟩ := two_cells hc
  have hx := fun j hj => row_at hcur' htk hkl j hj
  have HC := Lib.hid hc
  have HCU := Lib.hid hcur'
  have HHD := Lib.hid (fun cur2 he => over_head (cur2 := cur2) htk hkl he)
  have HTL := Lib.hid (fun W W' cur2 h1 h2 he => over_tail (w := W) (w' := W') (g := g) (cur2 := cur2) (k := k) (t := 37) h1 h2 htk he)
  have HYY := Lib.hid (fun W h1 j hj => row_at (w := W) (g := g) (t := 37) h1 htk hkl j hj)
  have HLT := Lib.hid (show (l.take k).length = k from by rw [List.length_take]; omega)
  have HLD := Lib.hid (show (l.drop (k + 1)).length = l.length - (k + 1) from List.length_drop)
  have HDL := Lib.hid (show l.take k ++ l.drop (k + 1) = lessK l k from rfl)
  have HPL := Lib.hid epl
  clear hh hc hR hm hok hGv hlay hcur hno hblk h64 eva epl hcur' htk HLK
  generalize l[k] = a at *
  obtain ⟨k0, un, ep, pg, sz, nn, s, pe, L, ao, cap⟩ := a
  have x0 := hx 0 (by omega)
  have x1 := hx 1 (by omega)
  have x2 := hx 2 (by omega)
  have x3 := hx 3 (by omega)
  have x4 := hx 4 (by omega)
  have x5 := hx 5 (by omega)
  have x6 := hx 6 (by omega)
  have x7 := hx 7 (by omega)
  have x8 := hx 8 (by omega)
  simp only [askC, Nat.add_zero, List.getElem?_cons_zero, List.getElem?_cons_succ] at x0 x1 x2 x3 x4 x5 x6 x7 x8
  have i0 : IntKind.i64.wrap ((k : Int) + 1) = (k : Int) + 1 := IntWalk.i64_in _ (by omega)
  have i9 : (0 : Int) ≤ (k : Int) + 1 := by omega
  have i1 : (0 : Int) ≤ (k : Int) := by omega
  have i2 : (k : Int) < (l.length : Int) := by omega
  have i3 : (k : Int) ≤ (vc : Int) := by omega
  have i4 : (l.length : Int) ≤ (vc : Int) := by omega
  have i5 : (k : Int) + 1 ≤ (l.length : Int) := by omega
  have i6 : (l.length : Int) ≤ 64 := by omega
  have i7 : l.length ≤ vc := by omega
  have f0 := free_of HCU.out (k * 9)
  have f1 := free_of HCU.out (k * 9 + 1)
  have f2 := free_of HCU.out (k * 9 + 2)
  have f3 := free_of HCU.out (k * 9 + 3)
  have f4 := free_of HCU.out (k * 9 + 4)
  have f5 := free_of HCU.out (k * 9 + 5)
  have f6 := free_of HCU.out (k * 9 + 6)
  have f7 := free_of HCU.out (k * 9 + 7)
  have f8 := free_of HCU.out (k * 9 + 8)
  clear hx
  go_enter Tryz.func30, Tryz.ntmps30
  go_wp2_with fail
  obtain ⟨cur3, o1, o2, o3⟩ := over_heap (w := w) (o := k * 9) HCU.out (.int .i64 0) (.int .i64 0) (.int .i64 0) (.int .i64 0) (.int .i64 0) (.int .i64 0) (.string ⟨#[]⟩) (.int .i64 0) (.slice none 0 0)
  have oK := over_kept w g (k * 9) (.int .i64 0) (.int .i64 0) (.int .i64 0) (.int .i64 0) (.int .i64 0) (.int .i64 0) (.string ⟨#[]⟩) (.int .i64 0) (.slice none 0 0)
  have oS : (World.setCell (World.setCell (World.setCell (World.setCell (World.setCell (World.setCell (World.setCell (World.setCell (World.setCell (w) ⟨g, k * 9, none⟩ (.int .i64 0)) ⟨g, k * 9 + 1, none⟩ (.int .i64 0)) ⟨g, k * 9 + 2, none⟩ (.int .i64 0)) ⟨g, k * 9 + 3, none⟩ (.int .i64 0)) ⟨g, k * 9 + 4, none⟩ (.int .i64 0)) ⟨g, k * 9 + 5, none⟩ (.int .i64 0)) ⟨g, k * 9 + 6, none⟩ (.string ⟨#[]⟩)) ⟨g, k * 9 + 7, none⟩ (.int .i64 0)) ⟨g, k * 9 + 8, none⟩ (.slice none 0 0)).heap.size = w.heap.size := by simp [World.setCell]
  generalize (World.setCell (World.setCell (World.setCell (World.setCell (World.setCell (World.setCell (World.setCell (World.setCell (World.setCell (w) ⟨g, k * 9, none⟩ (.int .i64 0)) ⟨g, k * 9 + 1, none⟩ (.int .i64 0)) ⟨g, k * 9 + 2, none⟩ (.int .i64 0)) ⟨g, k * 9 + 3, none⟩ (.int .i64 0)) ⟨g, k * 9 + 4, none⟩ (.int .i64 0)) ⟨g, k * 9 + 5, none⟩ (.int .i64 0)) ⟨g, k * 9 + 6, none⟩ (.string ⟨#[]⟩)) ⟨g, k * 9 + 7, none⟩ (.int .i64 0)) ⟨g, k * 9 + 8, none⟩ (.slice none 0 0)) = Wo at *
  obtain ⟨p1, p2⟩ := two_blocks Wo #[.int .i64 0, .int .i64 0, .int .i64 0, .int .i64 0, .int .i64 0, .int .i64 0, .string ⟨#[]⟩, .int .i64 0, .slice none 0 0] #[.int .i64 k0, .int .i64 un, .int .i64 ep, .int .i64 pg, .int .i64 sz, .int .i64 nn, .string s, .int .i64 pe, .slice ao L.length cap] 37 37
  rw [oS] at p1 p2
  have b3 : Below Wo.heap.size Wo ((Wo.alloc (.cells #[.int .i64 0, .int .i64 0, .int .i64 0, .int .i64 0, .int .i64 0, .int .i64 0, .string ⟨#[]⟩, .int .i64 0, .slice none 0 0] 37)).alloc (.cells #[.int .i64 k0, .int .i64 un, .int .i64 ep, .int .i64 pg, .int .i64 sz, .int .i64 nn, .string s, .int .i64 pe, .slice ao L.length cap] 37)) := ((Below.refl _ _).alloc (Nat.le_refl _) _).alloc (by simp) _
  have HB2 : Below w.heap.size w ((w.alloc (.cells #[.int .i64 0, .int .i64 0, .int .i64 0, .int .i64 0, .int .i64 0, .int .i64 0, .string ⟨#[]⟩, .int .i64 0, .slice none 0 0] 37)).alloc (.cells #[.int .i64 k0, .int .i64 un, .int .i64 ep, .int .i64 pg, .int .i64 sz, .int .i64 nn, .string s, .int .i64 pe, .slice ao L.length cap] 37)) := ((Below.refl _ _).alloc (Nat.le_refl _) _).alloc (by simp) _
  have HK3 := (oK.both oS (.cells #[.int .i64 0, .int .i64 0, .int .i64 0, .int .i64 0, .int .i64 0, .int .i64 0, .string ⟨#[]⟩, .int .i64 0, .slice none 0 0] 37)).both (by simp [oS]) (.cells #[.int .i64 k0, .int .i64 un, .int .i64 ep, .int .i64 pg, .int .i64 sz, .int .i64 nn, .string s, .int .i64 pe, .slice ao L.length cap] 37)
  have HG3 := below_heap b3 o1
  have HH3 := below_heap b3 (oK.heap (b := b) (fun e => hgb e.symm) HC.out)
  have s2 : ((w.alloc (.cells #[.int .i64 0, .int .i64 0, .int .i64 0, .int .i64 0, .int .i64 0, .int .i64 0, .string ⟨#[]⟩, .int .i64 0, .slice none 0 0] 37)).alloc (.cells #[.int .i64 k0, .int .i64 un, .int .i64 ep, .int .i64 pg, .int .i64 sz, .int .i64 nn, .string s, .int .i64 pe, .slice ao L.length cap] 37)).heap.size = w.heap.size + 2 := by simp
  have s3 : ((Wo.alloc (.cells #[.int .i64 0, .int .i64 0, .int .i64 0, .int .i64 0, .int .i64 0, .int .i64 0, .string ⟨#[]⟩, .int .i64 0, .slice none 0 0] 37)).alloc (.cells #[.int .i64 k0, .int .i64 un, .int .i64 ep, .int .i64 pg, .int .i64 sz, .int .i64 nn, .string s, .int .i64 pe, .slice ao L.length cap] 37)).heap.size = w.heap.size + 2 := by simp [oS]
  generalize hW2 : ((w.alloc (.cells #[.int .i64 0, .int .i64 0, .int .i64 0, .int .i64 0, .int .i64 0, .int .i64 0, .string ⟨#[]⟩, .int .i64 0, .slice none 0 0] 37)).alloc (.cells #[.int .i64 k0, .int .i64 un, .int .i64 ep, .int .i64 pg, .int .i64 sz, .int .i64 nn, .string s, .int .i64 pe, .slice ao L.length cap] 37)) = W2 at *
  generalize hW3 : ((Wo.alloc (.cells #[.int .i64 0, .int .i64 0, .int .i64 0, .int .i64 0, .int .i64 0, .int .i64 0, .string ⟨#[]⟩, .int .i64 0, .slice none 0 0] 37)).alloc (.cells #[.int .i64 k0, .int .i64 un, .int .i64 ep, .int .i64 pg, .int .i64 sz, .int .i64 nn, .string s, .int .i64 pe, .slice ao L.length cap] 37)) = W3 at *
  have HTAIL := Lib.hid (HTL.out w W3 cur3 HCU.out HG3 o3)
  have HROW := Lib.hid (show HR W3.drew (.slice (some ⟨g, 0, none⟩) k k) (l.take k) from .inr ⟨g, cur3, by rw [HLT.out], HG3, by rw [HLT.out, o2]; omega, by rw [HLT.out]; exact HHD.out cur3 o3⟩)
  have HP3 := Lib.hid p1
  have HQ3 := Lib.hid p2
  have HK4 := Lib.hid HK3
  have HB4 := Lib.hid HB2
  have HH4 := Lib.hid HH3
  have hb3 : b < W3.heap.size := by omega
  obtain ⟨_, d1, _, df⟩ := two_cells HH3
  clear hW2 hW3 p1 p2 b3 HK3 HB2 HG3 HH3 oK oS o1 o2 o3 x0 x1 x2 x3 x4 x5 x6 x7 x8 f0 f1 f2 f3 f4 f5 f6 f7 f8 c1 hlt HHD HTL HYY HC HCU hsz
  by_cases hlast : k + 1 = l.length
  · obtain ⟨qa, hqa⟩ : ∃ qa : Addr, (if vc = k + 1 then some (⟨g, 0, none⟩ : Addr) else some ⟨g, (k + 1) * 9, none⟩) = some qa := by
      by_cases e : vc = k + 1
      · exact ⟨_, if_pos e⟩
      · exact ⟨_, if_neg e⟩
    have hm0 := Lib.hid (show l.length - (k + 1) = 0 from by omega)
    have HL := Lib.hid (show Leaves (HMz NG [⟨k0, un, ep, pg, sz, nn, s, pe, L, ao, cap⟩] b nb) G W2 (W3.setCell ⟨b, 1, none⟩ (.slice (some ⟨g, 0, none⟩) k k)).drew ⟨h.n, lessK h.held k⟩ from HLY.out W2 W3.drew (.slice (some ⟨g, 0, none⟩) k k) HB4.out HK4.out.drew (by rw [← HDL.out, List.drop_eq_nil_of_le (by omega), List.append_nil]; exact HROW.out) (fun j e => .inl e))
    clear hlast
    have HP5 := Lib.hid ((((Kept.refl (fun j => j ≠ b) W3).setCell (p := ⟨b, 1, none⟩) (fun h => h rfl) (Value.slice (some ⟨g, 0, none⟩) k k)).drew).heap (b := w.heap.size) (by omega) HP3.out)
    have HQ5 := Lib.hid ((((Kept.refl (fun j => j ≠ b) W3).setCell (p := ⟨b, 1, none⟩) (fun h => h rfl) (Value.slice (some ⟨g, 0, none⟩) k k)).drew).heap (b := w.heap.size + 1) (by omega) HQ3.out)
    go_region_law (first | (refine step_app_none rfl (.tmp 44) (.tmp 51) rfl (ao := some ⟨g, 0, none⟩) (n := k) (c := k) rfl (Nat.le_refl _) (ad := qa) (m := l.length - (k + 1)) (c2 := vc - (k + 1)) rfl hm0.out ?_))
    all_goals
      generalize hW5 : World.drew (World.setCell _ _ _) = W5 at *
      clear hW5
      obtain ⟨⟨y0, y1, y2, y3, y4, y5, y6, y7, y8⟩, z0, z1, z2, z3, z4, z5, z6, z7, z8⟩ := nine_of HP5.out
      obtain ⟨⟨t0, t1, t2, t3, t4, t5, t6, t7, t8⟩, _⟩ := nine_of HQ5.out
      have l0 := lt_of_block HP5.out
      have l1 := lt_of_block HQ5.out
      go_wp2_with fail
      exact ask_ret2 (x := ⟨k0, un, ep, pg, sz, nn, s, pe, L, ao, cap⟩) (c := true) rfl (nine_put HP5.out (.int .i64 k0) (.int .i64 un) (.int .i64 ep) (.int .i64 pg) (.int .i64 sz) (.int .i64 nn) (.string s) (.int .i64 pe) (.slice ao L.length cap)) rfl rfl rfl ⟨_, rfl, HPL.out, HBX.out W2 W5 _ HB4.out HL.out (by omega) (nine_set W5 w.heap.size (.int .i64 k0) (.int .i64 un) (.int .i64 ep) (.int .i64 pg) (.int .i64 sz) (.int .i64 nn) (.string s) (.int .i64 pe) (.slice ao L.length cap))⟩
  · have hne : ¬ vc = k + 1 := by omega
    go_region_law (first
      | (refine step_app_held rfl (.tmp 44) (.tmp 51) rfl rfl HROW.out (N := l.drop (k + 1)) (m := l.length - (k + 1)) (ad := ⟨g, (k + 1) * 9, none⟩) (cap := vc - (k + 1)) HLD.out rfl (Row.keep HTAIL.out (Kept.refl (fun _ => True) W3).drew (fun _ _ => trivial)) (by omega) (by omega) (by rw [HLT.out]; omega) ?_; intro v2 w2 hI hg2 hv2; rw [HDL.out] at hI; obtain ⟨a2, n2, hw2, _, _, _, _, _, _⟩ := hI.form ask_rows; subst hw2; have HL := Lib.hid (HLY.out W2 w2 _ HB4.out (HK4.out.drew.grown hg2 (fun j e h => h (Option.some.inj e).symm)) (.inl hI) (fun j e => (hv2 j e).imp id (fun h => by have h5 : W3.heap.size ≤ j := h; omega))); have K24 : Kept (fun j => j ≠ g) W3 w2 := ((Kept.refl _ W3).drew).grown hg2 (fun j e h => h (Option.some.inj e).symm); have HB5 := Lib.hid (K24.heap (b := b) (fun e => hgb e.symm) HH4.out); have qc := (two_cells HB5.out).2.1; have qf := (two_cells HB5.out).2.2.2; have qr := lt_of_block HB5.out; have HP5 := Lib.hid (((Kept.refl (fun j => j ≠ b) w2).setCell (p := ⟨b, 1, none⟩) (fun h => h rfl) (Value.slice a2 (lessK l k).length n2)).heap (b := w.heap.size) (by omega) (K24.heap (b := w.heap.size) (by omega) HP3.out)); have HQ5 := Lib.hid (((Kept.refl (fun j => j ≠ b) w2).setCell (p := ⟨b, 1, none⟩) (fun h => h rfl) (Value.slice a2 (lessK l k).length n2)).heap (b := w.heap.size + 1) (by omega) (K24.heap (b := w.heap.size + 1) (by omega) HQ3.out)); clear K24; clear hI hg2 hv2))
    all_goals
      generalize hW5 : World.setCell _ _ _ = W5 at *
      clear hW5
      obtain ⟨⟨y0, y1, y2, y3, y4, y5, y6, y7, y8⟩, z0, z1, z2, z3, z4, z5, z6, z7, z8⟩ := nine_of HP5.out
      obtain ⟨⟨t0, t1, t2, t3, t4, t5, t6, t7, t8⟩, _⟩ := nine_of HQ5.out
      have l0 := lt_of_block HP5.out
      have l1 := lt_of_block HQ5.out
      go_wp2_with fail
      exact ask_ret2 (x := ⟨k0, un, ep, pg, sz, nn, s, pe, L, ao, cap⟩) (c := true) rfl (nine_put HP5.out (.int .i64 k0) (.int .i64 un) (.int .i64 ep) (.int .i64 pg) (.int .i64 sz) (.int .i64 nn) (.string s) (.int .i64 pe) (.slice ao L.length cap)) rfl rfl rfl ⟨_, rfl, HPL.out, HBX.out W2 W5 _ HB4.out HL.out (by omega) (nine_set W5 w.heap.size (.int .i64 k0) (.int .i64 un) (.int .i64 ep) (.int .i64 pg) (.int .i64 sz) (.int .i64 nn) (.string s) (.int .i64 pe) (.slice ao L.length cap))⟩
end
end Go.Proofs.YtchhmfdalghgcaaGreat
namespace Go.Proofs.YtchhmfdalghgcaaGreat
set_option linter.unusedVariables false
open Go.RowKit
set_option maxRecDepth 20000
/-- an answer was boxed: what lies where -/
theorem tns_start {b : Nat} {G : Nat → Prop} {w : World} {t : Tl} (h : TM b G w t) (xc xn : Int) (xd : ByteArray) (xe : Int) (xo : Option Addr) (n xp : Nat) (xm xs xy : Int) {w1 : World} (hw : w.alloc (.cells #[.int .i64 xc, .int .i64 xn, .string xd, .int .i64 xe, .slice xo n xp, .int .i64 xm, .int .i64 xs, .int .i64 xy] 33) = w1) :
    Hid (∀ k, G k → k < w.heap.size) ∧ Hid (Below w.heap.size w w1) ∧ Hid (w1.heap[w.heap.size]? = some (.cells #[.int .i64 xc, .int .i64 xn, .string xd, .int .i64 xe, .slice xo n xp, .int .i64 xm, .int .i64 xs, .int .i64 xy] 33 (0, 0))) ∧ Hid (TM b G w1 t) ∧
    (w1.cell? ⟨w.heap.size, 0, none⟩ = some (.int .i64 xc) ∧ w1.cell? ⟨w.heap.size, 1, none⟩ = some (.int .i64 xn) ∧ w1.cell? ⟨w.heap.size, 2, none⟩ = some (.string xd) ∧ w1.cell? ⟨w.heap.size, 3, none⟩ = some (.int .i64 xe) ∧ w1.cell? ⟨w.heap.size, 4, none⟩ = some (.slice xo n xp) ∧ w1.cell? ⟨w.heap.size, 5, none⟩ = some (.int .i64 xm) ∧ w1.cell? ⟨w.heap.size, 6, none⟩ = some (.int .i64 xs) ∧ w1.cell? ⟨w.heap.size, 7, none⟩ = some (.int .i64 xy)) ∧
    ∃ ao cap, (w1.cell? ⟨b, 0, none⟩ = some (.int .i64 t.ep) ∧ w1.cell? ⟨b, 1, none⟩ = some (.slice ao t.L.length cap) ∧ w1.cell? ⟨b, 2, none⟩ = some (.int .i64 (t.at_ - 1)) ∧ w1.cell? ⟨b, 3, none⟩ = some (.int .i64 t.n) ∧ w1.cell? ⟨b, 4, none⟩ = some (.int .i64 t.e)) ∧ (w1.frozen? ⟨b, 0, none⟩ = false ∧ w1.frozen? ⟨b, 1, none⟩ = false ∧ w1.frozen? ⟨b, 2, none⟩ = false ∧ w1.frozen? ⟨b, 3, none⟩ = false ∧ w1.frozen? ⟨b, 4, none⟩ = false) ∧ b < w1.heap.size ∧ Hid (CL w1 ao t.L) ∧ Hid (w1.heap[b]? = some (.cells #[.int .i64 t.ep, .slice ao t.L.length cap, .int .i64 (t.at_ - 1), .int .i64 t.n, .int .i64 t.e] 83 (0, 0))) ∧
    Hid (∀ (W : World) (t' : Tl), Kept (fun k => k ≠ b) w1 W → t'.L = t.L → t'.ok → W.heap[b]? = some (.cells #[.int .i64 t'.ep, .slice ao t.L.length cap, .int .i64 (t'.at_ - 1), .int .i64 t'.n, .int .i64 t'.e] 83 (0, 0)) → Leaves (TM b) G w1 W t') := by
  subst hw
  have HB := below_new w (.cells #[.int .i64 xc, .int .i64 xn, .string xd, .int .i64 xe, .slice xo n xp, .int .i64 xm, .int .i64 xs, .int .i64 xy] 33)
  have HX := heap_alloc_new w (.cells #[.int .i64 xc, .int .i64 xn, .string xd, .int .i64 xe, .slice xo n xp, .int .i64 xm, .int .i64 xs, .int .i64 xy] 33)
  have HA := h.below HB
  obtain ⟨ao, cap, h1, hc1, h3⟩ := HA.open
  obtain ⟨k1, k2⟩ := fv_of h1
  exact ⟨Lib.hid (fun k hk => (tm_thing b).lt h k hk), Lib.hid HB, Lib.hid HX, Lib.hid HA, (eight_cells HX).1, ao, cap, k1, k2, lt_of_block h1, Lib.hid hc1, Lib.hid h1, Lib.hid h3⟩
/-- the world has gone on -/
theorem tns_open {b : Nat} {G : Nat → Prop} {w1 : World} {t : Tl} (h : TM b G w1 t) :
    ∃ ao cap, (w1.cell? ⟨b, 0, none⟩ = some (.int .i64 t.ep) ∧ w1.cell? ⟨b, 1, none⟩ = some (.slice ao t.L.length cap) ∧ w1.cell? ⟨b, 2, none⟩ = some (.int .i64 (t.at_ - 1)) ∧ w1.cell? ⟨b, 3, none⟩ = some (.int .i64 t.n) ∧ w1.cell? ⟨b, 4, none⟩ = some (.int .i64 t.e)) ∧ (w1.frozen? ⟨b, 0, none⟩ = false ∧ w1.frozen? ⟨b, 1, none⟩ = false ∧ w1.frozen? ⟨b, 2, none⟩ = false ∧ w1.frozen? ⟨b, 3, none⟩ = false ∧ w1.frozen? ⟨b, 4, none⟩ = false) ∧ b < w1.heap.size ∧ Hid (CL w1 ao t.L) ∧ Hid (w1.heap[b]? = some (.cells #[.int .i64 t.ep, .slice ao t.L.length cap, .int .i64 (t.at_ - 1), .int .i64 t.n, .int .i64 t.e] 83 (0, 0))) ∧
    Hid (∀ (W : World) (t' : Tl), Kept (fun k => k ≠ b) w1 W → t'.L = t.L → t'.ok → W.heap[b]? = some (.cells #[.int .i64 t'.ep, .slice ao t.L.length cap, .int .i64 (t'.at_ - 1), .int .i64 t'.n, .int .i64 t'.e] 83 (0, 0)) → Leaves (TM b) G w1 W t') := by
  obtain ⟨ao, cap, h1, hc1, h3⟩ := h.open
  obtain ⟨k1, k2⟩ := fv_of h1
  exact ⟨ao, cap, k1, k2, lt_of_block h1, Lib.hid hc1, Lib.hid h1, Lib.hid h3⟩
set_option maxHeartbeats 2000000 in
theorem th_no (b : Nat) (G : Nat → Prop) (w : World) (t : Tl) (xc xn : Int) (xd : ByteArray) (xe : Int) (xL : List (List Int)) (xm xs xy : Int) (xo : Option Addr) (xp : Nat) (h : TM b G w t) :
    Calls Tryz.prog 17 #[ptrP b, .agg #[.int .i64 xc, .int .i64 xn, .string xd, .int .i64 xe, .slice xo xL.length xp, .int .i64 xm, .int .i64 xs, .int .i64 xy], .bool false] w fun e w' => e = .returned (.tuple #[]) ∧ Leaves (TM b) G w w' (t) := by
  have h0 := h.ok
  obtain ⟨HG, HB, HX, HA, ⟨x0, x1, x2, x3, x4, x5, x6, x7⟩, ao, cap, ⟨c0, c1, c2, c3, c4⟩, ⟨f0, f1, f2, f3, f4⟩, hb, HC1, H1, H3⟩ := tns_start h xc xn xd xe xo xL.length xp xm xs xy rfl
  clear h
  unfold ptrP at *
  go_enter Tryz.func17, Tryz.ntmps17
  go_wp2_with fail
  generalize w.alloc _ = w1 at *
  refine wp_scope_straight ?_
  go_wp2_with fail
  rw [Exit.noGoto_ret]
  exact bodyPost_ret (results_none rfl _ _ _) rfl ⟨rfl, (Leaves.same (tm_thing b) HA.out (Below.refl _ _)).ahead HG.out HB.out⟩
set_option maxHeartbeats 2000000 in
theorem th_over (b : Nat) (G : Nat → Prop) (w : World) (t : Tl) (xc xn : Int) (xd : ByteArray) (xe : Int) (xL : List (List Int)) (xm xs xy : Int) (xo : Option Addr) (xp : Nat) (h : TM b G w t) (ha : t.at_ = 3) :
    Calls Tryz.prog 17 #[ptrP b, .agg #[.int .i64 xc, .int .i64 xn, .string xd, .int .i64 xe, .slice xo xL.length xp, .int .i64 xm, .int .i64 xs, .int .i64 xy], .bool true] w fun e w' => e = .returned (.tuple #[]) ∧ Leaves (TM b) G w w' (t) := by
  have h0 := h.ok
  obtain ⟨HG, HB, HX, HA, ⟨x0, x1, x2, x3, x4, x5, x6, x7⟩, ao, cap, ⟨c0, c1, c2, c3, c4⟩, ⟨f0, f1, f2, f3, f4⟩, hb, HC1, H1, H3⟩ := tns_start h xc xn xd xe xo xL.length xp xm xs xy rfl
  have C := Lib.hid (fun w (h : TM b G w t) => tp_isOver b G w t h)
  rw [decide_eq_true ha] at C
  clear h
  unfold ptrP at *
  go_enter Tryz.func17, Tryz.ntmps17
  go_wp2_with fail
  generalize w.alloc _ = w1 at *
  refine wp_scope_straight ?_
  go_wp2_with (go_at_call 34; refine (C.out _ HA.out).mono ?_; rintro e w9 ⟨rfl, rfl⟩)
  rw [Exit.noGoto_ret]
  exact bodyPost_ret (results_none rfl _ _ _) rfl ⟨rfl, (Leaves.same (tm_thing b) HA.out (Below.refl _ _)).ahead HG.out HB.out⟩
set_option maxHeartbeats 2000000 in
theorem th_stay45 (b : Nat) (G : Nat → Prop) (w : World) (t : Tl) (xc xn : Int) (xd : ByteArray) (xe : Int) (xL : List (List Int)) (xm xs xy : Int) (xo : Option Addr) (xp : Nat) (h : TM b G w t) (ha : ¬ t.at_ = 3) :
    Calls Tryz.prog 17 #[ptrP b, .agg #[.int .i64 45, .int .i64 xn, .string xd, .int .i64 xe, .slice xo xL.length xp, .int .i64 xm, .int .i64 xs, .int .i64 xy], .bool true] w fun e w' => e = .returned (.tuple #[]) ∧ Leaves (TM b) G w w' (t) := by
  have h0 := h.ok
  obtain ⟨HG, HB, HX, HA, ⟨x0, x1, x2, x3, x4, x5, x6, x7⟩, ao, cap, ⟨c0, c1, c2, c3, c4⟩, ⟨f0, f1, f2, f3, f4⟩, hb, HC1, H1, H3⟩ := tns_start h 45 xn xd xe xo xL.length xp xm xs xy rfl
  have C := Lib.hid (fun w (h : TM b G w t) => tp_isOver b G w t h)
  rw [decide_eq_false (p := t.at_ = 3) (by omega)] at C
  clear h
  unfold ptrP at *
  go_enter Tryz.func17, Tryz.ntmps17
  go_wp2_with fail
  generalize w.alloc _ = w1 at *
  refine wp_scope_straight ?_
  go_wp2_with (go_at_call 34; refine (C.out _ HA.out).mono ?_; rintro e w9 ⟨rfl, rfl⟩)
  rw [Exit.noGoto_ret]
  exact bodyPost_ret (results_none rfl _ _ _) rfl ⟨rfl, (Leaves.same (tm_thing b) HA.out (Below.refl _ _)).ahead HG.out HB.out⟩
set_option maxHeartbeats 2000000 in
theorem th_stay47 (b : Nat) (G : Nat → Prop) (w : World) (t : Tl) (xc xn : Int) (xd : ByteArray) (xe : Int) (xL : List (List Int)) (xm xs xy : Int) (xo : Option Addr) (xp : Nat) (h : TM b G w t) (ha : ¬ t.at_ = 3) :
    Calls Tryz.prog 17 #[ptrP b, .agg #[.int .i64 47, .int .i64 xn, .string xd, .int .i64 xe, .slice xo xL.length xp, .int .i64 xm, .int .i64 xs, .int .i64 xy], .bool true] w fun e w' => e = .returned (.tuple #[]) ∧ Leaves (TM b) G w w' (t) := by
  have h0 := h.ok
  obtain ⟨HG, HB, HX, HA, ⟨x0, x1, x2, x3, x4, x5, x6, x7⟩, ao, cap, ⟨c0, c1, c2, c3, c4⟩, ⟨f0, f1, f2, f3, f4⟩, hb, HC1, H1, H3⟩ := tns_start h 47 xn xd xe xo xL.length xp xm xs xy rfl
  have C := Lib.hid (fun w (h : TM b G w t) => tp_isOver b G w t h)
  rw [decide_eq_false (p := t.at_ = 3) (by omega)] at C
  clear h
  unfold ptrP at *
  go_enter Tryz.func17, Tryz.ntmps17
  go_wp2_with fail
  generalize w.alloc _ = w1 at *
  refine wp_scope_straight ?_
  go_wp2_with (go_at_call 34; refine (C.out _ HA.out).mono ?_; rintro e w9 ⟨rfl, rfl⟩)
  rw [Exit.noGoto_ret]
  exact bodyPost_ret (results_none rfl _ _ _) rfl ⟨rfl, (Leaves.same (tm_thing b) HA.out (Below.refl _ _)).ahead HG.out HB.out⟩
set_option maxHeartbeats 2000000 in
theorem th_seal (b : Nat) (G : Nat → Prop) (w : World) (t : Tl) (xc xn : Int) (xd : ByteArray) (xe : Int) (xL : List (List Int)) (xm xs xy : Int) (xo : Option Addr) (xp : Nat) (h : TM b G w t) (ha : ¬ t.at_ = 3) :
    Calls Tryz.prog 17 #[ptrP b, .agg #[.int .i64 40, .int .i64 xn, .string xd, .int .i64 xe, .slice xo xL.length xp, .int .i64 xm, .int .i64 xs, .int .i64 xy], .bool true] w fun e w' => e = .returned (.tuple #[]) ∧ Leaves (TM b) G w w' (⟨t.ep, t.L, 1, t.n, t.e⟩) := by
  have h0 := h.ok
  obtain ⟨HG, HB, HX, HA, ⟨x0, x1, x2, x3, x4, x5, x6, x7⟩, ao, cap, ⟨c0, c1, c2, c3, c4⟩, ⟨f0, f1, f2, f3, f4⟩, hb, HC1, H1, H3⟩ := tns_start h 40 xn xd xe xo xL.length xp xm xs xy rfl
  have C := Lib.hid (fun w (h : TM b G w t) => tp_isOver b G w t h)
  rw [decide_eq_false (p := t.at_ = 3) (by omega)] at C
  clear h
  unfold ptrP at *
  go_enter Tryz.func17, Tryz.ntmps17
  go_wp2_with fail
  generalize w.alloc _ = w1 at *
  refine wp_scope_one 0 rfl ?_
  generalize hQ : Exit.jump _ _ _ = QJ
  go_wp2_with (go_at_call 34; refine (C.out _ HA.out).mono ?_; rintro e w9 ⟨rfl, rfl⟩)
  go_step3
  show QJ (.goto 0) _ _
  rw [← hQ]
  refine jump_one ?_
  go_wp2_with fail
  rw [Exit.noGoto_ret]
  exact bodyPost_ret (results_none rfl _ _ _) rfl ⟨rfl, (H3.out _ ⟨t.ep, t.L, 1, t.n, t.e⟩ ((Kept.refl _ _).setCell (p := ⟨b, 2, none⟩) (fun h => h rfl) _) rfl ⟨(by decide : (1 : Int) ≤ 1), (by decide : (1 : Int) ≤ 3), h0.2.2⟩ (fvset2 H1.out _)).ahead HG.out HB.out⟩
set_option maxHeartbeats 2000000 in
theorem th_tail (b : Nat) (G : Nat → Prop) (w : World) (t : Tl) (xc xn : Int) (xd : ByteArray) (xe : Int) (xL : List (List Int)) (xm xs xy : Int) (xo : Option Addr) (xp : Nat) (h : TM b G w t) (ha : t.at_ = 2) (n45 : ¬ xc = 45) (n47 : ¬ xc = 47) (n40 : ¬ xc = 40) :
    Calls Tryz.prog 17 #[ptrP b, .agg #[.int .i64 xc, .int .i64 xn, .string xd, .int .i64 xe, .slice xo xL.length xp, .int .i64 xm, .int .i64 xs, .int .i64 xy], .bool true] w fun e w' => e = .returned (.tuple #[]) ∧ Leaves (TM b) G w w' (t.fin xn xc) := by
  have h0 := h.ok
  obtain ⟨HG, HB, HX, HA, ⟨x0, x1, x2, x3, x4, x5, x6, x7⟩, ao, cap, ⟨c0, c1, c2, c3, c4⟩, ⟨f0, f1, f2, f3, f4⟩, hb, HC1, H1, H3⟩ := tns_start h xc xn xd xe xo xL.length xp xm xs xy rfl
  have C := Lib.hid (fun w (h : TM b G w t) => tp_isOver b G w t h)
  rw [decide_eq_false (p := t.at_ = 3) (by omega)] at C
  have e45 : (xc == 45) = false := by simpa using n45
  have e47 : (xc == 47) = false := by simpa using n47
  have e40 : (xc == 40) = false := by simpa using n40
  rw [ha] at c2
  clear h
  unfold ptrP at *
  go_enter Tryz.func17, Tryz.ntmps17
  go_wp2_with fail
  generalize w.alloc _ = w1 at *
  refine wp_scope_one 1 rfl ?_
  generalize hQ : Exit.jump _ _ _ = QJ
  go_wp2_with (go_at_call 34; refine (C.out _ HA.out).mono ?_; rintro e w9 ⟨rfl, rfl⟩)
  go_step3
  show QJ (.goto 1) _ _
  rw [← hQ]
  refine jump_one ?_
  go_wp2_with (go_at_call 33; refine (tp_end b _ _ t _ _ HA.out).mono ?_; rintro e w9 ⟨rfl, hl⟩; have HL9 := Lib.hid hl; clear hl)
  rw [noGoto_normal]
  go_end0
  exact ⟨rfl, HL9.out.ahead HG.out HB.out⟩
set_option maxHeartbeats 2000000 in
theorem th_err (b : Nat) (G : Nat → Prop) (w : World) (t : Tl) (xc xn : Int) (xd : ByteArray) (xe : Int) (xL : List (List Int)) (xm xs xy : Int) (xo : Option Addr) (xp : Nat) (h : TM b G w t) (ha : t.at_ = 1) (n45 : ¬ xc = 45) (n47 : ¬ xc = 47) (n40 : ¬ xc = 40) (n0 : ¬ xc = 0) :
    Calls Tryz.prog 17 #[ptrP b, .agg #[.int .i64 xc, .int .i64 xn, .string xd, .int .i64 xe, .slice xo xL.length xp, .int .i64 xm, .int .i64 xs, .int .i64 xy], .bool true] w fun e w' => e = .returned (.tuple #[]) ∧ Leaves (TM b) G w w' (⟨t.ep, t.L, 1, t.n, t.e⟩) := by
  have h0 := h.ok
  obtain ⟨HG, HB, HX, HA, ⟨x0, x1, x2, x3, x4, x5, x6, x7⟩, ao, cap, ⟨c0, c1, c2, c3, c4⟩, ⟨f0, f1, f2, f3, f4⟩, hb, HC1, H1, H3⟩ := tns_start h xc xn xd xe xo xL.length xp xm xs xy rfl
  have C := Lib.hid (fun w (h : TM b G w t) => tp_isOver b G w t h)
  rw [decide_eq_false (p := t.at_ = 3) (by omega)] at C
  have e45 : (xc == 45) = false := by simpa using n45
  have e47 : (xc == 47) = false := by simpa using n47
  have e40 : (xc == 40) = false := by simpa using n40
  have e0 : (xc == 0) = false := by simpa using n0
  rw [ha] at c2
  clear h
  unfold ptrP at *
  go_enter Tryz.func17, Tryz.ntmps17
  go_wp2_with fail
  generalize w.alloc _ = w1 at *
  refine wp_scope_straight ?_
  go_wp2_with (go_at_call 34; refine (C.out _ HA.out).mono ?_; rintro e w9 ⟨rfl, rfl⟩)
  go_step3
  go_wp2_with fail
  rw [Exit.noGoto_ret]
  exact bodyPost_ret (results_none rfl _ _ _) rfl ⟨rfl, (H3.out _ ⟨t.ep, t.L, 1, t.n, t.e⟩ ((Kept.refl _ _).setCell (p := ⟨b, 2, none⟩) (fun h => h rfl) _) rfl ⟨(by decide : (1 : Int) ≤ 1), (by decide : (1 : Int) ≤ 3), h0.2.2⟩ (fvset2 H1.out _)).ahead HG.out HB.out⟩
set_option maxHeartbeats 2000000 in
theorem th_bad (b : Nat) (G : Nat → Prop) (w : World) (t : Tl) (xc xn : Int) (xd : ByteArray) (xe : Int) (xL : List (List Int)) (xm xs xy : Int) (xo : Option Addr) (xp : Nat) (h : TM b G w t) (ha : t.at_ = 1) (hg : goodB xe xL = false) (hf : fewL xL) (hx : CL w xo xL) :
    Calls Tryz.prog 17 #[ptrP b, .agg #[.int .i64 0, .int .i64 xn, .string xd, .int .i64 xe, .slice xo xL.length xp, .int .i64 xm, .int .i64 xs, .int .i64 xy], .bool true] w fun e w' => e = .returned (.tuple #[]) ∧ Leaves (TM b) G w w' (⟨t.ep, t.L, 1, t.n, t.e⟩) := by
  have h0 := h.ok
  obtain ⟨HG, HB, HX, HA, ⟨x0, x1, x2, x3, x4, x5, x6, x7⟩, ao, cap, ⟨c0, c1, c2, c3, c4⟩, ⟨f0, f1, f2, f3, f4⟩, hb, HC1, H1, H3⟩ := tns_start h 0 xn xd xe xo xL.length xp xm xs xy rfl
  have C := Lib.hid (fun w (h : TM b G w t) => tp_isOver b G w t h)
  rw [decide_eq_false (p := t.at_ = 3) (by omega)] at C
  have HC := Lib.hid (hx.below HB.out)
  have CG := Lib.hid (fun W (hC : CL W xo xL) => pgood_any xe xo xp xL W hC hf)
  rw [hg] at CG
  clear hf hx
  rw [ha] at c2
  clear h
  unfold ptrP at *
  go_enter Tryz.func17, Tryz.ntmps17
  go_wp2_with fail
  generalize w.alloc _ = w1 at *
  refine wp_scope_straight ?_
  go_wp2_with (first | (go_at_call 34; refine (C.out _ HA.out).mono ?_; rintro e w9 ⟨rfl, rfl⟩) | (go_at_call 32; refine (CG.out _ HC.out).mono ?_; rintro e w2 ⟨rfl, hb2⟩; have HC2 := Lib.hid (HC.out.below hb2); have HB2 := Lib.hid (HB.out.trans (hb2.mono HB.out.size)); have HA2 := Lib.hid (HA.out.below hb2); have HX2 := Lib.hid (below_heap hb2 HX.out); clear x0 x1 x2 x3 x4 x5 x6 x7 c0 c1 c2 c3 c4 f0 f1 f2 f3 f4 hb HC1 H1 H3; obtain ⟨⟨x0, x1, x2, x3, x4, x5, x6, x7⟩, _⟩ := eight_cells HX2.out; obtain ⟨ao, cap, ⟨c0, c1, c2, c3, c4⟩, ⟨f0, f1, f2, f3, f4⟩, hb, HC1, H1, H3⟩ := tns_open HA2.out; rw [ha] at c2; clear hb2))
  go_step3
  go_wp2_with fail
  rw [Exit.noGoto_ret]
  exact bodyPost_ret (results_none rfl _ _ _) rfl ⟨rfl, (H3.out _ ⟨t.ep, t.L, 1, t.n, t.e⟩ ((Kept.refl _ _).setCell (p := ⟨b, 2, none⟩) (fun h => h rfl) _) rfl ⟨(by decide : (1 : Int) ≤ 1), (by decide : (1 : Int) ≤ 3), h0.2.2⟩ (fvset2 H1.out _)).ahead HG.out HB2.out⟩
set_option maxHeartbeats 2000000 in
theorem th_copy (b : Nat) (G : Nat → Prop) (w : World) (t : Tl) (xc xn : Int) (xd : ByteArray) (xe : Int) (xL : List (List Int)) (xm xs xy : Int) (xo : Option Addr) (xp : Nat) (h : TM b G w t) (ha : t.at_ = 1) (hg : goodB xe xL = true) (hf : fewL xL) (hx : CL w xo xL) :
    Calls Tryz.prog 17 #[ptrP b, .agg #[.int .i64 0, .int .i64 xn, .string xd, .int .i64 xe, .slice xo xL.length xp, .int .i64 xm, .int .i64 xs, .int .i64 xy], .bool true] w fun e w' => e = .returned (.tuple #[]) ∧ Leaves (TM b) G w w' (⟨xe, xL, 2, t.n, t.e⟩) := by
  have h0 := h.ok
  obtain ⟨HG, HB, HX, HA, ⟨x0, x1, x2, x3, x4, x5, x6, x7⟩, ao, cap, ⟨c0, c1, c2, c3, c4⟩, ⟨f0, f1, f2, f3, f4⟩, hb, HC1, H1, H3⟩ := tns_start h 0 xn xd xe xo xL.length xp xm xs xy rfl
  have C := Lib.hid (fun w (h : TM b G w t) => tp_isOver b G w t h)
  rw [decide_eq_false (p := t.at_ = 3) (by omega)] at C
  have HC := Lib.hid (hx.below HB.out)
  have CG := Lib.hid (fun W (hC : CL W xo xL) => pgood_any xe xo xp xL W hC hf)
  rw [hg] at CG
  have CC := Lib.hid (fun W (hC : CL W xo xL) => copyO_any xe xo xp xL W hC hf)
  have HF := Lib.hid hf
  clear hf hx
  rw [ha] at c2
  clear h
  unfold ptrP at *
  go_enter Tryz.func17, Tryz.ntmps17
  go_wp2_with fail
  generalize w.alloc _ = w1 at *
  refine wp_scope_one 2 rfl ?_
  generalize hQ : Exit.jump _ _ _ = QJ
  go_wp2_with (first | (go_at_call 34; refine (C.out _ HA.out).mono ?_; rintro e w9 ⟨rfl, rfl⟩) | (go_at_call 32; refine (CG.out _ HC.out).mono ?_; rintro e w2 ⟨rfl, hb2⟩; have HC2 := Lib.hid (HC.out.below hb2); have HB2 := Lib.hid (HB.out.trans (hb2.mono HB.out.size)); have HA2 := Lib.hid (HA.out.below hb2); have HX2 := Lib.hid (below_heap hb2 HX.out); clear x0 x1 x2 x3 x4 x5 x6 x7 c0 c1 c2 c3 c4 f0 f1 f2 f3 f4 hb HC1 H1 H3; obtain ⟨⟨x0, x1, x2, x3, x4, x5, x6, x7⟩, _⟩ := eight_cells HX2.out; obtain ⟨ao, cap, ⟨c0, c1, c2, c3, c4⟩, ⟨f0, f1, f2, f3, f4⟩, hb, HC1, H1, H3⟩ := tns_open HA2.out; rw [ha] at c2; clear hb2))
  go_step3
  show QJ (.goto 2) _ _
  rw [← hQ]
  refine jump_one ?_
  go_wp2_with (go_at_call 31; refine (CC.out _ HC2.out).mono ?_; rintro e w3 ⟨v, rfl, hO, hb3⟩; obtain ⟨vo, vc, hv, _⟩ := hO.form; subst hv; have HO := Lib.hid hO; have HB3 := Lib.hid hb3; have HR := Lib.hid (below_heap hb3 H1.out); clear f0 f1 f2 f3 f4; obtain ⟨_, f0, f1, f2, f3, f4⟩ := fv_of HR.out; have hb := lt_of_block HR.out; clear hO hb3)
  rw [Exit.noGoto_ret]
  exact bodyPost_ret (results_none rfl _ _ _) rfl ⟨rfl, (HA2.out.chains (t' := ⟨xe, xL, 2, t.n, t.e⟩) HB3.out HO.out ((((Kept.refl _ _).setCell (p := ⟨b, 0, none⟩) (fun h => h rfl) _).setCell (p := ⟨b, 1, none⟩) (fun h => h rfl) _).setCell (p := ⟨b, 2, none⟩) (fun h => h rfl) _) ⟨(by decide : (1 : Int) ≤ 2), (by decide : (2 : Int) ≤ 3), HF.out⟩ (fvset2 (fvset1 (fvset0 HR.out _) _) _)).ahead HG.out HB2.out⟩
theorem tp_hear (b : Nat) (G : Nat → Prop) (w : World) (t : Tl) (x : An) (xo : Option Addr) (xp : Nat) (c : Bool) (h : TM b G w t) (hf : fewL x.L) (hx : CL w xo x.L) :
    Calls Tryz.prog 17 #[ptrP b, ansV x xo xp, .bool c] w fun e w' => e = .returned (.tuple #[]) ∧ Leaves (TM b) G w w' (t.hear x c) := by
  obtain ⟨xc, xn, xd, xe, xL, xm, xs, xy⟩ := x
  show Calls _ _ #[ptrP b, .agg #[.int .i64 xc, .int .i64 xn, .string xd, .int .i64 xe, .slice xo xL.length xp, .int .i64 xm, .int .i64 xs, .int .i64 xy], .bool c] w _
  have h0 := h.ok
  have h01 := h0.1
  have h02 := h0.2.1
  unfold Tl.hear
  dsimp only at *
  cases c with
  | false =>
    rw [if_pos (.inr (.inl rfl))]
    exact th_no b G w t xc xn xd xe xL xm xs xy xo xp h
  | true =>
    by_cases a3 : t.at_ = 3
    · rw [if_pos (.inl a3)]
      exact th_over b G w t xc xn xd xe xL xm xs xy xo xp h a3
    · by_cases c45 : xc = 45
      · subst c45
        rw [if_pos (.inr (.inr (.inl rfl)))]
        exact th_stay45 b G w t 0 xn xd xe xL xm xs xy xo xp h a3
      · by_cases c47 : xc = 47
        · subst c47
          rw [if_pos (.inr (.inr (.inr rfl)))]
          exact th_stay47 b G w t 0 xn xd xe xL xm xs xy xo xp h a3
        · rw [if_neg (fun e => e.elim a3 (fun e => e.elim Bool.noConfusion (fun e => e.elim c45 c47)))]
          by_cases c40 : xc = 40
          · subst c40
            rw [if_pos rfl]
            exact th_seal b G w t 0 xn xd xe xL xm xs xy xo xp h a3
          · rw [if_neg c40]
            by_cases a1 : t.at_ = 1
            · rw [if_pos a1]
              have e1 : (⟨t.ep, t.L, 1, t.n, t.e⟩ : Tl) = t := by cases t; cases a1; rfl
              by_cases c0 : xc = 0
              · subst c0
                cases hg : goodB xe xL with
                | true => rw [if_pos ⟨rfl, rfl⟩]; exact th_copy b G w t 0 xn xd xe xL xm xs xy xo xp h a1 hg hf hx
                | false => rw [if_neg (fun e => Bool.noConfusion e.2)]; have T := th_bad b G w t 0 xn xd xe xL xm xs xy xo xp h a1 hg hf hx; rw [e1] at T; exact T
              · rw [if_neg (fun e => c0 e.1)]
                have T := th_err b G w t xc xn xd xe xL xm xs xy xo xp h a1 c45 c47 c40 c0
                rw [e1] at T
                exact T
            · rw [if_neg a1]
              exact th_tail b G w t xc xn xd xe xL xm xs xy xo xp h (by omega) c45 c47 c40
end Go.Proofs.YtchhmfdalghgcaaGreat
namespace Go.Proofs.YtchhmfdalghgcaaGreat
set_option linter.unusedVariables false
open Go.RowKit
theorem rpcSays : RpcSays UM OM LM (RM UM OM LM) := rpcSays_of ⟨unitSays, orderSays, laySays⟩ (fun w a h => do_nil w a h)
end Go.Proofs.YtchhmfdalghgcaaGreat
namespace Go.Proofs.YtchhmfdalghgcaaGreat
set_option linter.unusedVariables false
open Go.RowKit
set_option maxRecDepth 20000
section
variable {α : Type} {T : (Nat → Prop) → World → α → Prop} {X : Nat → Prop} {w w' : World} {a : α}
theorem side_rightX {β : Type} {U : (Nat → Prop) → World → β → Prop} {b b' : β} {P : Program} {fn : FuncId} {args : Array Value} {R : Ending → Prop} (hT : Thing T) (h : Side T U X w a b) (hc : ∀ G : Nat → Prop, U G w b → (∀ k, X k → ¬ G k) → Calls P fn args w fun e w' => R e ∧ Leaves U G w w' b') :
    Calls P fn args w fun e w' => R e ∧ Side T U X w' a b' ∧ Kept X w w' := by
  obtain ⟨h1, F, G, h2, h3, h4, h5⟩ := h
  refine (hc G h3 (fun k hk => (h4 k hk).2)).mono ?_
  rintro e w' ⟨he, G', r1, r2, r3⟩
  refine ⟨he, ⟨fun k hk => Nat.lt_of_lt_of_le (h1 k hk) r2.size, F, G', hT.keep h2 r2 (fun k hf hg => h5 k hf hg), r1, fun k hk => ⟨(h4 k hk).1, fun hg => ?_⟩, fun k hf hg => ?_⟩, r2.mono (fun k hk => (h4 k hk).2)⟩
  · rcases r3 k hg with h | h
    · exact (h4 k hk).2 h
    · have := h1 k hk; omega
  · rcases r3 k hg with h | h
    · exact h5 k hf h
    · have := hT.lt h2 k hf; omega
theorem cg_clT {F : Nat → Prop} {W : World} {ao : Option Addr} {n cap : Nat} {L : List (List Int)} (h : CG F W (.slice ao n cap) L) : CL W ao L := by
  obtain ⟨a2, c2, hv, h2, _⟩ := h.cl
  rw [(Value.slice.inj hv).1]
  exact h2
end
section
variable {UG : Nat → Nat → (Nat → Prop) → World → Us → Prop} {OG : Nat → (Nat → Prop) → World → Od → Prop} {LG : Nat → (Nat → Prop) → World → Ly → Prop} {NG : Nat → (Nat → Prop) → World → Nd → Prop} {HG : Nat → Nat → (Nat → Prop) → World → Hd → Prop} {X : Nat → Prop} {w : World} {b nb : Nat} {h : Hd}
/-- a question without chains beside another thing, whatever is told -/
theorem hs_tell {β : Type} {U : (Nat → Prop) → World → β → Prop} {u : β} (HS : HandSays UG OG LG NG HG) (hU : Thing U) (hs : Side (HG b nb) U X w h u) {k un e p fate : Int} {s : ByteArray} (hk : i64w k) (hu : i64w un) (he : i64w e) (hp : i64w p) (hd : s.size ≤ 1000000) (hl : h.n.l.used.length ≤ 100000) (hf : i64w fate)
    {xc xn pe xm xz xe : Int} {xd : ByteArray} {L : List (List Int)} (hx : h.heard (akN k un e p s) fate = ⟨xc, xn, xd, pe, L, xm, xz, xe⟩) :
    Calls Tryz.prog 9 #[.pointer (some ⟨b, 0, none⟩), .agg #[.int .i64 k, .int .i64 un, .int .i64 e, .int .i64 p, .int .i64 0, .int .i64 0, .string s, .int .i64 0, .slice none 0 0], .int .i64 fate] w fun e2 w' => ∃ (vo : Option Addr) (vc : Nat) (C : Nat → Prop),
      e2 = .returned (.tuple #[.agg #[.int .i64 xc, .int .i64 xn, .string xd, .int .i64 pe, .slice vo L.length vc, .int .i64 xm, .int .i64 xz, .int .i64 xe], .bool (decide (fate = 0))]) ∧ CG C w' (.slice vo L.length vc) L ∧ Side (HG b nb) U (fun k => X k ∨ C k) w' (h.asked (akN k un e p s) fate) u ∧ Kept X w w' := by
  have ho : AkOk (akN k un e p s) := akN_ok hk hu he hp hd
  refine (side_told (mk := heardT (h.heard (akN k un e p s) fate) (decide (fate = 0))) (x := h.heard (akN k un e p s) fate) (a' := h.asked (akN k un e p s) fate) (HS.thing b nb) hU hs (fun F hF hX => HS.ask b nb F w h (akN k un e p s) fate hF ho few_nil hd hl hf (fun W _ => CL.nil _ _))).mono ?_
  rintro e2 w' ⟨ao, cap, C, rfl, h1, h2, h3⟩
  rw [hx] at h1 ⊢
  exact ⟨ao, cap, C, rfl, h1, h2, h3⟩
/-- a question that brings chains, which lie in memory that is none of the hand's -/
theorem ho_brings (HS : HandSays UG OG LG NG HG) (hs : Solo (HG b nb) X w h) {a : Ak} {fate : Int} (ho : AkOk a) (hL : fewL a.L) (hd : a.data.size ≤ 1000000) (hl : h.n.l.used.length ≤ 100000) (hf : i64w fate) {C : Nat → Prop} (hC : CG C w (.slice a.ao a.L.length a.cap) a.L) (hX : ∀ k, C k → X k) :
    Calls Tryz.prog 9 #[.pointer (some ⟨b, 0, none⟩), askV a, .int .i64 fate] w fun e2 w' => ∃ (vo : Option Addr) (vc : Nat), e2 = .returned (heardT (h.heard a fate) (decide (fate = 0)) vo vc) ∧ Solo (HG b nb) X w' (h.asked a.plain fate) ∧ Kept X w w' := by
  refine (solo_told (mk := heardT (h.heard a fate) (decide (fate = 0))) (x := h.heard a fate) (a' := h.asked a.plain fate) (HS.thing b nb) hs (fun F hF hX2 => HS.ask b nb F w h a fate hF ho hL hd hl hf (fun W hW => cg_clT (hC.keep hW (fun k hk => hX2 k (hX k hk)))))).mono ?_
  rintro e2 w' ⟨ao, cap, C2, rfl, h1, h2, h3⟩
  exact ⟨ao, cap, rfl, h2.less (fun k hk => .inl hk), h3⟩
end
/-- a question less chains, not too great -/
structure SmQ (k : Ak) : Prop where
  kind : i64w k.kind
  unit : i64w k.unit
  epoch : i64w k.epoch
  page : i64w k.page
  data : k.data.size ≤ 1000000
/-- an answer that is not too great -/
structure FewX (x : An) : Prop where
  L : fewL x.L
  pe : i64w x.pe
  data : x.data.size ≤ 1000000
end Go.Proofs.YtchhmfdalghgcaaGreat
