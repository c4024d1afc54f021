/- The program's own take, where there is a k-th. Conditions: as each statement says. (Written by gen/genhmpf.py.) What nil fetches do; what the program's fetch asks a unit. Conditions: it lies where the call was told; the unit is one of its chain. (Written by gen/genfmp.py.) The program's nodes keep all that the laws of all nodes ask: units, sequencer, layout are the program's own. No conditions. A fetch beside another thing: what its calls return and leave. Conditions: the program's functions return what FetchSays says. -/
import Derived.Test.YthffjanidjjkdaaGreatG27a
import Derived.Deep.AppendSrc
import Derived.Deep.Upon
import Derived.Deep.CutRange
import Derived.Deep.CutBlock
import Derived.StillTailTactics
import Derived.Test.YthffjanidjjkdaaGreatG20a
import Derived.Test.YthffjanidjjkdaaGreatG13a
import Derived.Test.YthffjanidjjkdaaGreatG24a
set_option linter.unusedVariables false
namespace Go.Proofs.YthffjanidjjkdaaGreat
set_option linter.unusedVariables false
open Go.RowKit
set_option maxRecDepth 20000
/-- none is appended -/
theorem step_app_none {ops : Array Oper} {o : Oper} {a : Act} {w : World} {K' : Act → World → Prop} {Q : Exit → Act → World → Prop} {E : Prop} (hgd : o.guard = none) (s x : Operand)
    (ho : o.op = Op.call { callee := Callee.builtin Builtin.append, args := #[s, x], argTypes := #[81, 81] }) {ao : Option Addr} {n c : Nat} (hs : a.eval s = .slice ao n c) (hc : n ≤ c) {ad : Addr} {m c2 : Nat} (hx : a.eval x = .slice (some ad) m c2) (hm : m = 0)
    (hQ : K' (a.put o.dst (.slice ao n c)) w) : if Region.wanted o (yielded ops a.tmps) = true then Oper.wp Tryz.prog o a w K' Q else E := by
  have hw : Region.wanted o (yielded ops a.tmps) = true := by simp [Region.wanted, hgd]
  rw [if_pos hw]
  subst hm
  obtain ⟨i0, z, bytes, hi, hz0, hz1, hz2, hz3, hz4⟩ := ask_rows.info
  have hr := run_append_nothing (P := Tryz.prog) w 81 81 o.type 62 i0 ask_rows.under hi ao n c hc (.slice (some ad) 0 c2) (Src.ofSlice w ask_rows.under ad 0 c2 [] (by simp) (fun j u hj => by cases hj) (fun u hu => by cases hu))
  unfold Oper.wp
  simp [execOp, ho, resolve, invoke, builtin, hs, hx, hr, Result.andThen]
  exact hQ
section
variable {NG : Nat → (Nat → Prop) → World → Nd → Prop} {Z : List Ak} {b nb : Nat} {G : Nat → Prop} {w : World} {h : Hd}
/-- the same is made in both worlds -/
theorem Kept.both {S : Nat → Prop} {w w' : World} (h : Kept S w w') (hs : w'.heap.size = w.heap.size) (x : Obj) : Kept S (w.alloc x) (w'.alloc x) := by
  refine ⟨h.os, h.tape, h.output, by simp [hs], fun k hk hl => ?_⟩
  by_cases e : k = w.heap.size
  · subst e
    rw [heap_alloc_new w x]
    have := heap_alloc_new w' x
    rwa [hs] at this
  · have hl2 : k < w.heap.size := by simp at hl; omega
    rw [heap_alloc_old w x hl2, heap_alloc_old w' x (by omega)]
    exact h.block k hk hl2
/-- the result lies in a box that the call made -/
theorem leaves_box {α : Type} {T : (Nat → Prop) → World → α → Prop} {G : Nat → Prop} {w W2 w5 w6 : World} {s : α} (hT : Thing T) (hlt : ∀ k, G k → k < w.heap.size) (hb : Below w.heap.size w W2) (h : Leaves T G W2 w5 s) {q : Nat} (hq : w.heap.size ≤ q) (hq2 : q < W2.heap.size) (hk : Kept (fun k => k ≠ q) w5 w6) : Leaves T G w w6 s := by
  obtain ⟨G', t1, k1, s1⟩ := h
  have K5 : Kept (fun k => ¬ G k) w w5 := (Kept.ofBelow hb _).trans k1
  refine ⟨G', hT.keep t1 hk (fun k hg e => ?_), ⟨hk.os.trans K5.os, hk.tape.trans K5.tape, hk.output.trans K5.output, Nat.le_trans K5.size hk.size, fun k hg hl => ?_⟩, fun k hg => ?_⟩
  · rcases s1 k hg with h | h
    · have := hlt k h; omega
    · omega
  · rw [hk.block k (by omega) (Nat.lt_of_lt_of_le hl K5.size)]
    exact K5.block k hg hl
  · exact (s1 k hg).imp id (fun h => Nat.le_trans hb.size h)
set_option maxHeartbeats 6400000 in
theorem take_yes (hN : ∀ b, Thing (NG b)) (b nb : Nat) (G : Nat → Prop) (w : World) (h : Hd) (k : Nat) (hh : HMz NG [] b nb G w h) (hk : k < h.held.length) :
    Calls Tryz.prog 121 #[.pointer (some ⟨b, 0, none⟩), .int .i64 k] w fun e w' => ∃ a : Ak, e = .returned (.tuple #[askV a, .bool true]) ∧ a.plain = h.held[k] ∧ Leaves (HMz NG [a] b nb) G w w' ⟨h.n, lessK h.held k⟩ := by
  have hlt := (hmz_thing hN [] b nb).lt hh
  have hbs := hh.small
  have h64 := hh.1
  obtain ⟨v, l, hc, hR, hm, hok, hGv, hlay⟩ := hh.opened hN
  have hkl : k < l.length := by rw [← hm, List.length_map] at hk; exact hk
  have hl64 : l.length ≤ 64 := by rw [← hm, List.length_map] at h64; exact h64
  have epl : (l[k]).plain = h.held[k] := by simp only [← hm, List.getElem_map]
  have HLK := Lib.hid (show (lessK l k).map Ak.plain = lessK h.held k from by rw [plain_less, hm])
  obtain ⟨vo, vc, hv, _, hcap, hno, _, hblk⟩ := hR.form
  obtain ⟨va, rfl⟩ : ∃ va, vo = some va := by
    cases vo with
    | none => have := hno rfl; omega
    | some a => exact ⟨a, rfl⟩
  obtain ⟨eva, cur, hcur, hsz, htk⟩ := hblk va rfl
  obtain ⟨g, rfl⟩ : ∃ g, va = ⟨g, 0, none⟩ := ⟨va.block, eva⟩
  subst hv
  have hcur' : w.heap[g]? = some (.cells cur 62 (0, 0)) := hcur
  obtain ⟨hgG, hgb⟩ := hGv g rfl
  have hgl := hlt g hgG
  -- what lies in the hand, where the row stood over which the k-th is wiped
  have HLY := Lib.hid (fun (W w4 : World) (v4 : Value) (hW : Below w.heap.size w W) (hk4 : Kept (fun j => j ≠ g) W w4) (hR4 : HR w4 v4 (lessK l k)) (hv4 : ∀ j, v4.ownBlock = some j → some g = some j ∨ W.heap.size ≤ j) =>
    show Leaves (HMz NG [l[k]] b nb) G W (w4.setCell ⟨b, 1, none⟩ v4) ⟨h.n, lessK h.held k⟩ from by
      rw [← HLK.out]
      refine hlay W hW w4 v4 (lessK l k) [l[k]] (fun _ => False) (hk4.mono (fun j hj e => hj (by rw [e]; rfl))) hR4 hv4 (fun j hj => hj.elim) (by have := lessK_length hkl; omega) (fun x hx => ?_)
      rcases hx with hx | hx
      · exact .inl (lessK_mem hx)
      · rw [List.mem_singleton.1 hx]
        exact .inl (List.getElem_mem hkl))
  have HBX := Lib.hid (fun (W w5 w6 : World) (hb : Below w.heap.size w W) (hl : Leaves (HMz NG [l[k]] b nb) G W w5 ⟨h.n, lessK h.held k⟩) (hq : w.heap.size < W.heap.size) (hk6 : Kept (fun j => j ≠ w.heap.size) w5 w6) => leaves_box (hmz_thing hN [l[k]] b nb) hlt hb hl (Nat.le_refl _) hq hk6)
  obtain ⟨_, c1, _, _⟩ := two_cells hc
  have hx := fun j hj => row_at hcur' htk hkl j hj
  have HC := Lib.hid hc
  have HCU := Lib.hid hcur'
  have HHD := Lib.hid (fun cur2 he => over_head (cur2 := cur2) htk hkl he)
  have HTL := Lib.hid (fun W W' cur2 h1 h2 he => over_tail (w := W) (w' := W') (g := g) (cur2 := cur2) (k := k) (t := 62) h1 h2 htk he)
  have HYY := Lib.hid (fun W h1 j hj => row_at (w := W) (g := g) (t := 62) h1 htk hkl j hj)
  have HLT := Lib.hid (show (l.take k).length = k from by rw [List.length_take]; omega)
  have HLD := Lib.hid (show (l.drop (k + 1)).length = l.length - (k + 1) from List.length_drop)
  have HDL := Lib.hid (show l.take k ++ l.drop (k + 1) = lessK l k from rfl)
  have HPL := Lib.hid epl
  clear hh hc hR hm hok hGv hlay hcur hno hblk h64 eva epl hcur' htk HLK
  generalize l[k] = a at *
  obtain ⟨k0, un, ep, pg, sz, nn, s, pe, L, ao, cap⟩ := a
  have x0 := hx 0 (by omega)
  have x1 := hx 1 (by omega)
  have x2 := hx 2 (by omega)
  have x3 := hx 3 (by omega)
  have x4 := hx 4 (by omega)
  have x5 := hx 5 (by omega)
  have x6 := hx 6 (by omega)
  have x7 := hx 7 (by omega)
  have x8 := hx 8 (by omega)
  simp only [askC, Nat.add_zero, List.getElem?_cons_zero, List.getElem?_cons_succ] at x0 x1 x2 x3 x4 x5 x6 x7 x8
  have i0 : IntKind.i64.wrap ((k : Int) + 1) = (k : Int) + 1 := IntWalk.i64_in _ (by omega)
  have i9 : (0 : Int) ≤ (k : Int) + 1 := by omega
  have i1 : (0 : Int) ≤ (k : Int) := by omega
  have i2 : (k : Int) < (l.length : Int) := by omega
  have i3 : (k : Int) ≤ (vc : Int) := by omega
  have i4 : (l.length : Int) ≤ (vc : Int) := by omega
  have i5 : (k : Int) + 1 ≤ (l.length : Int) := by omega
  have i6 : (l.length : Int) ≤ 64 := by omega
  have i7 : l.length ≤ vc := by omega
  have f0 := free_of HCU.out (k * 9)
  have f1 := free_of HCU.out (k * 9 + 1)
  have f2 := free_of HCU.out (k * 9 + 2)
  have f3 := free_of HCU.out (k * 9 + 3)
  have f4 := free_of HCU.out (k * 9 + 4)
  have f5 := free_of HCU.out (k * 9 + 5)
  have f6 := free_of HCU.out (k * 9 + 6)
  have f7 := free_of HCU.out (k * 9 + 7)
  have f8 := free_of HCU.out (k * 9 + 8)
  clear hx
  go_enter Tryz.func121, Tryz.ntmps121
  go_wp2_with fail
  obtain ⟨cur3, o1, o2, o3⟩ := over_heap (w := w) (o := k * 9) HCU.out (.int .i64 0) (.int .i64 0) (.int .i64 0) (.int .i64 0) (.int .i64 0) (.int .i64 0) (.string ⟨#[]⟩) (.int .i64 0) (.slice none 0 0)
  have oK := over_kept w g (k * 9) (.int .i64 0) (.int .i64 0) (.int .i64 0) (.int .i64 0) (.int .i64 0) (.int .i64 0) (.string ⟨#[]⟩) (.int .i64 0) (.slice none 0 0)
  have oS : (World.setCell (World.setCell (World.setCell (World.setCell (World.setCell (World.setCell (World.setCell (World.setCell (World.setCell (w) ⟨g, k * 9, none⟩ (.int .i64 0)) ⟨g, k * 9 + 1, none⟩ (.int .i64 0)) ⟨g, k * 9 + 2, none⟩ (.int .i64 0)) ⟨g, k * 9 + 3, none⟩ (.int .i64 0)) ⟨g, k * 9 + 4, none⟩ (.int .i64 0)) ⟨g, k * 9 + 5, none⟩ (.int .i64 0)) ⟨g, k * 9 + 6, none⟩ (.string ⟨#[]⟩)) ⟨g, k * 9 + 7, none⟩ (.int .i64 0)) ⟨g, k * 9 + 8, none⟩ (.slice none 0 0)).heap.size = w.heap.size := by simp [World.setCell]
  generalize (World.setCell (World.setCell (World.setCell (World.setCell (World.setCell (World.setCell (World.setCell (World.setCell (World.setCell (w) ⟨g, k * 9, none⟩ (.int .i64 0)) ⟨g, k * 9 + 1, none⟩ (.int .i64 0)) ⟨g, k * 9 + 2, none⟩ (.int .i64 0)) ⟨g, k * 9 + 3, none⟩ (.int .i64 0)) ⟨g, k * 9 + 4, none⟩ (.int .i64 0)) ⟨g, k * 9 + 5, none⟩ (.int .i64 0)) ⟨g, k * 9 + 6, none⟩ (.string ⟨#[]⟩)) ⟨g, k * 9 + 7, none⟩ (.int .i64 0)) ⟨g, k * 9 + 8, none⟩ (.slice none 0 0)) = Wo at *
  obtain ⟨p1, p2⟩ := two_blocks Wo #[.int .i64 0, .int .i64 0, .int .i64 0, .int .i64 0, .int .i64 0, .int .i64 0, .string ⟨#[]⟩, .int .i64 0, .slice none 0 0] #[.int .i64 k0, .int .i64 un, .int .i64 ep, .int .i64 pg, .int .i64 sz, .int .i64 nn, .string s, .int .i64 pe, .slice ao L.length cap] 62 62
  rw [oS] at p1 p2
  have b3 : Below Wo.heap.size Wo ((Wo.alloc (.cells #[.int .i64 0, .int .i64 0, .int .i64 0, .int .i64 0, .int .i64 0, .int .i64 0, .string ⟨#[]⟩, .int .i64 0, .slice none 0 0] 62)).alloc (.cells #[.int .i64 k0, .int .i64 un, .int .i64 ep, .int .i64 pg, .int .i64 sz, .int .i64 nn, .string s, .int .i64 pe, .slice ao L.length cap] 62)) := ((Below.refl _ _).alloc (Nat.le_refl _) _).alloc (by simp) _
  have HB2 : Below w.heap.size w ((w.alloc (.cells #[.int .i64 0, .int .i64 0, .int .i64 0, .int .i64 0, .int .i64 0, .int .i64 0, .string ⟨#[]⟩, .int .i64 0, .slice none 0 0] 62)).alloc (.cells #[.int .i64 k0, .int .i64 un, .int .i64 ep, .int .i64 pg, .int .i64 sz, .int .i64 nn, .string s, .int .i64 pe, .slice ao L.length cap] 62)) := ((Below.refl _ _).alloc (Nat.le_refl _) _).alloc (by simp) _
  have HK3 := (oK.both oS (.cells #[.int .i64 0, .int .i64 0, .int .i64 0, .int .i64 0, .int .i64 0, .int .i64 0, .string ⟨#[]⟩, .int .i64 0, .slice none 0 0] 62)).both (by simp [oS]) (.cells #[.int .i64 k0, .int .i64 un, .int .i64 ep, .int .i64 pg, .int .i64 sz, .int .i64 nn, .string s, .int .i64 pe, .slice ao L.length cap] 62)
  have HG3 := below_heap b3 o1
  have HH3 := below_heap b3 (oK.heap (b := b) (fun e => hgb e.symm) HC.out)
  have s2 : ((w.alloc (.cells #[.int .i64 0, .int .i64 0, .int .i64 0, .int .i64 0, .int .i64 0, .int .i64 0, .string ⟨#[]⟩, .int .i64 0, .slice none 0 0] 62)).alloc (.cells #[.int .i64 k0, .int .i64 un, .int .i64 ep, .int .i64 pg, .int .i64 sz, .int .i64 nn, .string s, .int .i64 pe, .slice ao L.length cap] 62)).heap.size = w.heap.size + 2 := by simp
  have s3 : ((Wo.alloc (.cells #[.int .i64 0, .int .i64 0, .int .i64 0, .int .i64 0, .int .i64 0, .int .i64 0, .string ⟨#[]⟩, .int .i64 0, .slice none 0 0] 62)).alloc (.cells #[.int .i64 k0, .int .i64 un, .int .i64 ep, .int .i64 pg, .int .i64 sz, .int .i64 nn, .string s, .int .i64 pe, .slice ao L.length cap] 62)).heap.size = w.heap.size + 2 := by simp [oS]
  generalize hW2 : ((w.alloc (.cells #[.int .i64 0, .int .i64 0, .int .i64 0, .int .i64 0, .int .i64 0, .int .i64 0, .string ⟨#[]⟩, .int .i64 0, .slice none 0 0] 62)).alloc (.cells #[.int .i64 k0, .int .i64 un, .int .i64 ep, .int .i64 pg, .int .i64 sz, .int .i64 nn, .string s, .int .i64 pe, .slice ao L.length cap] 62)) = W2 at *
  generalize hW3 : ((Wo.alloc (.cells #[.int .i64 0, .int .i64 0, .int .i64 0, .int .i64 0, .int .i64 0, .int .i64 0, .string ⟨#[]⟩, .int .i64 0, .slice none 0 0] 62)).alloc (.cells #[.int .i64 k0, .int .i64 un, .int .i64 ep, .int .i64 pg, .int .i64 sz, .int .i64 nn, .string s, .int .i64 pe, .slice ao L.length cap] 62)) = W3 at *
  have HTAIL := Lib.hid (HTL.out w W3 cur3 HCU.out HG3 o3)
  have HROW := Lib.hid (show HR W3.drew (.slice (some ⟨g, 0, none⟩) k k) (l.take k) from .inr ⟨g, cur3, by rw [HLT.out], HG3, by rw [HLT.out, o2]; omega, by rw [HLT.out]; exact HHD.out cur3 o3⟩)
  have HP3 := Lib.hid p1
  have HQ3 := Lib.hid p2
  have HK4 := Lib.hid HK3
  have HB4 := Lib.hid HB2
  have HH4 := Lib.hid HH3
  have hb3 : b < W3.heap.size := by omega
  obtain ⟨_, d1, _, df⟩ := two_cells HH3
  clear hW2 hW3 p1 p2 b3 HK3 HB2 HG3 HH3 oK oS o1 o2 o3 x0 x1 x2 x3 x4 x5 x6 x7 x8 f0 f1 f2 f3 f4 f5 f6 f7 f8 c1 hlt HHD HTL HYY HC HCU hsz
  by_cases hlast : k + 1 = l.length
  · obtain ⟨qa, hqa⟩ : ∃ qa : Addr, (if vc = k + 1 then some (⟨g, 0, none⟩ : Addr) else some ⟨g, (k + 1) * 9, none⟩) = some qa := by
      by_cases e : vc = k + 1
      · exact ⟨_, if_pos e⟩
      · exact ⟨_, if_neg e⟩
    have hm0 := Lib.hid (show l.length - (k + 1) = 0 from by omega)
    have HL := Lib.hid (show Leaves (HMz NG [⟨k0, un, ep, pg, sz, nn, s, pe, L, ao, cap⟩] b nb) G W2 (W3.setCell ⟨b, 1, none⟩ (.slice (some ⟨g, 0, none⟩) k k)).drew ⟨h.n, lessK h.held k⟩ from HLY.out W2 W3.drew (.slice (some ⟨g, 0, none⟩) k k) HB4.out HK4.out.drew (by rw [← HDL.out, List.drop_eq_nil_of_le (by omega), List.append_nil]; exact HROW.out) (fun j e => .inl e))
    clear hlast
    have HP5 := Lib.hid ((((Kept.refl (fun j => j ≠ b) W3).setCell (p := ⟨b, 1, none⟩) (fun h => h rfl) (Value.slice (some ⟨g, 0, none⟩) k k)).drew).heap (b := w.heap.size) (by omega) HP3.out)
    have HQ5 := Lib.hid ((((Kept.refl (fun j => j ≠ b) W3).setCell (p := ⟨b, 1, none⟩) (fun h => h rfl) (Value.slice (some ⟨g, 0, none⟩) k k)).drew).heap (b := w.heap.size + 1) (by omega) HQ3.out)
    go_region_law (first | (refine step_app_none rfl (.tmp 44) (.tmp 51) rfl (ao := some ⟨g, 0, none⟩) (n := k) (c := k) rfl (Nat.le_refl _) (ad := qa) (m := l.length - (k + 1)) (c2 := vc - (k + 1)) rfl hm0.out ?_))
    all_goals
      generalize hW5 : World.drew (World.setCell _ _ _) = W5 at *
      clear hW5
      obtain ⟨⟨y0, y1, y2, y3, y4, y5, y6, y7, y8⟩, z0, z1, z2, z3, z4, z5, z6, z7, z8⟩ := nine_of HP5.out
      obtain ⟨⟨t0, t1, t2, t3, t4, t5, t6, t7, t8⟩, _⟩ := nine_of HQ5.out
      have l0 := lt_of_block HP5.out
      have l1 := lt_of_block HQ5.out
      go_wp2_with fail
      exact ask_ret2 (x := ⟨k0, un, ep, pg, sz, nn, s, pe, L, ao, cap⟩) (c := true) rfl (nine_put HP5.out (.int .i64 k0) (.int .i64 un) (.int .i64 ep) (.int .i64 pg) (.int .i64 sz) (.int .i64 nn) (.string s) (.int .i64 pe) (.slice ao L.length cap)) rfl rfl rfl ⟨_, rfl, HPL.out, HBX.out W2 W5 _ HB4.out HL.out (by omega) (nine_set W5 w.heap.size (.int .i64 k0) (.int .i64 un) (.int .i64 ep) (.int .i64 pg) (.int .i64 sz) (.int .i64 nn) (.string s) (.int .i64 pe) (.slice ao L.length cap))⟩
  · have hne : ¬ vc = k + 1 := by omega
    go_region_law (first
      | (refine step_app_held rfl (.tmp 44) (.tmp 51) rfl rfl HROW.out (N := l.drop (k + 1)) (m := l.length - (k + 1)) (ad := ⟨g, (k + 1) * 9, none⟩) (cap := vc - (k + 1)) HLD.out rfl (Row.keep HTAIL.out (Kept.refl (fun _ => True) W3).drew (fun _ _ => trivial)) (by omega) (by omega) (by rw [HLT.out]; omega) ?_; intro v2 w2 hI hg2 hv2; rw [HDL.out] at hI; obtain ⟨a2, n2, hw2, _, _, _, _, _, _⟩ := hI.form ask_rows; subst hw2; have HL := Lib.hid (HLY.out W2 w2 _ HB4.out (HK4.out.drew.grown hg2 (fun j e h => h (Option.some.inj e).symm)) (.inl hI) (fun j e => (hv2 j e).imp id (fun h => by have h5 : W3.heap.size ≤ j := h; omega))); have K24 : Kept (fun j => j ≠ g) W3 w2 := ((Kept.refl _ W3).drew).grown hg2 (fun j e h => h (Option.some.inj e).symm); have HB5 := Lib.hid (K24.heap (b := b) (fun e => hgb e.symm) HH4.out); have qc := (two_cells HB5.out).2.1; have qf := (two_cells HB5.out).2.2.2; have qr := lt_of_block HB5.out; have HP5 := Lib.hid (((Kept.refl (fun j => j ≠ b) w2).setCell (p := ⟨b, 1, none⟩) (fun h => h rfl) (Value.slice a2 (lessK l k).length n2)).heap (b := w.heap.size) (by omega) (K24.heap (b := w.heap.size) (by omega) HP3.out)); have HQ5 := Lib.hid (((Kept.refl (fun j => j ≠ b) w2).setCell (p := ⟨b, 1, none⟩) (fun h => h rfl) (Value.slice a2 (lessK l k).length n2)).heap (b := w.heap.size + 1) (by omega) (K24.heap (b := w.heap.size + 1) (by omega) HQ3.out)); clear K24; clear hI hg2 hv2))
    all_goals
      generalize hW5 : World.setCell _ _ _ = W5 at *
      clear hW5
      obtain ⟨⟨y0, y1, y2, y3, y4, y5, y6, y7, y8⟩, z0, z1, z2, z3, z4, z5, z6, z7, z8⟩ := nine_of HP5.out
      obtain ⟨⟨t0, t1, t2, t3, t4, t5, t6, t7, t8⟩, _⟩ := nine_of HQ5.out
      have l0 := lt_of_block HP5.out
      have l1 := lt_of_block HQ5.out
      go_wp2_with fail
      exact ask_ret2 (x := ⟨k0, un, ep, pg, sz, nn, s, pe, L, ao, cap⟩) (c := true) rfl (nine_put HP5.out (.int .i64 k0) (.int .i64 un) (.int .i64 ep) (.int .i64 pg) (.int .i64 sz) (.int .i64 nn) (.string s) (.int .i64 pe) (.slice ao L.length cap)) rfl rfl rfl ⟨_, rfl, HPL.out, HBX.out W2 W5 _ HB4.out HL.out (by omega) (nine_set W5 w.heap.size (.int .i64 k0) (.int .i64 un) (.int .i64 ep) (.int .i64 pg) (.int .i64 sz) (.int .i64 nn) (.string s) (.int .i64 pe) (.slice ao L.length cap))⟩
end
end Go.Proofs.YthffjanidjjkdaaGreat
namespace Go.Proofs.YthffjanidjjkdaaGreat
set_option linter.unusedVariables false
open Go.RowKit
set_option maxRecDepth 20000
theorem fp_nil_P (w : World) : Calls Tryz.prog 28 #[.pointer none] w fun e w' => ∃ (ep : Int) (ao : Option Addr) (cap : Nat), e = .returned (.agg #[.int .i64 ep, .slice ao 0 cap]) ∧ Below w.heap.size w w' := by
  have HR := heap_alloc_new w (.cells #[.int .i64 0, .slice none 0 0] 30)
  go_enter Tryz.func28, Tryz.ntmps28
  go_wp2_with fail
  exact proj_ret rfl HR rfl rfl ⟨0, none, 0, rfl, below_new _ _⟩
theorem fp_nil_ask (w : World) : Calls Tryz.prog 26 #[.pointer none] w fun e w' => e = .returned (.tuple #[askV zeroK, .bool false]) ∧ Below w.heap.size w w' := by
  have C := Lib.hid (fun w => fp_isOver_nil w)
  have HR := heap_alloc_new w (.cells #[.int .i64 0, .int .i64 0, .int .i64 0, .int .i64 0, .int .i64 0, .int .i64 0, .string ⟨#[]⟩, .int .i64 0, .slice none 0 0] 62)
  have HB := Lib.hid (below_new w (.cells #[.int .i64 0, .int .i64 0, .int .i64 0, .int .i64 0, .int .i64 0, .int .i64 0, .string ⟨#[]⟩, .int .i64 0, .slice none 0 0] 62))
  go_enter Tryz.func26, Tryz.ntmps26
  go_wp2_with (go_at_call 40; refine (C.out _).mono ?_; rintro e w1 ⟨rfl, rfl⟩)
  exact ask_ret2 (x := zeroK) rfl HR rfl rfl rfl ⟨rfl, HB.out⟩
theorem fp_nil_hear (x : An) (ao : Option Addr) (cap : Nat) (c : Bool) (w : World) : Calls Tryz.prog 25 #[.pointer none, ansV x ao cap, .bool c] w fun e w' => e = .returned (.tuple #[]) ∧ Below w.heap.size w w' := by
  have C := Lib.hid (fun w => fp_isOver_nil w)
  obtain ⟨xc, xn, xd, xe, xL, xm, xs, xp⟩ := x
  show Calls _ _ #[.pointer none, .agg #[.int .i64 xc, .int .i64 xn, .string xd, .int .i64 xe, .slice ao xL.length cap, .int .i64 xm, .int .i64 xs, .int .i64 xp], .bool c] w _
  have HB := Lib.hid (below_new w (.cells #[.int .i64 xc, .int .i64 xn, .string xd, .int .i64 xe, .slice ao xL.length cap, .int .i64 xm, .int .i64 xs, .int .i64 xp] 58))
  cases c
  all_goals
    go_enter Tryz.func25, Tryz.ntmps25
    go_wp2_with (go_at_call 40; refine (C.out _).mono ?_; rintro e w1 ⟨rfl, rfl⟩)
    exact bodyPost_ret (results_none rfl _ _ _) rfl ⟨rfl, HB.out⟩
theorem fp_nil_over (w : World) : Calls Tryz.prog 27 #[.pointer none] w fun e w' => e = .returned (.tuple #[.int .i64 0, .string ⟨#[]⟩, .int .i64 1, .bool true]) ∧ Below w.heap.size w w' := by
  go_enter Tryz.func27, Tryz.ntmps27
  go_wp2_with fail
  (try simp only [Exit.inBlock, Exit.then])
  refine bodyPost_ret (results_tmp4 rfl _ _ _) rfl ?_
  exact ⟨rfl, Below.refl _ _⟩
theorem pageF_keep {W : World} {b : Nat} {t : TypeId} {v0 v1 v2 v3 v4 v5 v6 v7 v8 v9 : Value} (h : W.heap[b]? = some (.cells #[v0, v1, v2, v3, v4, v5, v6, v7, v8, v9] t (0, 0))) :
    W.cell? ⟨b, 0, none⟩ = some v0 ∧ W.cell? ⟨b, 1, none⟩ = some v1 ∧ W.cell? ⟨b, 2, none⟩ = some v2 := ⟨cell_of h 0, cell_of h 1, cell_of h 2⟩
set_option maxHeartbeats 2000000 in
theorem fp_page (b : Nat) (G : Nat → Prop) (w : World) (q : Qf) (kind : Int) (i : Nat) (h : FQ b G w q) (hf : fewL q.L) (ho : ofB q.ep q.L q.addr = true) (hu : q.unit = (i : Int)) (hi : i < (chainR q.ep q.L q.addr).length) :
    Calls Tryz.prog 44 #[ptrP b, .int .i64 kind] w fun e w' =>
      e = .returned (.agg #[.int .i64 kind, .int .i64 ((chainR q.ep q.L q.addr).getD i 0), .int .i64 q.ep, .int .i64 (ofP q.ep q.L q.addr), .int .i64 0, .int .i64 0, .string ⟨#[]⟩, .int .i64 0, .slice none 0 0]) ∧ Below w.heap.size w w' := by
  obtain ⟨hg, ha⟩ := ofB_iff.1 ho
  obtain ⟨n1, n4⟩ := good_len hg
  obtain ⟨r1, _, _⟩ := of_range (n := q.L.length) ⟨by omega, by omega⟩ ha
  obtain ⟨k, hk⟩ := Int.eq_ofNat_of_zero_le r1.1
  have hkl : k < q.L.length := by omega
  have hp : ofP q.ep q.L q.addr = q.addr / (q.L.length : Int) := by unfold ofP; rw [if_pos ho]
  rw [chainR_yes ho hkl hk] at hi ⊢
  rw [hp, show q.L[k].getD i 0 = q.L[k][i] from by simp [hi]]
  obtain ⟨ao, cap, h1, hc, _⟩ := h.open
  have HB := Lib.hid (below_new w (.cells #[.int .i64 0, .int .i64 0, .int .i64 0, .int .i64 0, .int .i64 0, .int .i64 0, .string ⟨#[]⟩, .int .i64 0, .slice none 0 0] 62))
  have HZ := Lib.hid (heap_alloc_new w (.cells #[.int .i64 0, .int .i64 0, .int .i64 0, .int .i64 0, .int .i64 0, .int .i64 0, .string ⟨#[]⟩, .int .i64 0, .slice none 0 0] 62))
  have CO := Lib.hid (fun W (hC : CL W ao q.L) => pOf_any q.ep ao cap q.L q.addr W hC hf)
  rw [ofV_is ho, hk] at CO
  have H1 := Lib.hid (below_heap HB.out h1)
  have HC := Lib.hid (hc.below HB.out)
  rw [hu] at H1
  have k0 : (k : Int) < (q.L.length : Int) := by omega
  have i0 : (i : Int) < (q.L[k].length : Int) := by omega
  clear h h1 hc hg ha ho hf hp n1 n4 r1 hk
  generalize q.addr / (q.L.length : Int) = pg at *
  unfold ptrP
  go_enter Tryz.func44, Tryz.ntmps44
  go_wp2_with fail
  generalize w.alloc _ = w1 at *
  have HK := Lib.hid (fun W (hb : Below w1.heap.size w1 W) => And.intro (HC.out.below hb) (below_heap hb H1.out))
  have hs1 : w.heap.size < w1.heap.size := lt_of_block HZ.out
  obtain ⟨⟨c0, c1, c2, c3, c4, c5, c6, c7, c8, c9⟩, _⟩ := ten_of H1.out
  go_region_held3 (fun W => W.cell? ⟨b, 0, none⟩ = some (.int .i64 q.ep) ∧ W.cell? ⟨b, 1, none⟩ = some (.slice ao q.L.length cap) ∧ W.cell? ⟨b, 2, none⟩ = some (.int .i64 q.addr))
    (first | exact ⟨c0, c1, c2⟩ | assumption | exact pageF_keep H2.out | exact pageF_keep (HK.out _ ((HB2.out.setCell (by simp) _).setCell (by simp) _)).2 | exact pageF_keep (HK.out _ (HB2.out.alloc HB2.out.size _)).2 | exact pageF_keep (HK.out _ (below_new w1 _).drew).2 | exact pageF_keep (HK.out _ (below_new w1 _)).2 | exact pageF_keep (HK.out _ (Below.refl _ w1).drew).2)
    (first | (go_at_call 46; refine (CO.out _ (HK.out _ (by first | exact (Below.refl _ _).drew | exact (below_new _ _).drew | exact below_new _ _)).1).mono ?_; rintro e w2 ⟨rfl, hb2⟩; have HB2 := Lib.hid (below_on (w1 := w1) hb2 (by first | exact (Below.refl _ _).drew | exact (below_new _ _).drew | exact below_new _ _)); have H2 := Lib.hid (HK.out _ HB2.out).2; first | (have HP := Lib.hid (show w2.heap[w1.heap.size]? = some (.cells #[.int .i64 0, .int .i64 0] 39 (0, 0)) from below_heap hb2 (heap_alloc_new w1 (.cells #[.int .i64 0, .int .i64 0] 39))); obtain ⟨p0, p1, g0, g1⟩ := two_cells HP.out; have hpl := lt_of_block HP.out) | skip))
  · have HB3 := Lib.hid (HB2.out.alloc HB2.out.size (.cells #[.int .i64 k, .int .i64 pg] 39))
    have HP3 := Lib.hid (heap_alloc_new w2 (.cells #[.int .i64 k, .int .i64 pg] 39))
    generalize w2.alloc _ = w3 at *
    obtain ⟨bk, off, ai, ci, hao, hrow, hnum⟩ := (HK.out _ HB3.out).1 k hkl
    obtain ⟨bn, on, hai, hnc⟩ := hnum.at i hi
    subst hao hai
    obtain ⟨⟨d0, d1, d2, d3, d4, d5, d6, d7, d8, d9⟩, _⟩ := ten_of (HK.out _ HB3.out).2
    obtain ⟨e0, e1, _⟩ := two_cells HP3.out
    have HZ3 := Lib.hid (show w3.drew.heap[w.heap.size]? = _ from below_heap HB3.out HZ.out)
    obtain ⟨_, z0, z1, z2, z3, z4, z5, z6, z7, z8⟩ := nine_of (show w3.heap[w.heap.size]? = _ from HZ3.out)
    have hb3 := lt_of_block (HK.out _ HB3.out).2
    have hz3 : w.heap.size < w3.heap.size := lt_of_block HZ3.out
    clear c0 c1 c2 c3 c4 c5 c6 c7 c8 c9 hnum
    go_wp2_with fail
    go_still_tail 24, (by kernel_rfl)
    change wpList _ _ _ _ _ w3.drew
    go_wp2_with fail
    have HN := nine_put (show w3.heap[w.heap.size]? = _ from HZ3.out) (.int .i64 kind) (.int .i64 q.L[k][i]) (.int .i64 q.ep) (.int .i64 pg) (.int .i64 0) (.int .i64 0) (.string ⟨#[]⟩) (.int .i64 0) (.slice none 0 0)
    rw [← heap_drew] at HN
    have HF := Lib.hid (((((((((((HB.out.trans (HB3.out.mono HB.out.size)).setCell (p := ⟨w.heap.size, 0, none⟩) (Nat.le_refl _) (.int .i64 kind)).setCell (p := ⟨w.heap.size, 1, none⟩) (Nat.le_refl _) (.int .i64 q.L[k][i])).setCell (p := ⟨w.heap.size, 2, none⟩) (Nat.le_refl _) (.int .i64 q.ep)).setCell (p := ⟨w.heap.size, 3, none⟩) (Nat.le_refl _) (.int .i64 pg)).setCell (p := ⟨w.heap.size, 4, none⟩) (Nat.le_refl _) (.int .i64 0)).setCell (p := ⟨w.heap.size, 5, none⟩) (Nat.le_refl _) (.int .i64 0)).setCell (p := ⟨w.heap.size, 6, none⟩) (Nat.le_refl _) (.string ⟨#[]⟩)).setCell (p := ⟨w.heap.size, 7, none⟩) (Nat.le_refl _) (.int .i64 0)).setCell (p := ⟨w.heap.size, 8, none⟩) (Nat.le_refl _) (.slice none 0 0)).drew)
    revert HN HF
    generalize World.drew _ = wf
    intro HN HF
    exact ask_ret (x := ⟨kind, q.L[k][i], q.ep, pg, 0, 0, ⟨#[]⟩, 0, [], none, 0⟩) rfl HN rfl rfl ⟨rfl, HF.out⟩
  · have HB3 := Lib.hid ((HB2.out.setCell (p := ⟨w1.heap.size, 0, none⟩) (Nat.le_refl _) (.int .i64 k)).setCell (p := ⟨w1.heap.size, 1, none⟩) (Nat.le_refl _) (.int .i64 pg))
    have HP3 := Lib.hid (two_set1 (two_set0 HP.out (.int .i64 k)) (.int .i64 pg))
    clear p0 p1 g0 g1
    generalize (w2.setCell _ _).setCell _ _ = w3 at *
    obtain ⟨bk, off, ai, ci, hao, hrow, hnum⟩ := (HK.out _ HB3.out).1 k hkl
    obtain ⟨bn, on, hai, hnc⟩ := hnum.at i hi
    subst hao hai
    obtain ⟨⟨d0, d1, d2, d3, d4, d5, d6, d7, d8, d9⟩, _⟩ := ten_of (HK.out _ HB3.out).2
    obtain ⟨e0, e1, _⟩ := two_cells HP3.out
    have HZ3 := Lib.hid (show w3.drew.heap[w.heap.size]? = _ from below_heap HB3.out HZ.out)
    obtain ⟨_, z0, z1, z2, z3, z4, z5, z6, z7, z8⟩ := nine_of (show w3.heap[w.heap.size]? = _ from HZ3.out)
    have hb3 := lt_of_block (HK.out _ HB3.out).2
    have hz3 : w.heap.size < w3.heap.size := lt_of_block HZ3.out
    clear c0 c1 c2 c3 c4 c5 c6 c7 c8 c9 hnum
    go_wp2_with fail
    go_still_tail 24, (by kernel_rfl)
    change wpList _ _ _ _ _ w3.drew
    go_wp2_with fail
    have HN := nine_put (show w3.heap[w.heap.size]? = _ from HZ3.out) (.int .i64 kind) (.int .i64 q.L[k][i]) (.int .i64 q.ep) (.int .i64 pg) (.int .i64 0) (.int .i64 0) (.string ⟨#[]⟩) (.int .i64 0) (.slice none 0 0)
    rw [← heap_drew] at HN
    have HF := Lib.hid (((((((((((HB.out.trans (HB3.out.mono HB.out.size)).setCell (p := ⟨w.heap.size, 0, none⟩) (Nat.le_refl _) (.int .i64 kind)).setCell (p := ⟨w.heap.size, 1, none⟩) (Nat.le_refl _) (.int .i64 q.L[k][i])).setCell (p := ⟨w.heap.size, 2, none⟩) (Nat.le_refl _) (.int .i64 q.ep)).setCell (p := ⟨w.heap.size, 3, none⟩) (Nat.le_refl _) (.int .i64 pg)).setCell (p := ⟨w.heap.size, 4, none⟩) (Nat.le_refl _) (.int .i64 0)).setCell (p := ⟨w.heap.size, 5, none⟩) (Nat.le_refl _) (.int .i64 0)).setCell (p := ⟨w.heap.size, 6, none⟩) (Nat.le_refl _) (.string ⟨#[]⟩)).setCell (p := ⟨w.heap.size, 7, none⟩) (Nat.le_refl _) (.int .i64 0)).setCell (p := ⟨w.heap.size, 8, none⟩) (Nat.le_refl _) (.slice none 0 0)).drew)
    revert HN HF
    generalize World.drew _ = wf
    intro HN HF
    exact ask_ret (x := ⟨kind, q.L[k][i], q.ep, pg, 0, 0, ⟨#[]⟩, 0, [], none, 0⟩) rfl HN rfl rfl ⟨rfl, HF.out⟩
end Go.Proofs.YthffjanidjjkdaaGreat
namespace Go.Proofs.YthffjanidjjkdaaGreat
set_option linter.unusedVariables false
open Go.RowKit
theorem rpcSays : RpcSays UM OM LM (RM UM OM LM) := rpcSays_of ⟨unitSays, orderSays, laySays⟩ (fun w a h => do_nil w a h)
end Go.Proofs.YthffjanidjjkdaaGreat
namespace Go.Proofs.YthffjanidjjkdaaGreat
set_option linter.unusedVariables false
open Go.RowKit
set_option maxRecDepth 20000
section
variable {FG : Nat → (Nat → Prop) → World → Fe → Prop} {α : Type} {T : (Nat → Prop) → World → α → Prop} {X : Nat → Prop} {w w' : World} {bf : Nat} {f : Fe} {t : α}
theorem sf_new (FS : FetchSays FG) (hT : Thing T) (hs : Solo T X w t) {ep : Int} {ao : Option Addr} {cap : Nat} {L : List (List Int)} {addr : Int} {fill : Bool} (hC : CL w ao L) (hf : fewL L) (hn : ao = none → cap = 0) (hc : L.length ≤ cap) (he : i64w ep) (hr : i64w addr) :
    Calls Tryz.prog 29 #[.agg #[.int .i64 ep, .slice ao L.length cap], .int .i64 addr, .bool fill] w fun e w' => ∃ bf : Nat, e = .returned (.pointer (some ⟨bf, 0, none⟩)) ∧ Side T (FG bf) X w' t (newFe ep L addr fill) ∧ Below w.heap.size w w' := by
  refine (FS.new ep ao cap L addr fill w hC hf hn hc he hr).mono ?_
  rintro e w' ⟨bf, G, h1, h2, h3, h4⟩
  exact ⟨bf, h1, Side.made hT hs h4 h2 h3, h4⟩
theorem sf_ask (FS : FetchSays FG) (hT : Thing T) (hs : Side T (FG bf) X w t f) :
    Calls Tryz.prog 26 #[.pointer (some ⟨bf, 0, none⟩)] w fun e w' => ∃ (kd un ep pg : Int) (s : ByteArray), f.ask = akN kd un ep pg s ∧ e = .returned (.tuple #[.agg #[.int .i64 kd, .int .i64 un, .int .i64 ep, .int .i64 pg, .int .i64 0, .int .i64 0, .string s, .int .i64 0, .slice none 0 0], .bool f.asks]) ∧ Side T (FG bf) X w' t f ∧ Kept X w w' := by
  refine (side_right (R := fun e => e = .returned (.tuple #[askV f.ask, .bool f.asks])) hT (FS.thing bf) hs (fun G hG => FS.ask bf G w f hG)).mono ?_
  rintro e w' ⟨he, h1, h2⟩
  exact ⟨_, _, _, _, _, ask_akF f, by rw [he, ask_akF f]; rfl, h1, h2⟩
theorem sf_hear (FS : FetchSays FG) (hT : Thing T) (hs : Side T (FG bf) X w t f) {xc xn xm xz xe : Int} {xd : ByteArray} {vo : Option Addr} {vc : Nat} {c : Bool} (hd : xd.size ≤ 1000000) :
    Calls Tryz.prog 25 #[.pointer (some ⟨bf, 0, none⟩), .agg #[.int .i64 xc, .int .i64 xn, .string xd, .int .i64 0, .slice vo 0 vc, .int .i64 xm, .int .i64 xz, .int .i64 xe], .bool c] w fun e w' => e = .returned (.tuple #[]) ∧ Side T (FG bf) X w' t (f.hear ⟨xc, xn, xd, 0, [], xm, xz, xe⟩ c) ∧ Kept X w w' :=
  side_right (R := fun e => e = .returned (.tuple #[])) hT (FS.thing bf) hs (fun G hG => FS.hear bf G w f ⟨xc, xn, xd, 0, [], xm, xz, xe⟩ vo vc c hG few_nil (i64w_small (x := 0) (by omega)) hd (fun W _ => CL.nil _ _))
theorem sf_over (FS : FetchSays FG) (hT : Thing T) (hs : Side T (FG bf) X w t f) :
    Calls Tryz.prog 27 #[.pointer (some ⟨bf, 0, none⟩)] w fun e w' => e = .returned (.tuple #[.int .i64 f.overK, .string f.overS, .int .i64 f.overE, .bool f.overB]) ∧ Side T (FG bf) X w' t f ∧ Below w.heap.size w w' := by
  obtain ⟨_, F, G, _, hG, _⟩ := id hs
  exact (FS.over bf G w f hG).mono fun e w' ⟨he, hb⟩ => ⟨he, hs.below hT (FS.thing bf) hb, hb⟩
end
end Go.Proofs.YthffjanidjjkdaaGreat
