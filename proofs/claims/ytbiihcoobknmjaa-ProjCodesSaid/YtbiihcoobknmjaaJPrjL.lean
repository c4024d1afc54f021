/- What the document's own Decode returns. Conditions: the text is no longer than 1000000 bytes. -/
import Derived.Test.YtbiihcoobknmjaaJPrjK
import Derived.Test.YtbiihcoobknmjaaGh
import Derived.Laws.ResultCell
set_option linter.unusedVariables false
namespace Go.Proofs.Ytbiihcoobknmjaa
open Go.RowKit
set_option maxRecDepth 20000

theorem results_prow {P : Program} {fn : Func} {p u : Tmp} {ty : TypeId} (h : fn.results = #[.cell p ty, .tmp u]) (tmps : Array Value) (w : World) (g : Nat) (t : TypeId) (cs : Array Value) (fr : Nat × Nat) (d : TypeDesc)
    (hp : tmps.getD p undef = .pointer (some ⟨g, 0, none⟩)) (hg : w.heap[g]? = some (.cells cs t fr))
    (hu : P.underlying ty = some d) (hd : (match d with | .struct _ | .array _ _ => true | _ => false) = true) (hi : (P.info? ty).map (·.size) = some cs.size) :
    (results fn tmps).run P w = .ok (.tuple #[.agg cs, tmps.getD u undef]) w := by
  rw [results_cell_tmp h, hp]
  simp [asAddr, Result.andThen, run_loadVar_row w g t ty cs fr d hg hu hd hi]
theorem proj_ret2 {fn : Func} {p u : Tmp} (h : fn.results = #[.cell p 24, .tmp u]) {a : Act} {w : World} {g : Nat} {x y : Value} {c : Int} {R : Ending → World → Prop}
    (hg : w.heap[g]? = some (.cells #[x, y] 24 (0, 0))) (hp : a.tmps.getD p undef = .pointer (some ⟨g, 0, none⟩)) (hx : a.tmps.getD u undef = .int .i64 c) (hd : a.defers = [])
    (hR : R (.returned (.tuple #[.agg #[x, y], .int .i64 c])) w) : bodyPost Try.prog fn R .ret a w := by
  have e := results_prow (P := Try.prog) h a.tmps w g 24 #[x, y] (0, 0) _ hp hg Try.underlying24 rfl (by kernel_rfl)
  rw [hx] at e
  exact bodyPost_ret e hd hR
theorem takeU_short (n : Nat) (o : Option ByteArray) (h : n < 256) : (takeU n o).1.length ≤ 255 := by rw [takeU_length]; omega
theorem takeC_short (n : Nat) (o : Option ByteArray) : ∀ c ∈ (takeC n o).1, c.length ≤ 255 := by
  induction n generalizing o with
  | zero => intro c hc; cases hc
  | succ n ih =>
    intro c hc
    rw [takeC_step] at hc
    rcases List.mem_cons.1 hc with rfl | hc
    · exact takeU_short _ _ (by have := numV_one o; omega)
    · exact ih _ c hc
/-- what lies below a block that was there stays -/
theorem below_kept {B : Nat} {w w' : World} (h : Below B w w') (hB : B ≤ w.heap.size) : Kept (fun k => k < B) w w' :=
  ⟨h.os, h.tape, h.output, h.size, fun k hk _ => h.block k hk⟩
/-- what is told of a text -/
def decE (s : ByteArray) : Int := if codeB s = true then openE s else 0
def decL (s : ByteArray) : List (List Int) := if codeB s = true then openC s else []
def decC (s : ByteArray) : Int := if codeB s = true then 0 else 11
/-- a projection that was told lies there -/
def Told (w : World) (bo : Option Addr) (cb : Nat) (L : List (List Int)) : Prop := CL w bo L ∧ (bo = none → cb = 0) ∧ L.length ≤ cb
set_option maxHeartbeats 8000000 in
theorem rdec_any (s : ByteArray) (hs : s.size ≤ 1000000) (w : World) :
    Calls Try.prog 23 #[.string s] w fun e w' => ∃ bo cb, e = .returned (.tuple #[.agg #[.int .i64 (decE s), .slice bo (decL s).length cb], .int .i64 (decC s)]) ∧ Told w' bo cb (decL s) ∧ Below w.heap.size w w' := by
  have hS : s.size ≤ 1099511627776 := by omega
  have V4 := numV_range (some s) 4
  have H1 := Lib.hid (show numO (some s) 4 = numO (some s) 4 from rfl)
  have HN := Lib.hid (numV_one (numO (some s) 4))
  have HEP := Lib.hid (show openE s = numV (some s) 4 from rfl)
  have HCH := Lib.hid (show openC s = (takeC (numV (numO (some s) 4) 1).toNat (numO (numO (some s) 4) 1)).1 ∧ openO s = (takeC (numV (numO (some s) 4) 1).toNat (numO (numO (some s) 4) 1)).2 from ⟨rfl, rfl⟩)
  go_enter Try.func23, Try.ntmps23
  go_wp2_with (first
    | (go_at_call 40; refine (refOpen_any s _).mono ?_; rintro e w1 ⟨rfl, hr1, hb1⟩; have HR1 := Lib.hid (show RKo w1 (w.heap.size + 1) s (some s) from ⟨0, false, by simpa using hr1, by show some (s.extract 0 s.size) = _; rw [ext_all]⟩); have HB1 := Lib.hid hb1; clear hr1 hb1)
    | (go_at_call 41; with_reducible refine (rNum_any w1 (w.heap.size + 1) s (some s) 4 HR1.out hS (by decide)).mono ?_; rintro e w2 ⟨rfl, hr2, hk2⟩; have HR2 := Lib.hid hr2; have HK2 := Lib.hid hk2; clear hr2 hk2))
  have hsz1 : w.heap.size + 1 < w1.heap.size := by
    obtain ⟨a, bad, h, _⟩ := HR1.out
    exact lt_of_block h.1
  have hsz2 : w.heap.size + 1 < w2.heap.size := Nat.lt_of_lt_of_le hsz1 HK2.out.size
  have HR3 := Lib.hid (HR2.out.keep (T := fun _ => True) ((Kept.refl _ w2).alloc (.cells #[.int .i64 (numV (some s) 4), .slice none 0 0] 24)) trivial)
  refine (rNum_any _ (w.heap.size + 1) s (numO (some s) 4) 1 HR3.out hS (by decide)).mono ?_
  rintro e w4 ⟨rfl, hr4, hk4⟩
  obtain ⟨N, hN⟩ := Int.eq_ofNat_of_zero_le HN.out.1
  have hN255 : N < 256 := by have := HN.out.2; omega
  rw [hN]
  rw [hN, Int.toNat_natCast] at HCH
  have hsz4 : w2.heap.size < w4.heap.size := by have := hk4.size; simp at this; omega
  have HB01 := Lib.hid (((Below.refl w.heap.size w).alloc (Nat.le_refl _) (.cells #[.int .i64 0, .slice none 0 0] 24)).trans (HB1.out.mono (by simp)))
  have HB02 := Lib.hid (HB01.out.trans (HK2.out.toBelow HB01.out.size (fun k h => by omega)))
  have HB04 := Lib.hid ((HB02.out.alloc HB02.out.size (.cells #[.int .i64 (numV (some s) 4), .slice none 0 0] 24)).trans (hk4.toBelow (by have := HB02.out.size; simp; omega) (fun k h => by omega)))
  have hRES : w4.heap[w.heap.size]? = some (.cells #[.int .i64 0, .slice none 0 0] 24 (0, 0)) := by
    refine hk4.heap (by omega) (((Kept.refl (fun _ => True) w2).alloc _).heap trivial (HK2.out.heap (by omega) ?_))
    exact below_heap HB1.out (heap_alloc_new w _)
  have HRES := Lib.hid hRES
  have HPB := Lib.hid (hk4.heap (by omega) (heap_alloc_new w2 (.cells #[.int .i64 (numV (some s) 4), .slice none 0 0] 24)))
  have HR4 := Lib.hid hr4
  clear hRES hr4 hk4 HR3 HR2 HK2 HR1 HB1 HB01 HB02 hN V4 H1 HN
  have HEP2 := Lib.hid HEP.out.symm
  generalize numV (some s) 4 = ep at *
  generalize numO (numO (some s) 4) 1 = o2 at *
  obtain rfl := HEP.out
  clear HEP HEP2
  go_wp2_with fail
  go_loopw [6] (fun n wr => ∃ (m j : Nat) (v : Value), n = .int .i64 m ∧ m + j = N ∧ Hid (RKo wr (w.heap.size + 1) s (takeC j o2).2) ∧ Hid (wr.heap[w2.heap.size]? = some (.cells #[.int .i64 (openE s), v] 24 (0, 0))) ∧ Hid (OC wr w4.heap.size v (takeC j o2).1) ∧ Hid (Kept (fun k => k < w4.heap.size ∧ k ≠ w.heap.size + 1 ∧ k ≠ w2.heap.size) w4 wr)) (fun n _ => (intOf n).toNat)
  case atStart => exact ⟨N, 0, _, rfl, rfl, HR4, HPB, Lib.hid (OC.nil _ _), Lib.hid (Kept.refl _ _)⟩
  case round =>
    obtain ⟨m, j, v, rfl, hmj, HR, HP, HO, HK⟩ := hrel
    have hszr : w4.heap.size ≤ wr.heap.size := HK.out.size
    clear HR4 HPB
    by_cases hm : 0 < m
    · obtain ⟨m', rfl⟩ : ∃ m', m = m' + 1 := ⟨m - 1, by omega⟩
      have p0 : (0 : Int) < ((m' + 1 : Nat) : Int) := by omega
      have HSN := Lib.hid (takeC_snoc j o2)
      have HE1 := Lib.hid (numV_one (takeC j o2).2)
      obtain ⟨K, hK⟩ := Int.eq_ofNat_of_zero_le HE1.out.1
      have hK255 : K < 256 := by have := HE1.out.2; omega
      rw [hK, Int.toNat_natCast] at HSN
      have HKK := Lib.hid hK
      have HCN := Lib.hid (takeC_length j o2)
      generalize (takeC j o2).2 = E at *
      generalize (takeC j o2).1 = C at *
      clear hK HE1
      go_wp2_with (go_at_call 41; refine (rNum_any wr (w.heap.size + 1) s E 1 HR.out hS (by decide)).mono ?_; rintro e w5 ⟨rfl, hr5, hk5⟩; rw [HKK.out]; have HR5 := Lib.hid hr5; have HK5 := Lib.hid hk5; clear hr5 hk5)
      have hsz5 : w4.heap.size ≤ w5.heap.size := Nat.le_trans hszr HK5.out.size
      go_loopw [7, 8] (fun l k wq => ∃ (m2 i : Nat), k = .int .i64 m2 ∧ m2 + i = K ∧ Hid (RKo wq (w.heap.size + 1) s (takeU i (numO E 1)).2) ∧ Hid (OI wq w5.heap.size l (takeU i (numO E 1)).1) ∧ Hid (Kept (fun k => k < w5.heap.size ∧ k ≠ w.heap.size + 1) w5 wq)) (fun _ k _ => (intOf k).toNat)
      case atStart => exact ⟨K, 0, rfl, rfl, HR5, Lib.hid (OI.nil _ _), Lib.hid (Kept.refl _ _)⟩
      case round =>
        obtain ⟨m2, i, rfl, hmi, HRQ, HOQ, HKQ⟩ := hrel
        have hszq : w5.heap.size ≤ wr.heap.size := HKQ.out.size
        clear HR5
        by_cases hm2 : 0 < m2
        · obtain ⟨m3, rfl⟩ : ∃ m3, m2 = m3 + 1 := ⟨m2 - 1, by omega⟩
          have p1 : (0 : Int) < ((m3 + 1 : Nat) : Int) := by omega
          have HSQ := Lib.hid (takeU_snoc i (numO E 1))
          have HUL := Lib.hid (takeU_length i (numO E 1))
          generalize (takeU i (numO E 1)).2 = F at *
          generalize (takeU i (numO E 1)).1 = l0 at *
          have HV := Lib.hid (numV_one F)
          go_wp2_with (first
            | (go_at_call 41; refine (rNum_any wr (w.heap.size + 1) s F 1 HRQ.out hS (by decide)).mono ?_; rintro e w6 ⟨rfl, hr6, hk6⟩; have HR6 := Lib.hid hr6; have HK6 := Lib.hid hk6; have hsz6 : w5.heap.size ≤ w6.heap.size := Nat.le_trans hszq hk6.size; have HO6 := Lib.hid (HOQ.out.keep hk6 (fun k h _ => by omega)); clear hr6 hk6; have hv := WalkArith.wf_i64 (n := numV F 1) ⟨by have := HV.out.1; omega, by have := HV.out.2; omega⟩; have HVW := Lib.hid hv; clear hv)
            | (refine wpList_app_ints (o := ⟨some 30, _, _, _, _, _⟩) rfl (.tmp 26) (.tmp 29) rfl (B := w5.heap.size) (v := u7) (D := l0) rfl (HO6.out.alloc _) (ao := some ⟨w6.heap.size, 0, none⟩) (cap := 1) (l := [numV F 1]) (m := 1) rfl rfl (NLI.made w6 _ HVW.out) (by rw [HUL.out]; simp; omega) (by simp; omega) ?_; intro v7 w7 hI hg _; have HO7 := Lib.hid hI; have HB7 := Lib.hid ((((Below.refl w5.heap.size w6).alloc hsz6 _).grown hg (by simp; omega) (fun k e => (HO6.out.1.lt k e).1))); clear hI hg))
          go_roundw
          case rel =>
            refine ⟨m3, i + 1, by go_num, by omega, ?_, ?_, ?_⟩
            · rw [HSQ.out]; exact Lib.hid (HR6.out.keep (below_kept HB7.out hsz6) (by omega))
            · rw [HSQ.out]; exact HO7
            · exact Lib.hid ((HKQ.out.trans (HK6.out.mono (fun k h => h.2))).trans ((below_kept HB7.out hsz6).mono (fun k h => h.1)))
          case measure => simp [intOf]
        · obtain rfl : i = K := by omega
          have p1 : (m2 : Int) ≤ 0 := by omega
          obtain ⟨a7, c7, rfl, hN7, hA7, hO7⟩ := HOQ.out.form
          have HN7 := Lib.hid hN7
          have HKW := Lib.hid (show Kept (fun k => k < w5.heap.size ∧ k ≠ w.heap.size + 1) w5 wr from HKQ.out)
          have HP5 := Lib.hid (HK5.out.heap (b := w2.heap.size) (by omega) HP.out)
          have HPW := Lib.hid (HKW.out.heap (b := w2.heap.size) ⟨by omega, by omega⟩ HP5.out)
          have HOW := Lib.hid ((HO.out.keep HK5.out (fun k h _ => by omega)).keep HKW.out (fun k h h2 => ⟨h2, by omega⟩))
          have HA7 := Lib.hid (show ∀ b, a7 = some b → w4.heap.size ≤ b.block ∧ b.block < wr.heap.size ∧ v.ownBlock ≠ some b.block from fun b e => by
            obtain ⟨h1, h2⟩ := hA7 b e
            refine ⟨by omega, h2, fun e2 => ?_⟩
            have := ((HO.out.keep HK5.out (fun k h _ => by omega)).lt _ e2).2
            omega)
          have HCL := Lib.hid (show C.length + 1 ≤ 1000000 ∧ w4.heap.size ≤ wr.heap.size from ⟨by have := HCN.out; omega, by omega⟩)
          obtain ⟨c0, c1, f0, f1⟩ := two_cells HPW.out
          have hszp : w2.heap.size < wr.heap.size := by omega
          clear hN7 hA7 hO7
          go_wp2_with (refine wpList_app_chain (o := ⟨some 35, _, _, _, _, _⟩) (w := wr) rfl (.tmp 32) (.tmp 34) rfl (B := w4.heap.size) (v := v) (L := C) rfl HOW.out (ai := a7) (ci := c7) (l := (takeU i (numO E 1)).1) rfl HN7.out HA7.out HCL.out.1 HCL.out.2 ?_; intro v8 w8 hO8 hb8; obtain ⟨b8, n8, cc8, hv8⟩ : ∃ b8 n8 cc8, v8 = .slice b8 n8 cc8 := (by obtain ⟨x, y, e, _⟩ := hO8.form; exact ⟨x, _, y, e⟩); subst hv8; have HO8 := Lib.hid hO8; have HB8 := Lib.hid hb8; have HP8 := Lib.hid ((below_kept hb8 (by omega)).heap (b := w2.heap.size) (by omega) HPW.out); obtain ⟨q0, q1, r0, r1⟩ := two_cells HP8.out; clear hO8 hb8)
          go_roundw
          case rel =>
            refine ⟨m', j + 1, .slice b8 n8 cc8, by go_num, by omega, ?_, ?_, ?_, ?_⟩
            · rw [HSN.out]
              exact Lib.hid ((HRQ.out.keep (below_kept HB8.out (by omega)) (by omega)).keep ((Kept.refl (fun k => k = w.heap.size + 1) w8).setCell (p := ⟨w2.heap.size, 1, none⟩) (by simp; omega) (.slice b8 n8 cc8)) rfl)
            · exact Lib.hid (two_set1 HP8.out (.slice b8 n8 cc8))
            · rw [HSN.out]
              exact Lib.hid (HO8.out.keep ((Kept.refl (fun k => w4.heap.size ≤ k) w8).setCell (p := ⟨w2.heap.size, 1, none⟩) (by simp; omega) (.slice b8 n8 cc8)) (fun k h _ => h))
            · exact Lib.hid ((((HK.out.trans (HK5.out.mono (fun k h => h.2.1))).trans (HKW.out.mono (fun k h => ⟨by omega, h.2.1⟩))).trans ((below_kept HB8.out (by omega)).mono (fun k h => h.1))).setCell (p := ⟨w2.heap.size, 1, none⟩) (by simp) (.slice b8 n8 cc8))
          case measure => simp [intOf]
    · obtain rfl : j = N := by omega
      have p0 : (m : Int) ≤ 0 := by omega
      obtain ⟨bo, cb, rfl, hC, hn0, hlc, hA⟩ := HO.out.form
      have HO2 := Lib.hid HO.out
      rw [← HCH.out.1] at HO HO2 hC hlc HP
      rw [← HCH.out.2] at HR
      have HLEN := Lib.hid (show (openC s).length ≤ 255 ∧ ∀ c ∈ openC s, c.length ≤ 255 from ⟨by rw [HCH.out.1, takeC_length]; omega, by rw [HCH.out.1]; exact takeC_short _ _⟩)
      have HCC := Lib.hid hC
      have CE := Lib.hid (refEnd_o wr (w.heap.size + 1) s _ HR.out)
      have CG := Lib.hid (fun q => rgood_any (openE s) bo cb (openC s) (wr.drewN q) (hC.below (below_drewN (Below.refl _ _) q)) HLEN.out)
      have HRS := Lib.hid (HK.out.heap (b := w.heap.size) ⟨by omega, by omega, by omega⟩ HRES.out)
      have HBW := Lib.hid (HB04.out.trans (HK.out.toBelow HB04.out.size (fun k h => ⟨by have := HB04.out.size; omega, by omega, by omega⟩)))
      have hszp : w2.heap.size < wr.heap.size := by omega
      have hszr0 : w.heap.size < wr.heap.size := by omega
      obtain ⟨c0, c1, f0, f1⟩ := two_cells HP.out
      obtain ⟨t0, t1, g0, g1⟩ := two_cells HRS.out
      have HCB := Lib.hid (show codeB s = (decide (ukE (openO s) = 0) && goodB (openE s) (openC s)) from rfl)
      clear hC hn0 hlc hA
      by_cases hu : ukE (openO s) = 0
      · have d1 : (ukE (openO s) != 0) = false := bne_eq_false_iff_eq.2 hu
        by_cases hg : goodB (openE s) (openC s) = true
        · have HX := Lib.hid (show decE s = openE s ∧ decL s = openC s ∧ decC s = 0 from by
            have h : codeB s = true := by rw [HCB.out, decide_eq_true hu, hg]; rfl
            exact ⟨if_pos h, if_pos h, if_pos h⟩)
          rw [hg] at CG
          clear hu hg
          generalize ukE (openO s) = x at *
          go_wp2_with (first | (go_at_call 42; refine CE.out.mono ?_; rintro e w8 ⟨rfl, q, rfl⟩) | (go_at_call 13; refine (CG.out q).mono ?_; rintro e w9 ⟨rfl, hb9⟩; have hB9 := Lib.hid hb9; have HR9 := Lib.hid (below_heap hb9 (((Kept.refl (fun _ => True) wr).drewN q).heap trivial HRS.out)); have HP9 := Lib.hid (below_heap hb9 (((Kept.refl (fun _ => True) wr).drewN q).heap trivial HP.out)); obtain ⟨x0, x1, y0, y1⟩ := two_cells HP9.out; obtain ⟨u0, u1, v0, v1⟩ := two_cells HR9.out; clear hb9))
          rw [HX.out.1, HX.out.2.1, HX.out.2.2]
          have hK9 := (((Kept.refl (fun k => k ≠ w.heap.size) wr).drewN q).below hB9.out)
          have hK := (hK9.setCell (p := ⟨w.heap.size, 0, none⟩) (by simp) (.int .i64 (openE s))).setCell (p := ⟨w.heap.size, 1, none⟩) (by simp) (.slice bo (openC s).length cb)
          obtain ⟨bo2, cb2, e2, h3, h4, h5, _⟩ := (HO2.out.keep hK (fun k h _ => by omega)).form
          cases e2
          exact proj_ret2 rfl (two_set1 (two_set0 HR9.out (.int .i64 (openE s))) (.slice bo (openC s).length cb)) rfl rfl rfl ⟨bo, cb, rfl, ⟨h3, h4, h5⟩, (((below_drewN HBW.out q).trans (hB9.out.mono (below_drewN HBW.out q).size)).setCell (Nat.le_refl _) _).setCell (Nat.le_refl _) _⟩
        · have HX := Lib.hid (show decE s = 0 ∧ decL s = [] ∧ decC s = 11 from by
            have h : ¬ codeB s = true := by rw [HCB.out, Bool.eq_false_iff.2 hg]; simp
            exact ⟨if_neg h, if_neg h, if_neg h⟩)
          rw [Bool.eq_false_iff.2 hg] at CG
          clear hu hg
          generalize ukE (openO s) = x at *
          go_wp2_with (first | (go_at_call 42; refine CE.out.mono ?_; rintro e w8 ⟨rfl, q, rfl⟩) | (go_at_call 13; refine (CG.out q).mono ?_; rintro e w9 ⟨rfl, hb9⟩; have hB9 := Lib.hid hb9; have HR9 := Lib.hid (below_heap hb9 (((Kept.refl (fun _ => True) wr).drewN q).heap trivial HRS.out)); have HP9 := Lib.hid (below_heap hb9 (((Kept.refl (fun _ => True) wr).drewN q).heap trivial HP.out)); obtain ⟨x0, x1, y0, y1⟩ := two_cells HP9.out; obtain ⟨u0, u1, v0, v1⟩ := two_cells HR9.out; clear hb9))
          rw [HX.out.1, HX.out.2.1, HX.out.2.2]
          exact proj_ret2 rfl (two_set1 (two_set0 HR9.out (.int .i64 0)) (.slice none 0 0)) rfl rfl rfl ⟨none, 0, rfl, ⟨CL.nil _ _, fun _ => rfl, Nat.le_refl _⟩, (((below_drewN HBW.out q).trans (hB9.out.mono (below_drewN HBW.out q).size)).setCell (Nat.le_refl _) _).setCell (Nat.le_refl _) _⟩
      · have HX := Lib.hid (show decE s = 0 ∧ decL s = [] ∧ decC s = 11 from by
          have h : ¬ codeB s = true := by rw [HCB.out, decide_eq_false hu]; simp
          exact ⟨if_neg h, if_neg h, if_neg h⟩)
        have d1 : (ukE (openO s) != 0) = true := bne_iff_ne.2 hu
        clear hu
        generalize ukE (openO s) = x at *
        go_wp2_with (go_at_call 42; refine CE.out.mono ?_; rintro e w8 ⟨rfl, q, rfl⟩)
        rw [HX.out.1, HX.out.2.1, HX.out.2.2]
        exact proj_ret2 rfl (two_set1 (two_set0 (((Kept.refl (fun _ => True) wr).drewN q).heap trivial HRS.out) (.int .i64 0)) (.slice none 0 0)) rfl rfl rfl ⟨none, 0, rfl, ⟨CL.nil _ _, fun _ => rfl, Nat.le_refl _⟩, ((below_drewN HBW.out q).setCell (Nat.le_refl _) _).setCell (Nat.le_refl _) _⟩
end Go.Proofs.Ytbiihcoobknmjaa
