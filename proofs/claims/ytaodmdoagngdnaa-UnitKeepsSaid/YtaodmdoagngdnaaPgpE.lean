/- What the program's own Trim makes of pages. Conditions: the object lies where the call was told; its pages are as the calls make them. -/
import Derived.Test.YtaodmdoagngdnaaPgpC
import Derived.StillTailTactics
import Derived.Maps.OwnSet
namespace Go.Proofs.Ytaodmdoagngdnaa
open Go.RowKit Go.Maps
set_option linter.unusedVariables false
set_option maxRecDepth 20000
theorem fromP_self {p : Ps} (h : p.Ok) {m : Int} (hm : m ≤ p.edge) : fromP p.l m = p.l := by
  unfold fromP
  rw [List.filter_eq_self]
  intro x hx
  have := (h.each x hx).1.1
  exact decide_eq_true (by omega)
theorem fromP_up (l : List Pg) (m : Int) : lessP (fromP l m) m = fromP l (m + 1) := by
  unfold lessP fromP
  rw [List.filter_filter]
  congr 1
  funext x
  by_cases h : m + 1 ≤ x.at_
  · simp [h, show m ≤ x.at_ by omega, show x.at_ ≠ m by omega]
  · by_cases h2 : x.at_ = m
    · simp [h2, show ¬ m + 1 ≤ m by omega]
    · simp [h, h2, show ¬ m ≤ x.at_ by omega]
/-- the object, between two rounds of Trim -/
def Trm (G : Nat → Prop) (w0 : World) (b mb : Nat) (p : Ps) (w : World) (m : Int) : Prop := w.heap[b]? = some (.cells #[.int .i64 p.room, .int .i64 m, .map (some mb)] 68 (0, 0)) ∧ Tp w mb (fromP p.l m) ∧ Kept (fun k => ¬ G k) w0 w
theorem Trm.drew {G : Nat → Prop} {w0 w : World} {b mb : Nat} {p : Ps} {m : Int} (h : Trm G w0 b mb p w m) : Trm G w0 b mb p w.drew m := ⟨h.1, h.2.1.keep rfl, h.2.2.drew⟩
theorem Trm.next {G : Nat → Prop} {w0 w w2 : World} {b mb n : Nat} {p : Ps} {m : Int} {D : DataW Unit} (h : Trm G w0 b mb p w m) (hne : mb ≠ b) (hb : G b) (hmb : G mb) (hM : Mp D (fromP p.l m)) (hm : (Lit.int .i64 m).wf = true)
    (hown : w2.ownsMap Try.prog 73 sheetR mb n (D.del (klA m))) (ht : w.mapTurned w2 mb) : Trm G w0 b mb p (w2.setCell ⟨b, 1, none⟩ (.int .i64 (m + 1))) (m + 1) := by
  obtain ⟨h1, h2, h3⟩ := h
  have hg := ht.grown
  have e1 := (hg.block b (lt_of_block h1) (fun e => hne (Option.some.inj e).symm)).trans h1
  refine ⟨three_set1 e1 _, ?_, (h3.grown hg (fun k e => by cases e; exact fun hn => hn hmb)).setCell (p := ⟨b, 1, none⟩) (fun hn => hn hb) _⟩
  have h4 := Tp.of hown (hM.del hm)
  rw [fromP_up] at h4
  exact h4.keep (Below.heap_setCell _ _ _ _ hne)
theorem Trm.done {G : Nat → Prop} {w0 w : World} {b mb : Nat} {p : Ps} {m : Int} (h : Trm G w0 b mb p w m) (hne : mb ≠ b) (hb : G b) (hmb : G mb) (hG : ∀ k, G k → k < w0.heap.size) : Left PGm G w0 w b ⟨fromP p.l m, p.room, m⟩ :=
  ⟨G, ⟨mb, h.1, h.2.1, hne, hb, hmb, fun k hk => Nat.lt_of_lt_of_le (hG k hk) h.2.2.size⟩, h.2.2, fun k hk => .inl hk⟩
set_option maxHeartbeats 8000000 in
theorem ptrim_any (G : Nat → Prop) (w : World) (b : Nat) (p : Ps) (a : Int) (h : PGm G w b p) (hok : p.Ok) (ha : -9223372036854775808 ≤ a ∧ a ≤ 9223372036854775807) :
    Calls Try.prog 48 #[.pointer (some ⟨b, 0, none⟩), .int .i64 a] w fun e w' => e = .returned (.int .i64 (Ps.trimE a)) ∧ Left PGm G w w' b (p.trim a) := by
  by_cases h0 : a < 0
  · have HE := Lib.hid (show Ps.trimE a = 1 from if_pos (.inl h0))
    have HP := Lib.hid (show p.trim a = p from if_neg (by rw [HE.out]; decide))
    have HS := Lib.hid (left_same h)
    clear h hok ha
    go_enter Try.func48, Try.ntmps48
    go_wp2_with fail
    go_ret
    rw [HE.out, HP.out]
    exact ⟨rfl, HS.out⟩
  have h0' : 0 ≤ a := by omega
  by_cases h1 : 4096 < a
  · have HE := Lib.hid (show Ps.trimE a = 1 from if_pos (.inr h1))
    have HP := Lib.hid (show p.trim a = p from if_neg (by rw [HE.out]; decide))
    have HS := Lib.hid (left_same h)
    clear h hok h0 ha
    go_enter Try.func48, Try.ntmps48
    go_wp2_with fail
    go_ret
    rw [HE.out, HP.out]
    exact ⟨rfl, HS.out⟩
  have h1' : a ≤ 4096 := by omega
  have HE := Lib.hid (show Ps.trimE a = 0 from if_neg (by omega))
  have HT := Lib.hid (show p.trim a = ⟨fromP p.l (max p.edge a), p.room, max p.edge a⟩ from by unfold Ps.trim; rw [if_pos HE.out]; rfl)
  obtain ⟨mb, g1, g2, g3, g4, g5, g6⟩ := h
  have HM0 := Lib.hid (show Trm G w b mb p w p.edge from ⟨g1, by rw [fromP_self hok (Int.le_refl _)]; exact g2, Kept.refl _ _⟩)
  have hed := hok.edge
  have HED := Lib.hid hed
  have HN := Lib.hid g3
  have HG1 := Lib.hid g4
  have HG2 := Lib.hid g5
  have HG3 := Lib.hid g6
  clear hok h0 h1 g1 g2 g3 g4 g5 g6 hed ha
  go_enter Try.func48, Try.ntmps48
  go_wp2_with fail
  go_loopw [] (fun wr => ∃ m : Int, p.edge ≤ m ∧ m ≤ max p.edge a ∧ Hid (Trm G w b mb p wr m)) (fun wr => (4096 - (intOf ((wr.cell? ⟨b, 1, none⟩).getD undef))).toNat)
  case atStart => exact ⟨p.edge, Int.le_refl _, by omega, HM0⟩
  case round =>
    obtain ⟨m, hm0, hm1, HM⟩ := hrel
    obtain ⟨c0, c1, c2, f0, f1, f2⟩ := three_cells HM.out.1
    have hed := HED.out
    by_cases hlt : m < a
    · have hm2 : 0 ≤ m := by omega
      have hm3 : m ≤ 4096 := by omega
      have hwf : (Lit.int .i64 m).wf = true := WalkArith.wf_i64 (by omega)
      have HMd := Lib.hid HM.out.drew
      obtain ⟨D, hD, hMp⟩ := HMd.out.2.1
      have HD := Lib.hid hD
      have HKEY := Lib.hid (pspot_key m hwf)
      have HNX := Lib.hid (fun w2 n => @Trm.next G w wr.drew w2 b mb n p m D HMd.out HN.out HG1.out HG2.out hMp hwf)
      have HBL := Lib.hid (lt_of_block HMd.out.1)
      clear hD hMp hwf
      go_wp2_with fail
      go_still_tail 9, (by kernel_rfl)
      change wpList _ _ _ _ _ wr.drew
      go_wp2_with (at_delete; refine wpList_delete_own _ rfl _ _ 66 73 rfl 91 pspot_law Try.underlying66 sheetR mb _ D rfl HD.out _ _ rfl HKEY.out ?_; intro w1 hown1 hturn1; have HO1 := Lib.hid hown1; have HT1 := Lib.hid hturn1; have HE1 := Lib.hid ((hturn1.grown.block b HBL.out (fun e => HN.out (Option.some.inj e).symm)).trans HMd.out.1); obtain ⟨y0, y1, y2, z0, z1, z2⟩ := three_cells HE1.out; clear hown1 hturn1 c0 c1 c2 f0 f1 f2)
      go_roundw
      case rel => exact ⟨m + 1, by omega, by omega, Lib.hid (HNX.out _ _ HO1.out HT1.out)⟩
      case measure =>
        rw [cell_of (three_set1 HE1.out (.int .i64 (m + 1))) 1, cell_of HM.out.1 1]
        simp [intOf]
        omega
    · have hmx : m = max p.edge a := by omega
      have hge : a ≤ m := by omega
      have HF := Lib.hid (HM.out.done HN.out HG1.out HG2.out HG3.out)
      clear hlt
      go_wp2_with fail
      go_ret
      rw [HE.out, HT.out, ← hmx]
      exact ⟨rfl, HF.out⟩
theorem ptrim_nil (a : Int) (w : World) : Calls Try.prog 48 #[.pointer none, .int .i64 a] w fun e w' => e = .returned (.int .i64 1) ∧ w = w' := by
  go_enter Try.func48, Try.ntmps48
  go_wp2_with fail
  go_ret
  exact ⟨rfl, rfl⟩
end Go.Proofs.Ytaodmdoagngdnaa
