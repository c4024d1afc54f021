/- What the document's own Trim makes of pages. Conditions: the object lies where the call was told; its pages are as the calls make them. -/
import Derived.Test.YtaodmdoagngdnaaPagD
namespace Go.Proofs.Ytaodmdoagngdnaa
open Go.RowKit
set_option maxRecDepth 20000
/-- the pages from an edge on -/
def fromP (l : List Pg) (m : Int) : List Pg := l.filter (fun x => decide (m ≤ x.at_))
theorem fromP_next {l : List Pg} {k : Nat} (hk : k < l.length) (m : Int) : fromP (l.take (k + 1)) m = if m ≤ l[k].at_ then fromP (l.take k) m ++ [l[k]] else fromP (l.take k) m := by
  unfold fromP
  rw [List.take_succ_eq_append_getElem hk, List.filter_append]
  by_cases h : m ≤ l[k].at_
  · rw [if_pos h]
    simp [h]
  · rw [if_neg h]
    simp [h]
theorem fromP_le (l : List Pg) (k : Nat) (m : Int) : (fromP (l.take k) m).length ≤ l.length := by
  unfold fromP
  have h1 := List.length_filter_le (fun x : Pg => decide (m ≤ x.at_)) (l.take k)
  have h2 : (l.take k).length ≤ l.length := by rw [List.length_take]; omega
  omega
set_option maxHeartbeats 4000000 in
theorem rtrim_any (G : Nat → Prop) (w : World) (b : Nat) (p : Ps) (a : Int) (h : RG G w b p) (hok : p.Ok) :
    Calls Try.prog 33 #[.pointer (some ⟨b, 0, none⟩), .int .i64 a] w fun e w' => e = .returned (.int .i64 (Ps.trimE a)) ∧ Left RG G w w' b (p.trim a) := by
  by_cases h0 : a < 0
  · have HE := Lib.hid (show Ps.trimE a = 1 from if_pos (.inl h0))
    have HP := Lib.hid (show p.trim a = p from if_neg (by rw [HE.out]; decide))
    have HS := Lib.hid (Left.same h 0)
    clear h hok
    go_enter Try.func33, Try.ntmps33
    go_wp2_with fail
    go_ret
    rw [HE.out, HP.out]
    exact ⟨rfl, HS.out⟩
  by_cases h1 : 4096 < a
  · have HE := Lib.hid (show Ps.trimE a = 1 from if_pos (.inr h1))
    have HP := Lib.hid (show p.trim a = p from if_neg (by rw [HE.out]; decide))
    have HS := Lib.hid (Left.same h 0)
    have h0' : 0 ≤ a := by omega
    clear h hok h0
    go_enter Try.func33, Try.ntmps33
    go_wp2_with fail
    go_ret
    rw [HE.out, HP.out]
    exact ⟨rfl, HS.out⟩
  have HE := Lib.hid (show Ps.trimE a = 0 from if_neg (by omega))
  have HPT := Lib.hid (show p.trim a = ⟨fromP (p.l.take p.l.length) (max p.edge a), p.room, max p.edge a⟩ from by
    unfold Ps.trim
    rw [if_pos HE.out, List.take_of_length_le (Nat.le_refl _)]
    rfl)
  obtain ⟨m, hm⟩ : ∃ m, (if p.edge < a then a else p.edge) = m := ⟨_, rfl⟩
  have hmx : max p.edge a = m := by rw [← hm]; split <;> omega
  rw [hmx] at HPT
  have h0' : 0 ≤ a := by omega
  have h1' : a ≤ 4096 := by omega
  obtain ⟨v, g1, g2, g3, g4, g5⟩ := h
  obtain ⟨ao, cap, rfl, hP, hcap, hn⟩ := g2.form
  obtain ⟨c0, c1, c2, f0, f1, f2⟩ := three_cells g1
  have hbl := g5 b g4
  have hl' : (p.l.length : Int) ≤ 4096 := by have := hok.small; omega
  have hg1 := three_set2 g1 (.int .i64 m)
  have HNE := Lib.hid (show ∀ k, (Value.slice ao p.l.length cap).ownBlock = some k → k ≠ b from fun k e => (g3 k e).2)
  have HR1 := Lib.hid (show RG G (w.setCell ⟨b, 2, none⟩ (.int .i64 m)) b ⟨p.l, p.room, m⟩ from ⟨_, hg1, g2.keep ((Kept.refl (fun k => k ≠ b) w).setCell (p := ⟨b, 2, none⟩) (fun h => h rfl) (.int .i64 m)) (fun k e => (g3 k e).2), g3, g4, fun k hk => by simpa [World.setCell] using g5 k hk⟩)
  have HK1 := Lib.hid (show Kept (fun k => ¬ G k) w (w.setCell ⟨b, 2, none⟩ (.int .i64 m)) from (Kept.refl _ w).setCell (p := ⟨b, 2, none⟩) (fun h => h g4) (.int .i64 m))
  have HS1 := Lib.hid (show (w.setCell ⟨b, 2, none⟩ (.int .i64 m)).heap.size = w.heap.size from by simp [World.setCell])
  have HFL := Lib.hid (fun k => fromP_le p.l k m)
  have HFN := Lib.hid (fun (k : Nat) (hk : k < p.l.length) => fromP_next hk m)
  clear hok h0 h1 g2 g3 g5 hP hmx g1 hg1
  go_enter Try.func33, Try.ntmps33
  go_wp2_with fail
  clear c0 c1 c2 f0 f1 f2
  generalize w.setCell ⟨b, 2, none⟩ (.int .i64 m) = w1 at *
  go_loopw [5, 6] (fun v x wr => ∃ (k : Nat), x = .int .i64 k ∧ k ≤ p.l.length ∧ Hid (OG wr w1.heap.size v (fromP (p.l.take k) m)) ∧ Hid (Below w1.heap.size w1 wr)) (fun _ x _ => p.l.length - (intOf x).toNat)
  case atStart => exact ⟨0, rfl, Nat.zero_le _, Lib.hid (OG.nil _ _), Lib.hid (Below.refl _ _)⟩
  case round =>
    obtain ⟨k, rfl, hk, HO, HB⟩ := hrel
    obtain ⟨v, g1, g2, _⟩ := HR1.out.below HB.out
    obtain ⟨ao2, cp2, hv2, hP2, hcap2, hn2⟩ := g2.form
    subst hv2
    have hbw : b < wr.heap.size := lt_of_block g1
    have HG1 := Lib.hid g1
    have HP2 := Lib.hid (show PgL wr ao2 p.l from hP2)
    obtain ⟨c0, c1, c2, f0, f1, f2⟩ := three_cells g1
    clear g1 g2 hP2
    by_cases hlt : k < p.l.length
    · obtain ⟨bk, off, hao, d0, d1, d2⟩ := HP2.out k hlt
      subst hao
      have k0 : (k : Int) < (p.l.length : Int) := by omega
      have HFK := Lib.hid (HFN.out k hlt)
      have HFB := Lib.hid (HFL.out k)
      by_cases hge : m ≤ p.l[k].at_
      · have q1 : decide (m ≤ p.l[k].at_) = true := decide_eq_true hge
        have HFK2 := Lib.hid (HFK.out.trans (if_pos hge))
        have HBQ0 := Lib.hid (fun q => below_drewN HB.out q)
        clear hge HFK
        generalize fromP (p.l.take k) m = D at *
        generalize p.l[k] = x at *
        go_wp2_with fail
        go_quiet (fail)
        have hb0 : Below wr.heap.size wr (wr.drewN nq) := below_drewN (Below.refl _ _) nq
        have gq := below_heap hb0 HG1.out
        have HOQ := Lib.hid (HO.out.below hb0)
        have HBQ := Lib.hid (HBQ0.out nq)
        have HDQ := Lib.hid (show (wr.drewN nq).cell? ⟨bk, off + k * 3, none⟩ = some (.int .i64 x.at_) ∧ (wr.drewN nq).cell? ⟨bk, off + k * 3 + 1, none⟩ = some (.int .i64 x.kind) ∧ (wr.drewN nq).cell? ⟨bk, off + k * 3 + 2, none⟩ = some (.string x.s) from ⟨d0, d1, d2⟩)
        clear c0 c1 c2 f0 f1 f2 d0 d1 d2 hb0 hbw
        generalize wr.drewN nq = wq at *
        obtain ⟨c0, c1, c2, _, _, _⟩ := three_cells gq
        obtain ⟨d0, d1, d2⟩ := HDQ.out
        have hbw : b < wq.heap.size := lt_of_block gq
        have HX := Lib.hid (PgL.made wq rfl x)
        go_wp2_with (refine wpList_app_pages (o := ⟨some 53, _, _, _, _, _⟩) rfl (.tmp 44) (.tmp 52) rfl (B := w1.heap.size) (v := u5) (D := D) rfl (HOQ.out.below ((Below.refl _ _).alloc (Nat.le_refl _) _)) (ao := some ⟨wq.heap.size, 0, none⟩) (cap := 1) (l := [x]) (m := 1) rfl rfl HX.out (fun e => by cases e) (Nat.le_refl _) (by have := HFB.out; simp; omega) (by have := HBQ.out.size; simp; omega) ?_; intro v2 w2 hO2 hg2 _; have HO2 := Lib.hid hO2; have HB3 := Lib.hid ((HBQ.out.alloc HBQ.out.size _).grown hg2 (by have := HBQ.out.size; simp; omega) (fun k e => (HOQ.out.lt k e).1)); clear hO2 hg2)
        go_roundw
        case rel => exact ⟨k + 1, by go_num, by omega, by rw [HFK2.out]; exact HO2, HB3⟩
        case measure => simp [intOf]; omega
      · have q1 : decide (m ≤ p.l[k].at_) = false := decide_eq_false hge
        have HFK2 := Lib.hid (HFK.out.trans (if_neg hge))
        clear hge HFK
        generalize fromP (p.l.take k) m = D at *
        generalize p.l[k] = x at *
        go_wp2_with fail
        go_quiet (fail)
        go_wp2_with fail
        go_roundw
        case rel => exact ⟨k + 1, by go_num, by omega, by rw [HFK2.out]; exact Lib.hid (HO.out.below (below_drewN (Below.refl _ _) _)), Lib.hid (below_drewN HB.out _)⟩
        case measure => simp [intOf]; omega
    · obtain rfl : k = p.l.length := by omega
      rw [List.take_of_length_le (Nat.le_refl _)] at HO HPT
      obtain ⟨a5, k5, hv5, _, _, _⟩ := HO.out.form
      subst hv5
      go_wp2_with fail
      go_ret
      rw [HE.out, HPT.out]
      obtain ⟨G', r1, r2, r3⟩ := left_store HR1.out HB.out HO.out
      exact ⟨rfl, G', r1, HK1.out.trans r2, fun k hk => by have := r3 k hk; rw [HS1.out] at this; exact this⟩
end Go.Proofs.Ytaodmdoagngdnaa
